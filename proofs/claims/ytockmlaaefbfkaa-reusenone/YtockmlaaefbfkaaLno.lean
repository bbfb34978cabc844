import Derived.Test.YtockmlaaefbfkaaRsa
namespace Go.Proofs.Ytockmlaaefbfkaa
open Go.RowKit Go.Maps

theorem kp_mem {A D I o : Int} {b : ByteArray} {x : Lf} {y : Int × St} (h : y ∈ kp1 A o (b, x) ++ kp2 A D I o (b, x)) : y.2.2 = x := by
  rcases List.mem_append.1 h with h | h
  · unfold kp1 at h
    split at h
    · cases List.mem_singleton.1 h; rfl
    · cases h
  · unfold kp2 at h
    split at h
    · cases List.mem_singleton.1 h; rfl
    · cases h
theorem sts_mem {A D I : Int} : ∀ (l : List Lf) (b : ByteArray) (o : Int) (y : Int × St), y ∈ sts A D I b o l → y.2.2 ∈ l
  | [], _, _, _, h => by cases h
  | x :: r, b, o, y, h => by
    simp only [sts] at h
    rcases List.mem_append.1 h with h | h
    · rw [kp_mem h]; exact List.mem_cons_self ..
    · exact List.mem_cons_of_mem _ (sts_mem r _ _ y h)
theorem stz_mem {n A D I : Int} {l : List Lf} {y : Int × St} (h : y ∈ stz n A D I l) : y.2.2 ∈ l ∧ rgt n l = true := by
  unfold stz at h
  split at h
  · rename_i h1; exact ⟨sts_mem l _ _ y h, h1⟩
  · cases h
theorem lst_mem {S : List (Int × St)} {k : Int} {s : St} (h : s ∈ lst S k) : (k, s) ∈ S := by
  unfold lst at h
  obtain ⟨y, hy, rfl⟩ := List.mem_map.1 h
  obtain ⟨h1, h2⟩ := List.mem_filter.1 hy
  have : y.1 = k := of_decide_eq_true h2
  rw [← this]; exact h1
theorem fnd_some {l : List St} {b : ByteArray} {v : Int} {x : Lf} (h : fnd l b v = some x) : ∃ s ∈ l, s.2 = x ∧ x.v = v := by
  unfold fnd at h
  cases h1 : l.find? (fun s => decide (s.1 = b) && decide (s.2.v = v)) with
  | none => rw [h1] at h; cases h
  | some s =>
    rw [h1] at h
    have h2 := List.find?_some h1
    simp only [Bool.and_eq_true, decide_eq_true_eq] at h2
    have h3 : s.2 = x := Option.some.inj h
    exact ⟨s, List.mem_of_find?_eq_some h1, h3, by rw [← h3]; exact h2.2⟩
theorem lst_stz (n A D I : Int) (l : List Lf) (k : Int) : (lst (stz n A D I l) k).length ≤ l.length := by
  unfold stz
  split
  · exact sts_lst _ _ _ _ _ _ _
  · simp [lst]
theorem rgs_no {q : Int} {x : Lf} {r : List Lf} (h : smL x = false ∨ q - (x.p + x.l) < 0) : rgs q (x :: r) = false := by
  simp only [rgs]
  rcases h with h | h
  · rw [h]; rfl
  · have : decide (0 ≤ q - (x.p + x.l)) = false := by rw [decide_eq_false_iff_not]; omega
    rw [this]; simp
/-- Has one of the leaves this valid set? -/
def hsv (l : List Lf) (v : Int) : Bool := l.any fun x => x.v == v
theorem hsv_snoc (l : List Lf) (x : Lf) (v : Int) : hsv (l ++ [x]) v = (hsv l v || (x.v == v)) := by simp [hsv]
/-- How it stands with the leaves so far. -/
def Bad (n : Int) (l : List Lf) (i : Nat) (bad : Bool) (sum : Int) : Prop := if bad then rgt n l = false else (0 ≤ n ∧ n ≤ 1048576) ∧ (0 ≤ sum ∧ sum ≤ n) ∧ rgs (n - sum) (l.drop i) = rgs n l
set_option maxRecDepth 100000 in
set_option maxHeartbeats 16000000 in
theorem reuseNone_any {v : Value} {l : List Lf} (n A D : Int) (I : ByteArray) (k : Int) (b : ByteArray) (vd : Int) (w : World) (h : Lv w v l) (hl : l.length * 56 ≤ 140737488355328) (hI : I.size ≤ 140737488355328) (ha : ∀ x ∈ l, x.a.size ≤ 140737488355328) (hk : wfi k) :
    Calls Try.prog 3 #[.int .i64 n, v, edv A D I, .int .i64 k, .string b, .int .u64 vd] w fun e w' => e = .returned (.bool true) ∧ Below w.heap.size w w' := by
  have HH : Hid (Lv w v l) := h
  obtain ⟨a, cap, rfl⟩ := h.form
  obtain ⟨m, hm⟩ : ∃ m, l.length = m := ⟨_, rfl⟩
  have HM : Hid (l.length = m) := hm
  have HTW : Hid (∀ W, Below w.heap.size w W → Calls Try.prog 7 #[.slice a l.length cap] W fun e w' => ∃ v', e = .returned (rsv ru v') ∧ w'.ownsRow W.heap.size 36 6 v' l.length (flat lf l) ∧ Below W.heap.size W w') := fun W hb => twin_any W (Rw.up h hb) hl
  have HNW : Hid (∀ (W : World) (v' : Value), Lv W v' l → Calls Try.prog 6 #[.int .i64 n, rsv ru v', edv A D I] W fun e w' => ∃ p b m f, e = .returned (.pointer (some ⟨p, 0, none⟩)) ∧ Ol W.heap.size w' p b m f (stz n A D I.size l) (cnz n A D l) ∧ Below W.heap.size W w') := fun W v' hv => new_any ru n A D I W hv hl hI ha
  have HFD : Hid (∀ (W : World) (B p b' m : Nat) (f : Int → Value), Ol B W p b' m f (stz n A D I.size l) (cnz n A D l) → Calls Try.prog 8 #[.pointer (some ⟨p, 0, none⟩), .int .i64 k, .string b, .int .u64 vd] W fun e w' => e = .returned (fdv (fnd (lst (stz n A D I.size l) k) b vd)) ∧ Below W.heap.size W w') := fun W B p b' m f ho => find_any W ho k hk b vd (by have := lst_stz n A D I.size l k; omega) (fun s hs => ha _ (stz_mem (lst_mem hs)).1)
  have HFS : Hid (∀ x, fnd (lst (stz n A D I.size l) k) b vd = some x → rgt n l = true ∧ hsv l vd = true) := fun x hx => by
    obtain ⟨s, hs, h1, h2⟩ := fnd_some hx
    obtain ⟨h3, h4⟩ := stz_mem (lst_mem hs)
    refine ⟨h4, ?_⟩
    unfold hsv
    rw [List.any_eq_true]
    exact ⟨_, h3, by have h5 : s.2 = x := h1; show ((s.2).v == vd) = true; rw [h5, h2]; simp⟩
  have HCZ : Hid (rgt n l = false → cnz n A D l = 0) := fun h7 => by unfold cnz; rw [h7]; rfl
  unfold Lv at HH
  rw [hm] at HH hl HTW ⊢
  have HL : Hid (m * 56 ≤ 140737488355328) := hl
  clear h hm hl ha hI hk
  generalize hST : stz n A D I.size l = ST at HNW HFD HFS
  generalize hCT : cnz n A D l = CT at HNW HFD HCZ
  clear hST hCT
  obtain ⟨R, hR⟩ : ∃ R, fnd (lst ST k) b vd = R := ⟨_, rfl⟩
  rw [hR] at HFD HFS
  clear hR
  obtain ⟨N, hN⟩ : ∃ N, w.heap.size = N := ⟨_, rfl⟩
  obtain ⟨W1, hW1⟩ : ∃ W1, W1 = w.alloc (.cells #[.int .i64 A, .int .i64 D, .string I] 24) := ⟨_, rfl⟩
  have HB1 : Hid (Below w.heap.size w W1) := by rw [hW1]; exact bel_up _ _
  have HE1 : Hid (W1.heap[N]? = some (.cells #[.int .i64 A, .int .i64 D, .string I] 24 (0, 0))) := by rw [hW1, ← hN]; exact heap_new w _
  unfold rsv at HTW HNW
  unfold edv at HNW ⊢
  go_enter Try.func3, Try.ntmps3
  go_upto_region 1 with fail
  rw [← hW1]
  clear hW1
  go_upto_region 3 with (go_at_call 5; refine Calls.mono (started_any _) ?_; rintro ee W2 ⟨rfl, hb2⟩; have HB2 : Hid (Below w.heap.size w W2) := below_trans HB1.out hb2; have HE2 : Hid (W2.heap[N]? = some (.cells #[.int .i64 A, .int .i64 D, .string I] 24 (0, 0))) := (hb2.block _ (lt_of_heap HE1.out)).trans HE1.out; clear hb2)
  clear HB1 HE1
  refine wp_region_noPanic ?_
  refine wp_region_held_drew (S := fun V => V.cell? ⟨N, 0, none⟩ = some (.int .i64 A) ∧ V.cell? ⟨N, 1, none⟩ = some (.int .i64 D) ∧ V.cell? ⟨N, 2, none⟩ = some (.string I)) (by kernel_rfl) ⟨rcell (W := W2.drew) HE2.out 0 _ rfl, rcell (W := W2.drew) HE2.out 1 _ rfl, rcell (W := W2.drew) HE2.out 2 _ rfl⟩ (fun hHeld => ?_)
  obtain ⟨WD, hWD⟩ : ∃ WD, W2.drew = WD := ⟨_, rfl⟩
  have HBD : Hid (Below w.heap.size w WD) := by rw [← hWD]; exact Below.drew HB2.out
  have HED : Hid (WD.heap[N]? = some (.cells #[.int .i64 A, .int .i64 D, .string I] 24 (0, 0))) := by rw [← hWD]; exact HE2.out
  rw [hWD] at hHeld ⊢
  clear hWD HB2 HE2
  refine wpAnyH_take (i := 0) (oi := { dst := _, op := _, type := _, pos := _, after := _, guard := _ }) (v := ?_) rfl (by kernel_rfl) (by kernel_rfl) (by kernel_rfl) (fun _ _ _ h => h) (Or.inl ⟨by rfl, ?_⟩) (by assumption) ?_
  rotate_left
  · intro W hSw
    (try dsimp only at hSw)
    obtain ⟨t0, t1, t2⟩ := hSw
    go_simp
    (try with_reducible rfl)
  try simp only [Act.put, List.setIfInBounds_toArray, List.set_cons_zero, List.set_cons_succ]
  refine wpAnyH_take (i := 1) (oi := { dst := _, op := _, type := _, pos := _, after := _, guard := _ }) (v := ?_) rfl (by kernel_rfl) (by kernel_rfl) (by kernel_rfl) (fun _ _ _ h => h) (Or.inl ⟨by rfl, ?_⟩) (by assumption) ?_
  rotate_left
  · intro W hSw
    (try dsimp only at hSw)
    obtain ⟨t0, t1, t2⟩ := hSw
    go_simp
    (try with_reducible rfl)
  try simp only [Act.put, List.setIfInBounds_toArray, List.set_cons_zero, List.set_cons_succ]
  refine wpAnyH_take (i := 3) (oi := { dst := _, op := _, type := _, pos := _, after := _, guard := _ }) (v := ?_) rfl (by kernel_rfl) (by kernel_rfl) (by kernel_rfl) (fun _ _ _ h => h) (Or.inl ⟨by rfl, ?_⟩) (by assumption) ?_
  rotate_left
  · intro W hSw
    (try dsimp only at hSw)
    obtain ⟨t0, t1, t2⟩ := hSw
    go_simp
    (try with_reducible rfl)
  try simp only [Act.put, List.setIfInBounds_toArray, List.set_cons_zero, List.set_cons_succ]
  refine wpAnyH_ready (rs := [2]) (by kernel_rfl) (by simp) ?_
  refine AllReadyH.cons (o := { dst := _, op := _, type := _, pos := _, after := _, guard := _ }) rfl (fun K hK => ?_) AllReadyH.nil
  go_simp
  refine Calls.mono (HTW.out _ HBD.out) ?_
  rintro ee W3 ⟨v', rfl, ho3, hb3⟩
  have HV3 : Hid (Lv W3 v' l) := by have h8 := row_rw ho3 (by decide); unfold Lv; rw [HM.out]; exact h8
  have HE3 : Hid (W3.heap[N]? = some (.cells #[.int .i64 A, .int .i64 D, .string I] 24 (0, 0))) := (hb3.block _ (lt_of_heap HED.out)).trans HED.out
  have HB3 : Hid (Below w.heap.size w W3) := below_trans HBD.out hb3
  obtain ⟨va, vc, rfl⟩ := row_shape ho3
  clear ho3 hb3
  refine hK.out _ _ ?_ (fun hHeld => ?_)
  · first | exact trivial | (exact ⟨rcell HE3.out 0 _ rfl, rcell HE3.out 1 _ rfl, rcell HE3.out 2 _ rfl⟩)
  clear hK K
  try simp only [Act.put, List.setIfInBounds_toArray, List.set_cons_zero, List.set_cons_succ]
  refine wpAnyH_ready (rs := [4]) (by kernel_rfl) (by simp) ?_
  refine AllReadyH.cons (o := { dst := _, op := _, type := _, pos := _, after := _, guard := _ }) rfl (fun K hK => ?_) AllReadyH.nil
  go_simp
  refine Calls.mono (HNW.out _ _ HV3.out) ?_
  rintro ee W4 ⟨p, bm, mm, f, rfl, ho4, hb4⟩
  have HO4 : Hid (Ol W3.heap.size W4 p bm mm f ST CT) := ho4
  have HE4 : Hid (W4.heap[N]? = some (.cells #[.int .i64 A, .int .i64 D, .string I] 24 (0, 0))) := (hb4.block _ (lt_of_heap HE3.out)).trans HE3.out
  have HB4 : Hid (Below w.heap.size w W4) := below_trans HB3.out hb4
  clear ho4 hb4
  refine hK.out _ _ ?_ (fun hHeld => ?_)
  · first | exact trivial | (exact ⟨rcell HE4.out 0 _ rfl, rcell HE4.out 1 _ rfl, rcell HE4.out 2 _ rfl⟩)
  clear hK K
  try simp only [Act.put, List.setIfInBounds_toArray, List.set_cons_zero, List.set_cons_succ]
  refine wpAnyH_take (i := 5) (oi := { dst := _, op := _, type := _, pos := _, after := _, guard := _ }) (v := ?_) rfl (by kernel_rfl) (by kernel_rfl) (by kernel_rfl) (fun _ _ _ h => h) (Or.inl ⟨by rfl, ?_⟩) (by assumption) ?_
  rotate_left
  · intro W hSw
    (try dsimp only at hSw)
    obtain ⟨t0, t1, t2⟩ := hSw
    go_simp
    (try with_reducible rfl)
  try simp only [Act.put, List.setIfInBounds_toArray, List.set_cons_zero, List.set_cons_succ]
  refine wpAnyH_done (by kernel_rfl) ?_ _
  refine NoPanic.normal ?_
  clear HNW HTW HE4 HV3 HE3 HB3 HED HBD hHeld
  obtain ⟨bn, hbn⟩ : ∃ bn, decide (n < 0) = bn := ⟨_, rfl⟩
  obtain ⟨bg, hbg⟩ : ∃ bg, decide ((1048576 : Int) < n) = bg := ⟨_, rfl⟩
  have HSTART : Hid (Bad n l 0 (bn || bg) 0) := by
    show (if (bn || bg) = true then _ else _)
    rw [← hbn, ← hbg]
    split
    · rename_i h7
      rw [Bool.or_eq_true, decide_eq_true_eq, decide_eq_true_eq] at h7
      unfold rgt
      rcases h7 with h7 | h7
      · have : decide (0 ≤ n) = false := by rw [decide_eq_false_iff_not]; omega
        rw [this]; rfl
      · have : decide (n ≤ 1048576) = false := by rw [decide_eq_false_iff_not]; omega
        rw [this]; simp
    · rename_i h7
      rw [Bool.or_eq_true, decide_eq_true_eq, decide_eq_true_eq] at h7
      exact ⟨⟨by omega, by omega⟩, ⟨Int.le_refl _, by omega⟩, by rw [Int.sub_zero]; rfl⟩
  cases bn with
  | true =>
    go_upto_region 10 with fail
    clear hbn hbg
    go_loopg [14, 15, 16, 17] m (fun gm v14 v15 v16 v17 wr => ∃ (i : Nat) (sum : Int) (bad has : Bool), v17 = .int .i64 (i : Int) ∧ v14 = .int .i64 sum ∧ v15 = .bool bad ∧ v16 = .bool has ∧ Hid (i ≤ m ∧ gm = m - i) ∧ Hid (Bad n l i bad sum) ∧ Hid (hsv (l.take i) vd = has) ∧ Hid (Ol W3.heap.size wr p bm mm f ST CT) ∧ Hid (Below w.heap.size w wr))
    case atStart => exact ⟨0, 0, true, false, rfl, rfl, rfl, rfl, ⟨Nat.zero_le _, rfl⟩, HSTART, rfl, HO4, HB4⟩
    case round =>
      obtain ⟨i, sum, bad, has, rfl, rfl, rfl, rfl, HIX, HBD, HHS, HO, HB⟩ := hrel
      clear HSTART HO4 HB4
      by_cases hi : i < m
      · have e1 : decide ((i : Int) < (m : Int)) = true := by rw [decide_eq_true_eq]; omega
        have e2 : decide (i < m) = true := by rw [decide_eq_true_eq]; omega
        have b1 : (i : Int) < (m : Int) := by omega
        have b2 : i < m := hi
        have HIM : Hid (i < m) := hi
        have hwi := w64n i (by have := HL.out; omega)
        obtain ⟨g, og, rfl, hc⟩ := Lv.at HH.out HM.out i hi
        obtain ⟨c0, c1, c2, c3, c4, c5⟩ := hc _ HB.out
        have hdr := drop_cons l lfd i (by have := HM.out; omega)
        have htk := take_getD l lfd i (by have := HM.out; omega)
        have HHN : Hid (hsv (l.take (i + 1)) vd = (has || ((l.getD i lfd).v == vd))) := by show _ = _; rw [htk, hsv_snoc, HHS.out]
        obtain ⟨x, hx⟩ : ∃ x, l.getD i lfd = x := ⟨_, rfl⟩
        rw [hx] at c0 c1 c2 c3 c4 c5 hdr HHN
        have HDR : Hid (l.drop i = x :: l.drop (i + 1)) := hdr
        obtain ⟨xt, xp, xl, xk, xv, xa⟩ := x
        dsimp only at c0 c1 c2 c3 c4 c5 HHN
        have HOU : Hid (∀ o, Ol W3.heap.size (wr.alloc o) p bm mm f ST CT) := fun o => HO.out.up (bel_up _ _)
        have HBU : Hid (∀ o, Below w.heap.size w (wr.alloc o)) := fun o => below_trans HB.out (bel_up _ _)
        clear hi hc hx hdr htk
        cases has with
        | true =>
          cases bad with
          | true =>
            go_wp2_with fail
            go_roundg (m - (i + 1))
            case measure => have := HIX.out; have := HIM.out; omega
            case rel => exact ⟨i + 1, sum, true, true, by first | rfl | (rw [show (i : Int) + 1 = ((i + 1 : Nat) : Int) by omega]), rfl, rfl, rfl, ⟨HIM.out, rfl⟩, HBD, HHN, HOU.out _, HBU.out _⟩
          | false =>
            have HBF : Hid ((0 ≤ n ∧ n ≤ 1048576) ∧ (0 ≤ sum ∧ sum ≤ n) ∧ rgs (n - sum) (⟨xt, xp, xl, xk, xv, xa⟩ :: l.drop (i + 1)) = rgs n l) := by have h7 := HBD.out; unfold Bad at h7; rw [HDR.out] at h7; exact h7
            have HNO : Hid (∀ s', smL ⟨xt, xp, xl, xk, xv, xa⟩ = false ∨ n - sum - (xp + xl) < 0 → Bad n l (i + 1) true s') := fun s' h7 => by
              show rgt n l = false
              have h8 := rgs_no (r := l.drop (i + 1)) (x := ⟨xt, xp, xl, xk, xv, xa⟩) (q := n - sum) h7
              rw [HBF.out.2.2] at h8
              unfold rgt
              rw [h8]; simp
            by_cases g0 : xp < 0
            · have y0 : decide (xp < 0) = true := by rw [decide_eq_true_eq]; exact g0
              have HBN : Hid (Bad n l (i + 1) true sum) := HNO.out _ (.inl (by unfold smL sml; simp only [Bool.and_eq_false_iff, decide_eq_false_iff_not]; omega))
              clear g0
              go_wp2_with fail
              go_roundg (m - (i + 1))
              case measure => have := HIX.out; have := HIM.out; omega
              case rel => exact ⟨i + 1, sum, true, true, by first | rfl | (rw [show (i : Int) + 1 = ((i + 1 : Nat) : Int) by omega]), rfl, rfl, rfl, ⟨HIM.out, rfl⟩, HBN, HHN, HOU.out _, HBU.out _⟩
            · have y0 : decide (xp < 0) = false := by rw [decide_eq_false_iff_not]; exact g0
              by_cases g1 : xl < 0
              · have y1 : decide (xl < 0) = true := by rw [decide_eq_true_eq]; exact g1
                have HBN : Hid (Bad n l (i + 1) true sum) := HNO.out _ (.inl (by unfold smL sml; simp only [Bool.and_eq_false_iff, decide_eq_false_iff_not]; omega))
                clear g0 g1
                go_wp2_with fail
                go_roundg (m - (i + 1))
                case measure => have := HIX.out; have := HIM.out; omega
                case rel => exact ⟨i + 1, sum, true, true, by first | rfl | (rw [show (i : Int) + 1 = ((i + 1 : Nat) : Int) by omega]), rfl, rfl, rfl, ⟨HIM.out, rfl⟩, HBN, HHN, HOU.out _, HBU.out _⟩
              · have y1 : decide (xl < 0) = false := by rw [decide_eq_false_iff_not]; exact g1
                by_cases g2 : xk < 0
                · have y2 : decide (xk < 0) = true := by rw [decide_eq_true_eq]; exact g2
                  have HBN : Hid (Bad n l (i + 1) true sum) := HNO.out _ (.inl (by unfold smL sml; simp only [Bool.and_eq_false_iff, decide_eq_false_iff_not]; omega))
                  clear g0 g1 g2
                  go_wp2_with fail
                  go_roundg (m - (i + 1))
                  case measure => have := HIX.out; have := HIM.out; omega
                  case rel => exact ⟨i + 1, sum, true, true, by first | rfl | (rw [show (i : Int) + 1 = ((i + 1 : Nat) : Int) by omega]), rfl, rfl, rfl, ⟨HIM.out, rfl⟩, HBN, HHN, HOU.out _, HBU.out _⟩
                · have y2 : decide (xk < 0) = false := by rw [decide_eq_false_iff_not]; exact g2
                  by_cases g3 : 1048577 < xp
                  · have y3 : decide ((1048577 : Int) < xp) = true := by rw [decide_eq_true_eq]; exact g3
                    have HBN : Hid (Bad n l (i + 1) true sum) := HNO.out _ (.inl (by unfold smL sml; simp only [Bool.and_eq_false_iff, decide_eq_false_iff_not]; omega))
                    clear g0 g1 g2 g3
                    go_wp2_with fail
                    go_roundg (m - (i + 1))
                    case measure => have := HIX.out; have := HIM.out; omega
                    case rel => exact ⟨i + 1, sum, true, true, by first | rfl | (rw [show (i : Int) + 1 = ((i + 1 : Nat) : Int) by omega]), rfl, rfl, rfl, ⟨HIM.out, rfl⟩, HBN, HHN, HOU.out _, HBU.out _⟩
                  · have y3 : decide ((1048577 : Int) < xp) = false := by rw [decide_eq_false_iff_not]; exact g3
                    by_cases g4 : 1048577 < xl
                    · have y4 : decide ((1048577 : Int) < xl) = true := by rw [decide_eq_true_eq]; exact g4
                      have HBN : Hid (Bad n l (i + 1) true sum) := HNO.out _ (.inl (by unfold smL sml; simp only [Bool.and_eq_false_iff, decide_eq_false_iff_not]; omega))
                      clear g0 g1 g2 g3 g4
                      go_wp2_with fail
                      go_roundg (m - (i + 1))
                      case measure => have := HIX.out; have := HIM.out; omega
                      case rel => exact ⟨i + 1, sum, true, true, by first | rfl | (rw [show (i : Int) + 1 = ((i + 1 : Nat) : Int) by omega]), rfl, rfl, rfl, ⟨HIM.out, rfl⟩, HBN, HHN, HOU.out _, HBU.out _⟩
                    · have y4 : decide ((1048577 : Int) < xl) = false := by rw [decide_eq_false_iff_not]; exact g4
                      by_cases g5 : 1048577 < xk
                      · have y5 : decide ((1048577 : Int) < xk) = true := by rw [decide_eq_true_eq]; exact g5
                        have HBN : Hid (Bad n l (i + 1) true sum) := HNO.out _ (.inl (by unfold smL sml; simp only [Bool.and_eq_false_iff, decide_eq_false_iff_not]; omega))
                        clear g0 g1 g2 g3 g4 g5
                        go_wp2_with fail
                        go_roundg (m - (i + 1))
                        case measure => have := HIX.out; have := HIM.out; omega
                        case rel => exact ⟨i + 1, sum, true, true, by first | rfl | (rw [show (i : Int) + 1 = ((i + 1 : Nat) : Int) by omega]), rfl, rfl, rfl, ⟨HIM.out, rfl⟩, HBN, HHN, HOU.out _, HBU.out _⟩
                      · have y5 : decide ((1048577 : Int) < xk) = false := by rw [decide_eq_false_iff_not]; exact g5
                        have HX : Hid ((0 ≤ xp ∧ xp ≤ 1048577) ∧ (0 ≤ xl ∧ xl ≤ 1048577) ∧ (0 ≤ xk ∧ xk ≤ 1048577)) := ⟨⟨by omega, by omega⟩, ⟨by omega, by omega⟩, ⟨by omega, by omega⟩⟩
                        clear g0 g1 g2 g3 g4 g5
                        have w1 : IntKind.i64.wrap (sum + xp) = sum + xp := by have := HX.out; have := HBF.out; rw [IntKind.wrap_i64]; omega
                        have w2 : IntKind.i64.wrap (sum + xp + xl) = sum + xp + xl := by have := HX.out; have := HBF.out; rw [IntKind.wrap_i64]; omega
                        by_cases gs : n < sum + xp + xl
                        · have ys : decide (n < sum + xp + xl) = true := by rw [decide_eq_true_eq]; exact gs
                          have HBN : Hid (Bad n l (i + 1) true (sum + xp + xl)) := HNO.out _ (.inr (by omega))
                          clear gs
                          go_wp2_with fail
                          go_roundg (m - (i + 1))
                          case measure => have := HIX.out; have := HIM.out; omega
                          case rel => exact ⟨i + 1, (sum + xp + xl), true, true, by first | rfl | (rw [show (i : Int) + 1 = ((i + 1 : Nat) : Int) by omega]), rfl, rfl, rfl, ⟨HIM.out, rfl⟩, HBN, HHN, HOU.out _, HBU.out _⟩
                        · have ys : decide (n < sum + xp + xl) = false := by rw [decide_eq_false_iff_not]; exact gs
                          have HBN : Hid (Bad n l (i + 1) false (sum + xp + xl)) := by
                            show (0 ≤ n ∧ n ≤ 1048576) ∧ (0 ≤ sum + xp + xl ∧ sum + xp + xl ≤ n) ∧ rgs (n - (sum + xp + xl)) (l.drop (i + 1)) = rgs n l
                            have h8 := HBF.out
                            have h9 := HX.out
                            refine ⟨h8.1, ⟨by omega, by omega⟩, ?_⟩
                            rw [← h8.2.2]
                            simp only [rgs]
                            have s1 : smL ⟨xt, xp, xl, xk, xv, xa⟩ = true := by unfold smL sml; simp [h9]
                            have s2 : decide (0 ≤ n - sum - (xp + xl)) = true := by rw [decide_eq_true_eq]; omega
                            rw [s1, s2, show n - sum - (xp + xl) = n - (sum + xp + xl) by omega]; rfl
                          clear gs
                          go_wp2_with fail
                          go_roundg (m - (i + 1))
                          case measure => have := HIX.out; have := HIM.out; omega
                          case rel => exact ⟨i + 1, (sum + xp + xl), false, true, by first | rfl | (rw [show (i : Int) + 1 = ((i + 1 : Nat) : Int) by omega]), rfl, rfl, rfl, ⟨HIM.out, rfl⟩, HBN, HHN, HOU.out _, HBU.out _⟩
        | false =>
          cases bad with
          | true =>
            go_wp2_with fail
            go_roundg (m - (i + 1))
            case measure => have := HIX.out; have := HIM.out; omega
            case rel => exact ⟨i + 1, sum, true, (xv == vd), by first | rfl | (rw [show (i : Int) + 1 = ((i + 1 : Nat) : Int) by omega]), rfl, rfl, rfl, ⟨HIM.out, rfl⟩, HBD, HHN, HOU.out _, HBU.out _⟩
          | false =>
            have HBF : Hid ((0 ≤ n ∧ n ≤ 1048576) ∧ (0 ≤ sum ∧ sum ≤ n) ∧ rgs (n - sum) (⟨xt, xp, xl, xk, xv, xa⟩ :: l.drop (i + 1)) = rgs n l) := by have h7 := HBD.out; unfold Bad at h7; rw [HDR.out] at h7; exact h7
            have HNO : Hid (∀ s', smL ⟨xt, xp, xl, xk, xv, xa⟩ = false ∨ n - sum - (xp + xl) < 0 → Bad n l (i + 1) true s') := fun s' h7 => by
              show rgt n l = false
              have h8 := rgs_no (r := l.drop (i + 1)) (x := ⟨xt, xp, xl, xk, xv, xa⟩) (q := n - sum) h7
              rw [HBF.out.2.2] at h8
              unfold rgt
              rw [h8]; simp
            by_cases g0 : xp < 0
            · have y0 : decide (xp < 0) = true := by rw [decide_eq_true_eq]; exact g0
              have HBN : Hid (Bad n l (i + 1) true sum) := HNO.out _ (.inl (by unfold smL sml; simp only [Bool.and_eq_false_iff, decide_eq_false_iff_not]; omega))
              clear g0
              go_wp2_with fail
              go_roundg (m - (i + 1))
              case measure => have := HIX.out; have := HIM.out; omega
              case rel => exact ⟨i + 1, sum, true, (xv == vd), by first | rfl | (rw [show (i : Int) + 1 = ((i + 1 : Nat) : Int) by omega]), rfl, rfl, rfl, ⟨HIM.out, rfl⟩, HBN, HHN, HOU.out _, HBU.out _⟩
            · have y0 : decide (xp < 0) = false := by rw [decide_eq_false_iff_not]; exact g0
              by_cases g1 : xl < 0
              · have y1 : decide (xl < 0) = true := by rw [decide_eq_true_eq]; exact g1
                have HBN : Hid (Bad n l (i + 1) true sum) := HNO.out _ (.inl (by unfold smL sml; simp only [Bool.and_eq_false_iff, decide_eq_false_iff_not]; omega))
                clear g0 g1
                go_wp2_with fail
                go_roundg (m - (i + 1))
                case measure => have := HIX.out; have := HIM.out; omega
                case rel => exact ⟨i + 1, sum, true, (xv == vd), by first | rfl | (rw [show (i : Int) + 1 = ((i + 1 : Nat) : Int) by omega]), rfl, rfl, rfl, ⟨HIM.out, rfl⟩, HBN, HHN, HOU.out _, HBU.out _⟩
              · have y1 : decide (xl < 0) = false := by rw [decide_eq_false_iff_not]; exact g1
                by_cases g2 : xk < 0
                · have y2 : decide (xk < 0) = true := by rw [decide_eq_true_eq]; exact g2
                  have HBN : Hid (Bad n l (i + 1) true sum) := HNO.out _ (.inl (by unfold smL sml; simp only [Bool.and_eq_false_iff, decide_eq_false_iff_not]; omega))
                  clear g0 g1 g2
                  go_wp2_with fail
                  go_roundg (m - (i + 1))
                  case measure => have := HIX.out; have := HIM.out; omega
                  case rel => exact ⟨i + 1, sum, true, (xv == vd), by first | rfl | (rw [show (i : Int) + 1 = ((i + 1 : Nat) : Int) by omega]), rfl, rfl, rfl, ⟨HIM.out, rfl⟩, HBN, HHN, HOU.out _, HBU.out _⟩
                · have y2 : decide (xk < 0) = false := by rw [decide_eq_false_iff_not]; exact g2
                  by_cases g3 : 1048577 < xp
                  · have y3 : decide ((1048577 : Int) < xp) = true := by rw [decide_eq_true_eq]; exact g3
                    have HBN : Hid (Bad n l (i + 1) true sum) := HNO.out _ (.inl (by unfold smL sml; simp only [Bool.and_eq_false_iff, decide_eq_false_iff_not]; omega))
                    clear g0 g1 g2 g3
                    go_wp2_with fail
                    go_roundg (m - (i + 1))
                    case measure => have := HIX.out; have := HIM.out; omega
                    case rel => exact ⟨i + 1, sum, true, (xv == vd), by first | rfl | (rw [show (i : Int) + 1 = ((i + 1 : Nat) : Int) by omega]), rfl, rfl, rfl, ⟨HIM.out, rfl⟩, HBN, HHN, HOU.out _, HBU.out _⟩
                  · have y3 : decide ((1048577 : Int) < xp) = false := by rw [decide_eq_false_iff_not]; exact g3
                    by_cases g4 : 1048577 < xl
                    · have y4 : decide ((1048577 : Int) < xl) = true := by rw [decide_eq_true_eq]; exact g4
                      have HBN : Hid (Bad n l (i + 1) true sum) := HNO.out _ (.inl (by unfold smL sml; simp only [Bool.and_eq_false_iff, decide_eq_false_iff_not]; omega))
                      clear g0 g1 g2 g3 g4
                      go_wp2_with fail
                      go_roundg (m - (i + 1))
                      case measure => have := HIX.out; have := HIM.out; omega
                      case rel => exact ⟨i + 1, sum, true, (xv == vd), by first | rfl | (rw [show (i : Int) + 1 = ((i + 1 : Nat) : Int) by omega]), rfl, rfl, rfl, ⟨HIM.out, rfl⟩, HBN, HHN, HOU.out _, HBU.out _⟩
                    · have y4 : decide ((1048577 : Int) < xl) = false := by rw [decide_eq_false_iff_not]; exact g4
                      by_cases g5 : 1048577 < xk
                      · have y5 : decide ((1048577 : Int) < xk) = true := by rw [decide_eq_true_eq]; exact g5
                        have HBN : Hid (Bad n l (i + 1) true sum) := HNO.out _ (.inl (by unfold smL sml; simp only [Bool.and_eq_false_iff, decide_eq_false_iff_not]; omega))
                        clear g0 g1 g2 g3 g4 g5
                        go_wp2_with fail
                        go_roundg (m - (i + 1))
                        case measure => have := HIX.out; have := HIM.out; omega
                        case rel => exact ⟨i + 1, sum, true, (xv == vd), by first | rfl | (rw [show (i : Int) + 1 = ((i + 1 : Nat) : Int) by omega]), rfl, rfl, rfl, ⟨HIM.out, rfl⟩, HBN, HHN, HOU.out _, HBU.out _⟩
                      · have y5 : decide ((1048577 : Int) < xk) = false := by rw [decide_eq_false_iff_not]; exact g5
                        have HX : Hid ((0 ≤ xp ∧ xp ≤ 1048577) ∧ (0 ≤ xl ∧ xl ≤ 1048577) ∧ (0 ≤ xk ∧ xk ≤ 1048577)) := ⟨⟨by omega, by omega⟩, ⟨by omega, by omega⟩, ⟨by omega, by omega⟩⟩
                        clear g0 g1 g2 g3 g4 g5
                        have w1 : IntKind.i64.wrap (sum + xp) = sum + xp := by have := HX.out; have := HBF.out; rw [IntKind.wrap_i64]; omega
                        have w2 : IntKind.i64.wrap (sum + xp + xl) = sum + xp + xl := by have := HX.out; have := HBF.out; rw [IntKind.wrap_i64]; omega
                        by_cases gs : n < sum + xp + xl
                        · have ys : decide (n < sum + xp + xl) = true := by rw [decide_eq_true_eq]; exact gs
                          have HBN : Hid (Bad n l (i + 1) true (sum + xp + xl)) := HNO.out _ (.inr (by omega))
                          clear gs
                          go_wp2_with fail
                          go_roundg (m - (i + 1))
                          case measure => have := HIX.out; have := HIM.out; omega
                          case rel => exact ⟨i + 1, (sum + xp + xl), true, (xv == vd), by first | rfl | (rw [show (i : Int) + 1 = ((i + 1 : Nat) : Int) by omega]), rfl, rfl, rfl, ⟨HIM.out, rfl⟩, HBN, HHN, HOU.out _, HBU.out _⟩
                        · have ys : decide (n < sum + xp + xl) = false := by rw [decide_eq_false_iff_not]; exact gs
                          have HBN : Hid (Bad n l (i + 1) false (sum + xp + xl)) := by
                            show (0 ≤ n ∧ n ≤ 1048576) ∧ (0 ≤ sum + xp + xl ∧ sum + xp + xl ≤ n) ∧ rgs (n - (sum + xp + xl)) (l.drop (i + 1)) = rgs n l
                            have h8 := HBF.out
                            have h9 := HX.out
                            refine ⟨h8.1, ⟨by omega, by omega⟩, ?_⟩
                            rw [← h8.2.2]
                            simp only [rgs]
                            have s1 : smL ⟨xt, xp, xl, xk, xv, xa⟩ = true := by unfold smL sml; simp [h9]
                            have s2 : decide (0 ≤ n - sum - (xp + xl)) = true := by rw [decide_eq_true_eq]; omega
                            rw [s1, s2, show n - sum - (xp + xl) = n - (sum + xp + xl) by omega]; rfl
                          clear gs
                          go_wp2_with fail
                          go_roundg (m - (i + 1))
                          case measure => have := HIX.out; have := HIM.out; omega
                          case rel => exact ⟨i + 1, (sum + xp + xl), false, (xv == vd), by first | rfl | (rw [show (i : Int) + 1 = ((i + 1 : Nat) : Int) by omega]), rfl, rfl, rfl, ⟨HIM.out, rfl⟩, HBN, HHN, HOU.out _, HBU.out _⟩
      · have e1 : decide ((i : Int) < (m : Int)) = false := by rw [decide_eq_false_iff_not]; omega
        have e2 : decide (i < m) = false := by rw [decide_eq_false_iff_not]; omega
        have HHE : Hid (hsv l vd = has) := by rw [← HHS.out, List.take_of_length_le (by have := HM.out; omega)]; exact rfl
        have HBE : Hid (if bad = true then rgt n l = false else rgt n l = true) := by
          have h7 := HBD.out
          unfold Bad at h7
          rw [List.drop_eq_nil_of_le (by have := HM.out; omega)] at h7
          cases bad with
          | true => exact h7
          | false =>
            obtain ⟨⟨h0, h1⟩, _, h2⟩ := h7
            show rgt n l = true
            unfold rgt
            rw [← h2]
            simp [h0, h1, rgs]
        clear hi
        cases R with
        | none =>
          cases bad with
          | true =>
            have HC0 : Hid (CT = 0) := HCZ.out (by have h7 := HBE.out; exact h7)
            cases has with
            | true =>
              have HFE : Hid (∀ (W : World) (B p b' m : Nat) (f : Int → Value), Ol B W p b' m f ST CT → Calls Try.prog 8 #[.pointer (some ⟨p, 0, none⟩), .int .i64 k, .string b, .int .u64 vd] W fun e w' => e = .returned (.tuple #[.agg #[.int .i64 0, .int .i64 0, .int .i64 0, .int .i64 0, .int .u64 0, .string ⟨#[]⟩], .bool false]) ∧ Below W.heap.size W w') := HFD.out
              clear HFD
              go_upto_region 19 with (go_at_call 8; refine Calls.mono (HFE.out _ _ _ _ _ _ HO.out) ?_; rintro ee W6 ⟨rfl, hb6⟩; have HB6 : Hid (Below w.heap.size w W6) := below_trans HB.out hb6; have HO6 : Hid (Ol W3.heap.size W6 p bm mm f ST CT) := HO.out.up hb6; clear hb6)
              obtain ⟨W7, hW7⟩ : ∃ W7, W7 = W6.alloc (.cells #[.int .i64 0, .int .i64 0, .int .i64 0, .int .i64 0, .int .u64 0, .string ⟨#[]⟩] 36) := ⟨_, rfl⟩
              rw [← hW7]
              have HB7 : Hid (Below w.heap.size w W7) := by rw [hW7]; exact below_trans HB6.out (bel_up _ _)
              have HO7 : Hid (Ol W3.heap.size W7 p bm mm f ST CT) := by rw [hW7]; exact HO6.out.up (bel_up _ _)
              have HX7 : Hid (W7.heap[W6.heap.size]? = some (.cells #[.int .i64 0, .int .i64 0, .int .i64 0, .int .i64 0, .int .u64 0, .string ⟨#[]⟩] 36 (0, 0))) := by rw [hW7]; exact heap_new W6 _
              clear hW7 HB6 HO6
              have x0 := rcell HX7.out 0 _ rfl; have x1 := rcell HX7.out 1 _ rfl; have x2 := rcell HX7.out 2 _ rfl; have x3 := rcell HX7.out 3 _ rfl; have x4 := rcell HX7.out 4 _ rfl; have x5 := rcell HX7.out 5 _ rfl
              rw [HC0.out] at HO7
              go_wp2_with (go_at_call 9; refine Calls.mono (standing_any _ HO7.out) ?_; rintro ee ww ⟨rfl, rfl⟩)
              go_ret
              exact ⟨rfl, HB7.out⟩
            | false =>
              have HFE : Hid (∀ (W : World) (B p b' m : Nat) (f : Int → Value), Ol B W p b' m f ST CT → Calls Try.prog 8 #[.pointer (some ⟨p, 0, none⟩), .int .i64 k, .string b, .int .u64 vd] W fun e w' => e = .returned (.tuple #[.agg #[.int .i64 0, .int .i64 0, .int .i64 0, .int .i64 0, .int .u64 0, .string ⟨#[]⟩], .bool false]) ∧ Below W.heap.size W w') := HFD.out
              clear HFD
              go_upto_region 19 with (go_at_call 8; refine Calls.mono (HFE.out _ _ _ _ _ _ HO.out) ?_; rintro ee W6 ⟨rfl, hb6⟩; have HB6 : Hid (Below w.heap.size w W6) := below_trans HB.out hb6; have HO6 : Hid (Ol W3.heap.size W6 p bm mm f ST CT) := HO.out.up hb6; clear hb6)
              obtain ⟨W7, hW7⟩ : ∃ W7, W7 = W6.alloc (.cells #[.int .i64 0, .int .i64 0, .int .i64 0, .int .i64 0, .int .u64 0, .string ⟨#[]⟩] 36) := ⟨_, rfl⟩
              rw [← hW7]
              have HB7 : Hid (Below w.heap.size w W7) := by rw [hW7]; exact below_trans HB6.out (bel_up _ _)
              have HO7 : Hid (Ol W3.heap.size W7 p bm mm f ST CT) := by rw [hW7]; exact HO6.out.up (bel_up _ _)
              have HX7 : Hid (W7.heap[W6.heap.size]? = some (.cells #[.int .i64 0, .int .i64 0, .int .i64 0, .int .i64 0, .int .u64 0, .string ⟨#[]⟩] 36 (0, 0))) := by rw [hW7]; exact heap_new W6 _
              clear hW7 HB6 HO6
              have x0 := rcell HX7.out 0 _ rfl; have x1 := rcell HX7.out 1 _ rfl; have x2 := rcell HX7.out 2 _ rfl; have x3 := rcell HX7.out 3 _ rfl; have x4 := rcell HX7.out 4 _ rfl; have x5 := rcell HX7.out 5 _ rfl
              rw [HC0.out] at HO7
              go_wp2_with (go_at_call 9; refine Calls.mono (standing_any _ HO7.out) ?_; rintro ee ww ⟨rfl, rfl⟩)
              go_ret
              exact ⟨rfl, HB7.out⟩
          | false =>
            cases has with
            | true =>
              have HFE : Hid (∀ (W : World) (B p b' m : Nat) (f : Int → Value), Ol B W p b' m f ST CT → Calls Try.prog 8 #[.pointer (some ⟨p, 0, none⟩), .int .i64 k, .string b, .int .u64 vd] W fun e w' => e = .returned (.tuple #[.agg #[.int .i64 0, .int .i64 0, .int .i64 0, .int .i64 0, .int .u64 0, .string ⟨#[]⟩], .bool false]) ∧ Below W.heap.size W w') := HFD.out
              clear HFD
              go_upto_region 19 with (go_at_call 8; refine Calls.mono (HFE.out _ _ _ _ _ _ HO.out) ?_; rintro ee W6 ⟨rfl, hb6⟩; have HB6 : Hid (Below w.heap.size w W6) := below_trans HB.out hb6; have HO6 : Hid (Ol W3.heap.size W6 p bm mm f ST CT) := HO.out.up hb6; clear hb6)
              obtain ⟨W7, hW7⟩ : ∃ W7, W7 = W6.alloc (.cells #[.int .i64 0, .int .i64 0, .int .i64 0, .int .i64 0, .int .u64 0, .string ⟨#[]⟩] 36) := ⟨_, rfl⟩
              rw [← hW7]
              have HB7 : Hid (Below w.heap.size w W7) := by rw [hW7]; exact below_trans HB6.out (bel_up _ _)
              have HO7 : Hid (Ol W3.heap.size W7 p bm mm f ST CT) := by rw [hW7]; exact HO6.out.up (bel_up _ _)
              have HX7 : Hid (W7.heap[W6.heap.size]? = some (.cells #[.int .i64 0, .int .i64 0, .int .i64 0, .int .i64 0, .int .u64 0, .string ⟨#[]⟩] 36 (0, 0))) := by rw [hW7]; exact heap_new W6 _
              clear hW7 HB6 HO6
              have x0 := rcell HX7.out 0 _ rfl; have x1 := rcell HX7.out 1 _ rfl; have x2 := rcell HX7.out 2 _ rfl; have x3 := rcell HX7.out 3 _ rfl; have x4 := rcell HX7.out 4 _ rfl; have x5 := rcell HX7.out 5 _ rfl
              go_wp2_with fail
              go_ret
              exact ⟨rfl, HB7.out⟩
            | false =>
              have HFE : Hid (∀ (W : World) (B p b' m : Nat) (f : Int → Value), Ol B W p b' m f ST CT → Calls Try.prog 8 #[.pointer (some ⟨p, 0, none⟩), .int .i64 k, .string b, .int .u64 vd] W fun e w' => e = .returned (.tuple #[.agg #[.int .i64 0, .int .i64 0, .int .i64 0, .int .i64 0, .int .u64 0, .string ⟨#[]⟩], .bool false]) ∧ Below W.heap.size W w') := HFD.out
              clear HFD
              go_upto_region 19 with (go_at_call 8; refine Calls.mono (HFE.out _ _ _ _ _ _ HO.out) ?_; rintro ee W6 ⟨rfl, hb6⟩; have HB6 : Hid (Below w.heap.size w W6) := below_trans HB.out hb6; have HO6 : Hid (Ol W3.heap.size W6 p bm mm f ST CT) := HO.out.up hb6; clear hb6)
              obtain ⟨W7, hW7⟩ : ∃ W7, W7 = W6.alloc (.cells #[.int .i64 0, .int .i64 0, .int .i64 0, .int .i64 0, .int .u64 0, .string ⟨#[]⟩] 36) := ⟨_, rfl⟩
              rw [← hW7]
              have HB7 : Hid (Below w.heap.size w W7) := by rw [hW7]; exact below_trans HB6.out (bel_up _ _)
              have HO7 : Hid (Ol W3.heap.size W7 p bm mm f ST CT) := by rw [hW7]; exact HO6.out.up (bel_up _ _)
              have HX7 : Hid (W7.heap[W6.heap.size]? = some (.cells #[.int .i64 0, .int .i64 0, .int .i64 0, .int .i64 0, .int .u64 0, .string ⟨#[]⟩] 36 (0, 0))) := by rw [hW7]; exact heap_new W6 _
              clear hW7 HB6 HO6
              have x0 := rcell HX7.out 0 _ rfl; have x1 := rcell HX7.out 1 _ rfl; have x2 := rcell HX7.out 2 _ rfl; have x3 := rcell HX7.out 3 _ rfl; have x4 := rcell HX7.out 4 _ rfl; have x5 := rcell HX7.out 5 _ rfl
              go_wp2_with fail
              go_ret
              exact ⟨rfl, HB7.out⟩
        | some x =>
          obtain ⟨h7, h8⟩ := HFS.out x rfl
          cases bad with
          | true => exact absurd h7 (by have h9 := HBE.out; rw [show rgt n l = false from h9]; decide)
          | false =>
            cases has with
            | true =>
              clear h7 h8
              have HFE : Hid (∀ (W : World) (B p b' m : Nat) (f : Int → Value), Ol B W p b' m f ST CT → Calls Try.prog 8 #[.pointer (some ⟨p, 0, none⟩), .int .i64 k, .string b, .int .u64 vd] W fun e w' => e = .returned (.tuple #[.agg #[.int .i64 x.t, .int .i64 x.p, .int .i64 x.l, .int .i64 x.k, .int .u64 x.v, .string x.a], .bool true]) ∧ Below W.heap.size W w') := HFD.out
              clear HFD
              go_upto_region 19 with (go_at_call 8; refine Calls.mono (HFE.out _ _ _ _ _ _ HO.out) ?_; rintro ee W6 ⟨rfl, hb6⟩; have HB6 : Hid (Below w.heap.size w W6) := below_trans HB.out hb6; have HO6 : Hid (Ol W3.heap.size W6 p bm mm f ST CT) := HO.out.up hb6; clear hb6)
              obtain ⟨W7, hW7⟩ : ∃ W7, W7 = W6.alloc (.cells #[.int .i64 x.t, .int .i64 x.p, .int .i64 x.l, .int .i64 x.k, .int .u64 x.v, .string x.a] 36) := ⟨_, rfl⟩
              rw [← hW7]
              have HB7 : Hid (Below w.heap.size w W7) := by rw [hW7]; exact below_trans HB6.out (bel_up _ _)
              have HO7 : Hid (Ol W3.heap.size W7 p bm mm f ST CT) := by rw [hW7]; exact HO6.out.up (bel_up _ _)
              have HX7 : Hid (W7.heap[W6.heap.size]? = some (.cells #[.int .i64 x.t, .int .i64 x.p, .int .i64 x.l, .int .i64 x.k, .int .u64 x.v, .string x.a] 36 (0, 0))) := by rw [hW7]; exact heap_new W6 _
              clear hW7 HB6 HO6
              have x0 := rcell HX7.out 0 _ rfl; have x1 := rcell HX7.out 1 _ rfl; have x2 := rcell HX7.out 2 _ rfl; have x3 := rcell HX7.out 3 _ rfl; have x4 := rcell HX7.out 4 _ rfl; have x5 := rcell HX7.out 5 _ rfl
              go_wp2_with fail
              go_ret
              exact ⟨rfl, HB7.out⟩
            | false => exact absurd h8 (by rw [HHE.out]; decide)

  | false =>
    cases bg with
    | true =>
      go_upto_region 10 with fail
      clear hbn hbg
      go_loopg [14, 15, 16, 17] m (fun gm v14 v15 v16 v17 wr => ∃ (i : Nat) (sum : Int) (bad has : Bool), v17 = .int .i64 (i : Int) ∧ v14 = .int .i64 sum ∧ v15 = .bool bad ∧ v16 = .bool has ∧ Hid (i ≤ m ∧ gm = m - i) ∧ Hid (Bad n l i bad sum) ∧ Hid (hsv (l.take i) vd = has) ∧ Hid (Ol W3.heap.size wr p bm mm f ST CT) ∧ Hid (Below w.heap.size w wr))
      case atStart => exact ⟨0, 0, true, false, rfl, rfl, rfl, rfl, ⟨Nat.zero_le _, rfl⟩, HSTART, rfl, HO4, HB4⟩
      case round =>
        obtain ⟨i, sum, bad, has, rfl, rfl, rfl, rfl, HIX, HBD, HHS, HO, HB⟩ := hrel
        clear HSTART HO4 HB4
        by_cases hi : i < m
        · have e1 : decide ((i : Int) < (m : Int)) = true := by rw [decide_eq_true_eq]; omega
          have e2 : decide (i < m) = true := by rw [decide_eq_true_eq]; omega
          have b1 : (i : Int) < (m : Int) := by omega
          have b2 : i < m := hi
          have HIM : Hid (i < m) := hi
          have hwi := w64n i (by have := HL.out; omega)
          obtain ⟨g, og, rfl, hc⟩ := Lv.at HH.out HM.out i hi
          obtain ⟨c0, c1, c2, c3, c4, c5⟩ := hc _ HB.out
          have hdr := drop_cons l lfd i (by have := HM.out; omega)
          have htk := take_getD l lfd i (by have := HM.out; omega)
          have HHN : Hid (hsv (l.take (i + 1)) vd = (has || ((l.getD i lfd).v == vd))) := by show _ = _; rw [htk, hsv_snoc, HHS.out]
          obtain ⟨x, hx⟩ : ∃ x, l.getD i lfd = x := ⟨_, rfl⟩
          rw [hx] at c0 c1 c2 c3 c4 c5 hdr HHN
          have HDR : Hid (l.drop i = x :: l.drop (i + 1)) := hdr
          obtain ⟨xt, xp, xl, xk, xv, xa⟩ := x
          dsimp only at c0 c1 c2 c3 c4 c5 HHN
          have HOU : Hid (∀ o, Ol W3.heap.size (wr.alloc o) p bm mm f ST CT) := fun o => HO.out.up (bel_up _ _)
          have HBU : Hid (∀ o, Below w.heap.size w (wr.alloc o)) := fun o => below_trans HB.out (bel_up _ _)
          clear hi hc hx hdr htk
          cases has with
          | true =>
            cases bad with
            | true =>
              go_wp2_with fail
              go_roundg (m - (i + 1))
              case measure => have := HIX.out; have := HIM.out; omega
              case rel => exact ⟨i + 1, sum, true, true, by first | rfl | (rw [show (i : Int) + 1 = ((i + 1 : Nat) : Int) by omega]), rfl, rfl, rfl, ⟨HIM.out, rfl⟩, HBD, HHN, HOU.out _, HBU.out _⟩
            | false =>
              have HBF : Hid ((0 ≤ n ∧ n ≤ 1048576) ∧ (0 ≤ sum ∧ sum ≤ n) ∧ rgs (n - sum) (⟨xt, xp, xl, xk, xv, xa⟩ :: l.drop (i + 1)) = rgs n l) := by have h7 := HBD.out; unfold Bad at h7; rw [HDR.out] at h7; exact h7
              have HNO : Hid (∀ s', smL ⟨xt, xp, xl, xk, xv, xa⟩ = false ∨ n - sum - (xp + xl) < 0 → Bad n l (i + 1) true s') := fun s' h7 => by
                show rgt n l = false
                have h8 := rgs_no (r := l.drop (i + 1)) (x := ⟨xt, xp, xl, xk, xv, xa⟩) (q := n - sum) h7
                rw [HBF.out.2.2] at h8
                unfold rgt
                rw [h8]; simp
              by_cases g0 : xp < 0
              · have y0 : decide (xp < 0) = true := by rw [decide_eq_true_eq]; exact g0
                have HBN : Hid (Bad n l (i + 1) true sum) := HNO.out _ (.inl (by unfold smL sml; simp only [Bool.and_eq_false_iff, decide_eq_false_iff_not]; omega))
                clear g0
                go_wp2_with fail
                go_roundg (m - (i + 1))
                case measure => have := HIX.out; have := HIM.out; omega
                case rel => exact ⟨i + 1, sum, true, true, by first | rfl | (rw [show (i : Int) + 1 = ((i + 1 : Nat) : Int) by omega]), rfl, rfl, rfl, ⟨HIM.out, rfl⟩, HBN, HHN, HOU.out _, HBU.out _⟩
              · have y0 : decide (xp < 0) = false := by rw [decide_eq_false_iff_not]; exact g0
                by_cases g1 : xl < 0
                · have y1 : decide (xl < 0) = true := by rw [decide_eq_true_eq]; exact g1
                  have HBN : Hid (Bad n l (i + 1) true sum) := HNO.out _ (.inl (by unfold smL sml; simp only [Bool.and_eq_false_iff, decide_eq_false_iff_not]; omega))
                  clear g0 g1
                  go_wp2_with fail
                  go_roundg (m - (i + 1))
                  case measure => have := HIX.out; have := HIM.out; omega
                  case rel => exact ⟨i + 1, sum, true, true, by first | rfl | (rw [show (i : Int) + 1 = ((i + 1 : Nat) : Int) by omega]), rfl, rfl, rfl, ⟨HIM.out, rfl⟩, HBN, HHN, HOU.out _, HBU.out _⟩
                · have y1 : decide (xl < 0) = false := by rw [decide_eq_false_iff_not]; exact g1
                  by_cases g2 : xk < 0
                  · have y2 : decide (xk < 0) = true := by rw [decide_eq_true_eq]; exact g2
                    have HBN : Hid (Bad n l (i + 1) true sum) := HNO.out _ (.inl (by unfold smL sml; simp only [Bool.and_eq_false_iff, decide_eq_false_iff_not]; omega))
                    clear g0 g1 g2
                    go_wp2_with fail
                    go_roundg (m - (i + 1))
                    case measure => have := HIX.out; have := HIM.out; omega
                    case rel => exact ⟨i + 1, sum, true, true, by first | rfl | (rw [show (i : Int) + 1 = ((i + 1 : Nat) : Int) by omega]), rfl, rfl, rfl, ⟨HIM.out, rfl⟩, HBN, HHN, HOU.out _, HBU.out _⟩
                  · have y2 : decide (xk < 0) = false := by rw [decide_eq_false_iff_not]; exact g2
                    by_cases g3 : 1048577 < xp
                    · have y3 : decide ((1048577 : Int) < xp) = true := by rw [decide_eq_true_eq]; exact g3
                      have HBN : Hid (Bad n l (i + 1) true sum) := HNO.out _ (.inl (by unfold smL sml; simp only [Bool.and_eq_false_iff, decide_eq_false_iff_not]; omega))
                      clear g0 g1 g2 g3
                      go_wp2_with fail
                      go_roundg (m - (i + 1))
                      case measure => have := HIX.out; have := HIM.out; omega
                      case rel => exact ⟨i + 1, sum, true, true, by first | rfl | (rw [show (i : Int) + 1 = ((i + 1 : Nat) : Int) by omega]), rfl, rfl, rfl, ⟨HIM.out, rfl⟩, HBN, HHN, HOU.out _, HBU.out _⟩
                    · have y3 : decide ((1048577 : Int) < xp) = false := by rw [decide_eq_false_iff_not]; exact g3
                      by_cases g4 : 1048577 < xl
                      · have y4 : decide ((1048577 : Int) < xl) = true := by rw [decide_eq_true_eq]; exact g4
                        have HBN : Hid (Bad n l (i + 1) true sum) := HNO.out _ (.inl (by unfold smL sml; simp only [Bool.and_eq_false_iff, decide_eq_false_iff_not]; omega))
                        clear g0 g1 g2 g3 g4
                        go_wp2_with fail
                        go_roundg (m - (i + 1))
                        case measure => have := HIX.out; have := HIM.out; omega
                        case rel => exact ⟨i + 1, sum, true, true, by first | rfl | (rw [show (i : Int) + 1 = ((i + 1 : Nat) : Int) by omega]), rfl, rfl, rfl, ⟨HIM.out, rfl⟩, HBN, HHN, HOU.out _, HBU.out _⟩
                      · have y4 : decide ((1048577 : Int) < xl) = false := by rw [decide_eq_false_iff_not]; exact g4
                        by_cases g5 : 1048577 < xk
                        · have y5 : decide ((1048577 : Int) < xk) = true := by rw [decide_eq_true_eq]; exact g5
                          have HBN : Hid (Bad n l (i + 1) true sum) := HNO.out _ (.inl (by unfold smL sml; simp only [Bool.and_eq_false_iff, decide_eq_false_iff_not]; omega))
                          clear g0 g1 g2 g3 g4 g5
                          go_wp2_with fail
                          go_roundg (m - (i + 1))
                          case measure => have := HIX.out; have := HIM.out; omega
                          case rel => exact ⟨i + 1, sum, true, true, by first | rfl | (rw [show (i : Int) + 1 = ((i + 1 : Nat) : Int) by omega]), rfl, rfl, rfl, ⟨HIM.out, rfl⟩, HBN, HHN, HOU.out _, HBU.out _⟩
                        · have y5 : decide ((1048577 : Int) < xk) = false := by rw [decide_eq_false_iff_not]; exact g5
                          have HX : Hid ((0 ≤ xp ∧ xp ≤ 1048577) ∧ (0 ≤ xl ∧ xl ≤ 1048577) ∧ (0 ≤ xk ∧ xk ≤ 1048577)) := ⟨⟨by omega, by omega⟩, ⟨by omega, by omega⟩, ⟨by omega, by omega⟩⟩
                          clear g0 g1 g2 g3 g4 g5
                          have w1 : IntKind.i64.wrap (sum + xp) = sum + xp := by have := HX.out; have := HBF.out; rw [IntKind.wrap_i64]; omega
                          have w2 : IntKind.i64.wrap (sum + xp + xl) = sum + xp + xl := by have := HX.out; have := HBF.out; rw [IntKind.wrap_i64]; omega
                          by_cases gs : n < sum + xp + xl
                          · have ys : decide (n < sum + xp + xl) = true := by rw [decide_eq_true_eq]; exact gs
                            have HBN : Hid (Bad n l (i + 1) true (sum + xp + xl)) := HNO.out _ (.inr (by omega))
                            clear gs
                            go_wp2_with fail
                            go_roundg (m - (i + 1))
                            case measure => have := HIX.out; have := HIM.out; omega
                            case rel => exact ⟨i + 1, (sum + xp + xl), true, true, by first | rfl | (rw [show (i : Int) + 1 = ((i + 1 : Nat) : Int) by omega]), rfl, rfl, rfl, ⟨HIM.out, rfl⟩, HBN, HHN, HOU.out _, HBU.out _⟩
                          · have ys : decide (n < sum + xp + xl) = false := by rw [decide_eq_false_iff_not]; exact gs
                            have HBN : Hid (Bad n l (i + 1) false (sum + xp + xl)) := by
                              show (0 ≤ n ∧ n ≤ 1048576) ∧ (0 ≤ sum + xp + xl ∧ sum + xp + xl ≤ n) ∧ rgs (n - (sum + xp + xl)) (l.drop (i + 1)) = rgs n l
                              have h8 := HBF.out
                              have h9 := HX.out
                              refine ⟨h8.1, ⟨by omega, by omega⟩, ?_⟩
                              rw [← h8.2.2]
                              simp only [rgs]
                              have s1 : smL ⟨xt, xp, xl, xk, xv, xa⟩ = true := by unfold smL sml; simp [h9]
                              have s2 : decide (0 ≤ n - sum - (xp + xl)) = true := by rw [decide_eq_true_eq]; omega
                              rw [s1, s2, show n - sum - (xp + xl) = n - (sum + xp + xl) by omega]; rfl
                            clear gs
                            go_wp2_with fail
                            go_roundg (m - (i + 1))
                            case measure => have := HIX.out; have := HIM.out; omega
                            case rel => exact ⟨i + 1, (sum + xp + xl), false, true, by first | rfl | (rw [show (i : Int) + 1 = ((i + 1 : Nat) : Int) by omega]), rfl, rfl, rfl, ⟨HIM.out, rfl⟩, HBN, HHN, HOU.out _, HBU.out _⟩
          | false =>
            cases bad with
            | true =>
              go_wp2_with fail
              go_roundg (m - (i + 1))
              case measure => have := HIX.out; have := HIM.out; omega
              case rel => exact ⟨i + 1, sum, true, (xv == vd), by first | rfl | (rw [show (i : Int) + 1 = ((i + 1 : Nat) : Int) by omega]), rfl, rfl, rfl, ⟨HIM.out, rfl⟩, HBD, HHN, HOU.out _, HBU.out _⟩
            | false =>
              have HBF : Hid ((0 ≤ n ∧ n ≤ 1048576) ∧ (0 ≤ sum ∧ sum ≤ n) ∧ rgs (n - sum) (⟨xt, xp, xl, xk, xv, xa⟩ :: l.drop (i + 1)) = rgs n l) := by have h7 := HBD.out; unfold Bad at h7; rw [HDR.out] at h7; exact h7
              have HNO : Hid (∀ s', smL ⟨xt, xp, xl, xk, xv, xa⟩ = false ∨ n - sum - (xp + xl) < 0 → Bad n l (i + 1) true s') := fun s' h7 => by
                show rgt n l = false
                have h8 := rgs_no (r := l.drop (i + 1)) (x := ⟨xt, xp, xl, xk, xv, xa⟩) (q := n - sum) h7
                rw [HBF.out.2.2] at h8
                unfold rgt
                rw [h8]; simp
              by_cases g0 : xp < 0
              · have y0 : decide (xp < 0) = true := by rw [decide_eq_true_eq]; exact g0
                have HBN : Hid (Bad n l (i + 1) true sum) := HNO.out _ (.inl (by unfold smL sml; simp only [Bool.and_eq_false_iff, decide_eq_false_iff_not]; omega))
                clear g0
                go_wp2_with fail
                go_roundg (m - (i + 1))
                case measure => have := HIX.out; have := HIM.out; omega
                case rel => exact ⟨i + 1, sum, true, (xv == vd), by first | rfl | (rw [show (i : Int) + 1 = ((i + 1 : Nat) : Int) by omega]), rfl, rfl, rfl, ⟨HIM.out, rfl⟩, HBN, HHN, HOU.out _, HBU.out _⟩
              · have y0 : decide (xp < 0) = false := by rw [decide_eq_false_iff_not]; exact g0
                by_cases g1 : xl < 0
                · have y1 : decide (xl < 0) = true := by rw [decide_eq_true_eq]; exact g1
                  have HBN : Hid (Bad n l (i + 1) true sum) := HNO.out _ (.inl (by unfold smL sml; simp only [Bool.and_eq_false_iff, decide_eq_false_iff_not]; omega))
                  clear g0 g1
                  go_wp2_with fail
                  go_roundg (m - (i + 1))
                  case measure => have := HIX.out; have := HIM.out; omega
                  case rel => exact ⟨i + 1, sum, true, (xv == vd), by first | rfl | (rw [show (i : Int) + 1 = ((i + 1 : Nat) : Int) by omega]), rfl, rfl, rfl, ⟨HIM.out, rfl⟩, HBN, HHN, HOU.out _, HBU.out _⟩
                · have y1 : decide (xl < 0) = false := by rw [decide_eq_false_iff_not]; exact g1
                  by_cases g2 : xk < 0
                  · have y2 : decide (xk < 0) = true := by rw [decide_eq_true_eq]; exact g2
                    have HBN : Hid (Bad n l (i + 1) true sum) := HNO.out _ (.inl (by unfold smL sml; simp only [Bool.and_eq_false_iff, decide_eq_false_iff_not]; omega))
                    clear g0 g1 g2
                    go_wp2_with fail
                    go_roundg (m - (i + 1))
                    case measure => have := HIX.out; have := HIM.out; omega
                    case rel => exact ⟨i + 1, sum, true, (xv == vd), by first | rfl | (rw [show (i : Int) + 1 = ((i + 1 : Nat) : Int) by omega]), rfl, rfl, rfl, ⟨HIM.out, rfl⟩, HBN, HHN, HOU.out _, HBU.out _⟩
                  · have y2 : decide (xk < 0) = false := by rw [decide_eq_false_iff_not]; exact g2
                    by_cases g3 : 1048577 < xp
                    · have y3 : decide ((1048577 : Int) < xp) = true := by rw [decide_eq_true_eq]; exact g3
                      have HBN : Hid (Bad n l (i + 1) true sum) := HNO.out _ (.inl (by unfold smL sml; simp only [Bool.and_eq_false_iff, decide_eq_false_iff_not]; omega))
                      clear g0 g1 g2 g3
                      go_wp2_with fail
                      go_roundg (m - (i + 1))
                      case measure => have := HIX.out; have := HIM.out; omega
                      case rel => exact ⟨i + 1, sum, true, (xv == vd), by first | rfl | (rw [show (i : Int) + 1 = ((i + 1 : Nat) : Int) by omega]), rfl, rfl, rfl, ⟨HIM.out, rfl⟩, HBN, HHN, HOU.out _, HBU.out _⟩
                    · have y3 : decide ((1048577 : Int) < xp) = false := by rw [decide_eq_false_iff_not]; exact g3
                      by_cases g4 : 1048577 < xl
                      · have y4 : decide ((1048577 : Int) < xl) = true := by rw [decide_eq_true_eq]; exact g4
                        have HBN : Hid (Bad n l (i + 1) true sum) := HNO.out _ (.inl (by unfold smL sml; simp only [Bool.and_eq_false_iff, decide_eq_false_iff_not]; omega))
                        clear g0 g1 g2 g3 g4
                        go_wp2_with fail
                        go_roundg (m - (i + 1))
                        case measure => have := HIX.out; have := HIM.out; omega
                        case rel => exact ⟨i + 1, sum, true, (xv == vd), by first | rfl | (rw [show (i : Int) + 1 = ((i + 1 : Nat) : Int) by omega]), rfl, rfl, rfl, ⟨HIM.out, rfl⟩, HBN, HHN, HOU.out _, HBU.out _⟩
                      · have y4 : decide ((1048577 : Int) < xl) = false := by rw [decide_eq_false_iff_not]; exact g4
                        by_cases g5 : 1048577 < xk
                        · have y5 : decide ((1048577 : Int) < xk) = true := by rw [decide_eq_true_eq]; exact g5
                          have HBN : Hid (Bad n l (i + 1) true sum) := HNO.out _ (.inl (by unfold smL sml; simp only [Bool.and_eq_false_iff, decide_eq_false_iff_not]; omega))
                          clear g0 g1 g2 g3 g4 g5
                          go_wp2_with fail
                          go_roundg (m - (i + 1))
                          case measure => have := HIX.out; have := HIM.out; omega
                          case rel => exact ⟨i + 1, sum, true, (xv == vd), by first | rfl | (rw [show (i : Int) + 1 = ((i + 1 : Nat) : Int) by omega]), rfl, rfl, rfl, ⟨HIM.out, rfl⟩, HBN, HHN, HOU.out _, HBU.out _⟩
                        · have y5 : decide ((1048577 : Int) < xk) = false := by rw [decide_eq_false_iff_not]; exact g5
                          have HX : Hid ((0 ≤ xp ∧ xp ≤ 1048577) ∧ (0 ≤ xl ∧ xl ≤ 1048577) ∧ (0 ≤ xk ∧ xk ≤ 1048577)) := ⟨⟨by omega, by omega⟩, ⟨by omega, by omega⟩, ⟨by omega, by omega⟩⟩
                          clear g0 g1 g2 g3 g4 g5
                          have w1 : IntKind.i64.wrap (sum + xp) = sum + xp := by have := HX.out; have := HBF.out; rw [IntKind.wrap_i64]; omega
                          have w2 : IntKind.i64.wrap (sum + xp + xl) = sum + xp + xl := by have := HX.out; have := HBF.out; rw [IntKind.wrap_i64]; omega
                          by_cases gs : n < sum + xp + xl
                          · have ys : decide (n < sum + xp + xl) = true := by rw [decide_eq_true_eq]; exact gs
                            have HBN : Hid (Bad n l (i + 1) true (sum + xp + xl)) := HNO.out _ (.inr (by omega))
                            clear gs
                            go_wp2_with fail
                            go_roundg (m - (i + 1))
                            case measure => have := HIX.out; have := HIM.out; omega
                            case rel => exact ⟨i + 1, (sum + xp + xl), true, (xv == vd), by first | rfl | (rw [show (i : Int) + 1 = ((i + 1 : Nat) : Int) by omega]), rfl, rfl, rfl, ⟨HIM.out, rfl⟩, HBN, HHN, HOU.out _, HBU.out _⟩
                          · have ys : decide (n < sum + xp + xl) = false := by rw [decide_eq_false_iff_not]; exact gs
                            have HBN : Hid (Bad n l (i + 1) false (sum + xp + xl)) := by
                              show (0 ≤ n ∧ n ≤ 1048576) ∧ (0 ≤ sum + xp + xl ∧ sum + xp + xl ≤ n) ∧ rgs (n - (sum + xp + xl)) (l.drop (i + 1)) = rgs n l
                              have h8 := HBF.out
                              have h9 := HX.out
                              refine ⟨h8.1, ⟨by omega, by omega⟩, ?_⟩
                              rw [← h8.2.2]
                              simp only [rgs]
                              have s1 : smL ⟨xt, xp, xl, xk, xv, xa⟩ = true := by unfold smL sml; simp [h9]
                              have s2 : decide (0 ≤ n - sum - (xp + xl)) = true := by rw [decide_eq_true_eq]; omega
                              rw [s1, s2, show n - sum - (xp + xl) = n - (sum + xp + xl) by omega]; rfl
                            clear gs
                            go_wp2_with fail
                            go_roundg (m - (i + 1))
                            case measure => have := HIX.out; have := HIM.out; omega
                            case rel => exact ⟨i + 1, (sum + xp + xl), false, (xv == vd), by first | rfl | (rw [show (i : Int) + 1 = ((i + 1 : Nat) : Int) by omega]), rfl, rfl, rfl, ⟨HIM.out, rfl⟩, HBN, HHN, HOU.out _, HBU.out _⟩
        · have e1 : decide ((i : Int) < (m : Int)) = false := by rw [decide_eq_false_iff_not]; omega
          have e2 : decide (i < m) = false := by rw [decide_eq_false_iff_not]; omega
          have HHE : Hid (hsv l vd = has) := by rw [← HHS.out, List.take_of_length_le (by have := HM.out; omega)]; exact rfl
          have HBE : Hid (if bad = true then rgt n l = false else rgt n l = true) := by
            have h7 := HBD.out
            unfold Bad at h7
            rw [List.drop_eq_nil_of_le (by have := HM.out; omega)] at h7
            cases bad with
            | true => exact h7
            | false =>
              obtain ⟨⟨h0, h1⟩, _, h2⟩ := h7
              show rgt n l = true
              unfold rgt
              rw [← h2]
              simp [h0, h1, rgs]
          clear hi
          cases R with
          | none =>
            cases bad with
            | true =>
              have HC0 : Hid (CT = 0) := HCZ.out (by have h7 := HBE.out; exact h7)
              cases has with
              | true =>
                have HFE : Hid (∀ (W : World) (B p b' m : Nat) (f : Int → Value), Ol B W p b' m f ST CT → Calls Try.prog 8 #[.pointer (some ⟨p, 0, none⟩), .int .i64 k, .string b, .int .u64 vd] W fun e w' => e = .returned (.tuple #[.agg #[.int .i64 0, .int .i64 0, .int .i64 0, .int .i64 0, .int .u64 0, .string ⟨#[]⟩], .bool false]) ∧ Below W.heap.size W w') := HFD.out
                clear HFD
                go_upto_region 19 with (go_at_call 8; refine Calls.mono (HFE.out _ _ _ _ _ _ HO.out) ?_; rintro ee W6 ⟨rfl, hb6⟩; have HB6 : Hid (Below w.heap.size w W6) := below_trans HB.out hb6; have HO6 : Hid (Ol W3.heap.size W6 p bm mm f ST CT) := HO.out.up hb6; clear hb6)
                obtain ⟨W7, hW7⟩ : ∃ W7, W7 = W6.alloc (.cells #[.int .i64 0, .int .i64 0, .int .i64 0, .int .i64 0, .int .u64 0, .string ⟨#[]⟩] 36) := ⟨_, rfl⟩
                rw [← hW7]
                have HB7 : Hid (Below w.heap.size w W7) := by rw [hW7]; exact below_trans HB6.out (bel_up _ _)
                have HO7 : Hid (Ol W3.heap.size W7 p bm mm f ST CT) := by rw [hW7]; exact HO6.out.up (bel_up _ _)
                have HX7 : Hid (W7.heap[W6.heap.size]? = some (.cells #[.int .i64 0, .int .i64 0, .int .i64 0, .int .i64 0, .int .u64 0, .string ⟨#[]⟩] 36 (0, 0))) := by rw [hW7]; exact heap_new W6 _
                clear hW7 HB6 HO6
                have x0 := rcell HX7.out 0 _ rfl; have x1 := rcell HX7.out 1 _ rfl; have x2 := rcell HX7.out 2 _ rfl; have x3 := rcell HX7.out 3 _ rfl; have x4 := rcell HX7.out 4 _ rfl; have x5 := rcell HX7.out 5 _ rfl
                rw [HC0.out] at HO7
                go_wp2_with (go_at_call 9; refine Calls.mono (standing_any _ HO7.out) ?_; rintro ee ww ⟨rfl, rfl⟩)
                go_ret
                exact ⟨rfl, HB7.out⟩
              | false =>
                have HFE : Hid (∀ (W : World) (B p b' m : Nat) (f : Int → Value), Ol B W p b' m f ST CT → Calls Try.prog 8 #[.pointer (some ⟨p, 0, none⟩), .int .i64 k, .string b, .int .u64 vd] W fun e w' => e = .returned (.tuple #[.agg #[.int .i64 0, .int .i64 0, .int .i64 0, .int .i64 0, .int .u64 0, .string ⟨#[]⟩], .bool false]) ∧ Below W.heap.size W w') := HFD.out
                clear HFD
                go_upto_region 19 with (go_at_call 8; refine Calls.mono (HFE.out _ _ _ _ _ _ HO.out) ?_; rintro ee W6 ⟨rfl, hb6⟩; have HB6 : Hid (Below w.heap.size w W6) := below_trans HB.out hb6; have HO6 : Hid (Ol W3.heap.size W6 p bm mm f ST CT) := HO.out.up hb6; clear hb6)
                obtain ⟨W7, hW7⟩ : ∃ W7, W7 = W6.alloc (.cells #[.int .i64 0, .int .i64 0, .int .i64 0, .int .i64 0, .int .u64 0, .string ⟨#[]⟩] 36) := ⟨_, rfl⟩
                rw [← hW7]
                have HB7 : Hid (Below w.heap.size w W7) := by rw [hW7]; exact below_trans HB6.out (bel_up _ _)
                have HO7 : Hid (Ol W3.heap.size W7 p bm mm f ST CT) := by rw [hW7]; exact HO6.out.up (bel_up _ _)
                have HX7 : Hid (W7.heap[W6.heap.size]? = some (.cells #[.int .i64 0, .int .i64 0, .int .i64 0, .int .i64 0, .int .u64 0, .string ⟨#[]⟩] 36 (0, 0))) := by rw [hW7]; exact heap_new W6 _
                clear hW7 HB6 HO6
                have x0 := rcell HX7.out 0 _ rfl; have x1 := rcell HX7.out 1 _ rfl; have x2 := rcell HX7.out 2 _ rfl; have x3 := rcell HX7.out 3 _ rfl; have x4 := rcell HX7.out 4 _ rfl; have x5 := rcell HX7.out 5 _ rfl
                rw [HC0.out] at HO7
                go_wp2_with (go_at_call 9; refine Calls.mono (standing_any _ HO7.out) ?_; rintro ee ww ⟨rfl, rfl⟩)
                go_ret
                exact ⟨rfl, HB7.out⟩
            | false =>
              cases has with
              | true =>
                have HFE : Hid (∀ (W : World) (B p b' m : Nat) (f : Int → Value), Ol B W p b' m f ST CT → Calls Try.prog 8 #[.pointer (some ⟨p, 0, none⟩), .int .i64 k, .string b, .int .u64 vd] W fun e w' => e = .returned (.tuple #[.agg #[.int .i64 0, .int .i64 0, .int .i64 0, .int .i64 0, .int .u64 0, .string ⟨#[]⟩], .bool false]) ∧ Below W.heap.size W w') := HFD.out
                clear HFD
                go_upto_region 19 with (go_at_call 8; refine Calls.mono (HFE.out _ _ _ _ _ _ HO.out) ?_; rintro ee W6 ⟨rfl, hb6⟩; have HB6 : Hid (Below w.heap.size w W6) := below_trans HB.out hb6; have HO6 : Hid (Ol W3.heap.size W6 p bm mm f ST CT) := HO.out.up hb6; clear hb6)
                obtain ⟨W7, hW7⟩ : ∃ W7, W7 = W6.alloc (.cells #[.int .i64 0, .int .i64 0, .int .i64 0, .int .i64 0, .int .u64 0, .string ⟨#[]⟩] 36) := ⟨_, rfl⟩
                rw [← hW7]
                have HB7 : Hid (Below w.heap.size w W7) := by rw [hW7]; exact below_trans HB6.out (bel_up _ _)
                have HO7 : Hid (Ol W3.heap.size W7 p bm mm f ST CT) := by rw [hW7]; exact HO6.out.up (bel_up _ _)
                have HX7 : Hid (W7.heap[W6.heap.size]? = some (.cells #[.int .i64 0, .int .i64 0, .int .i64 0, .int .i64 0, .int .u64 0, .string ⟨#[]⟩] 36 (0, 0))) := by rw [hW7]; exact heap_new W6 _
                clear hW7 HB6 HO6
                have x0 := rcell HX7.out 0 _ rfl; have x1 := rcell HX7.out 1 _ rfl; have x2 := rcell HX7.out 2 _ rfl; have x3 := rcell HX7.out 3 _ rfl; have x4 := rcell HX7.out 4 _ rfl; have x5 := rcell HX7.out 5 _ rfl
                go_wp2_with fail
                go_ret
                exact ⟨rfl, HB7.out⟩
              | false =>
                have HFE : Hid (∀ (W : World) (B p b' m : Nat) (f : Int → Value), Ol B W p b' m f ST CT → Calls Try.prog 8 #[.pointer (some ⟨p, 0, none⟩), .int .i64 k, .string b, .int .u64 vd] W fun e w' => e = .returned (.tuple #[.agg #[.int .i64 0, .int .i64 0, .int .i64 0, .int .i64 0, .int .u64 0, .string ⟨#[]⟩], .bool false]) ∧ Below W.heap.size W w') := HFD.out
                clear HFD
                go_upto_region 19 with (go_at_call 8; refine Calls.mono (HFE.out _ _ _ _ _ _ HO.out) ?_; rintro ee W6 ⟨rfl, hb6⟩; have HB6 : Hid (Below w.heap.size w W6) := below_trans HB.out hb6; have HO6 : Hid (Ol W3.heap.size W6 p bm mm f ST CT) := HO.out.up hb6; clear hb6)
                obtain ⟨W7, hW7⟩ : ∃ W7, W7 = W6.alloc (.cells #[.int .i64 0, .int .i64 0, .int .i64 0, .int .i64 0, .int .u64 0, .string ⟨#[]⟩] 36) := ⟨_, rfl⟩
                rw [← hW7]
                have HB7 : Hid (Below w.heap.size w W7) := by rw [hW7]; exact below_trans HB6.out (bel_up _ _)
                have HO7 : Hid (Ol W3.heap.size W7 p bm mm f ST CT) := by rw [hW7]; exact HO6.out.up (bel_up _ _)
                have HX7 : Hid (W7.heap[W6.heap.size]? = some (.cells #[.int .i64 0, .int .i64 0, .int .i64 0, .int .i64 0, .int .u64 0, .string ⟨#[]⟩] 36 (0, 0))) := by rw [hW7]; exact heap_new W6 _
                clear hW7 HB6 HO6
                have x0 := rcell HX7.out 0 _ rfl; have x1 := rcell HX7.out 1 _ rfl; have x2 := rcell HX7.out 2 _ rfl; have x3 := rcell HX7.out 3 _ rfl; have x4 := rcell HX7.out 4 _ rfl; have x5 := rcell HX7.out 5 _ rfl
                go_wp2_with fail
                go_ret
                exact ⟨rfl, HB7.out⟩
          | some x =>
            obtain ⟨h7, h8⟩ := HFS.out x rfl
            cases bad with
            | true => exact absurd h7 (by have h9 := HBE.out; rw [show rgt n l = false from h9]; decide)
            | false =>
              cases has with
              | true =>
                clear h7 h8
                have HFE : Hid (∀ (W : World) (B p b' m : Nat) (f : Int → Value), Ol B W p b' m f ST CT → Calls Try.prog 8 #[.pointer (some ⟨p, 0, none⟩), .int .i64 k, .string b, .int .u64 vd] W fun e w' => e = .returned (.tuple #[.agg #[.int .i64 x.t, .int .i64 x.p, .int .i64 x.l, .int .i64 x.k, .int .u64 x.v, .string x.a], .bool true]) ∧ Below W.heap.size W w') := HFD.out
                clear HFD
                go_upto_region 19 with (go_at_call 8; refine Calls.mono (HFE.out _ _ _ _ _ _ HO.out) ?_; rintro ee W6 ⟨rfl, hb6⟩; have HB6 : Hid (Below w.heap.size w W6) := below_trans HB.out hb6; have HO6 : Hid (Ol W3.heap.size W6 p bm mm f ST CT) := HO.out.up hb6; clear hb6)
                obtain ⟨W7, hW7⟩ : ∃ W7, W7 = W6.alloc (.cells #[.int .i64 x.t, .int .i64 x.p, .int .i64 x.l, .int .i64 x.k, .int .u64 x.v, .string x.a] 36) := ⟨_, rfl⟩
                rw [← hW7]
                have HB7 : Hid (Below w.heap.size w W7) := by rw [hW7]; exact below_trans HB6.out (bel_up _ _)
                have HO7 : Hid (Ol W3.heap.size W7 p bm mm f ST CT) := by rw [hW7]; exact HO6.out.up (bel_up _ _)
                have HX7 : Hid (W7.heap[W6.heap.size]? = some (.cells #[.int .i64 x.t, .int .i64 x.p, .int .i64 x.l, .int .i64 x.k, .int .u64 x.v, .string x.a] 36 (0, 0))) := by rw [hW7]; exact heap_new W6 _
                clear hW7 HB6 HO6
                have x0 := rcell HX7.out 0 _ rfl; have x1 := rcell HX7.out 1 _ rfl; have x2 := rcell HX7.out 2 _ rfl; have x3 := rcell HX7.out 3 _ rfl; have x4 := rcell HX7.out 4 _ rfl; have x5 := rcell HX7.out 5 _ rfl
                go_wp2_with fail
                go_ret
                exact ⟨rfl, HB7.out⟩
              | false => exact absurd h8 (by rw [HHE.out]; decide)
    | false =>
      go_upto_region 10 with fail
      clear hbn hbg
      go_loopg [14, 15, 16, 17] m (fun gm v14 v15 v16 v17 wr => ∃ (i : Nat) (sum : Int) (bad has : Bool), v17 = .int .i64 (i : Int) ∧ v14 = .int .i64 sum ∧ v15 = .bool bad ∧ v16 = .bool has ∧ Hid (i ≤ m ∧ gm = m - i) ∧ Hid (Bad n l i bad sum) ∧ Hid (hsv (l.take i) vd = has) ∧ Hid (Ol W3.heap.size wr p bm mm f ST CT) ∧ Hid (Below w.heap.size w wr))
      case atStart => exact ⟨0, 0, false, false, rfl, rfl, rfl, rfl, ⟨Nat.zero_le _, rfl⟩, HSTART, rfl, HO4, HB4⟩
      case round =>
        obtain ⟨i, sum, bad, has, rfl, rfl, rfl, rfl, HIX, HBD, HHS, HO, HB⟩ := hrel
        clear HSTART HO4 HB4
        by_cases hi : i < m
        · have e1 : decide ((i : Int) < (m : Int)) = true := by rw [decide_eq_true_eq]; omega
          have e2 : decide (i < m) = true := by rw [decide_eq_true_eq]; omega
          have b1 : (i : Int) < (m : Int) := by omega
          have b2 : i < m := hi
          have HIM : Hid (i < m) := hi
          have hwi := w64n i (by have := HL.out; omega)
          obtain ⟨g, og, rfl, hc⟩ := Lv.at HH.out HM.out i hi
          obtain ⟨c0, c1, c2, c3, c4, c5⟩ := hc _ HB.out
          have hdr := drop_cons l lfd i (by have := HM.out; omega)
          have htk := take_getD l lfd i (by have := HM.out; omega)
          have HHN : Hid (hsv (l.take (i + 1)) vd = (has || ((l.getD i lfd).v == vd))) := by show _ = _; rw [htk, hsv_snoc, HHS.out]
          obtain ⟨x, hx⟩ : ∃ x, l.getD i lfd = x := ⟨_, rfl⟩
          rw [hx] at c0 c1 c2 c3 c4 c5 hdr HHN
          have HDR : Hid (l.drop i = x :: l.drop (i + 1)) := hdr
          obtain ⟨xt, xp, xl, xk, xv, xa⟩ := x
          dsimp only at c0 c1 c2 c3 c4 c5 HHN
          have HOU : Hid (∀ o, Ol W3.heap.size (wr.alloc o) p bm mm f ST CT) := fun o => HO.out.up (bel_up _ _)
          have HBU : Hid (∀ o, Below w.heap.size w (wr.alloc o)) := fun o => below_trans HB.out (bel_up _ _)
          clear hi hc hx hdr htk
          cases has with
          | true =>
            cases bad with
            | true =>
              go_wp2_with fail
              go_roundg (m - (i + 1))
              case measure => have := HIX.out; have := HIM.out; omega
              case rel => exact ⟨i + 1, sum, true, true, by first | rfl | (rw [show (i : Int) + 1 = ((i + 1 : Nat) : Int) by omega]), rfl, rfl, rfl, ⟨HIM.out, rfl⟩, HBD, HHN, HOU.out _, HBU.out _⟩
            | false =>
              have HBF : Hid ((0 ≤ n ∧ n ≤ 1048576) ∧ (0 ≤ sum ∧ sum ≤ n) ∧ rgs (n - sum) (⟨xt, xp, xl, xk, xv, xa⟩ :: l.drop (i + 1)) = rgs n l) := by have h7 := HBD.out; unfold Bad at h7; rw [HDR.out] at h7; exact h7
              have HNO : Hid (∀ s', smL ⟨xt, xp, xl, xk, xv, xa⟩ = false ∨ n - sum - (xp + xl) < 0 → Bad n l (i + 1) true s') := fun s' h7 => by
                show rgt n l = false
                have h8 := rgs_no (r := l.drop (i + 1)) (x := ⟨xt, xp, xl, xk, xv, xa⟩) (q := n - sum) h7
                rw [HBF.out.2.2] at h8
                unfold rgt
                rw [h8]; simp
              by_cases g0 : xp < 0
              · have y0 : decide (xp < 0) = true := by rw [decide_eq_true_eq]; exact g0
                have HBN : Hid (Bad n l (i + 1) true sum) := HNO.out _ (.inl (by unfold smL sml; simp only [Bool.and_eq_false_iff, decide_eq_false_iff_not]; omega))
                clear g0
                go_wp2_with fail
                go_roundg (m - (i + 1))
                case measure => have := HIX.out; have := HIM.out; omega
                case rel => exact ⟨i + 1, sum, true, true, by first | rfl | (rw [show (i : Int) + 1 = ((i + 1 : Nat) : Int) by omega]), rfl, rfl, rfl, ⟨HIM.out, rfl⟩, HBN, HHN, HOU.out _, HBU.out _⟩
              · have y0 : decide (xp < 0) = false := by rw [decide_eq_false_iff_not]; exact g0
                by_cases g1 : xl < 0
                · have y1 : decide (xl < 0) = true := by rw [decide_eq_true_eq]; exact g1
                  have HBN : Hid (Bad n l (i + 1) true sum) := HNO.out _ (.inl (by unfold smL sml; simp only [Bool.and_eq_false_iff, decide_eq_false_iff_not]; omega))
                  clear g0 g1
                  go_wp2_with fail
                  go_roundg (m - (i + 1))
                  case measure => have := HIX.out; have := HIM.out; omega
                  case rel => exact ⟨i + 1, sum, true, true, by first | rfl | (rw [show (i : Int) + 1 = ((i + 1 : Nat) : Int) by omega]), rfl, rfl, rfl, ⟨HIM.out, rfl⟩, HBN, HHN, HOU.out _, HBU.out _⟩
                · have y1 : decide (xl < 0) = false := by rw [decide_eq_false_iff_not]; exact g1
                  by_cases g2 : xk < 0
                  · have y2 : decide (xk < 0) = true := by rw [decide_eq_true_eq]; exact g2
                    have HBN : Hid (Bad n l (i + 1) true sum) := HNO.out _ (.inl (by unfold smL sml; simp only [Bool.and_eq_false_iff, decide_eq_false_iff_not]; omega))
                    clear g0 g1 g2
                    go_wp2_with fail
                    go_roundg (m - (i + 1))
                    case measure => have := HIX.out; have := HIM.out; omega
                    case rel => exact ⟨i + 1, sum, true, true, by first | rfl | (rw [show (i : Int) + 1 = ((i + 1 : Nat) : Int) by omega]), rfl, rfl, rfl, ⟨HIM.out, rfl⟩, HBN, HHN, HOU.out _, HBU.out _⟩
                  · have y2 : decide (xk < 0) = false := by rw [decide_eq_false_iff_not]; exact g2
                    by_cases g3 : 1048577 < xp
                    · have y3 : decide ((1048577 : Int) < xp) = true := by rw [decide_eq_true_eq]; exact g3
                      have HBN : Hid (Bad n l (i + 1) true sum) := HNO.out _ (.inl (by unfold smL sml; simp only [Bool.and_eq_false_iff, decide_eq_false_iff_not]; omega))
                      clear g0 g1 g2 g3
                      go_wp2_with fail
                      go_roundg (m - (i + 1))
                      case measure => have := HIX.out; have := HIM.out; omega
                      case rel => exact ⟨i + 1, sum, true, true, by first | rfl | (rw [show (i : Int) + 1 = ((i + 1 : Nat) : Int) by omega]), rfl, rfl, rfl, ⟨HIM.out, rfl⟩, HBN, HHN, HOU.out _, HBU.out _⟩
                    · have y3 : decide ((1048577 : Int) < xp) = false := by rw [decide_eq_false_iff_not]; exact g3
                      by_cases g4 : 1048577 < xl
                      · have y4 : decide ((1048577 : Int) < xl) = true := by rw [decide_eq_true_eq]; exact g4
                        have HBN : Hid (Bad n l (i + 1) true sum) := HNO.out _ (.inl (by unfold smL sml; simp only [Bool.and_eq_false_iff, decide_eq_false_iff_not]; omega))
                        clear g0 g1 g2 g3 g4
                        go_wp2_with fail
                        go_roundg (m - (i + 1))
                        case measure => have := HIX.out; have := HIM.out; omega
                        case rel => exact ⟨i + 1, sum, true, true, by first | rfl | (rw [show (i : Int) + 1 = ((i + 1 : Nat) : Int) by omega]), rfl, rfl, rfl, ⟨HIM.out, rfl⟩, HBN, HHN, HOU.out _, HBU.out _⟩
                      · have y4 : decide ((1048577 : Int) < xl) = false := by rw [decide_eq_false_iff_not]; exact g4
                        by_cases g5 : 1048577 < xk
                        · have y5 : decide ((1048577 : Int) < xk) = true := by rw [decide_eq_true_eq]; exact g5
                          have HBN : Hid (Bad n l (i + 1) true sum) := HNO.out _ (.inl (by unfold smL sml; simp only [Bool.and_eq_false_iff, decide_eq_false_iff_not]; omega))
                          clear g0 g1 g2 g3 g4 g5
                          go_wp2_with fail
                          go_roundg (m - (i + 1))
                          case measure => have := HIX.out; have := HIM.out; omega
                          case rel => exact ⟨i + 1, sum, true, true, by first | rfl | (rw [show (i : Int) + 1 = ((i + 1 : Nat) : Int) by omega]), rfl, rfl, rfl, ⟨HIM.out, rfl⟩, HBN, HHN, HOU.out _, HBU.out _⟩
                        · have y5 : decide ((1048577 : Int) < xk) = false := by rw [decide_eq_false_iff_not]; exact g5
                          have HX : Hid ((0 ≤ xp ∧ xp ≤ 1048577) ∧ (0 ≤ xl ∧ xl ≤ 1048577) ∧ (0 ≤ xk ∧ xk ≤ 1048577)) := ⟨⟨by omega, by omega⟩, ⟨by omega, by omega⟩, ⟨by omega, by omega⟩⟩
                          clear g0 g1 g2 g3 g4 g5
                          have w1 : IntKind.i64.wrap (sum + xp) = sum + xp := by have := HX.out; have := HBF.out; rw [IntKind.wrap_i64]; omega
                          have w2 : IntKind.i64.wrap (sum + xp + xl) = sum + xp + xl := by have := HX.out; have := HBF.out; rw [IntKind.wrap_i64]; omega
                          by_cases gs : n < sum + xp + xl
                          · have ys : decide (n < sum + xp + xl) = true := by rw [decide_eq_true_eq]; exact gs
                            have HBN : Hid (Bad n l (i + 1) true (sum + xp + xl)) := HNO.out _ (.inr (by omega))
                            clear gs
                            go_wp2_with fail
                            go_roundg (m - (i + 1))
                            case measure => have := HIX.out; have := HIM.out; omega
                            case rel => exact ⟨i + 1, (sum + xp + xl), true, true, by first | rfl | (rw [show (i : Int) + 1 = ((i + 1 : Nat) : Int) by omega]), rfl, rfl, rfl, ⟨HIM.out, rfl⟩, HBN, HHN, HOU.out _, HBU.out _⟩
                          · have ys : decide (n < sum + xp + xl) = false := by rw [decide_eq_false_iff_not]; exact gs
                            have HBN : Hid (Bad n l (i + 1) false (sum + xp + xl)) := by
                              show (0 ≤ n ∧ n ≤ 1048576) ∧ (0 ≤ sum + xp + xl ∧ sum + xp + xl ≤ n) ∧ rgs (n - (sum + xp + xl)) (l.drop (i + 1)) = rgs n l
                              have h8 := HBF.out
                              have h9 := HX.out
                              refine ⟨h8.1, ⟨by omega, by omega⟩, ?_⟩
                              rw [← h8.2.2]
                              simp only [rgs]
                              have s1 : smL ⟨xt, xp, xl, xk, xv, xa⟩ = true := by unfold smL sml; simp [h9]
                              have s2 : decide (0 ≤ n - sum - (xp + xl)) = true := by rw [decide_eq_true_eq]; omega
                              rw [s1, s2, show n - sum - (xp + xl) = n - (sum + xp + xl) by omega]; rfl
                            clear gs
                            go_wp2_with fail
                            go_roundg (m - (i + 1))
                            case measure => have := HIX.out; have := HIM.out; omega
                            case rel => exact ⟨i + 1, (sum + xp + xl), false, true, by first | rfl | (rw [show (i : Int) + 1 = ((i + 1 : Nat) : Int) by omega]), rfl, rfl, rfl, ⟨HIM.out, rfl⟩, HBN, HHN, HOU.out _, HBU.out _⟩
          | false =>
            cases bad with
            | true =>
              go_wp2_with fail
              go_roundg (m - (i + 1))
              case measure => have := HIX.out; have := HIM.out; omega
              case rel => exact ⟨i + 1, sum, true, (xv == vd), by first | rfl | (rw [show (i : Int) + 1 = ((i + 1 : Nat) : Int) by omega]), rfl, rfl, rfl, ⟨HIM.out, rfl⟩, HBD, HHN, HOU.out _, HBU.out _⟩
            | false =>
              have HBF : Hid ((0 ≤ n ∧ n ≤ 1048576) ∧ (0 ≤ sum ∧ sum ≤ n) ∧ rgs (n - sum) (⟨xt, xp, xl, xk, xv, xa⟩ :: l.drop (i + 1)) = rgs n l) := by have h7 := HBD.out; unfold Bad at h7; rw [HDR.out] at h7; exact h7
              have HNO : Hid (∀ s', smL ⟨xt, xp, xl, xk, xv, xa⟩ = false ∨ n - sum - (xp + xl) < 0 → Bad n l (i + 1) true s') := fun s' h7 => by
                show rgt n l = false
                have h8 := rgs_no (r := l.drop (i + 1)) (x := ⟨xt, xp, xl, xk, xv, xa⟩) (q := n - sum) h7
                rw [HBF.out.2.2] at h8
                unfold rgt
                rw [h8]; simp
              by_cases g0 : xp < 0
              · have y0 : decide (xp < 0) = true := by rw [decide_eq_true_eq]; exact g0
                have HBN : Hid (Bad n l (i + 1) true sum) := HNO.out _ (.inl (by unfold smL sml; simp only [Bool.and_eq_false_iff, decide_eq_false_iff_not]; omega))
                clear g0
                go_wp2_with fail
                go_roundg (m - (i + 1))
                case measure => have := HIX.out; have := HIM.out; omega
                case rel => exact ⟨i + 1, sum, true, (xv == vd), by first | rfl | (rw [show (i : Int) + 1 = ((i + 1 : Nat) : Int) by omega]), rfl, rfl, rfl, ⟨HIM.out, rfl⟩, HBN, HHN, HOU.out _, HBU.out _⟩
              · have y0 : decide (xp < 0) = false := by rw [decide_eq_false_iff_not]; exact g0
                by_cases g1 : xl < 0
                · have y1 : decide (xl < 0) = true := by rw [decide_eq_true_eq]; exact g1
                  have HBN : Hid (Bad n l (i + 1) true sum) := HNO.out _ (.inl (by unfold smL sml; simp only [Bool.and_eq_false_iff, decide_eq_false_iff_not]; omega))
                  clear g0 g1
                  go_wp2_with fail
                  go_roundg (m - (i + 1))
                  case measure => have := HIX.out; have := HIM.out; omega
                  case rel => exact ⟨i + 1, sum, true, (xv == vd), by first | rfl | (rw [show (i : Int) + 1 = ((i + 1 : Nat) : Int) by omega]), rfl, rfl, rfl, ⟨HIM.out, rfl⟩, HBN, HHN, HOU.out _, HBU.out _⟩
                · have y1 : decide (xl < 0) = false := by rw [decide_eq_false_iff_not]; exact g1
                  by_cases g2 : xk < 0
                  · have y2 : decide (xk < 0) = true := by rw [decide_eq_true_eq]; exact g2
                    have HBN : Hid (Bad n l (i + 1) true sum) := HNO.out _ (.inl (by unfold smL sml; simp only [Bool.and_eq_false_iff, decide_eq_false_iff_not]; omega))
                    clear g0 g1 g2
                    go_wp2_with fail
                    go_roundg (m - (i + 1))
                    case measure => have := HIX.out; have := HIM.out; omega
                    case rel => exact ⟨i + 1, sum, true, (xv == vd), by first | rfl | (rw [show (i : Int) + 1 = ((i + 1 : Nat) : Int) by omega]), rfl, rfl, rfl, ⟨HIM.out, rfl⟩, HBN, HHN, HOU.out _, HBU.out _⟩
                  · have y2 : decide (xk < 0) = false := by rw [decide_eq_false_iff_not]; exact g2
                    by_cases g3 : 1048577 < xp
                    · have y3 : decide ((1048577 : Int) < xp) = true := by rw [decide_eq_true_eq]; exact g3
                      have HBN : Hid (Bad n l (i + 1) true sum) := HNO.out _ (.inl (by unfold smL sml; simp only [Bool.and_eq_false_iff, decide_eq_false_iff_not]; omega))
                      clear g0 g1 g2 g3
                      go_wp2_with fail
                      go_roundg (m - (i + 1))
                      case measure => have := HIX.out; have := HIM.out; omega
                      case rel => exact ⟨i + 1, sum, true, (xv == vd), by first | rfl | (rw [show (i : Int) + 1 = ((i + 1 : Nat) : Int) by omega]), rfl, rfl, rfl, ⟨HIM.out, rfl⟩, HBN, HHN, HOU.out _, HBU.out _⟩
                    · have y3 : decide ((1048577 : Int) < xp) = false := by rw [decide_eq_false_iff_not]; exact g3
                      by_cases g4 : 1048577 < xl
                      · have y4 : decide ((1048577 : Int) < xl) = true := by rw [decide_eq_true_eq]; exact g4
                        have HBN : Hid (Bad n l (i + 1) true sum) := HNO.out _ (.inl (by unfold smL sml; simp only [Bool.and_eq_false_iff, decide_eq_false_iff_not]; omega))
                        clear g0 g1 g2 g3 g4
                        go_wp2_with fail
                        go_roundg (m - (i + 1))
                        case measure => have := HIX.out; have := HIM.out; omega
                        case rel => exact ⟨i + 1, sum, true, (xv == vd), by first | rfl | (rw [show (i : Int) + 1 = ((i + 1 : Nat) : Int) by omega]), rfl, rfl, rfl, ⟨HIM.out, rfl⟩, HBN, HHN, HOU.out _, HBU.out _⟩
                      · have y4 : decide ((1048577 : Int) < xl) = false := by rw [decide_eq_false_iff_not]; exact g4
                        by_cases g5 : 1048577 < xk
                        · have y5 : decide ((1048577 : Int) < xk) = true := by rw [decide_eq_true_eq]; exact g5
                          have HBN : Hid (Bad n l (i + 1) true sum) := HNO.out _ (.inl (by unfold smL sml; simp only [Bool.and_eq_false_iff, decide_eq_false_iff_not]; omega))
                          clear g0 g1 g2 g3 g4 g5
                          go_wp2_with fail
                          go_roundg (m - (i + 1))
                          case measure => have := HIX.out; have := HIM.out; omega
                          case rel => exact ⟨i + 1, sum, true, (xv == vd), by first | rfl | (rw [show (i : Int) + 1 = ((i + 1 : Nat) : Int) by omega]), rfl, rfl, rfl, ⟨HIM.out, rfl⟩, HBN, HHN, HOU.out _, HBU.out _⟩
                        · have y5 : decide ((1048577 : Int) < xk) = false := by rw [decide_eq_false_iff_not]; exact g5
                          have HX : Hid ((0 ≤ xp ∧ xp ≤ 1048577) ∧ (0 ≤ xl ∧ xl ≤ 1048577) ∧ (0 ≤ xk ∧ xk ≤ 1048577)) := ⟨⟨by omega, by omega⟩, ⟨by omega, by omega⟩, ⟨by omega, by omega⟩⟩
                          clear g0 g1 g2 g3 g4 g5
                          have w1 : IntKind.i64.wrap (sum + xp) = sum + xp := by have := HX.out; have := HBF.out; rw [IntKind.wrap_i64]; omega
                          have w2 : IntKind.i64.wrap (sum + xp + xl) = sum + xp + xl := by have := HX.out; have := HBF.out; rw [IntKind.wrap_i64]; omega
                          by_cases gs : n < sum + xp + xl
                          · have ys : decide (n < sum + xp + xl) = true := by rw [decide_eq_true_eq]; exact gs
                            have HBN : Hid (Bad n l (i + 1) true (sum + xp + xl)) := HNO.out _ (.inr (by omega))
                            clear gs
                            go_wp2_with fail
                            go_roundg (m - (i + 1))
                            case measure => have := HIX.out; have := HIM.out; omega
                            case rel => exact ⟨i + 1, (sum + xp + xl), true, (xv == vd), by first | rfl | (rw [show (i : Int) + 1 = ((i + 1 : Nat) : Int) by omega]), rfl, rfl, rfl, ⟨HIM.out, rfl⟩, HBN, HHN, HOU.out _, HBU.out _⟩
                          · have ys : decide (n < sum + xp + xl) = false := by rw [decide_eq_false_iff_not]; exact gs
                            have HBN : Hid (Bad n l (i + 1) false (sum + xp + xl)) := by
                              show (0 ≤ n ∧ n ≤ 1048576) ∧ (0 ≤ sum + xp + xl ∧ sum + xp + xl ≤ n) ∧ rgs (n - (sum + xp + xl)) (l.drop (i + 1)) = rgs n l
                              have h8 := HBF.out
                              have h9 := HX.out
                              refine ⟨h8.1, ⟨by omega, by omega⟩, ?_⟩
                              rw [← h8.2.2]
                              simp only [rgs]
                              have s1 : smL ⟨xt, xp, xl, xk, xv, xa⟩ = true := by unfold smL sml; simp [h9]
                              have s2 : decide (0 ≤ n - sum - (xp + xl)) = true := by rw [decide_eq_true_eq]; omega
                              rw [s1, s2, show n - sum - (xp + xl) = n - (sum + xp + xl) by omega]; rfl
                            clear gs
                            go_wp2_with fail
                            go_roundg (m - (i + 1))
                            case measure => have := HIX.out; have := HIM.out; omega
                            case rel => exact ⟨i + 1, (sum + xp + xl), false, (xv == vd), by first | rfl | (rw [show (i : Int) + 1 = ((i + 1 : Nat) : Int) by omega]), rfl, rfl, rfl, ⟨HIM.out, rfl⟩, HBN, HHN, HOU.out _, HBU.out _⟩
        · have e1 : decide ((i : Int) < (m : Int)) = false := by rw [decide_eq_false_iff_not]; omega
          have e2 : decide (i < m) = false := by rw [decide_eq_false_iff_not]; omega
          have HHE : Hid (hsv l vd = has) := by rw [← HHS.out, List.take_of_length_le (by have := HM.out; omega)]; exact rfl
          have HBE : Hid (if bad = true then rgt n l = false else rgt n l = true) := by
            have h7 := HBD.out
            unfold Bad at h7
            rw [List.drop_eq_nil_of_le (by have := HM.out; omega)] at h7
            cases bad with
            | true => exact h7
            | false =>
              obtain ⟨⟨h0, h1⟩, _, h2⟩ := h7
              show rgt n l = true
              unfold rgt
              rw [← h2]
              simp [h0, h1, rgs]
          clear hi
          cases R with
          | none =>
            cases bad with
            | true =>
              have HC0 : Hid (CT = 0) := HCZ.out (by have h7 := HBE.out; exact h7)
              cases has with
              | true =>
                have HFE : Hid (∀ (W : World) (B p b' m : Nat) (f : Int → Value), Ol B W p b' m f ST CT → Calls Try.prog 8 #[.pointer (some ⟨p, 0, none⟩), .int .i64 k, .string b, .int .u64 vd] W fun e w' => e = .returned (.tuple #[.agg #[.int .i64 0, .int .i64 0, .int .i64 0, .int .i64 0, .int .u64 0, .string ⟨#[]⟩], .bool false]) ∧ Below W.heap.size W w') := HFD.out
                clear HFD
                go_upto_region 19 with (go_at_call 8; refine Calls.mono (HFE.out _ _ _ _ _ _ HO.out) ?_; rintro ee W6 ⟨rfl, hb6⟩; have HB6 : Hid (Below w.heap.size w W6) := below_trans HB.out hb6; have HO6 : Hid (Ol W3.heap.size W6 p bm mm f ST CT) := HO.out.up hb6; clear hb6)
                obtain ⟨W7, hW7⟩ : ∃ W7, W7 = W6.alloc (.cells #[.int .i64 0, .int .i64 0, .int .i64 0, .int .i64 0, .int .u64 0, .string ⟨#[]⟩] 36) := ⟨_, rfl⟩
                rw [← hW7]
                have HB7 : Hid (Below w.heap.size w W7) := by rw [hW7]; exact below_trans HB6.out (bel_up _ _)
                have HO7 : Hid (Ol W3.heap.size W7 p bm mm f ST CT) := by rw [hW7]; exact HO6.out.up (bel_up _ _)
                have HX7 : Hid (W7.heap[W6.heap.size]? = some (.cells #[.int .i64 0, .int .i64 0, .int .i64 0, .int .i64 0, .int .u64 0, .string ⟨#[]⟩] 36 (0, 0))) := by rw [hW7]; exact heap_new W6 _
                clear hW7 HB6 HO6
                have x0 := rcell HX7.out 0 _ rfl; have x1 := rcell HX7.out 1 _ rfl; have x2 := rcell HX7.out 2 _ rfl; have x3 := rcell HX7.out 3 _ rfl; have x4 := rcell HX7.out 4 _ rfl; have x5 := rcell HX7.out 5 _ rfl
                rw [HC0.out] at HO7
                go_wp2_with (go_at_call 9; refine Calls.mono (standing_any _ HO7.out) ?_; rintro ee ww ⟨rfl, rfl⟩)
                go_ret
                exact ⟨rfl, HB7.out⟩
              | false =>
                have HFE : Hid (∀ (W : World) (B p b' m : Nat) (f : Int → Value), Ol B W p b' m f ST CT → Calls Try.prog 8 #[.pointer (some ⟨p, 0, none⟩), .int .i64 k, .string b, .int .u64 vd] W fun e w' => e = .returned (.tuple #[.agg #[.int .i64 0, .int .i64 0, .int .i64 0, .int .i64 0, .int .u64 0, .string ⟨#[]⟩], .bool false]) ∧ Below W.heap.size W w') := HFD.out
                clear HFD
                go_upto_region 19 with (go_at_call 8; refine Calls.mono (HFE.out _ _ _ _ _ _ HO.out) ?_; rintro ee W6 ⟨rfl, hb6⟩; have HB6 : Hid (Below w.heap.size w W6) := below_trans HB.out hb6; have HO6 : Hid (Ol W3.heap.size W6 p bm mm f ST CT) := HO.out.up hb6; clear hb6)
                obtain ⟨W7, hW7⟩ : ∃ W7, W7 = W6.alloc (.cells #[.int .i64 0, .int .i64 0, .int .i64 0, .int .i64 0, .int .u64 0, .string ⟨#[]⟩] 36) := ⟨_, rfl⟩
                rw [← hW7]
                have HB7 : Hid (Below w.heap.size w W7) := by rw [hW7]; exact below_trans HB6.out (bel_up _ _)
                have HO7 : Hid (Ol W3.heap.size W7 p bm mm f ST CT) := by rw [hW7]; exact HO6.out.up (bel_up _ _)
                have HX7 : Hid (W7.heap[W6.heap.size]? = some (.cells #[.int .i64 0, .int .i64 0, .int .i64 0, .int .i64 0, .int .u64 0, .string ⟨#[]⟩] 36 (0, 0))) := by rw [hW7]; exact heap_new W6 _
                clear hW7 HB6 HO6
                have x0 := rcell HX7.out 0 _ rfl; have x1 := rcell HX7.out 1 _ rfl; have x2 := rcell HX7.out 2 _ rfl; have x3 := rcell HX7.out 3 _ rfl; have x4 := rcell HX7.out 4 _ rfl; have x5 := rcell HX7.out 5 _ rfl
                rw [HC0.out] at HO7
                go_wp2_with (go_at_call 9; refine Calls.mono (standing_any _ HO7.out) ?_; rintro ee ww ⟨rfl, rfl⟩)
                go_ret
                exact ⟨rfl, HB7.out⟩
            | false =>
              cases has with
              | true =>
                have HFE : Hid (∀ (W : World) (B p b' m : Nat) (f : Int → Value), Ol B W p b' m f ST CT → Calls Try.prog 8 #[.pointer (some ⟨p, 0, none⟩), .int .i64 k, .string b, .int .u64 vd] W fun e w' => e = .returned (.tuple #[.agg #[.int .i64 0, .int .i64 0, .int .i64 0, .int .i64 0, .int .u64 0, .string ⟨#[]⟩], .bool false]) ∧ Below W.heap.size W w') := HFD.out
                clear HFD
                go_upto_region 19 with (go_at_call 8; refine Calls.mono (HFE.out _ _ _ _ _ _ HO.out) ?_; rintro ee W6 ⟨rfl, hb6⟩; have HB6 : Hid (Below w.heap.size w W6) := below_trans HB.out hb6; have HO6 : Hid (Ol W3.heap.size W6 p bm mm f ST CT) := HO.out.up hb6; clear hb6)
                obtain ⟨W7, hW7⟩ : ∃ W7, W7 = W6.alloc (.cells #[.int .i64 0, .int .i64 0, .int .i64 0, .int .i64 0, .int .u64 0, .string ⟨#[]⟩] 36) := ⟨_, rfl⟩
                rw [← hW7]
                have HB7 : Hid (Below w.heap.size w W7) := by rw [hW7]; exact below_trans HB6.out (bel_up _ _)
                have HO7 : Hid (Ol W3.heap.size W7 p bm mm f ST CT) := by rw [hW7]; exact HO6.out.up (bel_up _ _)
                have HX7 : Hid (W7.heap[W6.heap.size]? = some (.cells #[.int .i64 0, .int .i64 0, .int .i64 0, .int .i64 0, .int .u64 0, .string ⟨#[]⟩] 36 (0, 0))) := by rw [hW7]; exact heap_new W6 _
                clear hW7 HB6 HO6
                have x0 := rcell HX7.out 0 _ rfl; have x1 := rcell HX7.out 1 _ rfl; have x2 := rcell HX7.out 2 _ rfl; have x3 := rcell HX7.out 3 _ rfl; have x4 := rcell HX7.out 4 _ rfl; have x5 := rcell HX7.out 5 _ rfl
                go_wp2_with fail
                go_ret
                exact ⟨rfl, HB7.out⟩
              | false =>
                have HFE : Hid (∀ (W : World) (B p b' m : Nat) (f : Int → Value), Ol B W p b' m f ST CT → Calls Try.prog 8 #[.pointer (some ⟨p, 0, none⟩), .int .i64 k, .string b, .int .u64 vd] W fun e w' => e = .returned (.tuple #[.agg #[.int .i64 0, .int .i64 0, .int .i64 0, .int .i64 0, .int .u64 0, .string ⟨#[]⟩], .bool false]) ∧ Below W.heap.size W w') := HFD.out
                clear HFD
                go_upto_region 19 with (go_at_call 8; refine Calls.mono (HFE.out _ _ _ _ _ _ HO.out) ?_; rintro ee W6 ⟨rfl, hb6⟩; have HB6 : Hid (Below w.heap.size w W6) := below_trans HB.out hb6; have HO6 : Hid (Ol W3.heap.size W6 p bm mm f ST CT) := HO.out.up hb6; clear hb6)
                obtain ⟨W7, hW7⟩ : ∃ W7, W7 = W6.alloc (.cells #[.int .i64 0, .int .i64 0, .int .i64 0, .int .i64 0, .int .u64 0, .string ⟨#[]⟩] 36) := ⟨_, rfl⟩
                rw [← hW7]
                have HB7 : Hid (Below w.heap.size w W7) := by rw [hW7]; exact below_trans HB6.out (bel_up _ _)
                have HO7 : Hid (Ol W3.heap.size W7 p bm mm f ST CT) := by rw [hW7]; exact HO6.out.up (bel_up _ _)
                have HX7 : Hid (W7.heap[W6.heap.size]? = some (.cells #[.int .i64 0, .int .i64 0, .int .i64 0, .int .i64 0, .int .u64 0, .string ⟨#[]⟩] 36 (0, 0))) := by rw [hW7]; exact heap_new W6 _
                clear hW7 HB6 HO6
                have x0 := rcell HX7.out 0 _ rfl; have x1 := rcell HX7.out 1 _ rfl; have x2 := rcell HX7.out 2 _ rfl; have x3 := rcell HX7.out 3 _ rfl; have x4 := rcell HX7.out 4 _ rfl; have x5 := rcell HX7.out 5 _ rfl
                go_wp2_with fail
                go_ret
                exact ⟨rfl, HB7.out⟩
          | some x =>
            obtain ⟨h7, h8⟩ := HFS.out x rfl
            cases bad with
            | true => exact absurd h7 (by have h9 := HBE.out; rw [show rgt n l = false from h9]; decide)
            | false =>
              cases has with
              | true =>
                clear h7 h8
                have HFE : Hid (∀ (W : World) (B p b' m : Nat) (f : Int → Value), Ol B W p b' m f ST CT → Calls Try.prog 8 #[.pointer (some ⟨p, 0, none⟩), .int .i64 k, .string b, .int .u64 vd] W fun e w' => e = .returned (.tuple #[.agg #[.int .i64 x.t, .int .i64 x.p, .int .i64 x.l, .int .i64 x.k, .int .u64 x.v, .string x.a], .bool true]) ∧ Below W.heap.size W w') := HFD.out
                clear HFD
                go_upto_region 19 with (go_at_call 8; refine Calls.mono (HFE.out _ _ _ _ _ _ HO.out) ?_; rintro ee W6 ⟨rfl, hb6⟩; have HB6 : Hid (Below w.heap.size w W6) := below_trans HB.out hb6; have HO6 : Hid (Ol W3.heap.size W6 p bm mm f ST CT) := HO.out.up hb6; clear hb6)
                obtain ⟨W7, hW7⟩ : ∃ W7, W7 = W6.alloc (.cells #[.int .i64 x.t, .int .i64 x.p, .int .i64 x.l, .int .i64 x.k, .int .u64 x.v, .string x.a] 36) := ⟨_, rfl⟩
                rw [← hW7]
                have HB7 : Hid (Below w.heap.size w W7) := by rw [hW7]; exact below_trans HB6.out (bel_up _ _)
                have HO7 : Hid (Ol W3.heap.size W7 p bm mm f ST CT) := by rw [hW7]; exact HO6.out.up (bel_up _ _)
                have HX7 : Hid (W7.heap[W6.heap.size]? = some (.cells #[.int .i64 x.t, .int .i64 x.p, .int .i64 x.l, .int .i64 x.k, .int .u64 x.v, .string x.a] 36 (0, 0))) := by rw [hW7]; exact heap_new W6 _
                clear hW7 HB6 HO6
                have x0 := rcell HX7.out 0 _ rfl; have x1 := rcell HX7.out 1 _ rfl; have x2 := rcell HX7.out 2 _ rfl; have x3 := rcell HX7.out 3 _ rfl; have x4 := rcell HX7.out 4 _ rfl; have x5 := rcell HX7.out 5 _ rfl
                go_wp2_with fail
                go_ret
                exact ⟨rfl, HB7.out⟩
              | false => exact absurd h8 (by rw [HHE.out]; decide)
end Go.Proofs.Ytockmlaaefbfkaa
