import Derived.Test.YthfijmabagjdkaaQta
namespace Go.Proofs.Ythfijmabagjdkaa.Qy
open Go.RowKit Go.Maps

theorem str_dec (x y : ByteArray) : (x.toList == y.toList) = decide (x = y) := by
  rw [ByteArray.toList_eq, ByteArray.toList_eq]
  by_cases h : x = y
  · subst h; simp
  · rw [decide_eq_false h, beq_eq_false_iff_ne]
    intro e
    exact h (ByteArray.ext (Array.toList_inj.1 e))
theorem ixc_no {t : ByteArray} : ∀ (l : List Pn) (k : Nat), (∀ j, j < l.length → (l.getD j pz).cp ≠ t) → ixc l t k = -1
  | [], _, _ => rfl
  | n :: l, k, h => by
    unfold ixc
    rw [if_neg (show n.cp ≠ t from h 0 (by simp))]
    exact ixc_no l (k + 1) fun j hj => h (j + 1) (by simpa using hj)
theorem ixc_at {t : ByteArray} : ∀ (l : List Pn) (i k : Nat), i < l.length → (∀ j, j < i → (l.getD j pz).cp ≠ t) → (l.getD i pz).cp = t → ixc l t k = ((k + i : Nat) : Int)
  | [], i, _, h, _, _ => by cases h
  | n :: l, 0, k, _, _, e => by
    unfold ixc
    rw [if_pos (show n.cp = t from e)]; rfl
  | n :: l, i + 1, k, hi, h, e => by
    unfold ixc
    rw [if_neg (show n.cp ≠ t from h 0 (by omega)), ixc_at l i (k + 1) (by simpa using hi) (fun j hj => h (j + 1) (by omega)) e]
    congr 1; omega
set_option maxRecDepth 100000 in
set_option maxHeartbeats 8000000 in
/-- Node: the place of a capture. -/
theorem rnode_any {vn : Value} {ca : Option Addr} {cn cc : Nat} {l : List Pn} (t : ByteArray) (w : World) (h : Ps w vn l) (hl : l.length ≤ 4611686018427387904) : Calls Try.prog 22 #[.agg #[vn, .slice ca cn cc], .string t] w fun e w' => e = .returned (.int .i64 (cap l t)) ∧ Below w.heap.size w w' := by
  obtain ⟨na, nc, rfl⟩ := h.form
  obtain ⟨n, hn⟩ : ∃ n, l.length = n := ⟨_, rfl⟩
  have HN : Hid (l.length = n ∧ n ≤ 4611686018427387904) := ⟨hn, by rw [← hn]; exact hl⟩
  obtain ⟨w1, hw1⟩ : ∃ w1, w1 = w.alloc (.cells #[.slice na n nc, .slice ca cn cc] 25) := ⟨_, rfl⟩
  obtain ⟨b, hb⟩ : ∃ b, w.heap.size = b := ⟨_, rfl⟩
  have HG : Hid (w1.heap[b]? = some (.cells #[.slice na n nc, .slice ca cn cc] 25 (0, 0))) := by rw [hw1, ← hb]; exact heap_new w _
  have HB1 : Hid (Below w.heap.size w w1) := by rw [hw1]; exact bel_up _ _
  have HP : Hid (Ps w (.slice na n nc) l) := by rw [← hn]; exact h
  have HC : Hid (∀ W, Below w1.heap.size w1 W → W.cell? ⟨b, 0, none⟩ = some (.slice na n nc)) := fun W hW => below_cell hW (rcell HG.out 0 _ rfl)
  obtain ⟨R, hR⟩ : ∃ R, cap l t = R := ⟨_, rfl⟩
  have HR : Hid (cap l t = R) := hR
  rw [hR, hn]
  clear h hl hn hR
  go_enter Try.func22, Try.ntmps22
  go_upto_region 1 with fail
  rw [← hw1]
  clear hw1 hb
  go_upto_region 2 with fail
  go_loopg [5] n (fun gm v5 wr => ∃ i : Nat, v5 = .int .i64 (i : Int) ∧ Hid (i ≤ n ∧ gm = n - i) ∧ Hid (t ≠ ⟨#[]⟩ → ∀ j, j < i → (l.getD j pz).cp ≠ t) ∧ Hid (Below w1.heap.size w1 wr))
  case atStart => exact ⟨0, rfl, ⟨Nat.zero_le _, rfl⟩, fun _ j hj => absurd hj (Nat.not_lt_zero _), Below.refl _ _⟩
  case round =>
    obtain ⟨i, rfl, HI, HX, HB⟩ := hrel
    obtain ⟨w0, hw0⟩ : ∃ w0, w0 = wr := ⟨_, rfl⟩
    rw [← hw0] at HB ⊢
    clear hw0
    have c0 := HC.out w0 HB.out
    by_cases hi : i < n
    · have e1 : decide ((i : Int) < (n : Int)) = true := by rw [decide_eq_true_eq]; omega
      have e2 : decide (i < n) = true := by rw [decide_eq_true_eq]; omega
      have b0 : (0 : Int) ≤ (i : Int) := by omega
      have b1 : (i : Int) < (n : Int) := by omega
      have b2 : i < n := hi
      have HIL : Hid (i < n) := hi
      have hwi : IntKind.i64.wrap ((i : Int) + 1) = (i : Int) + 1 := by have := HN.out; rw [IntKind.wrap_i64]; omega
      obtain ⟨g1, o1, rfl, -, -, -, k3, -⟩ := (HP.out.up (below_trans HB1.out HB.out)).all i (by rw [HN.out.1]; exact hi)
      obtain ⟨d, hd⟩ : ∃ d, (l.getD i pz).cp = d := ⟨_, rfl⟩
      have HD : Hid ((l.getD i pz).cp = d) := hd
      rw [hd] at k3
      clear hi hd
      by_cases h2 : t = ⟨#[]⟩
      · subst h2
        go_wp2_with fail
        go_roundg (n - (i + 1))
        case measure => have := HI.out; have := HIL.out; omega
        case rel => exact ⟨i + 1, by push_cast; rfl, ⟨HIL.out, rfl⟩, fun k => absurd rfl k, HB.out⟩
      · have f3 : (!t.toList.isEmpty) = true := by
          have h9 : (t.toList == (⟨#[]⟩ : ByteArray).toList) = false := by rw [str_dec]; exact decide_eq_false h2
          have h0 : (⟨#[]⟩ : ByteArray).toList = [] := by first | rfl | simp | decide
          rw [h0] at h9
          cases hc : t.toList with
          | nil => rw [hc] at h9; cases h9
          | cons _ _ => rfl
        have HT : Hid (t ≠ ⟨#[]⟩) := h2
        clear h2
        by_cases h1 : d = t
        · subst h1
          have HRI : Hid (R = (i : Int)) := by
            show _ = _
            rw [← HR.out]
            unfold cap
            rw [if_neg HT.out, ixc_at l i 0 (by rw [HN.out.1]; exact HIL.out) (HX.out HT.out) HD.out, Nat.zero_add]
          go_wp2_with fail
          go_ret
          obtain rfl := HRI.out
          exact ⟨rfl, below_trans HB1.out HB.out⟩
        · have f1 : (d.toList == t.toList) = false := by rw [str_dec]; exact decide_eq_false h1
          have HNE : Hid (d ≠ t) := h1
          clear h1
          go_wp2_with fail
          go_roundg (n - (i + 1))
          case measure => have := HI.out; have := HIL.out; omega
          case rel =>
            refine ⟨i + 1, by push_cast; rfl, ⟨HIL.out, rfl⟩, fun k j hj => ?_, HB.out⟩
            rcases Nat.lt_or_ge j i with q | q
            · exact HX.out k j q
            · rw [show j = i by omega, HD.out]; exact HNE.out
    · have e1 : decide ((i : Int) < (n : Int)) = false := by rw [decide_eq_false_iff_not]; omega
      have e2 : decide (i < n) = false := by rw [decide_eq_false_iff_not]; exact hi
      have HE : Hid (R = -1) := by
        show _ = _
        rw [← HR.out]
        unfold cap
        by_cases h0 : t = ⟨#[]⟩
        · rw [if_pos h0]
        · rw [if_neg h0, ixc_no l 0 fun j hj => HX.out h0 j (by have := HN.out; omega)]
      clear hi
      go_wp2_with fail
      go_ret
      obtain rfl := HE.out
      exact ⟨rfl, below_trans HB1.out HB.out⟩
set_option maxRecDepth 100000 in
set_option maxHeartbeats 8000000 in
/-- take: the word that must stand there. -/
theorem rtake_any {B r : Nat} {vl vn vc : Value} {L : List Wd} {m : Rm} (k : Int) (t : List UInt8) (w : World) (h : Rr B w r vl vn vc L m) (he : m.e = 0) (ha : m.at_ ≤ 4611686018427387904) : Calls Try.prog 20 #[.pointer (some ⟨r, 0, none⟩), .int .i64 k, .string ⟨t.toArray⟩] w fun e w' => e = .returned (.tuple #[]) ∧ Rr B w' r vl vn vc L (if seR L m.at_ k t then ⟨m.at_ + 1, m.ns, m.cs, 0, m.po⟩ else ⟨m.at_ + 1, m.ns, m.cs, 200, m.at_⟩) ∧ Kr w w' (fun j => j = r) := by
  have HS : Hid _ := rsees_any m.at_ k t w h
  have HT : Hid _ := rstop_any 200 m.at_ w h he
  have HR : Hid (Rr B w r vl vn vc L m) := h
  have HE : Hid (m.e = 0) := he
  obtain ⟨-, k1, -⟩ := h.open
  obtain ⟨V, hV⟩ : ∃ V, seR L m.at_ k t = V := ⟨_, rfl⟩
  rw [hV] at HS
  rw [hV]
  have hwa : IntKind.i64.wrap ((m.at_ : Int) + 1) = (m.at_ : Int) + 1 := by rw [IntKind.wrap_i64]; omega
  clear h he hV
  cases V with
  | true =>
    have f1 := HR.out.froz 1
    go_enter Try.func20, Try.ntmps20
    go_wp2_with (go_at_call 17; refine Calls.mono HS.out ?_; rintro e w2 ⟨rfl, rfl⟩)
    refine bodyPost_end (results_none rfl _ _ _) rfl ⟨rfl, ?_, ?_⟩
    · have h9 := HR.out.set1 (m.at_ + 1)
      rw [HE.out] at h9
      push_cast at h9
      exact h9
    · exact Kr.set _ _ _ _
  | false =>
    go_enter Try.func20, Try.ntmps20
    go_upto_region 2 with first | (go_at_call 17; refine Calls.mono HS.out ?_; rintro e w2 ⟨rfl, rfl⟩) | (go_at_call 19; refine Calls.mono HT.out ?_; rintro e w3 ⟨rfl, hr3, hk3⟩; have HR3 : Hid (Rr B w3 r vl vn vc L ⟨m.at_, m.ns, m.cs, 200, m.at_⟩) := hr3; have HK3 : Hid (Kr w w3 (fun j => j = r)) := hk3; clear hr3 hk3)
    clear k1
    obtain ⟨-, k1, -⟩ := HR3.out.open
    have f1 := HR3.out.froz 1
    go_wp2_with fail
    refine bodyPost_end (results_none rfl _ _ _) rfl ⟨rfl, ?_, ?_⟩
    · have h9 := HR3.out.set1 (m.at_ + 1)
      push_cast at h9
      exact h9
    · exact HK3.out.trans (Kr.set _ _ _ _) (fun j e => .inl e)
set_option maxRecDepth 100000 in
set_option maxHeartbeats 8000000 in
/-- takeName: a name. -/
theorem rtakeName_any {B r : Nat} {vl vn vc : Value} {L : List Wd} {m : Rm} (w : World) (h : Rr B w r vl vn vc L m) (he : m.e = 0) (ha : m.at_ ≤ 4611686018427387904) : Calls Try.prog 21 #[.pointer (some ⟨r, 0, none⟩)] w fun e w' => e = .returned (.string (if nmR L m.at_ then bs (L.getD m.at_ w0).t else ⟨#[]⟩)) ∧ Rr B w' r vl vn vc L (if nmR L m.at_ then ⟨m.at_ + 1, m.ns, m.cs, 0, m.po⟩ else ⟨m.at_, m.ns, m.cs, 200, m.at_⟩) ∧ Kr w w' (fun j => j = r) := by
  have HS : Hid _ := rnamed_any m.at_ w h
  have HT : Hid _ := rstop_any 200 m.at_ w h he
  have HR : Hid (Rr B w r vl vn vc L m) := h
  have HE : Hid (m.e = 0) := he
  obtain ⟨-, k1, -⟩ := h.open
  obtain ⟨V, hV⟩ : ∃ V, nmR L m.at_ = V := ⟨_, rfl⟩
  have HLT : Hid (V = true → m.at_ < L.length) := fun e => by
    rw [← hV] at e
    unfold nmR at e
    rw [Bool.and_eq_true, decide_eq_true_eq] at e
    exact e.1
  rw [hV] at HS
  rw [hV]
  obtain ⟨X, hX⟩ : ∃ X, bs (L.getD m.at_ w0).t = X := ⟨_, rfl⟩
  rw [hX]
  have HX : Hid (bs (L.getD m.at_ w0).t = X) := hX
  clear hX
  have hwa : IntKind.i64.wrap ((m.at_ : Int) + 1) = (m.at_ : Int) + 1 := by rw [IntKind.wrap_i64]; omega
  have hwb : IntKind.i64.wrap ((m.at_ : Int) + 1 - 1) = (m.at_ : Int) := by rw [IntKind.wrap_i64]; omega
  have hwc : IntKind.i64.wrap (m.at_ : Int) = (m.at_ : Int) := by rw [IntKind.wrap_i64]; omega
  clear h he hV
  cases V with
  | true =>
    have f1 := HR.out.froz 1
    have hlt := HLT.out rfl
    go_enter Try.func21, Try.ntmps21
    go_upto_region 5 with (go_at_call 16; refine Calls.mono HS.out ?_; rintro e w2 ⟨rfl, rfl⟩)
    obtain ⟨w3, hw3⟩ : ∃ w3, w3 = w.setCell ⟨r, 1, none⟩ (.int .i64 ((m.at_ : Int) + 1)) := ⟨_, rfl⟩
    have HR3 : Hid (Rr B w3 r vl vn vc L ⟨m.at_ + 1, m.ns, m.cs, 0, m.po⟩) := by
      have h9 := HR.out.set1 (m.at_ + 1)
      rw [HE.out] at h9
      push_cast at h9
      rw [hw3]
      exact h9
    have HK3 : Hid (Kr w w3 (fun j => j = r)) := by rw [hw3]; exact Kr.set _ _ _ _
    rw [← hw3]
    clear hw3 k1 f1
    obtain ⟨k0, k1, -⟩ := HR3.out.open
    push_cast at k1
    obtain ⟨ad, cap, rfl, hc⟩ := HR3.out.wl
    obtain ⟨g, o, rfl, -, c0, c1, -⟩ := hc m.at_ hlt
    obtain ⟨n, hn⟩ : ∃ n, L.length = n := ⟨_, rfl⟩
    rw [hn] at k0 hlt
    obtain ⟨tt, htt⟩ : ∃ tt, (L.getD m.at_ w0).t = tt := ⟨_, rfl⟩
    rw [htt] at c1
    have HTT : Hid ((L.getD m.at_ w0).t = tt) := htt
    have HQ0 : Hid (∀ W, Below w3.heap.size w3 W → W.cell? ⟨r, 0, none⟩ = some (.slice (some ⟨g, o, none⟩) n cap)) := fun W hW => below_cell hW k0
    have HQ1 : Hid (∀ W, Below w3.heap.size w3 W → W.cell? ⟨r, 1, none⟩ = some (.int .i64 ((m.at_ : Int) + 1))) := fun W hW => below_cell hW k1
    have HQ2 : Hid (∀ W, Below w3.heap.size w3 W → W.cell? ⟨g, o + m.at_ * 4 + 1, none⟩ = some (.string ⟨tt.toArray⟩)) := fun W hW => below_cell hW c1
    have b0 : (0 : Int) ≤ (m.at_ : Int) := by omega
    have b1 : (m.at_ : Int) < (n : Int) := by omega
    have b2 : m.at_ < n := hlt
    clear hc hn htt hlt k0 k1 c1
    refine wp_region_noPanic ?_
    refine wp_region_held_drew (S := fun W => Below w3.heap.size w3 W) (by kernel_rfl) (Below.drew (Below.refl _ _)) (fun hHeld => ?_)
    refine wpAnyH_take (i := 0) (oi := { dst := _, op := _, type := _, pos := _, after := _, guard := _ }) (v := ?_) rfl (by kernel_rfl) (by kernel_rfl) (by kernel_rfl) (fun _ _ _ h => h) (Or.inl ⟨by rfl, ?_⟩) (by assumption) ?_
    rotate_left
    · intro W hSw
      (try dsimp only at hSw)
      go_simp
      (try with_reducible rfl)
    try simp only [Act.put, List.setIfInBounds_toArray, List.set_cons_zero, List.set_cons_succ]
    refine wpAnyH_take (i := 1) (oi := { dst := _, op := _, type := _, pos := _, after := _, guard := _ }) (v := ?_) rfl (by kernel_rfl) (by kernel_rfl) (by kernel_rfl) (fun _ _ _ h => h) (Or.inl ⟨by rfl, ?_⟩) (by assumption) ?_
    rotate_left
    · intro W hSw
      (try dsimp only at hSw)
      go_simp
      (try with_reducible rfl)
    try simp only [Act.put, List.setIfInBounds_toArray, List.set_cons_zero, List.set_cons_succ]
    refine wpAnyH_take (i := 2) (oi := { dst := _, op := _, type := _, pos := _, after := _, guard := _ }) (v := ?_) rfl (by kernel_rfl) (by kernel_rfl) (by kernel_rfl) (fun _ _ _ h => h) (Or.inl ⟨by rfl, ?_⟩) (by assumption) ?_
    rotate_left
    · intro W hSw
      (try dsimp only at hSw)
      go_simp
      (try with_reducible rfl)
    try simp only [Act.put, List.setIfInBounds_toArray, List.set_cons_zero, List.set_cons_succ]
    refine wpAnyH_take (i := 3) (oi := { dst := _, op := _, type := _, pos := _, after := _, guard := _ }) (v := ?_) rfl (by kernel_rfl) (by kernel_rfl) (by kernel_rfl) (fun _ _ _ h => h) (Or.inl ⟨by rfl, ?_⟩) (by assumption) ?_
    rotate_left
    · intro W hSw
      (try dsimp only at hSw)
      have k0 := HQ0.out W hSw
      go_simp
      (try with_reducible rfl)
    try simp only [Act.put, List.setIfInBounds_toArray, List.set_cons_zero, List.set_cons_succ]
    refine wpAnyH_take (i := 4) (oi := { dst := _, op := _, type := _, pos := _, after := _, guard := _ }) (v := ?_) rfl (by kernel_rfl) (by kernel_rfl) (by kernel_rfl) (fun _ _ _ h => h) (Or.inl ⟨by rfl, ?_⟩) (by assumption) ?_
    rotate_left
    · intro W hSw
      (try dsimp only at hSw)
      go_simp
      (try with_reducible rfl)
    try simp only [Act.put, List.setIfInBounds_toArray, List.set_cons_zero, List.set_cons_succ]
    refine wpAnyH_take (i := 5) (oi := { dst := _, op := _, type := _, pos := _, after := _, guard := _ }) (v := ?_) rfl (by kernel_rfl) (by kernel_rfl) (by kernel_rfl) (fun _ _ _ h => h) (Or.inl ⟨by rfl, ?_⟩) (by assumption) ?_
    rotate_left
    · intro W hSw
      (try dsimp only at hSw)
      go_simp
      (try with_reducible rfl)
    try simp only [Act.put, List.setIfInBounds_toArray, List.set_cons_zero, List.set_cons_succ]
    refine wpAnyH_take (i := 6) (oi := { dst := _, op := _, type := _, pos := _, after := _, guard := _ }) (v := ?_) rfl (by kernel_rfl) (by kernel_rfl) (by kernel_rfl) (fun _ _ _ h => h) (Or.inl ⟨by rfl, ?_⟩) (by assumption) ?_
    rotate_left
    · intro W hSw
      (try dsimp only at hSw)
      go_simp
      (try with_reducible rfl)
    try simp only [Act.put, List.setIfInBounds_toArray, List.set_cons_zero, List.set_cons_succ]
    refine wpAnyH_take (i := 7) (oi := { dst := _, op := _, type := _, pos := _, after := _, guard := _ }) (v := ?_) rfl (by kernel_rfl) (by kernel_rfl) (by kernel_rfl) (fun _ _ _ h => h) (Or.inl ⟨by rfl, ?_⟩) (by assumption) ?_
    rotate_left
    · intro W hSw
      (try dsimp only at hSw)
      have k1 := HQ1.out W hSw
      go_simp
      (try with_reducible rfl)
    try simp only [Act.put, List.setIfInBounds_toArray, List.set_cons_zero, List.set_cons_succ]
    refine wpAnyH_take (i := 8) (oi := { dst := _, op := _, type := _, pos := _, after := _, guard := _ }) (v := ?_) rfl (by kernel_rfl) (by kernel_rfl) (by kernel_rfl) (fun _ _ _ h => h) (Or.inl ⟨by rfl, ?_⟩) (by assumption) ?_
    rotate_left
    · intro W hSw
      (try dsimp only at hSw)
      go_simp
      (try with_reducible rfl)
    try simp only [Act.put, List.setIfInBounds_toArray, List.set_cons_zero, List.set_cons_succ]
    refine wpAnyH_take (i := 9) (oi := { dst := _, op := _, type := _, pos := _, after := _, guard := _ }) (v := ?_) rfl (by kernel_rfl) (by kernel_rfl) (by kernel_rfl) (fun _ _ _ h => h) (Or.inl ⟨by rfl, ?_⟩) (by assumption) ?_
    rotate_left
    · intro W hSw
      (try dsimp only at hSw)
      go_simp
      (try with_reducible rfl)
    try simp only [Act.put, List.setIfInBounds_toArray, List.set_cons_zero, List.set_cons_succ]
    refine wpAnyH_take (i := 10) (oi := { dst := _, op := _, type := _, pos := _, after := _, guard := _ }) (v := ?_) rfl (by kernel_rfl) (by kernel_rfl) (by kernel_rfl) (fun _ _ _ h => h) (Or.inl ⟨by rfl, ?_⟩) (by assumption) ?_
    rotate_left
    · intro W hSw
      (try dsimp only at hSw)
      go_simp
      (try with_reducible rfl)
    try simp only [Act.put, List.setIfInBounds_toArray, List.set_cons_zero, List.set_cons_succ]
    refine wpAnyH_take (i := 11) (oi := { dst := _, op := _, type := _, pos := _, after := _, guard := _ }) (v := ?_) rfl (by kernel_rfl) (by kernel_rfl) (by kernel_rfl) (fun _ _ _ h => h) (Or.inl ⟨by rfl, ?_⟩) (by assumption) ?_
    rotate_left
    · intro W hSw
      (try dsimp only at hSw)
      have c1 := HQ2.out W hSw
      go_simp
      (try with_reducible rfl)
    try simp only [Act.put, List.setIfInBounds_toArray, List.set_cons_zero, List.set_cons_succ]
    refine wpAnyH_take (i := 12) (oi := { dst := _, op := _, type := _, pos := _, after := _, guard := _ }) (v := ?_) rfl (by kernel_rfl) (by kernel_rfl) (by kernel_rfl) (fun _ _ _ h => h) (Or.inl ⟨by rfl, ?_⟩) (by assumption) ?_
    rotate_left
    · intro W hSw
      (try dsimp only at hSw)
      go_simp
      (try with_reducible rfl)
    try simp only [Act.put, List.setIfInBounds_toArray, List.set_cons_zero, List.set_cons_succ]
    refine wpAnyH_done (by kernel_rfl) ?_ _
    refine NoPanic.normal ?_
    clear hHeld
    go_wp2_with fail
    go_ret
    have h9 := HX.out
    rw [HTT.out] at h9
    subst h9
    exact ⟨rfl, HR3.out.drew, HK3.out.trans (Kr.of_below (Below.drew (Below.refl _ _))) (fun j e => .inl e)⟩
  | false =>
    go_enter Try.func21, Try.ntmps21
    go_wp2_with first | (go_at_call 16; refine Calls.mono HS.out ?_; rintro e w2 ⟨rfl, rfl⟩) | (go_at_call 19; refine Calls.mono HT.out ?_; rintro e w3 ⟨rfl, hr3, hk3⟩; have HR3 : Hid (Rr B w3 r vl vn vc L ⟨m.at_, m.ns, m.cs, 200, m.at_⟩) := hr3; have HK3 : Hid (Kr w w3 (fun j => j = r)) := hk3; clear hr3 hk3)
    go_ret
    exact ⟨rfl, HR3.out, HK3.out⟩
end Go.Proofs.Ythfijmabagjdkaa.Qy
