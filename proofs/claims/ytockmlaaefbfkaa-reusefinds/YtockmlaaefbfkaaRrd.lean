import Derived.Test.YtockmlaaefbfkaaRrc
namespace Go.Proofs.Ytockmlaaefbfkaa
open Go.RowKit Go.Maps

set_option maxRecDepth 100000 in
/-- One more leaf in a row of the call's own. -/
theorem leaf_run {B : Nat} {W : World} {v : Value} {L : List Lf} (h : W.ownsRow B 36 6 v L.length (flat lf L)) (hB : B ≤ W.heap.size) (x : Lf) (hl : L.length * 56 ≤ 140737488355328) (ty : TypeId) :
    ∃ v' W2, (Builtin.append_ #[22, 22] ty #[v, .slice (some ⟨W.heap.size, 0, none⟩) 1 1]).run Try.prog (W.alloc (.cells (lf x).toArray 36)) = .ok v' W2 ∧ W2.ownsRow B 36 6 v' (L ++ [x]).length (flat lf (L ++ [x])) ∧ Below B W W2 ∧ W.grownBy W2 v.ownBlock := by
  obtain ⟨iS, hi, hx0, hx1, hx2⟩ := info_parts infoLf
  have hsz1 : (W.alloc (.cells (lf x).toArray 36)).heap.size = W.heap.size + 1 := by simp
  obtain ⟨v', W2, hr2, ho2, hg2, hloc⟩ := run_one (P := Try.prog) (W.alloc (.cells (lf x).toArray 36)) 22 ty B 36 iS _ 6 56 Try.underlying22 hi hx0 hx1 hx2 rfl v L.length (flat lf L) (h.alloc _) ⟨W.heap.size, 0, none⟩ 1 (lf x) rfl (fun j u hu => by rw [addPl, Lib.cell_of_heap (heap_new W _)]; rw [Nat.zero_add]; simpa using hu) (lf_one x) (by unfold maxLen; omega) (leaf_fit _ hl) (by omega)
  have hg : W.grownBy W2 v.ownBlock := (World.grownBy_alloc W _ _).trans hg2
  refine ⟨v', W2, hr2, ?_, (Below.refl B W).grown hg hB (fun q hq => (row_tag h q hq).1), hg⟩
  rw [flat_app, List.length_append]
  have e9 : flat lf [x] = lf x := by simp [flat]
  rw [e9]; exact ho2
/-- A block of another kind stays. -/
theorem blk_keep {B : Nat} {W W2 : World} {v : Value} {n : Nat} {xs : List Value} {q : Nat} {cs : Array Value} {t : TypeId} (hg : W.grownBy W2 v.ownBlock) (h : W.ownsRow B 36 6 v n xs) (hb : W.heap[q]? = some (.cells cs t (0, 0))) (ht : 36 ≠ t) : W2.heap[q]? = some (.cells cs t (0, 0)) :=
  (hg.block q (lt_of_heap hb) (fun e => tag_ne_blk h hb ht e.symm)).trans hb
/-- The model of leaves behind an edit. -/
def mL (n : Int) (l : List Lf) : List Lf := if rgt n l then l else []
def mA (n A : Int) (l : List Lf) : Int := if rgt n l then cA n A else 0
def mD (n A D : Int) (l : List Lf) : Int := if rgt n l then cD n A D else 0
def mI (n I : Int) (l : List Lf) : Int := if rgt n l then I else 0
theorem m_cns (n A D : Int) (l : List Lf) : cns (mA n A l) (mD n A D l) 0 (mL n l) = cnz n A D l := by
  unfold mA mD mL cnz
  cases rgt n l <;> rfl
theorem m_sts (n A D I : Int) (l : List Lf) : sts (mA n A l) (mD n A D l) (mI n I l) sb0 0 (mL n l) = stz n A D I l := by
  unfold mA mD mL mI stz
  cases rgt n l <;> rfl
theorem m_in (n A D I : Int) (l : List Lf) (hI : 0 ≤ I ∧ I ≤ 140737488355328) : Rts (mL n l) ∧ (0 ≤ mA n A l ∧ mA n A l ≤ 1048576) ∧ (0 ≤ mD n A D l ∧ mD n A D l ≤ 1048576) ∧ (0 ≤ mI n I l ∧ mI n I l ≤ 140737488355328) ∧ (mL n l).length ≤ l.length := by
  unfold mA mD mL mI
  cases h : rgt n l with
  | false => exact ⟨⟨0, by decide, by decide, rfl⟩, by simp, by simp, by simp, by simp⟩
  | true =>
    have h7 := h
    unfold rgt at h7
    simp only [Bool.and_eq_true, decide_eq_true_eq] at h7
    exact ⟨⟨n, h7.2.1, h7.1, h7.2.2⟩, cA_in n A ⟨h7.1, h7.2.1⟩, cD_in n A D ⟨h7.1, h7.2.1⟩, hI, Nat.le_refl _⟩
set_option maxRecDepth 100000 in
set_option maxHeartbeats 16000000 in
theorem rnew_any {v : Value} {l : List Lf} (n A D : Int) (I : ByteArray) (w : World) (h : Lv w v l) (hl : l.length * 56 ≤ 140737488355328) (hI : I.size ≤ 140737488355328) :
    Calls Try.prog 12 #[.int .i64 n, rsv ru v, edv A D I] w fun e w' => ∃ p v', e = .returned (.pointer (some ⟨p, 0, none⟩)) ∧ Mo w.heap.size w' p v' (mL n l) (mA n A l) (mD n A D l) (mI n I.size l) ∧ Below w.heap.size w w' := by
  have HH : Hid (Lv w v l) := h
  have HIS : Hid (I.size ≤ 140737488355328) := hI
  obtain ⟨a, cap, rfl⟩ := h.form
  obtain ⟨m, hm⟩ : ∃ m, l.length = m := ⟨_, rfl⟩
  have HM : Hid (l.length = m) := hm
  have HRT : Hid (∀ W, Below w.heap.size w W → Calls Try.prog 21 #[.int .i64 n, rsv ru (.slice a l.length cap)] W fun e w' => e = .returned (.bool (rgt n l)) ∧ Below W.heap.size W w') := fun W hb => rRight_any n W (Rw.up h hb) (by omega)
  unfold Lv at HH
  rw [hm] at HH hl HRT ⊢
  have HL : Hid (m * 56 ≤ 140737488355328) := hl
  clear h hm hl hI
  obtain ⟨N, hN⟩ : ∃ N, w.heap.size = N := ⟨_, rfl⟩
  obtain ⟨W1, hW1⟩ : ∃ W1, W1 = ((w.alloc (.cells #[.int .i64 0, .int .i64 0, .int .u64 0, .slice a m cap, .slice none 0 0, .int .i64 0] 33)).alloc (.cells #[.int .i64 A, .int .i64 D, .string I] 24)).alloc (.cells #[.slice none 0 0, .int .i64 0, .int .i64 0, .int .i64 0] 68) := ⟨_, rfl⟩
  have HB1 : Hid (Below w.heap.size w W1) := by rw [hW1]; exact below_trans (below_trans (bel_up _ _) (bel_up _ _)) (bel_up _ _)
  have s1 : ∀ (W : World) (o : Obj), (W.alloc o).heap.size = W.heap.size + 1 := fun W o => by simp
  have HRS : Hid (Rb N (.slice a m cap) W1) := by
    show _ = _
    rw [hW1, ← hN, Below.heap_alloc _ _ _ (by simp; omega), Below.heap_alloc _ _ _ (by simp)]; exact heap_new w _
  have HED : Hid (W1.heap[N + 1]? = some (.cells #[.int .i64 A, .int .i64 D, .string I] 24 (0, 0))) := by
    show _ = _
    have h1 := heap_new (w.alloc (.cells #[.int .i64 0, .int .i64 0, .int .u64 0, .slice a m cap, .slice none 0 0, .int .i64 0] 33)) (.cells #[.int .i64 A, .int .i64 D, .string I] 24)
    rw [s1] at h1
    rw [hW1, ← hN, Below.heap_alloc _ _ _ (by simp)]; exact h1
  have HMD : Hid (W1.heap[N + 1 + 1]? = some (.cells #[.slice none 0 0, .int .i64 0, .int .i64 0, .int .i64 0] 68 (0, 0))) := by
    show _ = _
    have h1 := heap_new ((w.alloc (.cells #[.int .i64 0, .int .i64 0, .int .u64 0, .slice a m cap, .slice none 0 0, .int .i64 0] 33)).alloc (.cells #[.int .i64 A, .int .i64 D, .string I] 24)) (.cells #[.slice none 0 0, .int .i64 0, .int .i64 0, .int .i64 0] 68)
    rw [s1, s1] at h1
    rw [hW1, ← hN]; exact h1
  clear s1
  obtain ⟨KL, hKL⟩ : ∃ K, mL n l = K := ⟨_, rfl⟩
  obtain ⟨KA, hKA⟩ : ∃ K, mA n A l = K := ⟨_, rfl⟩
  obtain ⟨KD, hKD⟩ : ∃ K, mD n A D l = K := ⟨_, rfl⟩
  obtain ⟨KI, hKI⟩ : ∃ K, mI n I.size l = K := ⟨_, rfl⟩
  rw [hKL, hKA, hKD, hKI]
  have HK : Hid (mL n l = KL ∧ mA n A l = KA ∧ mD n A D l = KD ∧ mI n I.size l = KI) := ⟨hKL, hKA, hKD, hKI⟩
  clear hKL hKA hKD hKI
  rw [rsv_is] at HRT ⊢
  unfold rsA at HRT ⊢
  unfold edv
  go_enter Try.func12, Try.ntmps12
  go_upto_region 2 with fail
  rw [← hW1]
  clear hW1
  obtain ⟨ok, hok⟩ : ∃ ok, rgt n l = ok := ⟨_, rfl⟩
  rw [hok] at HRT
  have HOK : Hid (rgt n l = ok) := hok
  clear hok
  obtain ⟨r0, r1, r2, r3, r4, r5⟩ := HRS.out.cs
  go_upto_if 14 with (go_at_call 21; refine Calls.mono (HRT.out _ HB1.out) ?_; rintro ee W2 ⟨rfl, hb2⟩; have HRS2 : Hid (Rb N (.slice a m cap) W2) := HRS.out.up hb2; have HED2 : Hid (W2.heap[N + 1]? = some (.cells #[.int .i64 A, .int .i64 D, .string I] 24 (0, 0))) := (hb2.block _ (lt_of_heap HED.out)).trans HED.out; have HMD2 : Hid (W2.heap[N + 1 + 1]? = some (.cells #[.slice none 0 0, .int .i64 0, .int .i64 0, .int .i64 0] 68 (0, 0))) := (hb2.block _ (lt_of_heap HMD.out)).trans HMD.out; have HB2 : Hid (Below w.heap.size w W2) := below_trans HB1.out hb2; clear hb2)
  clear r0 r1 r2 r3 r4 r5 HRS HED HMD HB1
  cases ok with
  | false =>
    have HKZ : Hid (KL = [] ∧ KA = 0 ∧ KD = 0 ∧ KI = 0) := by
      have h7 := HK.out
      unfold mL mA mD mI at h7
      rw [HOK.out] at h7
      exact ⟨h7.1.symm, h7.2.1.symm, h7.2.2.1.symm, h7.2.2.2.symm⟩
    go_wp2_with fail
    go_ret
    refine ⟨N + 1 + 1, .slice none 0 0, rfl, ?_, HB2.out⟩
    rw [HKZ.out.1, HKZ.out.2.1, HKZ.out.2.2.1, HKZ.out.2.2.2]
    exact ⟨HMD2.out, World.ownsRow_nil _ _ _ _, by omega⟩
  | true =>
    have HRN : Hid ((0 ≤ n ∧ n ≤ 1048576)) := by
      have h7 := HOK.out
      unfold rgt at h7
      simp only [Bool.and_eq_true, decide_eq_true_eq] at h7
      exact ⟨h7.1, h7.2.1⟩
    have HKZ : Hid (KL = l ∧ KA = clm A n ∧ KD = clm D (n - clm A n) ∧ KI = I.size) := by
      have h7 := HK.out
      unfold mL mA mD mI at h7
      rw [HOK.out] at h7
      exact ⟨h7.1.symm, h7.2.1.symm, h7.2.2.1.symm, h7.2.2.2.symm⟩
    clear HK HOK HRT
    go_upto_region 5 with fail
    go_loopg [8] m (fun gm v8 wr => ∃ (i : Nat) (x : Value), v8 = .int .i64 (i : Int) ∧ Hid (i ≤ m ∧ gm = m - i) ∧ Hid (wr.ownsRow N 36 6 x (l.take i).length (flat lf (l.take i))) ∧ Hid (wr.heap[N + 1 + 1]? = some (.cells #[x, .int .i64 0, .int .i64 0, .int .i64 0] 68 (0, 0))) ∧ Hid (Rb N (.slice a m cap) wr) ∧ Hid (wr.heap[N + 1]? = some (.cells #[.int .i64 A, .int .i64 D, .string I] 24 (0, 0))) ∧ Hid (Below w.heap.size w wr))
    case atStart => exact ⟨0, _, rfl, ⟨Nat.zero_le _, rfl⟩, World.ownsRow_nil _ _ _ _, HMD2, HRS2, HED2, HB2⟩
    case round =>
      obtain ⟨i, xs, rfl, HIX, HO, HQ, HR, HE, HB⟩ := hrel
      clear HMD2 HRS2 HED2 HB2
      obtain ⟨-, -, -, r3, -, -⟩ := HR.out.cs
      by_cases hi : i < m
      · have e1 : decide ((i : Int) < (m : Int)) = true := by rw [decide_eq_true_eq]; omega
        have e2 : decide (i < m) = true := by rw [decide_eq_true_eq]; omega
        have b1 : (i : Int) < (m : Int) := by omega
        have b2 : i < m := hi
        have HIM : Hid (i < m) := hi
        have hwi := w64n i (by have := HL.out; omega)
        obtain ⟨g, og, rfl, hc⟩ := Lv.at HH.out HM.out i hi
        have HTK : Hid (l.take (i + 1) = l.take i ++ [l.getD i lfd]) := take_getD l lfd i (by have := HM.out; omega)
        have hln : (l.take i).length = i := by rw [List.length_take]; have := HM.out; omega
        obtain ⟨x, hx⟩ : ∃ x, l.getD i lfd = x := ⟨_, rfl⟩
        obtain ⟨Lt, hLt⟩ : ∃ Lt, l.take i = Lt := ⟨_, rfl⟩
        rw [hx] at hc HTK
        rw [hLt] at HTK HO hln
        have HC : Hid (∀ W', Below w.heap.size w W' → Lc g (og + i * 6) x W') := hc
        have HLN : Hid (Lt.length = i) := hln
        rw [hln] at HO
        obtain ⟨xa, xc, hxs⟩ := row_shape HO.out
        subst hxs
        clear hi hc hx hLt hln
        go_upto_region 7 with fail
        clear r3
        refine wp_region_noPanic ?_
        refine wp_region_held_drew (S := fun V => Lc g (og + i * 6) x V ∧ V.cell? ⟨N, 3, none⟩ = some (.slice (some ⟨g, og, none⟩) m cap)) (by kernel_rfl) ⟨HC.out _ (Below.drew HB.out), (HR.out.up (Below.drew (Below.refl _ _))).cs.2.2.2.1⟩ (fun hHeld => ?_)
        obtain ⟨WD, hWD⟩ : ∃ WD, wr.drew = WD := ⟨_, rfl⟩
        have HOD : Hid (WD.ownsRow N 36 6 (.slice xa i xc) Lt.length (flat lf Lt)) := by rw [← hWD, HLN.out]; exact HO.out
        have HQD : Hid (WD.heap[N + 1 + 1]? = some (.cells #[.slice xa i xc, .int .i64 0, .int .i64 0, .int .i64 0] 68 (0, 0))) := by rw [← hWD]; exact HQ.out
        have HRD : Hid (Rb N (.slice (some ⟨g, og, none⟩) m cap) WD) := by rw [← hWD]; exact HR.out
        have HED : Hid (WD.heap[N + 1]? = some (.cells #[.int .i64 A, .int .i64 D, .string I] 24 (0, 0))) := by rw [← hWD]; exact HE.out
        have HBD : Hid (Below w.heap.size w WD) := by rw [← hWD]; exact Below.drew HB.out
        rw [hWD] at hHeld ⊢
        clear hWD HO HQ HR HE HB
        refine wpAnyH_take (i := 0) (oi := { dst := _, op := _, type := _, pos := _, after := _, guard := _ }) (v := ?_) rfl (by kernel_rfl) (by kernel_rfl) (by kernel_rfl) (fun _ _ _ h => h) (Or.inl ⟨by rfl, ?_⟩) (by assumption) ?_
        rotate_left
        · intro W hSw
          (try dsimp only at hSw)
          obtain ⟨⟨t0, t1, t2, t3, t4, t5⟩, t6⟩ := hSw
          go_simp
          (try with_reducible rfl)
        try simp only [Act.put, List.setIfInBounds_toArray, List.set_cons_zero, List.set_cons_succ]
        refine wpAnyH_take (i := 1) (oi := { dst := _, op := _, type := _, pos := _, after := _, guard := _ }) (v := ?_) rfl (by kernel_rfl) (by kernel_rfl) (by kernel_rfl) (fun _ _ _ h => h) (Or.inl ⟨by rfl, ?_⟩) (by assumption) ?_
        rotate_left
        · intro W hSw
          (try dsimp only at hSw)
          obtain ⟨⟨t0, t1, t2, t3, t4, t5⟩, t6⟩ := hSw
          go_simp
          (try with_reducible rfl)
        try simp only [Act.put, List.setIfInBounds_toArray, List.set_cons_zero, List.set_cons_succ]
        refine wpAnyH_take (i := 2) (oi := { dst := _, op := _, type := _, pos := _, after := _, guard := _ }) (v := ?_) rfl (by kernel_rfl) (by kernel_rfl) (by kernel_rfl) (fun _ _ _ h => h) (Or.inl ⟨by rfl, ?_⟩) (by assumption) ?_
        rotate_left
        · intro W hSw
          (try dsimp only at hSw)
          obtain ⟨⟨t0, t1, t2, t3, t4, t5⟩, t6⟩ := hSw
          go_simp
          (try with_reducible rfl)
        try simp only [Act.put, List.setIfInBounds_toArray, List.set_cons_zero, List.set_cons_succ]
        refine wpAnyH_take (i := 3) (oi := { dst := _, op := _, type := _, pos := _, after := _, guard := _ }) (v := ?_) rfl (by kernel_rfl) (by kernel_rfl) (by kernel_rfl) (fun _ _ _ h => h) (Or.inl ⟨by rfl, ?_⟩) (by assumption) ?_
        rotate_left
        · intro W hSw
          (try dsimp only at hSw)
          obtain ⟨⟨t0, t1, t2, t3, t4, t5⟩, t6⟩ := hSw
          go_simp
          (try with_reducible rfl)
        try simp only [Act.put, List.setIfInBounds_toArray, List.set_cons_zero, List.set_cons_succ]
        refine wpAnyH_take (i := 5) (oi := { dst := _, op := _, type := _, pos := _, after := _, guard := _ }) (v := ?_) rfl (by kernel_rfl) (by kernel_rfl) (by kernel_rfl) (fun _ _ _ h => h) (Or.inl ⟨by rfl, ?_⟩) (by assumption) ?_
        rotate_left
        · intro W hSw
          (try dsimp only at hSw)
          obtain ⟨⟨t0, t1, t2, t3, t4, t5⟩, t6⟩ := hSw
          go_simp
          (try with_reducible rfl)
        try simp only [Act.put, List.setIfInBounds_toArray, List.set_cons_zero, List.set_cons_succ]
        refine wpAnyH_take (i := 6) (oi := { dst := _, op := _, type := _, pos := _, after := _, guard := _ }) (v := ?_) rfl (by kernel_rfl) (by kernel_rfl) (by kernel_rfl) (fun _ _ _ h => h) (Or.inl ⟨by rfl, ?_⟩) (by assumption) ?_
        rotate_left
        · intro W hSw
          (try dsimp only at hSw)
          obtain ⟨⟨t0, t1, t2, t3, t4, t5⟩, t6⟩ := hSw
          go_simp
          (try with_reducible rfl)
        try simp only [Act.put, List.setIfInBounds_toArray, List.set_cons_zero, List.set_cons_succ]
        refine wpAnyH_take (i := 7) (oi := { dst := _, op := _, type := _, pos := _, after := _, guard := _ }) (v := ?_) rfl (by kernel_rfl) (by kernel_rfl) (by kernel_rfl) (fun _ _ _ h => h) (Or.inl ⟨by rfl, ?_⟩) (by assumption) ?_
        rotate_left
        · intro W hSw
          (try dsimp only at hSw)
          obtain ⟨⟨t0, t1, t2, t3, t4, t5⟩, t6⟩ := hSw
          go_simp
          (try with_reducible rfl)
        try simp only [Act.put, List.setIfInBounds_toArray, List.set_cons_zero, List.set_cons_succ]
        refine wpAnyH_take (i := 8) (oi := { dst := _, op := _, type := _, pos := _, after := _, guard := _ }) (v := ?_) rfl (by kernel_rfl) (by kernel_rfl) (by kernel_rfl) (fun _ _ _ h => h) (Or.inl ⟨by rfl, ?_⟩) (by assumption) ?_
        rotate_left
        · intro W hSw
          (try dsimp only at hSw)
          obtain ⟨⟨t0, t1, t2, t3, t4, t5⟩, t6⟩ := hSw
          go_simp
          (try with_reducible rfl)
        try simp only [Act.put, List.setIfInBounds_toArray, List.set_cons_zero, List.set_cons_succ]
        refine wpAnyH_take (i := 9) (oi := { dst := _, op := _, type := _, pos := _, after := _, guard := _ }) (v := ?_) rfl (by kernel_rfl) (by kernel_rfl) (by kernel_rfl) (fun _ _ _ h => h) (Or.inl ⟨by rfl, ?_⟩) (by assumption) ?_
        rotate_left
        · intro W hSw
          (try dsimp only at hSw)
          obtain ⟨⟨t0, t1, t2, t3, t4, t5⟩, t6⟩ := hSw
          go_simp
          (try with_reducible rfl)
        try simp only [Act.put, List.setIfInBounds_toArray, List.set_cons_zero, List.set_cons_succ]
        obtain ⟨va, W2, r2, hO2, hB2, hg2⟩ := leaf_run HOD.out (by have := HBD.out.size; omega) x (by have := HLN.out; have := HL.out; have := HIM.out; omega) 22
        obtain ⟨aa, ac, hva⟩ := row_shape hO2
        subst hva
        have HR2 : Hid _ := r2
        have HO2 : Hid (W2.ownsRow N 36 6 (.slice aa (Lt ++ [x]).length ac) (Lt ++ [x]).length (flat lf (Lt ++ [x]))) := hO2
        have HQ2 : Hid (W2.heap[N + 1 + 1]? = some (.cells #[.slice xa i xc, .int .i64 0, .int .i64 0, .int .i64 0] 68 (0, 0))) := blk_keep hg2 HOD.out HQD.out (by decide)
        have HRR2 : Hid (Rb N (.slice (some ⟨g, og, none⟩) m cap) W2) := blk_keep hg2 HOD.out HRD.out (by decide)
        have HE2 : Hid (W2.heap[N + 1]? = some (.cells #[.int .i64 A, .int .i64 D, .string I] 24 (0, 0))) := blk_keep hg2 HOD.out HED.out (by decide)
        have HB2 : Hid (Below w.heap.size w W2) := HBD.out.trans (by rw [hN]; exact hB2)
        have HLL : Hid ((Lt ++ [x]).length = i + 1) := by show _ = _; rw [List.length_append, HLN.out]; rfl
        rw [HLL.out] at HR2 HO2
        clear r2 hO2 hB2 hg2 hHeld
        have ld3 := rcell HQD.out 0 _ rfl
        refine wpAnyH_ready (rs := [4, 10]) (by kernel_rfl) (by simp) ?_
        refine AllReadyH.cons (o := { dst := _, op := _, type := _, pos := _, after := _, guard := _ }) rfl (fun K hK => ?_) (AllReadyH.cons (o := { dst := _, op := _, type := _, pos := _, after := _, guard := _ }) rfl (fun K hK => ?_) AllReadyH.nil)
        · go_simp
          refine hK.out _ _ ?_ (fun hHeld => ?_)
          · exact ⟨HC.out _ HBD.out, HRD.out.cs.2.2.2.1⟩
          clear hK K hHeld ld3
          try simp only [Act.put, List.setIfInBounds_toArray, List.set_cons_zero, List.set_cons_succ]
          refine wpAnyH_ready (rs := [10]) (by kernel_rfl) (by simp) ?_
          refine AllReadyH.cons (o := { dst := _, op := _, type := _, pos := _, after := _, guard := _ }) rfl (fun K hK => ?_) AllReadyH.nil
          go_simp
          refine hK.out _ _ ?_ (fun hHeld => ?_)
          · exact ⟨HC.out _ (below_trans HBD.out (bel_up _ _)), (HRD.out.up (bel_up _ _)).cs.2.2.2.1⟩
          clear hK K hHeld
          try simp only [Act.put, List.setIfInBounds_toArray, List.set_cons_zero, List.set_cons_succ]
          refine wpAnyH_ready (rs := [11]) (by kernel_rfl) (by simp) ?_
          refine AllReadyH.cons (o := { dst := _, op := _, type := _, pos := _, after := _, guard := _ }) rfl (fun K hK => ?_) AllReadyH.nil
          refine step_append rfl _ _ 22 rfl _ _ (.slice aa (i + 1) ac) W2 rfl rfl HR2.out ?_
          refine hK.out _ _ ?_ (fun hHeld => ?_)
          · exact ⟨HC.out _ HB2.out, HRR2.out.cs.2.2.2.1⟩
          clear hK K
          try simp only [Act.put, List.setIfInBounds_toArray, List.set_cons_zero, List.set_cons_succ]
          refine wpAnyH_take (i := 12) (oi := { dst := _, op := _, type := _, pos := _, after := _, guard := _ }) (v := ?_) rfl (by kernel_rfl) (by kernel_rfl) (by kernel_rfl) (fun _ _ _ h => h) (Or.inl ⟨by rfl, ?_⟩) (by assumption) ?_
          rotate_left
          · intro W hSw
            (try dsimp only at hSw)
            obtain ⟨⟨t0, t1, t2, t3, t4, t5⟩, t6⟩ := hSw
            go_simp
            (try with_reducible rfl)
          try simp only [Act.put, List.setIfInBounds_toArray, List.set_cons_zero, List.set_cons_succ]
          refine wpAnyH_take (i := 13) (oi := { dst := _, op := _, type := _, pos := _, after := _, guard := _ }) (v := ?_) rfl (by kernel_rfl) (by kernel_rfl) (by kernel_rfl) (fun _ _ _ h => h) (Or.inl ⟨by rfl, ?_⟩) (by assumption) ?_
          rotate_left
          · intro W hSw
            (try dsimp only at hSw)
            obtain ⟨⟨t0, t1, t2, t3, t4, t5⟩, t6⟩ := hSw
            go_simp
            (try with_reducible rfl)
          try simp only [Act.put, List.setIfInBounds_toArray, List.set_cons_zero, List.set_cons_succ]
          clear hHeld
          have ld := rcell HQ2.out 0 _ rfl
          have fz := Lib.frozen_of_heap HQ2.out 0
          refine wpAnyH_ready (rs := [14]) (by kernel_rfl) (by simp) ?_
          refine AllReadyH.cons (o := { dst := _, op := _, type := _, pos := _, after := _, guard := _ }) rfl (fun K hK => ?_) AllReadyH.nil
          go_simp
          have HB3 : Hid (Below w.heap.size w (W2.setCell ⟨N + 1 + 1, 0, none⟩ (.slice aa (i + 1) ac))) := HB2.out.setCell (by show _ ≤ N + 1 + 1; omega) _
          have HR3 : Hid (Rb N (.slice (some ⟨g, og, none⟩) m cap) (W2.setCell ⟨N + 1 + 1, 0, none⟩ (.slice aa (i + 1) ac))) := by
            show _ = _
            rw [Below.heap_setCell _ _ _ _ (by show N ≠ N + 1 + 1; omega)]; exact HRR2.out
          refine hK.out _ _ ?_ (fun hHeld => ?_)
          · exact ⟨HC.out _ HB3.out, HR3.out.cs.2.2.2.1⟩
          clear hK K hHeld ld fz
          try simp only [Act.put]
          refine wpAnyH_done (by kernel_rfl) ?_ _
          refine NoPanic.normal ?_
          have HQ3 : Hid ((W2.setCell ⟨N + 1 + 1, 0, none⟩ (.slice aa (i + 1) ac)).heap[N + 1 + 1]? = some (.cells #[.slice aa (i + 1) ac, .int .i64 0, .int .i64 0, .int .i64 0] 68 (0, 0))) := blk_set _ HQ2.out
          have HE3 : Hid ((W2.setCell ⟨N + 1 + 1, 0, none⟩ (.slice aa (i + 1) ac)).heap[N + 1]? = some (.cells #[.int .i64 A, .int .i64 D, .string I] 24 (0, 0))) := by
            show _ = _
            rw [Below.heap_setCell _ _ _ _ (by show N + 1 ≠ N + 1 + 1; omega)]; exact HE2.out
          have HO3 : Hid ((W2.setCell ⟨N + 1 + 1, 0, none⟩ (.slice aa (i + 1) ac)).ownsRow N 36 6 (.slice aa (i + 1) ac) (i + 1) (flat lf (Lt ++ [x]))) := HO2.out.kept grown_set (.inr (tag_ne_blk HO2.out HQ2.out (by decide)))
          clear HR2 HO2 HQ2 HRR2 HB2 HE2 HOD HQD HRD HED HBD
          go_wp2_with fail
          go_roundg (m - (i + 1))
          case measure => have := HIX.out; have := HIM.out; omega
          case rel => exact ⟨i + 1, _, by first | rfl | (rw [show (i : Int) + 1 = ((i + 1 : Nat) : Int) by omega]), ⟨HIM.out, rfl⟩, by rw [HTK.out, HLL.out]; exact HO3, HQ3, HR3, HE3, HB3⟩
        · go_simp
          refine hK.out _ _ ?_ (fun hHeld => ?_)
          · exact ⟨HC.out _ (below_trans HBD.out (bel_up _ _)), (HRD.out.up (bel_up _ _)).cs.2.2.2.1⟩
          clear hK K hHeld
          try simp only [Act.put, List.setIfInBounds_toArray, List.set_cons_zero, List.set_cons_succ]
          refine wpAnyH_ready (rs := [4]) (by kernel_rfl) (by simp) ?_
          refine AllReadyH.cons (o := { dst := _, op := _, type := _, pos := _, after := _, guard := _ }) rfl (fun K hK => ?_) AllReadyH.nil
          clear ld3
          have hq9 := ((bel_up WD (.cells #[.int .i64 x.t, .int .i64 x.p, .int .i64 x.l, .int .i64 x.k, .int .u64 x.v, .string x.a] 36)).block _ (lt_of_heap HQD.out)).trans HQD.out
          have ld3 := rcell hq9 0 _ rfl
          clear hq9
          go_simp
          refine hK.out _ _ ?_ (fun hHeld => ?_)
          · exact ⟨HC.out _ (below_trans HBD.out (bel_up _ _)), (HRD.out.up (bel_up _ _)).cs.2.2.2.1⟩
          clear hK K hHeld ld3
          try simp only [Act.put, List.setIfInBounds_toArray, List.set_cons_zero, List.set_cons_succ]
          refine wpAnyH_ready (rs := [11]) (by kernel_rfl) (by simp) ?_
          refine AllReadyH.cons (o := { dst := _, op := _, type := _, pos := _, after := _, guard := _ }) rfl (fun K hK => ?_) AllReadyH.nil
          refine step_append rfl _ _ 22 rfl _ _ (.slice aa (i + 1) ac) W2 rfl rfl HR2.out ?_
          refine hK.out _ _ ?_ (fun hHeld => ?_)
          · exact ⟨HC.out _ HB2.out, HRR2.out.cs.2.2.2.1⟩
          clear hK K
          try simp only [Act.put, List.setIfInBounds_toArray, List.set_cons_zero, List.set_cons_succ]
          refine wpAnyH_take (i := 12) (oi := { dst := _, op := _, type := _, pos := _, after := _, guard := _ }) (v := ?_) rfl (by kernel_rfl) (by kernel_rfl) (by kernel_rfl) (fun _ _ _ h => h) (Or.inl ⟨by rfl, ?_⟩) (by assumption) ?_
          rotate_left
          · intro W hSw
            (try dsimp only at hSw)
            obtain ⟨⟨t0, t1, t2, t3, t4, t5⟩, t6⟩ := hSw
            go_simp
            (try with_reducible rfl)
          try simp only [Act.put, List.setIfInBounds_toArray, List.set_cons_zero, List.set_cons_succ]
          refine wpAnyH_take (i := 13) (oi := { dst := _, op := _, type := _, pos := _, after := _, guard := _ }) (v := ?_) rfl (by kernel_rfl) (by kernel_rfl) (by kernel_rfl) (fun _ _ _ h => h) (Or.inl ⟨by rfl, ?_⟩) (by assumption) ?_
          rotate_left
          · intro W hSw
            (try dsimp only at hSw)
            obtain ⟨⟨t0, t1, t2, t3, t4, t5⟩, t6⟩ := hSw
            go_simp
            (try with_reducible rfl)
          try simp only [Act.put, List.setIfInBounds_toArray, List.set_cons_zero, List.set_cons_succ]
          clear hHeld
          have ld := rcell HQ2.out 0 _ rfl
          have fz := Lib.frozen_of_heap HQ2.out 0
          refine wpAnyH_ready (rs := [14]) (by kernel_rfl) (by simp) ?_
          refine AllReadyH.cons (o := { dst := _, op := _, type := _, pos := _, after := _, guard := _ }) rfl (fun K hK => ?_) AllReadyH.nil
          go_simp
          have HB3 : Hid (Below w.heap.size w (W2.setCell ⟨N + 1 + 1, 0, none⟩ (.slice aa (i + 1) ac))) := HB2.out.setCell (by show _ ≤ N + 1 + 1; omega) _
          have HR3 : Hid (Rb N (.slice (some ⟨g, og, none⟩) m cap) (W2.setCell ⟨N + 1 + 1, 0, none⟩ (.slice aa (i + 1) ac))) := by
            show _ = _
            rw [Below.heap_setCell _ _ _ _ (by show N ≠ N + 1 + 1; omega)]; exact HRR2.out
          refine hK.out _ _ ?_ (fun hHeld => ?_)
          · exact ⟨HC.out _ HB3.out, HR3.out.cs.2.2.2.1⟩
          clear hK K hHeld ld fz
          try simp only [Act.put]
          refine wpAnyH_done (by kernel_rfl) ?_ _
          refine NoPanic.normal ?_
          have HQ3 : Hid ((W2.setCell ⟨N + 1 + 1, 0, none⟩ (.slice aa (i + 1) ac)).heap[N + 1 + 1]? = some (.cells #[.slice aa (i + 1) ac, .int .i64 0, .int .i64 0, .int .i64 0] 68 (0, 0))) := blk_set _ HQ2.out
          have HE3 : Hid ((W2.setCell ⟨N + 1 + 1, 0, none⟩ (.slice aa (i + 1) ac)).heap[N + 1]? = some (.cells #[.int .i64 A, .int .i64 D, .string I] 24 (0, 0))) := by
            show _ = _
            rw [Below.heap_setCell _ _ _ _ (by show N + 1 ≠ N + 1 + 1; omega)]; exact HE2.out
          have HO3 : Hid ((W2.setCell ⟨N + 1 + 1, 0, none⟩ (.slice aa (i + 1) ac)).ownsRow N 36 6 (.slice aa (i + 1) ac) (i + 1) (flat lf (Lt ++ [x]))) := HO2.out.kept grown_set (.inr (tag_ne_blk HO2.out HQ2.out (by decide)))
          clear HR2 HO2 HQ2 HRR2 HB2 HE2 HOD HQD HRD HED HBD
          go_wp2_with fail
          go_roundg (m - (i + 1))
          case measure => have := HIX.out; have := HIM.out; omega
          case rel => exact ⟨i + 1, _, by first | rfl | (rw [show (i : Int) + 1 = ((i + 1 : Nat) : Int) by omega]), ⟨HIM.out, rfl⟩, by rw [HTK.out, HLL.out]; exact HO3, HQ3, HR3, HE3, HB3⟩
      · have e1 : decide ((i : Int) < (m : Int)) = false := by rw [decide_eq_false_iff_not]; omega
        have e2 : decide (i < m) = false := by rw [decide_eq_false_iff_not]; omega
        have HTA : Hid (l.take i = l) := List.take_of_length_le (by have := HM.out; omega)
        rw [HTA.out] at HO
        obtain ⟨xa, xc, hxs⟩ := row_shape HO.out
        subst hxs
        clear hi
        have HCA : Hid (∀ W, Calls Try.prog 22 #[.int .i64 A, .int .i64 0, .int .i64 n] W fun e w' => e = .returned (.int .i64 KA) ∧ W = w') := fun W => by rw [HKZ.out.2.1]; exact rclamp_any A n HRN.out.1 W
        have HCD : Hid (∀ W, Calls Try.prog 22 #[.int .i64 D, .int .i64 0, .int .i64 (n - KA)] W fun e w' => e = .returned (.int .i64 KD) ∧ W = w') := fun W => by
          rw [HKZ.out.2.2.1, HKZ.out.2.1]
          exact rclamp_any D (n - clm A n) (by have := HRN.out; unfold clm; omega) W
        have HKA : Hid (0 ≤ KA ∧ KA ≤ n) := by rw [HKZ.out.2.1]; have := HRN.out; unfold clm; exact ⟨by omega, by omega⟩
        have wka : IntKind.i64.wrap (n - KA) = n - KA := by have := HKA.out; have := HRN.out; rw [IntKind.wrap_i64]; omega
        have d0 := rcell HE.out 0 _ rfl
        have q1 := rcell HQ.out 1 _ rfl
        have f1 := Lib.frozen_of_heap HQ.out 1
        go_upto_region 9 with (go_at_call 22; refine Calls.mono (HCA.out _) ?_; rintro ee ww ⟨rfl, rfl⟩)
        clear d0 q1 f1 r3
        obtain ⟨WA, hWA⟩ : ∃ WA, WA = wr.setCell ⟨N + 1 + 1, 1, none⟩ (.int .i64 KA) := ⟨_, rfl⟩
        have HQA : Hid (WA.heap[N + 1 + 1]? = some (.cells #[.slice xa l.length xc, .int .i64 KA, .int .i64 0, .int .i64 0] 68 (0, 0))) := by rw [hWA]; exact blk_set _ HQ.out
        have HOA : Hid (WA.ownsRow N 36 6 (.slice xa l.length xc) l.length (flat lf l)) := by rw [hWA]; exact HO.out.kept grown_set (.inr (tag_ne_blk HO.out HQ.out (by decide)))
        have HEA : Hid (WA.heap[N + 1]? = some (.cells #[.int .i64 A, .int .i64 D, .string I] 24 (0, 0))) := by
          show _ = _
          rw [hWA, Below.heap_setCell _ _ _ _ (by show N + 1 ≠ N + 1 + 1; omega)]; exact HE.out
        have HBA : Hid (Below w.heap.size w WA) := by rw [hWA]; exact HB.out.setCell (by show _ ≤ N + 1 + 1; omega) _
        rw [← hWA]
        clear hWA HQ HO HE HB HR
        refine wp_region_noPanic ?_
        refine wp_region_held_drew (S := fun V => V.cell? ⟨N + 1, 1, none⟩ = some (.int .i64 D) ∧ V.cell? ⟨N + 1 + 1, 1, none⟩ = some (.int .i64 KA)) (by kernel_rfl) ⟨rcell (W := WA.drew) HEA.out 1 _ rfl, rcell (W := WA.drew) HQA.out 1 _ rfl⟩ (fun hHeld => ?_)
        obtain ⟨WD, hWD⟩ : ∃ WD, WA.drew = WD := ⟨_, rfl⟩
        have HQB : Hid (WD.heap[N + 1 + 1]? = some (.cells #[.slice xa l.length xc, .int .i64 KA, .int .i64 0, .int .i64 0] 68 (0, 0))) := by rw [← hWD]; exact HQA.out
        have HEB : Hid (WD.heap[N + 1]? = some (.cells #[.int .i64 A, .int .i64 D, .string I] 24 (0, 0))) := by rw [← hWD]; exact HEA.out
        have HOB : Hid (WD.ownsRow N 36 6 (.slice xa l.length xc) l.length (flat lf l)) := by rw [← hWD]; exact HOA.out
        have HBB : Hid (Below w.heap.size w WD) := by rw [← hWD]; exact Below.drew HBA.out
        rw [hWD] at hHeld ⊢
        clear hWD HQA HEA HOA HBA
        refine wpAnyH_take (i := 0) (oi := { dst := _, op := _, type := _, pos := _, after := _, guard := _ }) (v := ?_) rfl (by kernel_rfl) (by kernel_rfl) (by kernel_rfl) (fun _ _ _ h => h) (Or.inl ⟨by rfl, ?_⟩) (by assumption) ?_
        rotate_left
        · intro W hSw
          (try dsimp only at hSw)
          obtain ⟨t0, t1⟩ := hSw
          go_simp
          (try with_reducible rfl)
        try simp only [Act.put, List.setIfInBounds_toArray, List.set_cons_zero, List.set_cons_succ]
        refine wpAnyH_take (i := 1) (oi := { dst := _, op := _, type := _, pos := _, after := _, guard := _ }) (v := ?_) rfl (by kernel_rfl) (by kernel_rfl) (by kernel_rfl) (fun _ _ _ h => h) (Or.inl ⟨by rfl, ?_⟩) (by assumption) ?_
        rotate_left
        · intro W hSw
          (try dsimp only at hSw)
          obtain ⟨t0, t1⟩ := hSw
          go_simp
          (try with_reducible rfl)
        try simp only [Act.put, List.setIfInBounds_toArray, List.set_cons_zero, List.set_cons_succ]
        refine wpAnyH_take (i := 2) (oi := { dst := _, op := _, type := _, pos := _, after := _, guard := _ }) (v := ?_) rfl (by kernel_rfl) (by kernel_rfl) (by kernel_rfl) (fun _ _ _ h => h) (Or.inl ⟨by rfl, ?_⟩) (by assumption) ?_
        rotate_left
        · intro W hSw
          (try dsimp only at hSw)
          obtain ⟨t0, t1⟩ := hSw
          go_simp
          (try with_reducible rfl)
        try simp only [Act.put, List.setIfInBounds_toArray, List.set_cons_zero, List.set_cons_succ]
        refine wpAnyH_take (i := 3) (oi := { dst := _, op := _, type := _, pos := _, after := _, guard := _ }) (v := ?_) rfl (by kernel_rfl) (by kernel_rfl) (by kernel_rfl) (fun _ _ _ h => h) (Or.inl ⟨by rfl, ?_⟩) (by assumption) ?_
        rotate_left
        · intro W hSw
          (try dsimp only at hSw)
          obtain ⟨t0, t1⟩ := hSw
          go_simp
          (try with_reducible rfl)
        try simp only [Act.put, List.setIfInBounds_toArray, List.set_cons_zero, List.set_cons_succ]
        refine wpAnyH_take (i := 4) (oi := { dst := _, op := _, type := _, pos := _, after := _, guard := _ }) (v := ?_) rfl (by kernel_rfl) (by kernel_rfl) (by kernel_rfl) (fun _ _ _ h => h) (Or.inl ⟨by rfl, ?_⟩) (by assumption) ?_
        rotate_left
        · intro W hSw
          (try dsimp only at hSw)
          obtain ⟨t0, t1⟩ := hSw
          go_simp
          (try with_reducible rfl)
        try simp only [Act.put, List.setIfInBounds_toArray, List.set_cons_zero, List.set_cons_succ]
        refine wpAnyH_take (i := 5) (oi := { dst := _, op := _, type := _, pos := _, after := _, guard := _ }) (v := ?_) rfl (by kernel_rfl) (by kernel_rfl) (by kernel_rfl) (fun _ _ _ h => h) (Or.inl ⟨by rfl, ?_⟩) (by assumption) ?_
        rotate_left
        · intro W hSw
          (try dsimp only at hSw)
          obtain ⟨t0, t1⟩ := hSw
          go_simp
          (try with_reducible rfl)
        try simp only [Act.put, List.setIfInBounds_toArray, List.set_cons_zero, List.set_cons_succ]
        refine wpAnyH_take (i := 6) (oi := { dst := _, op := _, type := _, pos := _, after := _, guard := _ }) (v := ?_) rfl (by kernel_rfl) (by kernel_rfl) (by kernel_rfl) (fun _ _ _ h => h) (Or.inl ⟨by rfl, ?_⟩) (by assumption) ?_
        rotate_left
        · intro W hSw
          (try dsimp only at hSw)
          obtain ⟨t0, t1⟩ := hSw
          go_simp
          (try with_reducible rfl)
        try simp only [Act.put, List.setIfInBounds_toArray, List.set_cons_zero, List.set_cons_succ]
        refine wpAnyH_take (i := 7) (oi := { dst := _, op := _, type := _, pos := _, after := _, guard := _ }) (v := ?_) rfl (by kernel_rfl) (by kernel_rfl) (by kernel_rfl) (fun _ _ _ h => h) (Or.inl ⟨by rfl, ?_⟩) (by assumption) ?_
        rotate_left
        · intro W hSw
          (try dsimp only at hSw)
          obtain ⟨t0, t1⟩ := hSw
          go_simp
          (try with_reducible rfl)
        try simp only [Act.put, List.setIfInBounds_toArray, List.set_cons_zero, List.set_cons_succ]
        refine wpAnyH_take (i := 8) (oi := { dst := _, op := _, type := _, pos := _, after := _, guard := _ }) (v := ?_) rfl (by kernel_rfl) (by kernel_rfl) (by kernel_rfl) (fun _ _ _ h => h) (Or.inl ⟨by rfl, ?_⟩) (by assumption) ?_
        rotate_left
        · intro W hSw
          (try dsimp only at hSw)
          obtain ⟨t0, t1⟩ := hSw
          go_simp
          (try with_reducible rfl)
        try simp only [Act.put, List.setIfInBounds_toArray, List.set_cons_zero, List.set_cons_succ]
        refine wpAnyH_ready (rs := [9]) (by kernel_rfl) (by simp) ?_
        refine AllReadyH.cons (o := { dst := _, op := _, type := _, pos := _, after := _, guard := _ }) rfl (fun K hK => ?_) AllReadyH.nil
        go_simp
        refine Calls.mono (HCD.out WD) ?_
        rintro ee ww ⟨rfl, rfl⟩
        refine hK.out _ _ ?_ (fun hHeld => ?_)
        · first | exact trivial | (exact hHeld)
        clear hK K
        try simp only [Act.put, List.setIfInBounds_toArray, List.set_cons_zero, List.set_cons_succ]
        refine wpAnyH_take (i := 10) (oi := { dst := _, op := _, type := _, pos := _, after := _, guard := _ }) (v := ?_) rfl (by kernel_rfl) (by kernel_rfl) (by kernel_rfl) (fun _ _ _ h => h) (Or.inl ⟨by rfl, ?_⟩) (by assumption) ?_
        rotate_left
        · intro W hSw
          (try dsimp only at hSw)
          obtain ⟨t0, t1⟩ := hSw
          go_simp
          (try with_reducible rfl)
        try simp only [Act.put, List.setIfInBounds_toArray, List.set_cons_zero, List.set_cons_succ]
        refine wpAnyH_take (i := 11) (oi := { dst := _, op := _, type := _, pos := _, after := _, guard := _ }) (v := ?_) rfl (by kernel_rfl) (by kernel_rfl) (by kernel_rfl) (fun _ _ _ h => h) (Or.inl ⟨by rfl, ?_⟩) (by assumption) ?_
        rotate_left
        · intro W hSw
          (try dsimp only at hSw)
          obtain ⟨t0, t1⟩ := hSw
          go_simp
          (try with_reducible rfl)
        try simp only [Act.put, List.setIfInBounds_toArray, List.set_cons_zero, List.set_cons_succ]
        have y2 := rcell HQB.out 2 _ rfl
        have z2 := Lib.frozen_of_heap HQB.out 2
        refine wpAnyH_ready (rs := [12]) (by kernel_rfl) (by simp) ?_
        refine AllReadyH.cons (o := { dst := _, op := _, type := _, pos := _, after := _, guard := _ }) rfl (fun K hK => ?_) AllReadyH.nil
        go_simp
        have HQC : Hid ((WD.setCell ⟨N + 1 + 1, 2, none⟩ (.int .i64 KD)).heap[N + 1 + 1]? = some (.cells #[.slice xa l.length xc, .int .i64 KA, .int .i64 KD, .int .i64 0] 68 (0, 0))) := blk_set _ HQB.out
        have HEC : Hid ((WD.setCell ⟨N + 1 + 1, 2, none⟩ (.int .i64 KD)).heap[N + 1]? = some (.cells #[.int .i64 A, .int .i64 D, .string I] 24 (0, 0))) := by
          show _ = _
          rw [Below.heap_setCell _ _ _ _ (by show N + 1 ≠ N + 1 + 1; omega)]; exact HEB.out
        have HOC : Hid ((WD.setCell ⟨N + 1 + 1, 2, none⟩ (.int .i64 KD)).ownsRow N 36 6 (.slice xa l.length xc) l.length (flat lf l)) := HOB.out.kept grown_set (.inr (tag_ne_blk HOB.out HQB.out (by decide)))
        have HBC : Hid (Below w.heap.size w (WD.setCell ⟨N + 1 + 1, 2, none⟩ (.int .i64 KD))) := HBB.out.setCell (by show _ ≤ N + 1 + 1; omega) _
        clear y2 z2
        refine hK.out _ _ ?_ (fun hHeld => ?_)
        · first | exact trivial | (exact ⟨rcell HEC.out 1 _ rfl, rcell HQC.out 1 _ rfl⟩)
        clear hK K
        try simp only [Act.put]
        refine wpAnyH_done (by kernel_rfl) ?_ _
        refine NoPanic.normal ?_
        have d2 := rcell HEC.out 2 _ rfl
        have q3 := rcell HQC.out 3 _ rfl
        have f3 := Lib.frozen_of_heap HQC.out 3
        go_wp2_with fail
        go_ret
        refine ⟨N + 1 + 1, .slice xa l.length xc, rfl, ?_, HBC.out.setCell (by show _ ≤ N + 1 + 1; omega) _⟩
        rw [HKZ.out.1, HKZ.out.2.2.2, hN]
        exact ⟨blk_set _ HQC.out, HOC.out.kept grown_set (.inr (tag_ne_blk HOC.out HQC.out (by decide))), by omega⟩
end Go.Proofs.Ytockmlaaefbfkaa
