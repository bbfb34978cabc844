import Derived.Test.YtkjcnnecdclgfabDoorGmc
namespace Go.Proofs.YtkjcnnecdclgfabDoor
open Go.RowKit Go.Shelf

theorem beyond_any (lp : Option Addr) (n cap : Nat) (w : World) : Calls Tryd.prog 11 #[.slice lp n cap] w fun e w' => e = .returned (.bool (decide (65536 < n))) ∧ w' = w := by
  go_enter Tryd.func11, Tryd.ntmps11
  go_wp2_with fail
  go_ret
  refine ⟨ret_bool ?_, rfl⟩
  rw [decide_eq_decide]
  omega
theorem cv_bare_neq (m : Nat → Bool) (W : World) : (binOp .neq 36 (CV m) (.agg #[.int .u64 0, .int .u64 0, .int .u64 0, .int .u64 0])).run Tryd.prog W = .ok (.bool (!bl m)) W := by
  have := eq32 9998 (wd m 0) (wd m 1) (wd m 2) (wd m 3) 0 0 0 0 W
  have e : decide (wd m 0 = 0 ∧ wd m 1 = 0 ∧ wd m 2 = 0 ∧ wd m 3 = 0) = bl m := by
    unfold bl
    generalize wd m 0 = x0; generalize wd m 1 = x1; generalize wd m 2 = x2; generalize wd m 3 = x3
    simp only [Bool.decide_and, Bool.and_assoc]
    rfl
  rw [e] at this
  rw [run_neq_struct]
  rw [show (.agg #[.int .u64 0, .int .u64 0, .int .u64 0, .int .u64 0] : Value) = .agg #[.int .u64 ((0 : Nat) : Int), .int .u64 ((0 : Nat) : Int), .int .u64 ((0 : Nat) : Int), .int .u64 ((0 : Nat) : Int)] by rfl, this]
  rfl
theorem one_at (m : Nat → Bool) (h : bl m = false) (c : UInt8) : (RD [⟨1, m, -1, -1⟩] [c]).1 = m c.toNat :=
  Bool.eq_iff_iff.2 ⟨fun k => by
    obtain ⟨d, h3, h4⟩ := (one_rd m h [c]).1 k
    rw [(List.cons.inj h3).1]
    exact h4, fun k => (one_rd m h [c]).2 ⟨c, rfl, k⟩⟩
/-- A list of one node, new. -/
theorem lst_one (w : World) (n : Nd) : Lst (w.alloc (.cells #[.int .i64 n.op, .int .u64 (wd n.m 0 : Nat), .int .u64 (wd n.m 1 : Nat), .int .u64 (wd n.m 2 : Nat), .int .u64 (wd n.m 3 : Nat), .int .i64 n.a, .int .i64 n.b] 38)) (some ⟨w.heap.size, 0, none⟩) w.heap.size 0 1 [n] := by
  refine ⟨fun _ => rfl, fun _ => by simp, ⟨fun p nd s e => ?_⟩⟩
  have hp : p = [] ∧ nd = n := by
    cases p with
    | nil => exact ⟨rfl, by injection e with e1 _; exact e1.symm⟩
    | cons y p => injection e with _ e2; cases p <;> cases e2
  obtain ⟨rfl, rfl⟩ := hp
  refine ⟨?_, ?_, ?_, ?_, ?_, ?_, ?_⟩
  all_goals (rw [World.cell?_alloc_at _ _ _ _ (by simp)]; rfl)

set_option maxRecDepth 100000 in
set_option maxHeartbeats 8000000 in
theorem regexMeans_any (op : Int) (a b : List Nd) (m : Nat → Bool) (s : ByteArray) (lp lq : Option Addr) (g o ca g' o' cb : Nat) (w : World) (h : Lst w lp g o ca a) (h' : Lst w lq g' o' cb b) (hD : Dbt w) (hs : s.size < 1000000000000000) :
    Calls Tryd.prog 4 #[.int .i64 op, .slice lp a.length ca, .slice lq b.length cb, CV m, .string s] w fun e w' => e = .returned (.bool true) ∧ Below w.heap.size w w' := by
  obtain ⟨na, hna⟩ : ∃ na, a.length = na := ⟨_, rfl⟩
  obtain ⟨nb, hnb⟩ : ∃ nb, b.length = nb := ⟨_, rfl⟩
  have HNA : Hid (a.length = na) := hna
  have HNB : Hid (b.length = nb) := hnb
  rw [hna, hnb]
  have HA : Hid (Lst w lp g o ca a) := h
  have HB : Hid (Lst w lq g' o' cb b) := h'
  have HD : Hid (Dbt w) := hD
  have HS : Hid (s.size < 1000000000000000) := hs
  clear h h' hD hs hna hnb
  go_enter Tryd.func4, Tryd.ntmps4
  go_wp2_with fail
  have hbx := BoxC.new w m 36
  obtain ⟨W1, hW1⟩ : ∃ W1, W1 = w.alloc (.cells #[.int .u64 (wd m 0 : Nat), .int .u64 (wd m 1 : Nat), .int .u64 (wd m 2 : Nat), .int .u64 (wd m 3 : Nat)] 36) := ⟨_, rfl⟩
  rw [← hW1] at hbx ⊢
  have HX1 : Hid (BoxC W1 w.heap.size m) := hbx
  have HB1 : Hid (Below w.heap.size w W1) := by rw [hW1]; exact bel_up _ _
  clear hW1 hbx
  refine (beyond_any lp na ca W1).mono ?_
  rintro e w1 ⟨rfl, rfl⟩
  by_cases hb1 : 65536 < na
  · rw [decide_eq_true hb1]
    clear hb1
    go_wp2_with fail
    go_ret
    exact ⟨rfl, HB1.out⟩
  rw [decide_eq_false hb1]
  go_wp2_with fail
  refine (beyond_any lq nb cb w1).mono ?_
  rintro e w2 ⟨rfl, rfl⟩
  by_cases hb2 : 65536 < nb
  · rw [decide_eq_true hb2]
    clear hb2 hb1
    go_wp2_with fail
    go_ret
    exact ⟨rfl, HB1.out⟩
  rw [decide_eq_false hb2]
  have HLE : Hid (na ≤ 65536 ∧ nb ≤ 65536) := ⟨by omega, by omega⟩
  clear hb1 hb2
  go_wp2_with fail
  refine (awake_any w2 (HD.out.up HB1.out)).mono ?_
  rintro e w3 ⟨rfl, hb3⟩
  have HX3 : Hid (BoxC w3 w.heap.size m) := HX1.out.mono hb3
  have HB3 : Hid (Below w.heap.size w w3) := below_trans HB1.out hb3
  clear hb3
  go_upto_region 6 with fail
  obtain ⟨W4, hW4⟩ : ∃ W4, W4 = w3.alloc (.cells #[.int .u64 0, .int .u64 0, .int .u64 0, .int .u64 0] 36) := ⟨_, rfl⟩
  have hz4 : W4.cell? ⟨w3.heap.size, 0, none⟩ = some (.int .u64 0) ∧ W4.cell? ⟨w3.heap.size, 1, none⟩ = some (.int .u64 0) ∧ W4.cell? ⟨w3.heap.size, 2, none⟩ = some (.int .u64 0) ∧ W4.cell? ⟨w3.heap.size, 3, none⟩ = some (.int .u64 0) := by
    rw [hW4]
    refine ⟨?_, ?_, ?_, ?_⟩
    all_goals (rw [World.cell?_alloc_at _ _ _ _ (by simp)]; rfl)
  rw [← hW4]
  have HX4 : Hid (BoxC W4 w.heap.size m) := by rw [hW4]; exact HX3.out.up _
  have HB4 : Hid (Below w.heap.size w W4) := by rw [hW4]; exact below_trans HB3.out (bel_up _ _)
  clear hW4
  obtain ⟨y0, y1, y2, y3⟩ := hz4
  obtain ⟨x0, x1, x2, x3, -⟩ := HX4.out
  have hne := cv_bare_neq m
  obtain ⟨bz, hbz⟩ : ∃ bz, (!bl m) = bz := ⟨_, rfl⟩
  rw [hbz] at hne
  have HBZ : Hid ((!bl m) = bz) := hbz
  clear hbz
  have HM : Hid (∀ (re : List Nd) (lt : Option Addr) (gt ot ct nt : Nat) (W : World), Lst W lt gt ot ct re → re.length = nt → nt < 1000000 → Dbt W → MC lt nt ct (fun x => (RD re x).1) W) := fun re lt gt ot ct nt W h1 h2 h3 h4 => mc_of re lt gt ot ct nt W h1 h2 (by omega) h4
  have HNU : Hid (∀ (re : List Nd) (lt : Option Addr) (gt ot ct nt : Nat) (W : World), Lst W lt gt ot ct re → re.length = nt → nt < 1000000 → Dbt W → Calls Tryd.prog 13 #[.slice lt nt ct] W fun e w' => e = .returned (.bool (RD re []).1) ∧ Below W.heap.size W w') := fun re lt gt ot ct nt W h1 h2 h3 h4 => by
    have c := nullable_any re lt gt ot ct W h1 (by omega) h4
    rw [h2] at c
    exact c
  go_upto_if 27 with fail
  go_cut [] from 12 to 47 (fun wq => Below w.heap.size w wq)
  case first =>
    clear hne
    cases bz
    · go_wp2_with fail
      go_meet
      exact HB4.out
    · have HBL : Hid (bl m = false) := by
        show bl m = false
        have h := HBZ.out
        generalize bl m = q at h ⊢
        cases q
        · rfl
        · cases h
      go_upto_region 8 with fail
      have hl1 := lst_one W4 ⟨1, m, -1, -1⟩
      dsimp only at hl1
      obtain ⟨W5, hW5⟩ : ∃ W5, W5 = W4.alloc (.cells #[.int .i64 1, .int .u64 (wd m 0 : Nat), .int .u64 (wd m 1 : Nat), .int .u64 (wd m 2 : Nat), .int .u64 (wd m 3 : Nat), .int .i64 (-1), .int .i64 (-1)] 38) := ⟨_, rfl⟩
      rw [← hW5] at hl1 ⊢
      have HX5 : Hid (BoxC W5 w.heap.size m) := by rw [hW5]; exact HX4.out.up _
      have HB5 : Hid (Below w.heap.size w W5) := by rw [hW5]; exact below_trans HB4.out (bel_up _ _)
      have HL5 : Hid (Lst W5 (some ⟨W4.heap.size, 0, none⟩) W4.heap.size 0 1 [⟨1, m, -1, -1⟩]) := hl1
      clear hW5 hl1 x0 x1 x2 x3 y0 y1 y2 y3
      have HNE : Hid ((RD [⟨1, m, -1, -1⟩] []).1 = false) := by
        show _ = _
        cases hq : (RD [⟨1, m, -1, -1⟩] []).1
        · rfl
        · obtain ⟨c, hc, _⟩ := (one_rd m HBL.out []).1 hq; cases hc
      by_cases h1 : s.size = 1
      · obtain ⟨c, hc⟩ : ∃ c, s.get! 0 = c := ⟨_, rfl⟩
        have hdl : s.data.toList = [c] := by
          have h2 := drop_at s 0 (by omega)
          rw [List.drop_zero, hc, List.drop_eq_nil_of_le (by simp; omega)] at h2
          exact h2
        have hrd : (RD [⟨1, m, -1, -1⟩] s.data.toList).1 = m c.toNat := by
          rw [hdl]
          exact one_at m HBL.out c
        have hix : ∀ W : World, (Instr.index 9 (.string s) (.int .i64 0)).run Tryd.prog W = .ok (.int .u8 (c.toNat : Int)) W := by
          intro W
          have h2 := idx_fact s 0 (by omega) W
          rw [hc, show ((0 : Nat) : Int) = 0 from rfl] at h2
          exact h2
        have HRD : Hid ((RD [⟨1, m, -1, -1⟩] s.data.toList).1 = m c.toNat) := hrd
        obtain ⟨bb, hbb⟩ : ∃ bb, m c.toNat = bb := ⟨_, rfl⟩
        have HBB : Hid (m c.toNat = bb) := hbb
        have e1 : ((s.size : Int) == 1) = true := by rw [h1]; rfl
        have e2 : s.size = 1 := h1
        have e3 : (bb != bb) = false := by cases bb <;> rfl
        clear hdl hrd hc hbb
        refine wp_region_noPanic ?_
        refine wp_region_held_drew (S := fun W' => W'.cell? ⟨w.heap.size, 0, none⟩ = some (.int .u64 (wd m 0 : Nat)) ∧ W'.cell? ⟨w.heap.size, 1, none⟩ = some (.int .u64 (wd m 1 : Nat)) ∧ W'.cell? ⟨w.heap.size, 2, none⟩ = some (.int .u64 (wd m 2 : Nat)) ∧ W'.cell? ⟨w.heap.size, 3, none⟩ = some (.int .u64 (wd m 3 : Nat))) (by kernel_rfl) ⟨HX5.out.c0, HX5.out.c1, HX5.out.c2, HX5.out.c3⟩ (fun hHeld => ?_)
        obtain ⟨WD, hWD⟩ : ∃ WD, W5.drew = WD := ⟨_, rfl⟩
        have B0 : Hid (Below w.heap.size w WD) := by rw [← hWD]; exact Below.drew HB5.out
        have L0 : Hid (Lst WD (some ⟨W4.heap.size, 0, none⟩) W4.heap.size 0 1 [⟨1, m, -1, -1⟩]) := by rw [← hWD]; exact HL5.out.up (Below.drew (Below.refl _ _))
        rw [hWD] at hHeld ⊢
        clear hWD
        refine wpAnyH_take (i := 0) (oi := { dst := _, op := _, type := _, pos := _, after := _, guard := _ }) (v := ?_) rfl (by kernel_rfl) (by kernel_rfl) (by kernel_rfl) (fun _ _ _ h => h) (Or.inl ⟨by rfl, ?_⟩) (by assumption) ?_
        rotate_left
        · intro W hSw
          (try dsimp only at hSw)
          obtain ⟨z1, z2, z3, z4⟩ := hSw
          go_simp
          (try with_reducible rfl)
        try simp only [Act.put, List.setIfInBounds_toArray, List.set_cons_zero, List.set_cons_succ]
        refine wpAnyH_take (i := 1) (oi := { dst := _, op := _, type := _, pos := _, after := _, guard := _ }) (v := ?_) rfl (by kernel_rfl) (by kernel_rfl) (by kernel_rfl) (fun _ _ _ h => h) (Or.inl ⟨by rfl, ?_⟩) (by assumption) ?_
        rotate_left
        · intro W hSw
          (try dsimp only at hSw)
          obtain ⟨z1, z2, z3, z4⟩ := hSw
          go_simp
          (try with_reducible rfl)
        try simp only [Act.put, List.setIfInBounds_toArray, List.set_cons_zero, List.set_cons_succ]
        refine wpAnyH_take (i := 3) (oi := { dst := _, op := _, type := _, pos := _, after := _, guard := _ }) (v := ?_) rfl (by kernel_rfl) (by kernel_rfl) (by kernel_rfl) (fun _ _ _ h => h) (Or.inl ⟨by rfl, ?_⟩) (by assumption) ?_
        rotate_left
        · intro W hSw
          (try dsimp only at hSw)
          obtain ⟨z1, z2, z3, z4⟩ := hSw
          go_simp
          (try with_reducible rfl)
        try simp only [Act.put, List.setIfInBounds_toArray, List.set_cons_zero, List.set_cons_succ]
        refine wpAnyH_take (i := 4) (oi := { dst := _, op := _, type := _, pos := _, after := _, guard := _ }) (v := ?_) rfl (by kernel_rfl) (by kernel_rfl) (by kernel_rfl) (fun _ _ _ h => h) (Or.inl ⟨by rfl, ?_⟩) (by assumption) ?_
        rotate_left
        · intro W hSw
          (try dsimp only at hSw)
          obtain ⟨z1, z2, z3, z4⟩ := hSw
          go_simp
          (try with_reducible rfl)
        try simp only [Act.put, List.setIfInBounds_toArray, List.set_cons_zero, List.set_cons_succ]
        refine wpAnyH_take (i := 5) (oi := { dst := _, op := _, type := _, pos := _, after := _, guard := _ }) (v := ?_) rfl (by kernel_rfl) (by kernel_rfl) (by kernel_rfl) (fun _ _ _ h => h) (Or.inl ⟨by rfl, ?_⟩) (by assumption) ?_
        rotate_left
        · intro W hSw
          (try dsimp only at hSw)
          obtain ⟨z1, z2, z3, z4⟩ := hSw
          go_simp
          (try with_reducible rfl)
        try simp only [Act.put, List.setIfInBounds_toArray, List.set_cons_zero, List.set_cons_succ]
        refine wpAnyH_ready (rs := [2]) (by kernel_rfl) (by simp) ?_
        refine AllReadyH.cons (o := { dst := _, op := _, type := _, pos := _, after := _, guard := _ }) rfl (fun K hK => ?_) AllReadyH.nil
        go_simp
        refine Calls.mono (HM.out [⟨1, m, -1, -1⟩] _ W4.heap.size 0 1 1 WD L0.out rfl (by omega) (HD.out.up B0.out) s WD (Below.refl _ _) HS.out) ?_
        rintro e WE ⟨rfl, hbq⟩
        have B1 : Hid (Below w.heap.size w WE) := below_trans B0.out hbq
        have L1 : Hid (Lst WE (some ⟨W4.heap.size, 0, none⟩) W4.heap.size 0 1 [⟨1, m, -1, -1⟩]) := L0.out.up hbq
        dsimp only
        rw [HRD.out, HBB.out]
        refine hK.out _ _ ?_ (fun hHeld => ?_)
        · first | exact trivial | (exact ⟨below_cell hbq hHeld.1, below_cell hbq hHeld.2.1, below_cell hbq hHeld.2.2.1, below_cell hbq hHeld.2.2.2⟩)
        clear hK K
        try simp only [Act.put, List.setIfInBounds_toArray, List.set_cons_zero, List.set_cons_succ]
        refine wpAnyH_take (i := 6) (oi := { dst := _, op := _, type := _, pos := _, after := _, guard := _ }) (v := ?_) rfl (by kernel_rfl) (by kernel_rfl) (by kernel_rfl) (fun _ _ _ h => h) (Or.inl ⟨by rfl, ?_⟩) (by assumption) ?_
        rotate_left
        · intro W hSw
          (try dsimp only at hSw)
          obtain ⟨z1, z2, z3, z4⟩ := hSw
          go_simp
          (try with_reducible rfl)
        try simp only [Act.put, List.setIfInBounds_toArray, List.set_cons_zero, List.set_cons_succ]
        refine wpAnyH_take (i := 7) (oi := { dst := _, op := _, type := _, pos := _, after := _, guard := _ }) (v := ?_) rfl (by kernel_rfl) (by kernel_rfl) (by kernel_rfl) (fun _ _ _ h => h) (Or.inl ⟨by rfl, ?_⟩) (by assumption) ?_
        rotate_left
        · intro W hSw
          (try dsimp only at hSw)
          obtain ⟨z1, z2, z3, z4⟩ := hSw
          go_simp
          (try with_reducible rfl)
        try simp only [Act.put, List.setIfInBounds_toArray, List.set_cons_zero, List.set_cons_succ]
        refine wpAnyH_take (i := 8) (oi := { dst := _, op := _, type := _, pos := _, after := _, guard := _ }) (v := ?_) rfl (by kernel_rfl) (by kernel_rfl) (by kernel_rfl) (fun _ _ _ h => h) (Or.inl ⟨by rfl, ?_⟩) (by assumption) ?_
        rotate_left
        · intro W hSw
          (try dsimp only at hSw)
          obtain ⟨z1, z2, z3, z4⟩ := hSw
          go_simp
          (try with_reducible rfl)
        try simp only [Act.put, List.setIfInBounds_toArray, List.set_cons_zero, List.set_cons_succ]
        refine wpAnyH_take (i := 9) (oi := { dst := _, op := _, type := _, pos := _, after := _, guard := _ }) (v := ?_) rfl (by kernel_rfl) (by kernel_rfl) (by kernel_rfl) (fun _ _ _ h => h) (Or.inl ⟨by rfl, ?_⟩) (by assumption) ?_
        rotate_left
        · intro W hSw
          (try dsimp only at hSw)
          obtain ⟨z1, z2, z3, z4⟩ := hSw
          go_simp
          (try with_reducible rfl)
        try simp only [Act.put, List.setIfInBounds_toArray, List.set_cons_zero, List.set_cons_succ]
        refine wpAnyH_ready (rs := [10]) (by kernel_rfl) (by simp) ?_
        refine AllReadyH.cons (o := { dst := _, op := _, type := _, pos := _, after := _, guard := _ }) rfl (fun K hK => ?_) AllReadyH.nil
        go_simp
        refine (has_any m c.toNat (UInt8.toNat_lt _) _).mono ?_
        rintro e WF ⟨rfl, hbq⟩
        rw [HBB.out]
        have B2 : Hid (Below w.heap.size w WF) := below_trans B1.out hbq
        have L2 : Hid (Lst WF (some ⟨W4.heap.size, 0, none⟩) W4.heap.size 0 1 [⟨1, m, -1, -1⟩]) := L1.out.up hbq
        refine hK.out _ _ ?_ (fun hHeld => ?_)
        · first | exact trivial | (exact ⟨below_cell hbq hHeld.1, below_cell hbq hHeld.2.1, below_cell hbq hHeld.2.2.1, below_cell hbq hHeld.2.2.2⟩)
        clear hK K
        try simp only [Act.put, List.setIfInBounds_toArray, List.set_cons_zero, List.set_cons_succ]
        refine wpAnyH_take (i := 11) (oi := { dst := _, op := _, type := _, pos := _, after := _, guard := _ }) (v := ?_) rfl (by kernel_rfl) (by kernel_rfl) (by kernel_rfl) (fun _ _ _ h => h) (Or.inl ⟨by rfl, ?_⟩) (by assumption) ?_
        rotate_left
        · intro W hSw
          (try dsimp only at hSw)
          obtain ⟨z1, z2, z3, z4⟩ := hSw
          go_simp
          (try with_reducible rfl)
        try simp only [Act.put, List.setIfInBounds_toArray, List.set_cons_zero, List.set_cons_succ]
        refine wpAnyH_take (i := 12) (oi := { dst := _, op := _, type := _, pos := _, after := _, guard := _ }) (v := ?_) rfl (by kernel_rfl) (by kernel_rfl) (by kernel_rfl) (fun _ _ _ h => h) (Or.inl ⟨by rfl, ?_⟩) (by assumption) ?_
        rotate_left
        · intro W hSw
          (try dsimp only at hSw)
          obtain ⟨z1, z2, z3, z4⟩ := hSw
          go_simp
          (try with_reducible rfl)
        try simp only [Act.put, List.setIfInBounds_toArray, List.set_cons_zero, List.set_cons_succ]
        refine wpAnyH_take (i := 13) (oi := { dst := _, op := _, type := _, pos := _, after := _, guard := _ }) (v := ?_) rfl (by kernel_rfl) (by kernel_rfl) (by kernel_rfl) (fun _ _ _ h => h) (Or.inl ⟨by rfl, ?_⟩) (by assumption) ?_
        rotate_left
        · intro W hSw
          (try dsimp only at hSw)
          obtain ⟨z1, z2, z3, z4⟩ := hSw
          go_simp
          (try with_reducible rfl)
        try simp only [Act.put, List.setIfInBounds_toArray, List.set_cons_zero, List.set_cons_succ]
        refine wpAnyH_take (i := 14) (oi := { dst := _, op := _, type := _, pos := _, after := _, guard := _ }) (v := ?_) rfl (by kernel_rfl) (by kernel_rfl) (by kernel_rfl) (fun _ _ _ h => h) (Or.inl ⟨by rfl, ?_⟩) (by assumption) ?_
        rotate_left
        · intro W hSw
          (try dsimp only at hSw)
          obtain ⟨z1, z2, z3, z4⟩ := hSw
          go_simp
          (try with_reducible rfl)
        try simp only [Act.put, List.setIfInBounds_toArray, List.set_cons_zero, List.set_cons_succ]
        refine wpAnyH_ready (rs := [15]) (by kernel_rfl) (by simp) ?_
        refine AllReadyH.cons (o := { dst := _, op := _, type := _, pos := _, after := _, guard := _ }) rfl (fun K hK => ?_) AllReadyH.nil
        go_simp
        refine Calls.mono (HNU.out [⟨1, m, -1, -1⟩] _ W4.heap.size 0 1 1 _ L2.out rfl (by omega) (HD.out.up B2.out)) ?_
        rintro e WG ⟨rfl, hbq⟩
        rw [HNE.out]
        have B3 : Hid (Below w.heap.size w WG) := below_trans B2.out hbq
        refine hK.out _ _ ?_ (fun hHeld => ?_)
        · first | exact trivial | (exact ⟨below_cell hbq hHeld.1, below_cell hbq hHeld.2.1, below_cell hbq hHeld.2.2.1, below_cell hbq hHeld.2.2.2⟩)
        clear hK K
        try simp only [Act.put, List.setIfInBounds_toArray, List.set_cons_zero, List.set_cons_succ]
        refine wpAnyH_take (i := 16) (oi := { dst := _, op := _, type := _, pos := _, after := _, guard := _ }) (v := ?_) rfl (by kernel_rfl) (by kernel_rfl) (by kernel_rfl) (fun _ _ _ h => h) (Or.inl ⟨by rfl, ?_⟩) (by assumption) ?_
        rotate_left
        · intro W hSw
          (try dsimp only at hSw)
          obtain ⟨z1, z2, z3, z4⟩ := hSw
          go_simp
          (try with_reducible rfl)
        try simp only [Act.put, List.setIfInBounds_toArray, List.set_cons_zero, List.set_cons_succ]
        refine wpAnyH_done (by kernel_rfl) ?_ _
        refine NoPanic.normal ?_
        go_wp2_with fail
        go_meet
        exact B3.out
      · have hrd : (RD [⟨1, m, -1, -1⟩] s.data.toList).1 = false := by
          cases hq : (RD [⟨1, m, -1, -1⟩] s.data.toList).1
          · rfl
          · obtain ⟨d, h3, _⟩ := (one_rd m HBL.out _).1 hq
            have h4 := congrArg List.length h3
            simp at h4
            exact absurd h4 h1
        have HRD : Hid ((RD [⟨1, m, -1, -1⟩] s.data.toList).1 = false) := hrd
        have e1 : ((s.size : Int) == 1) = false := by rw [beq_eq_false_iff_ne]; omega
        clear hrd
        refine wp_region_noPanic ?_
        refine wp_region_held_drew (S := fun W' => W'.cell? ⟨w.heap.size, 0, none⟩ = some (.int .u64 (wd m 0 : Nat)) ∧ W'.cell? ⟨w.heap.size, 1, none⟩ = some (.int .u64 (wd m 1 : Nat)) ∧ W'.cell? ⟨w.heap.size, 2, none⟩ = some (.int .u64 (wd m 2 : Nat)) ∧ W'.cell? ⟨w.heap.size, 3, none⟩ = some (.int .u64 (wd m 3 : Nat))) (by kernel_rfl) ⟨HX5.out.c0, HX5.out.c1, HX5.out.c2, HX5.out.c3⟩ (fun hHeld => ?_)
        obtain ⟨WD, hWD⟩ : ∃ WD, W5.drew = WD := ⟨_, rfl⟩
        have B0 : Hid (Below w.heap.size w WD) := by rw [← hWD]; exact Below.drew HB5.out
        have L0 : Hid (Lst WD (some ⟨W4.heap.size, 0, none⟩) W4.heap.size 0 1 [⟨1, m, -1, -1⟩]) := by rw [← hWD]; exact HL5.out.up (Below.drew (Below.refl _ _))
        rw [hWD] at hHeld ⊢
        clear hWD
        refine wpAnyH_take (i := 0) (oi := { dst := _, op := _, type := _, pos := _, after := _, guard := _ }) (v := ?_) rfl (by kernel_rfl) (by kernel_rfl) (by kernel_rfl) (fun _ _ _ h => h) (Or.inl ⟨by rfl, ?_⟩) (by assumption) ?_
        rotate_left
        · intro W hSw
          (try dsimp only at hSw)
          obtain ⟨z1, z2, z3, z4⟩ := hSw
          go_simp
          (try with_reducible rfl)
        try simp only [Act.put, List.setIfInBounds_toArray, List.set_cons_zero, List.set_cons_succ]
        refine wpAnyH_take (i := 1) (oi := { dst := _, op := _, type := _, pos := _, after := _, guard := _ }) (v := ?_) rfl (by kernel_rfl) (by kernel_rfl) (by kernel_rfl) (fun _ _ _ h => h) (Or.inl ⟨by rfl, ?_⟩) (by assumption) ?_
        rotate_left
        · intro W hSw
          (try dsimp only at hSw)
          obtain ⟨z1, z2, z3, z4⟩ := hSw
          go_simp
          (try with_reducible rfl)
        try simp only [Act.put, List.setIfInBounds_toArray, List.set_cons_zero, List.set_cons_succ]
        refine wpAnyH_take (i := 3) (oi := { dst := _, op := _, type := _, pos := _, after := _, guard := _ }) (v := ?_) rfl (by kernel_rfl) (by kernel_rfl) (by kernel_rfl) (fun _ _ _ h => h) (Or.inl ⟨by rfl, ?_⟩) (by assumption) ?_
        rotate_left
        · intro W hSw
          (try dsimp only at hSw)
          obtain ⟨z1, z2, z3, z4⟩ := hSw
          go_simp
          (try with_reducible rfl)
        try simp only [Act.put, List.setIfInBounds_toArray, List.set_cons_zero, List.set_cons_succ]
        refine wpAnyH_take (i := 4) (oi := { dst := _, op := _, type := _, pos := _, after := _, guard := _ }) (v := ?_) rfl (by kernel_rfl) (by kernel_rfl) (by kernel_rfl) (fun _ _ _ h => h) (Or.inl ⟨by rfl, ?_⟩) (by assumption) ?_
        rotate_left
        · intro W hSw
          (try dsimp only at hSw)
          obtain ⟨z1, z2, z3, z4⟩ := hSw
          go_simp
          (try with_reducible rfl)
        try simp only [Act.put, List.setIfInBounds_toArray, List.set_cons_zero, List.set_cons_succ]
        refine wpAnyH_take (i := 5) (oi := { dst := _, op := _, type := _, pos := _, after := _, guard := _ }) (v := ?_) rfl (by kernel_rfl) (by kernel_rfl) (by kernel_rfl) (fun _ _ _ h => h) (Or.inl ⟨by rfl, ?_⟩) (by assumption) ?_
        rotate_left
        · intro W hSw
          (try dsimp only at hSw)
          obtain ⟨z1, z2, z3, z4⟩ := hSw
          go_simp
          (try with_reducible rfl)
        try simp only [Act.put, List.setIfInBounds_toArray, List.set_cons_zero, List.set_cons_succ]
        refine wpAnyH_ready (rs := [2]) (by kernel_rfl) (by simp) ?_
        refine AllReadyH.cons (o := { dst := _, op := _, type := _, pos := _, after := _, guard := _ }) rfl (fun K hK => ?_) AllReadyH.nil
        go_simp
        refine Calls.mono (HM.out [⟨1, m, -1, -1⟩] _ W4.heap.size 0 1 1 WD L0.out rfl (by omega) (HD.out.up B0.out) s WD (Below.refl _ _) HS.out) ?_
        rintro e WE ⟨rfl, hbq⟩
        have B1 : Hid (Below w.heap.size w WE) := below_trans B0.out hbq
        have L1 : Hid (Lst WE (some ⟨W4.heap.size, 0, none⟩) W4.heap.size 0 1 [⟨1, m, -1, -1⟩]) := L0.out.up hbq
        dsimp only
        rw [HRD.out]
        refine hK.out _ _ ?_ (fun hHeld => ?_)
        · first | exact trivial | (exact ⟨below_cell hbq hHeld.1, below_cell hbq hHeld.2.1, below_cell hbq hHeld.2.2.1, below_cell hbq hHeld.2.2.2⟩)
        clear hK K
        try simp only [Act.put, List.setIfInBounds_toArray, List.set_cons_zero, List.set_cons_succ]
        refine wpAnyH_take (i := 6) (oi := { dst := _, op := _, type := _, pos := _, after := _, guard := _ }) (v := ?_) rfl (by kernel_rfl) (by kernel_rfl) (by kernel_rfl) (fun _ _ _ h => h) (Or.inl ⟨by rfl, ?_⟩) (by assumption) ?_
        rotate_left
        · intro W hSw
          (try dsimp only at hSw)
          obtain ⟨z1, z2, z3, z4⟩ := hSw
          go_simp
          (try with_reducible rfl)
        try simp only [Act.put, List.setIfInBounds_toArray, List.set_cons_zero, List.set_cons_succ]
        refine wpAnyH_take (i := 7) (oi := { dst := _, op := _, type := _, pos := _, after := _, guard := _ }) rfl (by kernel_rfl) (by kernel_rfl) (by kernel_rfl) (fun _ _ _ h => h) (Or.inr ⟨by rfl, rfl⟩) (by assumption) ?_
        try simp only [Act.put, List.setIfInBounds_toArray, List.set_cons_zero, List.set_cons_succ]
        refine wpAnyH_take (i := 8) (oi := { dst := _, op := _, type := _, pos := _, after := _, guard := _ }) rfl (by kernel_rfl) (by kernel_rfl) (by kernel_rfl) (fun _ _ _ h => h) (Or.inr ⟨by rfl, rfl⟩) (by assumption) ?_
        try simp only [Act.put, List.setIfInBounds_toArray, List.set_cons_zero, List.set_cons_succ]
        refine wpAnyH_take (i := 9) (oi := { dst := _, op := _, type := _, pos := _, after := _, guard := _ }) rfl (by kernel_rfl) (by kernel_rfl) (by kernel_rfl) (fun _ _ _ h => h) (Or.inr ⟨by rfl, rfl⟩) (by assumption) ?_
        try simp only [Act.put, List.setIfInBounds_toArray, List.set_cons_zero, List.set_cons_succ]
        refine wpAnyH_take (i := 10) (oi := { dst := _, op := _, type := _, pos := _, after := _, guard := _ }) rfl (by kernel_rfl) (by kernel_rfl) (by kernel_rfl) (fun _ _ _ h => h) (Or.inr ⟨by rfl, rfl⟩) (by assumption) ?_
        try simp only [Act.put, List.setIfInBounds_toArray, List.set_cons_zero, List.set_cons_succ]
        refine wpAnyH_take (i := 11) (oi := { dst := _, op := _, type := _, pos := _, after := _, guard := _ }) (v := ?_) rfl (by kernel_rfl) (by kernel_rfl) (by kernel_rfl) (fun _ _ _ h => h) (Or.inl ⟨by rfl, ?_⟩) (by assumption) ?_
        rotate_left
        · intro W hSw
          (try dsimp only at hSw)
          obtain ⟨z1, z2, z3, z4⟩ := hSw
          go_simp
          (try with_reducible rfl)
        try simp only [Act.put, List.setIfInBounds_toArray, List.set_cons_zero, List.set_cons_succ]
        refine wpAnyH_take (i := 12) (oi := { dst := _, op := _, type := _, pos := _, after := _, guard := _ }) (v := ?_) rfl (by kernel_rfl) (by kernel_rfl) (by kernel_rfl) (fun _ _ _ h => h) (Or.inl ⟨by rfl, ?_⟩) (by assumption) ?_
        rotate_left
        · intro W hSw
          (try dsimp only at hSw)
          obtain ⟨z1, z2, z3, z4⟩ := hSw
          go_simp
          (try with_reducible rfl)
        try simp only [Act.put, List.setIfInBounds_toArray, List.set_cons_zero, List.set_cons_succ]
        refine wpAnyH_take (i := 13) (oi := { dst := _, op := _, type := _, pos := _, after := _, guard := _ }) (v := ?_) rfl (by kernel_rfl) (by kernel_rfl) (by kernel_rfl) (fun _ _ _ h => h) (Or.inl ⟨by rfl, ?_⟩) (by assumption) ?_
        rotate_left
        · intro W hSw
          (try dsimp only at hSw)
          obtain ⟨z1, z2, z3, z4⟩ := hSw
          go_simp
          (try with_reducible rfl)
        try simp only [Act.put, List.setIfInBounds_toArray, List.set_cons_zero, List.set_cons_succ]
        refine wpAnyH_take (i := 14) (oi := { dst := _, op := _, type := _, pos := _, after := _, guard := _ }) (v := ?_) rfl (by kernel_rfl) (by kernel_rfl) (by kernel_rfl) (fun _ _ _ h => h) (Or.inl ⟨by rfl, ?_⟩) (by assumption) ?_
        rotate_left
        · intro W hSw
          (try dsimp only at hSw)
          obtain ⟨z1, z2, z3, z4⟩ := hSw
          go_simp
          (try with_reducible rfl)
        try simp only [Act.put, List.setIfInBounds_toArray, List.set_cons_zero, List.set_cons_succ]
        refine wpAnyH_ready (rs := [15]) (by kernel_rfl) (by simp) ?_
        refine AllReadyH.cons (o := { dst := _, op := _, type := _, pos := _, after := _, guard := _ }) rfl (fun K hK => ?_) AllReadyH.nil
        go_simp
        refine Calls.mono (HNU.out [⟨1, m, -1, -1⟩] _ W4.heap.size 0 1 1 _ L1.out rfl (by omega) (HD.out.up B1.out)) ?_
        rintro e WG ⟨rfl, hbq⟩
        rw [HNE.out]
        have B3 : Hid (Below w.heap.size w WG) := below_trans B1.out hbq
        refine hK.out _ _ ?_ (fun hHeld => ?_)
        · first | exact trivial | (exact ⟨below_cell hbq hHeld.1, below_cell hbq hHeld.2.1, below_cell hbq hHeld.2.2.1, below_cell hbq hHeld.2.2.2⟩)
        clear hK K
        try simp only [Act.put, List.setIfInBounds_toArray, List.set_cons_zero, List.set_cons_succ]
        refine wpAnyH_take (i := 16) (oi := { dst := _, op := _, type := _, pos := _, after := _, guard := _ }) (v := ?_) rfl (by kernel_rfl) (by kernel_rfl) (by kernel_rfl) (fun _ _ _ h => h) (Or.inl ⟨by rfl, ?_⟩) (by assumption) ?_
        rotate_left
        · intro W hSw
          (try dsimp only at hSw)
          obtain ⟨z1, z2, z3, z4⟩ := hSw
          go_simp
          (try with_reducible rfl)
        try simp only [Act.put, List.setIfInBounds_toArray, List.set_cons_zero, List.set_cons_succ]
        refine wpAnyH_done (by kernel_rfl) ?_ _
        refine NoPanic.normal ?_
        go_wp2_with fail
        go_meet
        exact B3.out
  case rest =>
    have HB6 : Hid (Below w.heap.size w wc) := hcut
    clear hcut hne x0 x1 x2 x3 y0 y1 y2 y3
    go_upto_region 11 with fail
    have hl1 := lst_one wc (zro 2 (-1) (-1))
    simp only [zro, wd_none] at hl1
    obtain ⟨W7, hW7⟩ : ∃ W7, W7 = wc.alloc (.cells #[.int .i64 2, .int .u64 0, .int .u64 0, .int .u64 0, .int .u64 0, .int .i64 (-1), .int .i64 (-1)] 38) := ⟨_, rfl⟩
    have HL7 : Hid (Lst W7 (some ⟨wc.heap.size, 0, none⟩) wc.heap.size 0 1 [zro 2 (-1) (-1)]) := by rw [hW7]; exact hl1
    have HB7 : Hid (Below w.heap.size w W7) := by rw [hW7]; exact below_trans HB6.out (bel_up _ _)
    rw [← hW7]
    clear hW7 hl1
    have HE0 : Hid ((RD [zro 2 (-1) (-1)] []).1 = true) := (emp_rd []).2 rfl
    go_cut [60] from 50 to 60 (fun v wq => v = .bool false ∧ Below w.heap.size w wq)
    case first =>
      by_cases h0 : s = ⟨#[]⟩
      · have HRS : Hid ((RD [zro 2 (-1) (-1)] s.data.toList).1 = true) := by show _ = _; rw [h0]; exact HE0.out
        subst h0
        go_wp2_with fail
        refine Calls.mono (HM.out [zro 2 (-1) (-1)] _ wc.heap.size 0 1 1 W7 HL7.out rfl (by omega) (HD.out.up HB7.out) ⟨#[]⟩ W7 (Below.refl _ _) HS.out) ?_
        rintro e w8 ⟨rfl, hb8⟩
        dsimp only
        rw [HRS.out]
        have HB8 : Hid (Below w.heap.size w w8) := below_trans HB7.out hb8
        have HL8 : Hid (Lst w8 (some ⟨wc.heap.size, 0, none⟩) wc.heap.size 0 1 [zro 2 (-1) (-1)]) := HL7.out.up hb8
        clear hb8
        go_wp2_with fail
        refine Calls.mono (HNU.out [zro 2 (-1) (-1)] _ wc.heap.size 0 1 1 w8 HL8.out rfl (by omega) (HD.out.up HB8.out)) ?_
        rintro e w9 ⟨rfl, hb9⟩
        rw [HE0.out]
        have HB9 : Hid (Below w.heap.size w w9) := below_trans HB8.out hb9
        clear hb9
        go_wp2_with fail
        go_meet
        exact ⟨rfl, HB9.out⟩
      · have h1 : ¬ s.data.toList = [] := fun h2 => h0 (ba_nil h2)
        have h2 : ¬ s.toList = [] := by rw [ByteArray.toList_eq]; exact h1
        have h3 : s.toList.isEmpty = false := by rw [ByteArray.toList_eq]; cases h4 : s.data.toList with | nil => exact absurd h4 h1 | cons c r => rfl
        have HRS : Hid ((RD [zro 2 (-1) (-1)] s.data.toList).1 = false) := Bool.eq_false_iff.2 (fun k => h1 ((emp_rd s.data.toList).1 k))
        clear h0 h1
        go_wp2_with fail
        refine Calls.mono (HM.out [zro 2 (-1) (-1)] _ wc.heap.size 0 1 1 W7 HL7.out rfl (by omega) (HD.out.up HB7.out) s W7 (Below.refl _ _) HS.out) ?_
        rintro e w8 ⟨rfl, hb8⟩
        dsimp only
        rw [HRS.out]
        have HB8 : Hid (Below w.heap.size w w8) := below_trans HB7.out hb8
        have HL8 : Hid (Lst w8 (some ⟨wc.heap.size, 0, none⟩) wc.heap.size 0 1 [zro 2 (-1) (-1)]) := HL7.out.up hb8
        clear hb8
        go_wp2_with fail
        refine Calls.mono (HNU.out [zro 2 (-1) (-1)] _ wc.heap.size 0 1 1 w8 HL8.out rfl (by omega) (HD.out.up HB8.out)) ?_
        rintro e w9 ⟨rfl, hb9⟩
        rw [HE0.out]
        have HB9 : Hid (Below w.heap.size w w9) := below_trans HB8.out hb9
        clear hb9
        go_wp2_with fail
        go_meet
        exact ⟨rfl, HB9.out⟩
    case rest =>
    obtain ⟨rfl, hb9⟩ := hcut
    have HB9 : Hid (Below w.heap.size w wc) := hb9
    clear hb9
    have CS : Hid (∀ (re : List Nd) (lt : Option Addr) (gt ot ct nt : Nat) (W : World), Lst W lt gt ot ct re → re.length = nt → nt < 1000000 → Calls Tryd.prog 14 #[.slice lt nt ct] W fun e w' => e = .returned (.bool (Sh re)) ∧ Below W.heap.size W w') := fun re lt gt ot ct nt W h1 h2 h3 => by
      have c := shaped_any re lt gt ot ct W h1.ptr h1.at_ h1.lt (by omega)
      rw [h2] at c
      exact c
    by_cases h3 : op < 3
    · have e3 : decide (op < 3) = true := by simpa using h3
      go_wp2_with fail
      go_ret
      exact ⟨rfl, HB9.out⟩
    have e3 : decide (op < 3) = false := by simpa using h3
    by_cases h7 : 7 < op
    · have e7 : decide (7 < op) = true := by simpa using h7
      go_wp2_with fail
      go_ret
      exact ⟨rfl, HB9.out⟩
    have e7 : decide (7 < op) = false := by simpa using h7
    have HO : Hid (3 ≤ op ∧ op ≤ 7) := ⟨by omega, by omega⟩
    go_wp2_with fail
    refine Calls.mono (CS.out a lp g o ca na wc (HA.out.up HB9.out) HNA.out (by have := HLE.out; omega)) ?_
    rintro e w10 ⟨rfl, hb10⟩
    have HB10 : Hid (Below w.heap.size w w10) := below_trans HB9.out hb10
    clear hb10
    obtain ⟨sa, hsa⟩ : ∃ sa, Sh a = sa := ⟨_, rfl⟩
    rw [hsa]
    have HSA : Hid (Sh a = sa) := hsa
    clear hsa
    cases sa
    · go_wp2_with fail
      go_ret
      exact ⟨rfl, HB10.out⟩
    go_wp2_with fail
    refine Calls.mono (CS.out b lq g' o' cb nb w10 (HB.out.up HB10.out) HNB.out (by have := HLE.out; omega)) ?_
    rintro e w11 ⟨rfl, hb11⟩
    have HB11 : Hid (Below w.heap.size w w11) := below_trans HB10.out hb11
    clear hb11
    obtain ⟨sb, hsb⟩ : ∃ sb, Sh b = sb := ⟨_, rfl⟩
    rw [hsb]
    have HSB : Hid (Sh b = sb) := hsb
    clear hsb
    cases sb
    · go_wp2_with fail
      go_ret
      exact ⟨rfl, HB11.out⟩
    have CJ := joined_any op HO.out a b lp lq g o ca g' o' cb w11 (HA.out.up HB11.out) (HB.out.up HB11.out) HSA.out HSB.out
    rw [HNA.out, HNB.out] at CJ
    have HCJ : Hid _ := CJ
    clear CJ
    go_wp2_with fail
    refine Calls.mono HCJ.out ?_
    rintro e w12 ⟨v, rfl, hown, hb12⟩
    have HB12 : Hid (Below w.heap.size w w12) := below_trans HB11.out hb12
    obtain ⟨lt, gt, ct, rfl, hlt⟩ := own_lst hown
    obtain ⟨J, hJ⟩ : ∃ J, jn op a b = J := ⟨_, rfl⟩
    have hjl : J.length ≤ 257 := by
      rw [← hJ, jn_len]
      obtain ⟨-, -, -, q1, -⟩ := Sh_parts HSA.out
      obtain ⟨-, -, -, q2, -⟩ := Sh_parts HSB.out
      split <;> omega
    rw [hJ] at hlt ⊢
    have HJ : Hid (jn op a b = J) := hJ
    obtain ⟨nj, hnj⟩ : ∃ nj, J.length = nj := ⟨_, rfl⟩
    rw [hnj] at hjl ⊢
    have HNJ : Hid (J.length = nj) := hnj
    have HJL : Hid (nj ≤ 257) := hjl
    have HLJ : Hid (Lst w12 lt gt 0 ct J) := hlt
    have HSJ : Hid (Sh J = decide (nj ≤ 128)) := by show _ = _; rw [← hJ, jn_sh HO.out HSA.out HSB.out, hJ, hnj]
    clear hown hb12 hlt hJ hnj hjl HCJ
    go_wp2_with fail
    refine Calls.mono (CS.out J lt gt 0 ct nj w12 HLJ.out HNJ.out (by have := HJL.out; omega)) ?_
    rintro e w13 ⟨rfl, hb13⟩
    have HB13 : Hid (Below w.heap.size w w13) := below_trans HB12.out hb13
    have HL13 : Hid (Lst w13 lt gt 0 ct J) := HLJ.out.up hb13
    clear hb13
    rw [HSJ.out]
    by_cases h128 : nj ≤ 128
    · rw [decide_eq_true h128]
      have HSJT : Hid (Sh J = true) := by show _ = _; rw [HSJ.out, decide_eq_true h128]
      have HMN : Hid ((RD J s.data.toList).1 = mns op (fun x => (RD J x).1) (fun x => (RD a x).1) (fun x => (RD b x).1) s.data.toList) := by
        have := jn_means HO.out HSA.out HSB.out (by rw [HJ.out]; exact HSJT.out) s.data.toList
        rw [HJ.out] at this
        exact this
      clear h128
      go_wp2_with fail
      refine Calls.mono (HM.out J lt gt 0 ct nj w13 HL13.out HNJ.out (by have := HJL.out; omega) (HD.out.up HB13.out) s w13 (Below.refl _ _) HS.out) ?_
      rintro e w14 ⟨rfl, hb14⟩
      dsimp only
      rw [HMN.out]
      have HB14 : Hid (Below w.heap.size w w14) := below_trans HB13.out hb14
      have HL14 : Hid (Lst w14 lt gt 0 ct J) := HL13.out.up hb14
      clear hb14
      obtain ⟨r, hr⟩ : ∃ r, mns op (fun x => (RD J x).1) (fun x => (RD a x).1) (fun x => (RD b x).1) s.data.toList = r := ⟨_, rfl⟩
      have HR : Hid (mns op (fun x => (RD J x).1) (fun x => (RD a x).1) (fun x => (RD b x).1) s.data.toList = r) := hr
      rw [hr]
      clear hr
      go_wp2_with fail
      refine Calls.mono (means_any op HO.out lt lp lq nj ct na ca nb cb (fun x => (RD J x).1) (fun x => (RD a x).1) (fun x => (RD b x).1) s w14 (HM.out J lt gt 0 ct nj w14 HL14.out HNJ.out (by have := HJL.out; omega) (HD.out.up HB14.out)) (HM.out a lp g o ca na w14 (HA.out.up HB14.out) HNA.out (by have := HLE.out; omega) (HD.out.up HB14.out)) (HM.out b lq g' o' cb nb w14 (HB.out.up HB14.out) HNB.out (by have := HLE.out; omega) (HD.out.up HB14.out)) HS.out) ?_
      rintro e w15 ⟨rfl, hb15⟩
      rw [HR.out]
      have HB15 : Hid (Below w.heap.size w w15) := below_trans HB14.out hb15
      have HL15 : Hid (Lst w15 lt gt 0 ct J) := HL14.out.up hb15
      clear hb15
      have err : (r == r) = true := by cases r <;> rfl
      go_wp2_with fail
      refine Calls.mono (HNU.out J lt gt 0 ct nj w15 HL15.out HNJ.out (by have := HJL.out; omega) (HD.out.up HB15.out)) ?_
      rintro e w16 ⟨rfl, hb16⟩
      have HB16 : Hid (Below w.heap.size w w16) := below_trans HB15.out hb16
      have HL16 : Hid (Lst w16 lt gt 0 ct J) := HL15.out.up hb16
      clear hb16
      obtain ⟨q, hq⟩ : ∃ q, (RD J []).1 = q := ⟨_, rfl⟩
      have HQ : Hid ((RD J []).1 = q) := hq
      rw [hq]
      clear hq
      go_wp2_with fail
      refine Calls.mono (HM.out J lt gt 0 ct nj w16 HL16.out HNJ.out (by have := HJL.out; omega) (HD.out.up HB16.out) ⟨#[]⟩ w16 (Below.refl _ _) (by decide)) ?_
      rintro e w17 ⟨rfl, hb17⟩
      dsimp only
      first | rw [HQ.out] | rw [show (#[] : Array UInt8).toList = [] from rfl, HQ.out]
      have HB17 : Hid (Below w.heap.size w w17) := below_trans HB16.out hb17
      clear hb17
      have eqq : (q == q) = true := by cases q <;> rfl
      go_wp2_with fail
      go_ret
      exact ⟨rfl, HB17.out⟩
    · rw [decide_eq_false h128]
      have e128 : decide ((128 : Int) < (nj : Int)) = true := by rw [decide_eq_true_eq]; omega
      have HSJF : Hid (Sh J = false) := by show _ = _; rw [HSJ.out, decide_eq_false h128]
      have HRF : Hid ((RD J s.data.toList).1 = false) := by
        show (RD J s.data.toList).1 = false
        unfold RD
        rw [if_neg (by rw [HSJF.out]; decide)]
      clear h128
      go_wp2_with fail
      refine Calls.mono (HM.out J lt gt 0 ct nj w13 HL13.out HNJ.out (by have := HJL.out; omega) (HD.out.up HB13.out) s w13 (Below.refl _ _) HS.out) ?_
      rintro e w14 ⟨rfl, hb14⟩
      dsimp only
      rw [HRF.out]
      have HB14 : Hid (Below w.heap.size w w14) := below_trans HB13.out hb14
      clear hb14
      go_wp2_with fail
      go_ret
      exact ⟨rfl, HB14.out⟩
end Go.Proofs.YtkjcnnecdclgfabDoor
