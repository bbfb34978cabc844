import Derived.Test.YtodncbkdlnepjaaFtc
namespace Go.Proofs.Ytodncbkdlnepjaa
open Go.RowKit Go.Maps

theorem pd2_get {P P' : List Pd} (h : P'.map pd2 = P.map pd2) (i : Nat) (hi : i < P.length) : (P'.getD i pfd).1 = (P.getD i pfd).1 ∧ (P'.getD i pfd).2.2 = (P.getD i pfd).2.2 := by
  have hl : P'.length = P.length := by have h9 := congrArg List.length h; rw [List.length_map, List.length_map] at h9; exact h9
  have h9 := congrArg (fun L : List (Int × List Rf) => L[i]?) h
  (try dsimp only at h9)
  rw [List.getElem?_map, List.getElem?_map, List.getElem?_eq_getElem hi, List.getElem?_eq_getElem (by rw [hl]; exact hi)] at h9
  rw [List.getD_eq_getElem?_getD, List.getD_eq_getElem?_getD, List.getElem?_eq_getElem hi, List.getElem?_eq_getElem (by rw [hl]; exact hi)]
  have h8 := Option.some.inj h9
  exact ⟨congrArg (fun z : Int × List Rf => z.1) h8, congrArg (fun z : Int × List Rf => z.2) h8⟩

set_option maxRecDepth 100000 in
set_option maxHeartbeats 16000000 in
theorem same_any {v0 v1 v2 w0 w1 w2 : Value} {Te : List Td} {Sy : List Sd} {P P' : List Pd} (w : World) (ha : Gx w v0 v1 v2 Te Sy P) (hb : Gx w w0 w1 w2 Te Sy P') (hp : P'.map pd2 = P.map pd2) (hs : Gs Te Sy P) :
    Calls Try.prog 39 #[.agg #[v0, v1, v2], .agg #[w0, w1, w2]] w fun e w' => e = .returned (.bool true) ∧ Below w.heap.size w w' := by
  have HA : Hid (Gx w v0 v1 v2 Te Sy P) := ha
  have HB : Hid (Gx w w0 w1 w2 Te Sy P') := hb
  have HZ : Hid (Gs Te Sy P) := hs
  have HP : Hid (P'.map pd2 = P.map pd2) := hp
  obtain ⟨a0, c0, a1, c1, a2, c2, rfl, rfl, rfl⟩ := ha.g.form
  obtain ⟨d0, f0, d1, f1, d2, f2, rfl, rfl, rfl⟩ := hb.g.form
  clear ha hb hs
  have hpl : P'.length = P.length := by have h9 := congrArg List.length hp; rw [List.length_map, List.length_map] at h9; exact h9
  have HPL : Hid (P'.length = P.length) := hpl
  rw [hpl] at HB ⊢
  clear hp hpl
  obtain ⟨nT, hnT⟩ : ∃ n, Te.length = n := ⟨_, rfl⟩
  have HNT : Hid (Te.length = nT) := hnT
  obtain ⟨nS, hnS⟩ : ∃ n, Sy.length = n := ⟨_, rfl⟩
  have HNS : Hid (Sy.length = nS) := hnS
  obtain ⟨n, hnn⟩ : ∃ n, P.length = n := ⟨_, rfl⟩
  have HNN : Hid (P.length = n) := hnn
  rw [hnT, hnS, hnn] at HA HB ⊢
  clear hnT hnS hnn
  have HBT : Hid (nT * 24 + 4096 ≤ 140737488355328 ∧ nS * 24 + 4096 ≤ 140737488355328 ∧ n * 32 + 4096 ≤ 140737488355328) := by have := HZ.out.t; have := HZ.out.s; have := HZ.out.p; have := HNT.out; have := HNS.out; have := HNN.out; show _ ∧ _; omega
  have HA0 : Hid (Rw w (.slice a0 nT c0) nT (flat tdf Te)) := by have h9 := HA.out.t; rw [HNT.out] at h9; exact h9
  have HA1 : Hid (Rw w (.slice a1 nS c1) nS (flat sdf Sy)) := by have h9 := HA.out.s; rw [HNS.out] at h9; exact h9
  have HA2 : Hid (Rw w (.slice a2 n c2) n (flat pf P)) := by have h9 := HA.out.g.p; rw [HNN.out] at h9; exact h9
  have HB0 : Hid (Rw w (.slice d0 nT f0) nT (flat tdf Te)) := by have h9 := HB.out.t; rw [HNT.out] at h9; exact h9
  have HB1 : Hid (Rw w (.slice d1 nS f1) nS (flat sdf Sy)) := by have h9 := HB.out.s; rw [HNS.out] at h9; exact h9
  have HB2 : Hid (Rw w (.slice d2 n f2) n (flat pf P')) := by have h9 := HB.out.g.p; rw [HPL.out, HNN.out] at h9; exact h9
  obtain ⟨W1, hW1⟩ : ∃ W1, W1 = (w.alloc (.cells #[.slice a0 nT c0, .slice a1 nS c1, .slice a2 n c2] 26)).alloc (.cells #[.slice d0 nT f0, .slice d1 nS f1, .slice d2 n f2] 26) := ⟨_, rfl⟩
  have HW1 : Hid (Below w.heap.size w W1) := by rw [hW1]; exact below_trans (bel_up _ _) (bel_up _ _)
  have HX : Hid (W1.heap[w.heap.size]? = some (.cells #[.slice a0 nT c0, .slice a1 nS c1, .slice a2 n c2] 26 (0, 0)) ∧ W1.heap[w.heap.size + 1]? = some (.cells #[.slice d0 nT f0, .slice d1 nS f1, .slice d2 n f2] 26 (0, 0))) := by
    have e1 := heap_new w (.cells #[.slice a0 nT c0, .slice a1 nS c1, .slice a2 n c2] 26)
    have e2 := heap_new (w.alloc (.cells #[.slice a0 nT c0, .slice a1 nS c1, .slice a2 n c2] 26)) (.cells #[.slice d0 nT f0, .slice d1 nS f1, .slice d2 n f2] 26)
    rw [World.size_alloc] at e2
    rw [hW1]
    exact ⟨((bel_up _ _).block _ (lt_of_heap e1)).trans e1, e2⟩
  have kT : ((nT : Int) == (nT : Int)) = true := by rw [beq_iff_eq]
  have kS : ((nS : Int) == (nS : Int)) = true := by rw [beq_iff_eq]
  have kP : ((n : Int) == (n : Int)) = true := by rw [beq_iff_eq]
  go_enter Try.func39, Try.ntmps39
  go_upto_region 1 with fail
  rw [← hW1]
  clear hW1
  obtain ⟨gb, hgb⟩ : ∃ gb, w.heap.size = gb := ⟨_, rfl⟩
  have HGB : Hid (w.heap.size = gb) := hgb
  rw [hgb] at HX ⊢
  clear hgb
  obtain ⟨rb, hrb⟩ : ∃ rb, gb + 1 = rb := ⟨_, rfl⟩
  rw [hrb] at HX ⊢
  clear hrb
  have HCC : Hid (∀ W, Below W1.heap.size W1 W → (W.cell? ⟨gb, 0, none⟩ = some (.slice a0 nT c0) ∧ W.cell? ⟨gb, 1, none⟩ = some (.slice a1 nS c1) ∧ W.cell? ⟨gb, 2, none⟩ = some (.slice a2 n c2)) ∧ W.cell? ⟨rb, 0, none⟩ = some (.slice d0 nT f0) ∧ W.cell? ⟨rb, 1, none⟩ = some (.slice d1 nS f1) ∧ W.cell? ⟨rb, 2, none⟩ = some (.slice d2 n f2)) := fun W hW => ⟨⟨below_cell hW (rcell HX.out.1 0 _ rfl), below_cell hW (rcell HX.out.1 1 _ rfl), below_cell hW (rcell HX.out.1 2 _ rfl)⟩, below_cell hW (rcell HX.out.2 0 _ rfl), below_cell hW (rcell HX.out.2 1 _ rfl), below_cell hW (rcell HX.out.2 2 _ rfl)⟩
  obtain ⟨⟨p0, p1, p2⟩, p3, p4, p5⟩ := HCC.out W1 (Below.refl _ _)
  go_upto_region 4 with fail
  clear p0 p1 p2 p3 p4 p5
  go_loopg [5] nT (fun gm v5 wr => ∃ i : Nat, v5 = .int .i64 (i : Int) ∧ Hid (Below W1.heap.size W1 wr) ∧ Hid (i ≤ nT ∧ gm = nT - i))
  case atStart => exact ⟨0, rfl, Below.refl _ _, ⟨Nat.zero_le _, rfl⟩⟩
  case round =>
    skip
    obtain ⟨i, rfl, HBW, HI⟩ := hrel
    obtain ⟨⟨p0, p1, p2⟩, p3, p4, p5⟩ := HCC.out wr HBW.out
    by_cases hi : i < nT
    · obtain ⟨g, o, cap, e0, hc⟩ := HA0.out.place (by omega)
      obtain ⟨rfl, -, rfl⟩ := Value.slice.inj e0
      obtain ⟨g2, o2, cap2, e02, hc2⟩ := HB0.out.place (by omega)
      obtain ⟨rfl, -, rfl⟩ := Value.slice.inj e02
      obtain ⟨q0, q1⟩ := tdf_get Te i (by have := HNT.out; omega)
      obtain ⟨x, hx⟩ : ∃ x, Te.getD i tdd = x := ⟨_, rfl⟩
      rw [hx] at q0 q1
      obtain ⟨xf, xb⟩ := x
      dsimp only at q0 q1
      have KW : Hid (∀ W, Below w.heap.size w W → W.cell? ⟨g, o + i * 2, none⟩ = some (.string xf) ∧ W.cell? ⟨g, o + i * 2 + 1, none⟩ = some (.bool xb) ∧ W.cell? ⟨g2, o2 + i * 2, none⟩ = some (.string xf) ∧ W.cell? ⟨g2, o2 + i * 2 + 1, none⟩ = some (.bool xb)) := fun W hW => ⟨below_cell hW (hc _ _ q0), by have h9 := below_cell hW (hc _ _ q1); rw [← Nat.add_assoc] at h9; exact h9, below_cell hW (hc2 _ _ q0), by have h9 := below_cell hW (hc2 _ _ q1); rw [← Nat.add_assoc] at h9; exact h9⟩
      have e1 : decide ((i : Int) < (nT : Int)) = true := by rw [decide_eq_true_eq]; omega
      have e2 : decide (i < nT) = true := by rw [decide_eq_true_eq]; omega
      have e5 : (i : Int) < (nT : Int) := by omega
      have e6 : i < nT := hi
      have HIL : Hid (i < nT) := hi
      have hwr := w64n i (by have := HBT.out; have := HIL.out; omega)
      have hne := neq58 xf xb
      clear e0 hc hx q0 q1 hi e02 hc2
      go_upto_region 6 with fail
      clear p0 p1 p2 p3 p4 p5
      obtain ⟨WD, hWD⟩ : ∃ WD, wr.drew = WD := ⟨_, rfl⟩
      have BD : Hid (Below wr.heap.size wr WD) := by rw [← hWD]; exact Below.drew (Below.refl _ _)
      have BWD : Hid (Below W1.heap.size W1 WD) := below_trans HBW.out BD.out
      have kd : Hid _ := KW.out WD (below_trans HW1.out BWD.out)
      have cd : Hid _ := HCC.out WD BWD.out
      refine wp_region_noPanic ?_
      refine wp_region_held_drew (S := fun W => (W.cell? ⟨g, o + i * 2, none⟩ = some (.string xf) ∧ W.cell? ⟨g, o + i * 2 + 1, none⟩ = some (.bool xb) ∧ W.cell? ⟨g2, o2 + i * 2, none⟩ = some (.string xf) ∧ W.cell? ⟨g2, o2 + i * 2 + 1, none⟩ = some (.bool xb)) ∧ W.cell? ⟨gb, 0, none⟩ = some (.slice (some ⟨g, o, none⟩) nT c0) ∧ W.cell? ⟨rb, 0, none⟩ = some (.slice (some ⟨g2, o2, none⟩) nT f0)) (by kernel_rfl) (by rw [hWD]; exact ⟨kd.out, cd.out.1.1, cd.out.2.1⟩) (fun hHeld => ?_)
      rw [hWD] at hHeld ⊢
      clear hWD
      refine wpAnyH_take (i := 0) (oi := { dst := _, op := _, type := _, pos := _, after := _, guard := _ }) (v := ?_) rfl (by kernel_rfl) (by kernel_rfl) (by kernel_rfl) (fun _ _ _ h => h) (Or.inl ⟨by rfl, ?_⟩) (by assumption) ?_
      rotate_left
      · intro W hSw
        (try dsimp only at hSw)
        go_simp
        (try with_reducible rfl)
      try simp only [Act.put, List.setIfInBounds_toArray, List.set_cons_zero, List.set_cons_succ]
      refine wpAnyH_take (i := 1) (oi := { dst := _, op := _, type := _, pos := _, after := _, guard := _ }) (v := ?_) rfl (by kernel_rfl) (by kernel_rfl) (by kernel_rfl) (fun _ _ _ h => h) (Or.inl ⟨by rfl, ?_⟩) (by assumption) ?_
      rotate_left
      · intro W hSw
        (try dsimp only at hSw)
        go_simp
        (try with_reducible rfl)
      try simp only [Act.put, List.setIfInBounds_toArray, List.set_cons_zero, List.set_cons_succ]
      refine wpAnyH_take (i := 2) (oi := { dst := _, op := _, type := _, pos := _, after := _, guard := _ }) (v := ?_) rfl (by kernel_rfl) (by kernel_rfl) (by kernel_rfl) (fun _ _ _ h => h) (Or.inl ⟨by rfl, ?_⟩) (by assumption) ?_
      rotate_left
      · intro W hSw
        (try dsimp only at hSw)
        go_simp
        (try with_reducible rfl)
      try simp only [Act.put, List.setIfInBounds_toArray, List.set_cons_zero, List.set_cons_succ]
      refine wpAnyH_take (i := 3) (oi := { dst := _, op := _, type := _, pos := _, after := _, guard := _ }) (v := ?_) rfl (by kernel_rfl) (by kernel_rfl) (by kernel_rfl) (fun _ _ _ h => h) (Or.inl ⟨by rfl, ?_⟩) (by assumption) ?_
      rotate_left
      · intro W hSw
        (try dsimp only at hSw)
        go_simp
        (try with_reducible rfl)
      try simp only [Act.put, List.setIfInBounds_toArray, List.set_cons_zero, List.set_cons_succ]
      refine wpAnyH_take (i := 4) (oi := { dst := _, op := _, type := _, pos := _, after := _, guard := _ }) (v := ?_) rfl (by kernel_rfl) (by kernel_rfl) (by kernel_rfl) (fun _ _ _ h => h) (Or.inl ⟨by rfl, ?_⟩) (by assumption) ?_
      rotate_left
      · intro W hSw
        (try dsimp only at hSw)
        go_simp
        (try with_reducible rfl)
      try simp only [Act.put, List.setIfInBounds_toArray, List.set_cons_zero, List.set_cons_succ]
      refine wpAnyH_take (i := 5) (oi := { dst := _, op := _, type := _, pos := _, after := _, guard := _ }) (v := ?_) rfl (by kernel_rfl) (by kernel_rfl) (by kernel_rfl) (fun _ _ _ h => h) (Or.inl ⟨by rfl, ?_⟩) (by assumption) ?_
      rotate_left
      · intro W hSw
        (try dsimp only at hSw)
        go_simp
        (try with_reducible rfl)
      try simp only [Act.put, List.setIfInBounds_toArray, List.set_cons_zero, List.set_cons_succ]
      refine wpAnyH_take (i := 6) (oi := { dst := _, op := _, type := _, pos := _, after := _, guard := _ }) (v := ?_) rfl (by kernel_rfl) (by kernel_rfl) (by kernel_rfl) (fun _ _ _ h => h) (Or.inl ⟨by rfl, ?_⟩) (by assumption) ?_
      rotate_left
      · intro W hSw
        (try dsimp only at hSw)
        go_simp
        (try with_reducible rfl)
      try simp only [Act.put, List.setIfInBounds_toArray, List.set_cons_zero, List.set_cons_succ]
      refine wpAnyH_take (i := 7) (oi := { dst := _, op := _, type := _, pos := _, after := _, guard := _ }) (v := ?_) rfl (by kernel_rfl) (by kernel_rfl) (by kernel_rfl) (fun _ _ _ h => h) (Or.inl ⟨by rfl, ?_⟩) (by assumption) ?_
      rotate_left
      · intro W hSw
        (try dsimp only at hSw)
        go_simp
        (try with_reducible rfl)
      try simp only [Act.put, List.setIfInBounds_toArray, List.set_cons_zero, List.set_cons_succ]
      refine wpAnyH_take (i := 8) (oi := { dst := _, op := _, type := _, pos := _, after := _, guard := _ }) (v := ?_) rfl (by kernel_rfl) (by kernel_rfl) (by kernel_rfl) (fun _ _ _ h => h) (Or.inl ⟨by rfl, ?_⟩) (by assumption) ?_
      rotate_left
      · intro W hSw
        (try dsimp only at hSw)
        go_simp
        (try with_reducible rfl)
      try simp only [Act.put, List.setIfInBounds_toArray, List.set_cons_zero, List.set_cons_succ]
      refine wpAnyH_take (i := 9) (oi := { dst := _, op := _, type := _, pos := _, after := _, guard := _ }) (v := ?_) rfl (by kernel_rfl) (by kernel_rfl) (by kernel_rfl) (fun _ _ _ h => h) (Or.inl ⟨by rfl, ?_⟩) (by assumption) ?_
      rotate_left
      · intro W hSw
        (try dsimp only at hSw)
        go_simp
        (try with_reducible rfl)
      try simp only [Act.put, List.setIfInBounds_toArray, List.set_cons_zero, List.set_cons_succ]
      refine wpAnyH_take (i := 10) (oi := { dst := _, op := _, type := _, pos := _, after := _, guard := _ }) (v := ?_) rfl (by kernel_rfl) (by kernel_rfl) (by kernel_rfl) (fun _ _ _ h => h) (Or.inl ⟨by rfl, ?_⟩) (by assumption) ?_
      rotate_left
      · intro W hSw
        (try dsimp only at hSw)
        go_simp
        (try with_reducible rfl)
      try simp only [Act.put, List.setIfInBounds_toArray, List.set_cons_zero, List.set_cons_succ]
      refine wpAnyH_done (by kernel_rfl) ?_ _
      refine NoPanic.normal ?_
      clear hHeld
      go_wp2_with fail
      go_roundg (nT - (i + 1))
      case measure => have := HI.out; have := HIL.out; omega
      case rel => exact ⟨i + 1, by first | rfl | (rw [show (i : Int) + 1 = ((i + 1 : Nat) : Int) by omega]), BWD, ⟨HIL.out, rfl⟩⟩
    · have e1 : decide ((i : Int) < (nT : Int)) = false := by rw [decide_eq_false_iff_not]; omega
      have e2 : decide (i < nT) = false := by rw [decide_eq_false_iff_not]; omega
      clear hi
      go_upto_region 9 with fail
      clear e1 e2 HI p0 p1 p2 p3 p4 p5
      obtain ⟨V, hV⟩ : ∃ V, V = wr := ⟨_, rfl⟩
      rw [← hV] at HBW ⊢
      have HBV : Hid (Below W1.heap.size W1 V) := HBW.out
      clear hV HBW
      go_loopg [6] nS (fun gm v6 wr => ∃ i : Nat, v6 = .int .i64 (i : Int) ∧ Hid (Below W1.heap.size W1 wr) ∧ Hid (i ≤ nS ∧ gm = nS - i))
      case atStart => exact ⟨0, rfl, HBV, ⟨Nat.zero_le _, rfl⟩⟩
      case round =>
        clear HBV
        obtain ⟨i, rfl, HBW, HI⟩ := hrel
        obtain ⟨⟨p0, p1, p2⟩, p3, p4, p5⟩ := HCC.out wr HBW.out
        by_cases hi : i < nS
        · obtain ⟨g, o, cap, e0, hc⟩ := HA1.out.place (by omega)
          obtain ⟨rfl, -, rfl⟩ := Value.slice.inj e0
          obtain ⟨g2, o2, cap2, e02, hc2⟩ := HB1.out.place (by omega)
          obtain ⟨rfl, -, rfl⟩ := Value.slice.inj e02
          obtain ⟨q0, q1⟩ := sdf_get Sy i (by have := HNS.out; omega)
          obtain ⟨x, hx⟩ : ∃ x, Sy.getD i sdd = x := ⟨_, rfl⟩
          rw [hx] at q0 q1
          obtain ⟨xf, xb⟩ := x
          dsimp only at q0 q1
          have KW : Hid (∀ W, Below w.heap.size w W → W.cell? ⟨g, o + i * 2, none⟩ = some (.string xf) ∧ W.cell? ⟨g, o + i * 2 + 1, none⟩ = some (.int .i64 xb) ∧ W.cell? ⟨g2, o2 + i * 2, none⟩ = some (.string xf) ∧ W.cell? ⟨g2, o2 + i * 2 + 1, none⟩ = some (.int .i64 xb)) := fun W hW => ⟨below_cell hW (hc _ _ q0), by have h9 := below_cell hW (hc _ _ q1); rw [← Nat.add_assoc] at h9; exact h9, below_cell hW (hc2 _ _ q0), by have h9 := below_cell hW (hc2 _ _ q1); rw [← Nat.add_assoc] at h9; exact h9⟩
          have e1 : decide ((i : Int) < (nS : Int)) = true := by rw [decide_eq_true_eq]; omega
          have e2 : decide (i < nS) = true := by rw [decide_eq_true_eq]; omega
          have e5 : (i : Int) < (nS : Int) := by omega
          have e6 : i < nS := hi
          have HIL : Hid (i < nS) := hi
          have hwr := w64n i (by have := HBT.out; have := HIL.out; omega)
          have hne := neq61 xf xb
          clear e0 hc hx q0 q1 hi e02 hc2
          go_upto_region 11 with fail
          clear p0 p1 p2 p3 p4 p5
          obtain ⟨WD, hWD⟩ : ∃ WD, wr.drew = WD := ⟨_, rfl⟩
          have BD : Hid (Below wr.heap.size wr WD) := by rw [← hWD]; exact Below.drew (Below.refl _ _)
          have BWD : Hid (Below W1.heap.size W1 WD) := below_trans HBW.out BD.out
          have kd : Hid _ := KW.out WD (below_trans HW1.out BWD.out)
          have cd : Hid _ := HCC.out WD BWD.out
          refine wp_region_noPanic ?_
          refine wp_region_held_drew (S := fun W => (W.cell? ⟨g, o + i * 2, none⟩ = some (.string xf) ∧ W.cell? ⟨g, o + i * 2 + 1, none⟩ = some (.int .i64 xb) ∧ W.cell? ⟨g2, o2 + i * 2, none⟩ = some (.string xf) ∧ W.cell? ⟨g2, o2 + i * 2 + 1, none⟩ = some (.int .i64 xb)) ∧ W.cell? ⟨gb, 1, none⟩ = some (.slice (some ⟨g, o, none⟩) nS c1) ∧ W.cell? ⟨rb, 1, none⟩ = some (.slice (some ⟨g2, o2, none⟩) nS f1)) (by kernel_rfl) (by rw [hWD]; exact ⟨kd.out, cd.out.1.2.1, cd.out.2.2.1⟩) (fun hHeld => ?_)
          rw [hWD] at hHeld ⊢
          clear hWD
          refine wpAnyH_take (i := 0) (oi := { dst := _, op := _, type := _, pos := _, after := _, guard := _ }) (v := ?_) rfl (by kernel_rfl) (by kernel_rfl) (by kernel_rfl) (fun _ _ _ h => h) (Or.inl ⟨by rfl, ?_⟩) (by assumption) ?_
          rotate_left
          · intro W hSw
            (try dsimp only at hSw)
            go_simp
            (try with_reducible rfl)
          try simp only [Act.put, List.setIfInBounds_toArray, List.set_cons_zero, List.set_cons_succ]
          refine wpAnyH_take (i := 1) (oi := { dst := _, op := _, type := _, pos := _, after := _, guard := _ }) (v := ?_) rfl (by kernel_rfl) (by kernel_rfl) (by kernel_rfl) (fun _ _ _ h => h) (Or.inl ⟨by rfl, ?_⟩) (by assumption) ?_
          rotate_left
          · intro W hSw
            (try dsimp only at hSw)
            go_simp
            (try with_reducible rfl)
          try simp only [Act.put, List.setIfInBounds_toArray, List.set_cons_zero, List.set_cons_succ]
          refine wpAnyH_take (i := 2) (oi := { dst := _, op := _, type := _, pos := _, after := _, guard := _ }) (v := ?_) rfl (by kernel_rfl) (by kernel_rfl) (by kernel_rfl) (fun _ _ _ h => h) (Or.inl ⟨by rfl, ?_⟩) (by assumption) ?_
          rotate_left
          · intro W hSw
            (try dsimp only at hSw)
            go_simp
            (try with_reducible rfl)
          try simp only [Act.put, List.setIfInBounds_toArray, List.set_cons_zero, List.set_cons_succ]
          refine wpAnyH_take (i := 3) (oi := { dst := _, op := _, type := _, pos := _, after := _, guard := _ }) (v := ?_) rfl (by kernel_rfl) (by kernel_rfl) (by kernel_rfl) (fun _ _ _ h => h) (Or.inl ⟨by rfl, ?_⟩) (by assumption) ?_
          rotate_left
          · intro W hSw
            (try dsimp only at hSw)
            go_simp
            (try with_reducible rfl)
          try simp only [Act.put, List.setIfInBounds_toArray, List.set_cons_zero, List.set_cons_succ]
          refine wpAnyH_take (i := 4) (oi := { dst := _, op := _, type := _, pos := _, after := _, guard := _ }) (v := ?_) rfl (by kernel_rfl) (by kernel_rfl) (by kernel_rfl) (fun _ _ _ h => h) (Or.inl ⟨by rfl, ?_⟩) (by assumption) ?_
          rotate_left
          · intro W hSw
            (try dsimp only at hSw)
            go_simp
            (try with_reducible rfl)
          try simp only [Act.put, List.setIfInBounds_toArray, List.set_cons_zero, List.set_cons_succ]
          refine wpAnyH_take (i := 5) (oi := { dst := _, op := _, type := _, pos := _, after := _, guard := _ }) (v := ?_) rfl (by kernel_rfl) (by kernel_rfl) (by kernel_rfl) (fun _ _ _ h => h) (Or.inl ⟨by rfl, ?_⟩) (by assumption) ?_
          rotate_left
          · intro W hSw
            (try dsimp only at hSw)
            go_simp
            (try with_reducible rfl)
          try simp only [Act.put, List.setIfInBounds_toArray, List.set_cons_zero, List.set_cons_succ]
          refine wpAnyH_take (i := 6) (oi := { dst := _, op := _, type := _, pos := _, after := _, guard := _ }) (v := ?_) rfl (by kernel_rfl) (by kernel_rfl) (by kernel_rfl) (fun _ _ _ h => h) (Or.inl ⟨by rfl, ?_⟩) (by assumption) ?_
          rotate_left
          · intro W hSw
            (try dsimp only at hSw)
            go_simp
            (try with_reducible rfl)
          try simp only [Act.put, List.setIfInBounds_toArray, List.set_cons_zero, List.set_cons_succ]
          refine wpAnyH_take (i := 7) (oi := { dst := _, op := _, type := _, pos := _, after := _, guard := _ }) (v := ?_) rfl (by kernel_rfl) (by kernel_rfl) (by kernel_rfl) (fun _ _ _ h => h) (Or.inl ⟨by rfl, ?_⟩) (by assumption) ?_
          rotate_left
          · intro W hSw
            (try dsimp only at hSw)
            go_simp
            (try with_reducible rfl)
          try simp only [Act.put, List.setIfInBounds_toArray, List.set_cons_zero, List.set_cons_succ]
          refine wpAnyH_take (i := 8) (oi := { dst := _, op := _, type := _, pos := _, after := _, guard := _ }) (v := ?_) rfl (by kernel_rfl) (by kernel_rfl) (by kernel_rfl) (fun _ _ _ h => h) (Or.inl ⟨by rfl, ?_⟩) (by assumption) ?_
          rotate_left
          · intro W hSw
            (try dsimp only at hSw)
            go_simp
            (try with_reducible rfl)
          try simp only [Act.put, List.setIfInBounds_toArray, List.set_cons_zero, List.set_cons_succ]
          refine wpAnyH_take (i := 9) (oi := { dst := _, op := _, type := _, pos := _, after := _, guard := _ }) (v := ?_) rfl (by kernel_rfl) (by kernel_rfl) (by kernel_rfl) (fun _ _ _ h => h) (Or.inl ⟨by rfl, ?_⟩) (by assumption) ?_
          rotate_left
          · intro W hSw
            (try dsimp only at hSw)
            go_simp
            (try with_reducible rfl)
          try simp only [Act.put, List.setIfInBounds_toArray, List.set_cons_zero, List.set_cons_succ]
          refine wpAnyH_take (i := 10) (oi := { dst := _, op := _, type := _, pos := _, after := _, guard := _ }) (v := ?_) rfl (by kernel_rfl) (by kernel_rfl) (by kernel_rfl) (fun _ _ _ h => h) (Or.inl ⟨by rfl, ?_⟩) (by assumption) ?_
          rotate_left
          · intro W hSw
            (try dsimp only at hSw)
            go_simp
            (try with_reducible rfl)
          try simp only [Act.put, List.setIfInBounds_toArray, List.set_cons_zero, List.set_cons_succ]
          refine wpAnyH_done (by kernel_rfl) ?_ _
          refine NoPanic.normal ?_
          clear hHeld
          go_wp2_with fail
          go_roundg (nS - (i + 1))
          case measure => have := HI.out; have := HIL.out; omega
          case rel => exact ⟨i + 1, by first | rfl | (rw [show (i : Int) + 1 = ((i + 1 : Nat) : Int) by omega]), BWD, ⟨HIL.out, rfl⟩⟩
        · have e1 : decide ((i : Int) < (nS : Int)) = false := by rw [decide_eq_false_iff_not]; omega
          have e2 : decide (i < nS) = false := by rw [decide_eq_false_iff_not]; omega
          clear hi
          go_upto_region 14 with fail
          clear e1 e2 HI p0 p1 p2 p3 p4 p5
          obtain ⟨V2, hV2⟩ : ∃ V2, V2 = wr := ⟨_, rfl⟩
          rw [← hV2] at HBW ⊢
          have HBV : Hid (Below W1.heap.size W1 V2) := HBW.out
          clear hV2 HBW
          go_loopg [7] n (fun gm v7 wr => ∃ i : Nat, v7 = .int .i64 (i : Int) ∧ Hid (Below W1.heap.size W1 wr) ∧ Hid (i ≤ n ∧ gm = n - i))
          case atStart => exact ⟨0, rfl, HBV, ⟨Nat.zero_le _, rfl⟩⟩
          case round =>
            clear HBV
            obtain ⟨i, rfl, HBW, HI⟩ := hrel
            obtain ⟨⟨p0, p1, p2⟩, p3, p4, p5⟩ := HCC.out wr HBW.out
            by_cases hi : i < n
            · obtain ⟨g, o, cap, e0, hc⟩ := HA2.out.place (by omega)
              obtain ⟨rfl, -, rfl⟩ := Value.slice.inj e0
              obtain ⟨g2, o2, cap2, e02, hc2⟩ := HB2.out.place (by omega)
              obtain ⟨rfl, -, rfl⟩ := Value.slice.inj e02
              have hil : i < P.length := by have := HNN.out; omega
              have hil2 : i < P'.length := by have := HPL.out; omega
              obtain ⟨q0, q1⟩ := pf_get P i hil
              obtain ⟨q2, q3⟩ := pf_get P' i hil2
              have HR1 : Hid (Rw w (P.getD i pfd).2.1 (P.getD i pfd).2.2.length (flat rf (P.getD i pfd).2.2)) := HA.out.g.r _ (mem_getD hil pfd)
              have HR2 : Hid (Rw w (P'.getD i pfd).2.1 (P'.getD i pfd).2.2.length (flat rf (P'.getD i pfd).2.2)) := HB.out.g.r _ (mem_getD hil2 pfd)
              have HPZ : Hid ((P.getD i pfd).2.2.length * 40 + 4096 ≤ 140737488355328) := HZ.out.r _ (mem_getD hil pfd)
              obtain ⟨s0, s1⟩ := pd2_get HP.out i hil
              obtain ⟨x, hx⟩ : ∃ x, P.getD i pfd = x := ⟨_, rfl⟩
              obtain ⟨y, hy⟩ : ∃ y, P'.getD i pfd = y := ⟨_, rfl⟩
              rw [hx] at q0 q1 HR1 HPZ s0 s1
              rw [hy] at q2 q3 HR2 s0 s1
              obtain ⟨xs, xv, xl⟩ := x
              obtain ⟨ys, yv, yl⟩ := y
              dsimp only at q0 q1 q2 q3 HR1 HR2 HPZ s0 s1
              subst s0 s1
              obtain ⟨ax, cx, rfl⟩ := HR1.out.form
              obtain ⟨ay, cy, rfl⟩ := HR2.out.form
              have KW : Hid (∀ W, Below w.heap.size w W → W.cell? ⟨g, o + i * 2, none⟩ = some (.int .i64 ys) ∧ W.cell? ⟨g, o + i * 2 + 1, none⟩ = some (.slice ax yl.length cx) ∧ W.cell? ⟨g2, o2 + i * 2, none⟩ = some (.int .i64 ys) ∧ W.cell? ⟨g2, o2 + i * 2 + 1, none⟩ = some (.slice ay yl.length cy)) := fun W hW => ⟨below_cell hW (hc _ _ q0), by have h9 := below_cell hW (hc _ _ q1); rw [← Nat.add_assoc] at h9; exact h9, below_cell hW (hc2 _ _ q2), by have h9 := below_cell hW (hc2 _ _ q3); rw [← Nat.add_assoc] at h9; exact h9⟩
              have e1 : decide ((i : Int) < (n : Int)) = true := by rw [decide_eq_true_eq]; omega
              have e2 : decide (i < n) = true := by rw [decide_eq_true_eq]; omega
              have e5 : (i : Int) < (n : Int) := by omega
              have e6 : i < n := hi
              have HIL : Hid (i < n) := hi
              have hwr := w64n i (by have := HBT.out; have := HIL.out; omega)
              have kys : (ys == ys) = true := by rw [beq_iff_eq]
              clear e0 hc hx hy q0 q1 q2 q3 hi e02 hc2 hil hil2
              go_upto_region 16 with fail
              clear p0 p1 p2 p3 p4 p5
              obtain ⟨WD, hWD⟩ : ∃ WD, wr.drew = WD := ⟨_, rfl⟩
              have BD : Hid (Below wr.heap.size wr WD) := by rw [← hWD]; exact Below.drew (Below.refl _ _)
              have BWD : Hid (Below W1.heap.size W1 WD) := below_trans HBW.out BD.out
              have BDW : Hid (Below w.heap.size w WD) := below_trans HW1.out BWD.out
              have kd : Hid _ := KW.out WD BDW.out
              have cd : Hid _ := HCC.out WD BWD.out
              refine wp_region_noPanic ?_
              refine wp_region_held_drew (S := fun W => (W.cell? ⟨g, o + i * 2, none⟩ = some (.int .i64 ys) ∧ W.cell? ⟨g, o + i * 2 + 1, none⟩ = some (.slice ax yl.length cx) ∧ W.cell? ⟨g2, o2 + i * 2, none⟩ = some (.int .i64 ys) ∧ W.cell? ⟨g2, o2 + i * 2 + 1, none⟩ = some (.slice ay yl.length cy)) ∧ W.cell? ⟨gb, 2, none⟩ = some (.slice (some ⟨g, o, none⟩) n c2) ∧ W.cell? ⟨rb, 2, none⟩ = some (.slice (some ⟨g2, o2, none⟩) n f2)) (by kernel_rfl) (by rw [hWD]; exact ⟨kd.out, cd.out.1.2.2, cd.out.2.2.2⟩) (fun hHeld => ?_)
              rw [hWD] at hHeld ⊢
              clear hWD
              refine wpAnyH_take (i := 0) (oi := { dst := _, op := _, type := _, pos := _, after := _, guard := _ }) (v := ?_) rfl (by kernel_rfl) (by kernel_rfl) (by kernel_rfl) (fun _ _ _ h => h) (Or.inl ⟨by rfl, ?_⟩) (by assumption) ?_
              rotate_left
              · intro W hSw
                (try dsimp only at hSw)
                go_simp
                (try with_reducible rfl)
              try simp only [Act.put, List.setIfInBounds_toArray, List.set_cons_zero, List.set_cons_succ]
              refine wpAnyH_take (i := 1) (oi := { dst := _, op := _, type := _, pos := _, after := _, guard := _ }) (v := ?_) rfl (by kernel_rfl) (by kernel_rfl) (by kernel_rfl) (fun _ _ _ h => h) (Or.inl ⟨by rfl, ?_⟩) (by assumption) ?_
              rotate_left
              · intro W hSw
                (try dsimp only at hSw)
                go_simp
                (try with_reducible rfl)
              try simp only [Act.put, List.setIfInBounds_toArray, List.set_cons_zero, List.set_cons_succ]
              refine wpAnyH_take (i := 2) (oi := { dst := _, op := _, type := _, pos := _, after := _, guard := _ }) (v := ?_) rfl (by kernel_rfl) (by kernel_rfl) (by kernel_rfl) (fun _ _ _ h => h) (Or.inl ⟨by rfl, ?_⟩) (by assumption) ?_
              rotate_left
              · intro W hSw
                (try dsimp only at hSw)
                go_simp
                (try with_reducible rfl)
              try simp only [Act.put, List.setIfInBounds_toArray, List.set_cons_zero, List.set_cons_succ]
              refine wpAnyH_take (i := 3) (oi := { dst := _, op := _, type := _, pos := _, after := _, guard := _ }) (v := ?_) rfl (by kernel_rfl) (by kernel_rfl) (by kernel_rfl) (fun _ _ _ h => h) (Or.inl ⟨by rfl, ?_⟩) (by assumption) ?_
              rotate_left
              · intro W hSw
                (try dsimp only at hSw)
                go_simp
                (try with_reducible rfl)
              try simp only [Act.put, List.setIfInBounds_toArray, List.set_cons_zero, List.set_cons_succ]
              refine wpAnyH_take (i := 4) (oi := { dst := _, op := _, type := _, pos := _, after := _, guard := _ }) (v := ?_) rfl (by kernel_rfl) (by kernel_rfl) (by kernel_rfl) (fun _ _ _ h => h) (Or.inl ⟨by rfl, ?_⟩) (by assumption) ?_
              rotate_left
              · intro W hSw
                (try dsimp only at hSw)
                go_simp
                (try with_reducible rfl)
              try simp only [Act.put, List.setIfInBounds_toArray, List.set_cons_zero, List.set_cons_succ]
              refine wpAnyH_take (i := 5) (oi := { dst := _, op := _, type := _, pos := _, after := _, guard := _ }) (v := ?_) rfl (by kernel_rfl) (by kernel_rfl) (by kernel_rfl) (fun _ _ _ h => h) (Or.inl ⟨by rfl, ?_⟩) (by assumption) ?_
              rotate_left
              · intro W hSw
                (try dsimp only at hSw)
                go_simp
                (try with_reducible rfl)
              try simp only [Act.put, List.setIfInBounds_toArray, List.set_cons_zero, List.set_cons_succ]
              refine wpAnyH_take (i := 6) (oi := { dst := _, op := _, type := _, pos := _, after := _, guard := _ }) (v := ?_) rfl (by kernel_rfl) (by kernel_rfl) (by kernel_rfl) (fun _ _ _ h => h) (Or.inl ⟨by rfl, ?_⟩) (by assumption) ?_
              rotate_left
              · intro W hSw
                (try dsimp only at hSw)
                go_simp
                (try with_reducible rfl)
              try simp only [Act.put, List.setIfInBounds_toArray, List.set_cons_zero, List.set_cons_succ]
              refine wpAnyH_take (i := 7) (oi := { dst := _, op := _, type := _, pos := _, after := _, guard := _ }) (v := ?_) rfl (by kernel_rfl) (by kernel_rfl) (by kernel_rfl) (fun _ _ _ h => h) (Or.inl ⟨by rfl, ?_⟩) (by assumption) ?_
              rotate_left
              · intro W hSw
                (try dsimp only at hSw)
                go_simp
                (try with_reducible rfl)
              try simp only [Act.put, List.setIfInBounds_toArray, List.set_cons_zero, List.set_cons_succ]
              refine wpAnyH_take (i := 8) (oi := { dst := _, op := _, type := _, pos := _, after := _, guard := _ }) (v := ?_) rfl (by kernel_rfl) (by kernel_rfl) (by kernel_rfl) (fun _ _ _ h => h) (Or.inl ⟨by rfl, ?_⟩) (by assumption) ?_
              rotate_left
              · intro W hSw
                (try dsimp only at hSw)
                go_simp
                (try with_reducible rfl)
              try simp only [Act.put, List.setIfInBounds_toArray, List.set_cons_zero, List.set_cons_succ]
              refine wpAnyH_take (i := 9) (oi := { dst := _, op := _, type := _, pos := _, after := _, guard := _ }) (v := ?_) rfl (by kernel_rfl) (by kernel_rfl) (by kernel_rfl) (fun _ _ _ h => h) (Or.inl ⟨by rfl, ?_⟩) (by assumption) ?_
              rotate_left
              · intro W hSw
                (try dsimp only at hSw)
                go_simp
                (try with_reducible rfl)
              try simp only [Act.put, List.setIfInBounds_toArray, List.set_cons_zero, List.set_cons_succ]
              refine wpAnyH_take (i := 10) (oi := { dst := _, op := _, type := _, pos := _, after := _, guard := _ }) (v := ?_) rfl (by kernel_rfl) (by kernel_rfl) (by kernel_rfl) (fun _ _ _ h => h) (Or.inl ⟨by rfl, ?_⟩) (by assumption) ?_
              rotate_left
              · intro W hSw
                (try dsimp only at hSw)
                go_simp
                (try with_reducible rfl)
              try simp only [Act.put, List.setIfInBounds_toArray, List.set_cons_zero, List.set_cons_succ]
              refine wpAnyH_take (i := 11) (oi := { dst := _, op := _, type := _, pos := _, after := _, guard := _ }) (v := ?_) rfl (by kernel_rfl) (by kernel_rfl) (by kernel_rfl) (fun _ _ _ h => h) (Or.inl ⟨by rfl, ?_⟩) (by assumption) ?_
              rotate_left
              · intro W hSw
                (try dsimp only at hSw)
                go_simp
                (try with_reducible rfl)
              try simp only [Act.put, List.setIfInBounds_toArray, List.set_cons_zero, List.set_cons_succ]
              refine wpAnyH_take (i := 12) (oi := { dst := _, op := _, type := _, pos := _, after := _, guard := _ }) (v := ?_) rfl (by kernel_rfl) (by kernel_rfl) (by kernel_rfl) (fun _ _ _ h => h) (Or.inl ⟨by rfl, ?_⟩) (by assumption) ?_
              rotate_left
              · intro W hSw
                (try dsimp only at hSw)
                go_simp
                (try with_reducible rfl)
              try simp only [Act.put, List.setIfInBounds_toArray, List.set_cons_zero, List.set_cons_succ]
              refine wpAnyH_take (i := 13) (oi := { dst := _, op := _, type := _, pos := _, after := _, guard := _ }) (v := ?_) rfl (by kernel_rfl) (by kernel_rfl) (by kernel_rfl) (fun _ _ _ h => h) (Or.inl ⟨by rfl, ?_⟩) (by assumption) ?_
              rotate_left
              · intro W hSw
                (try dsimp only at hSw)
                go_simp
                (try with_reducible rfl)
              try simp only [Act.put, List.setIfInBounds_toArray, List.set_cons_zero, List.set_cons_succ]
              refine wpAnyH_take (i := 14) (oi := { dst := _, op := _, type := _, pos := _, after := _, guard := _ }) (v := ?_) rfl (by kernel_rfl) (by kernel_rfl) (by kernel_rfl) (fun _ _ _ h => h) (Or.inl ⟨by rfl, ?_⟩) (by assumption) ?_
              rotate_left
              · intro W hSw
                (try dsimp only at hSw)
                go_simp
                (try with_reducible rfl)
              try simp only [Act.put, List.setIfInBounds_toArray, List.set_cons_zero, List.set_cons_succ]
              refine wpAnyH_take (i := 15) (oi := { dst := _, op := _, type := _, pos := _, after := _, guard := _ }) (v := ?_) rfl (by kernel_rfl) (by kernel_rfl) (by kernel_rfl) (fun _ _ _ h => h) (Or.inl ⟨by rfl, ?_⟩) (by assumption) ?_
              rotate_left
              · intro W hSw
                (try dsimp only at hSw)
                go_simp
                (try with_reducible rfl)
              try simp only [Act.put, List.setIfInBounds_toArray, List.set_cons_zero, List.set_cons_succ]
              refine wpAnyH_take (i := 16) (oi := { dst := _, op := _, type := _, pos := _, after := _, guard := _ }) (v := ?_) rfl (by kernel_rfl) (by kernel_rfl) (by kernel_rfl) (fun _ _ _ h => h) (Or.inl ⟨by rfl, ?_⟩) (by assumption) ?_
              rotate_left
              · intro W hSw
                (try dsimp only at hSw)
                go_simp
                (try with_reducible rfl)
              try simp only [Act.put, List.setIfInBounds_toArray, List.set_cons_zero, List.set_cons_succ]
              refine wpAnyH_take (i := 17) (oi := { dst := _, op := _, type := _, pos := _, after := _, guard := _ }) (v := ?_) rfl (by kernel_rfl) (by kernel_rfl) (by kernel_rfl) (fun _ _ _ h => h) (Or.inl ⟨by rfl, ?_⟩) (by assumption) ?_
              rotate_left
              · intro W hSw
                (try dsimp only at hSw)
                go_simp
                (try with_reducible rfl)
              try simp only [Act.put, List.setIfInBounds_toArray, List.set_cons_zero, List.set_cons_succ]
              refine wpAnyH_take (i := 18) (oi := { dst := _, op := _, type := _, pos := _, after := _, guard := _ }) (v := ?_) rfl (by kernel_rfl) (by kernel_rfl) (by kernel_rfl) (fun _ _ _ h => h) (Or.inl ⟨by rfl, ?_⟩) (by assumption) ?_
              rotate_left
              · intro W hSw
                (try dsimp only at hSw)
                go_simp
                (try with_reducible rfl)
              try simp only [Act.put, List.setIfInBounds_toArray, List.set_cons_zero, List.set_cons_succ]
              refine wpAnyH_take (i := 19) (oi := { dst := _, op := _, type := _, pos := _, after := _, guard := _ }) (v := ?_) rfl (by kernel_rfl) (by kernel_rfl) (by kernel_rfl) (fun _ _ _ h => h) (Or.inl ⟨by rfl, ?_⟩) (by assumption) ?_
              rotate_left
              · intro W hSw
                (try dsimp only at hSw)
                go_simp
                (try with_reducible rfl)
              try simp only [Act.put, List.setIfInBounds_toArray, List.set_cons_zero, List.set_cons_succ]
              refine wpAnyH_take (i := 20) (oi := { dst := _, op := _, type := _, pos := _, after := _, guard := _ }) (v := ?_) rfl (by kernel_rfl) (by kernel_rfl) (by kernel_rfl) (fun _ _ _ h => h) (Or.inl ⟨by rfl, ?_⟩) (by assumption) ?_
              rotate_left
              · intro W hSw
                (try dsimp only at hSw)
                go_simp
                (try with_reducible rfl)
              try simp only [Act.put, List.setIfInBounds_toArray, List.set_cons_zero, List.set_cons_succ]
              refine wpAnyH_take (i := 21) (oi := { dst := _, op := _, type := _, pos := _, after := _, guard := _ }) (v := ?_) rfl (by kernel_rfl) (by kernel_rfl) (by kernel_rfl) (fun _ _ _ h => h) (Or.inl ⟨by rfl, ?_⟩) (by assumption) ?_
              rotate_left
              · intro W hSw
                (try dsimp only at hSw)
                go_simp
                (try with_reducible rfl)
              try simp only [Act.put, List.setIfInBounds_toArray, List.set_cons_zero, List.set_cons_succ]
              refine wpAnyH_take (i := 22) (oi := { dst := _, op := _, type := _, pos := _, after := _, guard := _ }) (v := ?_) rfl (by kernel_rfl) (by kernel_rfl) (by kernel_rfl) (fun _ _ _ h => h) (Or.inl ⟨by rfl, ?_⟩) (by assumption) ?_
              rotate_left
              · intro W hSw
                (try dsimp only at hSw)
                go_simp
                (try with_reducible rfl)
              try simp only [Act.put, List.setIfInBounds_toArray, List.set_cons_zero, List.set_cons_succ]
              refine wpAnyH_take (i := 23) (oi := { dst := _, op := _, type := _, pos := _, after := _, guard := _ }) (v := ?_) rfl (by kernel_rfl) (by kernel_rfl) (by kernel_rfl) (fun _ _ _ h => h) (Or.inl ⟨by rfl, ?_⟩) (by assumption) ?_
              rotate_left
              · intro W hSw
                (try dsimp only at hSw)
                go_simp
                (try with_reducible rfl)
              try simp only [Act.put, List.setIfInBounds_toArray, List.set_cons_zero, List.set_cons_succ]
              refine wpAnyH_take (i := 24) (oi := { dst := _, op := _, type := _, pos := _, after := _, guard := _ }) (v := ?_) rfl (by kernel_rfl) (by kernel_rfl) (by kernel_rfl) (fun _ _ _ h => h) (Or.inl ⟨by rfl, ?_⟩) (by assumption) ?_
              rotate_left
              · intro W hSw
                (try dsimp only at hSw)
                go_simp
                (try with_reducible rfl)
              try simp only [Act.put, List.setIfInBounds_toArray, List.set_cons_zero, List.set_cons_succ]
              refine wpAnyH_take (i := 25) (oi := { dst := _, op := _, type := _, pos := _, after := _, guard := _ }) (v := ?_) rfl (by kernel_rfl) (by kernel_rfl) (by kernel_rfl) (fun _ _ _ h => h) (Or.inl ⟨by rfl, ?_⟩) (by assumption) ?_
              rotate_left
              · intro W hSw
                (try dsimp only at hSw)
                go_simp
                (try with_reducible rfl)
              try simp only [Act.put, List.setIfInBounds_toArray, List.set_cons_zero, List.set_cons_succ]
              refine wpAnyH_ready (rs := [26]) (by kernel_rfl) (by simp) ?_
              refine AllReadyH.cons (o := { dst := _, op := _, type := _, pos := _, after := _, guard := _ }) rfl (fun K hK => ?_) AllReadyH.nil
              go_simp
              go_at_call 40
              refine (sameRow_any WD (HR1.out.up BDW.out) (HR2.out.up BDW.out) (by have := HPZ.out; omega)).mono ?_
              rintro e w2 ⟨rfl, hb2⟩
              have B2 : Hid (Below WD.heap.size WD w2) := hb2
              have BW2 : Hid (Below W1.heap.size W1 w2) := below_trans BWD.out B2.out
              clear hb2
              refine hK.out _ _ ?_ (fun hHeld => ?_)
              · exact ⟨KW.out _ (below_trans HW1.out BW2.out), (HCC.out _ BW2.out).1.2.2, (HCC.out _ BW2.out).2.2.2⟩
              clear hK K
              try simp only [Act.put, List.setIfInBounds_toArray, List.set_cons_zero, List.set_cons_succ]
              refine wpAnyH_take (i := 27) (oi := { dst := _, op := _, type := _, pos := _, after := _, guard := _ }) (v := ?_) rfl (by kernel_rfl) (by kernel_rfl) (by kernel_rfl) (fun _ _ _ h => h) (Or.inl ⟨by rfl, ?_⟩) (by assumption) ?_
              rotate_left
              · intro W hSw
                (try dsimp only at hSw)
                go_simp
                (try with_reducible rfl)
              try simp only [Act.put, List.setIfInBounds_toArray, List.set_cons_zero, List.set_cons_succ]
              refine wpAnyH_take (i := 28) (oi := { dst := _, op := _, type := _, pos := _, after := _, guard := _ }) (v := ?_) rfl (by kernel_rfl) (by kernel_rfl) (by kernel_rfl) (fun _ _ _ h => h) (Or.inl ⟨by rfl, ?_⟩) (by assumption) ?_
              rotate_left
              · intro W hSw
                (try dsimp only at hSw)
                go_simp
                (try with_reducible rfl)
              try simp only [Act.put, List.setIfInBounds_toArray, List.set_cons_zero, List.set_cons_succ]
              refine wpAnyH_done (by kernel_rfl) ?_ _
              refine NoPanic.normal ?_
              clear hHeld
              go_wp2_with fail
              go_roundg (n - (i + 1))
              case measure => have := HI.out; have := HIL.out; omega
              case rel => exact ⟨i + 1, by first | rfl | (rw [show (i : Int) + 1 = ((i + 1 : Nat) : Int) by omega]), BW2, ⟨HIL.out, rfl⟩⟩
            · have e1 : decide ((i : Int) < (n : Int)) = false := by rw [decide_eq_false_iff_not]; omega
              have e2 : decide (i < n) = false := by rw [decide_eq_false_iff_not]; omega
              clear hi
              go_wp2_with fail
              go_ret
              exact ⟨rfl, below_trans HW1.out HBW.out⟩

set_option maxRecDepth 100000 in
set_option maxHeartbeats 16000000 in
theorem still_any {B : Nat} {v0 v1 v2 w0 w1 w2 : Value} {Te : List Td} {Sy : List Sd} {P P' : List Pd} (w : World) (ha : Gl B w v0 v1 v2 Te Sy P) (hb : Gx w w0 w1 w2 Te Sy P') (hp : P'.map pd2 = P.map pd2) (hs : Gs Te Sy P) :
    Calls Try.prog 21 #[.agg #[v0, v1, v2], .agg #[w0, w1, w2]] w fun e w' => e = .returned (.bool true) ∧ Below w.heap.size w w' := by
  have HL : Hid (Gl B w v0 v1 v2 Te Sy P) := ha
  have HA : Hid (Gx w v0 v1 v2 Te Sy P) := ha.gx
  have HB : Hid (Gx w w0 w1 w2 Te Sy P') := hb
  have HZ : Hid (Gs Te Sy P) := hs
  have HP : Hid (P'.map pd2 = P.map pd2) := hp
  obtain ⟨g0, c0, rfl, ho0⟩ := ha.t
  obtain ⟨g1, c1, rfl, ho1⟩ := ha.s
  obtain ⟨g2, c2, rfl, ho2⟩ := ha.p
  obtain ⟨d0, f0, d1, f1, d2, f2, rfl, rfl, rfl⟩ := hb.g.form
  have HO0 : Hid (∀ j u, (flat tdf (Te ++ tmk 20))[j]? = some u → w.cell? ⟨g0, j, none⟩ = some u) := fun j u hu => row_at ho0 j u hu
  have HO1 : Hid (∀ j u, (flat sdf (Sy ++ smk 20))[j]? = some u → w.cell? ⟨g1, j, none⟩ = some u) := fun j u hu => row_at ho1 j u hu
  have HO2 : Hid (∀ j u, (flat pf (P ++ pmk 20))[j]? = some u → w.cell? ⟨g2, j, none⟩ = some u) := fun j u hu => row_at ho2 j u hu
  have l0 := (row_cap ho0).1
  have l1 := (row_cap ho1).1
  have l2 := (row_cap ho2).1
  have hpl : P'.length = P.length := by have h9 := congrArg List.length hp; rw [List.length_map, List.length_map] at h9; exact h9
  have HPL : Hid (P'.length = P.length) := hpl
  rw [hpl] at HB ⊢
  clear ha hb hs hp hpl ho0 ho1 ho2
  obtain ⟨nT, hnT⟩ : ∃ n, Te.length = n := ⟨_, rfl⟩
  have HNT : Hid (Te.length = nT) := hnT
  obtain ⟨nS, hnS⟩ : ∃ n, Sy.length = n := ⟨_, rfl⟩
  have HNS : Hid (Sy.length = nS) := hnS
  obtain ⟨n, hnn⟩ : ∃ n, P.length = n := ⟨_, rfl⟩
  have HNN : Hid (P.length = n) := hnn
  rw [hnT] at HL HA HB l0 ⊢
  rw [hnS] at HL HA HB l1 ⊢
  rw [hnn] at HL HA HB l2 ⊢
  clear hnT hnS hnn
  have HBT : Hid (nT * 24 + 4096 ≤ 140737488355328 ∧ nS * 24 + 4096 ≤ 140737488355328 ∧ n * 32 + 4096 ≤ 140737488355328) := by have := HZ.out.t; have := HZ.out.s; have := HZ.out.p; have := HNT.out; have := HNS.out; have := HNN.out; show _ ∧ _; omega
  have HB2 : Hid (Rw w (.slice d2 n f2) n (flat pf P')) := by have h9 := HB.out.g.p; rw [HPL.out, HNN.out] at h9; exact h9
  obtain ⟨W1, hW1⟩ : ∃ W1, W1 = (w.alloc (.cells #[.slice (some ⟨g0, 0, none⟩) nT c0, .slice (some ⟨g1, 0, none⟩) nS c1, .slice (some ⟨g2, 0, none⟩) n c2] 26)).alloc (.cells #[.slice d0 nT f0, .slice d1 nS f1, .slice d2 n f2] 26) := ⟨_, rfl⟩
  have HW1 : Hid (Below w.heap.size w W1) := by rw [hW1]; exact below_trans (bel_up _ _) (bel_up _ _)
  have HX : Hid (W1.heap[w.heap.size]? = some (.cells #[.slice (some ⟨g0, 0, none⟩) nT c0, .slice (some ⟨g1, 0, none⟩) nS c1, .slice (some ⟨g2, 0, none⟩) n c2] 26 (0, 0)) ∧ W1.heap[w.heap.size + 1]? = some (.cells #[.slice d0 nT f0, .slice d1 nS f1, .slice d2 n f2] 26 (0, 0))) := by
    have e1 := heap_new w (.cells #[.slice (some ⟨g0, 0, none⟩) nT c0, .slice (some ⟨g1, 0, none⟩) nS c1, .slice (some ⟨g2, 0, none⟩) n c2] 26)
    have e2 := heap_new (w.alloc (.cells #[.slice (some ⟨g0, 0, none⟩) nT c0, .slice (some ⟨g1, 0, none⟩) nS c1, .slice (some ⟨g2, 0, none⟩) n c2] 26)) (.cells #[.slice d0 nT f0, .slice d1 nS f1, .slice d2 n f2] 26)
    rw [World.size_alloc] at e2
    rw [hW1]
    exact ⟨((bel_up _ _).block _ (lt_of_heap e1)).trans e1, e2⟩
  have hT20 : IntKind.i64.wrap ((nT : Int) + 20) = ((nT + 20 : Nat) : Int) := by have := HBT.out; rw [IntKind.wrap_i64]; omega
  have hS20 : IntKind.i64.wrap ((nS : Int) + 20) = ((nS + 20 : Nat) : Int) := by have := HBT.out; rw [IntKind.wrap_i64]; omega
  have hP20 : IntKind.i64.wrap ((n : Int) + 20) = ((n + 20 : Nat) : Int) := by have := HBT.out; rw [IntKind.wrap_i64]; omega
  have m0 : ((nT + 20 : Nat) : Int) ≤ (c0 : Int) := by omega
  have m0' : (nT : Int) + 20 ≤ (c0 : Int) := by omega
  have m1 : ((nS + 20 : Nat) : Int) ≤ (c1 : Int) := by omega
  have m1' : (nS : Int) + 20 ≤ (c1 : Int) := by omega
  have m2 : ((n + 20 : Nat) : Int) ≤ (c2 : Int) := by omega
  have m2' : (n : Int) + 20 ≤ (c2 : Int) := by omega
  go_enter Try.func21, Try.ntmps21
  go_upto_region 1 with fail
  rw [← hW1]
  clear hW1
  obtain ⟨gb, hgb⟩ : ∃ gb, w.heap.size = gb := ⟨_, rfl⟩
  have HGB : Hid (w.heap.size = gb) := hgb
  rw [hgb] at HX ⊢
  clear hgb
  obtain ⟨rb, hrb⟩ : ∃ rb, gb + 1 = rb := ⟨_, rfl⟩
  rw [hrb] at HX ⊢
  clear hrb
  have HCC : Hid (∀ W, Below W1.heap.size W1 W → (W.cell? ⟨gb, 0, none⟩ = some (.slice (some ⟨g0, 0, none⟩) nT c0) ∧ W.cell? ⟨gb, 1, none⟩ = some (.slice (some ⟨g1, 0, none⟩) nS c1) ∧ W.cell? ⟨gb, 2, none⟩ = some (.slice (some ⟨g2, 0, none⟩) n c2)) ∧ W.cell? ⟨rb, 0, none⟩ = some (.slice d0 nT f0) ∧ W.cell? ⟨rb, 1, none⟩ = some (.slice d1 nS f1) ∧ W.cell? ⟨rb, 2, none⟩ = some (.slice d2 n f2)) := fun W hW => ⟨⟨below_cell hW (rcell HX.out.1 0 _ rfl), below_cell hW (rcell HX.out.1 1 _ rfl), below_cell hW (rcell HX.out.1 2 _ rfl)⟩, below_cell hW (rcell HX.out.2 0 _ rfl), below_cell hW (rcell HX.out.2 1 _ rfl), below_cell hW (rcell HX.out.2 2 _ rfl)⟩
  obtain ⟨⟨p0, p1, p2⟩, p3, p4, p5⟩ := HCC.out W1 (Below.refl _ _)
  go_upto_region 5 with fail
  clear p0 p1 p2 p3 p4 p5 m0 m0' m1 m1' m2 m2' hT20 hS20 hP20
  go_loopg [8] 20 (fun gm v8 wr => ∃ i : Nat, v8 = .int .i64 (i : Int) ∧ Hid (Below W1.heap.size W1 wr) ∧ Hid (i ≤ 20 ∧ gm = 20 - i))
  case atStart => exact ⟨0, rfl, Below.refl _ _, ⟨Nat.zero_le _, rfl⟩⟩
  case round =>
    obtain ⟨i, rfl, HBW, HI⟩ := hrel
    obtain ⟨⟨p0, p1, p2⟩, p3, p4, p5⟩ := HCC.out wr HBW.out
    by_cases hi : i < 20
    · have e1 : decide ((i : Int) < 20) = true := by rw [decide_eq_true_eq]; omega
      have e2 : decide (i < 20) = true := by rw [decide_eq_true_eq]; omega
      have e5 : (i : Int) < 20 := by omega
      have HIL : Hid (i < 20) := hi
      have hwr := w64n i (by omega)
      have hadd : IntKind.i64.wrap (900 + (i : Int)) = 900 + (i : Int) := by rw [IntKind.wrap_i64]; omega
      have hBW := below_trans HW1.out HBW.out
      obtain ⟨q0, q1⟩ := tdf_get (Te ++ tmk 20) (nT + i) (by rw [List.length_append, tmk_len, HNT.out]; omega)
      obtain ⟨q2, q3⟩ := sdf_get (Sy ++ smk 20) (nS + i) (by rw [List.length_append, smk_len, HNS.out]; omega)
      obtain ⟨q4, q5⟩ := pf_get (P ++ pmk 20) (n + i) (by rw [List.length_append, pmk_len, HNN.out]; omega)
      have t0 := getD_app Te (tmk 20) tdd i
      rw [HNT.out, tmk_get 20 i hi] at t0
      have t1 := getD_app Sy (smk 20) sdd i
      rw [HNS.out, smk_get 20 i hi] at t1
      have t2 := getD_app P (pmk 20) pfd i
      rw [HNN.out, pmk_get 20 i hi] at t2
      rw [t0] at q0 q1
      rw [t1] at q2 q3
      rw [t2] at q4 q5
      dsimp only at q0 q1 q2 q3 q4 q5
      have k0 := below_cell hBW (HO0.out _ _ q0)
      have k1 := below_cell hBW (HO0.out _ _ q1)
      have k2 := below_cell hBW (HO1.out _ _ q2)
      have k3 := below_cell hBW (HO1.out _ _ q3)
      have k4 := below_cell hBW (HO2.out _ _ q4)
      have k5 := below_cell hBW (HO2.out _ _ q5)
      have h1 : IntKind.i64.wrap ((nT : Int) + (i : Int)) = ((nT + i : Nat) : Int) := by have := HBT.out; rw [IntKind.wrap_i64]; omega
      have h2 : IntKind.i64.wrap ((nS : Int) + (i : Int)) = ((nS + i : Nat) : Int) := by have := HBT.out; rw [IntKind.wrap_i64]; omega
      have h3 : IntKind.i64.wrap ((n : Int) + (i : Int)) = ((n + i : Nat) : Int) := by have := HBT.out; rw [IntKind.wrap_i64]; omega
      have x1 : ((nT + i : Nat) : Int) < ((nT + 20 : Nat) : Int) := by omega
      have x1' : (nT : Int) + (i : Int) < (nT : Int) + 20 := by omega
      have x1n : nT + i < nT + 20 := by omega
      have x2 : ((nS + i : Nat) : Int) < ((nS + 20 : Nat) : Int) := by omega
      have x2' : (nS : Int) + (i : Int) < (nS : Int) + 20 := by omega
      have x2n : nS + i < nS + 20 := by omega
      have x3 : ((n + i : Nat) : Int) < ((n + 20 : Nat) : Int) := by omega
      have x3' : (n : Int) + (i : Int) < (n : Int) + 20 := by omega
      have x3n : n + i < n + 20 := by omega
      have n1 := neq58 mkS false
      have n2 := neq61 mkS 0
      unfold mkS at n1 n2 k0 k2
      clear hi q0 q1 q2 q3 q4 q5 t0 t1 t2
      go_wp2_with fail
      go_roundg (20 - (i + 1))
      case measure => have := HI.out; have := HIL.out; omega
      case rel => exact ⟨i + 1, by first | rfl | (rw [show (i : Int) + 1 = ((i + 1 : Nat) : Int) by omega]), HBW, ⟨HIL.out, rfl⟩⟩
    · have e1 : decide ((i : Int) < 20) = false := by rw [decide_eq_false_iff_not]; omega
      have e2 : decide (i < 20) = false := by rw [decide_eq_false_iff_not]; omega
      clear hi
      have BW : Hid (Below w.heap.size w wr) := below_trans HW1.out HBW.out
      have HAW : Hid (Gx wr (.slice (some ⟨g0, 0, none⟩) nT c0) (.slice (some ⟨g1, 0, none⟩) nS c1) (.slice (some ⟨g2, 0, none⟩) n c2) Te Sy P) := HA.out.up BW.out
      have HBX : Hid (Gx wr (.slice d0 nT f0) (.slice d1 nS f1) (.slice d2 n f2) Te Sy P') := HB.out.up BW.out
      go_upto_region 12 with (go_at_call 39; refine (same_any wr HAW.out HBX.out HP.out HZ.out).mono ?_; rintro e W3 ⟨rfl, hb3⟩; have B3 : Hid (Below wr.heap.size wr W3) := hb3; clear hb3)
      clear p0 p1 p2 p3 p4 p5 e1 e2 HI HAW HBX
      have HBV : Hid (Below W1.heap.size W1 W3) := below_trans HBW.out B3.out
      clear HBW B3 BW
      go_loopg [9] n (fun gm v9 wr => ∃ i : Nat, v9 = .int .i64 (i : Int) ∧ Hid (Below W1.heap.size W1 wr) ∧ Hid (i ≤ n ∧ gm = n - i))
      case atStart => exact ⟨0, rfl, HBV, ⟨Nat.zero_le _, rfl⟩⟩
      case round =>
        clear HBV
        obtain ⟨i, rfl, HBW, HI⟩ := hrel
        obtain ⟨⟨p0, p1, p2⟩, p3, p4, p5⟩ := HCC.out wr HBW.out
        by_cases hi : i < n
        · obtain ⟨g5, o5, cap5, e02, hc2⟩ := HB2.out.place (by omega)
          obtain ⟨rfl, -, rfl⟩ := Value.slice.inj e02
          have hil : i < P.length := by have := HNN.out; omega
          have hil2 : i < P'.length := by have := HPL.out; omega
          obtain ⟨q0, q1⟩ := pf_get (P ++ pmk 20) i (by rw [List.length_append]; omega)
          rw [getD_left _ _ _ _ hil] at q0 q1
          obtain ⟨q2, q3⟩ := pf_get P' i hil2
          have HR1 : Hid (Lr B w (P.getD i pfd).2.1 (P.getD i pfd).2.2) := HL.out.r _ (mem_getD hil pfd)
          have HR2 : Hid (Rw w (P'.getD i pfd).2.1 (P'.getD i pfd).2.2.length (flat rf (P'.getD i pfd).2.2)) := HB.out.g.r _ (mem_getD hil2 pfd)
          have HPZ : Hid ((P.getD i pfd).2.2.length * 40 + 4096 ≤ 140737488355328) := HZ.out.r _ (mem_getD hil pfd)
          obtain ⟨s0, s1⟩ := pd2_get HP.out i hil
          obtain ⟨x, hx⟩ : ∃ x, P.getD i pfd = x := ⟨_, rfl⟩
          obtain ⟨y, hy⟩ : ∃ y, P'.getD i pfd = y := ⟨_, rfl⟩
          rw [hx] at q0 q1 HR1 HPZ s0 s1
          rw [hy] at q2 q3 HR2 s0 s1
          obtain ⟨xs, xv, xl⟩ := x
          obtain ⟨ys, yv, yl⟩ := y
          dsimp only at q0 q1 q2 q3 HR1 HR2 HPZ s0 s1
          subst s0 s1
          obtain ⟨ax, cx, rfl⟩ := HR1.out.rw.form
          obtain ⟨ay, cy, rfl⟩ := HR2.out.form
          have KW : Hid (∀ W, Below w.heap.size w W → W.cell? ⟨g2, i * 2 + 1, none⟩ = some (.slice ax yl.length cx) ∧ W.cell? ⟨g5, o5 + i * 2 + 1, none⟩ = some (.slice ay yl.length cy)) := fun W hW => ⟨below_cell hW (HO2.out _ _ q1), by have h9 := below_cell hW (hc2 _ _ q3); rw [← Nat.add_assoc] at h9; exact h9⟩
          have e1 : decide ((i : Int) < (n : Int)) = true := by rw [decide_eq_true_eq]; omega
          have e2 : decide (i < n) = true := by rw [decide_eq_true_eq]; omega
          have e5 : (i : Int) < (n : Int) := by omega
          have e6 : i < n := hi
          have HIL : Hid (i < n) := hi
          have hwr := w64n i (by have := HBT.out; have := HIL.out; omega)
          clear hx hy q0 q1 q2 q3 hi e02 hc2 hil hil2
          go_upto_region 14 with fail
          clear p0 p1 p2 p3 p4 p5
          obtain ⟨WD, hWD⟩ : ∃ WD, wr.drew = WD := ⟨_, rfl⟩
          have BD : Hid (Below wr.heap.size wr WD) := by rw [← hWD]; exact Below.drew (Below.refl _ _)
          have BWD : Hid (Below W1.heap.size W1 WD) := below_trans HBW.out BD.out
          have BDW : Hid (Below w.heap.size w WD) := below_trans HW1.out BWD.out
          have kd : Hid _ := KW.out WD BDW.out
          have cd : Hid _ := HCC.out WD BWD.out
          refine wp_region_noPanic ?_
          refine wp_region_held_drew (S := fun W => (W.cell? ⟨g2, i * 2 + 1, none⟩ = some (.slice ax yl.length cx) ∧ W.cell? ⟨g5, o5 + i * 2 + 1, none⟩ = some (.slice ay yl.length cy)) ∧ W.cell? ⟨gb, 2, none⟩ = some (.slice (some ⟨g2, 0, none⟩) n c2) ∧ W.cell? ⟨rb, 2, none⟩ = some (.slice (some ⟨g5, o5, none⟩) n f2)) (by kernel_rfl) (by rw [hWD]; exact ⟨kd.out, cd.out.1.2.2, cd.out.2.2.2⟩) (fun hHeld => ?_)
          rw [hWD] at hHeld ⊢
          clear hWD
          refine wpAnyH_take (i := 0) (oi := { dst := _, op := _, type := _, pos := _, after := _, guard := _ }) (v := ?_) rfl (by kernel_rfl) (by kernel_rfl) (by kernel_rfl) (fun _ _ _ h => h) (Or.inl ⟨by rfl, ?_⟩) (by assumption) ?_
          rotate_left
          · intro W hSw
            (try dsimp only at hSw)
            go_simp
            (try with_reducible rfl)
          try simp only [Act.put, List.setIfInBounds_toArray, List.set_cons_zero, List.set_cons_succ]
          refine wpAnyH_take (i := 1) (oi := { dst := _, op := _, type := _, pos := _, after := _, guard := _ }) (v := ?_) rfl (by kernel_rfl) (by kernel_rfl) (by kernel_rfl) (fun _ _ _ h => h) (Or.inl ⟨by rfl, ?_⟩) (by assumption) ?_
          rotate_left
          · intro W hSw
            (try dsimp only at hSw)
            go_simp
            (try with_reducible rfl)
          try simp only [Act.put, List.setIfInBounds_toArray, List.set_cons_zero, List.set_cons_succ]
          refine wpAnyH_take (i := 2) (oi := { dst := _, op := _, type := _, pos := _, after := _, guard := _ }) (v := ?_) rfl (by kernel_rfl) (by kernel_rfl) (by kernel_rfl) (fun _ _ _ h => h) (Or.inl ⟨by rfl, ?_⟩) (by assumption) ?_
          rotate_left
          · intro W hSw
            (try dsimp only at hSw)
            go_simp
            (try with_reducible rfl)
          try simp only [Act.put, List.setIfInBounds_toArray, List.set_cons_zero, List.set_cons_succ]
          refine wpAnyH_take (i := 3) (oi := { dst := _, op := _, type := _, pos := _, after := _, guard := _ }) (v := ?_) rfl (by kernel_rfl) (by kernel_rfl) (by kernel_rfl) (fun _ _ _ h => h) (Or.inl ⟨by rfl, ?_⟩) (by assumption) ?_
          rotate_left
          · intro W hSw
            (try dsimp only at hSw)
            go_simp
            (try with_reducible rfl)
          try simp only [Act.put, List.setIfInBounds_toArray, List.set_cons_zero, List.set_cons_succ]
          refine wpAnyH_take (i := 4) (oi := { dst := _, op := _, type := _, pos := _, after := _, guard := _ }) (v := ?_) rfl (by kernel_rfl) (by kernel_rfl) (by kernel_rfl) (fun _ _ _ h => h) (Or.inl ⟨by rfl, ?_⟩) (by assumption) ?_
          rotate_left
          · intro W hSw
            (try dsimp only at hSw)
            go_simp
            (try with_reducible rfl)
          try simp only [Act.put, List.setIfInBounds_toArray, List.set_cons_zero, List.set_cons_succ]
          refine wpAnyH_take (i := 5) (oi := { dst := _, op := _, type := _, pos := _, after := _, guard := _ }) (v := ?_) rfl (by kernel_rfl) (by kernel_rfl) (by kernel_rfl) (fun _ _ _ h => h) (Or.inl ⟨by rfl, ?_⟩) (by assumption) ?_
          rotate_left
          · intro W hSw
            (try dsimp only at hSw)
            go_simp
            (try with_reducible rfl)
          try simp only [Act.put, List.setIfInBounds_toArray, List.set_cons_zero, List.set_cons_succ]
          refine wpAnyH_take (i := 6) (oi := { dst := _, op := _, type := _, pos := _, after := _, guard := _ }) (v := ?_) rfl (by kernel_rfl) (by kernel_rfl) (by kernel_rfl) (fun _ _ _ h => h) (Or.inl ⟨by rfl, ?_⟩) (by assumption) ?_
          rotate_left
          · intro W hSw
            (try dsimp only at hSw)
            go_simp
            (try with_reducible rfl)
          try simp only [Act.put, List.setIfInBounds_toArray, List.set_cons_zero, List.set_cons_succ]
          refine wpAnyH_take (i := 7) (oi := { dst := _, op := _, type := _, pos := _, after := _, guard := _ }) (v := ?_) rfl (by kernel_rfl) (by kernel_rfl) (by kernel_rfl) (fun _ _ _ h => h) (Or.inl ⟨by rfl, ?_⟩) (by assumption) ?_
          rotate_left
          · intro W hSw
            (try dsimp only at hSw)
            go_simp
            (try with_reducible rfl)
          try simp only [Act.put, List.setIfInBounds_toArray, List.set_cons_zero, List.set_cons_succ]
          refine wpAnyH_take (i := 8) (oi := { dst := _, op := _, type := _, pos := _, after := _, guard := _ }) (v := ?_) rfl (by kernel_rfl) (by kernel_rfl) (by kernel_rfl) (fun _ _ _ h => h) (Or.inl ⟨by rfl, ?_⟩) (by assumption) ?_
          rotate_left
          · intro W hSw
            (try dsimp only at hSw)
            go_simp
            (try with_reducible rfl)
          try simp only [Act.put, List.setIfInBounds_toArray, List.set_cons_zero, List.set_cons_succ]
          refine wpAnyH_take (i := 9) (oi := { dst := _, op := _, type := _, pos := _, after := _, guard := _ }) (v := ?_) rfl (by kernel_rfl) (by kernel_rfl) (by kernel_rfl) (fun _ _ _ h => h) (Or.inl ⟨by rfl, ?_⟩) (by assumption) ?_
          rotate_left
          · intro W hSw
            (try dsimp only at hSw)
            go_simp
            (try with_reducible rfl)
          try simp only [Act.put, List.setIfInBounds_toArray, List.set_cons_zero, List.set_cons_succ]
          refine wpAnyH_take (i := 10) (oi := { dst := _, op := _, type := _, pos := _, after := _, guard := _ }) (v := ?_) rfl (by kernel_rfl) (by kernel_rfl) (by kernel_rfl) (fun _ _ _ h => h) (Or.inl ⟨by rfl, ?_⟩) (by assumption) ?_
          rotate_left
          · intro W hSw
            (try dsimp only at hSw)
            go_simp
            (try with_reducible rfl)
          try simp only [Act.put, List.setIfInBounds_toArray, List.set_cons_zero, List.set_cons_succ]
          refine wpAnyH_take (i := 11) (oi := { dst := _, op := _, type := _, pos := _, after := _, guard := _ }) (v := ?_) rfl (by kernel_rfl) (by kernel_rfl) (by kernel_rfl) (fun _ _ _ h => h) (Or.inl ⟨by rfl, ?_⟩) (by assumption) ?_
          rotate_left
          · intro W hSw
            (try dsimp only at hSw)
            go_simp
            (try with_reducible rfl)
          try simp only [Act.put, List.setIfInBounds_toArray, List.set_cons_zero, List.set_cons_succ]
          refine wpAnyH_ready (rs := [12]) (by kernel_rfl) (by simp) ?_
          refine AllReadyH.cons (o := { dst := _, op := _, type := _, pos := _, after := _, guard := _ }) rfl (fun K hK => ?_) AllReadyH.nil
          go_simp
          go_at_call 22
          refine (stillRow_any WD (HR1.out.up BDW.out) (HR2.out.up BDW.out) (by have := HPZ.out; omega)).mono ?_
          rintro e w2 ⟨rfl, hb2⟩
          have B2 : Hid (Below WD.heap.size WD w2) := hb2
          have BW2 : Hid (Below W1.heap.size W1 w2) := below_trans BWD.out B2.out
          clear hb2
          refine hK.out _ _ ?_ (fun hHeld => ?_)
          · exact ⟨KW.out _ (below_trans HW1.out BW2.out), (HCC.out _ BW2.out).1.2.2, (HCC.out _ BW2.out).2.2.2⟩
          clear hK K
          try simp only [Act.put, List.setIfInBounds_toArray, List.set_cons_zero, List.set_cons_succ]
          refine wpAnyH_take (i := 13) (oi := { dst := _, op := _, type := _, pos := _, after := _, guard := _ }) (v := ?_) rfl (by kernel_rfl) (by kernel_rfl) (by kernel_rfl) (fun _ _ _ h => h) (Or.inl ⟨by rfl, ?_⟩) (by assumption) ?_
          rotate_left
          · intro W hSw
            (try dsimp only at hSw)
            go_simp
            (try with_reducible rfl)
          try simp only [Act.put, List.setIfInBounds_toArray, List.set_cons_zero, List.set_cons_succ]
          refine wpAnyH_done (by kernel_rfl) ?_ _
          refine NoPanic.normal ?_
          clear hHeld
          go_wp2_with fail
          go_roundg (n - (i + 1))
          case measure => have := HI.out; have := HIL.out; omega
          case rel => exact ⟨i + 1, by first | rfl | (rw [show (i : Int) + 1 = ((i + 1 : Nat) : Int) by omega]), BW2, ⟨HIL.out, rfl⟩⟩
        · have e1 : decide ((i : Int) < (n : Int)) = false := by rw [decide_eq_false_iff_not]; omega
          have e2 : decide (i < n) = false := by rw [decide_eq_false_iff_not]; omega
          clear hi
          go_wp2_with fail
          go_ret
          exact ⟨rfl, below_trans HW1.out HBW.out⟩
end Go.Proofs.Ytodncbkdlnepjaa
