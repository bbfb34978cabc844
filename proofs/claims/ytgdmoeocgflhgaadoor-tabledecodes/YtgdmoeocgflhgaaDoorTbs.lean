import Derived.Test.YtgdmoeocgflhgaaDoorTbe
namespace Go.Proofs.YtgdmoeocgflhgaaDoor
open Go.RowKit Go.Maps

set_option maxRecDepth 100000 in
set_option maxHeartbeats 16000000 in
theorem same_any {v0 v1 u0 u1 : Value} {A A' : List (Value × List Ak)} {G G' : List (Value × List Int)} (w : World) (h : Tb w v0 v1 A G) (h' : Tb w u0 u1 A' G') (hA : A'.map Prod.snd = A.map Prod.snd) (hG : G'.map Prod.snd = G.map Prod.snd) (hs : Ts A G) :
    Calls Tryd.prog 7 #[.agg #[v0, v1], .agg #[u0, u1]] w fun e w' => e = .returned (.bool true) ∧ Below w.heap.size w w' := by
  have HT : Hid (Tb w v0 v1 A G) := h
  have HU : Hid (Tb w u0 u1 A' G') := h'
  have HS : Hid (Ts A G) := hs
  have HA : Hid (∀ i, (A'.getD i nrd).2 = (A.getD i nrd).2) := fun i => snd_same hA i
  have HG : Hid (∀ i, (G'.getD i nrd).2 = (G.getD i nrd).2) := fun i => snd_same hG i
  have lA : A'.length = A.length := by have := congrArg List.length hA; simpa using this
  have lG : G'.length = G.length := by have := congrArg List.length hG; simpa using this
  obtain ⟨a0, c0, a1, c1, rfl, rfl⟩ := h.form
  obtain ⟨x0, d0, x1, d1, rfl, rfl⟩ := h'.form
  clear h h' hs hA hG
  obtain ⟨nA, hnA⟩ : ∃ n, A.length = n := ⟨_, rfl⟩
  have HNA : Hid (A.length = nA ∧ A'.length = nA) := ⟨hnA, lA.trans hnA⟩
  obtain ⟨nG, hnG⟩ : ∃ n, G.length = n := ⟨_, rfl⟩
  have HNG : Hid (G.length = nG ∧ G'.length = nG) := ⟨hnG, lG.trans hnG⟩
  rw [lA, lG] at HU ⊢
  rw [hnA, hnG] at HT HU ⊢
  clear hnA hnG lA lG
  have HBT : Hid (nA * 24 + 4096 ≤ 140737488355328 ∧ nG * 24 + 4096 ≤ 140737488355328) := by have := HS.out.a; have := HS.out.g; have := HNA.out; have := HNG.out; show _ ∧ _; omega
  have f1 : ((nA : Int) != (nA : Int)) = false := by simp
  have f2 : ((nG : Int) != (nG : Int)) = false := by simp
  obtain ⟨W1, hW1⟩ : ∃ W1, W1 = (w.alloc (.cells #[.slice a0 nA c0, .slice a1 nG c1] 25)).alloc (.cells #[.slice x0 nA d0, .slice x1 nG d1] 25) := ⟨_, rfl⟩
  have HB1 : Hid (Below w.heap.size w W1) := by rw [hW1]; exact below_trans (bel_up _ _) (bel_up _ _)
  have HX : Hid (B2 W1 w.heap.size (w.heap.size + 1) (.slice a0 nA c0) (.slice a1 nG c1) (.slice x0 nA d0) (.slice x1 nG d1)) := by rw [hW1]; exact B2.mk2 _ _ _ _ _
  go_enter Tryd.func7, Tryd.ntmps7
  go_upto_region 1 with fail
  rw [← hW1]
  clear hW1
  obtain ⟨ga, hga⟩ : ∃ gb, w.heap.size = gb := ⟨_, rfl⟩
  rw [hga] at HX ⊢
  obtain ⟨gb, hgb⟩ : ∃ gb, ga + 1 = gb := ⟨_, rfl⟩
  rw [hgb] at HX ⊢
  clear hgb
  have HGA : Hid (w.heap.size = ga) := hga
  clear hga
  have ca0 := rcell HX.out.a 0 _ rfl
  have ca1 := rcell HX.out.a 1 _ rfl
  have cb0 := rcell HX.out.b 0 _ rfl
  have cb1 := rcell HX.out.b 1 _ rfl
  go_upto_region 4 with fail
  clear ca0 ca1 cb0 cb1 f1 f2
  go_loopg [5] nA (fun gm v5 wr => ∃ i : Nat, v5 = .int .i64 (i : Int) ∧ Hid (Below w.heap.size w wr) ∧ Hid (i ≤ nA ∧ gm = nA - i) ∧ Hid (B2 wr ga gb (.slice a0 nA c0) (.slice a1 nG c1) (.slice x0 nA d0) (.slice x1 nG d1)))
  case atStart => exact ⟨0, rfl, HB1, ⟨Nat.zero_le _, rfl⟩, HX⟩
  case round =>
    clear HB1 HX
    obtain ⟨i, rfl, HBW, HI, HX⟩ := hrel
    have ca := rcell HX.out.a 0 _ rfl
    by_cases hi : i < nA
    · have hil : i < A.length := by have := HNA.out; omega
      obtain ⟨g, oo, cap, a, c, q0, q1, q2, q3⟩ := HT.out.a.at i hil
      obtain ⟨rfl, -, rfl⟩ := Value.slice.inj q0
      obtain ⟨g', oo', cap', a', c', q0', q1', q2', q3'⟩ := HU.out.a.at i (by have := HNA.out; omega)
      obtain ⟨rfl, -, rfl⟩ := Value.slice.inj q0'
      have HSZ : Hid ((A.getD i nrd).2.length * 16 + 4096 ≤ 140737488355328) := HS.out.ra _ (getD_mem A nrd i hil)
      rw [HA.out i] at q2' q3'
      obtain ⟨l, hl⟩ : ∃ l, (A.getD i nrd).2 = l := ⟨_, rfl⟩
      rw [hl] at q2 q3 q2' q3' HSZ
      obtain ⟨ml, hml⟩ : ∃ m, l.length = m := ⟨_, rfl⟩
      have HML : Hid (l.length = ml) := hml
      rw [hml] at q2 q3 q2' q3' HSZ
      have HR : Hid (Rw w (.slice a ml c) ml (flat af l)) := q3
      have HR' : Hid (Rw w (.slice a' ml c') ml (flat af l)) := q3'
      have KW : Hid (∀ W, Below w.heap.size w W → W.cell? ⟨g, oo + i, none⟩ = some (.slice a ml c) ∧ W.cell? ⟨g', oo' + i, none⟩ = some (.slice a' ml c')) := fun W hW => ⟨below_cell hW q2, below_cell hW q2'⟩
      clear hml hl q0 q1 q2 q3 q0' q1' q2' q3' hil
      have e1 : decide ((i : Int) < (nA : Int)) = true := by rw [decide_eq_true_eq]; omega
      have e2 : decide (i < nA) = true := by rw [decide_eq_true_eq]; omega
      have e5 : (i : Int) < (nA : Int) := by omega
      have e6 : i < nA := hi
      have HIL : Hid (i < nA) := hi
      have hwr := w64n i (by have := HBT.out; have := HIL.out; omega)
      have hbne : ((ml : Int) != (ml : Int)) = false := by simp
      clear hi
      go_upto_region 6 with fail
      clear ca
      obtain ⟨WD, hWD⟩ : ∃ WD, wr.drew = WD := ⟨_, rfl⟩
      have BD : Hid (Below wr.heap.size wr WD) := by rw [← hWD]; exact Below.drew (Below.refl _ _)
      have BWD : Hid (Below w.heap.size w WD) := below_trans HBW.out BD.out
      have XD : Hid _ := HX.out.up BD.out
      have kd := KW.out WD BWD.out
      refine wp_region_noPanic ?_
      refine wp_region_held_drew (S := fun W => W.cell? ⟨g, oo + i, none⟩ = some (.slice a ml c) ∧ W.cell? ⟨g', oo' + i, none⟩ = some (.slice a' ml c') ∧ W.cell? ⟨ga, 0, none⟩ = some (.slice (some ⟨g, oo, none⟩) nA c0) ∧ W.cell? ⟨gb, 0, none⟩ = some (.slice (some ⟨g', oo', none⟩) nA d0)) (by kernel_rfl) (by rw [hWD]; exact ⟨kd.1, kd.2, rcell XD.out.a 0 _ rfl, rcell XD.out.b 0 _ rfl⟩) (fun hHeld => ?_)
      rw [hWD] at hHeld ⊢
      clear hWD
      refine wpAnyH_take (i := 0) (oi := { dst := _, op := _, type := _, pos := _, after := _, guard := _ }) (v := ?_) rfl (by kernel_rfl) (by kernel_rfl) (by kernel_rfl) (fun _ _ _ h => h) (Or.inl ⟨by rfl, ?_⟩) (by assumption) ?_
      rotate_left
      · intro W hSw
        (try dsimp only at hSw)
        go_simp
        (try with_reducible rfl)
      try simp only [Act.put, List.setIfInBounds_toArray, List.set_cons_zero, List.set_cons_succ]
      refine wpAnyH_take (i := 1) (oi := { dst := _, op := _, type := _, pos := _, after := _, guard := _ }) (v := ?_) rfl (by kernel_rfl) (by kernel_rfl) (by kernel_rfl) (fun _ _ _ h => h) (Or.inl ⟨by rfl, ?_⟩) (by assumption) ?_
      rotate_left
      · intro W hSw
        (try dsimp only at hSw)
        go_simp
        (try with_reducible rfl)
      try simp only [Act.put, List.setIfInBounds_toArray, List.set_cons_zero, List.set_cons_succ]
      refine wpAnyH_take (i := 2) (oi := { dst := _, op := _, type := _, pos := _, after := _, guard := _ }) (v := ?_) rfl (by kernel_rfl) (by kernel_rfl) (by kernel_rfl) (fun _ _ _ h => h) (Or.inl ⟨by rfl, ?_⟩) (by assumption) ?_
      rotate_left
      · intro W hSw
        (try dsimp only at hSw)
        go_simp
        (try with_reducible rfl)
      try simp only [Act.put, List.setIfInBounds_toArray, List.set_cons_zero, List.set_cons_succ]
      refine wpAnyH_take (i := 3) (oi := { dst := _, op := _, type := _, pos := _, after := _, guard := _ }) (v := ?_) rfl (by kernel_rfl) (by kernel_rfl) (by kernel_rfl) (fun _ _ _ h => h) (Or.inl ⟨by rfl, ?_⟩) (by assumption) ?_
      rotate_left
      · intro W hSw
        (try dsimp only at hSw)
        go_simp
        (try with_reducible rfl)
      try simp only [Act.put, List.setIfInBounds_toArray, List.set_cons_zero, List.set_cons_succ]
      refine wpAnyH_take (i := 4) (oi := { dst := _, op := _, type := _, pos := _, after := _, guard := _ }) (v := ?_) rfl (by kernel_rfl) (by kernel_rfl) (by kernel_rfl) (fun _ _ _ h => h) (Or.inl ⟨by rfl, ?_⟩) (by assumption) ?_
      rotate_left
      · intro W hSw
        (try dsimp only at hSw)
        go_simp
        (try with_reducible rfl)
      try simp only [Act.put, List.setIfInBounds_toArray, List.set_cons_zero, List.set_cons_succ]
      refine wpAnyH_take (i := 5) (oi := { dst := _, op := _, type := _, pos := _, after := _, guard := _ }) (v := ?_) rfl (by kernel_rfl) (by kernel_rfl) (by kernel_rfl) (fun _ _ _ h => h) (Or.inl ⟨by rfl, ?_⟩) (by assumption) ?_
      rotate_left
      · intro W hSw
        (try dsimp only at hSw)
        go_simp
        (try with_reducible rfl)
      try simp only [Act.put, List.setIfInBounds_toArray, List.set_cons_zero, List.set_cons_succ]
      refine wpAnyH_take (i := 6) (oi := { dst := _, op := _, type := _, pos := _, after := _, guard := _ }) (v := ?_) rfl (by kernel_rfl) (by kernel_rfl) (by kernel_rfl) (fun _ _ _ h => h) (Or.inl ⟨by rfl, ?_⟩) (by assumption) ?_
      rotate_left
      · intro W hSw
        (try dsimp only at hSw)
        go_simp
        (try with_reducible rfl)
      try simp only [Act.put, List.setIfInBounds_toArray, List.set_cons_zero, List.set_cons_succ]
      refine wpAnyH_take (i := 7) (oi := { dst := _, op := _, type := _, pos := _, after := _, guard := _ }) (v := ?_) rfl (by kernel_rfl) (by kernel_rfl) (by kernel_rfl) (fun _ _ _ h => h) (Or.inl ⟨by rfl, ?_⟩) (by assumption) ?_
      rotate_left
      · intro W hSw
        (try dsimp only at hSw)
        go_simp
        (try with_reducible rfl)
      try simp only [Act.put, List.setIfInBounds_toArray, List.set_cons_zero, List.set_cons_succ]
      refine wpAnyH_take (i := 8) (oi := { dst := _, op := _, type := _, pos := _, after := _, guard := _ }) (v := ?_) rfl (by kernel_rfl) (by kernel_rfl) (by kernel_rfl) (fun _ _ _ h => h) (Or.inl ⟨by rfl, ?_⟩) (by assumption) ?_
      rotate_left
      · intro W hSw
        (try dsimp only at hSw)
        go_simp
        (try with_reducible rfl)
      try simp only [Act.put, List.setIfInBounds_toArray, List.set_cons_zero, List.set_cons_succ]
      refine wpAnyH_take (i := 9) (oi := { dst := _, op := _, type := _, pos := _, after := _, guard := _ }) (v := ?_) rfl (by kernel_rfl) (by kernel_rfl) (by kernel_rfl) (fun _ _ _ h => h) (Or.inl ⟨by rfl, ?_⟩) (by assumption) ?_
      rotate_left
      · intro W hSw
        (try dsimp only at hSw)
        go_simp
        (try with_reducible rfl)
      try simp only [Act.put, List.setIfInBounds_toArray, List.set_cons_zero, List.set_cons_succ]
      refine wpAnyH_take (i := 10) (oi := { dst := _, op := _, type := _, pos := _, after := _, guard := _ }) (v := ?_) rfl (by kernel_rfl) (by kernel_rfl) (by kernel_rfl) (fun _ _ _ h => h) (Or.inl ⟨by rfl, ?_⟩) (by assumption) ?_
      rotate_left
      · intro W hSw
        (try dsimp only at hSw)
        go_simp
        (try with_reducible rfl)
      try simp only [Act.put, List.setIfInBounds_toArray, List.set_cons_zero, List.set_cons_succ]
      refine wpAnyH_take (i := 11) (oi := { dst := _, op := _, type := _, pos := _, after := _, guard := _ }) (v := ?_) rfl (by kernel_rfl) (by kernel_rfl) (by kernel_rfl) (fun _ _ _ h => h) (Or.inl ⟨by rfl, ?_⟩) (by assumption) ?_
      rotate_left
      · intro W hSw
        (try dsimp only at hSw)
        go_simp
        (try with_reducible rfl)
      try simp only [Act.put, List.setIfInBounds_toArray, List.set_cons_zero, List.set_cons_succ]
      refine wpAnyH_take (i := 12) (oi := { dst := _, op := _, type := _, pos := _, after := _, guard := _ }) (v := ?_) rfl (by kernel_rfl) (by kernel_rfl) (by kernel_rfl) (fun _ _ _ h => h) (Or.inl ⟨by rfl, ?_⟩) (by assumption) ?_
      rotate_left
      · intro W hSw
        (try dsimp only at hSw)
        go_simp
        (try with_reducible rfl)
      try simp only [Act.put, List.setIfInBounds_toArray, List.set_cons_zero, List.set_cons_succ]
      refine wpAnyH_done (by kernel_rfl) ?_ _
      refine NoPanic.normal ?_
      clear hHeld
      clear HBW HX kd
      go_upto_region 9 with fail
      clear e1 e2 hbne
      go_loopg [6] ml (fun gm v6 wr => ∃ j : Nat, v6 = .int .i64 (j : Int) ∧ Hid (Below w.heap.size w wr) ∧ Hid (j ≤ ml ∧ gm = ml - j) ∧ Hid (B2 wr ga gb (.slice (some ⟨g, oo, none⟩) nA c0) (.slice a1 nG c1) (.slice (some ⟨g', oo', none⟩) nA d0) (.slice x1 nG d1)))
      case atStart => exact ⟨0, rfl, BWD, ⟨Nat.zero_le _, rfl⟩, XD⟩
      case round =>
        clear BWD XD BD
        obtain ⟨j, rfl, HBW, HJ, HX⟩ := hrel
        have ca := rcell HX.out.a 0 _ rfl
        have kd := KW.out _ HBW.out
        obtain ⟨kd1, kd2⟩ := kd
        by_cases hj : j < ml
        · obtain ⟨g2, o2, cap2, e0, hc⟩ := HR.out.place (by omega)
          obtain ⟨rfl, -, rfl⟩ := Value.slice.inj e0
          obtain ⟨g3, o3, cap3, e0', hc'⟩ := HR'.out.place (by omega)
          obtain ⟨rfl, -, rfl⟩ := Value.slice.inj e0'
          obtain ⟨q0, q1⟩ := af_get l j (by rw [HML.out]; exact hj)
          obtain ⟨x, hx⟩ : ∃ x, l.getD j akd = x := ⟨_, rfl⟩
          rw [hx] at q0 q1
          obtain ⟨y0, y1⟩ := x
          dsimp only at q0 q1
          have KV : Hid (∀ W, Below w.heap.size w W → W.cell? ⟨g2, o2 + j * 2, none⟩ = some (.int .i64 y0) ∧ W.cell? ⟨g2, o2 + j * 2 + 1, none⟩ = some (.int .i64 y1) ∧ W.cell? ⟨g3, o3 + j * 2, none⟩ = some (.int .i64 y0) ∧ W.cell? ⟨g3, o3 + j * 2 + 1, none⟩ = some (.int .i64 y1)) := fun W hW => ⟨below_cell hW (hc _ _ q0), by rw [Nat.add_assoc]; exact below_cell hW (hc _ _ q1), below_cell hW (hc' _ _ q0), by rw [Nat.add_assoc]; exact below_cell hW (hc' _ _ q1)⟩
          have hne := neq52 y0 y1
          have heq := equal52 y0 y1
          clear q0 q1 hx
          have t1 : decide ((j : Int) < (ml : Int)) = true := by rw [decide_eq_true_eq]; omega
          have t2 : decide (j < ml) = true := by rw [decide_eq_true_eq]; omega
          have t5 : (j : Int) < (ml : Int) := by omega
          have t6 : j < ml := hj
          have HJL : Hid (j < ml) := hj
          have hwj := w64n j (by have := HSZ.out; have := HJL.out; omega)
          clear hj e0 e0' hc hc'
          go_upto_region 11 with fail
          clear ca kd1 kd2
          obtain ⟨WD, hWD⟩ : ∃ WD, wr.drew = WD := ⟨_, rfl⟩
          have BD : Hid (Below wr.heap.size wr WD) := by rw [← hWD]; exact Below.drew (Below.refl _ _)
          have BWD : Hid (Below w.heap.size w WD) := below_trans HBW.out BD.out
          have XD : Hid _ := HX.out.up BD.out
          have kd := KW.out WD BWD.out
          have kv := KV.out WD BWD.out
          refine wp_region_noPanic ?_
          refine wp_region_held_drew (S := fun W => W.cell? ⟨g2, o2 + j * 2, none⟩ = some (.int .i64 y0) ∧ W.cell? ⟨g2, o2 + j * 2 + 1, none⟩ = some (.int .i64 y1) ∧ W.cell? ⟨g3, o3 + j * 2, none⟩ = some (.int .i64 y0) ∧ W.cell? ⟨g3, o3 + j * 2 + 1, none⟩ = some (.int .i64 y1) ∧ W.cell? ⟨g, oo + i, none⟩ = some (.slice (some ⟨g2, o2, none⟩) ml c) ∧ W.cell? ⟨g', oo' + i, none⟩ = some (.slice (some ⟨g3, o3, none⟩) ml c') ∧ W.cell? ⟨ga, 0, none⟩ = some (.slice (some ⟨g, oo, none⟩) nA c0) ∧ W.cell? ⟨gb, 0, none⟩ = some (.slice (some ⟨g', oo', none⟩) nA d0)) (by kernel_rfl) (by rw [hWD]; exact ⟨kv.1, kv.2.1, kv.2.2.1, kv.2.2.2, kd.1, kd.2, rcell XD.out.a 0 _ rfl, rcell XD.out.b 0 _ rfl⟩) (fun hHeld => ?_)
          rw [hWD] at hHeld ⊢
          clear hWD
          refine wpAnyH_take (i := 0) (oi := { dst := _, op := _, type := _, pos := _, after := _, guard := _ }) (v := ?_) rfl (by kernel_rfl) (by kernel_rfl) (by kernel_rfl) (fun _ _ _ h => h) (Or.inl ⟨by rfl, ?_⟩) (by assumption) ?_
          rotate_left
          · intro W hSw
            (try dsimp only at hSw)
            go_simp
            (try with_reducible rfl)
          try simp only [Act.put, List.setIfInBounds_toArray, List.set_cons_zero, List.set_cons_succ]
          refine wpAnyH_take (i := 1) (oi := { dst := _, op := _, type := _, pos := _, after := _, guard := _ }) (v := ?_) rfl (by kernel_rfl) (by kernel_rfl) (by kernel_rfl) (fun _ _ _ h => h) (Or.inl ⟨by rfl, ?_⟩) (by assumption) ?_
          rotate_left
          · intro W hSw
            (try dsimp only at hSw)
            go_simp
            (try with_reducible rfl)
          try simp only [Act.put, List.setIfInBounds_toArray, List.set_cons_zero, List.set_cons_succ]
          refine wpAnyH_take (i := 2) (oi := { dst := _, op := _, type := _, pos := _, after := _, guard := _ }) (v := ?_) rfl (by kernel_rfl) (by kernel_rfl) (by kernel_rfl) (fun _ _ _ h => h) (Or.inl ⟨by rfl, ?_⟩) (by assumption) ?_
          rotate_left
          · intro W hSw
            (try dsimp only at hSw)
            go_simp
            (try with_reducible rfl)
          try simp only [Act.put, List.setIfInBounds_toArray, List.set_cons_zero, List.set_cons_succ]
          refine wpAnyH_take (i := 3) (oi := { dst := _, op := _, type := _, pos := _, after := _, guard := _ }) (v := ?_) rfl (by kernel_rfl) (by kernel_rfl) (by kernel_rfl) (fun _ _ _ h => h) (Or.inl ⟨by rfl, ?_⟩) (by assumption) ?_
          rotate_left
          · intro W hSw
            (try dsimp only at hSw)
            go_simp
            (try with_reducible rfl)
          try simp only [Act.put, List.setIfInBounds_toArray, List.set_cons_zero, List.set_cons_succ]
          refine wpAnyH_take (i := 4) (oi := { dst := _, op := _, type := _, pos := _, after := _, guard := _ }) (v := ?_) rfl (by kernel_rfl) (by kernel_rfl) (by kernel_rfl) (fun _ _ _ h => h) (Or.inl ⟨by rfl, ?_⟩) (by assumption) ?_
          rotate_left
          · intro W hSw
            (try dsimp only at hSw)
            go_simp
            (try with_reducible rfl)
          try simp only [Act.put, List.setIfInBounds_toArray, List.set_cons_zero, List.set_cons_succ]
          refine wpAnyH_take (i := 5) (oi := { dst := _, op := _, type := _, pos := _, after := _, guard := _ }) (v := ?_) rfl (by kernel_rfl) (by kernel_rfl) (by kernel_rfl) (fun _ _ _ h => h) (Or.inl ⟨by rfl, ?_⟩) (by assumption) ?_
          rotate_left
          · intro W hSw
            (try dsimp only at hSw)
            go_simp
            (try with_reducible rfl)
          try simp only [Act.put, List.setIfInBounds_toArray, List.set_cons_zero, List.set_cons_succ]
          refine wpAnyH_take (i := 6) (oi := { dst := _, op := _, type := _, pos := _, after := _, guard := _ }) (v := ?_) rfl (by kernel_rfl) (by kernel_rfl) (by kernel_rfl) (fun _ _ _ h => h) (Or.inl ⟨by rfl, ?_⟩) (by assumption) ?_
          rotate_left
          · intro W hSw
            (try dsimp only at hSw)
            go_simp
            (try with_reducible rfl)
          try simp only [Act.put, List.setIfInBounds_toArray, List.set_cons_zero, List.set_cons_succ]
          refine wpAnyH_take (i := 7) (oi := { dst := _, op := _, type := _, pos := _, after := _, guard := _ }) (v := ?_) rfl (by kernel_rfl) (by kernel_rfl) (by kernel_rfl) (fun _ _ _ h => h) (Or.inl ⟨by rfl, ?_⟩) (by assumption) ?_
          rotate_left
          · intro W hSw
            (try dsimp only at hSw)
            go_simp
            (try with_reducible rfl)
          try simp only [Act.put, List.setIfInBounds_toArray, List.set_cons_zero, List.set_cons_succ]
          refine wpAnyH_take (i := 8) (oi := { dst := _, op := _, type := _, pos := _, after := _, guard := _ }) (v := ?_) rfl (by kernel_rfl) (by kernel_rfl) (by kernel_rfl) (fun _ _ _ h => h) (Or.inl ⟨by rfl, ?_⟩) (by assumption) ?_
          rotate_left
          · intro W hSw
            (try dsimp only at hSw)
            go_simp
            (try with_reducible rfl)
          try simp only [Act.put, List.setIfInBounds_toArray, List.set_cons_zero, List.set_cons_succ]
          refine wpAnyH_take (i := 9) (oi := { dst := _, op := _, type := _, pos := _, after := _, guard := _ }) (v := ?_) rfl (by kernel_rfl) (by kernel_rfl) (by kernel_rfl) (fun _ _ _ h => h) (Or.inl ⟨by rfl, ?_⟩) (by assumption) ?_
          rotate_left
          · intro W hSw
            (try dsimp only at hSw)
            go_simp
            (try with_reducible rfl)
          try simp only [Act.put, List.setIfInBounds_toArray, List.set_cons_zero, List.set_cons_succ]
          refine wpAnyH_take (i := 10) (oi := { dst := _, op := _, type := _, pos := _, after := _, guard := _ }) (v := ?_) rfl (by kernel_rfl) (by kernel_rfl) (by kernel_rfl) (fun _ _ _ h => h) (Or.inl ⟨by rfl, ?_⟩) (by assumption) ?_
          rotate_left
          · intro W hSw
            (try dsimp only at hSw)
            go_simp
            (try with_reducible rfl)
          try simp only [Act.put, List.setIfInBounds_toArray, List.set_cons_zero, List.set_cons_succ]
          refine wpAnyH_take (i := 11) (oi := { dst := _, op := _, type := _, pos := _, after := _, guard := _ }) (v := ?_) rfl (by kernel_rfl) (by kernel_rfl) (by kernel_rfl) (fun _ _ _ h => h) (Or.inl ⟨by rfl, ?_⟩) (by assumption) ?_
          rotate_left
          · intro W hSw
            (try dsimp only at hSw)
            go_simp
            (try with_reducible rfl)
          try simp only [Act.put, List.setIfInBounds_toArray, List.set_cons_zero, List.set_cons_succ]
          refine wpAnyH_take (i := 12) (oi := { dst := _, op := _, type := _, pos := _, after := _, guard := _ }) (v := ?_) rfl (by kernel_rfl) (by kernel_rfl) (by kernel_rfl) (fun _ _ _ h => h) (Or.inl ⟨by rfl, ?_⟩) (by assumption) ?_
          rotate_left
          · intro W hSw
            (try dsimp only at hSw)
            go_simp
            (try with_reducible rfl)
          try simp only [Act.put, List.setIfInBounds_toArray, List.set_cons_zero, List.set_cons_succ]
          refine wpAnyH_take (i := 13) (oi := { dst := _, op := _, type := _, pos := _, after := _, guard := _ }) (v := ?_) rfl (by kernel_rfl) (by kernel_rfl) (by kernel_rfl) (fun _ _ _ h => h) (Or.inl ⟨by rfl, ?_⟩) (by assumption) ?_
          rotate_left
          · intro W hSw
            (try dsimp only at hSw)
            go_simp
            (try with_reducible rfl)
          try simp only [Act.put, List.setIfInBounds_toArray, List.set_cons_zero, List.set_cons_succ]
          refine wpAnyH_take (i := 14) (oi := { dst := _, op := _, type := _, pos := _, after := _, guard := _ }) (v := ?_) rfl (by kernel_rfl) (by kernel_rfl) (by kernel_rfl) (fun _ _ _ h => h) (Or.inl ⟨by rfl, ?_⟩) (by assumption) ?_
          rotate_left
          · intro W hSw
            (try dsimp only at hSw)
            go_simp
            (try with_reducible rfl)
          try simp only [Act.put, List.setIfInBounds_toArray, List.set_cons_zero, List.set_cons_succ]
          refine wpAnyH_take (i := 15) (oi := { dst := _, op := _, type := _, pos := _, after := _, guard := _ }) (v := ?_) rfl (by kernel_rfl) (by kernel_rfl) (by kernel_rfl) (fun _ _ _ h => h) (Or.inl ⟨by rfl, ?_⟩) (by assumption) ?_
          rotate_left
          · intro W hSw
            (try dsimp only at hSw)
            go_simp
            (try with_reducible rfl)
          try simp only [Act.put, List.setIfInBounds_toArray, List.set_cons_zero, List.set_cons_succ]
          refine wpAnyH_take (i := 16) (oi := { dst := _, op := _, type := _, pos := _, after := _, guard := _ }) (v := ?_) rfl (by kernel_rfl) (by kernel_rfl) (by kernel_rfl) (fun _ _ _ h => h) (Or.inl ⟨by rfl, ?_⟩) (by assumption) ?_
          rotate_left
          · intro W hSw
            (try dsimp only at hSw)
            go_simp
            (try with_reducible rfl)
          try simp only [Act.put, List.setIfInBounds_toArray, List.set_cons_zero, List.set_cons_succ]
          refine wpAnyH_done (by kernel_rfl) ?_ _
          refine NoPanic.normal ?_
          clear hHeld
          clear kd kv
          go_wp2_with fail
          go_roundg (ml - (j + 1))
          case measure => have := HJ.out; have := HJL.out; omega
          case rel => exact ⟨j + 1, by first | rfl | (rw [show (j : Int) + 1 = ((j + 1 : Nat) : Int) by omega]), BWD, ⟨HJL.out, rfl⟩, XD⟩
        · have t1 : decide ((j : Int) < (ml : Int)) = false := by rw [decide_eq_false_iff_not]; omega
          have t2 : decide (j < ml) = false := by rw [decide_eq_false_iff_not]; omega
          clear hj
          go_wp2_with fail
          go_roundg (nA - (i + 1))
          case measure => have := HI.out; have := HIL.out; omega
          case rel => exact ⟨i + 1, by first | rfl | (rw [show (i : Int) + 1 = ((i + 1 : Nat) : Int) by omega]), HBW, ⟨HIL.out, rfl⟩, HX⟩
    · have e1 : decide ((i : Int) < (nA : Int)) = false := by rw [decide_eq_false_iff_not]; omega
      have e2 : decide (i < nA) = false := by rw [decide_eq_false_iff_not]; omega
      clear hi
      obtain ⟨V, hV⟩ : ∃ V, V = wr := ⟨_, rfl⟩
      rw [← hV] at HBW HX ca ⊢
      have HBV : Hid (Below w.heap.size w V) := HBW.out
      have HXV : Hid (B2 V ga gb (.slice a0 nA c0) (.slice a1 nG c1) (.slice x0 nA d0) (.slice x1 nG d1)) := HX.out
      clear hV HBW HX HI
      go_upto_region 14 with fail
      clear ca e1 e2
      go_loopg [7] nG (fun gm v7 wr => ∃ i : Nat, v7 = .int .i64 (i : Int) ∧ Hid (Below w.heap.size w wr) ∧ Hid (i ≤ nG ∧ gm = nG - i) ∧ Hid (B2 wr ga gb (.slice a0 nA c0) (.slice a1 nG c1) (.slice x0 nA d0) (.slice x1 nG d1)))
      case atStart => exact ⟨0, rfl, HBV, ⟨Nat.zero_le _, rfl⟩, HXV⟩
      case round =>
        clear HBV HXV
        obtain ⟨i, rfl, HBW, HI, HX⟩ := hrel
        have ca := rcell HX.out.a 1 _ rfl
        by_cases hi : i < nG
        · have hil : i < G.length := by have := HNG.out; omega
          obtain ⟨g, oo, cap, a, c, q0, q1, q2, q3⟩ := HT.out.g.at i hil
          obtain ⟨rfl, -, rfl⟩ := Value.slice.inj q0
          obtain ⟨g', oo', cap', a', c', q0', q1', q2', q3'⟩ := HU.out.g.at i (by have := HNG.out; omega)
          obtain ⟨rfl, -, rfl⟩ := Value.slice.inj q0'
          have HSZ : Hid ((G.getD i nrd).2.length * 8 + 4096 ≤ 140737488355328) := HS.out.rg _ (getD_mem G nrd i hil)
          rw [HG.out i] at q2' q3'
          obtain ⟨l, hl⟩ : ∃ l, (G.getD i nrd).2 = l := ⟨_, rfl⟩
          rw [hl] at q2 q3 q2' q3' HSZ
          obtain ⟨ml, hml⟩ : ∃ m, l.length = m := ⟨_, rfl⟩
          have HML : Hid (l.length = ml) := hml
          rw [hml] at q2 q3 q2' q3' HSZ
          have HR : Hid (Rw w (.slice a ml c) ml (flat gf l)) := q3
          have HR' : Hid (Rw w (.slice a' ml c') ml (flat gf l)) := q3'
          have KW : Hid (∀ W, Below w.heap.size w W → W.cell? ⟨g, oo + i, none⟩ = some (.slice a ml c) ∧ W.cell? ⟨g', oo' + i, none⟩ = some (.slice a' ml c')) := fun W hW => ⟨below_cell hW q2, below_cell hW q2'⟩
          clear hml hl q0 q1 q2 q3 q0' q1' q2' q3' hil
          have e1 : decide ((i : Int) < (nG : Int)) = true := by rw [decide_eq_true_eq]; omega
          have e2 : decide (i < nG) = true := by rw [decide_eq_true_eq]; omega
          have e5 : (i : Int) < (nG : Int) := by omega
          have e6 : i < nG := hi
          have HIL : Hid (i < nG) := hi
          have hwr := w64n i (by have := HBT.out; have := HIL.out; omega)
          have hbne : ((ml : Int) != (ml : Int)) = false := by simp
          clear hi
          go_upto_region 16 with fail
          clear ca
          obtain ⟨WD, hWD⟩ : ∃ WD, wr.drew = WD := ⟨_, rfl⟩
          have BD : Hid (Below wr.heap.size wr WD) := by rw [← hWD]; exact Below.drew (Below.refl _ _)
          have BWD : Hid (Below w.heap.size w WD) := below_trans HBW.out BD.out
          have XD : Hid _ := HX.out.up BD.out
          have kd := KW.out WD BWD.out
          refine wp_region_noPanic ?_
          refine wp_region_held_drew (S := fun W => W.cell? ⟨g, oo + i, none⟩ = some (.slice a ml c) ∧ W.cell? ⟨g', oo' + i, none⟩ = some (.slice a' ml c') ∧ W.cell? ⟨ga, 1, none⟩ = some (.slice (some ⟨g, oo, none⟩) nG c1) ∧ W.cell? ⟨gb, 1, none⟩ = some (.slice (some ⟨g', oo', none⟩) nG d1)) (by kernel_rfl) (by rw [hWD]; exact ⟨kd.1, kd.2, rcell XD.out.a 1 _ rfl, rcell XD.out.b 1 _ rfl⟩) (fun hHeld => ?_)
          rw [hWD] at hHeld ⊢
          clear hWD
          refine wpAnyH_take (i := 0) (oi := { dst := _, op := _, type := _, pos := _, after := _, guard := _ }) (v := ?_) rfl (by kernel_rfl) (by kernel_rfl) (by kernel_rfl) (fun _ _ _ h => h) (Or.inl ⟨by rfl, ?_⟩) (by assumption) ?_
          rotate_left
          · intro W hSw
            (try dsimp only at hSw)
            go_simp
            (try with_reducible rfl)
          try simp only [Act.put, List.setIfInBounds_toArray, List.set_cons_zero, List.set_cons_succ]
          refine wpAnyH_take (i := 1) (oi := { dst := _, op := _, type := _, pos := _, after := _, guard := _ }) (v := ?_) rfl (by kernel_rfl) (by kernel_rfl) (by kernel_rfl) (fun _ _ _ h => h) (Or.inl ⟨by rfl, ?_⟩) (by assumption) ?_
          rotate_left
          · intro W hSw
            (try dsimp only at hSw)
            go_simp
            (try with_reducible rfl)
          try simp only [Act.put, List.setIfInBounds_toArray, List.set_cons_zero, List.set_cons_succ]
          refine wpAnyH_take (i := 2) (oi := { dst := _, op := _, type := _, pos := _, after := _, guard := _ }) (v := ?_) rfl (by kernel_rfl) (by kernel_rfl) (by kernel_rfl) (fun _ _ _ h => h) (Or.inl ⟨by rfl, ?_⟩) (by assumption) ?_
          rotate_left
          · intro W hSw
            (try dsimp only at hSw)
            go_simp
            (try with_reducible rfl)
          try simp only [Act.put, List.setIfInBounds_toArray, List.set_cons_zero, List.set_cons_succ]
          refine wpAnyH_take (i := 3) (oi := { dst := _, op := _, type := _, pos := _, after := _, guard := _ }) (v := ?_) rfl (by kernel_rfl) (by kernel_rfl) (by kernel_rfl) (fun _ _ _ h => h) (Or.inl ⟨by rfl, ?_⟩) (by assumption) ?_
          rotate_left
          · intro W hSw
            (try dsimp only at hSw)
            go_simp
            (try with_reducible rfl)
          try simp only [Act.put, List.setIfInBounds_toArray, List.set_cons_zero, List.set_cons_succ]
          refine wpAnyH_take (i := 4) (oi := { dst := _, op := _, type := _, pos := _, after := _, guard := _ }) (v := ?_) rfl (by kernel_rfl) (by kernel_rfl) (by kernel_rfl) (fun _ _ _ h => h) (Or.inl ⟨by rfl, ?_⟩) (by assumption) ?_
          rotate_left
          · intro W hSw
            (try dsimp only at hSw)
            go_simp
            (try with_reducible rfl)
          try simp only [Act.put, List.setIfInBounds_toArray, List.set_cons_zero, List.set_cons_succ]
          refine wpAnyH_take (i := 5) (oi := { dst := _, op := _, type := _, pos := _, after := _, guard := _ }) (v := ?_) rfl (by kernel_rfl) (by kernel_rfl) (by kernel_rfl) (fun _ _ _ h => h) (Or.inl ⟨by rfl, ?_⟩) (by assumption) ?_
          rotate_left
          · intro W hSw
            (try dsimp only at hSw)
            go_simp
            (try with_reducible rfl)
          try simp only [Act.put, List.setIfInBounds_toArray, List.set_cons_zero, List.set_cons_succ]
          refine wpAnyH_take (i := 6) (oi := { dst := _, op := _, type := _, pos := _, after := _, guard := _ }) (v := ?_) rfl (by kernel_rfl) (by kernel_rfl) (by kernel_rfl) (fun _ _ _ h => h) (Or.inl ⟨by rfl, ?_⟩) (by assumption) ?_
          rotate_left
          · intro W hSw
            (try dsimp only at hSw)
            go_simp
            (try with_reducible rfl)
          try simp only [Act.put, List.setIfInBounds_toArray, List.set_cons_zero, List.set_cons_succ]
          refine wpAnyH_take (i := 7) (oi := { dst := _, op := _, type := _, pos := _, after := _, guard := _ }) (v := ?_) rfl (by kernel_rfl) (by kernel_rfl) (by kernel_rfl) (fun _ _ _ h => h) (Or.inl ⟨by rfl, ?_⟩) (by assumption) ?_
          rotate_left
          · intro W hSw
            (try dsimp only at hSw)
            go_simp
            (try with_reducible rfl)
          try simp only [Act.put, List.setIfInBounds_toArray, List.set_cons_zero, List.set_cons_succ]
          refine wpAnyH_take (i := 8) (oi := { dst := _, op := _, type := _, pos := _, after := _, guard := _ }) (v := ?_) rfl (by kernel_rfl) (by kernel_rfl) (by kernel_rfl) (fun _ _ _ h => h) (Or.inl ⟨by rfl, ?_⟩) (by assumption) ?_
          rotate_left
          · intro W hSw
            (try dsimp only at hSw)
            go_simp
            (try with_reducible rfl)
          try simp only [Act.put, List.setIfInBounds_toArray, List.set_cons_zero, List.set_cons_succ]
          refine wpAnyH_take (i := 9) (oi := { dst := _, op := _, type := _, pos := _, after := _, guard := _ }) (v := ?_) rfl (by kernel_rfl) (by kernel_rfl) (by kernel_rfl) (fun _ _ _ h => h) (Or.inl ⟨by rfl, ?_⟩) (by assumption) ?_
          rotate_left
          · intro W hSw
            (try dsimp only at hSw)
            go_simp
            (try with_reducible rfl)
          try simp only [Act.put, List.setIfInBounds_toArray, List.set_cons_zero, List.set_cons_succ]
          refine wpAnyH_take (i := 10) (oi := { dst := _, op := _, type := _, pos := _, after := _, guard := _ }) (v := ?_) rfl (by kernel_rfl) (by kernel_rfl) (by kernel_rfl) (fun _ _ _ h => h) (Or.inl ⟨by rfl, ?_⟩) (by assumption) ?_
          rotate_left
          · intro W hSw
            (try dsimp only at hSw)
            go_simp
            (try with_reducible rfl)
          try simp only [Act.put, List.setIfInBounds_toArray, List.set_cons_zero, List.set_cons_succ]
          refine wpAnyH_take (i := 11) (oi := { dst := _, op := _, type := _, pos := _, after := _, guard := _ }) (v := ?_) rfl (by kernel_rfl) (by kernel_rfl) (by kernel_rfl) (fun _ _ _ h => h) (Or.inl ⟨by rfl, ?_⟩) (by assumption) ?_
          rotate_left
          · intro W hSw
            (try dsimp only at hSw)
            go_simp
            (try with_reducible rfl)
          try simp only [Act.put, List.setIfInBounds_toArray, List.set_cons_zero, List.set_cons_succ]
          refine wpAnyH_take (i := 12) (oi := { dst := _, op := _, type := _, pos := _, after := _, guard := _ }) (v := ?_) rfl (by kernel_rfl) (by kernel_rfl) (by kernel_rfl) (fun _ _ _ h => h) (Or.inl ⟨by rfl, ?_⟩) (by assumption) ?_
          rotate_left
          · intro W hSw
            (try dsimp only at hSw)
            go_simp
            (try with_reducible rfl)
          try simp only [Act.put, List.setIfInBounds_toArray, List.set_cons_zero, List.set_cons_succ]
          refine wpAnyH_done (by kernel_rfl) ?_ _
          refine NoPanic.normal ?_
          clear hHeld
          clear HBW HX kd
          go_upto_region 19 with fail
          clear e1 e2 hbne
          go_loopg [8] ml (fun gm v8 wr => ∃ j : Nat, v8 = .int .i64 (j : Int) ∧ Hid (Below w.heap.size w wr) ∧ Hid (j ≤ ml ∧ gm = ml - j) ∧ Hid (B2 wr ga gb (.slice a0 nA c0) (.slice (some ⟨g, oo, none⟩) nG c1) (.slice x0 nA d0) (.slice (some ⟨g', oo', none⟩) nG d1)))
          case atStart => exact ⟨0, rfl, BWD, ⟨Nat.zero_le _, rfl⟩, XD⟩
          case round =>
            clear BWD XD BD
            obtain ⟨j, rfl, HBW, HJ, HX⟩ := hrel
            have ca := rcell HX.out.a 1 _ rfl
            have kd := KW.out _ HBW.out
            obtain ⟨kd1, kd2⟩ := kd
            by_cases hj : j < ml
            · obtain ⟨g2, o2, cap2, e0, hc⟩ := HR.out.place (by omega)
              obtain ⟨rfl, -, rfl⟩ := Value.slice.inj e0
              obtain ⟨g3, o3, cap3, e0', hc'⟩ := HR'.out.place (by omega)
              obtain ⟨rfl, -, rfl⟩ := Value.slice.inj e0'
              have q0 := gf_get l j (by rw [HML.out]; exact hj)
              obtain ⟨y0, hx⟩ : ∃ x, l.getD j 0 = x := ⟨_, rfl⟩
              rw [hx] at q0
              have KV : Hid (∀ W, Below w.heap.size w W → W.cell? ⟨g2, o2 + j, none⟩ = some (.int .i64 y0) ∧ W.cell? ⟨g3, o3 + j, none⟩ = some (.int .i64 y0)) := fun W hW => ⟨below_cell hW (hc _ _ q0), below_cell hW (hc' _ _ q0)⟩
              have hne : (y0 != y0) = false := by simp
              clear q0 hx
              have t1 : decide ((j : Int) < (ml : Int)) = true := by rw [decide_eq_true_eq]; omega
              have t2 : decide (j < ml) = true := by rw [decide_eq_true_eq]; omega
              have t5 : (j : Int) < (ml : Int) := by omega
              have t6 : j < ml := hj
              have HJL : Hid (j < ml) := hj
              have hwj := w64n j (by have := HSZ.out; have := HJL.out; omega)
              clear hj e0 e0' hc hc'
              go_upto_region 21 with fail
              clear ca kd1 kd2
              obtain ⟨WD, hWD⟩ : ∃ WD, wr.drew = WD := ⟨_, rfl⟩
              have BD : Hid (Below wr.heap.size wr WD) := by rw [← hWD]; exact Below.drew (Below.refl _ _)
              have BWD : Hid (Below w.heap.size w WD) := below_trans HBW.out BD.out
              have XD : Hid _ := HX.out.up BD.out
              have kd := KW.out WD BWD.out
              have kv := KV.out WD BWD.out
              refine wp_region_noPanic ?_
              refine wp_region_held_drew (S := fun W => W.cell? ⟨g2, o2 + j, none⟩ = some (.int .i64 y0) ∧ W.cell? ⟨g3, o3 + j, none⟩ = some (.int .i64 y0) ∧ W.cell? ⟨g, oo + i, none⟩ = some (.slice (some ⟨g2, o2, none⟩) ml c) ∧ W.cell? ⟨g', oo' + i, none⟩ = some (.slice (some ⟨g3, o3, none⟩) ml c') ∧ W.cell? ⟨ga, 1, none⟩ = some (.slice (some ⟨g, oo, none⟩) nG c1) ∧ W.cell? ⟨gb, 1, none⟩ = some (.slice (some ⟨g', oo', none⟩) nG d1)) (by kernel_rfl) (by rw [hWD]; exact ⟨kv.1, kv.2, kd.1, kd.2, rcell XD.out.a 1 _ rfl, rcell XD.out.b 1 _ rfl⟩) (fun hHeld => ?_)
              rw [hWD] at hHeld ⊢
              clear hWD
              refine wpAnyH_take (i := 0) (oi := { dst := _, op := _, type := _, pos := _, after := _, guard := _ }) (v := ?_) rfl (by kernel_rfl) (by kernel_rfl) (by kernel_rfl) (fun _ _ _ h => h) (Or.inl ⟨by rfl, ?_⟩) (by assumption) ?_
              rotate_left
              · intro W hSw
                (try dsimp only at hSw)
                go_simp
                (try with_reducible rfl)
              try simp only [Act.put, List.setIfInBounds_toArray, List.set_cons_zero, List.set_cons_succ]
              refine wpAnyH_take (i := 1) (oi := { dst := _, op := _, type := _, pos := _, after := _, guard := _ }) (v := ?_) rfl (by kernel_rfl) (by kernel_rfl) (by kernel_rfl) (fun _ _ _ h => h) (Or.inl ⟨by rfl, ?_⟩) (by assumption) ?_
              rotate_left
              · intro W hSw
                (try dsimp only at hSw)
                go_simp
                (try with_reducible rfl)
              try simp only [Act.put, List.setIfInBounds_toArray, List.set_cons_zero, List.set_cons_succ]
              refine wpAnyH_take (i := 2) (oi := { dst := _, op := _, type := _, pos := _, after := _, guard := _ }) (v := ?_) rfl (by kernel_rfl) (by kernel_rfl) (by kernel_rfl) (fun _ _ _ h => h) (Or.inl ⟨by rfl, ?_⟩) (by assumption) ?_
              rotate_left
              · intro W hSw
                (try dsimp only at hSw)
                go_simp
                (try with_reducible rfl)
              try simp only [Act.put, List.setIfInBounds_toArray, List.set_cons_zero, List.set_cons_succ]
              refine wpAnyH_take (i := 3) (oi := { dst := _, op := _, type := _, pos := _, after := _, guard := _ }) (v := ?_) rfl (by kernel_rfl) (by kernel_rfl) (by kernel_rfl) (fun _ _ _ h => h) (Or.inl ⟨by rfl, ?_⟩) (by assumption) ?_
              rotate_left
              · intro W hSw
                (try dsimp only at hSw)
                go_simp
                (try with_reducible rfl)
              try simp only [Act.put, List.setIfInBounds_toArray, List.set_cons_zero, List.set_cons_succ]
              refine wpAnyH_take (i := 4) (oi := { dst := _, op := _, type := _, pos := _, after := _, guard := _ }) (v := ?_) rfl (by kernel_rfl) (by kernel_rfl) (by kernel_rfl) (fun _ _ _ h => h) (Or.inl ⟨by rfl, ?_⟩) (by assumption) ?_
              rotate_left
              · intro W hSw
                (try dsimp only at hSw)
                go_simp
                (try with_reducible rfl)
              try simp only [Act.put, List.setIfInBounds_toArray, List.set_cons_zero, List.set_cons_succ]
              refine wpAnyH_take (i := 5) (oi := { dst := _, op := _, type := _, pos := _, after := _, guard := _ }) (v := ?_) rfl (by kernel_rfl) (by kernel_rfl) (by kernel_rfl) (fun _ _ _ h => h) (Or.inl ⟨by rfl, ?_⟩) (by assumption) ?_
              rotate_left
              · intro W hSw
                (try dsimp only at hSw)
                go_simp
                (try with_reducible rfl)
              try simp only [Act.put, List.setIfInBounds_toArray, List.set_cons_zero, List.set_cons_succ]
              refine wpAnyH_take (i := 6) (oi := { dst := _, op := _, type := _, pos := _, after := _, guard := _ }) (v := ?_) rfl (by kernel_rfl) (by kernel_rfl) (by kernel_rfl) (fun _ _ _ h => h) (Or.inl ⟨by rfl, ?_⟩) (by assumption) ?_
              rotate_left
              · intro W hSw
                (try dsimp only at hSw)
                go_simp
                (try with_reducible rfl)
              try simp only [Act.put, List.setIfInBounds_toArray, List.set_cons_zero, List.set_cons_succ]
              refine wpAnyH_take (i := 7) (oi := { dst := _, op := _, type := _, pos := _, after := _, guard := _ }) (v := ?_) rfl (by kernel_rfl) (by kernel_rfl) (by kernel_rfl) (fun _ _ _ h => h) (Or.inl ⟨by rfl, ?_⟩) (by assumption) ?_
              rotate_left
              · intro W hSw
                (try dsimp only at hSw)
                go_simp
                (try with_reducible rfl)
              try simp only [Act.put, List.setIfInBounds_toArray, List.set_cons_zero, List.set_cons_succ]
              refine wpAnyH_take (i := 8) (oi := { dst := _, op := _, type := _, pos := _, after := _, guard := _ }) (v := ?_) rfl (by kernel_rfl) (by kernel_rfl) (by kernel_rfl) (fun _ _ _ h => h) (Or.inl ⟨by rfl, ?_⟩) (by assumption) ?_
              rotate_left
              · intro W hSw
                (try dsimp only at hSw)
                go_simp
                (try with_reducible rfl)
              try simp only [Act.put, List.setIfInBounds_toArray, List.set_cons_zero, List.set_cons_succ]
              refine wpAnyH_take (i := 9) (oi := { dst := _, op := _, type := _, pos := _, after := _, guard := _ }) (v := ?_) rfl (by kernel_rfl) (by kernel_rfl) (by kernel_rfl) (fun _ _ _ h => h) (Or.inl ⟨by rfl, ?_⟩) (by assumption) ?_
              rotate_left
              · intro W hSw
                (try dsimp only at hSw)
                go_simp
                (try with_reducible rfl)
              try simp only [Act.put, List.setIfInBounds_toArray, List.set_cons_zero, List.set_cons_succ]
              refine wpAnyH_take (i := 10) (oi := { dst := _, op := _, type := _, pos := _, after := _, guard := _ }) (v := ?_) rfl (by kernel_rfl) (by kernel_rfl) (by kernel_rfl) (fun _ _ _ h => h) (Or.inl ⟨by rfl, ?_⟩) (by assumption) ?_
              rotate_left
              · intro W hSw
                (try dsimp only at hSw)
                go_simp
                (try with_reducible rfl)
              try simp only [Act.put, List.setIfInBounds_toArray, List.set_cons_zero, List.set_cons_succ]
              refine wpAnyH_take (i := 11) (oi := { dst := _, op := _, type := _, pos := _, after := _, guard := _ }) (v := ?_) rfl (by kernel_rfl) (by kernel_rfl) (by kernel_rfl) (fun _ _ _ h => h) (Or.inl ⟨by rfl, ?_⟩) (by assumption) ?_
              rotate_left
              · intro W hSw
                (try dsimp only at hSw)
                go_simp
                (try with_reducible rfl)
              try simp only [Act.put, List.setIfInBounds_toArray, List.set_cons_zero, List.set_cons_succ]
              refine wpAnyH_take (i := 12) (oi := { dst := _, op := _, type := _, pos := _, after := _, guard := _ }) (v := ?_) rfl (by kernel_rfl) (by kernel_rfl) (by kernel_rfl) (fun _ _ _ h => h) (Or.inl ⟨by rfl, ?_⟩) (by assumption) ?_
              rotate_left
              · intro W hSw
                (try dsimp only at hSw)
                go_simp
                (try with_reducible rfl)
              try simp only [Act.put, List.setIfInBounds_toArray, List.set_cons_zero, List.set_cons_succ]
              refine wpAnyH_take (i := 13) (oi := { dst := _, op := _, type := _, pos := _, after := _, guard := _ }) (v := ?_) rfl (by kernel_rfl) (by kernel_rfl) (by kernel_rfl) (fun _ _ _ h => h) (Or.inl ⟨by rfl, ?_⟩) (by assumption) ?_
              rotate_left
              · intro W hSw
                (try dsimp only at hSw)
                go_simp
                (try with_reducible rfl)
              try simp only [Act.put, List.setIfInBounds_toArray, List.set_cons_zero, List.set_cons_succ]
              refine wpAnyH_take (i := 14) (oi := { dst := _, op := _, type := _, pos := _, after := _, guard := _ }) (v := ?_) rfl (by kernel_rfl) (by kernel_rfl) (by kernel_rfl) (fun _ _ _ h => h) (Or.inl ⟨by rfl, ?_⟩) (by assumption) ?_
              rotate_left
              · intro W hSw
                (try dsimp only at hSw)
                go_simp
                (try with_reducible rfl)
              try simp only [Act.put, List.setIfInBounds_toArray, List.set_cons_zero, List.set_cons_succ]
              refine wpAnyH_take (i := 15) (oi := { dst := _, op := _, type := _, pos := _, after := _, guard := _ }) (v := ?_) rfl (by kernel_rfl) (by kernel_rfl) (by kernel_rfl) (fun _ _ _ h => h) (Or.inl ⟨by rfl, ?_⟩) (by assumption) ?_
              rotate_left
              · intro W hSw
                (try dsimp only at hSw)
                go_simp
                (try with_reducible rfl)
              try simp only [Act.put, List.setIfInBounds_toArray, List.set_cons_zero, List.set_cons_succ]
              refine wpAnyH_take (i := 16) (oi := { dst := _, op := _, type := _, pos := _, after := _, guard := _ }) (v := ?_) rfl (by kernel_rfl) (by kernel_rfl) (by kernel_rfl) (fun _ _ _ h => h) (Or.inl ⟨by rfl, ?_⟩) (by assumption) ?_
              rotate_left
              · intro W hSw
                (try dsimp only at hSw)
                go_simp
                (try with_reducible rfl)
              try simp only [Act.put, List.setIfInBounds_toArray, List.set_cons_zero, List.set_cons_succ]
              refine wpAnyH_done (by kernel_rfl) ?_ _
              refine NoPanic.normal ?_
              clear hHeld
              clear kd kv
              go_wp2_with fail
              go_roundg (ml - (j + 1))
              case measure => have := HJ.out; have := HJL.out; omega
              case rel => exact ⟨j + 1, by first | rfl | (rw [show (j : Int) + 1 = ((j + 1 : Nat) : Int) by omega]), BWD, ⟨HJL.out, rfl⟩, XD⟩
            · have t1 : decide ((j : Int) < (ml : Int)) = false := by rw [decide_eq_false_iff_not]; omega
              have t2 : decide (j < ml) = false := by rw [decide_eq_false_iff_not]; omega
              clear hj
              go_wp2_with fail
              go_roundg (nG - (i + 1))
              case measure => have := HI.out; have := HIL.out; omega
              case rel => exact ⟨i + 1, by first | rfl | (rw [show (i : Int) + 1 = ((i + 1 : Nat) : Int) by omega]), HBW, ⟨HIL.out, rfl⟩, HX⟩
        · have e1 : decide ((i : Int) < (nG : Int)) = false := by rw [decide_eq_false_iff_not]; omega
          have e2 : decide (i < nG) = false := by rw [decide_eq_false_iff_not]; omega
          clear hi
          go_wp2_with fail
          go_ret
          exact ⟨rfl, HBW.out⟩
end Go.Proofs.YtgdmoeocgflhgaaDoor
