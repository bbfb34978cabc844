import Derived.Test.YtlmfcaflfbnebaaGpm
namespace Go.Proofs.Ytlmfcaflfbnebaa
open Go.RowKit Go.Maps

@[reducible] def flv (cd p i s : Int) : Value := .agg #[.int .i64 cd, .int .i64 p, .int .i64 i, .int .i64 s]

set_option maxRecDepth 100000 in
set_option maxHeartbeats 8000000 in
theorem place_any {v : Nat → Value} {vn : Value} {L : Nat → List Int} {N : List (List Int)} {vs : List Value} (w : World) (h : Sp w v vn L N vs) (cd p i s : Int) :
    Calls Try.prog 5 #[spv v vn, flv cd p i s] w fun e w' => e = .returned (.int .i64 (pl L N p i s)) ∧ Below w.heap.size w w' := by
  have S0 : Hid (Sp w v vn L N vs) := h
  clear h
  obtain ⟨a0, c0, e0⟩ := (S0.out.f 0 (by decide)).form
  obtain ⟨a1, c1, e1⟩ := (S0.out.f 1 (by decide)).form
  obtain ⟨a2, c2, e2⟩ := (S0.out.f 2 (by decide)).form
  obtain ⟨a3, c3, e3⟩ := (S0.out.f 3 (by decide)).form
  obtain ⟨a4, c4, e4⟩ := (S0.out.f 4 (by decide)).form
  obtain ⟨a5, c5, e5⟩ := (S0.out.f 5 (by decide)).form
  obtain ⟨a6, c6, e6⟩ := (S0.out.f 6 (by decide)).form
  obtain ⟨a7, c7, e7⟩ := (S0.out.f 7 (by decide)).form
  obtain ⟨an, cn, enn⟩ := S0.out.n.form
  have hv0 : spv v vn = .agg #[.slice a0 (L 0).length c0, .slice a1 (L 1).length c1, .slice a2 (L 2).length c2, .slice a3 (L 3).length c3, .slice a4 (L 4).length c4, .slice a5 (L 5).length c5, .slice a6 (L 6).length c6, .slice a7 (L 7).length c7, .slice an N.length cn] := by simp only [spv, enn, e0, e1, e2, e3, e4, e5, e6, e7]
  have HV : Hid (spv v vn = .agg #[.slice a0 (L 0).length c0, .slice a1 (L 1).length c1, .slice a2 (L 2).length c2, .slice a3 (L 3).length c3, .slice a4 (L 4).length c4, .slice a5 (L 5).length c5, .slice a6 (L 6).length c6, .slice a7 (L 7).length c7, .slice an N.length cn]) := hv0
  clear hv0
  rw [HV.out]
  obtain ⟨W1, hW1⟩ : ∃ W1, W1 = (w.alloc (.cells #[.slice a0 (L 0).length c0, .slice a1 (L 1).length c1, .slice a2 (L 2).length c2, .slice a3 (L 3).length c3, .slice a4 (L 4).length c4, .slice a5 (L 5).length c5, .slice a6 (L 6).length c6, .slice a7 (L 7).length c7, .slice an N.length cn] 25)).alloc (.cells #[.int .i64 cd, .int .i64 p, .int .i64 i, .int .i64 s] 29) := ⟨_, rfl⟩
  have hh : W1.heap[w.heap.size]? = some (.cells #[.slice a0 (L 0).length c0, .slice a1 (L 1).length c1, .slice a2 (L 2).length c2, .slice a3 (L 3).length c3, .slice a4 (L 4).length c4, .slice a5 (L 5).length c5, .slice a6 (L 6).length c6, .slice a7 (L 7).length c7, .slice an N.length cn] 25 (0, 0)) := by rw [hW1, (bel_up _ _).block _ (by simp)]; exact heap_new w _
  have hg : W1.heap[w.heap.size + 1]? = some (.cells #[.int .i64 cd, .int .i64 p, .int .i64 i, .int .i64 s] 29 (0, 0)) := by
    rw [hW1]
    have := heap_new (w.alloc (.cells #[.slice a0 (L 0).length c0, .slice a1 (L 1).length c1, .slice a2 (L 2).length c2, .slice a3 (L 3).length c3, .slice a4 (L 4).length c4, .slice a5 (L 5).length c5, .slice a6 (L 6).length c6, .slice a7 (L 7).length c7, .slice an N.length cn] 25)) (.cells #[.int .i64 cd, .int .i64 p, .int .i64 i, .int .i64 s] 29)
    rw [World.size_alloc] at this
    exact this
  have HB : Hid (Below w.heap.size w W1) := by rw [hW1]; exact below_trans (bel_up _ _) (bel_up _ _)
  have S1 : Hid (Sp W1 v vn L N vs) := S0.out.up HB.out
  have HW : Hid (W1 = (w.alloc (.cells #[.slice a0 (L 0).length c0, .slice a1 (L 1).length c1, .slice a2 (L 2).length c2, .slice a3 (L 3).length c3, .slice a4 (L 4).length c4, .slice a5 (L 5).length c5, .slice a6 (L 6).length c6, .slice a7 (L 7).length c7, .slice an N.length cn] 25)).alloc (.cells #[.int .i64 cd, .int .i64 p, .int .i64 i, .int .i64 s] 29)) := hW1
  have HVN : Hid (vn = .slice an N.length cn) := enn
  clear hW1 S0
  have p0 := rcell hh 0 (.slice a0 (L 0).length c0) rfl
  have p1 := rcell hh 1 (.slice a1 (L 1).length c1) rfl
  have p2 := rcell hh 2 (.slice a2 (L 2).length c2) rfl
  have p3 := rcell hh 3 (.slice a3 (L 3).length c3) rfl
  have p4 := rcell hh 4 (.slice a4 (L 4).length c4) rfl
  have p5 := rcell hh 5 (.slice a5 (L 5).length c5) rfl
  have p6 := rcell hh 6 (.slice a6 (L 6).length c6) rfl
  have p7 := rcell hh 7 (.slice a7 (L 7).length c7) rfl
  have p8 := rcell hh 8 (.slice an N.length cn) rfl
  have q0 := rcell hg 0 (.int .i64 cd) rfl
  have q1 := rcell hg 1 (.int .i64 p) rfl
  have q2 := rcell hg 2 (.int .i64 i) rfl
  have q3 := rcell hg 3 (.int .i64 s) rfl
  have F0 : Hid (∀ W, Below W1.heap.size W1 W → Rw W (.slice a0 (L 0).length c0) (L 0).length (iC (L 0))) := fun W hW => by rw [← e0]; exact (S1.out.f 0 (by decide)).up hW
  have F1 : Hid (∀ W, Below W1.heap.size W1 W → Rw W (.slice a1 (L 1).length c1) (L 1).length (iC (L 1))) := fun W hW => by rw [← e1]; exact (S1.out.f 1 (by decide)).up hW
  have F2 : Hid (∀ W, Below W1.heap.size W1 W → Rw W (.slice a2 (L 2).length c2) (L 2).length (iC (L 2))) := fun W hW => by rw [← e2]; exact (S1.out.f 2 (by decide)).up hW
  have F3 : Hid (∀ W, Below W1.heap.size W1 W → Rw W (.slice a3 (L 3).length c3) (L 3).length (iC (L 3))) := fun W hW => by rw [← e3]; exact (S1.out.f 3 (by decide)).up hW
  have F4 : Hid (∀ W, Below W1.heap.size W1 W → Rw W (.slice a4 (L 4).length c4) (L 4).length (iC (L 4))) := fun W hW => by rw [← e4]; exact (S1.out.f 4 (by decide)).up hW
  have F5 : Hid (∀ W, Below W1.heap.size W1 W → Rw W (.slice a5 (L 5).length c5) (L 5).length (iC (L 5))) := fun W hW => by rw [← e5]; exact (S1.out.f 5 (by decide)).up hW
  have F6 : Hid (∀ W, Below W1.heap.size W1 W → Rw W (.slice a6 (L 6).length c6) (L 6).length (iC (L 6))) := fun W hW => by rw [← e6]; exact (S1.out.f 6 (by decide)).up hW
  have F7 : Hid (∀ W, Below W1.heap.size W1 W → Rw W (.slice a7 (L 7).length c7) (L 7).length (iC (L 7))) := fun W hW => by rw [← e7]; exact (S1.out.f 7 (by decide)).up hW
  clear hh hg enn e0 e1 e2 e3 e4 e5 e6 e7
  have HS : Hid (∀ W, Below W1.heap.size W1 W → (W.cell? ⟨w.heap.size, 8, none⟩ = some (.slice an N.length cn) ∧ W.cell? ⟨w.heap.size + 1, 1, none⟩ = some (.int .i64 p) ∧ W.cell? ⟨w.heap.size + 1, 2, none⟩ = some (.int .i64 i) ∧ W.cell? ⟨w.heap.size + 1, 3, none⟩ = some (.int .i64 s))) := fun W hW => ⟨below_cell hW p8, below_cell hW q1, below_cell hW q2, below_cell hW q3⟩
  by_cases hp : p = 4 ∧ 0 ≤ s
  · obtain ⟨rfl, hs⟩ := hp
    have HR : Hid (pl L N 4 i s = en (enL N i) s) := show pl L N 4 i s = en (enL N i) s from if_pos ⟨rfl, hs⟩
    rw [HR.out]
    go_enter Try.func5, Try.ntmps5
    go_upto_region 1 with fail
    rw [← HW.out]
    go_upto_region 2 with fail
    obtain ⟨WD, hWD⟩ : ∃ WD, W1.drew = WD := ⟨_, rfl⟩
    have BD : Hid (Below W1.heap.size W1 WD) := by rw [← hWD]; exact Below.drew (Below.refl _ _)
    refine wp_region_noPanic ?_
    refine wp_region_held_drew (S := fun W => W.cell? ⟨w.heap.size, 8, none⟩ = some (.slice an N.length cn) ∧ W.cell? ⟨w.heap.size + 1, 1, none⟩ = some (.int .i64 4) ∧ W.cell? ⟨w.heap.size + 1, 2, none⟩ = some (.int .i64 i) ∧ W.cell? ⟨w.heap.size + 1, 3, none⟩ = some (.int .i64 s)) (by kernel_rfl) (by rw [hWD]; exact HS.out _ BD.out) (fun hHeld => ?_)
    rw [hWD] at hHeld ⊢
    clear hWD
    refine wpAnyH_take (i := 0) (oi := { dst := _, op := _, type := _, pos := _, after := _, guard := _ }) (v := ?_) rfl (by kernel_rfl) (by kernel_rfl) (by kernel_rfl) (fun _ _ _ h => h) (Or.inl ⟨by rfl, ?_⟩) (by assumption) ?_
    rotate_left
    · intro W hSw
      (try dsimp only at hSw)
      go_simp
      (try with_reducible rfl)
    try simp only [Act.put, List.setIfInBounds_toArray, List.set_cons_zero, List.set_cons_succ]
    refine wpAnyH_take (i := 1) (oi := { dst := _, op := _, type := _, pos := _, after := _, guard := _ }) (v := ?_) rfl (by kernel_rfl) (by kernel_rfl) (by kernel_rfl) (fun _ _ _ h => h) (Or.inl ⟨by rfl, ?_⟩) (by assumption) ?_
    rotate_left
    · intro W hSw
      (try dsimp only at hSw)
      go_simp
      (try with_reducible rfl)
    try simp only [Act.put, List.setIfInBounds_toArray, List.set_cons_zero, List.set_cons_succ]
    refine wpAnyH_take (i := 2) (oi := { dst := _, op := _, type := _, pos := _, after := _, guard := _ }) (v := ?_) rfl (by kernel_rfl) (by kernel_rfl) (by kernel_rfl) (fun _ _ _ h => h) (Or.inl ⟨by rfl, ?_⟩) (by assumption) ?_
    rotate_left
    · intro W hSw
      (try dsimp only at hSw)
      go_simp
      (try with_reducible rfl)
    try simp only [Act.put, List.setIfInBounds_toArray, List.set_cons_zero, List.set_cons_succ]
    refine wpAnyH_take (i := 3) (oi := { dst := _, op := _, type := _, pos := _, after := _, guard := _ }) (v := ?_) rfl (by kernel_rfl) (by kernel_rfl) (by kernel_rfl) (fun _ _ _ h => h) (Or.inl ⟨by rfl, ?_⟩) (by assumption) ?_
    rotate_left
    · intro W hSw
      (try dsimp only at hSw)
      go_simp
      (try with_reducible rfl)
    try simp only [Act.put, List.setIfInBounds_toArray, List.set_cons_zero, List.set_cons_succ]
    refine wpAnyH_take (i := 5) (oi := { dst := _, op := _, type := _, pos := _, after := _, guard := _ }) (v := ?_) rfl (by kernel_rfl) (by kernel_rfl) (by kernel_rfl) (fun _ _ _ h => h) (Or.inl ⟨by rfl, ?_⟩) (by assumption) ?_
    rotate_left
    · intro W hSw
      (try dsimp only at hSw)
      go_simp
      (try with_reducible rfl)
    try simp only [Act.put, List.setIfInBounds_toArray, List.set_cons_zero, List.set_cons_succ]
    refine wpAnyH_take (i := 6) (oi := { dst := _, op := _, type := _, pos := _, after := _, guard := _ }) (v := ?_) rfl (by kernel_rfl) (by kernel_rfl) (by kernel_rfl) (fun _ _ _ h => h) (Or.inl ⟨by rfl, ?_⟩) (by assumption) ?_
    rotate_left
    · intro W hSw
      (try dsimp only at hSw)
      go_simp
      (try with_reducible rfl)
    try simp only [Act.put, List.setIfInBounds_toArray, List.set_cons_zero, List.set_cons_succ]
    refine wpAnyH_ready (rs := [4]) (by kernel_rfl) (by simp) ?_
    refine AllReadyH.cons (o := { dst := _, op := _, type := _, pos := _, after := _, guard := _ }) rfl (fun K hK => ?_) AllReadyH.nil
    go_simp
    have SD : Hid (Sp WD v (.slice an N.length cn) L N vs) := HVN.out ▸ S1.out.up BD.out
    refine (entryL_any WD SD.out.n SD.out.len SD.out.e i).mono ?_
    rintro e w2 ⟨⟨x, rfl, hx⟩, hb2⟩
    have HX : Hid (Rw w2 x (enL N i).length (iC (enL N i))) := hx.up hb2
    have B2 : Hid (Below W1.heap.size W1 w2) := below_trans BD.out hb2
    clear hx hb2
    go_wp2_with fail
    refine hK.out _ _ ?_ (fun hHeld => ?_)
    · exact HS.out _ B2.out
    clear hK K
    try simp only [Act.put, List.setIfInBounds_toArray, List.set_cons_zero, List.set_cons_succ]
    refine wpAnyH_ready (rs := [7]) (by kernel_rfl) (by simp) ?_
    refine AllReadyH.cons (o := { dst := _, op := _, type := _, pos := _, after := _, guard := _ }) rfl (fun K hK => ?_) AllReadyH.nil
    go_simp
    refine (entry_any w2 HX.out s).mono ?_
    rintro e w3 ⟨rfl, hb3⟩
    have B3 : Hid (Below W1.heap.size W1 w3) := below_trans B2.out hb3
    clear hb3
    go_wp2_with fail
    refine hK.out _ _ ?_ (fun hHeld => ?_)
    · exact HS.out _ B3.out
    clear hK K
    try simp only [Act.put, List.setIfInBounds_toArray, List.set_cons_zero, List.set_cons_succ]
    refine wpAnyH_take (i := 8) (oi := { dst := _, op := _, type := _, pos := _, after := _, guard := _ }) (v := ?_) rfl (by kernel_rfl) (by kernel_rfl) (by kernel_rfl) (fun _ _ _ h => h) (Or.inl ⟨by rfl, ?_⟩) (by assumption) ?_
    rotate_left
    · intro W hSw
      (try dsimp only at hSw)
      go_simp
      (try with_reducible rfl)
    try simp only [Act.put, List.setIfInBounds_toArray, List.set_cons_zero, List.set_cons_succ]
    refine wpAnyH_done (by kernel_rfl) ?_ _
    refine NoPanic.normal ?_
    clear hHeld
    go_wp2_with fail
    go_ret
    exact ⟨rfl, below_trans HB.out B3.out⟩
  have HR : Hid (pl L N p i s = en (sl L p) i) := pl_sl L N p i s hp
  rw [HR.out]
  have HX : Hid (∀ W, Below W1.heap.size W1 W → Calls Try.prog 10 #[.agg #[.slice a0 (L 0).length c0, .slice a1 (L 1).length c1, .slice a2 (L 2).length c2, .slice a3 (L 3).length c3, .slice a4 (L 4).length c4, .slice a5 (L 5).length c5, .slice a6 (L 6).length c6, .slice a7 (L 7).length c7, .slice an N.length cn], .int .i64 p] W fun e w' => (∃ x, e = .returned x ∧ Rw W x (sl L p).length (iC (sl L p))) ∧ Below W.heap.size W w') := fun W hW => by rw [← HV.out]; exact spotsOf_any W (S1.out.up hW) p
  have HC : Hid (∀ W, Below W1.heap.size W1 W → W.cell? ⟨w.heap.size, 0, none⟩ = some (.slice a0 (L 0).length c0) ∧ W.cell? ⟨w.heap.size, 1, none⟩ = some (.slice a1 (L 1).length c1) ∧ W.cell? ⟨w.heap.size, 2, none⟩ = some (.slice a2 (L 2).length c2) ∧ W.cell? ⟨w.heap.size, 3, none⟩ = some (.slice a3 (L 3).length c3) ∧ W.cell? ⟨w.heap.size, 4, none⟩ = some (.slice a4 (L 4).length c4) ∧ W.cell? ⟨w.heap.size, 5, none⟩ = some (.slice a5 (L 5).length c5) ∧ W.cell? ⟨w.heap.size, 6, none⟩ = some (.slice a6 (L 6).length c6) ∧ W.cell? ⟨w.heap.size, 7, none⟩ = some (.slice a7 (L 7).length c7)) := fun W hW => ⟨below_cell hW p0, below_cell hW p1, below_cell hW p2, below_cell hW p3, below_cell hW p4, below_cell hW p5, below_cell hW p6, below_cell hW p7⟩
  have HCS : Hid (∀ W, Below W1.heap.size W1 W → (W.cell? ⟨w.heap.size, 0, none⟩ = some (.slice a0 (L 0).length c0) ∧ W.cell? ⟨w.heap.size, 1, none⟩ = some (.slice a1 (L 1).length c1) ∧ W.cell? ⟨w.heap.size, 2, none⟩ = some (.slice a2 (L 2).length c2) ∧ W.cell? ⟨w.heap.size, 3, none⟩ = some (.slice a3 (L 3).length c3) ∧ W.cell? ⟨w.heap.size, 4, none⟩ = some (.slice a4 (L 4).length c4) ∧ W.cell? ⟨w.heap.size, 5, none⟩ = some (.slice a5 (L 5).length c5) ∧ W.cell? ⟨w.heap.size, 6, none⟩ = some (.slice a6 (L 6).length c6) ∧ W.cell? ⟨w.heap.size, 7, none⟩ = some (.slice a7 (L 7).length c7) ∧ W.cell? ⟨w.heap.size, 8, none⟩ = some (.slice an N.length cn) ∧ W.cell? ⟨w.heap.size + 1, 1, none⟩ = some (.int .i64 p) ∧ W.cell? ⟨w.heap.size + 1, 2, none⟩ = some (.int .i64 i) ∧ W.cell? ⟨w.heap.size + 1, 3, none⟩ = some (.int .i64 s))) := fun W hW => by
    obtain ⟨b0, b1, b2, b3, b4, b5, b6, b7⟩ := HC.out W hW
    exact ⟨b0, b1, b2, b3, b4, b5, b6, b7, HS.out W hW⟩
  clear HC HS
  by_cases h4 : p = 4
  · subst h4
    have hs : s < 0 := by by_cases h : 0 ≤ s; exact absurd ⟨rfl, h⟩ hp; omega
    clear hp
    go_enter Try.func5, Try.ntmps5
    go_upto_region 1 with fail
    rw [← HW.out]
    go_upto_region 3 with fail
    obtain ⟨WD, hWD⟩ : ∃ WD, W1.drew = WD := ⟨_, rfl⟩
    have BD : Hid (Below W1.heap.size W1 WD) := by rw [← hWD]; exact Below.drew (Below.refl _ _)
    refine wp_region_noPanic ?_
    refine wp_region_held_drew (S := fun W => W.cell? ⟨w.heap.size, 0, none⟩ = some (.slice a0 (L 0).length c0) ∧ W.cell? ⟨w.heap.size, 1, none⟩ = some (.slice a1 (L 1).length c1) ∧ W.cell? ⟨w.heap.size, 2, none⟩ = some (.slice a2 (L 2).length c2) ∧ W.cell? ⟨w.heap.size, 3, none⟩ = some (.slice a3 (L 3).length c3) ∧ W.cell? ⟨w.heap.size, 4, none⟩ = some (.slice a4 (L 4).length c4) ∧ W.cell? ⟨w.heap.size, 5, none⟩ = some (.slice a5 (L 5).length c5) ∧ W.cell? ⟨w.heap.size, 6, none⟩ = some (.slice a6 (L 6).length c6) ∧ W.cell? ⟨w.heap.size, 7, none⟩ = some (.slice a7 (L 7).length c7) ∧ W.cell? ⟨w.heap.size, 8, none⟩ = some (.slice an N.length cn) ∧ W.cell? ⟨w.heap.size + 1, 1, none⟩ = some (.int .i64 4) ∧ W.cell? ⟨w.heap.size + 1, 2, none⟩ = some (.int .i64 i) ∧ W.cell? ⟨w.heap.size + 1, 3, none⟩ = some (.int .i64 s)) (by kernel_rfl) (by rw [hWD]; exact HCS.out _ BD.out) (fun hHeld => ?_)
    rw [hWD] at hHeld ⊢
    clear hWD
    refine wpAnyH_take (i := 0) (oi := { dst := _, op := _, type := _, pos := _, after := _, guard := _ }) (v := ?_) rfl (by kernel_rfl) (by kernel_rfl) (by kernel_rfl) (fun _ _ _ h => h) (Or.inl ⟨by rfl, ?_⟩) (by assumption) ?_
    rotate_left
    · intro W hSw
      (try dsimp only at hSw)
      go_simp
      (try with_reducible rfl)
    try simp only [Act.put, List.setIfInBounds_toArray, List.set_cons_zero, List.set_cons_succ]
    refine wpAnyH_take (i := 1) (oi := { dst := _, op := _, type := _, pos := _, after := _, guard := _ }) (v := ?_) rfl (by kernel_rfl) (by kernel_rfl) (by kernel_rfl) (fun _ _ _ h => h) (Or.inl ⟨by rfl, ?_⟩) (by assumption) ?_
    rotate_left
    · intro W hSw
      (try dsimp only at hSw)
      go_simp
      (try with_reducible rfl)
    try simp only [Act.put, List.setIfInBounds_toArray, List.set_cons_zero, List.set_cons_succ]
    refine wpAnyH_take (i := 2) (oi := { dst := _, op := _, type := _, pos := _, after := _, guard := _ }) (v := ?_) rfl (by kernel_rfl) (by kernel_rfl) (by kernel_rfl) (fun _ _ _ h => h) (Or.inl ⟨by rfl, ?_⟩) (by assumption) ?_
    rotate_left
    · intro W hSw
      (try dsimp only at hSw)
      go_simp
      (try with_reducible rfl)
    try simp only [Act.put, List.setIfInBounds_toArray, List.set_cons_zero, List.set_cons_succ]
    refine wpAnyH_take (i := 4) (oi := { dst := _, op := _, type := _, pos := _, after := _, guard := _ }) (v := ?_) rfl (by kernel_rfl) (by kernel_rfl) (by kernel_rfl) (fun _ _ _ h => h) (Or.inl ⟨by rfl, ?_⟩) (by assumption) ?_
    rotate_left
    · intro W hSw
      (try dsimp only at hSw)
      go_simp
      (try with_reducible rfl)
    try simp only [Act.put, List.setIfInBounds_toArray, List.set_cons_zero, List.set_cons_succ]
    refine wpAnyH_take (i := 5) (oi := { dst := _, op := _, type := _, pos := _, after := _, guard := _ }) (v := ?_) rfl (by kernel_rfl) (by kernel_rfl) (by kernel_rfl) (fun _ _ _ h => h) (Or.inl ⟨by rfl, ?_⟩) (by assumption) ?_
    rotate_left
    · intro W hSw
      (try dsimp only at hSw)
      go_simp
      (try with_reducible rfl)
    try simp only [Act.put, List.setIfInBounds_toArray, List.set_cons_zero, List.set_cons_succ]
    refine wpAnyH_ready (rs := [3]) (by kernel_rfl) (by simp) ?_
    refine AllReadyH.cons (o := { dst := _, op := _, type := _, pos := _, after := _, guard := _ }) rfl (fun K hK => ?_) AllReadyH.nil
    go_simp
    refine (HX.out WD BD.out).mono ?_
    rintro e w2 ⟨⟨x, rfl, hx⟩, hb2⟩
    have HY : Hid (Rw w2 x (sl L 4).length (iC (sl L 4))) := hx.up hb2
    have B2 : Hid (Below W1.heap.size W1 w2) := below_trans BD.out hb2
    clear hx hb2
    go_wp2_with fail
    refine hK.out _ _ ?_ (fun hHeld => ?_)
    · exact HCS.out _ B2.out
    clear hK K
    try simp only [Act.put, List.setIfInBounds_toArray, List.set_cons_zero, List.set_cons_succ]
    refine wpAnyH_ready (rs := [6]) (by kernel_rfl) (by simp) ?_
    refine AllReadyH.cons (o := { dst := _, op := _, type := _, pos := _, after := _, guard := _ }) rfl (fun K hK => ?_) AllReadyH.nil
    go_simp
    refine (entry_any w2 HY.out i).mono ?_
    rintro e w3 ⟨rfl, hb3⟩
    have B3 : Hid (Below W1.heap.size W1 w3) := below_trans B2.out hb3
    clear hb3
    go_wp2_with fail
    refine hK.out _ _ ?_ (fun hHeld => ?_)
    · exact HCS.out _ B3.out
    clear hK K
    try simp only [Act.put, List.setIfInBounds_toArray, List.set_cons_zero, List.set_cons_succ]
    refine wpAnyH_take (i := 7) (oi := { dst := _, op := _, type := _, pos := _, after := _, guard := _ }) (v := ?_) rfl (by kernel_rfl) (by kernel_rfl) (by kernel_rfl) (fun _ _ _ h => h) (Or.inl ⟨by rfl, ?_⟩) (by assumption) ?_
    rotate_left
    · intro W hSw
      (try dsimp only at hSw)
      go_simp
      (try with_reducible rfl)
    try simp only [Act.put, List.setIfInBounds_toArray, List.set_cons_zero, List.set_cons_succ]
    refine wpAnyH_done (by kernel_rfl) ?_ _
    refine NoPanic.normal ?_
    clear hHeld
    go_wp2_with fail
    go_ret
    exact ⟨rfl, below_trans HB.out B3.out⟩
  have z4 : (p == 4) = false := by rw [beq_eq_false_iff_ne]; exact h4
  clear h4 hp
  go_enter Try.func5, Try.ntmps5
  go_upto_region 1 with fail
  rw [← HW.out]
  go_upto_region 3 with fail
  obtain ⟨WD, hWD⟩ : ∃ WD, W1.drew = WD := ⟨_, rfl⟩
  have BD : Hid (Below W1.heap.size W1 WD) := by rw [← hWD]; exact Below.drew (Below.refl _ _)
  refine wp_region_noPanic ?_
  refine wp_region_held_drew (S := fun W => W.cell? ⟨w.heap.size, 0, none⟩ = some (.slice a0 (L 0).length c0) ∧ W.cell? ⟨w.heap.size, 1, none⟩ = some (.slice a1 (L 1).length c1) ∧ W.cell? ⟨w.heap.size, 2, none⟩ = some (.slice a2 (L 2).length c2) ∧ W.cell? ⟨w.heap.size, 3, none⟩ = some (.slice a3 (L 3).length c3) ∧ W.cell? ⟨w.heap.size, 4, none⟩ = some (.slice a4 (L 4).length c4) ∧ W.cell? ⟨w.heap.size, 5, none⟩ = some (.slice a5 (L 5).length c5) ∧ W.cell? ⟨w.heap.size, 6, none⟩ = some (.slice a6 (L 6).length c6) ∧ W.cell? ⟨w.heap.size, 7, none⟩ = some (.slice a7 (L 7).length c7) ∧ W.cell? ⟨w.heap.size, 8, none⟩ = some (.slice an N.length cn) ∧ W.cell? ⟨w.heap.size + 1, 1, none⟩ = some (.int .i64 p) ∧ W.cell? ⟨w.heap.size + 1, 2, none⟩ = some (.int .i64 i) ∧ W.cell? ⟨w.heap.size + 1, 3, none⟩ = some (.int .i64 s)) (by kernel_rfl) (by rw [hWD]; exact HCS.out _ BD.out) (fun hHeld => ?_)
  rw [hWD] at hHeld ⊢
  clear hWD
  refine wpAnyH_take (i := 0) (oi := { dst := _, op := _, type := _, pos := _, after := _, guard := _ }) (v := ?_) rfl (by kernel_rfl) (by kernel_rfl) (by kernel_rfl) (fun _ _ _ h => h) (Or.inl ⟨by rfl, ?_⟩) (by assumption) ?_
  rotate_left
  · intro W hSw
    (try dsimp only at hSw)
    go_simp
    (try with_reducible rfl)
  try simp only [Act.put, List.setIfInBounds_toArray, List.set_cons_zero, List.set_cons_succ]
  refine wpAnyH_take (i := 1) (oi := { dst := _, op := _, type := _, pos := _, after := _, guard := _ }) (v := ?_) rfl (by kernel_rfl) (by kernel_rfl) (by kernel_rfl) (fun _ _ _ h => h) (Or.inl ⟨by rfl, ?_⟩) (by assumption) ?_
  rotate_left
  · intro W hSw
    (try dsimp only at hSw)
    go_simp
    (try with_reducible rfl)
  try simp only [Act.put, List.setIfInBounds_toArray, List.set_cons_zero, List.set_cons_succ]
  refine wpAnyH_take (i := 2) (oi := { dst := _, op := _, type := _, pos := _, after := _, guard := _ }) (v := ?_) rfl (by kernel_rfl) (by kernel_rfl) (by kernel_rfl) (fun _ _ _ h => h) (Or.inl ⟨by rfl, ?_⟩) (by assumption) ?_
  rotate_left
  · intro W hSw
    (try dsimp only at hSw)
    go_simp
    (try with_reducible rfl)
  try simp only [Act.put, List.setIfInBounds_toArray, List.set_cons_zero, List.set_cons_succ]
  refine wpAnyH_take (i := 4) (oi := { dst := _, op := _, type := _, pos := _, after := _, guard := _ }) (v := ?_) rfl (by kernel_rfl) (by kernel_rfl) (by kernel_rfl) (fun _ _ _ h => h) (Or.inl ⟨by rfl, ?_⟩) (by assumption) ?_
  rotate_left
  · intro W hSw
    (try dsimp only at hSw)
    go_simp
    (try with_reducible rfl)
  try simp only [Act.put, List.setIfInBounds_toArray, List.set_cons_zero, List.set_cons_succ]
  refine wpAnyH_take (i := 5) (oi := { dst := _, op := _, type := _, pos := _, after := _, guard := _ }) (v := ?_) rfl (by kernel_rfl) (by kernel_rfl) (by kernel_rfl) (fun _ _ _ h => h) (Or.inl ⟨by rfl, ?_⟩) (by assumption) ?_
  rotate_left
  · intro W hSw
    (try dsimp only at hSw)
    go_simp
    (try with_reducible rfl)
  try simp only [Act.put, List.setIfInBounds_toArray, List.set_cons_zero, List.set_cons_succ]
  refine wpAnyH_ready (rs := [3]) (by kernel_rfl) (by simp) ?_
  refine AllReadyH.cons (o := { dst := _, op := _, type := _, pos := _, after := _, guard := _ }) rfl (fun K hK => ?_) AllReadyH.nil
  go_simp
  refine (HX.out WD BD.out).mono ?_
  rintro e w2 ⟨⟨x, rfl, hx⟩, hb2⟩
  have HY : Hid (Rw w2 x (sl L p).length (iC (sl L p))) := hx.up hb2
  have B2 : Hid (Below W1.heap.size W1 w2) := below_trans BD.out hb2
  clear hx hb2
  go_wp2_with fail
  refine hK.out _ _ ?_ (fun hHeld => ?_)
  · exact HCS.out _ B2.out
  clear hK K
  try simp only [Act.put, List.setIfInBounds_toArray, List.set_cons_zero, List.set_cons_succ]
  refine wpAnyH_ready (rs := [6]) (by kernel_rfl) (by simp) ?_
  refine AllReadyH.cons (o := { dst := _, op := _, type := _, pos := _, after := _, guard := _ }) rfl (fun K hK => ?_) AllReadyH.nil
  go_simp
  refine (entry_any w2 HY.out i).mono ?_
  rintro e w3 ⟨rfl, hb3⟩
  have B3 : Hid (Below W1.heap.size W1 w3) := below_trans B2.out hb3
  clear hb3
  go_wp2_with fail
  refine hK.out _ _ ?_ (fun hHeld => ?_)
  · exact HCS.out _ B3.out
  clear hK K
  try simp only [Act.put, List.setIfInBounds_toArray, List.set_cons_zero, List.set_cons_succ]
  refine wpAnyH_take (i := 7) (oi := { dst := _, op := _, type := _, pos := _, after := _, guard := _ }) (v := ?_) rfl (by kernel_rfl) (by kernel_rfl) (by kernel_rfl) (fun _ _ _ h => h) (Or.inl ⟨by rfl, ?_⟩) (by assumption) ?_
  rotate_left
  · intro W hSw
    (try dsimp only at hSw)
    go_simp
    (try with_reducible rfl)
  try simp only [Act.put, List.setIfInBounds_toArray, List.set_cons_zero, List.set_cons_succ]
  refine wpAnyH_done (by kernel_rfl) ?_ _
  refine NoPanic.normal ?_
  clear hHeld
  go_wp2_with fail
  go_ret
  exact ⟨rfl, below_trans HB.out B3.out⟩
end Go.Proofs.Ytlmfcaflfbnebaa
