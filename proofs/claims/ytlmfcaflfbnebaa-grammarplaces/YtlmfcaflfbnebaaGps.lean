import Derived.Test.YtlmfcaflfbnebaaGpr
namespace Go.Proofs.Ytlmfcaflfbnebaa
open Go.RowKit Go.Maps

set_option maxRecDepth 100000 in
set_option maxHeartbeats 16000000 in
theorem grammarPlaces_any {v : Nat → Value} {vn : Value} {L : Nat → List Int} {N : List (List Int)} {vs : List Value} (w : World) (h : Sp w v vn L N vs) (cd p i s : Int) (hz : ∀ k, k < 8 → (L k).length * 8 + 16 ≤ 140737488355328) (hn : N.length * 24 + 4096 ≤ 140737488355328) (hN : ∀ l ∈ N, l.length * 8 + 16 ≤ 140737488355328) :
    Calls Try.prog 3 #[spv v vn, flv cd p i s] w fun e w' => e = .returned (.bool true) ∧ Below w.heap.size w w' := by
  have S0 : Hid (Sp w v vn L N vs) := h
  clear h
  obtain ⟨a0, c0, e0⟩ := (S0.out.f 0 (by decide)).form
  obtain ⟨a1, c1, e1⟩ := (S0.out.f 1 (by decide)).form
  obtain ⟨a2, c2, e2⟩ := (S0.out.f 2 (by decide)).form
  obtain ⟨a3, c3, e3⟩ := (S0.out.f 3 (by decide)).form
  obtain ⟨a4, c4, e4⟩ := (S0.out.f 4 (by decide)).form
  obtain ⟨a5, c5, e5⟩ := (S0.out.f 5 (by decide)).form
  obtain ⟨a6, c6, e6⟩ := (S0.out.f 6 (by decide)).form
  obtain ⟨a7, c7, e7⟩ := (S0.out.f 7 (by decide)).form
  obtain ⟨an, cn, enn⟩ := S0.out.n.form
  have hv0 : spv v vn = .agg #[.slice a0 (L 0).length c0, .slice a1 (L 1).length c1, .slice a2 (L 2).length c2, .slice a3 (L 3).length c3, .slice a4 (L 4).length c4, .slice a5 (L 5).length c5, .slice a6 (L 6).length c6, .slice a7 (L 7).length c7, .slice an N.length cn] := by simp only [spv, enn, e0, e1, e2, e3, e4, e5, e6, e7]
  have HVN : Hid (vn = .slice an N.length cn) := enn
  have HV : Hid (spv v vn = .agg #[.slice a0 (L 0).length c0, .slice a1 (L 1).length c1, .slice a2 (L 2).length c2, .slice a3 (L 3).length c3, .slice a4 (L 4).length c4, .slice a5 (L 5).length c5, .slice a6 (L 6).length c6, .slice a7 (L 7).length c7, .slice an N.length cn]) := hv0
  clear hv0
  rw [HV.out]
  obtain ⟨W1, hW1⟩ : ∃ W1, W1 = (w.alloc (.cells #[.slice a0 (L 0).length c0, .slice a1 (L 1).length c1, .slice a2 (L 2).length c2, .slice a3 (L 3).length c3, .slice a4 (L 4).length c4, .slice a5 (L 5).length c5, .slice a6 (L 6).length c6, .slice a7 (L 7).length c7, .slice an N.length cn] 25)).alloc (.cells #[.int .i64 cd, .int .i64 p, .int .i64 i, .int .i64 s] 29) := ⟨_, rfl⟩
  have hh : W1.heap[w.heap.size]? = some (.cells #[.slice a0 (L 0).length c0, .slice a1 (L 1).length c1, .slice a2 (L 2).length c2, .slice a3 (L 3).length c3, .slice a4 (L 4).length c4, .slice a5 (L 5).length c5, .slice a6 (L 6).length c6, .slice a7 (L 7).length c7, .slice an N.length cn] 25 (0, 0)) := by rw [hW1, (bel_up _ _).block _ (by simp)]; exact heap_new w _
  have hg : W1.heap[w.heap.size + 1]? = some (.cells #[.int .i64 cd, .int .i64 p, .int .i64 i, .int .i64 s] 29 (0, 0)) := by
    rw [hW1]
    have := heap_new (w.alloc (.cells #[.slice a0 (L 0).length c0, .slice a1 (L 1).length c1, .slice a2 (L 2).length c2, .slice a3 (L 3).length c3, .slice a4 (L 4).length c4, .slice a5 (L 5).length c5, .slice a6 (L 6).length c6, .slice a7 (L 7).length c7, .slice an N.length cn] 25)) (.cells #[.int .i64 cd, .int .i64 p, .int .i64 i, .int .i64 s] 29)
    rw [World.size_alloc] at this
    exact this
  have HB : Hid (Below w.heap.size w W1) := by rw [hW1]; exact below_trans (bel_up _ _) (bel_up _ _)
  have S1 : Hid (Sp W1 v vn L N vs) := S0.out.up HB.out
  have HW : Hid (W1 = (w.alloc (.cells #[.slice a0 (L 0).length c0, .slice a1 (L 1).length c1, .slice a2 (L 2).length c2, .slice a3 (L 3).length c3, .slice a4 (L 4).length c4, .slice a5 (L 5).length c5, .slice a6 (L 6).length c6, .slice a7 (L 7).length c7, .slice an N.length cn] 25)).alloc (.cells #[.int .i64 cd, .int .i64 p, .int .i64 i, .int .i64 s] 29)) := hW1
  have HSZ : Hid (W1.heap.size = w.heap.size + 2) := by rw [hW1, World.size_alloc, World.size_alloc]; exact rfl
  clear hW1 S0
  have p0 := rcell hh 0 (.slice a0 (L 0).length c0) rfl
  have p1 := rcell hh 1 (.slice a1 (L 1).length c1) rfl
  have p2 := rcell hh 2 (.slice a2 (L 2).length c2) rfl
  have p3 := rcell hh 3 (.slice a3 (L 3).length c3) rfl
  have p4 := rcell hh 4 (.slice a4 (L 4).length c4) rfl
  have p5 := rcell hh 5 (.slice a5 (L 5).length c5) rfl
  have p6 := rcell hh 6 (.slice a6 (L 6).length c6) rfl
  have p7 := rcell hh 7 (.slice a7 (L 7).length c7) rfl
  have p8 := rcell hh 8 (.slice an N.length cn) rfl
  have q0 := rcell hg 0 (.int .i64 cd) rfl
  have q1 := rcell hg 1 (.int .i64 p) rfl
  have q2 := rcell hg 2 (.int .i64 i) rfl
  have q3 := rcell hg 3 (.int .i64 s) rfl
  have F0 : Hid (∀ W, Below W1.heap.size W1 W → Rw W (.slice a0 (L 0).length c0) (L 0).length (iC (L 0))) := fun W hW => by rw [← e0]; exact (S1.out.f 0 (by decide)).up hW
  have F1 : Hid (∀ W, Below W1.heap.size W1 W → Rw W (.slice a1 (L 1).length c1) (L 1).length (iC (L 1))) := fun W hW => by rw [← e1]; exact (S1.out.f 1 (by decide)).up hW
  have F2 : Hid (∀ W, Below W1.heap.size W1 W → Rw W (.slice a2 (L 2).length c2) (L 2).length (iC (L 2))) := fun W hW => by rw [← e2]; exact (S1.out.f 2 (by decide)).up hW
  have F3 : Hid (∀ W, Below W1.heap.size W1 W → Rw W (.slice a3 (L 3).length c3) (L 3).length (iC (L 3))) := fun W hW => by rw [← e3]; exact (S1.out.f 3 (by decide)).up hW
  have F4 : Hid (∀ W, Below W1.heap.size W1 W → Rw W (.slice a4 (L 4).length c4) (L 4).length (iC (L 4))) := fun W hW => by rw [← e4]; exact (S1.out.f 4 (by decide)).up hW
  have F5 : Hid (∀ W, Below W1.heap.size W1 W → Rw W (.slice a5 (L 5).length c5) (L 5).length (iC (L 5))) := fun W hW => by rw [← e5]; exact (S1.out.f 5 (by decide)).up hW
  have F6 : Hid (∀ W, Below W1.heap.size W1 W → Rw W (.slice a6 (L 6).length c6) (L 6).length (iC (L 6))) := fun W hW => by rw [← e6]; exact (S1.out.f 6 (by decide)).up hW
  have F7 : Hid (∀ W, Below W1.heap.size W1 W → Rw W (.slice a7 (L 7).length c7) (L 7).length (iC (L 7))) := fun W hW => by rw [← e7]; exact (S1.out.f 7 (by decide)).up hW
  clear hh hg enn e0 e1 e2 e3 e4 e5 e6 e7
  have HZ : Hid _ := hz
  have HZn : Hid _ := hn
  have HZN : Hid _ := hN
  clear hz hn hN
  have HC8 : Hid (∀ W, Below W1.heap.size W1 W → (W.cell? ⟨w.heap.size, 0, none⟩ = some (.slice a0 (L 0).length c0) ∧ W.cell? ⟨w.heap.size, 1, none⟩ = some (.slice a1 (L 1).length c1) ∧ W.cell? ⟨w.heap.size, 2, none⟩ = some (.slice a2 (L 2).length c2) ∧ W.cell? ⟨w.heap.size, 3, none⟩ = some (.slice a3 (L 3).length c3) ∧ W.cell? ⟨w.heap.size, 4, none⟩ = some (.slice a4 (L 4).length c4) ∧ W.cell? ⟨w.heap.size, 5, none⟩ = some (.slice a5 (L 5).length c5) ∧ W.cell? ⟨w.heap.size, 6, none⟩ = some (.slice a6 (L 6).length c6) ∧ W.cell? ⟨w.heap.size, 7, none⟩ = some (.slice a7 (L 7).length c7))) := fun W hW => ⟨below_cell hW p0, below_cell hW p1, below_cell hW p2, below_cell hW p3, below_cell hW p4, below_cell hW p5, below_cell hW p6, below_cell hW p7⟩
  have HCX : Hid (∀ W, Below W1.heap.size W1 W → W.cell? ⟨w.heap.size, 8, none⟩ = some (.slice an N.length cn) ∧ W.cell? ⟨w.heap.size + 1, 0, none⟩ = some (.int .i64 cd) ∧ W.cell? ⟨w.heap.size + 1, 1, none⟩ = some (.int .i64 p) ∧ W.cell? ⟨w.heap.size + 1, 2, none⟩ = some (.int .i64 i) ∧ W.cell? ⟨w.heap.size + 1, 3, none⟩ = some (.int .i64 s)) := fun W hW => ⟨below_cell hW p8, below_cell hW q0, below_cell hW q1, below_cell hW q2, below_cell hW q3⟩
  clear p0 p1 p2 p3 p4 p5 p6 p7 p8 q0 q1 q2 q3
  go_enter Try.func3, Try.ntmps3
  go_upto_region 1 with fail
  rw [← HW.out]
  obtain ⟨w0, hWD⟩ : ∃ w0, W1.drew = w0 := ⟨_, rfl⟩
  have D0 : Hid (Below W1.heap.size W1 w0) := by rw [← hWD]; exact Below.drew (Below.refl _ _)
  have M0 : Hid (MR W1.heap.size w0 []) := MR.nil _ _
  have HLE : Hid (w.heap.size ≤ W1.heap.size) := HB.out.size
  refine wp_region_noPanic ?_
  refine wp_region_held_drew (S := fun W => W.cell? ⟨w.heap.size, 0, none⟩ = some (.slice a0 (L 0).length c0) ∧ W.cell? ⟨w.heap.size, 1, none⟩ = some (.slice a1 (L 1).length c1) ∧ W.cell? ⟨w.heap.size, 2, none⟩ = some (.slice a2 (L 2).length c2) ∧ W.cell? ⟨w.heap.size, 3, none⟩ = some (.slice a3 (L 3).length c3) ∧ W.cell? ⟨w.heap.size, 4, none⟩ = some (.slice a4 (L 4).length c4) ∧ W.cell? ⟨w.heap.size, 5, none⟩ = some (.slice a5 (L 5).length c5) ∧ W.cell? ⟨w.heap.size, 6, none⟩ = some (.slice a6 (L 6).length c6) ∧ W.cell? ⟨w.heap.size, 7, none⟩ = some (.slice a7 (L 7).length c7)) (by kernel_rfl) (by rw [hWD]; exact HC8.out _ D0.out) (fun hHeld => ?_)
  rw [hWD] at hHeld ⊢
  clear hWD
  refine wpAnyH_take (i := 0) (oi := { dst := _, op := _, type := _, pos := _, after := _, guard := _ }) (v := ?_) rfl (by kernel_rfl) (by kernel_rfl) (by kernel_rfl) (fun _ _ _ h => h) (Or.inl ⟨by rfl, ?_⟩) (by assumption) ?_
  rotate_left
  · intro W hSw
    (try dsimp only at hSw)
    go_simp
    (try with_reducible rfl)
  try simp only [Act.put, List.setIfInBounds_toArray, List.set_cons_zero, List.set_cons_succ]
  refine wpAnyH_take (i := 1) (oi := { dst := _, op := _, type := _, pos := _, after := _, guard := _ }) (v := ?_) rfl (by kernel_rfl) (by kernel_rfl) (by kernel_rfl) (fun _ _ _ h => h) (Or.inl ⟨by rfl, ?_⟩) (by assumption) ?_
  rotate_left
  · intro W hSw
    (try dsimp only at hSw)
    go_simp
    (try with_reducible rfl)
  try simp only [Act.put, List.setIfInBounds_toArray, List.set_cons_zero, List.set_cons_succ]
  refine wpAnyH_take (i := 3) (oi := { dst := _, op := _, type := _, pos := _, after := _, guard := _ }) (v := ?_) rfl (by kernel_rfl) (by kernel_rfl) (by kernel_rfl) (fun _ _ _ h => h) (Or.inl ⟨by rfl, ?_⟩) (by assumption) ?_
  rotate_left
  · intro W hSw
    (try dsimp only at hSw)
    go_simp
    (try with_reducible rfl)
  try simp only [Act.put, List.setIfInBounds_toArray, List.set_cons_zero, List.set_cons_succ]
  refine wpAnyH_take (i := 4) (oi := { dst := _, op := _, type := _, pos := _, after := _, guard := _ }) (v := ?_) rfl (by kernel_rfl) (by kernel_rfl) (by kernel_rfl) (fun _ _ _ h => h) (Or.inl ⟨by rfl, ?_⟩) (by assumption) ?_
  rotate_left
  · intro W hSw
    (try dsimp only at hSw)
    go_simp
    (try with_reducible rfl)
  try simp only [Act.put, List.setIfInBounds_toArray, List.set_cons_zero, List.set_cons_succ]
  refine wpAnyH_take (i := 6) (oi := { dst := _, op := _, type := _, pos := _, after := _, guard := _ }) (v := ?_) rfl (by kernel_rfl) (by kernel_rfl) (by kernel_rfl) (fun _ _ _ h => h) (Or.inl ⟨by rfl, ?_⟩) (by assumption) ?_
  rotate_left
  · intro W hSw
    (try dsimp only at hSw)
    go_simp
    (try with_reducible rfl)
  try simp only [Act.put, List.setIfInBounds_toArray, List.set_cons_zero, List.set_cons_succ]
  refine wpAnyH_take (i := 7) (oi := { dst := _, op := _, type := _, pos := _, after := _, guard := _ }) (v := ?_) rfl (by kernel_rfl) (by kernel_rfl) (by kernel_rfl) (fun _ _ _ h => h) (Or.inl ⟨by rfl, ?_⟩) (by assumption) ?_
  rotate_left
  · intro W hSw
    (try dsimp only at hSw)
    go_simp
    (try with_reducible rfl)
  try simp only [Act.put, List.setIfInBounds_toArray, List.set_cons_zero, List.set_cons_succ]
  refine wpAnyH_take (i := 9) (oi := { dst := _, op := _, type := _, pos := _, after := _, guard := _ }) (v := ?_) rfl (by kernel_rfl) (by kernel_rfl) (by kernel_rfl) (fun _ _ _ h => h) (Or.inl ⟨by rfl, ?_⟩) (by assumption) ?_
  rotate_left
  · intro W hSw
    (try dsimp only at hSw)
    go_simp
    (try with_reducible rfl)
  try simp only [Act.put, List.setIfInBounds_toArray, List.set_cons_zero, List.set_cons_succ]
  refine wpAnyH_take (i := 10) (oi := { dst := _, op := _, type := _, pos := _, after := _, guard := _ }) (v := ?_) rfl (by kernel_rfl) (by kernel_rfl) (by kernel_rfl) (fun _ _ _ h => h) (Or.inl ⟨by rfl, ?_⟩) (by assumption) ?_
  rotate_left
  · intro W hSw
    (try dsimp only at hSw)
    go_simp
    (try with_reducible rfl)
  try simp only [Act.put, List.setIfInBounds_toArray, List.set_cons_zero, List.set_cons_succ]
  refine wpAnyH_take (i := 12) (oi := { dst := _, op := _, type := _, pos := _, after := _, guard := _ }) (v := ?_) rfl (by kernel_rfl) (by kernel_rfl) (by kernel_rfl) (fun _ _ _ h => h) (Or.inl ⟨by rfl, ?_⟩) (by assumption) ?_
  rotate_left
  · intro W hSw
    (try dsimp only at hSw)
    go_simp
    (try with_reducible rfl)
  try simp only [Act.put, List.setIfInBounds_toArray, List.set_cons_zero, List.set_cons_succ]
  refine wpAnyH_take (i := 13) (oi := { dst := _, op := _, type := _, pos := _, after := _, guard := _ }) (v := ?_) rfl (by kernel_rfl) (by kernel_rfl) (by kernel_rfl) (fun _ _ _ h => h) (Or.inl ⟨by rfl, ?_⟩) (by assumption) ?_
  rotate_left
  · intro W hSw
    (try dsimp only at hSw)
    go_simp
    (try with_reducible rfl)
  try simp only [Act.put, List.setIfInBounds_toArray, List.set_cons_zero, List.set_cons_succ]
  refine wpAnyH_take (i := 15) (oi := { dst := _, op := _, type := _, pos := _, after := _, guard := _ }) (v := ?_) rfl (by kernel_rfl) (by kernel_rfl) (by kernel_rfl) (fun _ _ _ h => h) (Or.inl ⟨by rfl, ?_⟩) (by assumption) ?_
  rotate_left
  · intro W hSw
    (try dsimp only at hSw)
    go_simp
    (try with_reducible rfl)
  try simp only [Act.put, List.setIfInBounds_toArray, List.set_cons_zero, List.set_cons_succ]
  refine wpAnyH_take (i := 16) (oi := { dst := _, op := _, type := _, pos := _, after := _, guard := _ }) (v := ?_) rfl (by kernel_rfl) (by kernel_rfl) (by kernel_rfl) (fun _ _ _ h => h) (Or.inl ⟨by rfl, ?_⟩) (by assumption) ?_
  rotate_left
  · intro W hSw
    (try dsimp only at hSw)
    go_simp
    (try with_reducible rfl)
  try simp only [Act.put, List.setIfInBounds_toArray, List.set_cons_zero, List.set_cons_succ]
  refine wpAnyH_take (i := 18) (oi := { dst := _, op := _, type := _, pos := _, after := _, guard := _ }) (v := ?_) rfl (by kernel_rfl) (by kernel_rfl) (by kernel_rfl) (fun _ _ _ h => h) (Or.inl ⟨by rfl, ?_⟩) (by assumption) ?_
  rotate_left
  · intro W hSw
    (try dsimp only at hSw)
    go_simp
    (try with_reducible rfl)
  try simp only [Act.put, List.setIfInBounds_toArray, List.set_cons_zero, List.set_cons_succ]
  refine wpAnyH_take (i := 19) (oi := { dst := _, op := _, type := _, pos := _, after := _, guard := _ }) (v := ?_) rfl (by kernel_rfl) (by kernel_rfl) (by kernel_rfl) (fun _ _ _ h => h) (Or.inl ⟨by rfl, ?_⟩) (by assumption) ?_
  rotate_left
  · intro W hSw
    (try dsimp only at hSw)
    go_simp
    (try with_reducible rfl)
  try simp only [Act.put, List.setIfInBounds_toArray, List.set_cons_zero, List.set_cons_succ]
  refine wpAnyH_take (i := 21) (oi := { dst := _, op := _, type := _, pos := _, after := _, guard := _ }) (v := ?_) rfl (by kernel_rfl) (by kernel_rfl) (by kernel_rfl) (fun _ _ _ h => h) (Or.inl ⟨by rfl, ?_⟩) (by assumption) ?_
  rotate_left
  · intro W hSw
    (try dsimp only at hSw)
    go_simp
    (try with_reducible rfl)
  try simp only [Act.put, List.setIfInBounds_toArray, List.set_cons_zero, List.set_cons_succ]
  refine wpAnyH_take (i := 22) (oi := { dst := _, op := _, type := _, pos := _, after := _, guard := _ }) (v := ?_) rfl (by kernel_rfl) (by kernel_rfl) (by kernel_rfl) (fun _ _ _ h => h) (Or.inl ⟨by rfl, ?_⟩) (by assumption) ?_
  rotate_left
  · intro W hSw
    (try dsimp only at hSw)
    go_simp
    (try with_reducible rfl)
  try simp only [Act.put, List.setIfInBounds_toArray, List.set_cons_zero, List.set_cons_succ]
  refine wpAnyH_ready (rs := [2]) (by kernel_rfl) (by simp) ?_
  refine AllReadyH.cons (o := { dst := _, op := _, type := _, pos := _, after := _, guard := _ }) rfl (fun K hK => ?_) AllReadyH.nil
  go_simp
  refine (roomyInts_any w0 (F0.out w0 D0.out) (HZ.out 0 (by decide))).mono ?_
  rintro e w1 ⟨g0, k0, rfl, hr, hl, hb⟩
  have M1 : Hid (MR W1.heap.size w1 [(g0, k0, L 0)]) := MR.snoc M0.out hb D0.out.size hr
  have D1 : Hid (Below W1.heap.size W1 w1) := below_trans D0.out hb
  clear hr hl hb M0 D0
  go_wp2_with fail
  refine hK.out _ _ ?_ (fun hHeld => ?_)
  · exact HC8.out _ D1.out
  clear hK K
  try simp only [Act.put, List.setIfInBounds_toArray, List.set_cons_zero, List.set_cons_succ]
  refine wpAnyH_ready (rs := [5]) (by kernel_rfl) (by simp) ?_
  refine AllReadyH.cons (o := { dst := _, op := _, type := _, pos := _, after := _, guard := _ }) rfl (fun K hK => ?_) AllReadyH.nil
  go_simp
  refine (roomyInts_any w1 (F1.out w1 D1.out) (HZ.out 1 (by decide))).mono ?_
  rintro e w2 ⟨g1, k1, rfl, hr, hl, hb⟩
  have M2 : Hid (MR W1.heap.size w2 [(g0, k0, L 0), (g1, k1, L 1)]) := MR.snoc M1.out hb D1.out.size hr
  have D2 : Hid (Below W1.heap.size W1 w2) := below_trans D1.out hb
  clear hr hl hb M1 D1
  go_wp2_with fail
  refine hK.out _ _ ?_ (fun hHeld => ?_)
  · exact HC8.out _ D2.out
  clear hK K
  try simp only [Act.put, List.setIfInBounds_toArray, List.set_cons_zero, List.set_cons_succ]
  refine wpAnyH_ready (rs := [8]) (by kernel_rfl) (by simp) ?_
  refine AllReadyH.cons (o := { dst := _, op := _, type := _, pos := _, after := _, guard := _ }) rfl (fun K hK => ?_) AllReadyH.nil
  go_simp
  refine (roomyInts_any w2 (F2.out w2 D2.out) (HZ.out 2 (by decide))).mono ?_
  rintro e w3 ⟨g2, k2, rfl, hr, hl, hb⟩
  have M3 : Hid (MR W1.heap.size w3 [(g0, k0, L 0), (g1, k1, L 1), (g2, k2, L 2)]) := MR.snoc M2.out hb D2.out.size hr
  have D3 : Hid (Below W1.heap.size W1 w3) := below_trans D2.out hb
  clear hr hl hb M2 D2
  go_wp2_with fail
  refine hK.out _ _ ?_ (fun hHeld => ?_)
  · exact HC8.out _ D3.out
  clear hK K
  try simp only [Act.put, List.setIfInBounds_toArray, List.set_cons_zero, List.set_cons_succ]
  refine wpAnyH_ready (rs := [11]) (by kernel_rfl) (by simp) ?_
  refine AllReadyH.cons (o := { dst := _, op := _, type := _, pos := _, after := _, guard := _ }) rfl (fun K hK => ?_) AllReadyH.nil
  go_simp
  refine (roomyInts_any w3 (F3.out w3 D3.out) (HZ.out 3 (by decide))).mono ?_
  rintro e w4 ⟨g3, k3, rfl, hr, hl, hb⟩
  have M4 : Hid (MR W1.heap.size w4 [(g0, k0, L 0), (g1, k1, L 1), (g2, k2, L 2), (g3, k3, L 3)]) := MR.snoc M3.out hb D3.out.size hr
  have D4 : Hid (Below W1.heap.size W1 w4) := below_trans D3.out hb
  clear hr hl hb M3 D3
  go_wp2_with fail
  refine hK.out _ _ ?_ (fun hHeld => ?_)
  · exact HC8.out _ D4.out
  clear hK K
  try simp only [Act.put, List.setIfInBounds_toArray, List.set_cons_zero, List.set_cons_succ]
  refine wpAnyH_ready (rs := [14]) (by kernel_rfl) (by simp) ?_
  refine AllReadyH.cons (o := { dst := _, op := _, type := _, pos := _, after := _, guard := _ }) rfl (fun K hK => ?_) AllReadyH.nil
  go_simp
  refine (roomyInts_any w4 (F4.out w4 D4.out) (HZ.out 4 (by decide))).mono ?_
  rintro e w5 ⟨g4, k4, rfl, hr, hl, hb⟩
  have M5 : Hid (MR W1.heap.size w5 [(g0, k0, L 0), (g1, k1, L 1), (g2, k2, L 2), (g3, k3, L 3), (g4, k4, L 4)]) := MR.snoc M4.out hb D4.out.size hr
  have D5 : Hid (Below W1.heap.size W1 w5) := below_trans D4.out hb
  clear hr hl hb M4 D4
  go_wp2_with fail
  refine hK.out _ _ ?_ (fun hHeld => ?_)
  · exact HC8.out _ D5.out
  clear hK K
  try simp only [Act.put, List.setIfInBounds_toArray, List.set_cons_zero, List.set_cons_succ]
  refine wpAnyH_ready (rs := [17]) (by kernel_rfl) (by simp) ?_
  refine AllReadyH.cons (o := { dst := _, op := _, type := _, pos := _, after := _, guard := _ }) rfl (fun K hK => ?_) AllReadyH.nil
  go_simp
  refine (roomyInts_any w5 (F5.out w5 D5.out) (HZ.out 5 (by decide))).mono ?_
  rintro e w6 ⟨g5, k5, rfl, hr, hl, hb⟩
  have M6 : Hid (MR W1.heap.size w6 [(g0, k0, L 0), (g1, k1, L 1), (g2, k2, L 2), (g3, k3, L 3), (g4, k4, L 4), (g5, k5, L 5)]) := MR.snoc M5.out hb D5.out.size hr
  have D6 : Hid (Below W1.heap.size W1 w6) := below_trans D5.out hb
  clear hr hl hb M5 D5
  go_wp2_with fail
  refine hK.out _ _ ?_ (fun hHeld => ?_)
  · exact HC8.out _ D6.out
  clear hK K
  try simp only [Act.put, List.setIfInBounds_toArray, List.set_cons_zero, List.set_cons_succ]
  refine wpAnyH_ready (rs := [20]) (by kernel_rfl) (by simp) ?_
  refine AllReadyH.cons (o := { dst := _, op := _, type := _, pos := _, after := _, guard := _ }) rfl (fun K hK => ?_) AllReadyH.nil
  go_simp
  refine (roomyInts_any w6 (F6.out w6 D6.out) (HZ.out 6 (by decide))).mono ?_
  rintro e w7 ⟨g6, k6, rfl, hr, hl, hb⟩
  have M7 : Hid (MR W1.heap.size w7 [(g0, k0, L 0), (g1, k1, L 1), (g2, k2, L 2), (g3, k3, L 3), (g4, k4, L 4), (g5, k5, L 5), (g6, k6, L 6)]) := MR.snoc M6.out hb D6.out.size hr
  have D7 : Hid (Below W1.heap.size W1 w7) := below_trans D6.out hb
  clear hr hl hb M6 D6
  go_wp2_with fail
  refine hK.out _ _ ?_ (fun hHeld => ?_)
  · exact HC8.out _ D7.out
  clear hK K
  try simp only [Act.put, List.setIfInBounds_toArray, List.set_cons_zero, List.set_cons_succ]
  refine wpAnyH_ready (rs := [23]) (by kernel_rfl) (by simp) ?_
  refine AllReadyH.cons (o := { dst := _, op := _, type := _, pos := _, after := _, guard := _ }) rfl (fun K hK => ?_) AllReadyH.nil
  go_simp
  refine (roomyInts_any w7 (F7.out w7 D7.out) (HZ.out 7 (by decide))).mono ?_
  rintro e w8 ⟨g7, k7, rfl, hr, hl, hb⟩
  have M8 : Hid (MR W1.heap.size w8 [(g0, k0, L 0), (g1, k1, L 1), (g2, k2, L 2), (g3, k3, L 3), (g4, k4, L 4), (g5, k5, L 5), (g6, k6, L 6), (g7, k7, L 7)]) := MR.snoc M7.out hb D7.out.size hr
  have D8 : Hid (Below W1.heap.size W1 w8) := below_trans D7.out hb
  clear hr hl hb M7 D7
  go_wp2_with fail
  refine hK.out _ _ ?_ (fun hHeld => ?_)
  · exact HC8.out _ D8.out
  clear hK K
  try simp only [Act.put, List.setIfInBounds_toArray, List.set_cons_zero, List.set_cons_succ]
  refine wpAnyH_ready (rs := [24]) (by kernel_rfl) (by simp) ?_
  refine AllReadyH.cons (o := { dst := _, op := _, type := _, pos := _, after := _, guard := _ }) rfl (fun K hK => ?_) AllReadyH.nil
  go_simp
  obtain ⟨W2, hW2⟩ : ∃ W2, W2 = w8.alloc (.cells #[.slice (some ⟨g0, 0, none⟩) (L 0).length k0, .slice (some ⟨g1, 0, none⟩) (L 1).length k1, .slice (some ⟨g2, 0, none⟩) (L 2).length k2, .slice (some ⟨g3, 0, none⟩) (L 3).length k3, .slice (some ⟨g4, 0, none⟩) (L 4).length k4, .slice (some ⟨g5, 0, none⟩) (L 5).length k5, .slice (some ⟨g6, 0, none⟩) (L 6).length k6, .slice (some ⟨g7, 0, none⟩) (L 7).length k7] 22) := ⟨_, rfl⟩
  have B2 : Hid (Below w8.heap.size w8 W2) := by rw [hW2]; exact bel_up _ _
  have R2 : Hid (W2.heap[w8.heap.size]? = some (.cells #[.slice (some ⟨g0, 0, none⟩) (L 0).length k0, .slice (some ⟨g1, 0, none⟩) (L 1).length k1, .slice (some ⟨g2, 0, none⟩) (L 2).length k2, .slice (some ⟨g3, 0, none⟩) (L 3).length k3, .slice (some ⟨g4, 0, none⟩) (L 4).length k4, .slice (some ⟨g5, 0, none⟩) (L 5).length k5, .slice (some ⟨g6, 0, none⟩) (L 6).length k6, .slice (some ⟨g7, 0, none⟩) (L 7).length k7] 22 (0, 0))) := by rw [hW2]; exact heap_new w8 _
  rw [← hW2]
  have D9 : Hid (Below W1.heap.size W1 W2) := below_trans D8.out B2.out
  have HS2 : Hid (W2.heap.size = w8.heap.size + 1) := by rw [hW2, World.size_alloc]; exact rfl
  clear hW2
  refine hK.out _ _ ?_ (fun hHeld => ?_)
  · exact HC8.out _ D9.out
  clear hK K
  try simp only [Act.put, List.setIfInBounds_toArray, List.set_cons_zero, List.set_cons_succ]
  refine wpAnyH_take (i := 25) (oi := { dst := _, op := _, type := _, pos := _, after := _, guard := _ }) (v := ?_) rfl (by kernel_rfl) (by kernel_rfl) (by kernel_rfl) (fun _ _ _ h => h) (Or.inl ⟨by rfl, ?_⟩) (by assumption) ?_
  rotate_left
  · intro W hSw
    (try dsimp only at hSw)
    go_simp
    (try with_reducible rfl)
  try simp only [Act.put, List.setIfInBounds_toArray, List.set_cons_zero, List.set_cons_succ]
  refine wpAnyH_done (by kernel_rfl) ?_ _
  refine NoPanic.normal ?_
  clear hHeld
  obtain ⟨p0, p1, p2, p3, p4, p5, p6, p7⟩ := HC8.out _ D9.out
  go_upto_region 3 with fail
  obtain ⟨gm, hgm⟩ : ∃ gm, w8.heap.size = gm := ⟨_, rfl⟩
  obtain ⟨gw, hgw⟩ : ∃ gw, W2.heap.size = gw := ⟨_, rfl⟩
  obtain ⟨W3, hW3⟩ : ∃ W3, W3 = W2.alloc (.cells #[.slice a0 (L 0).length c0, .slice a1 (L 1).length c1, .slice a2 (L 2).length c2, .slice a3 (L 3).length c3, .slice a4 (L 4).length c4, .slice a5 (L 5).length c5, .slice a6 (L 6).length c6, .slice a7 (L 7).length c7] 22) := ⟨_, rfl⟩
  have B3 : Hid (Below W2.heap.size W2 W3) := by rw [hW3]; exact bel_up _ _
  have R3 : Hid (W3.heap[gw]? = some (.cells #[.slice a0 (L 0).length c0, .slice a1 (L 1).length c1, .slice a2 (L 2).length c2, .slice a3 (L 3).length c3, .slice a4 (L 4).length c4, .slice a5 (L 5).length c5, .slice a6 (L 6).length c6, .slice a7 (L 7).length c7] 22 (0, 0))) := by rw [hW3, ← hgw]; exact heap_new W2 _
  have HG : Hid (gw = gm + 1 ∧ W3.heap.size = gw + 1 ∧ W1.heap.size ≤ gm) := by
    refine ⟨?_, ?_, ?_⟩
    · rw [← hgw, ← hgm]; exact HS2.out
    · rw [hW3, World.size_alloc, ← hgw]
    · rw [← hgm]; exact D8.out.size
  rw [← hW3, hgm, hgw]
  rw [hgm] at R2
  have R2' : Hid (W3.heap[gm]? = some (.cells #[.slice (some ⟨g0, 0, none⟩) (L 0).length k0, .slice (some ⟨g1, 0, none⟩) (L 1).length k1, .slice (some ⟨g2, 0, none⟩) (L 2).length k2, .slice (some ⟨g3, 0, none⟩) (L 3).length k3, .slice (some ⟨g4, 0, none⟩) (L 4).length k4, .slice (some ⟨g5, 0, none⟩) (L 5).length k5, .slice (some ⟨g6, 0, none⟩) (L 6).length k6, .slice (some ⟨g7, 0, none⟩) (L 7).length k7] 22 (0, 0))) := (B3.out.block gm (lt_of_heap R2.out)).trans R2.out
  have D10 : Hid (Below W1.heap.size W1 W3) := below_trans D9.out B3.out
  have M10 : Hid (MR W1.heap.size W3 [(g0, k0, L 0), (g1, k1, L 1), (g2, k2, L 2), (g3, k3, L 3), (g4, k4, L 4), (g5, k5, L 5), (g6, k6, L 6), (g7, k7, L 7)]) := (M8.out.up B2.out).up B3.out
  clear p0 p1 p2 p3 p4 p5 p6 p7 hgm hgw hW3 B2 B3 R2 HS2 D9 D8 M8
  obtain ⟨WD, hWD⟩ : ∃ WD, W3.drew = WD := ⟨_, rfl⟩
  have BD : Hid (Below W3.heap.size W3 WD) := by rw [← hWD]; exact Below.drew (Below.refl _ _)
  have HSD : Hid (WD.heap.size = gw + 1) := by rw [← hWD]; exact HG.out.2.1
  have HCM : Hid (∀ W : World, W.heap[gm]? = some (.cells #[.slice (some ⟨g0, 0, none⟩) (L 0).length k0, .slice (some ⟨g1, 0, none⟩) (L 1).length k1, .slice (some ⟨g2, 0, none⟩) (L 2).length k2, .slice (some ⟨g3, 0, none⟩) (L 3).length k3, .slice (some ⟨g4, 0, none⟩) (L 4).length k4, .slice (some ⟨g5, 0, none⟩) (L 5).length k5, .slice (some ⟨g6, 0, none⟩) (L 6).length k6, .slice (some ⟨g7, 0, none⟩) (L 7).length k7] 22 (0, 0)) → (W.cell? ⟨gm, 0, none⟩ = some (.slice (some ⟨g0, 0, none⟩) (L 0).length k0) ∧ W.cell? ⟨gm, 1, none⟩ = some (.slice (some ⟨g1, 0, none⟩) (L 1).length k1) ∧ W.cell? ⟨gm, 2, none⟩ = some (.slice (some ⟨g2, 0, none⟩) (L 2).length k2) ∧ W.cell? ⟨gm, 3, none⟩ = some (.slice (some ⟨g3, 0, none⟩) (L 3).length k3) ∧ W.cell? ⟨gm, 4, none⟩ = some (.slice (some ⟨g4, 0, none⟩) (L 4).length k4) ∧ W.cell? ⟨gm, 5, none⟩ = some (.slice (some ⟨g5, 0, none⟩) (L 5).length k5) ∧ W.cell? ⟨gm, 6, none⟩ = some (.slice (some ⟨g6, 0, none⟩) (L 6).length k6) ∧ W.cell? ⟨gm, 7, none⟩ = some (.slice (some ⟨g7, 0, none⟩) (L 7).length k7))) := fun W hW => ⟨rcell hW 0 _ rfl, rcell hW 1 _ rfl, rcell hW 2 _ rfl, rcell hW 3 _ rfl, rcell hW 4 _ rfl, rcell hW 5 _ rfl, rcell hW 6 _ rfl, rcell hW 7 _ rfl⟩
  refine wp_region_noPanic ?_
  refine wp_region_held_drew (S := fun W => W.cell? ⟨gm, 0, none⟩ = some (.slice (some ⟨g0, 0, none⟩) (L 0).length k0) ∧ W.cell? ⟨gm, 1, none⟩ = some (.slice (some ⟨g1, 0, none⟩) (L 1).length k1) ∧ W.cell? ⟨gm, 2, none⟩ = some (.slice (some ⟨g2, 0, none⟩) (L 2).length k2) ∧ W.cell? ⟨gm, 3, none⟩ = some (.slice (some ⟨g3, 0, none⟩) (L 3).length k3) ∧ W.cell? ⟨gm, 4, none⟩ = some (.slice (some ⟨g4, 0, none⟩) (L 4).length k4) ∧ W.cell? ⟨gm, 5, none⟩ = some (.slice (some ⟨g5, 0, none⟩) (L 5).length k5) ∧ W.cell? ⟨gm, 6, none⟩ = some (.slice (some ⟨g6, 0, none⟩) (L 6).length k6) ∧ W.cell? ⟨gm, 7, none⟩ = some (.slice (some ⟨g7, 0, none⟩) (L 7).length k7)) (by kernel_rfl) (by rw [hWD]; exact HCM.out _ ((BD.out.block gm (lt_of_heap R2'.out)).trans R2'.out)) (fun hHeld => ?_)
  rw [hWD] at hHeld ⊢
  clear hWD
  refine wpAnyH_take (i := 0) (oi := { dst := _, op := _, type := _, pos := _, after := _, guard := _ }) (v := ?_) rfl (by kernel_rfl) (by kernel_rfl) (by kernel_rfl) (fun _ _ _ h => h) (Or.inl ⟨by rfl, ?_⟩) (by assumption) ?_
  rotate_left
  · intro W hSw
    (try dsimp only at hSw)
    go_simp
    (try with_reducible rfl)
  try simp only [Act.put, List.setIfInBounds_toArray, List.set_cons_zero, List.set_cons_succ]
  refine wpAnyH_take (i := 1) (oi := { dst := _, op := _, type := _, pos := _, after := _, guard := _ }) (v := ?_) rfl (by kernel_rfl) (by kernel_rfl) (by kernel_rfl) (fun _ _ _ h => h) (Or.inl ⟨by rfl, ?_⟩) (by assumption) ?_
  rotate_left
  · intro W hSw
    (try dsimp only at hSw)
    go_simp
    (try with_reducible rfl)
  try simp only [Act.put, List.setIfInBounds_toArray, List.set_cons_zero, List.set_cons_succ]
  refine wpAnyH_take (i := 2) (oi := { dst := _, op := _, type := _, pos := _, after := _, guard := _ }) (v := ?_) rfl (by kernel_rfl) (by kernel_rfl) (by kernel_rfl) (fun _ _ _ h => h) (Or.inl ⟨by rfl, ?_⟩) (by assumption) ?_
  rotate_left
  · intro W hSw
    (try dsimp only at hSw)
    go_simp
    (try with_reducible rfl)
  try simp only [Act.put, List.setIfInBounds_toArray, List.set_cons_zero, List.set_cons_succ]
  refine wpAnyH_take (i := 3) (oi := { dst := _, op := _, type := _, pos := _, after := _, guard := _ }) (v := ?_) rfl (by kernel_rfl) (by kernel_rfl) (by kernel_rfl) (fun _ _ _ h => h) (Or.inl ⟨by rfl, ?_⟩) (by assumption) ?_
  rotate_left
  · intro W hSw
    (try dsimp only at hSw)
    go_simp
    (try with_reducible rfl)
  try simp only [Act.put, List.setIfInBounds_toArray, List.set_cons_zero, List.set_cons_succ]
  refine wpAnyH_take (i := 4) (oi := { dst := _, op := _, type := _, pos := _, after := _, guard := _ }) (v := ?_) rfl (by kernel_rfl) (by kernel_rfl) (by kernel_rfl) (fun _ _ _ h => h) (Or.inl ⟨by rfl, ?_⟩) (by assumption) ?_
  rotate_left
  · intro W hSw
    (try dsimp only at hSw)
    go_simp
    (try with_reducible rfl)
  try simp only [Act.put, List.setIfInBounds_toArray, List.set_cons_zero, List.set_cons_succ]
  refine wpAnyH_take (i := 5) (oi := { dst := _, op := _, type := _, pos := _, after := _, guard := _ }) (v := ?_) rfl (by kernel_rfl) (by kernel_rfl) (by kernel_rfl) (fun _ _ _ h => h) (Or.inl ⟨by rfl, ?_⟩) (by assumption) ?_
  rotate_left
  · intro W hSw
    (try dsimp only at hSw)
    go_simp
    (try with_reducible rfl)
  try simp only [Act.put, List.setIfInBounds_toArray, List.set_cons_zero, List.set_cons_succ]
  refine wpAnyH_take (i := 6) (oi := { dst := _, op := _, type := _, pos := _, after := _, guard := _ }) (v := ?_) rfl (by kernel_rfl) (by kernel_rfl) (by kernel_rfl) (fun _ _ _ h => h) (Or.inl ⟨by rfl, ?_⟩) (by assumption) ?_
  rotate_left
  · intro W hSw
    (try dsimp only at hSw)
    go_simp
    (try with_reducible rfl)
  try simp only [Act.put, List.setIfInBounds_toArray, List.set_cons_zero, List.set_cons_succ]
  refine wpAnyH_take (i := 7) (oi := { dst := _, op := _, type := _, pos := _, after := _, guard := _ }) (v := ?_) rfl (by kernel_rfl) (by kernel_rfl) (by kernel_rfl) (fun _ _ _ h => h) (Or.inl ⟨by rfl, ?_⟩) (by assumption) ?_
  rotate_left
  · intro W hSw
    (try dsimp only at hSw)
    go_simp
    (try with_reducible rfl)
  try simp only [Act.put, List.setIfInBounds_toArray, List.set_cons_zero, List.set_cons_succ]
  refine wpAnyH_take (i := 8) (oi := { dst := _, op := _, type := _, pos := _, after := _, guard := _ }) (v := ?_) rfl (by kernel_rfl) (by kernel_rfl) (by kernel_rfl) (fun _ _ _ h => h) (Or.inl ⟨by rfl, ?_⟩) (by assumption) ?_
  rotate_left
  · intro W hSw
    (try dsimp only at hSw)
    go_simp
    (try with_reducible rfl)
  try simp only [Act.put, List.setIfInBounds_toArray, List.set_cons_zero, List.set_cons_succ]
  refine wpAnyH_take (i := 9) (oi := { dst := _, op := _, type := _, pos := _, after := _, guard := _ }) (v := ?_) rfl (by kernel_rfl) (by kernel_rfl) (by kernel_rfl) (fun _ _ _ h => h) (Or.inl ⟨by rfl, ?_⟩) (by assumption) ?_
  rotate_left
  · intro W hSw
    (try dsimp only at hSw)
    go_simp
    (try with_reducible rfl)
  try simp only [Act.put, List.setIfInBounds_toArray, List.set_cons_zero, List.set_cons_succ]
  refine wpAnyH_take (i := 10) (oi := { dst := _, op := _, type := _, pos := _, after := _, guard := _ }) (v := ?_) rfl (by kernel_rfl) (by kernel_rfl) (by kernel_rfl) (fun _ _ _ h => h) (Or.inl ⟨by rfl, ?_⟩) (by assumption) ?_
  rotate_left
  · intro W hSw
    (try dsimp only at hSw)
    go_simp
    (try with_reducible rfl)
  try simp only [Act.put, List.setIfInBounds_toArray, List.set_cons_zero, List.set_cons_succ]
  refine wpAnyH_take (i := 11) (oi := { dst := _, op := _, type := _, pos := _, after := _, guard := _ }) (v := ?_) rfl (by kernel_rfl) (by kernel_rfl) (by kernel_rfl) (fun _ _ _ h => h) (Or.inl ⟨by rfl, ?_⟩) (by assumption) ?_
  rotate_left
  · intro W hSw
    (try dsimp only at hSw)
    go_simp
    (try with_reducible rfl)
  try simp only [Act.put, List.setIfInBounds_toArray, List.set_cons_zero, List.set_cons_succ]
  refine wpAnyH_take (i := 12) (oi := { dst := _, op := _, type := _, pos := _, after := _, guard := _ }) (v := ?_) rfl (by kernel_rfl) (by kernel_rfl) (by kernel_rfl) (fun _ _ _ h => h) (Or.inl ⟨by rfl, ?_⟩) (by assumption) ?_
  rotate_left
  · intro W hSw
    (try dsimp only at hSw)
    go_simp
    (try with_reducible rfl)
  try simp only [Act.put, List.setIfInBounds_toArray, List.set_cons_zero, List.set_cons_succ]
  refine wpAnyH_take (i := 13) (oi := { dst := _, op := _, type := _, pos := _, after := _, guard := _ }) (v := ?_) rfl (by kernel_rfl) (by kernel_rfl) (by kernel_rfl) (fun _ _ _ h => h) (Or.inl ⟨by rfl, ?_⟩) (by assumption) ?_
  rotate_left
  · intro W hSw
    (try dsimp only at hSw)
    go_simp
    (try with_reducible rfl)
  try simp only [Act.put, List.setIfInBounds_toArray, List.set_cons_zero, List.set_cons_succ]
  refine wpAnyH_take (i := 14) (oi := { dst := _, op := _, type := _, pos := _, after := _, guard := _ }) (v := ?_) rfl (by kernel_rfl) (by kernel_rfl) (by kernel_rfl) (fun _ _ _ h => h) (Or.inl ⟨by rfl, ?_⟩) (by assumption) ?_
  rotate_left
  · intro W hSw
    (try dsimp only at hSw)
    go_simp
    (try with_reducible rfl)
  try simp only [Act.put, List.setIfInBounds_toArray, List.set_cons_zero, List.set_cons_succ]
  refine wpAnyH_take (i := 15) (oi := { dst := _, op := _, type := _, pos := _, after := _, guard := _ }) (v := ?_) rfl (by kernel_rfl) (by kernel_rfl) (by kernel_rfl) (fun _ _ _ h => h) (Or.inl ⟨by rfl, ?_⟩) (by assumption) ?_
  rotate_left
  · intro W hSw
    (try dsimp only at hSw)
    go_simp
    (try with_reducible rfl)
  try simp only [Act.put, List.setIfInBounds_toArray, List.set_cons_zero, List.set_cons_succ]
  refine wpAnyH_take (i := 16) (oi := { dst := _, op := _, type := _, pos := _, after := _, guard := _ }) (v := ?_) rfl (by kernel_rfl) (by kernel_rfl) (by kernel_rfl) (fun _ _ _ h => h) (Or.inl ⟨by rfl, ?_⟩) (by assumption) ?_
  rotate_left
  · intro W hSw
    (try dsimp only at hSw)
    go_simp
    (try with_reducible rfl)
  try simp only [Act.put, List.setIfInBounds_toArray, List.set_cons_zero, List.set_cons_succ]
  refine wpAnyH_take (i := 17) (oi := { dst := _, op := _, type := _, pos := _, after := _, guard := _ }) (v := ?_) rfl (by kernel_rfl) (by kernel_rfl) (by kernel_rfl) (fun _ _ _ h => h) (Or.inl ⟨by rfl, ?_⟩) (by assumption) ?_
  rotate_left
  · intro W hSw
    (try dsimp only at hSw)
    go_simp
    (try with_reducible rfl)
  try simp only [Act.put, List.setIfInBounds_toArray, List.set_cons_zero, List.set_cons_succ]
  refine wpAnyH_take (i := 18) (oi := { dst := _, op := _, type := _, pos := _, after := _, guard := _ }) (v := ?_) rfl (by kernel_rfl) (by kernel_rfl) (by kernel_rfl) (fun _ _ _ h => h) (Or.inl ⟨by rfl, ?_⟩) (by assumption) ?_
  rotate_left
  · intro W hSw
    (try dsimp only at hSw)
    go_simp
    (try with_reducible rfl)
  try simp only [Act.put, List.setIfInBounds_toArray, List.set_cons_zero, List.set_cons_succ]
  refine wpAnyH_take (i := 19) (oi := { dst := _, op := _, type := _, pos := _, after := _, guard := _ }) (v := ?_) rfl (by kernel_rfl) (by kernel_rfl) (by kernel_rfl) (fun _ _ _ h => h) (Or.inl ⟨by rfl, ?_⟩) (by assumption) ?_
  rotate_left
  · intro W hSw
    (try dsimp only at hSw)
    go_simp
    (try with_reducible rfl)
  try simp only [Act.put, List.setIfInBounds_toArray, List.set_cons_zero, List.set_cons_succ]
  refine wpAnyH_take (i := 20) (oi := { dst := _, op := _, type := _, pos := _, after := _, guard := _ }) (v := ?_) rfl (by kernel_rfl) (by kernel_rfl) (by kernel_rfl) (fun _ _ _ h => h) (Or.inl ⟨by rfl, ?_⟩) (by assumption) ?_
  rotate_left
  · intro W hSw
    (try dsimp only at hSw)
    go_simp
    (try with_reducible rfl)
  try simp only [Act.put, List.setIfInBounds_toArray, List.set_cons_zero, List.set_cons_succ]
  refine wpAnyH_take (i := 21) (oi := { dst := _, op := _, type := _, pos := _, after := _, guard := _ }) (v := ?_) rfl (by kernel_rfl) (by kernel_rfl) (by kernel_rfl) (fun _ _ _ h => h) (Or.inl ⟨by rfl, ?_⟩) (by assumption) ?_
  rotate_left
  · intro W hSw
    (try dsimp only at hSw)
    go_simp
    (try with_reducible rfl)
  try simp only [Act.put, List.setIfInBounds_toArray, List.set_cons_zero, List.set_cons_succ]
  refine wpAnyH_take (i := 22) (oi := { dst := _, op := _, type := _, pos := _, after := _, guard := _ }) (v := ?_) rfl (by kernel_rfl) (by kernel_rfl) (by kernel_rfl) (fun _ _ _ h => h) (Or.inl ⟨by rfl, ?_⟩) (by assumption) ?_
  rotate_left
  · intro W hSw
    (try dsimp only at hSw)
    go_simp
    (try with_reducible rfl)
  try simp only [Act.put, List.setIfInBounds_toArray, List.set_cons_zero, List.set_cons_succ]
  refine wpAnyH_take (i := 23) (oi := { dst := _, op := _, type := _, pos := _, after := _, guard := _ }) (v := ?_) rfl (by kernel_rfl) (by kernel_rfl) (by kernel_rfl) (fun _ _ _ h => h) (Or.inl ⟨by rfl, ?_⟩) (by assumption) ?_
  rotate_left
  · intro W hSw
    (try dsimp only at hSw)
    go_simp
    (try with_reducible rfl)
  try simp only [Act.put, List.setIfInBounds_toArray, List.set_cons_zero, List.set_cons_succ]
  refine wpAnyH_take (i := 24) (oi := { dst := _, op := _, type := _, pos := _, after := _, guard := _ }) (v := ?_) rfl (by kernel_rfl) (by kernel_rfl) (by kernel_rfl) (fun _ _ _ h => h) (Or.inl ⟨by rfl, ?_⟩) (by assumption) ?_
  rotate_left
  · intro W hSw
    (try dsimp only at hSw)
    go_simp
    (try with_reducible rfl)
  try simp only [Act.put, List.setIfInBounds_toArray, List.set_cons_zero, List.set_cons_succ]
  refine wpAnyH_ready (rs := [25]) (by kernel_rfl) (by simp) ?_
  refine AllReadyH.cons (o := { dst := _, op := _, type := _, pos := _, after := _, guard := _ }) rfl (fun K hK => ?_) AllReadyH.nil
  go_simp
  obtain ⟨T, hT⟩ : ∃ T, WD.heap.size = T := ⟨_, rfl⟩
  obtain ⟨WA, hWA⟩ : ∃ WA, WA = WD.alloc (.cells #[.slice none 0 0, .slice none 0 0, .slice none 0 0, .slice none 0 0, .slice none 0 0, .slice none 0 0, .slice none 0 0, .slice none 0 0, .slice none 0 0] 25) := ⟨_, rfl⟩
  have RA : Hid (WA.heap[T]? = some (.cells #[.slice none 0 0, .slice none 0 0, .slice none 0 0, .slice none 0 0, .slice none 0 0, .slice none 0 0, .slice none 0 0, .slice none 0 0, .slice none 0 0] 25 (0, 0))) := by rw [hWA, ← hT]; exact heap_new WD _
  have BA : Hid (Below WD.heap.size WD WA) := by rw [hWA]; exact bel_up _ _
  have HT : Hid (T = gw + 1) := by rw [← hT]; exact HSD.out
  have BW : Hid (Below W3.heap.size W3 WA) := below_trans BD.out BA.out
  rw [← hWA, hT]
  clear hT hWA
  refine hK.out _ _ ?_ (fun hHeld => ?_)
  · exact HCM.out _ ((BW.out.block gm (lt_of_heap R2'.out)).trans R2'.out)
  clear hK K
  try simp only [Act.put, List.setIfInBounds_toArray, List.set_cons_zero, List.set_cons_succ]
  have t0 := rcell RA.out 0 (.slice none 0 0) rfl
  have t1 := rcell RA.out 1 (.slice none 0 0) rfl
  have t2 := rcell RA.out 2 (.slice none 0 0) rfl
  have t3 := rcell RA.out 3 (.slice none 0 0) rfl
  have t4 := rcell RA.out 4 (.slice none 0 0) rfl
  have t5 := rcell RA.out 5 (.slice none 0 0) rfl
  have t6 := rcell RA.out 6 (.slice none 0 0) rfl
  have t7 := rcell RA.out 7 (.slice none 0 0) rfl
  have t8 := rcell RA.out 8 (.slice none 0 0) rfl
  have fz : ∀ q, WA.frozen? ⟨T, q, none⟩ = false := fun q => Lib.frozen_of_heap RA.out q
  refine wpAnyH_ready (rs := [26]) (by kernel_rfl) (by simp) ?_
  refine AllReadyH.cons (o := { dst := _, op := _, type := _, pos := _, after := _, guard := _ }) rfl (fun K hK => ?_) AllReadyH.nil
  go_simp
  obtain ⟨W5, hW5⟩ : ∃ W5, W5 = (((((((((WA).setCell ⟨T, 0, none⟩ (.slice (some ⟨g0, 0, none⟩) (L 0).length k0)).setCell ⟨T, 1, none⟩ (.slice (some ⟨g1, 0, none⟩) (L 1).length k1)).setCell ⟨T, 2, none⟩ (.slice (some ⟨g2, 0, none⟩) (L 2).length k2)).setCell ⟨T, 3, none⟩ (.slice (some ⟨g3, 0, none⟩) (L 3).length k3)).setCell ⟨T, 4, none⟩ (.slice (some ⟨g4, 0, none⟩) (L 4).length k4)).setCell ⟨T, 5, none⟩ (.slice (some ⟨g5, 0, none⟩) (L 5).length k5)).setCell ⟨T, 6, none⟩ (.slice (some ⟨g6, 0, none⟩) (L 6).length k6)).setCell ⟨T, 7, none⟩ (.slice (some ⟨g7, 0, none⟩) (L 7).length k7)).setCell ⟨T, 8, none⟩ (.slice none 0 0) := ⟨_, rfl⟩
  have hN : W5 = nine WA T (un (.slice (some ⟨g0, 0, none⟩) (L 0).length k0) (.slice (some ⟨g1, 0, none⟩) (L 1).length k1) (.slice (some ⟨g2, 0, none⟩) (L 2).length k2) (.slice (some ⟨g3, 0, none⟩) (L 3).length k3) (.slice (some ⟨g4, 0, none⟩) (L 4).length k4) (.slice (some ⟨g5, 0, none⟩) (L 5).length k5) (.slice (some ⟨g6, 0, none⟩) (L 6).length k6) (.slice (some ⟨g7, 0, none⟩) (L 7).length k7)) := hW5
  rw [← hW5]
  have R5 : Hid (W5.heap[gm]? = some (.cells #[.slice (some ⟨g0, 0, none⟩) (L 0).length k0, .slice (some ⟨g1, 0, none⟩) (L 1).length k1, .slice (some ⟨g2, 0, none⟩) (L 2).length k2, .slice (some ⟨g3, 0, none⟩) (L 3).length k3, .slice (some ⟨g4, 0, none⟩) (L 4).length k4, .slice (some ⟨g5, 0, none⟩) (L 5).length k5, .slice (some ⟨g6, 0, none⟩) (L 6).length k6, .slice (some ⟨g7, 0, none⟩) (L 7).length k7] 22 (0, 0))) := by rw [hN, nine_far (by have := HG.out.1; have := HT.out; omega)]; exact (BW.out.block gm (lt_of_heap R2'.out)).trans R2'.out
  have Q5 : Hid (W5.heap[gw]? = some (.cells #[.slice a0 (L 0).length c0, .slice a1 (L 1).length c1, .slice a2 (L 2).length c2, .slice a3 (L 3).length c3, .slice a4 (L 4).length c4, .slice a5 (L 5).length c5, .slice a6 (L 6).length c6, .slice a7 (L 7).length c7] 22 (0, 0))) := by rw [hN, nine_far (by have := HT.out; omega)]; exact (BW.out.block gw (lt_of_heap R3.out)).trans R3.out
  obtain ⟨u, hu⟩ : ∃ u, u = un (.slice (some ⟨g0, 0, none⟩) (L 0).length k0) (.slice (some ⟨g1, 0, none⟩) (L 1).length k1) (.slice (some ⟨g2, 0, none⟩) (L 2).length k2) (.slice (some ⟨g3, 0, none⟩) (L 3).length k3) (.slice (some ⟨g4, 0, none⟩) (L 4).length k4) (.slice (some ⟨g5, 0, none⟩) (L 5).length k5) (.slice (some ⟨g6, 0, none⟩) (L 6).length k6) (.slice (some ⟨g7, 0, none⟩) (L 7).length k7) := ⟨_, rfl⟩
  have T5 : Hid (W5.heap[T]? = some (.cells #[u 0, u 1, u 2, u 3, u 4, u 5, u 6, u 7, .slice none 0 0] 25 (0, 0))) := by rw [hN, ← hu]; have := nine_blk (u := u) RA.out; rw [show u 8 = .slice none 0 0 from by rw [hu]; rfl] at this; exact this
  have M5 : Hid (MR W1.heap.size W5 [(g0, k0, L 0), (g1, k1, L 1), (g2, k2, L 2), (g3, k3, L 3), (g4, k4, L 4), (g5, k5, L 5), (g6, k6, L 6), (g7, k7, L 7)]) := by rw [hN]; exact (M10.out.up BW.out).nine RA.out
  have BX : Hid (Below W1.heap.size W1 W5) := by rw [hN]; exact nine_below (below_trans D10.out BW.out) (by have := HT.out; have := HG.out.1; have := D10.out.size; have := HG.out.2.1; omega)
  have HU : Hid (u = un (.slice (some ⟨g0, 0, none⟩) (L 0).length k0) (.slice (some ⟨g1, 0, none⟩) (L 1).length k1) (.slice (some ⟨g2, 0, none⟩) (L 2).length k2) (.slice (some ⟨g3, 0, none⟩) (L 3).length k3) (.slice (some ⟨g4, 0, none⟩) (L 4).length k4) (.slice (some ⟨g5, 0, none⟩) (L 5).length k5) (.slice (some ⟨g6, 0, none⟩) (L 6).length k6) (.slice (some ⟨g7, 0, none⟩) (L 7).length k7)) := hu
  clear hu hW5 hN t0 t1 t2 t3 t4 t5 t6 t7 t8 fz M10 BA BD R2' R3 RA D10
  refine hK.out _ _ ?_ (fun hHeld => ?_)
  · exact HCM.out _ R5.out
  clear hK K
  try simp only [Act.put, List.setIfInBounds_toArray, List.set_cons_zero, List.set_cons_succ]
  refine wpAnyH_done (by kernel_rfl) ?_ _
  refine NoPanic.normal ?_
  clear hHeld
  have KZ : Hid (Kz W1 W5 [(g0, k0, L 0), (g1, k1, L 1), (g2, k2, L 2), (g3, k3, L 3), (g4, k4, L 4), (g5, k5, L 5), (g6, k6, L 6), (g7, k7, L 7)] ([(g0, k0, L 0), (g1, k1, L 1), (g2, k2, L 2), (g3, k3, L 3), (g4, k4, L 4), (g5, k5, L 5), (g6, k6, L 6), (g7, k7, L 7)].map mv) [.slice a0 (L 0).length c0, .slice a1 (L 1).length c1, .slice a2 (L 2).length c2, .slice a3 (L 3).length c3, .slice a4 (L 4).length c4, .slice a5 (L 5).length c5, .slice a6 (L 6).length c6, .slice a7 (L 7).length c7] [] gm 8 8 gw 8 8 (.slice none 0 0) 0 T u) := by
    refine ⟨M5.out, ?_, ?_, World.ownsRow_nil _ _ _ _, T5.out, by have := HG.out.1; omega, ⟨fun e => (by cases e), fun e => (by cases e)⟩, by have := HG.out; have := HT.out; omega, BX.out⟩
    · exact own_new R5.out HG.out.2.2 rfl (by decide)
    · exact own_new Q5.out (by have := HG.out; omega) rfl (by decide)
  have HUM : Hid (∀ k, k < 8 → ([(g0, k0, L 0), (g1, k1, L 1), (g2, k2, L 2), (g3, k3, L 3), (g4, k4, L 4), (g5, k5, L 5), (g6, k6, L 6), (g7, k7, L 7)].map mv)[k]? = some (u k)) := fun k hk => by
    rw [HU.out]
    rcases k with _ | _ | _ | _ | _ | _ | _ | _ | k
    all_goals first | rfl | omega
  have HVR : Hid (∀ (j : Nat) (x : Value) (l : List Int), ([.slice a0 (L 0).length c0, .slice a1 (L 1).length c1, .slice a2 (L 2).length c2, .slice a3 (L 3).length c3, .slice a4 (L 4).length c4, .slice a5 (L 5).length c5, .slice a6 (L 6).length c6, .slice a7 (L 7).length c7] ++ vs)[j]? = some x → ([L 0, L 1, L 2, L 3, L 4, L 5, L 6, L 7] ++ N)[j]? = some l → Rw W1 x l.length (iC l)) := fun j x l hx hl => by
    rcases j with _ | _ | _ | _ | _ | _ | _ | _ | j
    · cases hx; cases hl; exact F0.out _ (Below.refl _ _)
    · cases hx; cases hl; exact F1.out _ (Below.refl _ _)
    · cases hx; cases hl; exact F2.out _ (Below.refl _ _)
    · cases hx; cases hl; exact F3.out _ (Below.refl _ _)
    · cases hx; cases hl; exact F4.out _ (Below.refl _ _)
    · cases hx; cases hl; exact F5.out _ (Below.refl _ _)
    · cases hx; cases hl; exact F6.out _ (Below.refl _ _)
    · cases hx; cases hl; exact F7.out _ (Below.refl _ _)
    · exact S1.out.e j x l hx hl
  obtain ⟨V8, hV8⟩ : ∃ V8 : List Value, V8 = [.slice a0 (L 0).length c0, .slice a1 (L 1).length c1, .slice a2 (L 2).length c2, .slice a3 (L 3).length c3, .slice a4 (L 4).length c4, .slice a5 (L 5).length c5, .slice a6 (L 6).length c6, .slice a7 (L 7).length c7] := ⟨_, rfl⟩
  obtain ⟨M8, hM8⟩ : ∃ M8 : List Mb, M8 = [(g0, k0, L 0), (g1, k1, L 1), (g2, k2, L 2), (g3, k3, L 3), (g4, k4, L 4), (g5, k5, L 5), (g6, k6, L 6), (g7, k7, L 7)] := ⟨_, rfl⟩
  obtain ⟨Ls, hLs⟩ : ∃ Ls : List (List Int), Ls = [L 0, L 1, L 2, L 3, L 4, L 5, L 6, L 7] := ⟨_, rfl⟩
  have HL8 : Hid (V8.length = 8 ∧ M8.length = 8 ∧ Ls.length = 8 ∧ M8.map (·.2.2) = Ls ∧ vs.length = N.length) := ⟨by rw [hV8]; rfl, by rw [hM8]; rfl, by rw [hLs]; rfl, by rw [hM8, hLs]; rfl, S1.out.len⟩
  rw [← hV8] at KZ HVR
  rw [← hM8] at KZ HUM
  rw [← hLs] at HVR
  have HF : Hid (∀ W, Below W1.heap.size W1 W → Rw W (.slice an N.length cn) N.length vs) := fun W hW => by rw [← HVN.out]; exact S1.out.n.up hW
  have HFe : Hid (∀ W, Below W1.heap.size W1 W → ∀ (j : Nat) (x : Value) (l : List Int), vs[j]? = some x → N[j]? = some l → Rw W x l.length (iC l)) := fun W hW j x l hx hl => (S1.out.e j x l hx hl).up hW
  have HPS : Hid (∀ W, Below W1.heap.size W1 W → Calls Try.prog 6 #[.agg #[.slice a0 (L 0).length c0, .slice a1 (L 1).length c1, .slice a2 (L 2).length c2, .slice a3 (L 3).length c3, .slice a4 (L 4).length c4, .slice a5 (L 5).length c5, .slice a6 (L 6).length c6, .slice a7 (L 7).length c7, .slice an N.length cn], flv cd p i s] W fun e w' => e = .returned (.int .i64 (pl L N p i s)) ∧ Below W.heap.size W w') := fun W hW => by rw [← HV.out]; exact rplace_any W (S1.out.up hW) cd p i s
  have HLsk : Hid (∀ k, k < 8 → Ls.getD k [] = L k) := fun k hk => by
    rw [hLs]
    rcases k with _ | _ | _ | _ | _ | _ | _ | _ | k
    all_goals first | rfl | omega
  have HZ8 : Hid (∀ k, k < 8 → (Ls.getD k []).length * 8 + 16 ≤ 140737488355328) := fun k hk => by rw [HLsk.out k hk]; exact HZ.out k hk
  clear hV8 hM8 hLs M5 R5 Q5 T5 BW HCM HSD F0 F1 F2 F3 F4 F5 F6 F7 HZ HU HVN HV S1 HG HT HLE
  obtain ⟨i22, hi22, hx0, hx1, hx2⟩ := info_parts info22
  have HI22 : Hid (Try.prog.info? 22 = some i22 ∧ i22.zero = some (.slice none 0 0) ∧ i22.size = 1 ∧ i22.bytes = 24) := ⟨hi22, hx0, hx1, hx2⟩
  clear hi22 hx0 hx1 hx2
  go_upto_region 5 with fail
  go_loopg [5, 6, 8] N.length (fun gl v5 v6 v8 wr => ∃ j : Nat, v8 = .int .i64 (j : Int) ∧ ∃ gm cm gw cw nn : Nat, v5 = .slice (some ⟨gm, 0, none⟩) nn cm ∧ v6 = .slice (some ⟨gw, 0, none⟩) nn cw ∧ ∃ (R : List Mb) (vn' : Value), Hid (nn = 8 + j) ∧ Hid (Kz W1 wr (M8 ++ R) ((M8 ++ R).map mv) (V8 ++ vs.take j) (R.map mv) gm cm nn gw cw nn vn' j T u) ∧ Hid (R.length = j ∧ R.map (·.2.2) = N.take j) ∧ Hid (j ≤ N.length ∧ gl = N.length - j))
  case atStart =>
    have hK0 : Kz W1 W5 (M8 ++ []) ((M8 ++ []).map mv) (V8 ++ vs.take 0) (([] : List Mb).map mv) gm 8 8 gw 8 8 (.slice none 0 0) 0 T u := by rw [List.append_nil, List.take_zero, List.append_nil]; exact KZ.out
    have HK0 : Hid _ := hK0
    exact ⟨0, rfl, gm, 8, gw, 8, 8, rfl, rfl, [], .slice none 0 0, rfl, HK0, ⟨rfl, rfl⟩, ⟨Nat.zero_le _, rfl⟩⟩
  case round =>
    clear KZ BX
    obtain ⟨j, rfl, gm, cm, gw, cw, nn, rfl, rfl, R, vn', HNN, K1, HR, HI⟩ := hrel
    by_cases hj : j < N.length
    · have hjv : j < vs.length := by have := HL8.out; omega
      have hx : vs[j]? = some vs[j] := List.getElem?_eq_getElem hjv
      have hl : N[j]? = some N[j] := List.getElem?_eq_getElem hj
      have htk : vs.take j ++ [vs[j]] = vs.take (j + 1) := List.take_append_getElem hjv
      have htn : N.take j ++ [N[j]] = N.take (j + 1) := List.take_append_getElem hj
      have hzl := HZN.out N[j] (List.getElem_mem hj)
      obtain ⟨gn, on, capn, heq, hc⟩ := (HF.out W1 (Below.refl _ _)).slot j _ (by omega) hx
      obtain ⟨rfl, -, rfl⟩ := Value.slice.inj heq
      have HE : Hid (∀ W, Below W1.heap.size W1 W → Rw W vs[j] N[j].length (iC N[j])) := fun W hW => HFe.out W hW j _ _ hx hl
      obtain ⟨x, hxx⟩ : ∃ x, vs[j] = x := ⟨_, rfl⟩
      obtain ⟨l, hll⟩ : ∃ l, N[j] = l := ⟨_, rfl⟩
      rw [hxx] at hc HE htk
      rw [hll] at HE htn hzl
      obtain ⟨ax, cx, rfl⟩ := (HE.out W1 (Below.refl _ _)).form
      have HCJ : Hid (∀ W, Below W1.heap.size W1 W → W.cell? ⟨gn, on + j, none⟩ = some (.slice ax l.length cx)) := fun W hW => below_cell hW hc
      have HTK : Hid _ := htk
      have HTN : Hid _ := htn
      have HZL : Hid _ := hzl
      clear hx hl htk htn hzl heq hxx hll hc hjv HF HFe HPS HVR HUM HLsk
      obtain ⟨c8, -⟩ := HCX.out _ K1.out.bel
      have cj := HCJ.out _ K1.out.bel
      have e1 : decide ((j : Int) < (N.length : Int)) = true := by rw [decide_eq_true_eq]; omega
      have e2 : decide (j < N.length) = true := by rw [decide_eq_true_eq]; omega
      have e5 : (j : Int) < (N.length : Int) := by omega
      have hwr := w64n j (by have := HZn.out; omega)
      have HJ : Hid (j < N.length) := hj
      obtain ⟨an', cn', rfl⟩ := row_shape K1.out.s
      go_upto_region 8 with (first | (go_at_call 4; refine (roomyInts_any _ (HE.out _ K1.out.bel) HZL.out).mono ?_; rintro e w2 ⟨g, k, rfl, hr, hl, hb⟩; have K2 : Hid _ := K1.out.snoc hb hr; clear hr hl hb) | (at_builtin; refine wpList_append_lies _ rfl _ _ 23 rfl W1.heap.size 22 i22 (.slice none 0 0) 1 24 Try.underlying23 HI22.out.1 HI22.out.2.1 HI22.out.2.2.1 HI22.out.2.2.2 rfl (by decide) (.slice (some ⟨gm, 0, none⟩) nn cm) nn ((M8 ++ R).map mv) rfl (row_up K2.out.m (bel_up _ _)) ⟨w2.heap.size, 0, none⟩ 1 1 [.slice (some ⟨g, 0, none⟩) l.length k] rfl rfl (cell_one_new _ _ _) (by simp [Value.oneCell']) (by decide) (by have := HZn.out; have := HNN.out; have := HJ.out; unfold maxLen; omega) (by have := HZn.out; have := HNN.out; have := HJ.out; omega) (Nat.le_trans K2.out.bel.size (bel_up _ _).size) _ rfl ?_; intro gm2 cm2 w3 ho hg ha hl; have K3 : Hid _ := (K2.out.up (bel_up _ _)).appM ho hg ha; clear ho hg ha hl))
      clear c8 cj
      obtain ⟨c8, -⟩ := HCX.out _ K3.out.bel
      have cj := HCJ.out _ K3.out.bel
      go_upto_region 9 with (at_builtin; refine wpList_append_lies _ rfl _ _ 23 rfl W1.heap.size 22 i22 (.slice none 0 0) 1 24 Try.underlying23 HI22.out.1 HI22.out.2.1 HI22.out.2.2.1 HI22.out.2.2.2 rfl (by decide) (.slice (some ⟨gw, 0, none⟩) nn cw) nn (V8 ++ vs.take j) rfl (row_up K3.out.v (bel_up _ _)) ⟨w3.heap.size, 0, none⟩ 1 1 [.slice ax l.length cx] rfl rfl (cell_one_new _ _ _) (by simp [Value.oneCell']) (by decide) (by have := HZn.out; have := HNN.out; have := HJ.out; unfold maxLen; omega) (by have := HZn.out; have := HNN.out; have := HJ.out; omega) (Nat.le_trans K3.out.bel.size (bel_up _ _).size) _ rfl ?_; intro gw2 cw2 w4 ho hg ha hl; have K4 : Hid _ := (K3.out.up (bel_up _ _)).appV ho hg ha; clear ho hg ha hl)
      have hk5 : Kz W1 w4 (M8 ++ (R ++ [(g, k, l)])) ((M8 ++ (R ++ [(g, k, l)])).map mv) (V8 ++ vs.take (j + 1)) (R.map mv) gm2 cm2 (nn + 1) gw2 cw2 (nn + 1) (.slice an' j cn') j T u := by
        have h := K4.out
        rw [List.append_assoc, List.append_assoc, HTK.out] at h
        rw [← List.append_assoc, List.map_append]
        rw [← List.append_assoc] at h
        exact h
      obtain ⟨nq, hnq⟩ : ∃ nq, nn + 1 = nq := ⟨_, rfl⟩
      rw [hnq] at hk5
      rw [hnq]
      have HNQ : Hid (nn + 1 = nq) := hnq
      obtain ⟨WD, hWD⟩ : ∃ WD, w4.drew = WD := ⟨_, rfl⟩
      have K5 : Hid (Kz W1 WD (M8 ++ (R ++ [(g, k, l)])) ((M8 ++ (R ++ [(g, k, l)])).map mv) (V8 ++ vs.take (j + 1)) (R.map mv) gm2 cm2 nq gw2 cw2 nq (.slice an' j cn') j T u) := by rw [← hWD]; exact hk5.up (Below.drew (Below.refl _ _))
      have hget : ((M8 ++ (R ++ [(g, k, l)])).map mv)[nn]? = some (.slice (some ⟨g, 0, none⟩) l.length k) := by
        rw [← List.append_assoc, List.map_append, List.getElem?_append_right (by rw [List.length_map, List.length_append, HR.out.1, HL8.out.2.1, HNN.out]; exact Nat.le_refl _), List.length_map, List.length_append, HR.out.1, HL8.out.2.1, HNN.out, Nat.sub_self]
        rfl
      have HGT : Hid _ := hget
      have hms : WD.cell? ⟨gm2, nn, none⟩ = some (.slice (some ⟨g, 0, none⟩) l.length k) := row_at K5.out.m nn _ hget
      have tc : WD.cell? ⟨T, 8, none⟩ = some (.slice an' j cn') := rcell K5.out.t 8 _ rfl
      have hs1 : IntKind.i64.wrap ((nq : Int) - 1) = (nn : Int) := by have := HZn.out; have := HNN.out; have := HJ.out; have := HNQ.out; rw [IntKind.wrap_i64]; omega
      have hs2 : (nq : Int) - 1 = (nn : Int) := by have := HNQ.out; omega
      have hs5 : IntKind.i64.wrap (nn : Int) = (nn : Int) := by have := HZn.out; have := HNN.out; have := HJ.out; rw [IntKind.wrap_i64]; omega
      have hs3 : nn < nq := by have := HNQ.out; omega
      have hs4 : (nn : Int) < (nq : Int) := by omega
      clear c8 cj K1 K2 K3 K4 hk5 hnq hget e1 e2 e5 hwr
      refine wp_region_noPanic ?_
      refine wp_region_held_drew (S := fun W => W.cell? ⟨gm2, nn, none⟩ = some (.slice (some ⟨g, 0, none⟩) l.length k)) (by kernel_rfl) (by rw [hWD]; exact hms) (fun hHeld => ?_)
      rw [hWD] at hHeld ⊢
      clear hWD hms
      refine wpAnyH_take (i := 0) (oi := { dst := _, op := _, type := _, pos := _, after := _, guard := _ }) (v := ?_) rfl (by kernel_rfl) (by kernel_rfl) (by kernel_rfl) (fun _ _ _ h => h) (Or.inl ⟨by rfl, ?_⟩) (by assumption) ?_
      rotate_left
      · intro W hSw
        (try dsimp only at hSw)
        go_simp
        (try with_reducible rfl)
      try simp only [Act.put, List.setIfInBounds_toArray, List.set_cons_zero, List.set_cons_succ]
      refine wpAnyH_take (i := 2) (oi := { dst := _, op := _, type := _, pos := _, after := _, guard := _ }) (v := ?_) rfl (by kernel_rfl) (by kernel_rfl) (by kernel_rfl) (fun _ _ _ h => h) (Or.inl ⟨by rfl, ?_⟩) (by assumption) ?_
      rotate_left
      · intro W hSw
        (try dsimp only at hSw)
        go_simp
        (try with_reducible rfl)
      try simp only [Act.put, List.setIfInBounds_toArray, List.set_cons_zero, List.set_cons_succ]
      refine wpAnyH_take (i := 3) (oi := { dst := _, op := _, type := _, pos := _, after := _, guard := _ }) (v := ?_) rfl (by kernel_rfl) (by kernel_rfl) (by kernel_rfl) (fun _ _ _ h => h) (Or.inl ⟨by rfl, ?_⟩) (by assumption) ?_
      rotate_left
      · intro W hSw
        (try dsimp only at hSw)
        go_simp
        (try with_reducible rfl)
      try simp only [Act.put, List.setIfInBounds_toArray, List.set_cons_zero, List.set_cons_succ]
      refine wpAnyH_take (i := 4) (oi := { dst := _, op := _, type := _, pos := _, after := _, guard := _ }) (v := ?_) rfl (by kernel_rfl) (by kernel_rfl) (by kernel_rfl) (fun _ _ _ h => h) (Or.inl ⟨by rfl, ?_⟩) (by assumption) ?_
      rotate_left
      · intro W hSw
        (try dsimp only at hSw)
        go_simp
        (try with_reducible rfl)
      try simp only [Act.put, List.setIfInBounds_toArray, List.set_cons_zero, List.set_cons_succ]
      refine wpAnyH_take (i := 5) (oi := { dst := _, op := _, type := _, pos := _, after := _, guard := _ }) (v := ?_) rfl (by kernel_rfl) (by kernel_rfl) (by kernel_rfl) (fun _ _ _ h => h) (Or.inl ⟨by rfl, ?_⟩) (by assumption) ?_
      rotate_left
      · intro W hSw
        (try dsimp only at hSw)
        go_simp
        (try with_reducible rfl)
      try simp only [Act.put, List.setIfInBounds_toArray, List.set_cons_zero, List.set_cons_succ]
      refine wpAnyH_take (i := 6) (oi := { dst := _, op := _, type := _, pos := _, after := _, guard := _ }) (v := ?_) rfl (by kernel_rfl) (by kernel_rfl) (by kernel_rfl) (fun _ _ _ h => h) (Or.inl ⟨by rfl, ?_⟩) (by assumption) ?_
      rotate_left
      · intro W hSw
        (try dsimp only at hSw)
        go_simp
        (try with_reducible rfl)
      try simp only [Act.put, List.setIfInBounds_toArray, List.set_cons_zero, List.set_cons_succ]
      refine wpAnyH_take (i := 7) (oi := { dst := _, op := _, type := _, pos := _, after := _, guard := _ }) (v := ?_) rfl (by kernel_rfl) (by kernel_rfl) (by kernel_rfl) (fun _ _ _ h => h) (Or.inl ⟨by rfl, ?_⟩) (by assumption) ?_
      rotate_left
      · intro W hSw
        (try dsimp only at hSw)
        go_simp
        (try with_reducible rfl)
      try simp only [Act.put, List.setIfInBounds_toArray, List.set_cons_zero, List.set_cons_succ]
      refine wpAnyH_ready (rs := [1, 8]) (by kernel_rfl) (by simp) ?_
      refine AllReadyH.cons (o := { dst := _, op := _, type := _, pos := _, after := _, guard := _ }) rfl (fun K hK => ?_) (AllReadyH.cons (o := { dst := _, op := _, type := _, pos := _, after := _, guard := _ }) rfl (fun K hK => ?_) (AllReadyH.nil))
      · go_simp
        refine hK.out _ _ ?_ (fun hHeld => ?_)
        · exact hHeld
        clear hK K
        try simp only [Act.put, List.setIfInBounds_toArray, List.set_cons_zero, List.set_cons_succ]
        refine wpAnyH_ready (rs := [8]) (by kernel_rfl) (by simp) ?_
        refine AllReadyH.cons (o := { dst := _, op := _, type := _, pos := _, after := _, guard := _ }) rfl (fun K hK => ?_) AllReadyH.nil
        go_simp
        refine hK.out _ _ ?_ (fun hHeld => ?_)
        · exact cell_up _ hHeld
        clear hK K
        try simp only [Act.put, List.setIfInBounds_toArray, List.set_cons_zero, List.set_cons_succ]
        (try (have tc2 := cell_up (.cells #[.slice (some ⟨g, 0, none⟩) l.length k] 22) tc))
        refine wpAnyH_ready (rs := [9]) (by kernel_rfl) (by simp) ?_
        refine AllReadyH.cons (o := { dst := _, op := _, type := _, pos := _, after := _, guard := _ }) rfl (fun K hK => ?_) AllReadyH.nil
        have KB : Hid _ := K5.out.up (bel_up _ (.cells #[.slice (some ⟨g, 0, none⟩) l.length k] 22))
        refine step_append_lies _ rfl (.tmp 105) (.tmp 112) 23 rfl W1.heap.size 22 i22 (.slice none 0 0) 1 24 Try.underlying23 HI22.out.1 HI22.out.2.1 HI22.out.2.2.1 HI22.out.2.2.2 rfl (by decide) (.slice an' j cn') j (R.map mv) rfl KB.out.s ⟨WD.heap.size, 0, none⟩ 1 1 [.slice (some ⟨g, 0, none⟩) l.length k] rfl rfl (cell_one_new _ _ _) (by simp [Value.oneCell']) (by decide) (by have := HZn.out; have := HJ.out; unfold maxLen; omega) (by have := HZn.out; have := HJ.out; omega) KB.out.bel.size (WD.heap.size + 1) (by simp) ?_
        intro g' c' w5 h2 h3 h4 _
        have KF : Hid _ := KB.out.appS h2 h3 (by simpa using h4)
        have s0 : w5.cell? ⟨gm2, nn, none⟩ = some (.slice (some ⟨g, 0, none⟩) l.length k) := row_at (KB.out.m.kept h3 (.inr fun e => KB.out.d2.1 e.symm)) nn _ HGT.out
        have k0 : w5.cell? ⟨T, 8, none⟩ = some (.slice an' j cn') := cel_of h3 KB.out.t KB.out.s (by decide) rfl
        have f0 : w5.frozen? ⟨T, 8, none⟩ = false := froz_of h3 KB.out.t KB.out.s (by decide)
        clear h2 h3 h4 KB
        (try clear tc2)
        clear tc
        refine hK.out _ _ ?_ (fun hHeld => ?_)
        · exact s0
        clear hK K
        try simp only [Act.put, List.setIfInBounds_toArray, List.set_cons_zero, List.set_cons_succ]
        clear s0
        refine wpAnyH_take (i := 10) (oi := { dst := _, op := _, type := _, pos := _, after := _, guard := _ }) (v := ?_) rfl (by kernel_rfl) (by kernel_rfl) (by kernel_rfl) (fun _ _ _ h => h) (Or.inl ⟨by rfl, ?_⟩) (by assumption) ?_
        rotate_left
        · intro W hSw
          (try dsimp only at hSw)
          go_simp
          (try with_reducible rfl)
        try simp only [Act.put, List.setIfInBounds_toArray, List.set_cons_zero, List.set_cons_succ]
        refine wpAnyH_ready (rs := [11]) (by kernel_rfl) (by simp) ?_
        refine AllReadyH.cons (o := { dst := _, op := _, type := _, pos := _, after := _, guard := _ }) rfl (fun K hK => ?_) AllReadyH.nil
        go_simp
        refine hK.out _ _ ?_ (fun hHeld => ?_)
        · exact row_at KF.out.m nn _ HGT.out
        clear hK K
        try simp only [Act.put, List.setIfInBounds_toArray, List.set_cons_zero, List.set_cons_succ]
        refine wpAnyH_done (by kernel_rfl) ?_ _
        refine NoPanic.normal ?_
        clear hHeld k0 f0 hs1 hs2 hs3 hs4 hs5
        have hwr := w64n j (by have := HZn.out; have := HJ.out; omega)
        go_wp2_with fail
        go_roundg (N.length - (j + 1))
        case measure => have := HI.out; have := HJ.out; omega
        case rel => exact ⟨j + 1, by first | rfl | (rw [show (j : Int) + 1 = ((j + 1 : Nat) : Int) by omega]), gm2, cm2, gw2, cw2, nq, rfl, rfl, R ++ [(g, k, l)], _, (show nq = 8 + (j + 1) by have := HNQ.out; have := HNN.out; omega), (by have h := KF.out; rw [show [Value.slice (some ⟨g, 0, none⟩) l.length k] = [((g, k, l) : Mb)].map mv from rfl, ← List.map_append] at h; exact h), ⟨by rw [List.length_append, HR.out.1]; rfl, by rw [List.map_append, HR.out.2]; exact HTN.out⟩, ⟨HJ.out, rfl⟩⟩
      · go_simp
        refine hK.out _ _ ?_ (fun hHeld => ?_)
        · exact cell_up _ hHeld
        clear hK K
        try simp only [Act.put, List.setIfInBounds_toArray, List.set_cons_zero, List.set_cons_succ]
        (try (have tc2 := cell_up (.cells #[.slice (some ⟨g, 0, none⟩) l.length k] 22) tc))
        refine wpAnyH_ready (rs := [1]) (by kernel_rfl) (by simp) ?_
        refine AllReadyH.cons (o := { dst := _, op := _, type := _, pos := _, after := _, guard := _ }) rfl (fun K hK => ?_) AllReadyH.nil
        go_simp
        refine hK.out _ _ ?_ (fun hHeld => ?_)
        · exact hHeld
        clear hK K
        try simp only [Act.put, List.setIfInBounds_toArray, List.set_cons_zero, List.set_cons_succ]
        refine wpAnyH_ready (rs := [9]) (by kernel_rfl) (by simp) ?_
        refine AllReadyH.cons (o := { dst := _, op := _, type := _, pos := _, after := _, guard := _ }) rfl (fun K hK => ?_) AllReadyH.nil
        have KB : Hid _ := K5.out.up (bel_up _ (.cells #[.slice (some ⟨g, 0, none⟩) l.length k] 22))
        refine step_append_lies _ rfl (.tmp 105) (.tmp 112) 23 rfl W1.heap.size 22 i22 (.slice none 0 0) 1 24 Try.underlying23 HI22.out.1 HI22.out.2.1 HI22.out.2.2.1 HI22.out.2.2.2 rfl (by decide) (.slice an' j cn') j (R.map mv) rfl KB.out.s ⟨WD.heap.size, 0, none⟩ 1 1 [.slice (some ⟨g, 0, none⟩) l.length k] rfl rfl (cell_one_new _ _ _) (by simp [Value.oneCell']) (by decide) (by have := HZn.out; have := HJ.out; unfold maxLen; omega) (by have := HZn.out; have := HJ.out; omega) KB.out.bel.size (WD.heap.size + 1) (by simp) ?_
        intro g' c' w5 h2 h3 h4 _
        have KF : Hid _ := KB.out.appS h2 h3 (by simpa using h4)
        have s0 : w5.cell? ⟨gm2, nn, none⟩ = some (.slice (some ⟨g, 0, none⟩) l.length k) := row_at (KB.out.m.kept h3 (.inr fun e => KB.out.d2.1 e.symm)) nn _ HGT.out
        have k0 : w5.cell? ⟨T, 8, none⟩ = some (.slice an' j cn') := cel_of h3 KB.out.t KB.out.s (by decide) rfl
        have f0 : w5.frozen? ⟨T, 8, none⟩ = false := froz_of h3 KB.out.t KB.out.s (by decide)
        clear h2 h3 h4 KB
        (try clear tc2)
        clear tc
        refine hK.out _ _ ?_ (fun hHeld => ?_)
        · exact s0
        clear hK K
        try simp only [Act.put, List.setIfInBounds_toArray, List.set_cons_zero, List.set_cons_succ]
        clear s0
        refine wpAnyH_take (i := 10) (oi := { dst := _, op := _, type := _, pos := _, after := _, guard := _ }) (v := ?_) rfl (by kernel_rfl) (by kernel_rfl) (by kernel_rfl) (fun _ _ _ h => h) (Or.inl ⟨by rfl, ?_⟩) (by assumption) ?_
        rotate_left
        · intro W hSw
          (try dsimp only at hSw)
          go_simp
          (try with_reducible rfl)
        try simp only [Act.put, List.setIfInBounds_toArray, List.set_cons_zero, List.set_cons_succ]
        refine wpAnyH_ready (rs := [11]) (by kernel_rfl) (by simp) ?_
        refine AllReadyH.cons (o := { dst := _, op := _, type := _, pos := _, after := _, guard := _ }) rfl (fun K hK => ?_) AllReadyH.nil
        go_simp
        refine hK.out _ _ ?_ (fun hHeld => ?_)
        · exact row_at KF.out.m nn _ HGT.out
        clear hK K
        try simp only [Act.put, List.setIfInBounds_toArray, List.set_cons_zero, List.set_cons_succ]
        refine wpAnyH_done (by kernel_rfl) ?_ _
        refine NoPanic.normal ?_
        clear hHeld k0 f0 hs1 hs2 hs3 hs4 hs5
        have hwr := w64n j (by have := HZn.out; have := HJ.out; omega)
        go_wp2_with fail
        go_roundg (N.length - (j + 1))
        case measure => have := HI.out; have := HJ.out; omega
        case rel => exact ⟨j + 1, by first | rfl | (rw [show (j : Int) + 1 = ((j + 1 : Nat) : Int) by omega]), gm2, cm2, gw2, cw2, nq, rfl, rfl, R ++ [(g, k, l)], _, (show nq = 8 + (j + 1) by have := HNQ.out; have := HNN.out; omega), (by have h := KF.out; rw [show [Value.slice (some ⟨g, 0, none⟩) l.length k] = [((g, k, l) : Mb)].map mv from rfl, ← List.map_append] at h; exact h), ⟨by rw [List.length_append, HR.out.1]; rfl, by rw [List.map_append, HR.out.2]; exact HTN.out⟩, ⟨HJ.out, rfl⟩⟩
    have hj9 : j = N.length := by have := HI.out; omega
    have e1 : decide ((j : Int) < (N.length : Int)) = false := by rw [decide_eq_false_iff_not]; omega
    have e2 : decide (j < N.length) = false := by rw [decide_eq_false_iff_not]; omega
    have HJ9 : Hid (j = N.length) := hj9
    obtain ⟨M, hM⟩ : ∃ M, M8 ++ R = M := ⟨_, rfl⟩
    obtain ⟨V, hV⟩ : ∃ V, V8 ++ vs.take j = V := ⟨_, rfl⟩
    have HMl : Hid (M.length = nn) := show M.length = nn by rw [← hM, List.length_append, HL8.out.2.1, HR.out.1, HNN.out]
    have HMs : Hid (M.map (·.2.2) = Ls ++ N) := show M.map (·.2.2) = Ls ++ N by rw [← hM, List.map_append, HL8.out.2.2.2.1, HR.out.2, hj9, List.take_length]
    have HV9 : Hid (V = V8 ++ vs) := show V = V8 ++ vs by rw [← hV, hj9, ← HL8.out.2.2.2.2, List.take_length]
    have HMu : Hid (∀ k, k < 8 → (M.map mv)[k]? = some (u k)) := fun k hk => by
      rw [← hM, List.map_append, List.getElem?_append_left (by rw [List.length_map, HL8.out.2.1]; exact hk)]
      exact HUM.out k hk
    have HMd : Hid (R.map mv = (M.drop 8).map mv) := show R.map mv = (M.drop 8).map mv by rw [← hM, List.drop_append_of_le_length (by rw [HL8.out.2.1]; exact Nat.le_refl _), List.drop_of_length_le (by rw [HL8.out.2.1]; exact Nat.le_refl _), List.nil_append]
    have hk2 : Kz W1 wr M (M.map mv) V ((M.drop 8).map mv) gm cm nn gw cw nn vn' j T u := by
      have h := K1.out
      rw [hM, hV, HMd.out] at h
      exact h
    have K2 : Hid _ := hk2
    obtain ⟨U, hU⟩ : ∃ U, M.map mv = U := ⟨_, rfl⟩
    have HU : Hid (M.map mv = U) := hU
    have HSP : Hid (∀ (W : World) (M' : List Mb), Kz W1 W M' U V ((M.drop 8).map mv) gm cm nn gw cw nn vn' j T u → M'.map shp = M.map shp → Sp W u vn' (fun k => (M'.getD k (0, 0, [])).2.2) ((M'.drop 8).map (·.2.2)) ((M'.drop 8).map mv)) := fun W M' h hs => by
      have hm := mv_of_shp hs
      refine h.mr.sp (by rw [hm]; exact HMu.out) (n := j) ?_ ?_
      · have := congrArg List.length hs
        rw [List.length_map, List.length_map] at this
        rw [this, HMl.out, HNN.out]
      · rw [List.map_drop, hm, ← List.map_drop]; exact h.s
    have HPP : Hid (pl (fun k => (M.getD k (0, 0, [])).2.2) ((M.drop 8).map (·.2.2)) p i s = pl L N p i s) := by
      have hN : (M.drop 8).map (·.2.2) = N := by rw [List.map_drop, HMs.out, List.drop_append_of_le_length (by rw [HL8.out.2.2.1]; exact Nat.le_refl _), List.drop_of_length_le (by rw [HL8.out.2.2.1]; exact Nat.le_refl _), List.nil_append]
      have hL : ∀ k, k < 8 → (M.getD k (0, 0, [])).2.2 = L k := fun k hk => by
        have h1 : (M.map (·.2.2))[k]? = (Ls ++ N)[k]? := by rw [HMs.out]
        rw [List.getElem?_map, List.getElem?_append_left (by rw [HL8.out.2.2.1]; exact hk)] at h1
        have h2 := HLsk.out k hk
        rw [List.getD_eq_getElem?_getD] at h2 ⊢
        rw [← h1] at h2
        cases h3 : M[k]? with
        | none =>
          have := List.getElem?_eq_none_iff.1 h3
          have := HMl.out
          have := HNN.out
          omega
        | some m => rw [h3] at h2; exact h2
      exact pl_congr hL hN p i s
    rw [hU] at hk2
    have K3 : Hid (Kz W1 wr M U V ((M.drop 8).map mv) gm cm nn gw cw nn vn' j T u) := hk2
    obtain ⟨an', cn', hvn⟩ := row_shape K1.out.s
    have t0 := rcell K3.out.t 0 _ rfl
    have t1 := rcell K3.out.t 1 _ rfl
    have t2 := rcell K3.out.t 2 _ rfl
    have t3 := rcell K3.out.t 3 _ rfl
    have t4 := rcell K3.out.t 4 _ rfl
    have t5 := rcell K3.out.t 5 _ rfl
    have t6 := rcell K3.out.t 6 _ rfl
    have t7 := rcell K3.out.t 7 _ rfl
    have t8 := rcell K3.out.t 8 _ rfl
    obtain ⟨c8, d0, d1, d2, d3⟩ := HCX.out _ K3.out.bel
    obtain ⟨p0, p1, p2, p3, p4, p5, p6, p7⟩ := HC8.out _ K3.out.bel
    have hpp : (pl L N p i s != pl L N p i s) = false := by rw [bne_eq_false_iff_eq]
    subst hvn
    clear hM hV hk2 hU K1 K2 HR HI HUM HLsk HF HFe HMd HMu hj hj9
    go_upto_region 14 with (first | (go_at_call 5; refine (place_any _ (HSP.out _ _ K3.out rfl) cd p i s).mono ?_; rintro e w2 ⟨rfl, hb2⟩; rw [HPP.out]; have K4 : Hid _ := K3.out.up hb2; have B4 : Hid _ := hb2; have hq : _ ∧ _ := HC8.out _ K4.out.bel; have hr : _ ∧ _ := HCX.out _ K4.out.bel; clear p0 p1 p2 p3 p4 p5 p6 p7 c8 d0 d1 d2 d3 hb2; obtain ⟨p0, p1, p2, p3, p4, p5, p6, p7⟩ := hq; obtain ⟨c8, d0, d1, d2, d3⟩ := hr) | (go_at_call 6; refine (HPS.out _ K4.out.bel).mono ?_; rintro e w3 ⟨rfl, hb3⟩; have K5 : Hid _ := K4.out.up hb3; clear hb3))
    clear p0 p1 p2 p3 p4 p5 p6 p7 c8 d0 d1 d2 d3 t0 t1 t2 t3 t4 t5 t6 t7 t8 hpp e1 e2 K3 K4 B4 HPS HPP
    go_loopg [10] nn (fun gl v10 wr2 => ∃ q : Nat, v10 = .int .i64 (q : Int) ∧ ∃ M' : List Mb, Hid (Kz W1 wr2 M' U V ((M.drop 8).map mv) gm cm nn gw cw nn (.slice an' j cn') j T u) ∧ Hid (M'.map shp = M.map shp ∧ ∀ a, q ≤ a → M'[a]? = M[a]?) ∧ Hid (q ≤ nn ∧ gl = nn - q))
    case atStart => exact ⟨0, rfl, M, K5, ⟨rfl, fun _ _ => rfl⟩, ⟨Nat.zero_le _, rfl⟩⟩
    case round =>
      clear K5
      obtain ⟨q, rfl, M', KA, HM', HI⟩ := hrel
      by_cases hq : q < nn
      · have hqM : q < M.length := by rw [HMl.out]; exact hq
        obtain ⟨⟨g, k, l⟩, hm⟩ : ∃ m : Mb, M[q]? = some m := ⟨_, List.getElem?_eq_getElem hqM⟩
        have hUq : U[q]? = some (.slice (some ⟨g, 0, none⟩) l.length k) := by rw [← HU.out, List.getElem?_map, hm]; rfl
        have hlq : (Ls ++ N)[q]? = some l := by rw [← HMs.out, List.getElem?_map, hm]; rfl
        have hqV : q < V.length := by rw [HV9.out, List.length_append, HL8.out.1, HL8.out.2.2.2.2]; have := HNN.out; have := HJ9.out; omega
        obtain ⟨x, hxV⟩ : ∃ x, V[q]? = some x := ⟨_, List.getElem?_eq_getElem hqV⟩
        have HRX : Hid (∀ W, Below W1.heap.size W1 W → Rw W x l.length (iC l)) := fun W hW => (HVR.out q x l (by rw [← HV9.out]; exact hxV) hlq).up hW
        obtain ⟨ax, cx, rfl⟩ := (HRX.out W1 (Below.refl _ _)).form
        have HUQ : Hid _ := hUq
        have HVQ : Hid _ := hxV
        have HMQ : Hid _ := hm
        have hzl : l.length * 8 + 16 ≤ 140737488355328 := by
          rcases Nat.lt_or_ge q 8 with h8 | h8
          · rw [List.getElem?_append_left (by rw [HL8.out.2.2.1]; exact h8)] at hlq
            have h1 := HZ8.out q h8
            rw [List.getD_eq_getElem?_getD, hlq] at h1
            exact h1
          · rw [List.getElem?_append_right (by rw [HL8.out.2.2.1]; exact h8)] at hlq
            exact HZN.out l (List.mem_of_getElem? hlq)
        have HZL : Hid _ := hzl
        have HQ : Hid (q < nn) := hq
        have e1 : decide ((q : Int) < (nn : Int)) = true := by rw [decide_eq_true_eq]; omega
        have e2 : decide (q < nn) = true := by rw [decide_eq_true_eq]; omega
        have e5 : (q : Int) < (nn : Int) := by omega
        clear hqM hUq hlq hqV hxV hm hzl
        go_upto_region 16 with fail
        obtain ⟨WD, hWD⟩ : ∃ WD, wr.drew = WD := ⟨_, rfl⟩
        have KD : Hid (Kz W1 WD M' U V ((M.drop 8).map mv) gm cm nn gw cw nn (.slice an' j cn') j T u) := by rw [← hWD]; exact KA.out.up (Below.drew (Below.refl _ _))
        have HSS : Hid (∀ W, Kz W1 W M' U V ((M.drop 8).map mv) gm cm nn gw cw nn (.slice an' j cn') j T u → (W.cell? ⟨gm, q, none⟩ = some (.slice (some ⟨g, 0, none⟩) l.length k) ∧ W.cell? ⟨gw, q, none⟩ = some (.slice ax l.length cx))) := fun W h => ⟨row_at h.m q _ HUQ.out, row_at h.v q _ HVQ.out⟩
        refine wp_region_noPanic ?_
        refine wp_region_held_drew (S := fun W => W.cell? ⟨gm, q, none⟩ = some (.slice (some ⟨g, 0, none⟩) l.length k) ∧ W.cell? ⟨gw, q, none⟩ = some (.slice ax l.length cx)) (by kernel_rfl) (by rw [hWD]; exact HSS.out _ KD.out) (fun hHeld => ?_)
        rw [hWD] at hHeld ⊢
        clear hWD KA
        refine wpAnyH_take (i := 0) (oi := { dst := _, op := _, type := _, pos := _, after := _, guard := _ }) (v := ?_) rfl (by kernel_rfl) (by kernel_rfl) (by kernel_rfl) (fun _ _ _ h => h) (Or.inl ⟨by rfl, ?_⟩) (by assumption) ?_
        rotate_left
        · intro W hSw
          (try dsimp only at hSw)
          go_simp
          (try with_reducible rfl)
        try simp only [Act.put, List.setIfInBounds_toArray, List.set_cons_zero, List.set_cons_succ]
        refine wpAnyH_take (i := 1) (oi := { dst := _, op := _, type := _, pos := _, after := _, guard := _ }) (v := ?_) rfl (by kernel_rfl) (by kernel_rfl) (by kernel_rfl) (fun _ _ _ h => h) (Or.inl ⟨by rfl, ?_⟩) (by assumption) ?_
        rotate_left
        · intro W hSw
          (try dsimp only at hSw)
          go_simp
          (try with_reducible rfl)
        try simp only [Act.put, List.setIfInBounds_toArray, List.set_cons_zero, List.set_cons_succ]
        refine wpAnyH_take (i := 2) (oi := { dst := _, op := _, type := _, pos := _, after := _, guard := _ }) (v := ?_) rfl (by kernel_rfl) (by kernel_rfl) (by kernel_rfl) (fun _ _ _ h => h) (Or.inl ⟨by rfl, ?_⟩) (by assumption) ?_
        rotate_left
        · intro W hSw
          (try dsimp only at hSw)
          go_simp
          (try with_reducible rfl)
        try simp only [Act.put, List.setIfInBounds_toArray, List.set_cons_zero, List.set_cons_succ]
        refine wpAnyH_take (i := 3) (oi := { dst := _, op := _, type := _, pos := _, after := _, guard := _ }) (v := ?_) rfl (by kernel_rfl) (by kernel_rfl) (by kernel_rfl) (fun _ _ _ h => h) (Or.inl ⟨by rfl, ?_⟩) (by assumption) ?_
        rotate_left
        · intro W hSw
          (try dsimp only at hSw)
          go_simp
          (try with_reducible rfl)
        try simp only [Act.put, List.setIfInBounds_toArray, List.set_cons_zero, List.set_cons_succ]
        refine wpAnyH_take (i := 4) (oi := { dst := _, op := _, type := _, pos := _, after := _, guard := _ }) (v := ?_) rfl (by kernel_rfl) (by kernel_rfl) (by kernel_rfl) (fun _ _ _ h => h) (Or.inl ⟨by rfl, ?_⟩) (by assumption) ?_
        rotate_left
        · intro W hSw
          (try dsimp only at hSw)
          go_simp
          (try with_reducible rfl)
        try simp only [Act.put, List.setIfInBounds_toArray, List.set_cons_zero, List.set_cons_succ]
        refine wpAnyH_take (i := 5) (oi := { dst := _, op := _, type := _, pos := _, after := _, guard := _ }) (v := ?_) rfl (by kernel_rfl) (by kernel_rfl) (by kernel_rfl) (fun _ _ _ h => h) (Or.inl ⟨by rfl, ?_⟩) (by assumption) ?_
        rotate_left
        · intro W hSw
          (try dsimp only at hSw)
          go_simp
          (try with_reducible rfl)
        try simp only [Act.put, List.setIfInBounds_toArray, List.set_cons_zero, List.set_cons_succ]
        refine wpAnyH_take (i := 6) (oi := { dst := _, op := _, type := _, pos := _, after := _, guard := _ }) (v := ?_) rfl (by kernel_rfl) (by kernel_rfl) (by kernel_rfl) (fun _ _ _ h => h) (Or.inl ⟨by rfl, ?_⟩) (by assumption) ?_
        rotate_left
        · intro W hSw
          (try dsimp only at hSw)
          go_simp
          (try with_reducible rfl)
        try simp only [Act.put, List.setIfInBounds_toArray, List.set_cons_zero, List.set_cons_succ]
        refine wpAnyH_take (i := 7) (oi := { dst := _, op := _, type := _, pos := _, after := _, guard := _ }) (v := ?_) rfl (by kernel_rfl) (by kernel_rfl) (by kernel_rfl) (fun _ _ _ h => h) (Or.inl ⟨by rfl, ?_⟩) (by assumption) ?_
        rotate_left
        · intro W hSw
          (try dsimp only at hSw)
          go_simp
          (try with_reducible rfl)
        try simp only [Act.put, List.setIfInBounds_toArray, List.set_cons_zero, List.set_cons_succ]
        refine wpAnyH_ready (rs := [8]) (by kernel_rfl) (by simp) ?_
        refine AllReadyH.cons (o := { dst := _, op := _, type := _, pos := _, after := _, guard := _ }) rfl (fun K hK => ?_) AllReadyH.nil
        go_simp
        have HRM : Hid (Rm W1.heap.size WD g k l) := KD.out.mr.r (g, k, l) (List.mem_of_getElem? ((HM'.out.2 q (Nat.le_refl _)).trans HMQ.out))
        refine (sparedInts_any WD HRM.out (HRX.out _ KD.out.bel) (by have := HZL.out; omega)).mono ?_
        rintro e w4 ⟨rfl, hb4⟩
        have KE : Hid _ := KD.out.up hb4
        clear hb4 KD HRM
        go_wp2_with fail
        refine hK.out _ _ ?_ (fun hHeld => ?_)
        · exact HSS.out _ KE.out
        clear hK K
        try simp only [Act.put, List.setIfInBounds_toArray, List.set_cons_zero, List.set_cons_succ]
        refine wpAnyH_take (i := 9) (oi := { dst := _, op := _, type := _, pos := _, after := _, guard := _ }) (v := ?_) rfl (by kernel_rfl) (by kernel_rfl) (by kernel_rfl) (fun _ _ _ h => h) (Or.inl ⟨by rfl, ?_⟩) (by assumption) ?_
        rotate_left
        · intro W hSw
          (try dsimp only at hSw)
          go_simp
          (try with_reducible rfl)
        try simp only [Act.put, List.setIfInBounds_toArray, List.set_cons_zero, List.set_cons_succ]
        refine wpAnyH_done (by kernel_rfl) ?_ _
        refine NoPanic.normal ?_
        clear hHeld
        go_upto_region 19 with fail
        go_loopg [11] l.length (fun gl v11 wr3 => ∃ r : Nat, v11 = .int .i64 (r : Int) ∧ ∃ M2 : List Mb, Hid (Kz W1 wr3 M2 U V ((M.drop 8).map mv) gm cm nn gw cw nn (.slice an' j cn') j T u) ∧ Hid (M2.map shp = M.map shp ∧ ∀ a, q < a → M2[a]? = M[a]?) ∧ Hid (r ≤ l.length ∧ gl = l.length - r))
        case atStart => exact ⟨0, rfl, M', KE, ⟨HM'.out.1, fun a ha => HM'.out.2 a (Nat.le_of_lt ha)⟩, ⟨Nat.zero_le _, rfl⟩⟩
        case round =>
          clear KE
          obtain ⟨r, rfl, M2, KF, HM2, HI2⟩ := hrel
          have hgq := row_at KF.out.m q _ HUQ.out
          obtain ⟨ln, hln⟩ : ∃ ln, l.length = ln := ⟨_, rfl⟩
          have HLN : Hid (l.length = ln) := hln
          rw [hln] at hgq
          by_cases hr : r < ln
          · obtain ⟨l2, hm2, hl2⟩ : ∃ l2 : List Int, M2[q]? = some (g, k, l2) ∧ l2.length = ln := by
              have h1 : (M2.map shp)[q]? = (M.map shp)[q]? := by rw [HM2.out.1]
              rw [List.getElem?_map, List.getElem?_map, HMQ.out] at h1
              cases h2 : M2[q]? with
              | none => rw [h2] at h1; cases h1
              | some m =>
                rw [h2] at h1
                obtain ⟨g2, k2, l2⟩ := m
                have h3 := Option.some.inj h1
                simp only [shp, Prod.mk.injEq] at h3
                obtain ⟨rfl, rfl, h4⟩ := h3
                exact ⟨l2, rfl, h4.trans hln⟩
            have hrow := KF.out.mr.r _ (List.mem_of_getElem? hm2)
            have HRW : Hid (Rm W1.heap.size wr g k l2) := hrow
            obtain ⟨y, hy⟩ : ∃ y, l2.getD r 0 = y := ⟨_, rfl⟩
            have cr : wr.cell? ⟨g, r, none⟩ = some (.int .i64 y) := by rw [← hy]; exact row_at HRW.out r _ (by rw [List.getElem?_append_left (by rw [iC_len]; omega)]; exact iC_get l2 r (by omega))
            have e1 : decide ((r : Int) < (ln : Int)) = true := by rw [decide_eq_true_eq]; omega
            have e2 : decide (r < ln) = true := by rw [decide_eq_true_eq]; omega
            have e6 : (r : Int) < (ln : Int) := by omega
            have e7 : (q : Int) < (nn : Int) := by have := HQ.out; omega
            have e8 : q < nn := HQ.out
            have hwr := w64n r (by have := HZL.out; omega)
            have HM2q : Hid (M2[q]? = some (g, k, l2) ∧ r < l2.length) := ⟨hm2, by omega⟩
            have HRL : Hid (r < ln) := hr
            clear hm2 hl2 hy hrow hln
            go_upto_region 21 with fail
            obtain ⟨z, hz⟩ : ∃ z, IntKind.i64.wrap (y + 7) = z := ⟨_, rfl⟩
            obtain ⟨WD, hWD⟩ : ∃ WD, wr.drew = WD := ⟨_, rfl⟩
            have KG : Hid (Kz W1 WD M2 U V ((M.drop 8).map mv) gm cm nn gw cw nn (.slice an' j cn') j T u) := by rw [← hWD]; exact KF.out.up (Below.drew (Below.refl _ _))
            have crd : WD.cell? ⟨g, r, none⟩ = some (.int .i64 y) := by rw [← hWD]; exact below_cell (Below.drew (Below.refl _ _)) cr
            have frd : WD.frozen? ⟨g, r, none⟩ = false := by
              obtain ⟨_, cur, hh⟩ := row_tag (KG.out.mr.r _ (List.mem_of_getElem? HM2q.out.1)) g rfl
              exact Lib.frozen_of_heap hh r
            have hgd : WD.cell? ⟨gm, q, none⟩ = some (.slice (some ⟨g, 0, none⟩) ln k) := by have h := row_at KG.out.m q _ HUQ.out; rw [HLN.out] at h; exact h
            have HGS : Hid (Kz W1 (WD.setCell ⟨g, r, none⟩ (.int .i64 z)) (M2.set q (g, k, l2.set r z)) U V ((M.drop 8).map mv) gm cm nn gw cw nn (.slice an' j cn') j T u) := KG.out.set HM2q.out.1 HM2q.out.2
            clear cr hgq KF HRW
            refine wp_region_noPanic ?_
            refine wp_region_held_drew (S := fun W => W.cell? ⟨gm, q, none⟩ = some (.slice (some ⟨g, 0, none⟩) ln k)) (by kernel_rfl) (by rw [hWD]; exact hgd) (fun hHeld => ?_)
            rw [hWD] at hHeld ⊢
            clear hWD hgd
            refine wpAnyH_take (i := 0) (oi := { dst := _, op := _, type := _, pos := _, after := _, guard := _ }) (v := ?_) rfl (by kernel_rfl) (by kernel_rfl) (by kernel_rfl) (fun _ _ _ h => h) (Or.inl ⟨by rfl, ?_⟩) (by assumption) ?_
            rotate_left
            · intro W hSw
              (try dsimp only at hSw)
              go_simp
              (try with_reducible rfl)
            try simp only [Act.put, List.setIfInBounds_toArray, List.set_cons_zero, List.set_cons_succ]
            refine wpAnyH_take (i := 1) (oi := { dst := _, op := _, type := _, pos := _, after := _, guard := _ }) (v := ?_) rfl (by kernel_rfl) (by kernel_rfl) (by kernel_rfl) (fun _ _ _ h => h) (Or.inl ⟨by rfl, ?_⟩) (by assumption) ?_
            rotate_left
            · intro W hSw
              (try dsimp only at hSw)
              go_simp
              (try with_reducible rfl)
            try simp only [Act.put, List.setIfInBounds_toArray, List.set_cons_zero, List.set_cons_succ]
            refine wpAnyH_take (i := 2) (oi := { dst := _, op := _, type := _, pos := _, after := _, guard := _ }) (v := ?_) rfl (by kernel_rfl) (by kernel_rfl) (by kernel_rfl) (fun _ _ _ h => h) (Or.inl ⟨by rfl, ?_⟩) (by assumption) ?_
            rotate_left
            · intro W hSw
              (try dsimp only at hSw)
              go_simp
              (try with_reducible rfl)
            try simp only [Act.put, List.setIfInBounds_toArray, List.set_cons_zero, List.set_cons_succ]
            refine wpAnyH_take (i := 3) (oi := { dst := _, op := _, type := _, pos := _, after := _, guard := _ }) (v := ?_) rfl (by kernel_rfl) (by kernel_rfl) (by kernel_rfl) (fun _ _ _ h => h) (Or.inl ⟨by rfl, ?_⟩) (by assumption) ?_
            rotate_left
            · intro W hSw
              (try dsimp only at hSw)
              go_simp
              (try with_reducible rfl)
            try simp only [Act.put, List.setIfInBounds_toArray, List.set_cons_zero, List.set_cons_succ]
            refine wpAnyH_take (i := 4) (oi := { dst := _, op := _, type := _, pos := _, after := _, guard := _ }) (v := ?_) rfl (by kernel_rfl) (by kernel_rfl) (by kernel_rfl) (fun _ _ _ h => h) (Or.inl ⟨by rfl, ?_⟩) (by assumption) ?_
            rotate_left
            · intro W hSw
              (try dsimp only at hSw)
              go_simp
              (try with_reducible rfl)
            try simp only [Act.put, List.setIfInBounds_toArray, List.set_cons_zero, List.set_cons_succ]
            refine wpAnyH_take (i := 5) (oi := { dst := _, op := _, type := _, pos := _, after := _, guard := _ }) (v := ?_) rfl (by kernel_rfl) (by kernel_rfl) (by kernel_rfl) (fun _ _ _ h => h) (Or.inl ⟨by rfl, ?_⟩) (by assumption) ?_
            rotate_left
            · intro W hSw
              (try dsimp only at hSw)
              go_simp
              (try with_reducible rfl)
            try simp only [Act.put, List.setIfInBounds_toArray, List.set_cons_zero, List.set_cons_succ]
            refine wpAnyH_take (i := 6) (oi := { dst := _, op := _, type := _, pos := _, after := _, guard := _ }) (v := ?_) rfl (by kernel_rfl) (by kernel_rfl) (by kernel_rfl) (fun _ _ _ h => h) (Or.inl ⟨by rfl, ?_⟩) (by assumption) ?_
            rotate_left
            · intro W hSw
              (try dsimp only at hSw)
              go_simp
              (try with_reducible rfl)
            try simp only [Act.put, List.setIfInBounds_toArray, List.set_cons_zero, List.set_cons_succ]
            refine wpAnyH_take (i := 7) (oi := { dst := _, op := _, type := _, pos := _, after := _, guard := _ }) (v := ?_) rfl (by kernel_rfl) (by kernel_rfl) (by kernel_rfl) (fun _ _ _ h => h) (Or.inl ⟨by rfl, ?_⟩) (by assumption) ?_
            rotate_left
            · intro W hSw
              (try dsimp only at hSw)
              go_simp
              (try with_reducible rfl)
            try simp only [Act.put, List.setIfInBounds_toArray, List.set_cons_zero, List.set_cons_succ]
            refine wpAnyH_take (i := 8) (oi := { dst := _, op := _, type := _, pos := _, after := _, guard := _ }) (v := ?_) rfl (by kernel_rfl) (by kernel_rfl) (by kernel_rfl) (fun _ _ _ h => h) (Or.inl ⟨by rfl, ?_⟩) (by assumption) ?_
            rotate_left
            · intro W hSw
              (try dsimp only at hSw)
              go_simp
              (try with_reducible rfl)
            try simp only [Act.put, List.setIfInBounds_toArray, List.set_cons_zero, List.set_cons_succ]
            refine wpAnyH_take (i := 9) (oi := { dst := _, op := _, type := _, pos := _, after := _, guard := _ }) (v := ?_) rfl (by kernel_rfl) (by kernel_rfl) (by kernel_rfl) (fun _ _ _ h => h) (Or.inl ⟨by rfl, ?_⟩) (by assumption) ?_
            rotate_left
            · intro W hSw
              (try dsimp only at hSw)
              go_simp
              (try with_reducible rfl)
            try simp only [Act.put, List.setIfInBounds_toArray, List.set_cons_zero, List.set_cons_succ]
            refine wpAnyH_take (i := 10) (oi := { dst := _, op := _, type := _, pos := _, after := _, guard := _ }) (v := ?_) rfl (by kernel_rfl) (by kernel_rfl) (by kernel_rfl) (fun _ _ _ h => h) (Or.inl ⟨by rfl, ?_⟩) (by assumption) ?_
            rotate_left
            · intro W hSw
              (try dsimp only at hSw)
              go_simp
              (try with_reducible rfl)
            try simp only [Act.put, List.setIfInBounds_toArray, List.set_cons_zero, List.set_cons_succ]
            refine wpAnyH_ready (rs := [11]) (by kernel_rfl) (by simp) ?_
            refine AllReadyH.cons (o := { dst := _, op := _, type := _, pos := _, after := _, guard := _ }) rfl (fun K hK => ?_) AllReadyH.nil
            go_simp
            refine hK.out _ _ ?_ (fun hHeld => ?_)
            · exact hHeld
            clear hK K
            try simp only [Act.put, List.setIfInBounds_toArray, List.set_cons_zero, List.set_cons_succ]
            refine wpAnyH_take (i := 12) (oi := { dst := _, op := _, type := _, pos := _, after := _, guard := _ }) (v := ?_) rfl (by kernel_rfl) (by kernel_rfl) (by kernel_rfl) (fun _ _ _ h => h) (Or.inl ⟨by rfl, ?_⟩) (by assumption) ?_
            rotate_left
            · intro W hSw
              (try dsimp only at hSw)
              go_simp
              (try with_reducible rfl)
            try simp only [Act.put, List.setIfInBounds_toArray, List.set_cons_zero, List.set_cons_succ]
            refine wpAnyH_take (i := 13) (oi := { dst := _, op := _, type := _, pos := _, after := _, guard := _ }) (v := ?_) rfl (by kernel_rfl) (by kernel_rfl) (by kernel_rfl) (fun _ _ _ h => h) (Or.inl ⟨by rfl, ?_⟩) (by assumption) ?_
            rotate_left
            · intro W hSw
              (try dsimp only at hSw)
              go_simp
              (try with_reducible rfl)
            try simp only [Act.put, List.setIfInBounds_toArray, List.set_cons_zero, List.set_cons_succ]
            refine wpAnyH_ready (rs := [14]) (by kernel_rfl) (by simp) ?_
            refine AllReadyH.cons (o := { dst := _, op := _, type := _, pos := _, after := _, guard := _ }) rfl (fun K hK => ?_) AllReadyH.nil
            go_simp
            refine hK.out _ _ ?_ (fun hHeld => ?_)
            · have h := row_at HGS.out.m q _ HUQ.out; rw [HLN.out] at h; exact h
            clear hK K
            try simp only [Act.put, List.setIfInBounds_toArray, List.set_cons_zero, List.set_cons_succ]
            refine wpAnyH_done (by kernel_rfl) ?_ _
            refine NoPanic.normal ?_
            clear hHeld crd frd hz
            go_wp2_with fail
            go_roundg (l.length - (r + 1))
            case measure => have := HI2.out; have := HRL.out; have := HLN.out; omega
            case rel => exact ⟨r + 1, by first | rfl | (rw [show (r : Int) + 1 = ((r + 1 : Nat) : Int) by omega]), _, HGS, ⟨(set_shp HM2q.out.1).trans HM2.out.1, fun a ha => by rw [List.getElem?_set_ne (by omega)]; exact HM2.out.2 a ha⟩, ⟨by have := HRL.out; have := HLN.out; omega, rfl⟩⟩
          · have e1 : decide ((r : Int) < (ln : Int)) = false := by rw [decide_eq_false_iff_not]; omega
            have e2 : decide (r < ln) = false := by rw [decide_eq_false_iff_not]; omega
            have e7 : (q : Int) < (nn : Int) := by have := HQ.out; omega
            have e8 : q < nn := HQ.out
            have hwr := w64n q (by have := HQ.out; have := HNN.out; have := HZn.out; have := HJ9.out; omega)
            clear hln hr
            go_wp2_with fail
            go_roundg (nn - (q + 1))
            case measure => have := HI.out; have := HQ.out; omega
            case rel => exact ⟨q + 1, by first | rfl | (rw [show (q : Int) + 1 = ((q + 1 : Nat) : Int) by omega]), M2, KF, ⟨HM2.out.1, fun a ha => HM2.out.2 a (by omega)⟩, ⟨HQ.out, rfl⟩⟩
      · have e1 : decide ((q : Int) < (nn : Int)) = false := by rw [decide_eq_false_iff_not]; omega
        have e2 : decide (q < nn) = false := by rw [decide_eq_false_iff_not]; omega
        have t0 := rcell KA.out.t 0 _ rfl
        have t1 := rcell KA.out.t 1 _ rfl
        have t2 := rcell KA.out.t 2 _ rfl
        have t3 := rcell KA.out.t 3 _ rfl
        have t4 := rcell KA.out.t 4 _ rfl
        have t5 := rcell KA.out.t 5 _ rfl
        have t6 := rcell KA.out.t 6 _ rfl
        have t7 := rcell KA.out.t 7 _ rfl
        have t8 := rcell KA.out.t 8 _ rfl
        obtain ⟨c8, d0, d1, d2, d3⟩ := HCX.out _ KA.out.bel
        have hpq : ∀ x : Int, (x == x) = true := fun x => beq_self_eq_true x
        clear hq
        go_wp2_with (first | (go_at_call 6; refine (rplace_any _ (HSP.out _ _ KA.out HM'.out.1) cd p i s).mono ?_; rintro e w5 ⟨rfl, hb5⟩; have K6 : Hid _ := KA.out.up hb5; have hq : _ := K6.out.t; have hr : _ ∧ _ := HCX.out _ K6.out.bel; clear t0 t1 t2 t3 t4 t5 t6 t7 t8 c8 d0 d1 d2 d3 hb5; have t0 := rcell hq 0 _ rfl; have t1 := rcell hq 1 _ rfl; have t2 := rcell hq 2 _ rfl; have t3 := rcell hq 3 _ rfl; have t4 := rcell hq 4 _ rfl; have t5 := rcell hq 5 _ rfl; have t6 := rcell hq 6 _ rfl; have t7 := rcell hq 7 _ rfl; have t8 := rcell hq 8 _ rfl; clear hq; obtain ⟨c8, d0, d1, d2, d3⟩ := hr) | (go_at_call 5; refine (place_any _ (HSP.out _ _ K6.out HM'.out.1) cd p i s).mono ?_; rintro e w6 ⟨rfl, hb6⟩; have K7 : Hid _ := K6.out.up hb6; clear hb6))
        go_ret
        exact ⟨rfl, below_trans HB.out K7.out.bel⟩
end Go.Proofs.Ytlmfcaflfbnebaa
