import Derived.Test.YtjpmmihcnfedgabClam
namespace Go.Proofs.Ytjpmmihcnfedgab
open Go.RowKit

/-- an edit goes well on a text -/
def okE (s : ByteArray) (p q : Int) (ins : ByteArray) : Prop := s.size ≤ 1048576 ∧ s.size - cd s.size p q + ins.size ≤ 1048576
instance (s : ByteArray) (p q : Int) (ins : ByteArray) : Decidable (okE s p q ins) := by unfold okE; infer_instance

set_option maxRecDepth 100000 in
set_option maxHeartbeats 1000000 in
theorem fit_big (s : ByteArray) (p q : Int) (ins : ByteArray) (w : World) (hle : ¬ s.size ≤ 1048576) (hs : s.size ≤ 140737488355328) (hi : ins.size ≤ 140737488355328) :
    Calls Try.prog 22 #[.string s, ed p q ins] w fun e w' => e = .returned (.tuple #[ed (ca s.size p) (cd s.size p q) ins, .bool (decide (okE s p q ins))]) ∧ Below w.heap.size w w' := by
  have C0 : Hid _ := fun W : World => clamped_any s.size p q ins W hs
  have C1 : Hid _ := fun W : World => right_any s.size W
  have ha := cd_le s.size p q
  have wr : IntKind.i64.wrap ((s.size : Int) - (cd s.size p q : Int)) = (s.size : Int) - (cd s.size p q : Int) := by rw [IntKind.wrap_i64]; omega
  have wr2 : IntKind.i64.wrap ((s.size : Int) - (cd s.size p q : Int) + (ins.size : Int)) = (s.size : Int) - (cd s.size p q : Int) + (ins.size : Int) := by rw [IntKind.wrap_i64]; omega
  have HI : Hid _ := hi
  clear hi
  go_enter Try.func22, Try.ntmps22
  go_upto_region 1 with fail
  go_cut [] from 6 (fun wd => Box w wd w.heap.size (.int .i64 (ca s.size p : Int)) (.int .i64 (cd s.size p q : Int)) (.string ins) ∧ Box w wd (w.heap.size + 1) (.int .i64 0) (.int .i64 0) (.string ⟨#[]⟩) ∧ Below w.heap.size w wd)
  case first =>
    clear wr wr2 C1
    go_wp2_with fail
    refine (C0.out _).mono ?_
    rintro e' w2 ⟨rfl, hb⟩
    obtain ⟨h1, h2, h3⟩ := box2 hb
    obtain ⟨a0, a1, a2, af⟩ := h1
    have H2 : Hid _ := h2
    have H3 : Hid _ := h3
    clear hb h2 h3 C0
    go_wp2_with fail
    go_meet
    have h2 := H2.out
    refine ⟨⟨by go_simp, by go_simp, by go_simp, fun o => by go_simp⟩, ⟨?_, ?_, ?_, fun o => ?_⟩, Below.setCell (Below.setCell (Below.setCell H3.out (by simp) _) (by simp) _) (by simp) _⟩
    · exact cell_set3 _ _ _ h2.c0 (by simp)
    · exact cell_set3 _ _ _ h2.c1 (by simp)
    · exact cell_set3 _ _ _ h2.c2 (by simp)
    · have := h2.fr o
      go_simp
  case rest =>
    obtain ⟨hb, hr, hB⟩ := hcut
    have HP : Hid ((fun W : World => W.cell? ⟨w.heap.size, 0, none⟩ = some (.int .i64 (ca s.size p : Int)) ∧ W.cell? ⟨w.heap.size, 1, none⟩ = some (.int .i64 (cd s.size p q : Int)) ∧ W.cell? ⟨w.heap.size, 2, none⟩ = some (.string ins) ∧ Below w.heap.size w W) wc.drew) := ⟨below_cell (Below.drew (Below.refl _ _)) hb.c0, below_cell (Below.drew (Below.refl _ _)) hb.c1, below_cell (Below.drew (Below.refl _ _)) hb.c2, Below.drew hB⟩
    have HK : Hid (∀ W x y z, (W.cell? ⟨w.heap.size, 0, none⟩ = some (.int .i64 (ca s.size p : Int)) ∧ W.cell? ⟨w.heap.size, 1, none⟩ = some (.int .i64 (cd s.size p q : Int)) ∧ W.cell? ⟨w.heap.size, 2, none⟩ = some (.string ins) ∧ Below w.heap.size w W) → (((W.setCell ⟨w.heap.size + 1, 0, none⟩ x).setCell ⟨w.heap.size + 1, 1, none⟩ y).setCell ⟨w.heap.size + 1, 2, none⟩ z).cell? ⟨w.heap.size, 0, none⟩ = some (.int .i64 (ca s.size p : Int)) ∧ (((W.setCell ⟨w.heap.size + 1, 0, none⟩ x).setCell ⟨w.heap.size + 1, 1, none⟩ y).setCell ⟨w.heap.size + 1, 2, none⟩ z).cell? ⟨w.heap.size, 1, none⟩ = some (.int .i64 (cd s.size p q : Int)) ∧ (((W.setCell ⟨w.heap.size + 1, 0, none⟩ x).setCell ⟨w.heap.size + 1, 1, none⟩ y).setCell ⟨w.heap.size + 1, 2, none⟩ z).cell? ⟨w.heap.size, 2, none⟩ = some (.string ins) ∧ Below w.heap.size w (((W.setCell ⟨w.heap.size + 1, 0, none⟩ x).setCell ⟨w.heap.size + 1, 1, none⟩ y).setCell ⟨w.heap.size + 1, 2, none⟩ z)) := fun W x y z h => by
      obtain ⟨g1, g2, g3, g4⟩ := h
      exact ⟨cell_set3 _ _ _ g1 (by simp), cell_set3 _ _ _ g2 (by simp), cell_set3 _ _ _ g3 (by simp), Below.setCell (Below.setCell (Below.setCell g4 (by simp) _) (by simp) _) (by simp) _⟩
    obtain ⟨b0, b1, b2, bf⟩ := hb
    obtain ⟨r0, r1, r2, fr⟩ := hr
    have B0 : Hid _ := hB
    clear hB C0 b0 b1 b2 bf
    have E1 : Hid (decide (0 ≤ (s.size : Int) ∧ (s.size : Int) ≤ 1048576) = false) := decide_eq_false (by omega)
    rw [E1.out] at C1
    have HG : Hid (decide (okE s p q ins) = false) := decide_eq_false (fun h => hle h.1)
    go_upto_region 2 with fail
    clear E1 hle hs
    refine wp_region_noPanic ?_
    refine wp_region_held_drew (S := fun W => W.cell? ⟨w.heap.size, 0, none⟩ = some (.int .i64 (ca s.size p : Int)) ∧ W.cell? ⟨w.heap.size, 1, none⟩ = some (.int .i64 (cd s.size p q : Int)) ∧ W.cell? ⟨w.heap.size, 2, none⟩ = some (.string ins) ∧ Below w.heap.size w W) (by kernel_rfl) HP.out (fun hHeld => ?_)
    refine wpAnyH_take (i := 0) (oi := { dst := _, op := _, type := _, pos := _, after := _, guard := _ }) (v := ?_) rfl (by kernel_rfl) (by kernel_rfl) (by kernel_rfl) (fun _ _ _ h => h) (Or.inl ⟨by rfl, ?_⟩) (by assumption) ?_
    rotate_left
    · intro W hSw
      (try dsimp only at hSw)
      go_simp
      (try with_reducible rfl)
    try simp only [Act.put, List.setIfInBounds_toArray, List.set_cons_zero, List.set_cons_succ]
    refine wpAnyH_take (i := 1) (oi := { dst := _, op := _, type := _, pos := _, after := _, guard := _ }) (v := ?_) rfl (by kernel_rfl) (by kernel_rfl) (by kernel_rfl) (fun _ _ _ h => h) (Or.inl ⟨by rfl, ?_⟩) (by assumption) ?_
    rotate_left
    · intro W hSw
      (try dsimp only at hSw)
      go_simp
      (try with_reducible rfl)
    try simp only [Act.put, List.setIfInBounds_toArray, List.set_cons_zero, List.set_cons_succ]
    refine wpAnyH_take (i := 2) (oi := { dst := _, op := _, type := _, pos := _, after := _, guard := _ }) (v := ?_) rfl (by kernel_rfl) (by kernel_rfl) (by kernel_rfl) (fun _ _ _ h => h) (Or.inl ⟨by rfl, ?_⟩) (by assumption) ?_
    rotate_left
    · intro W hSw
      (try dsimp only at hSw)
      go_simp
      (try with_reducible rfl)
    try simp only [Act.put, List.setIfInBounds_toArray, List.set_cons_zero, List.set_cons_succ]
    refine wpAnyH_ready (rs := [3]) (by kernel_rfl) (by simp) ?_
    refine AllReadyH.cons (o := { dst := _, op := _, type := _, pos := _, after := _, guard := _ }) rfl (fun K hK => ?_) AllReadyH.nil
    go_simp
    refine (C1.out _).mono ?_
    rintro e' w2 ⟨rfl, rfl⟩
    go_wp2_with fail
    refine hK.out _ _ ?_ (fun hHeld => ?_)
    · (try dsimp only)
      exact HP.out
    clear hK K
    try simp only [Act.put, List.setIfInBounds_toArray, List.set_cons_zero, List.set_cons_succ]
    refine wpAnyH_take (i := 4) (oi := { dst := _, op := _, type := _, pos := _, after := _, guard := _ }) (v := ?_) rfl (by kernel_rfl) (by kernel_rfl) (by kernel_rfl) (fun _ _ _ h => h) (Or.inl ⟨by rfl, ?_⟩) (by assumption) ?_
    rotate_left
    · intro W hSw
      (try dsimp only at hSw)
      go_simp
      (try with_reducible rfl)
    try simp only [Act.put, List.setIfInBounds_toArray, List.set_cons_zero, List.set_cons_succ]
    refine wpAnyH_take (i := 5) (oi := { dst := _, op := _, type := _, pos := _, after := _, guard := _ }) rfl (by kernel_rfl) (by kernel_rfl) (by kernel_rfl) (fun _ _ _ h => h) (Or.inr ⟨by rfl, rfl⟩) (by assumption) ?_
    try simp only [Act.put, List.setIfInBounds_toArray, List.set_cons_zero, List.set_cons_succ]
    refine wpAnyH_take (i := 6) (oi := { dst := _, op := _, type := _, pos := _, after := _, guard := _ }) rfl (by kernel_rfl) (by kernel_rfl) (by kernel_rfl) (fun _ _ _ h => h) (Or.inr ⟨by rfl, rfl⟩) (by assumption) ?_
    try simp only [Act.put, List.setIfInBounds_toArray, List.set_cons_zero, List.set_cons_succ]
    refine wpAnyH_take (i := 7) (oi := { dst := _, op := _, type := _, pos := _, after := _, guard := _ }) rfl (by kernel_rfl) (by kernel_rfl) (by kernel_rfl) (fun _ _ _ h => h) (Or.inr ⟨by rfl, rfl⟩) (by assumption) ?_
    try simp only [Act.put, List.setIfInBounds_toArray, List.set_cons_zero, List.set_cons_succ]
    refine wpAnyH_take (i := 8) (oi := { dst := _, op := _, type := _, pos := _, after := _, guard := _ }) rfl (by kernel_rfl) (by kernel_rfl) (by kernel_rfl) (fun _ _ _ h => h) (Or.inr ⟨by rfl, rfl⟩) (by assumption) ?_
    try simp only [Act.put, List.setIfInBounds_toArray, List.set_cons_zero, List.set_cons_succ]
    refine wpAnyH_take (i := 9) (oi := { dst := _, op := _, type := _, pos := _, after := _, guard := _ }) rfl (by kernel_rfl) (by kernel_rfl) (by kernel_rfl) (fun _ _ _ h => h) (Or.inr ⟨by rfl, rfl⟩) (by assumption) ?_
    try simp only [Act.put, List.setIfInBounds_toArray, List.set_cons_zero, List.set_cons_succ]
    refine wpAnyH_take (i := 10) (oi := { dst := _, op := _, type := _, pos := _, after := _, guard := _ }) rfl (by kernel_rfl) (by kernel_rfl) (by kernel_rfl) (fun _ _ _ h => h) (Or.inr ⟨by rfl, rfl⟩) (by assumption) ?_
    try simp only [Act.put, List.setIfInBounds_toArray, List.set_cons_zero, List.set_cons_succ]
    refine wpAnyH_take (i := 11) (oi := { dst := _, op := _, type := _, pos := _, after := _, guard := _ }) rfl (by kernel_rfl) (by kernel_rfl) (by kernel_rfl) (fun _ _ _ h => h) (Or.inr ⟨by rfl, rfl⟩) (by assumption) ?_
    try simp only [Act.put, List.setIfInBounds_toArray, List.set_cons_zero, List.set_cons_succ]
    refine wpAnyH_take (i := 12) (oi := { dst := _, op := _, type := _, pos := _, after := _, guard := _ }) rfl (by kernel_rfl) (by kernel_rfl) (by kernel_rfl) (fun _ _ _ h => h) (Or.inr ⟨by rfl, rfl⟩) (by assumption) ?_
    try simp only [Act.put, List.setIfInBounds_toArray, List.set_cons_zero, List.set_cons_succ]
    refine wpAnyH_take (i := 13) (oi := { dst := _, op := _, type := _, pos := _, after := _, guard := _ }) rfl (by kernel_rfl) (by kernel_rfl) (by kernel_rfl) (fun _ _ _ h => h) (Or.inr ⟨by rfl, rfl⟩) (by assumption) ?_
    try simp only [Act.put, List.setIfInBounds_toArray, List.set_cons_zero, List.set_cons_succ]
    refine wpAnyH_take (i := 14) (oi := { dst := _, op := _, type := _, pos := _, after := _, guard := _ }) rfl (by kernel_rfl) (by kernel_rfl) (by kernel_rfl) (fun _ _ _ h => h) (Or.inr ⟨by rfl, rfl⟩) (by assumption) ?_
    try simp only [Act.put, List.setIfInBounds_toArray, List.set_cons_zero, List.set_cons_succ]
    refine wpAnyH_take (i := 15) (oi := { dst := _, op := _, type := _, pos := _, after := _, guard := _ }) (v := ?_) rfl (by kernel_rfl) (by kernel_rfl) (by kernel_rfl) (fun _ _ _ h => h) (Or.inl ⟨by rfl, ?_⟩) (by assumption) ?_
    rotate_left
    · intro W hSw
      (try dsimp only at hSw)
      go_simp
      (try with_reducible rfl)
    try simp only [Act.put, List.setIfInBounds_toArray, List.set_cons_zero, List.set_cons_succ]
    refine wpAnyH_ready (rs := [16]) (by kernel_rfl) (by simp) ?_
    refine AllReadyH.cons (o := { dst := _, op := _, type := _, pos := _, after := _, guard := _ }) rfl (fun K hK => ?_) AllReadyH.nil
    go_simp
    refine hK.out _ _ ?_ (fun hHeld => ?_)
    · (try dsimp only)
      exact HK.out _ _ _ _ (by assumption)
    clear hK K
    try simp only [Act.put, List.setIfInBounds_toArray, List.set_cons_zero, List.set_cons_succ]
    refine wpAnyH_take (i := 17) (oi := { dst := _, op := _, type := _, pos := _, after := _, guard := _ }) (v := ?_) rfl (by kernel_rfl) (by kernel_rfl) (by kernel_rfl) (fun _ _ _ h => h) (Or.inl ⟨by rfl, ?_⟩) (by assumption) ?_
    rotate_left
    · intro W hSw
      (try dsimp only at hSw)
      go_simp
      (try with_reducible rfl)
    try simp only [Act.put, List.setIfInBounds_toArray, List.set_cons_zero, List.set_cons_succ]
    refine wpAnyH_done (by kernel_rfl) ?_ _
    refine NoPanic.normal ?_
    clear hHeld HP HK wr wr2 C1
    go_wp2_with fail
    (try simp only [Exit.inBlock, Exit.then])
    refine bodyPost_ret (v := .tuple #[ed (ca s.size p) (cd s.size p q) ins, .bool false]) ?_ rfl ⟨by rw [HG.out], ?_⟩
    · rw [results_cell_tmp rfl]; go_simp
    · exact Below.drew (bel_set3 B0.out (by simp) _ _ _)

set_option maxRecDepth 100000 in
set_option maxHeartbeats 1000000 in
theorem fit_small (s : ByteArray) (p q : Int) (ins : ByteArray) (w : World) (hle : s.size ≤ 1048576) (hs : s.size ≤ 140737488355328) (hi : ins.size ≤ 140737488355328) :
    Calls Try.prog 22 #[.string s, ed p q ins] w fun e w' => e = .returned (.tuple #[ed (ca s.size p) (cd s.size p q) ins, .bool (decide (okE s p q ins))]) ∧ Below w.heap.size w w' := by
  have C0 : Hid _ := fun W : World => clamped_any s.size p q ins W hs
  have C1 : Hid _ := fun W : World => right_any s.size W
  have C2 : Hid _ := fun W : World => right_any ((s.size : Int) - cd s.size p q + ins.size) W
  have ha := cd_le s.size p q
  have wr : IntKind.i64.wrap ((s.size : Int) - (cd s.size p q : Int)) = (s.size : Int) - (cd s.size p q : Int) := by rw [IntKind.wrap_i64]; omega
  have wr2 : IntKind.i64.wrap ((s.size : Int) - (cd s.size p q : Int) + (ins.size : Int)) = (s.size : Int) - (cd s.size p q : Int) + (ins.size : Int) := by rw [IntKind.wrap_i64]; omega
  have HI : Hid _ := hi
  clear hi
  go_enter Try.func22, Try.ntmps22
  go_upto_region 1 with fail
  go_cut [] from 6 (fun wd => Box w wd w.heap.size (.int .i64 (ca s.size p : Int)) (.int .i64 (cd s.size p q : Int)) (.string ins) ∧ Box w wd (w.heap.size + 1) (.int .i64 0) (.int .i64 0) (.string ⟨#[]⟩) ∧ Below w.heap.size w wd)
  case first =>
    clear wr wr2 C1 C2
    go_wp2_with fail
    refine (C0.out _).mono ?_
    rintro e' w2 ⟨rfl, hb⟩
    obtain ⟨h1, h2, h3⟩ := box2 hb
    obtain ⟨a0, a1, a2, af⟩ := h1
    have H2 : Hid _ := h2
    have H3 : Hid _ := h3
    clear hb h2 h3 C0
    go_wp2_with fail
    go_meet
    have h2 := H2.out
    refine ⟨⟨by go_simp, by go_simp, by go_simp, fun o => by go_simp⟩, ⟨?_, ?_, ?_, fun o => ?_⟩, Below.setCell (Below.setCell (Below.setCell H3.out (by simp) _) (by simp) _) (by simp) _⟩
    · exact cell_set3 _ _ _ h2.c0 (by simp)
    · exact cell_set3 _ _ _ h2.c1 (by simp)
    · exact cell_set3 _ _ _ h2.c2 (by simp)
    · have := h2.fr o
      go_simp
  case rest =>
    obtain ⟨hb, hr, hB⟩ := hcut
    have HP : Hid ((fun W : World => W.cell? ⟨w.heap.size, 0, none⟩ = some (.int .i64 (ca s.size p : Int)) ∧ W.cell? ⟨w.heap.size, 1, none⟩ = some (.int .i64 (cd s.size p q : Int)) ∧ W.cell? ⟨w.heap.size, 2, none⟩ = some (.string ins) ∧ Below w.heap.size w W) wc.drew) := ⟨below_cell (Below.drew (Below.refl _ _)) hb.c0, below_cell (Below.drew (Below.refl _ _)) hb.c1, below_cell (Below.drew (Below.refl _ _)) hb.c2, Below.drew hB⟩
    have HK : Hid (∀ W x y z, (W.cell? ⟨w.heap.size, 0, none⟩ = some (.int .i64 (ca s.size p : Int)) ∧ W.cell? ⟨w.heap.size, 1, none⟩ = some (.int .i64 (cd s.size p q : Int)) ∧ W.cell? ⟨w.heap.size, 2, none⟩ = some (.string ins) ∧ Below w.heap.size w W) → (((W.setCell ⟨w.heap.size + 1, 0, none⟩ x).setCell ⟨w.heap.size + 1, 1, none⟩ y).setCell ⟨w.heap.size + 1, 2, none⟩ z).cell? ⟨w.heap.size, 0, none⟩ = some (.int .i64 (ca s.size p : Int)) ∧ (((W.setCell ⟨w.heap.size + 1, 0, none⟩ x).setCell ⟨w.heap.size + 1, 1, none⟩ y).setCell ⟨w.heap.size + 1, 2, none⟩ z).cell? ⟨w.heap.size, 1, none⟩ = some (.int .i64 (cd s.size p q : Int)) ∧ (((W.setCell ⟨w.heap.size + 1, 0, none⟩ x).setCell ⟨w.heap.size + 1, 1, none⟩ y).setCell ⟨w.heap.size + 1, 2, none⟩ z).cell? ⟨w.heap.size, 2, none⟩ = some (.string ins) ∧ Below w.heap.size w (((W.setCell ⟨w.heap.size + 1, 0, none⟩ x).setCell ⟨w.heap.size + 1, 1, none⟩ y).setCell ⟨w.heap.size + 1, 2, none⟩ z)) := fun W x y z h => by
      obtain ⟨g1, g2, g3, g4⟩ := h
      exact ⟨cell_set3 _ _ _ g1 (by simp), cell_set3 _ _ _ g2 (by simp), cell_set3 _ _ _ g3 (by simp), Below.setCell (Below.setCell (Below.setCell g4 (by simp) _) (by simp) _) (by simp) _⟩
    obtain ⟨b0, b1, b2, bf⟩ := hb
    obtain ⟨r0, r1, r2, fr⟩ := hr
    have B0 : Hid _ := hB
    clear hB C0 b0 b1 b2 bf
    have E1 : Hid (decide (0 ≤ (s.size : Int) ∧ (s.size : Int) ≤ 1048576) = true) := decide_eq_true (by omega)
    rw [E1.out] at C1
    obtain ⟨g, hg⟩ : ∃ g : Bool, g = decide (0 ≤ (s.size : Int) - cd s.size p q + ins.size ∧ (s.size : Int) - cd s.size p q + ins.size ≤ 1048576) := ⟨_, rfl⟩
    rw [← hg] at C2
    have HG : Hid (decide (okE s p q ins) = g) := by
      rw [hg]
      unfold okE
      exact decide_eq_decide.2 ⟨fun h => by omega, fun h => by omega⟩
    clear hg E1
    go_upto_region 2 with fail
    refine wp_region_noPanic ?_
    refine wp_region_held_drew (S := fun W => W.cell? ⟨w.heap.size, 0, none⟩ = some (.int .i64 (ca s.size p : Int)) ∧ W.cell? ⟨w.heap.size, 1, none⟩ = some (.int .i64 (cd s.size p q : Int)) ∧ W.cell? ⟨w.heap.size, 2, none⟩ = some (.string ins) ∧ Below w.heap.size w W) (by kernel_rfl) HP.out (fun hHeld => ?_)
    refine wpAnyH_take (i := 0) (oi := { dst := _, op := _, type := _, pos := _, after := _, guard := _ }) (v := ?_) rfl (by kernel_rfl) (by kernel_rfl) (by kernel_rfl) (fun _ _ _ h => h) (Or.inl ⟨by rfl, ?_⟩) (by assumption) ?_
    rotate_left
    · intro W hSw
      (try dsimp only at hSw)
      go_simp
      (try with_reducible rfl)
    try simp only [Act.put, List.setIfInBounds_toArray, List.set_cons_zero, List.set_cons_succ]
    refine wpAnyH_take (i := 1) (oi := { dst := _, op := _, type := _, pos := _, after := _, guard := _ }) (v := ?_) rfl (by kernel_rfl) (by kernel_rfl) (by kernel_rfl) (fun _ _ _ h => h) (Or.inl ⟨by rfl, ?_⟩) (by assumption) ?_
    rotate_left
    · intro W hSw
      (try dsimp only at hSw)
      go_simp
      (try with_reducible rfl)
    try simp only [Act.put, List.setIfInBounds_toArray, List.set_cons_zero, List.set_cons_succ]
    refine wpAnyH_take (i := 2) (oi := { dst := _, op := _, type := _, pos := _, after := _, guard := _ }) (v := ?_) rfl (by kernel_rfl) (by kernel_rfl) (by kernel_rfl) (fun _ _ _ h => h) (Or.inl ⟨by rfl, ?_⟩) (by assumption) ?_
    rotate_left
    · intro W hSw
      (try dsimp only at hSw)
      go_simp
      (try with_reducible rfl)
    try simp only [Act.put, List.setIfInBounds_toArray, List.set_cons_zero, List.set_cons_succ]
    refine wpAnyH_ready (rs := [3]) (by kernel_rfl) (by simp) ?_
    refine AllReadyH.cons (o := { dst := _, op := _, type := _, pos := _, after := _, guard := _ }) rfl (fun K hK => ?_) AllReadyH.nil
    go_simp
    refine (C1.out _).mono ?_
    rintro e' w2 ⟨rfl, rfl⟩
    go_wp2_with fail
    refine hK.out _ _ ?_ (fun hHeld => ?_)
    · (try dsimp only)
      exact HP.out
    clear hK K
    try simp only [Act.put, List.setIfInBounds_toArray, List.set_cons_zero, List.set_cons_succ]
    refine wpAnyH_take (i := 4) (oi := { dst := _, op := _, type := _, pos := _, after := _, guard := _ }) (v := ?_) rfl (by kernel_rfl) (by kernel_rfl) (by kernel_rfl) (fun _ _ _ h => h) (Or.inl ⟨by rfl, ?_⟩) (by assumption) ?_
    rotate_left
    · intro W hSw
      (try dsimp only at hSw)
      go_simp
      (try with_reducible rfl)
    try simp only [Act.put, List.setIfInBounds_toArray, List.set_cons_zero, List.set_cons_succ]
    refine wpAnyH_take (i := 5) (oi := { dst := _, op := _, type := _, pos := _, after := _, guard := _ }) (v := ?_) rfl (by kernel_rfl) (by kernel_rfl) (by kernel_rfl) (fun _ _ _ h => h) (Or.inl ⟨by rfl, ?_⟩) (by assumption) ?_
    rotate_left
    · intro W hSw
      (try dsimp only at hSw)
      go_simp
      (try with_reducible rfl)
    try simp only [Act.put, List.setIfInBounds_toArray, List.set_cons_zero, List.set_cons_succ]
    refine wpAnyH_take (i := 6) (oi := { dst := _, op := _, type := _, pos := _, after := _, guard := _ }) (v := ?_) rfl (by kernel_rfl) (by kernel_rfl) (by kernel_rfl) (fun _ _ _ h => h) (Or.inl ⟨by rfl, ?_⟩) (by assumption) ?_
    rotate_left
    · intro W hSw
      (try dsimp only at hSw)
      go_simp
      (try with_reducible rfl)
    try simp only [Act.put, List.setIfInBounds_toArray, List.set_cons_zero, List.set_cons_succ]
    refine wpAnyH_take (i := 7) (oi := { dst := _, op := _, type := _, pos := _, after := _, guard := _ }) (v := ?_) rfl (by kernel_rfl) (by kernel_rfl) (by kernel_rfl) (fun _ _ _ h => h) (Or.inl ⟨by rfl, ?_⟩) (by assumption) ?_
    rotate_left
    · intro W hSw
      (try dsimp only at hSw)
      go_simp
      (try with_reducible rfl)
    try simp only [Act.put, List.setIfInBounds_toArray, List.set_cons_zero, List.set_cons_succ]
    refine wpAnyH_take (i := 8) (oi := { dst := _, op := _, type := _, pos := _, after := _, guard := _ }) (v := ?_) rfl (by kernel_rfl) (by kernel_rfl) (by kernel_rfl) (fun _ _ _ h => h) (Or.inl ⟨by rfl, ?_⟩) (by assumption) ?_
    rotate_left
    · intro W hSw
      (try dsimp only at hSw)
      go_simp
      (try with_reducible rfl)
    try simp only [Act.put, List.setIfInBounds_toArray, List.set_cons_zero, List.set_cons_succ]
    refine wpAnyH_take (i := 9) (oi := { dst := _, op := _, type := _, pos := _, after := _, guard := _ }) (v := ?_) rfl (by kernel_rfl) (by kernel_rfl) (by kernel_rfl) (fun _ _ _ h => h) (Or.inl ⟨by rfl, ?_⟩) (by assumption) ?_
    rotate_left
    · intro W hSw
      (try dsimp only at hSw)
      go_simp
      (try with_reducible rfl)
    try simp only [Act.put, List.setIfInBounds_toArray, List.set_cons_zero, List.set_cons_succ]
    refine wpAnyH_take (i := 10) (oi := { dst := _, op := _, type := _, pos := _, after := _, guard := _ }) (v := ?_) rfl (by kernel_rfl) (by kernel_rfl) (by kernel_rfl) (fun _ _ _ h => h) (Or.inl ⟨by rfl, ?_⟩) (by assumption) ?_
    rotate_left
    · intro W hSw
      (try dsimp only at hSw)
      go_simp
      (try with_reducible rfl)
    try simp only [Act.put, List.setIfInBounds_toArray, List.set_cons_zero, List.set_cons_succ]
    refine wpAnyH_take (i := 11) (oi := { dst := _, op := _, type := _, pos := _, after := _, guard := _ }) (v := ?_) rfl (by kernel_rfl) (by kernel_rfl) (by kernel_rfl) (fun _ _ _ h => h) (Or.inl ⟨by rfl, ?_⟩) (by assumption) ?_
    rotate_left
    · intro W hSw
      (try dsimp only at hSw)
      go_simp
      (try with_reducible rfl)
    try simp only [Act.put, List.setIfInBounds_toArray, List.set_cons_zero, List.set_cons_succ]
    refine wpAnyH_take (i := 12) (oi := { dst := _, op := _, type := _, pos := _, after := _, guard := _ }) (v := ?_) rfl (by kernel_rfl) (by kernel_rfl) (by kernel_rfl) (fun _ _ _ h => h) (Or.inl ⟨by rfl, ?_⟩) (by assumption) ?_
    rotate_left
    · intro W hSw
      (try dsimp only at hSw)
      go_simp
      (try with_reducible rfl)
    try simp only [Act.put, List.setIfInBounds_toArray, List.set_cons_zero, List.set_cons_succ]
    refine wpAnyH_take (i := 13) (oi := { dst := _, op := _, type := _, pos := _, after := _, guard := _ }) (v := ?_) rfl (by kernel_rfl) (by kernel_rfl) (by kernel_rfl) (fun _ _ _ h => h) (Or.inl ⟨by rfl, ?_⟩) (by assumption) ?_
    rotate_left
    · intro W hSw
      (try dsimp only at hSw)
      go_simp
      (try with_reducible rfl)
    try simp only [Act.put, List.setIfInBounds_toArray, List.set_cons_zero, List.set_cons_succ]
    refine wpAnyH_ready (rs := [14]) (by kernel_rfl) (by simp) ?_
    refine AllReadyH.cons (o := { dst := _, op := _, type := _, pos := _, after := _, guard := _ }) rfl (fun K hK => ?_) AllReadyH.nil
    go_simp
    refine (C2.out _).mono ?_
    rintro e' w2 ⟨rfl, rfl⟩
    go_wp2_with fail
    refine hK.out _ _ ?_ (fun hHeld => ?_)
    · (try dsimp only)
      exact HP.out
    clear hK K
    try simp only [Act.put, List.setIfInBounds_toArray, List.set_cons_zero, List.set_cons_succ]
    refine wpAnyH_take (i := 15) (oi := { dst := _, op := _, type := _, pos := _, after := _, guard := _ }) (v := ?_) rfl (by kernel_rfl) (by kernel_rfl) (by kernel_rfl) (fun _ _ _ h => h) (Or.inl ⟨by rfl, ?_⟩) (by assumption) ?_
    rotate_left
    · intro W hSw
      (try dsimp only at hSw)
      go_simp
      (try with_reducible rfl)
    try simp only [Act.put, List.setIfInBounds_toArray, List.set_cons_zero, List.set_cons_succ]
    refine wpAnyH_ready (rs := [16]) (by kernel_rfl) (by simp) ?_
    refine AllReadyH.cons (o := { dst := _, op := _, type := _, pos := _, after := _, guard := _ }) rfl (fun K hK => ?_) AllReadyH.nil
    go_simp
    refine hK.out _ _ ?_ (fun hHeld => ?_)
    · (try dsimp only)
      exact HK.out _ _ _ _ (by assumption)
    clear hK K
    try simp only [Act.put, List.setIfInBounds_toArray, List.set_cons_zero, List.set_cons_succ]
    refine wpAnyH_take (i := 17) (oi := { dst := _, op := _, type := _, pos := _, after := _, guard := _ }) (v := ?_) rfl (by kernel_rfl) (by kernel_rfl) (by kernel_rfl) (fun _ _ _ h => h) (Or.inl ⟨by rfl, ?_⟩) (by assumption) ?_
    rotate_left
    · intro W hSw
      (try dsimp only at hSw)
      go_simp
      (try with_reducible rfl)
    try simp only [Act.put, List.setIfInBounds_toArray, List.set_cons_zero, List.set_cons_succ]
    refine wpAnyH_done (by kernel_rfl) ?_ _
    refine NoPanic.normal ?_
    clear hHeld HP HK wr wr2 C1 C2
    go_wp2_with fail
    (try simp only [Exit.inBlock, Exit.then])
    refine bodyPost_ret (v := .tuple #[ed (ca s.size p) (cd s.size p q) ins, .bool g]) ?_ rfl ⟨by rw [HG.out], ?_⟩
    · rw [results_cell_tmp rfl]; go_simp
    · exact Below.drew (bel_set3 B0.out (by simp) _ _ _)

theorem fit_any (s : ByteArray) (p q : Int) (ins : ByteArray) (w : World) (hs : s.size ≤ 140737488355328) (hi : ins.size ≤ 140737488355328) :
    Calls Try.prog 22 #[.string s, ed p q ins] w fun e w' => e = .returned (.tuple #[ed (ca s.size p) (cd s.size p q) ins, .bool (decide (okE s p q ins))]) ∧ Below w.heap.size w w' := by
  by_cases h : s.size ≤ 1048576
  · exact fit_small s p q ins w h hs hi
  · exact fit_big s p q ins w h hs hi

end Go.Proofs.Ytjpmmihcnfedgab
