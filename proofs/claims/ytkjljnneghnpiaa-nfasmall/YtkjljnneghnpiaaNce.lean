import Derived.Test.YtkjljnneghnpiaaNcd
namespace Go.Proofs.Ytkjljnneghnpiaa
open Go.RowKit Go.Maps

theorem mk_clss (c : Nat) (hc : c ≤ 1000) (W : World) : (Instr.makeSlice 22 (.int .i64 0) (.int .i64 (c : Int))).run Try.prog W = .ok (.slice (some ⟨W.heap.size, 0, none⟩) 0 c) (W.alloc (.cells (madeCells #[.int .u64 0, .int .u64 0, .int .u64 0, .int .u64 0] (c * 4)) 40)) := by
  obtain ⟨i0, hi, hz0, hz1, hz2⟩ := info_parts info40
  have h := run_make W 22 40 i0 _ Try.underlying22 hi hz0 .i64 .i64 0 (c : Int) (Int.le_refl _) (by omega) (by rw [hz2]; omega) (by omega)
  rw [hz1] at h
  simp only [Int.toNat_natCast, Int.toNat_zero] at h
  exact h
theorem mk_nums (c : Nat) (hc : c ≤ 1000) (W : World) : (Instr.makeSlice 23 (.int .i64 0) (.int .i64 (c : Int))).run Try.prog W = .ok (.slice (some ⟨W.heap.size, 0, none⟩) 0 c) (W.alloc (.cells (madeCells #[.int .i64 0] c) 3)) := mk_room c (by omega) W
theorem mk_rows (c : Nat) (hc : c ≤ 1000) (W : World) : (Instr.makeSlice 24 (.int .i64 0) (.int .i64 (c : Int))).run Try.prog W = .ok (.slice (some ⟨W.heap.size, 0, none⟩) 0 c) (W.alloc (.cells (madeCells #[.slice none 0 0] c) 23)) := by
  obtain ⟨i0, hi, hz0, hz1, hz2⟩ := info_parts info23
  have h := run_make W 24 23 i0 _ Try.underlying24 hi hz0 .i64 .i64 0 (c : Int) (Int.le_refl _) (by omega) (by rw [hz2]; omega) (by omega)
  rw [hz1] at h
  simp only [Int.toNat_natCast, Int.toNat_zero, Nat.mul_one] at h
  exact h
/-- What has been made of a new maker. -/
structure Mk3 (B : Nat) (W0 X : World) (c : Nat) (ra rb rc rv : Option Nat) : Prop where
  a : ∀ r, ra = some r → X.ownsRow B 40 4 (.slice (some ⟨r, 0, none⟩) 0 c) 0 []
  b : ∀ r, rb = some r → X.ownsRow B 3 1 (.slice (some ⟨r, 0, none⟩) 0 c) 0 []
  c' : ∀ r, rc = some r → X.ownsRow B 23 1 (.slice (some ⟨r, 0, none⟩) 0 c) 0 []
  v : ∀ r, rv = some r → X.heap[r]? = some (.cells #[.slice none 0 0, .slice none 0 0, .slice none 0 0, .int .i64 0, .int .i64 0] 26 (0, 0)) ∧ B ≤ r
  bel : Below B W0 X
  lB : B ≤ X.heap.size
section
variable {B : Nat} {W0 X : World} {c : Nat} {ra rb rc rv : Option Nat}
theorem Mk3.up (h : Mk3 B W0 X c ra rb rc rv) (o : Obj) : Mk3 B W0 (X.alloc o) c ra rb rc rv :=
  ⟨fun r e => (h.a r e).alloc _, fun r e => (h.b r e).alloc _, fun r e => (h.c' r e).alloc _, fun r e => ⟨(Below.heap_alloc _ _ _ (lt_of_heap (h.v r e).1)).trans (h.v r e).1, (h.v r e).2⟩, h.bel.trans ((bel_up _ _).mono h.lB), by have := h.lB; simp; omega⟩
theorem Mk3.mkA (hc : c ≤ 1000) (h : Mk3 B W0 X c none rb rc rv) : Mk3 B W0 (X.alloc (.cells (madeCells #[.int .u64 0, .int .u64 0, .int .u64 0, .int .u64 0] (c * 4)) 40)) c (some X.heap.size) rb rc rv := by
  have h1 := h.up (.cells (madeCells #[.int .u64 0, .int .u64 0, .int .u64 0, .int .u64 0] (c * 4)) 40)
  exact ⟨fun r e => by cases e; exact World.ownsRow_made X _ _ h.lB (by unfold maxLen; omega) (by rw [size_madeCells]), h1.b, h1.c', h1.v, h1.bel, h1.lB⟩
theorem Mk3.mkB (hc : c ≤ 1000) (h : Mk3 B W0 X c ra none rc rv) : Mk3 B W0 (X.alloc (.cells (madeCells #[.int .i64 0] c) 3)) c ra (some X.heap.size) rc rv := by
  have h1 := h.up (.cells (madeCells #[.int .i64 0] c) 3)
  exact ⟨h1.a, fun r e => by cases e; exact World.ownsRow_made X _ _ h.lB (by unfold maxLen; omega) (by rw [size_madeCells]; omega), h1.c', h1.v, h1.bel, h1.lB⟩
theorem Mk3.mkC (hc : c ≤ 1000) (h : Mk3 B W0 X c ra rb none rv) : Mk3 B W0 (X.alloc (.cells (madeCells #[.slice none 0 0] c) 23)) c ra rb (some X.heap.size) rv := by
  have h1 := h.up (.cells (madeCells #[.slice none 0 0] c) 23)
  exact ⟨h1.a, h1.b, fun r e => by cases e; exact World.ownsRow_made X _ _ h.lB (by unfold maxLen; omega) (by rw [size_madeCells]; omega), h1.v, h1.bel, h1.lB⟩
theorem Mk3.mkV (_ : c ≤ 1000) (h : Mk3 B W0 X c ra rb rc none) : Mk3 B W0 (X.alloc (.cells #[.slice none 0 0, .slice none 0 0, .slice none 0 0, .int .i64 0, .int .i64 0] 26)) c ra rb rc (some X.heap.size) := by
  have h1 := h.up (.cells #[.slice none 0 0, .slice none 0 0, .slice none 0 0, .int .i64 0, .int .i64 0] 26)
  exact ⟨h1.a, h1.b, h1.c', fun r e => by cases e; exact ⟨World.alloc_heap_new X _, h.lB⟩, h1.bel, h1.lB⟩
theorem Mk3.vv (h : Mk3 B W0 X c ra rb rc rv) (r : Nat) (e : rv = some r) : X.cell? ⟨r, 0, none⟩ = some (.slice none 0 0) ∧ X.cell? ⟨r, 1, none⟩ = some (.slice none 0 0) ∧ X.cell? ⟨r, 2, none⟩ = some (.slice none 0 0) ∧ X.cell? ⟨r, 3, none⟩ = some (.int .i64 0) ∧ X.cell? ⟨r, 4, none⟩ = some (.int .i64 0) ∧ ∀ o, X.frozen? ⟨r, o, none⟩ = false := by
  obtain ⟨h1, _⟩ := h.v r e
  exact ⟨by rw [Lib.cell_of_heap h1]; rfl, by rw [Lib.cell_of_heap h1]; rfl, by rw [Lib.cell_of_heap h1]; rfl, by rw [Lib.cell_of_heap h1]; rfl, by rw [Lib.cell_of_heap h1]; rfl, fun o => Lib.frozen_of_heap h1 o⟩
/-- The five cells stored. -/
abbrev set5 (X : World) (v a b d c : Nat) : World := ((((X.setCell ⟨v, 0, none⟩ (.slice (some ⟨a, 0, none⟩) 0 c)).setCell ⟨v, 1, none⟩ (.slice (some ⟨b, 0, none⟩) 0 c)).setCell ⟨v, 2, none⟩ (.slice (some ⟨d, 0, none⟩) 0 c)).setCell ⟨v, 3, none⟩ (.int .i64 0)).setCell ⟨v, 4, none⟩ (.int .i64 0)
theorem Mk3.fin {a b d v : Nat} (h : Mk3 B W0 X c (some a) (some b) (some d) (some v)) : ∃ v' a' b' d', Value.pointer (some ⟨v, 0, none⟩) = .pointer (some ⟨v', 0, none⟩) ∧ (set5 X v a b d c).heap[v']? = some (.cells #[.slice (some ⟨a', 0, none⟩) 0 c, .slice (some ⟨b', 0, none⟩) 0 c, .slice (some ⟨d', 0, none⟩) 0 c, .int .i64 0, .int .i64 0] 26 (0, 0)) ∧
    (set5 X v a b d c).ownsRow B 40 4 (.slice (some ⟨a', 0, none⟩) 0 c) 0 [] ∧ (set5 X v a b d c).ownsRow B 3 1 (.slice (some ⟨b', 0, none⟩) 0 c) 0 [] ∧ (set5 X v a b d c).ownsRow B 23 1 (.slice (some ⟨d', 0, none⟩) 0 c) 0 [] ∧ Below B W0 (set5 X v a b d c) ∧ B ≤ (set5 X v a b d c).heap.size := by
  obtain ⟨h1, h2⟩ := h.v v rfl
  have e : ∀ A B' C : World, A.grownBy B' (some v) → B'.grownBy C (some v) → A.grownBy C (some v) := fun A B' C k1 k2 => grown_up k1 k2 (fun r e => by cases e; exact .inl rfl)
  have hg : X.grownBy (set5 X v a b d c) (some v) := e _ _ _ (e _ _ _ (e _ _ _ (e _ _ _ grown_set grown_set) grown_set) grown_set) grown_set
  refine ⟨v, a, b, d, rfl, ?_, (h.a a rfl).kept hg (.inr (tag_ne_blk (h.a a rfl) h1 (by decide))), (h.b b rfl).kept hg (.inr (tag_ne_blk (h.b b rfl) h1 (by decide))), (h.c' d rfl).kept hg (.inr (tag_ne_blk (h.c' d rfl) h1 (by decide))), h.bel.grown hg h.lB (fun k e => by cases e; exact h2), Nat.le_trans h.lB hg.size⟩
  rw [blk_set _ (blk_set _ (blk_set _ (blk_set _ (blk_set _ h1))))]
  rfl
end

set_option maxRecDepth 100000 in
set_option maxHeartbeats 8000000 in
theorem newMaker_any (ao : Option Addr) (n cap : Nat) (hn : n ≤ 128) (W : World) :
    Calls Try.prog 31 #[.slice ao n cap] W fun e w' => ∃ bk, e = .returned (.pointer (some ⟨bk, 0, none⟩)) ∧ MkM W.heap.size w' bk ⟨[], [], []⟩ 0 0 (.slice ao n cap) ∧ Below W.heap.size W w' := by
  obtain ⟨c, hc⟩ : ∃ c, n + 1 = c := ⟨_, rfl⟩
  have HC : Hid (c ≤ 1000) := by show c ≤ 1000; omega
  have h1 := mk_clss c HC.out
  have h2 := mk_nums c HC.out
  have h3 := mk_rows c HC.out
  have hcc : (n : Int) + 1 = (c : Int) := by omega
  have hw : wrap64 ((n : Int) + 1) = (c : Int) := by rw [hcc]; exact w64n c (by omega)
  have HCC : Hid ((n : Int) + 1 = (c : Int)) := hcc
  clear hcc hc
  go_enter Try.func31, Try.ntmps31
  go_upto_region 2 with fail
  (try rw [HCC.out])
  go_cut [4] from 8 (fun v wr => ∃ v' a' b' d', v = .pointer (some ⟨v', 0, none⟩) ∧ wr.heap[v']? = some (.cells #[.slice (some ⟨a', 0, none⟩) 0 c, .slice (some ⟨b', 0, none⟩) 0 c, .slice (some ⟨d', 0, none⟩) 0 c, .int .i64 0, .int .i64 0] 26 (0, 0)) ∧ wr.ownsRow W.heap.size 40 4 (.slice (some ⟨a', 0, none⟩) 0 c) 0 [] ∧ wr.ownsRow W.heap.size 3 1 (.slice (some ⟨b', 0, none⟩) 0 c) 0 [] ∧ wr.ownsRow W.heap.size 23 1 (.slice (some ⟨d', 0, none⟩) 0 c) 0 [] ∧ Below W.heap.size W wr ∧ W.heap.size ≤ wr.heap.size)
  case first =>
    obtain ⟨WD, hWD⟩ : ∃ WD, W.drew = WD := ⟨_, rfl⟩
    have HX0 : Hid (Mk3 W.heap.size W WD c none none none none) := by
      rw [← hWD]
      exact ⟨fun r e => (by cases e), fun r e => (by cases e), fun r e => (by cases e), fun r e => (by cases e), Below.drew (Below.refl _ _), Nat.le_refl _⟩
    refine wp_region_noPanic ?_
    refine wp_region_held_drew (S := fun _ => True) (by kernel_rfl) trivial (fun hHeld => ?_)
    rw [hWD]
    clear hWD hw
    refine wpAnyH_take (i := 0) (oi := { dst := _, op := _, type := _, pos := _, after := _, guard := _ }) (v := ?_) rfl (by kernel_rfl) (by kernel_rfl) (by kernel_rfl) (fun _ _ _ h => h) (Or.inl ⟨by rfl, ?_⟩) (by assumption) ?_
    rotate_left
    · intro W hSw
      (try dsimp only at hSw)
      go_simp
      (try with_reducible rfl)
    try simp only [Act.put, List.setIfInBounds_toArray, List.set_cons_zero, List.set_cons_succ]
    refine wpAnyH_take (i := 2) (oi := { dst := _, op := _, type := _, pos := _, after := _, guard := _ }) (v := ?_) rfl (by kernel_rfl) (by kernel_rfl) (by kernel_rfl) (fun _ _ _ h => h) (Or.inl ⟨by rfl, ?_⟩) (by assumption) ?_
    rotate_left
    · intro W hSw
      (try dsimp only at hSw)
      go_simp
      (try with_reducible rfl)
    try simp only [Act.put, List.setIfInBounds_toArray, List.set_cons_zero, List.set_cons_succ]
    refine wpAnyH_take (i := 4) (oi := { dst := _, op := _, type := _, pos := _, after := _, guard := _ }) (v := ?_) rfl (by kernel_rfl) (by kernel_rfl) (by kernel_rfl) (fun _ _ _ h => h) (Or.inl ⟨by rfl, ?_⟩) (by assumption) ?_
    rotate_left
    · intro W hSw
      (try dsimp only at hSw)
      go_simp
      (try with_reducible rfl)
    try simp only [Act.put, List.setIfInBounds_toArray, List.set_cons_zero, List.set_cons_succ]
    refine wpAnyH_ready (rs := [1, 3, 5, 7]) (by kernel_rfl) (by simp) ?_
    refine AllReadyH.cons (o := { dst := _, op := _, type := _, pos := _, after := _, guard := _ }) rfl (fun K hK => ?_) (AllReadyH.cons (o := { dst := _, op := _, type := _, pos := _, after := _, guard := _ }) rfl (fun K hK => ?_) (AllReadyH.cons (o := { dst := _, op := _, type := _, pos := _, after := _, guard := _ }) rfl (fun K hK => ?_) (AllReadyH.cons (o := { dst := _, op := _, type := _, pos := _, after := _, guard := _ }) rfl (fun K hK => ?_) (AllReadyH.nil))))
    · go_simp
      refine hK.out _ _ ?_ (fun hHeld => ?_)
      · exact trivial
      clear hK K
      try simp only [Act.put, List.setIfInBounds_toArray, List.set_cons_zero, List.set_cons_succ]
      have HX1 : Hid _ := Mk3.mkA HC.out HX0.out
      (try clear c0 c1 c2 c3 c4 ff)
      refine wpAnyH_ready (rs := [3, 5, 7]) (by kernel_rfl) (by simp) ?_
      refine AllReadyH.cons (o := { dst := _, op := _, type := _, pos := _, after := _, guard := _ }) rfl (fun K hK => ?_) (AllReadyH.cons (o := { dst := _, op := _, type := _, pos := _, after := _, guard := _ }) rfl (fun K hK => ?_) (AllReadyH.cons (o := { dst := _, op := _, type := _, pos := _, after := _, guard := _ }) rfl (fun K hK => ?_) (AllReadyH.nil)))
      · go_simp
        refine hK.out _ _ ?_ (fun hHeld => ?_)
        · exact trivial
        clear hK K
        try simp only [Act.put, List.setIfInBounds_toArray, List.set_cons_zero, List.set_cons_succ]
        have HX2 : Hid _ := Mk3.mkB HC.out HX1.out
        (try clear c0 c1 c2 c3 c4 ff)
        refine wpAnyH_ready (rs := [5, 7]) (by kernel_rfl) (by simp) ?_
        refine AllReadyH.cons (o := { dst := _, op := _, type := _, pos := _, after := _, guard := _ }) rfl (fun K hK => ?_) (AllReadyH.cons (o := { dst := _, op := _, type := _, pos := _, after := _, guard := _ }) rfl (fun K hK => ?_) (AllReadyH.nil))
        · go_simp
          refine hK.out _ _ ?_ (fun hHeld => ?_)
          · exact trivial
          clear hK K
          try simp only [Act.put, List.setIfInBounds_toArray, List.set_cons_zero, List.set_cons_succ]
          have HX3 : Hid _ := Mk3.mkC HC.out HX2.out
          (try clear c0 c1 c2 c3 c4 ff)
          refine wpAnyH_take (i := 6) (oi := { dst := _, op := _, type := _, pos := _, after := _, guard := _ }) (v := ?_) rfl (by kernel_rfl) (by kernel_rfl) (by kernel_rfl) (fun _ _ _ h => h) (Or.inl ⟨by rfl, ?_⟩) (by assumption) ?_
          rotate_left
          · intro W hSw
            (try dsimp only at hSw)
            go_simp
            (try with_reducible rfl)
          try simp only [Act.put, List.setIfInBounds_toArray, List.set_cons_zero, List.set_cons_succ]
          refine wpAnyH_ready (rs := [7]) (by kernel_rfl) (by simp) ?_
          refine AllReadyH.cons (o := { dst := _, op := _, type := _, pos := _, after := _, guard := _ }) rfl (fun K hK => ?_) AllReadyH.nil
          go_simp
          refine hK.out _ _ ?_ (fun hHeld => ?_)
          · exact trivial
          clear hK K
          try simp only [Act.put, List.setIfInBounds_toArray, List.set_cons_zero, List.set_cons_succ]
          have HX4 : Hid _ := Mk3.mkV HC.out HX3.out
          (try clear c0 c1 c2 c3 c4 ff)
          refine wpAnyH_ready (rs := [8]) (by kernel_rfl) (by simp) ?_
          refine AllReadyH.cons (o := { dst := _, op := _, type := _, pos := _, after := _, guard := _ }) rfl (fun K hK => ?_) AllReadyH.nil
          have hE := HX4.out
          (try simp only [World.size_alloc] at hE)
          obtain ⟨Xn, hXn⟩ : ∃ Xn, Xn = (((WD.alloc (.cells (madeCells #[.int .u64 0, .int .u64 0, .int .u64 0, .int .u64 0] (c * 4)) 40)).alloc (.cells (madeCells #[.int .i64 0] c) 3)).alloc (.cells (madeCells #[.slice none 0 0] c) 23)).alloc (.cells #[.slice none 0 0, .slice none 0 0, .slice none 0 0, .int .i64 0, .int .i64 0] 26) := ⟨_, rfl⟩
          rw [← hXn] at hE ⊢
          clear hXn
          have ⟨c0, c1, c2, c3, c4, ff⟩ := hE.vv _ rfl
          have HE : Hid _ := hE
          clear hE
          go_simp
          refine hK.out _ _ ?_ (fun hHeld => ?_)
          · exact trivial
          clear hK K
          try simp only [Act.put, List.setIfInBounds_toArray, List.set_cons_zero, List.set_cons_succ]
          refine wpAnyH_done (by kernel_rfl) ?_ _
          clear hHeld
          refine NoPanic.normal ?_
          clear c0 c1 c2 c3 c4 ff
          go_wp2_with fail
          go_meet
          exact Mk3.fin HE.out
        · go_simp
          refine hK.out _ _ ?_ (fun hHeld => ?_)
          · exact trivial
          clear hK K
          try simp only [Act.put, List.setIfInBounds_toArray, List.set_cons_zero, List.set_cons_succ]
          have HX3 : Hid _ := Mk3.mkV HC.out HX2.out
          (try clear c0 c1 c2 c3 c4 ff)
          refine wpAnyH_ready (rs := [5]) (by kernel_rfl) (by simp) ?_
          refine AllReadyH.cons (o := { dst := _, op := _, type := _, pos := _, after := _, guard := _ }) rfl (fun K hK => ?_) AllReadyH.nil
          go_simp
          refine hK.out _ _ ?_ (fun hHeld => ?_)
          · exact trivial
          clear hK K
          try simp only [Act.put, List.setIfInBounds_toArray, List.set_cons_zero, List.set_cons_succ]
          have HX4 : Hid _ := Mk3.mkC HC.out HX3.out
          (try clear c0 c1 c2 c3 c4 ff)
          refine wpAnyH_take (i := 6) (oi := { dst := _, op := _, type := _, pos := _, after := _, guard := _ }) (v := ?_) rfl (by kernel_rfl) (by kernel_rfl) (by kernel_rfl) (fun _ _ _ h => h) (Or.inl ⟨by rfl, ?_⟩) (by assumption) ?_
          rotate_left
          · intro W hSw
            (try dsimp only at hSw)
            go_simp
            (try with_reducible rfl)
          try simp only [Act.put, List.setIfInBounds_toArray, List.set_cons_zero, List.set_cons_succ]
          refine wpAnyH_ready (rs := [8]) (by kernel_rfl) (by simp) ?_
          refine AllReadyH.cons (o := { dst := _, op := _, type := _, pos := _, after := _, guard := _ }) rfl (fun K hK => ?_) AllReadyH.nil
          have hE := HX4.out
          (try simp only [World.size_alloc] at hE)
          obtain ⟨Xn, hXn⟩ : ∃ Xn, Xn = (((WD.alloc (.cells (madeCells #[.int .u64 0, .int .u64 0, .int .u64 0, .int .u64 0] (c * 4)) 40)).alloc (.cells (madeCells #[.int .i64 0] c) 3)).alloc (.cells #[.slice none 0 0, .slice none 0 0, .slice none 0 0, .int .i64 0, .int .i64 0] 26)).alloc (.cells (madeCells #[.slice none 0 0] c) 23) := ⟨_, rfl⟩
          rw [← hXn] at hE ⊢
          clear hXn
          have ⟨c0, c1, c2, c3, c4, ff⟩ := hE.vv _ rfl
          have HE : Hid _ := hE
          clear hE
          go_simp
          refine hK.out _ _ ?_ (fun hHeld => ?_)
          · exact trivial
          clear hK K
          try simp only [Act.put, List.setIfInBounds_toArray, List.set_cons_zero, List.set_cons_succ]
          refine wpAnyH_done (by kernel_rfl) ?_ _
          clear hHeld
          refine NoPanic.normal ?_
          clear c0 c1 c2 c3 c4 ff
          go_wp2_with fail
          go_meet
          exact Mk3.fin HE.out
      · go_simp
        refine hK.out _ _ ?_ (fun hHeld => ?_)
        · exact trivial
        clear hK K
        try simp only [Act.put, List.setIfInBounds_toArray, List.set_cons_zero, List.set_cons_succ]
        have HX2 : Hid _ := Mk3.mkC HC.out HX1.out
        (try clear c0 c1 c2 c3 c4 ff)
        refine wpAnyH_ready (rs := [3, 7]) (by kernel_rfl) (by simp) ?_
        refine AllReadyH.cons (o := { dst := _, op := _, type := _, pos := _, after := _, guard := _ }) rfl (fun K hK => ?_) (AllReadyH.cons (o := { dst := _, op := _, type := _, pos := _, after := _, guard := _ }) rfl (fun K hK => ?_) (AllReadyH.nil))
        · go_simp
          refine hK.out _ _ ?_ (fun hHeld => ?_)
          · exact trivial
          clear hK K
          try simp only [Act.put, List.setIfInBounds_toArray, List.set_cons_zero, List.set_cons_succ]
          have HX3 : Hid _ := Mk3.mkB HC.out HX2.out
          (try clear c0 c1 c2 c3 c4 ff)
          refine wpAnyH_take (i := 6) (oi := { dst := _, op := _, type := _, pos := _, after := _, guard := _ }) (v := ?_) rfl (by kernel_rfl) (by kernel_rfl) (by kernel_rfl) (fun _ _ _ h => h) (Or.inl ⟨by rfl, ?_⟩) (by assumption) ?_
          rotate_left
          · intro W hSw
            (try dsimp only at hSw)
            go_simp
            (try with_reducible rfl)
          try simp only [Act.put, List.setIfInBounds_toArray, List.set_cons_zero, List.set_cons_succ]
          refine wpAnyH_ready (rs := [7]) (by kernel_rfl) (by simp) ?_
          refine AllReadyH.cons (o := { dst := _, op := _, type := _, pos := _, after := _, guard := _ }) rfl (fun K hK => ?_) AllReadyH.nil
          go_simp
          refine hK.out _ _ ?_ (fun hHeld => ?_)
          · exact trivial
          clear hK K
          try simp only [Act.put, List.setIfInBounds_toArray, List.set_cons_zero, List.set_cons_succ]
          have HX4 : Hid _ := Mk3.mkV HC.out HX3.out
          (try clear c0 c1 c2 c3 c4 ff)
          refine wpAnyH_ready (rs := [8]) (by kernel_rfl) (by simp) ?_
          refine AllReadyH.cons (o := { dst := _, op := _, type := _, pos := _, after := _, guard := _ }) rfl (fun K hK => ?_) AllReadyH.nil
          have hE := HX4.out
          (try simp only [World.size_alloc] at hE)
          obtain ⟨Xn, hXn⟩ : ∃ Xn, Xn = (((WD.alloc (.cells (madeCells #[.int .u64 0, .int .u64 0, .int .u64 0, .int .u64 0] (c * 4)) 40)).alloc (.cells (madeCells #[.slice none 0 0] c) 23)).alloc (.cells (madeCells #[.int .i64 0] c) 3)).alloc (.cells #[.slice none 0 0, .slice none 0 0, .slice none 0 0, .int .i64 0, .int .i64 0] 26) := ⟨_, rfl⟩
          rw [← hXn] at hE ⊢
          clear hXn
          have ⟨c0, c1, c2, c3, c4, ff⟩ := hE.vv _ rfl
          have HE : Hid _ := hE
          clear hE
          go_simp
          refine hK.out _ _ ?_ (fun hHeld => ?_)
          · exact trivial
          clear hK K
          try simp only [Act.put, List.setIfInBounds_toArray, List.set_cons_zero, List.set_cons_succ]
          refine wpAnyH_done (by kernel_rfl) ?_ _
          clear hHeld
          refine NoPanic.normal ?_
          clear c0 c1 c2 c3 c4 ff
          go_wp2_with fail
          go_meet
          exact Mk3.fin HE.out
        · go_simp
          refine hK.out _ _ ?_ (fun hHeld => ?_)
          · exact trivial
          clear hK K
          try simp only [Act.put, List.setIfInBounds_toArray, List.set_cons_zero, List.set_cons_succ]
          have HX3 : Hid _ := Mk3.mkV HC.out HX2.out
          (try clear c0 c1 c2 c3 c4 ff)
          refine wpAnyH_ready (rs := [3]) (by kernel_rfl) (by simp) ?_
          refine AllReadyH.cons (o := { dst := _, op := _, type := _, pos := _, after := _, guard := _ }) rfl (fun K hK => ?_) AllReadyH.nil
          go_simp
          refine hK.out _ _ ?_ (fun hHeld => ?_)
          · exact trivial
          clear hK K
          try simp only [Act.put, List.setIfInBounds_toArray, List.set_cons_zero, List.set_cons_succ]
          have HX4 : Hid _ := Mk3.mkB HC.out HX3.out
          (try clear c0 c1 c2 c3 c4 ff)
          refine wpAnyH_take (i := 6) (oi := { dst := _, op := _, type := _, pos := _, after := _, guard := _ }) (v := ?_) rfl (by kernel_rfl) (by kernel_rfl) (by kernel_rfl) (fun _ _ _ h => h) (Or.inl ⟨by rfl, ?_⟩) (by assumption) ?_
          rotate_left
          · intro W hSw
            (try dsimp only at hSw)
            go_simp
            (try with_reducible rfl)
          try simp only [Act.put, List.setIfInBounds_toArray, List.set_cons_zero, List.set_cons_succ]
          refine wpAnyH_ready (rs := [8]) (by kernel_rfl) (by simp) ?_
          refine AllReadyH.cons (o := { dst := _, op := _, type := _, pos := _, after := _, guard := _ }) rfl (fun K hK => ?_) AllReadyH.nil
          have hE := HX4.out
          (try simp only [World.size_alloc] at hE)
          obtain ⟨Xn, hXn⟩ : ∃ Xn, Xn = (((WD.alloc (.cells (madeCells #[.int .u64 0, .int .u64 0, .int .u64 0, .int .u64 0] (c * 4)) 40)).alloc (.cells (madeCells #[.slice none 0 0] c) 23)).alloc (.cells #[.slice none 0 0, .slice none 0 0, .slice none 0 0, .int .i64 0, .int .i64 0] 26)).alloc (.cells (madeCells #[.int .i64 0] c) 3) := ⟨_, rfl⟩
          rw [← hXn] at hE ⊢
          clear hXn
          have ⟨c0, c1, c2, c3, c4, ff⟩ := hE.vv _ rfl
          have HE : Hid _ := hE
          clear hE
          go_simp
          refine hK.out _ _ ?_ (fun hHeld => ?_)
          · exact trivial
          clear hK K
          try simp only [Act.put, List.setIfInBounds_toArray, List.set_cons_zero, List.set_cons_succ]
          refine wpAnyH_done (by kernel_rfl) ?_ _
          clear hHeld
          refine NoPanic.normal ?_
          clear c0 c1 c2 c3 c4 ff
          go_wp2_with fail
          go_meet
          exact Mk3.fin HE.out
      · go_simp
        refine hK.out _ _ ?_ (fun hHeld => ?_)
        · exact trivial
        clear hK K
        try simp only [Act.put, List.setIfInBounds_toArray, List.set_cons_zero, List.set_cons_succ]
        have HX2 : Hid _ := Mk3.mkV HC.out HX1.out
        (try clear c0 c1 c2 c3 c4 ff)
        refine wpAnyH_ready (rs := [3, 5]) (by kernel_rfl) (by simp) ?_
        refine AllReadyH.cons (o := { dst := _, op := _, type := _, pos := _, after := _, guard := _ }) rfl (fun K hK => ?_) (AllReadyH.cons (o := { dst := _, op := _, type := _, pos := _, after := _, guard := _ }) rfl (fun K hK => ?_) (AllReadyH.nil))
        · go_simp
          refine hK.out _ _ ?_ (fun hHeld => ?_)
          · exact trivial
          clear hK K
          try simp only [Act.put, List.setIfInBounds_toArray, List.set_cons_zero, List.set_cons_succ]
          have HX3 : Hid _ := Mk3.mkB HC.out HX2.out
          (try clear c0 c1 c2 c3 c4 ff)
          refine wpAnyH_ready (rs := [5]) (by kernel_rfl) (by simp) ?_
          refine AllReadyH.cons (o := { dst := _, op := _, type := _, pos := _, after := _, guard := _ }) rfl (fun K hK => ?_) AllReadyH.nil
          go_simp
          refine hK.out _ _ ?_ (fun hHeld => ?_)
          · exact trivial
          clear hK K
          try simp only [Act.put, List.setIfInBounds_toArray, List.set_cons_zero, List.set_cons_succ]
          have HX4 : Hid _ := Mk3.mkC HC.out HX3.out
          (try clear c0 c1 c2 c3 c4 ff)
          refine wpAnyH_take (i := 6) (oi := { dst := _, op := _, type := _, pos := _, after := _, guard := _ }) (v := ?_) rfl (by kernel_rfl) (by kernel_rfl) (by kernel_rfl) (fun _ _ _ h => h) (Or.inl ⟨by rfl, ?_⟩) (by assumption) ?_
          rotate_left
          · intro W hSw
            (try dsimp only at hSw)
            go_simp
            (try with_reducible rfl)
          try simp only [Act.put, List.setIfInBounds_toArray, List.set_cons_zero, List.set_cons_succ]
          refine wpAnyH_ready (rs := [8]) (by kernel_rfl) (by simp) ?_
          refine AllReadyH.cons (o := { dst := _, op := _, type := _, pos := _, after := _, guard := _ }) rfl (fun K hK => ?_) AllReadyH.nil
          have hE := HX4.out
          (try simp only [World.size_alloc] at hE)
          obtain ⟨Xn, hXn⟩ : ∃ Xn, Xn = (((WD.alloc (.cells (madeCells #[.int .u64 0, .int .u64 0, .int .u64 0, .int .u64 0] (c * 4)) 40)).alloc (.cells #[.slice none 0 0, .slice none 0 0, .slice none 0 0, .int .i64 0, .int .i64 0] 26)).alloc (.cells (madeCells #[.int .i64 0] c) 3)).alloc (.cells (madeCells #[.slice none 0 0] c) 23) := ⟨_, rfl⟩
          rw [← hXn] at hE ⊢
          clear hXn
          have ⟨c0, c1, c2, c3, c4, ff⟩ := hE.vv _ rfl
          have HE : Hid _ := hE
          clear hE
          go_simp
          refine hK.out _ _ ?_ (fun hHeld => ?_)
          · exact trivial
          clear hK K
          try simp only [Act.put, List.setIfInBounds_toArray, List.set_cons_zero, List.set_cons_succ]
          refine wpAnyH_done (by kernel_rfl) ?_ _
          clear hHeld
          refine NoPanic.normal ?_
          clear c0 c1 c2 c3 c4 ff
          go_wp2_with fail
          go_meet
          exact Mk3.fin HE.out
        · go_simp
          refine hK.out _ _ ?_ (fun hHeld => ?_)
          · exact trivial
          clear hK K
          try simp only [Act.put, List.setIfInBounds_toArray, List.set_cons_zero, List.set_cons_succ]
          have HX3 : Hid _ := Mk3.mkC HC.out HX2.out
          (try clear c0 c1 c2 c3 c4 ff)
          refine wpAnyH_ready (rs := [3]) (by kernel_rfl) (by simp) ?_
          refine AllReadyH.cons (o := { dst := _, op := _, type := _, pos := _, after := _, guard := _ }) rfl (fun K hK => ?_) AllReadyH.nil
          go_simp
          refine hK.out _ _ ?_ (fun hHeld => ?_)
          · exact trivial
          clear hK K
          try simp only [Act.put, List.setIfInBounds_toArray, List.set_cons_zero, List.set_cons_succ]
          have HX4 : Hid _ := Mk3.mkB HC.out HX3.out
          (try clear c0 c1 c2 c3 c4 ff)
          refine wpAnyH_take (i := 6) (oi := { dst := _, op := _, type := _, pos := _, after := _, guard := _ }) (v := ?_) rfl (by kernel_rfl) (by kernel_rfl) (by kernel_rfl) (fun _ _ _ h => h) (Or.inl ⟨by rfl, ?_⟩) (by assumption) ?_
          rotate_left
          · intro W hSw
            (try dsimp only at hSw)
            go_simp
            (try with_reducible rfl)
          try simp only [Act.put, List.setIfInBounds_toArray, List.set_cons_zero, List.set_cons_succ]
          refine wpAnyH_ready (rs := [8]) (by kernel_rfl) (by simp) ?_
          refine AllReadyH.cons (o := { dst := _, op := _, type := _, pos := _, after := _, guard := _ }) rfl (fun K hK => ?_) AllReadyH.nil
          have hE := HX4.out
          (try simp only [World.size_alloc] at hE)
          obtain ⟨Xn, hXn⟩ : ∃ Xn, Xn = (((WD.alloc (.cells (madeCells #[.int .u64 0, .int .u64 0, .int .u64 0, .int .u64 0] (c * 4)) 40)).alloc (.cells #[.slice none 0 0, .slice none 0 0, .slice none 0 0, .int .i64 0, .int .i64 0] 26)).alloc (.cells (madeCells #[.slice none 0 0] c) 23)).alloc (.cells (madeCells #[.int .i64 0] c) 3) := ⟨_, rfl⟩
          rw [← hXn] at hE ⊢
          clear hXn
          have ⟨c0, c1, c2, c3, c4, ff⟩ := hE.vv _ rfl
          have HE : Hid _ := hE
          clear hE
          go_simp
          refine hK.out _ _ ?_ (fun hHeld => ?_)
          · exact trivial
          clear hK K
          try simp only [Act.put, List.setIfInBounds_toArray, List.set_cons_zero, List.set_cons_succ]
          refine wpAnyH_done (by kernel_rfl) ?_ _
          clear hHeld
          refine NoPanic.normal ?_
          clear c0 c1 c2 c3 c4 ff
          go_wp2_with fail
          go_meet
          exact Mk3.fin HE.out
    · go_simp
      refine hK.out _ _ ?_ (fun hHeld => ?_)
      · exact trivial
      clear hK K
      try simp only [Act.put, List.setIfInBounds_toArray, List.set_cons_zero, List.set_cons_succ]
      have HX1 : Hid _ := Mk3.mkB HC.out HX0.out
      (try clear c0 c1 c2 c3 c4 ff)
      refine wpAnyH_ready (rs := [1, 5, 7]) (by kernel_rfl) (by simp) ?_
      refine AllReadyH.cons (o := { dst := _, op := _, type := _, pos := _, after := _, guard := _ }) rfl (fun K hK => ?_) (AllReadyH.cons (o := { dst := _, op := _, type := _, pos := _, after := _, guard := _ }) rfl (fun K hK => ?_) (AllReadyH.cons (o := { dst := _, op := _, type := _, pos := _, after := _, guard := _ }) rfl (fun K hK => ?_) (AllReadyH.nil)))
      · go_simp
        refine hK.out _ _ ?_ (fun hHeld => ?_)
        · exact trivial
        clear hK K
        try simp only [Act.put, List.setIfInBounds_toArray, List.set_cons_zero, List.set_cons_succ]
        have HX2 : Hid _ := Mk3.mkA HC.out HX1.out
        (try clear c0 c1 c2 c3 c4 ff)
        refine wpAnyH_ready (rs := [5, 7]) (by kernel_rfl) (by simp) ?_
        refine AllReadyH.cons (o := { dst := _, op := _, type := _, pos := _, after := _, guard := _ }) rfl (fun K hK => ?_) (AllReadyH.cons (o := { dst := _, op := _, type := _, pos := _, after := _, guard := _ }) rfl (fun K hK => ?_) (AllReadyH.nil))
        · go_simp
          refine hK.out _ _ ?_ (fun hHeld => ?_)
          · exact trivial
          clear hK K
          try simp only [Act.put, List.setIfInBounds_toArray, List.set_cons_zero, List.set_cons_succ]
          have HX3 : Hid _ := Mk3.mkC HC.out HX2.out
          (try clear c0 c1 c2 c3 c4 ff)
          refine wpAnyH_take (i := 6) (oi := { dst := _, op := _, type := _, pos := _, after := _, guard := _ }) (v := ?_) rfl (by kernel_rfl) (by kernel_rfl) (by kernel_rfl) (fun _ _ _ h => h) (Or.inl ⟨by rfl, ?_⟩) (by assumption) ?_
          rotate_left
          · intro W hSw
            (try dsimp only at hSw)
            go_simp
            (try with_reducible rfl)
          try simp only [Act.put, List.setIfInBounds_toArray, List.set_cons_zero, List.set_cons_succ]
          refine wpAnyH_ready (rs := [7]) (by kernel_rfl) (by simp) ?_
          refine AllReadyH.cons (o := { dst := _, op := _, type := _, pos := _, after := _, guard := _ }) rfl (fun K hK => ?_) AllReadyH.nil
          go_simp
          refine hK.out _ _ ?_ (fun hHeld => ?_)
          · exact trivial
          clear hK K
          try simp only [Act.put, List.setIfInBounds_toArray, List.set_cons_zero, List.set_cons_succ]
          have HX4 : Hid _ := Mk3.mkV HC.out HX3.out
          (try clear c0 c1 c2 c3 c4 ff)
          refine wpAnyH_ready (rs := [8]) (by kernel_rfl) (by simp) ?_
          refine AllReadyH.cons (o := { dst := _, op := _, type := _, pos := _, after := _, guard := _ }) rfl (fun K hK => ?_) AllReadyH.nil
          have hE := HX4.out
          (try simp only [World.size_alloc] at hE)
          obtain ⟨Xn, hXn⟩ : ∃ Xn, Xn = (((WD.alloc (.cells (madeCells #[.int .i64 0] c) 3)).alloc (.cells (madeCells #[.int .u64 0, .int .u64 0, .int .u64 0, .int .u64 0] (c * 4)) 40)).alloc (.cells (madeCells #[.slice none 0 0] c) 23)).alloc (.cells #[.slice none 0 0, .slice none 0 0, .slice none 0 0, .int .i64 0, .int .i64 0] 26) := ⟨_, rfl⟩
          rw [← hXn] at hE ⊢
          clear hXn
          have ⟨c0, c1, c2, c3, c4, ff⟩ := hE.vv _ rfl
          have HE : Hid _ := hE
          clear hE
          go_simp
          refine hK.out _ _ ?_ (fun hHeld => ?_)
          · exact trivial
          clear hK K
          try simp only [Act.put, List.setIfInBounds_toArray, List.set_cons_zero, List.set_cons_succ]
          refine wpAnyH_done (by kernel_rfl) ?_ _
          clear hHeld
          refine NoPanic.normal ?_
          clear c0 c1 c2 c3 c4 ff
          go_wp2_with fail
          go_meet
          exact Mk3.fin HE.out
        · go_simp
          refine hK.out _ _ ?_ (fun hHeld => ?_)
          · exact trivial
          clear hK K
          try simp only [Act.put, List.setIfInBounds_toArray, List.set_cons_zero, List.set_cons_succ]
          have HX3 : Hid _ := Mk3.mkV HC.out HX2.out
          (try clear c0 c1 c2 c3 c4 ff)
          refine wpAnyH_ready (rs := [5]) (by kernel_rfl) (by simp) ?_
          refine AllReadyH.cons (o := { dst := _, op := _, type := _, pos := _, after := _, guard := _ }) rfl (fun K hK => ?_) AllReadyH.nil
          go_simp
          refine hK.out _ _ ?_ (fun hHeld => ?_)
          · exact trivial
          clear hK K
          try simp only [Act.put, List.setIfInBounds_toArray, List.set_cons_zero, List.set_cons_succ]
          have HX4 : Hid _ := Mk3.mkC HC.out HX3.out
          (try clear c0 c1 c2 c3 c4 ff)
          refine wpAnyH_take (i := 6) (oi := { dst := _, op := _, type := _, pos := _, after := _, guard := _ }) (v := ?_) rfl (by kernel_rfl) (by kernel_rfl) (by kernel_rfl) (fun _ _ _ h => h) (Or.inl ⟨by rfl, ?_⟩) (by assumption) ?_
          rotate_left
          · intro W hSw
            (try dsimp only at hSw)
            go_simp
            (try with_reducible rfl)
          try simp only [Act.put, List.setIfInBounds_toArray, List.set_cons_zero, List.set_cons_succ]
          refine wpAnyH_ready (rs := [8]) (by kernel_rfl) (by simp) ?_
          refine AllReadyH.cons (o := { dst := _, op := _, type := _, pos := _, after := _, guard := _ }) rfl (fun K hK => ?_) AllReadyH.nil
          have hE := HX4.out
          (try simp only [World.size_alloc] at hE)
          obtain ⟨Xn, hXn⟩ : ∃ Xn, Xn = (((WD.alloc (.cells (madeCells #[.int .i64 0] c) 3)).alloc (.cells (madeCells #[.int .u64 0, .int .u64 0, .int .u64 0, .int .u64 0] (c * 4)) 40)).alloc (.cells #[.slice none 0 0, .slice none 0 0, .slice none 0 0, .int .i64 0, .int .i64 0] 26)).alloc (.cells (madeCells #[.slice none 0 0] c) 23) := ⟨_, rfl⟩
          rw [← hXn] at hE ⊢
          clear hXn
          have ⟨c0, c1, c2, c3, c4, ff⟩ := hE.vv _ rfl
          have HE : Hid _ := hE
          clear hE
          go_simp
          refine hK.out _ _ ?_ (fun hHeld => ?_)
          · exact trivial
          clear hK K
          try simp only [Act.put, List.setIfInBounds_toArray, List.set_cons_zero, List.set_cons_succ]
          refine wpAnyH_done (by kernel_rfl) ?_ _
          clear hHeld
          refine NoPanic.normal ?_
          clear c0 c1 c2 c3 c4 ff
          go_wp2_with fail
          go_meet
          exact Mk3.fin HE.out
      · go_simp
        refine hK.out _ _ ?_ (fun hHeld => ?_)
        · exact trivial
        clear hK K
        try simp only [Act.put, List.setIfInBounds_toArray, List.set_cons_zero, List.set_cons_succ]
        have HX2 : Hid _ := Mk3.mkC HC.out HX1.out
        (try clear c0 c1 c2 c3 c4 ff)
        refine wpAnyH_ready (rs := [1, 7]) (by kernel_rfl) (by simp) ?_
        refine AllReadyH.cons (o := { dst := _, op := _, type := _, pos := _, after := _, guard := _ }) rfl (fun K hK => ?_) (AllReadyH.cons (o := { dst := _, op := _, type := _, pos := _, after := _, guard := _ }) rfl (fun K hK => ?_) (AllReadyH.nil))
        · go_simp
          refine hK.out _ _ ?_ (fun hHeld => ?_)
          · exact trivial
          clear hK K
          try simp only [Act.put, List.setIfInBounds_toArray, List.set_cons_zero, List.set_cons_succ]
          have HX3 : Hid _ := Mk3.mkA HC.out HX2.out
          (try clear c0 c1 c2 c3 c4 ff)
          refine wpAnyH_take (i := 6) (oi := { dst := _, op := _, type := _, pos := _, after := _, guard := _ }) (v := ?_) rfl (by kernel_rfl) (by kernel_rfl) (by kernel_rfl) (fun _ _ _ h => h) (Or.inl ⟨by rfl, ?_⟩) (by assumption) ?_
          rotate_left
          · intro W hSw
            (try dsimp only at hSw)
            go_simp
            (try with_reducible rfl)
          try simp only [Act.put, List.setIfInBounds_toArray, List.set_cons_zero, List.set_cons_succ]
          refine wpAnyH_ready (rs := [7]) (by kernel_rfl) (by simp) ?_
          refine AllReadyH.cons (o := { dst := _, op := _, type := _, pos := _, after := _, guard := _ }) rfl (fun K hK => ?_) AllReadyH.nil
          go_simp
          refine hK.out _ _ ?_ (fun hHeld => ?_)
          · exact trivial
          clear hK K
          try simp only [Act.put, List.setIfInBounds_toArray, List.set_cons_zero, List.set_cons_succ]
          have HX4 : Hid _ := Mk3.mkV HC.out HX3.out
          (try clear c0 c1 c2 c3 c4 ff)
          refine wpAnyH_ready (rs := [8]) (by kernel_rfl) (by simp) ?_
          refine AllReadyH.cons (o := { dst := _, op := _, type := _, pos := _, after := _, guard := _ }) rfl (fun K hK => ?_) AllReadyH.nil
          have hE := HX4.out
          (try simp only [World.size_alloc] at hE)
          obtain ⟨Xn, hXn⟩ : ∃ Xn, Xn = (((WD.alloc (.cells (madeCells #[.int .i64 0] c) 3)).alloc (.cells (madeCells #[.slice none 0 0] c) 23)).alloc (.cells (madeCells #[.int .u64 0, .int .u64 0, .int .u64 0, .int .u64 0] (c * 4)) 40)).alloc (.cells #[.slice none 0 0, .slice none 0 0, .slice none 0 0, .int .i64 0, .int .i64 0] 26) := ⟨_, rfl⟩
          rw [← hXn] at hE ⊢
          clear hXn
          have ⟨c0, c1, c2, c3, c4, ff⟩ := hE.vv _ rfl
          have HE : Hid _ := hE
          clear hE
          go_simp
          refine hK.out _ _ ?_ (fun hHeld => ?_)
          · exact trivial
          clear hK K
          try simp only [Act.put, List.setIfInBounds_toArray, List.set_cons_zero, List.set_cons_succ]
          refine wpAnyH_done (by kernel_rfl) ?_ _
          clear hHeld
          refine NoPanic.normal ?_
          clear c0 c1 c2 c3 c4 ff
          go_wp2_with fail
          go_meet
          exact Mk3.fin HE.out
        · go_simp
          refine hK.out _ _ ?_ (fun hHeld => ?_)
          · exact trivial
          clear hK K
          try simp only [Act.put, List.setIfInBounds_toArray, List.set_cons_zero, List.set_cons_succ]
          have HX3 : Hid _ := Mk3.mkV HC.out HX2.out
          (try clear c0 c1 c2 c3 c4 ff)
          refine wpAnyH_ready (rs := [1]) (by kernel_rfl) (by simp) ?_
          refine AllReadyH.cons (o := { dst := _, op := _, type := _, pos := _, after := _, guard := _ }) rfl (fun K hK => ?_) AllReadyH.nil
          go_simp
          refine hK.out _ _ ?_ (fun hHeld => ?_)
          · exact trivial
          clear hK K
          try simp only [Act.put, List.setIfInBounds_toArray, List.set_cons_zero, List.set_cons_succ]
          have HX4 : Hid _ := Mk3.mkA HC.out HX3.out
          (try clear c0 c1 c2 c3 c4 ff)
          refine wpAnyH_take (i := 6) (oi := { dst := _, op := _, type := _, pos := _, after := _, guard := _ }) (v := ?_) rfl (by kernel_rfl) (by kernel_rfl) (by kernel_rfl) (fun _ _ _ h => h) (Or.inl ⟨by rfl, ?_⟩) (by assumption) ?_
          rotate_left
          · intro W hSw
            (try dsimp only at hSw)
            go_simp
            (try with_reducible rfl)
          try simp only [Act.put, List.setIfInBounds_toArray, List.set_cons_zero, List.set_cons_succ]
          refine wpAnyH_ready (rs := [8]) (by kernel_rfl) (by simp) ?_
          refine AllReadyH.cons (o := { dst := _, op := _, type := _, pos := _, after := _, guard := _ }) rfl (fun K hK => ?_) AllReadyH.nil
          have hE := HX4.out
          (try simp only [World.size_alloc] at hE)
          obtain ⟨Xn, hXn⟩ : ∃ Xn, Xn = (((WD.alloc (.cells (madeCells #[.int .i64 0] c) 3)).alloc (.cells (madeCells #[.slice none 0 0] c) 23)).alloc (.cells #[.slice none 0 0, .slice none 0 0, .slice none 0 0, .int .i64 0, .int .i64 0] 26)).alloc (.cells (madeCells #[.int .u64 0, .int .u64 0, .int .u64 0, .int .u64 0] (c * 4)) 40) := ⟨_, rfl⟩
          rw [← hXn] at hE ⊢
          clear hXn
          have ⟨c0, c1, c2, c3, c4, ff⟩ := hE.vv _ rfl
          have HE : Hid _ := hE
          clear hE
          go_simp
          refine hK.out _ _ ?_ (fun hHeld => ?_)
          · exact trivial
          clear hK K
          try simp only [Act.put, List.setIfInBounds_toArray, List.set_cons_zero, List.set_cons_succ]
          refine wpAnyH_done (by kernel_rfl) ?_ _
          clear hHeld
          refine NoPanic.normal ?_
          clear c0 c1 c2 c3 c4 ff
          go_wp2_with fail
          go_meet
          exact Mk3.fin HE.out
      · go_simp
        refine hK.out _ _ ?_ (fun hHeld => ?_)
        · exact trivial
        clear hK K
        try simp only [Act.put, List.setIfInBounds_toArray, List.set_cons_zero, List.set_cons_succ]
        have HX2 : Hid _ := Mk3.mkV HC.out HX1.out
        (try clear c0 c1 c2 c3 c4 ff)
        refine wpAnyH_ready (rs := [1, 5]) (by kernel_rfl) (by simp) ?_
        refine AllReadyH.cons (o := { dst := _, op := _, type := _, pos := _, after := _, guard := _ }) rfl (fun K hK => ?_) (AllReadyH.cons (o := { dst := _, op := _, type := _, pos := _, after := _, guard := _ }) rfl (fun K hK => ?_) (AllReadyH.nil))
        · go_simp
          refine hK.out _ _ ?_ (fun hHeld => ?_)
          · exact trivial
          clear hK K
          try simp only [Act.put, List.setIfInBounds_toArray, List.set_cons_zero, List.set_cons_succ]
          have HX3 : Hid _ := Mk3.mkA HC.out HX2.out
          (try clear c0 c1 c2 c3 c4 ff)
          refine wpAnyH_ready (rs := [5]) (by kernel_rfl) (by simp) ?_
          refine AllReadyH.cons (o := { dst := _, op := _, type := _, pos := _, after := _, guard := _ }) rfl (fun K hK => ?_) AllReadyH.nil
          go_simp
          refine hK.out _ _ ?_ (fun hHeld => ?_)
          · exact trivial
          clear hK K
          try simp only [Act.put, List.setIfInBounds_toArray, List.set_cons_zero, List.set_cons_succ]
          have HX4 : Hid _ := Mk3.mkC HC.out HX3.out
          (try clear c0 c1 c2 c3 c4 ff)
          refine wpAnyH_take (i := 6) (oi := { dst := _, op := _, type := _, pos := _, after := _, guard := _ }) (v := ?_) rfl (by kernel_rfl) (by kernel_rfl) (by kernel_rfl) (fun _ _ _ h => h) (Or.inl ⟨by rfl, ?_⟩) (by assumption) ?_
          rotate_left
          · intro W hSw
            (try dsimp only at hSw)
            go_simp
            (try with_reducible rfl)
          try simp only [Act.put, List.setIfInBounds_toArray, List.set_cons_zero, List.set_cons_succ]
          refine wpAnyH_ready (rs := [8]) (by kernel_rfl) (by simp) ?_
          refine AllReadyH.cons (o := { dst := _, op := _, type := _, pos := _, after := _, guard := _ }) rfl (fun K hK => ?_) AllReadyH.nil
          have hE := HX4.out
          (try simp only [World.size_alloc] at hE)
          obtain ⟨Xn, hXn⟩ : ∃ Xn, Xn = (((WD.alloc (.cells (madeCells #[.int .i64 0] c) 3)).alloc (.cells #[.slice none 0 0, .slice none 0 0, .slice none 0 0, .int .i64 0, .int .i64 0] 26)).alloc (.cells (madeCells #[.int .u64 0, .int .u64 0, .int .u64 0, .int .u64 0] (c * 4)) 40)).alloc (.cells (madeCells #[.slice none 0 0] c) 23) := ⟨_, rfl⟩
          rw [← hXn] at hE ⊢
          clear hXn
          have ⟨c0, c1, c2, c3, c4, ff⟩ := hE.vv _ rfl
          have HE : Hid _ := hE
          clear hE
          go_simp
          refine hK.out _ _ ?_ (fun hHeld => ?_)
          · exact trivial
          clear hK K
          try simp only [Act.put, List.setIfInBounds_toArray, List.set_cons_zero, List.set_cons_succ]
          refine wpAnyH_done (by kernel_rfl) ?_ _
          clear hHeld
          refine NoPanic.normal ?_
          clear c0 c1 c2 c3 c4 ff
          go_wp2_with fail
          go_meet
          exact Mk3.fin HE.out
        · go_simp
          refine hK.out _ _ ?_ (fun hHeld => ?_)
          · exact trivial
          clear hK K
          try simp only [Act.put, List.setIfInBounds_toArray, List.set_cons_zero, List.set_cons_succ]
          have HX3 : Hid _ := Mk3.mkC HC.out HX2.out
          (try clear c0 c1 c2 c3 c4 ff)
          refine wpAnyH_ready (rs := [1]) (by kernel_rfl) (by simp) ?_
          refine AllReadyH.cons (o := { dst := _, op := _, type := _, pos := _, after := _, guard := _ }) rfl (fun K hK => ?_) AllReadyH.nil
          go_simp
          refine hK.out _ _ ?_ (fun hHeld => ?_)
          · exact trivial
          clear hK K
          try simp only [Act.put, List.setIfInBounds_toArray, List.set_cons_zero, List.set_cons_succ]
          have HX4 : Hid _ := Mk3.mkA HC.out HX3.out
          (try clear c0 c1 c2 c3 c4 ff)
          refine wpAnyH_take (i := 6) (oi := { dst := _, op := _, type := _, pos := _, after := _, guard := _ }) (v := ?_) rfl (by kernel_rfl) (by kernel_rfl) (by kernel_rfl) (fun _ _ _ h => h) (Or.inl ⟨by rfl, ?_⟩) (by assumption) ?_
          rotate_left
          · intro W hSw
            (try dsimp only at hSw)
            go_simp
            (try with_reducible rfl)
          try simp only [Act.put, List.setIfInBounds_toArray, List.set_cons_zero, List.set_cons_succ]
          refine wpAnyH_ready (rs := [8]) (by kernel_rfl) (by simp) ?_
          refine AllReadyH.cons (o := { dst := _, op := _, type := _, pos := _, after := _, guard := _ }) rfl (fun K hK => ?_) AllReadyH.nil
          have hE := HX4.out
          (try simp only [World.size_alloc] at hE)
          obtain ⟨Xn, hXn⟩ : ∃ Xn, Xn = (((WD.alloc (.cells (madeCells #[.int .i64 0] c) 3)).alloc (.cells #[.slice none 0 0, .slice none 0 0, .slice none 0 0, .int .i64 0, .int .i64 0] 26)).alloc (.cells (madeCells #[.slice none 0 0] c) 23)).alloc (.cells (madeCells #[.int .u64 0, .int .u64 0, .int .u64 0, .int .u64 0] (c * 4)) 40) := ⟨_, rfl⟩
          rw [← hXn] at hE ⊢
          clear hXn
          have ⟨c0, c1, c2, c3, c4, ff⟩ := hE.vv _ rfl
          have HE : Hid _ := hE
          clear hE
          go_simp
          refine hK.out _ _ ?_ (fun hHeld => ?_)
          · exact trivial
          clear hK K
          try simp only [Act.put, List.setIfInBounds_toArray, List.set_cons_zero, List.set_cons_succ]
          refine wpAnyH_done (by kernel_rfl) ?_ _
          clear hHeld
          refine NoPanic.normal ?_
          clear c0 c1 c2 c3 c4 ff
          go_wp2_with fail
          go_meet
          exact Mk3.fin HE.out
    · go_simp
      refine hK.out _ _ ?_ (fun hHeld => ?_)
      · exact trivial
      clear hK K
      try simp only [Act.put, List.setIfInBounds_toArray, List.set_cons_zero, List.set_cons_succ]
      have HX1 : Hid _ := Mk3.mkC HC.out HX0.out
      (try clear c0 c1 c2 c3 c4 ff)
      refine wpAnyH_ready (rs := [1, 3, 7]) (by kernel_rfl) (by simp) ?_
      refine AllReadyH.cons (o := { dst := _, op := _, type := _, pos := _, after := _, guard := _ }) rfl (fun K hK => ?_) (AllReadyH.cons (o := { dst := _, op := _, type := _, pos := _, after := _, guard := _ }) rfl (fun K hK => ?_) (AllReadyH.cons (o := { dst := _, op := _, type := _, pos := _, after := _, guard := _ }) rfl (fun K hK => ?_) (AllReadyH.nil)))
      · go_simp
        refine hK.out _ _ ?_ (fun hHeld => ?_)
        · exact trivial
        clear hK K
        try simp only [Act.put, List.setIfInBounds_toArray, List.set_cons_zero, List.set_cons_succ]
        have HX2 : Hid _ := Mk3.mkA HC.out HX1.out
        (try clear c0 c1 c2 c3 c4 ff)
        refine wpAnyH_ready (rs := [3, 7]) (by kernel_rfl) (by simp) ?_
        refine AllReadyH.cons (o := { dst := _, op := _, type := _, pos := _, after := _, guard := _ }) rfl (fun K hK => ?_) (AllReadyH.cons (o := { dst := _, op := _, type := _, pos := _, after := _, guard := _ }) rfl (fun K hK => ?_) (AllReadyH.nil))
        · go_simp
          refine hK.out _ _ ?_ (fun hHeld => ?_)
          · exact trivial
          clear hK K
          try simp only [Act.put, List.setIfInBounds_toArray, List.set_cons_zero, List.set_cons_succ]
          have HX3 : Hid _ := Mk3.mkB HC.out HX2.out
          (try clear c0 c1 c2 c3 c4 ff)
          refine wpAnyH_take (i := 6) (oi := { dst := _, op := _, type := _, pos := _, after := _, guard := _ }) (v := ?_) rfl (by kernel_rfl) (by kernel_rfl) (by kernel_rfl) (fun _ _ _ h => h) (Or.inl ⟨by rfl, ?_⟩) (by assumption) ?_
          rotate_left
          · intro W hSw
            (try dsimp only at hSw)
            go_simp
            (try with_reducible rfl)
          try simp only [Act.put, List.setIfInBounds_toArray, List.set_cons_zero, List.set_cons_succ]
          refine wpAnyH_ready (rs := [7]) (by kernel_rfl) (by simp) ?_
          refine AllReadyH.cons (o := { dst := _, op := _, type := _, pos := _, after := _, guard := _ }) rfl (fun K hK => ?_) AllReadyH.nil
          go_simp
          refine hK.out _ _ ?_ (fun hHeld => ?_)
          · exact trivial
          clear hK K
          try simp only [Act.put, List.setIfInBounds_toArray, List.set_cons_zero, List.set_cons_succ]
          have HX4 : Hid _ := Mk3.mkV HC.out HX3.out
          (try clear c0 c1 c2 c3 c4 ff)
          refine wpAnyH_ready (rs := [8]) (by kernel_rfl) (by simp) ?_
          refine AllReadyH.cons (o := { dst := _, op := _, type := _, pos := _, after := _, guard := _ }) rfl (fun K hK => ?_) AllReadyH.nil
          have hE := HX4.out
          (try simp only [World.size_alloc] at hE)
          obtain ⟨Xn, hXn⟩ : ∃ Xn, Xn = (((WD.alloc (.cells (madeCells #[.slice none 0 0] c) 23)).alloc (.cells (madeCells #[.int .u64 0, .int .u64 0, .int .u64 0, .int .u64 0] (c * 4)) 40)).alloc (.cells (madeCells #[.int .i64 0] c) 3)).alloc (.cells #[.slice none 0 0, .slice none 0 0, .slice none 0 0, .int .i64 0, .int .i64 0] 26) := ⟨_, rfl⟩
          rw [← hXn] at hE ⊢
          clear hXn
          have ⟨c0, c1, c2, c3, c4, ff⟩ := hE.vv _ rfl
          have HE : Hid _ := hE
          clear hE
          go_simp
          refine hK.out _ _ ?_ (fun hHeld => ?_)
          · exact trivial
          clear hK K
          try simp only [Act.put, List.setIfInBounds_toArray, List.set_cons_zero, List.set_cons_succ]
          refine wpAnyH_done (by kernel_rfl) ?_ _
          clear hHeld
          refine NoPanic.normal ?_
          clear c0 c1 c2 c3 c4 ff
          go_wp2_with fail
          go_meet
          exact Mk3.fin HE.out
        · go_simp
          refine hK.out _ _ ?_ (fun hHeld => ?_)
          · exact trivial
          clear hK K
          try simp only [Act.put, List.setIfInBounds_toArray, List.set_cons_zero, List.set_cons_succ]
          have HX3 : Hid _ := Mk3.mkV HC.out HX2.out
          (try clear c0 c1 c2 c3 c4 ff)
          refine wpAnyH_ready (rs := [3]) (by kernel_rfl) (by simp) ?_
          refine AllReadyH.cons (o := { dst := _, op := _, type := _, pos := _, after := _, guard := _ }) rfl (fun K hK => ?_) AllReadyH.nil
          go_simp
          refine hK.out _ _ ?_ (fun hHeld => ?_)
          · exact trivial
          clear hK K
          try simp only [Act.put, List.setIfInBounds_toArray, List.set_cons_zero, List.set_cons_succ]
          have HX4 : Hid _ := Mk3.mkB HC.out HX3.out
          (try clear c0 c1 c2 c3 c4 ff)
          refine wpAnyH_take (i := 6) (oi := { dst := _, op := _, type := _, pos := _, after := _, guard := _ }) (v := ?_) rfl (by kernel_rfl) (by kernel_rfl) (by kernel_rfl) (fun _ _ _ h => h) (Or.inl ⟨by rfl, ?_⟩) (by assumption) ?_
          rotate_left
          · intro W hSw
            (try dsimp only at hSw)
            go_simp
            (try with_reducible rfl)
          try simp only [Act.put, List.setIfInBounds_toArray, List.set_cons_zero, List.set_cons_succ]
          refine wpAnyH_ready (rs := [8]) (by kernel_rfl) (by simp) ?_
          refine AllReadyH.cons (o := { dst := _, op := _, type := _, pos := _, after := _, guard := _ }) rfl (fun K hK => ?_) AllReadyH.nil
          have hE := HX4.out
          (try simp only [World.size_alloc] at hE)
          obtain ⟨Xn, hXn⟩ : ∃ Xn, Xn = (((WD.alloc (.cells (madeCells #[.slice none 0 0] c) 23)).alloc (.cells (madeCells #[.int .u64 0, .int .u64 0, .int .u64 0, .int .u64 0] (c * 4)) 40)).alloc (.cells #[.slice none 0 0, .slice none 0 0, .slice none 0 0, .int .i64 0, .int .i64 0] 26)).alloc (.cells (madeCells #[.int .i64 0] c) 3) := ⟨_, rfl⟩
          rw [← hXn] at hE ⊢
          clear hXn
          have ⟨c0, c1, c2, c3, c4, ff⟩ := hE.vv _ rfl
          have HE : Hid _ := hE
          clear hE
          go_simp
          refine hK.out _ _ ?_ (fun hHeld => ?_)
          · exact trivial
          clear hK K
          try simp only [Act.put, List.setIfInBounds_toArray, List.set_cons_zero, List.set_cons_succ]
          refine wpAnyH_done (by kernel_rfl) ?_ _
          clear hHeld
          refine NoPanic.normal ?_
          clear c0 c1 c2 c3 c4 ff
          go_wp2_with fail
          go_meet
          exact Mk3.fin HE.out
      · go_simp
        refine hK.out _ _ ?_ (fun hHeld => ?_)
        · exact trivial
        clear hK K
        try simp only [Act.put, List.setIfInBounds_toArray, List.set_cons_zero, List.set_cons_succ]
        have HX2 : Hid _ := Mk3.mkB HC.out HX1.out
        (try clear c0 c1 c2 c3 c4 ff)
        refine wpAnyH_ready (rs := [1, 7]) (by kernel_rfl) (by simp) ?_
        refine AllReadyH.cons (o := { dst := _, op := _, type := _, pos := _, after := _, guard := _ }) rfl (fun K hK => ?_) (AllReadyH.cons (o := { dst := _, op := _, type := _, pos := _, after := _, guard := _ }) rfl (fun K hK => ?_) (AllReadyH.nil))
        · go_simp
          refine hK.out _ _ ?_ (fun hHeld => ?_)
          · exact trivial
          clear hK K
          try simp only [Act.put, List.setIfInBounds_toArray, List.set_cons_zero, List.set_cons_succ]
          have HX3 : Hid _ := Mk3.mkA HC.out HX2.out
          (try clear c0 c1 c2 c3 c4 ff)
          refine wpAnyH_take (i := 6) (oi := { dst := _, op := _, type := _, pos := _, after := _, guard := _ }) (v := ?_) rfl (by kernel_rfl) (by kernel_rfl) (by kernel_rfl) (fun _ _ _ h => h) (Or.inl ⟨by rfl, ?_⟩) (by assumption) ?_
          rotate_left
          · intro W hSw
            (try dsimp only at hSw)
            go_simp
            (try with_reducible rfl)
          try simp only [Act.put, List.setIfInBounds_toArray, List.set_cons_zero, List.set_cons_succ]
          refine wpAnyH_ready (rs := [7]) (by kernel_rfl) (by simp) ?_
          refine AllReadyH.cons (o := { dst := _, op := _, type := _, pos := _, after := _, guard := _ }) rfl (fun K hK => ?_) AllReadyH.nil
          go_simp
          refine hK.out _ _ ?_ (fun hHeld => ?_)
          · exact trivial
          clear hK K
          try simp only [Act.put, List.setIfInBounds_toArray, List.set_cons_zero, List.set_cons_succ]
          have HX4 : Hid _ := Mk3.mkV HC.out HX3.out
          (try clear c0 c1 c2 c3 c4 ff)
          refine wpAnyH_ready (rs := [8]) (by kernel_rfl) (by simp) ?_
          refine AllReadyH.cons (o := { dst := _, op := _, type := _, pos := _, after := _, guard := _ }) rfl (fun K hK => ?_) AllReadyH.nil
          have hE := HX4.out
          (try simp only [World.size_alloc] at hE)
          obtain ⟨Xn, hXn⟩ : ∃ Xn, Xn = (((WD.alloc (.cells (madeCells #[.slice none 0 0] c) 23)).alloc (.cells (madeCells #[.int .i64 0] c) 3)).alloc (.cells (madeCells #[.int .u64 0, .int .u64 0, .int .u64 0, .int .u64 0] (c * 4)) 40)).alloc (.cells #[.slice none 0 0, .slice none 0 0, .slice none 0 0, .int .i64 0, .int .i64 0] 26) := ⟨_, rfl⟩
          rw [← hXn] at hE ⊢
          clear hXn
          have ⟨c0, c1, c2, c3, c4, ff⟩ := hE.vv _ rfl
          have HE : Hid _ := hE
          clear hE
          go_simp
          refine hK.out _ _ ?_ (fun hHeld => ?_)
          · exact trivial
          clear hK K
          try simp only [Act.put, List.setIfInBounds_toArray, List.set_cons_zero, List.set_cons_succ]
          refine wpAnyH_done (by kernel_rfl) ?_ _
          clear hHeld
          refine NoPanic.normal ?_
          clear c0 c1 c2 c3 c4 ff
          go_wp2_with fail
          go_meet
          exact Mk3.fin HE.out
        · go_simp
          refine hK.out _ _ ?_ (fun hHeld => ?_)
          · exact trivial
          clear hK K
          try simp only [Act.put, List.setIfInBounds_toArray, List.set_cons_zero, List.set_cons_succ]
          have HX3 : Hid _ := Mk3.mkV HC.out HX2.out
          (try clear c0 c1 c2 c3 c4 ff)
          refine wpAnyH_ready (rs := [1]) (by kernel_rfl) (by simp) ?_
          refine AllReadyH.cons (o := { dst := _, op := _, type := _, pos := _, after := _, guard := _ }) rfl (fun K hK => ?_) AllReadyH.nil
          go_simp
          refine hK.out _ _ ?_ (fun hHeld => ?_)
          · exact trivial
          clear hK K
          try simp only [Act.put, List.setIfInBounds_toArray, List.set_cons_zero, List.set_cons_succ]
          have HX4 : Hid _ := Mk3.mkA HC.out HX3.out
          (try clear c0 c1 c2 c3 c4 ff)
          refine wpAnyH_take (i := 6) (oi := { dst := _, op := _, type := _, pos := _, after := _, guard := _ }) (v := ?_) rfl (by kernel_rfl) (by kernel_rfl) (by kernel_rfl) (fun _ _ _ h => h) (Or.inl ⟨by rfl, ?_⟩) (by assumption) ?_
          rotate_left
          · intro W hSw
            (try dsimp only at hSw)
            go_simp
            (try with_reducible rfl)
          try simp only [Act.put, List.setIfInBounds_toArray, List.set_cons_zero, List.set_cons_succ]
          refine wpAnyH_ready (rs := [8]) (by kernel_rfl) (by simp) ?_
          refine AllReadyH.cons (o := { dst := _, op := _, type := _, pos := _, after := _, guard := _ }) rfl (fun K hK => ?_) AllReadyH.nil
          have hE := HX4.out
          (try simp only [World.size_alloc] at hE)
          obtain ⟨Xn, hXn⟩ : ∃ Xn, Xn = (((WD.alloc (.cells (madeCells #[.slice none 0 0] c) 23)).alloc (.cells (madeCells #[.int .i64 0] c) 3)).alloc (.cells #[.slice none 0 0, .slice none 0 0, .slice none 0 0, .int .i64 0, .int .i64 0] 26)).alloc (.cells (madeCells #[.int .u64 0, .int .u64 0, .int .u64 0, .int .u64 0] (c * 4)) 40) := ⟨_, rfl⟩
          rw [← hXn] at hE ⊢
          clear hXn
          have ⟨c0, c1, c2, c3, c4, ff⟩ := hE.vv _ rfl
          have HE : Hid _ := hE
          clear hE
          go_simp
          refine hK.out _ _ ?_ (fun hHeld => ?_)
          · exact trivial
          clear hK K
          try simp only [Act.put, List.setIfInBounds_toArray, List.set_cons_zero, List.set_cons_succ]
          refine wpAnyH_done (by kernel_rfl) ?_ _
          clear hHeld
          refine NoPanic.normal ?_
          clear c0 c1 c2 c3 c4 ff
          go_wp2_with fail
          go_meet
          exact Mk3.fin HE.out
      · go_simp
        refine hK.out _ _ ?_ (fun hHeld => ?_)
        · exact trivial
        clear hK K
        try simp only [Act.put, List.setIfInBounds_toArray, List.set_cons_zero, List.set_cons_succ]
        have HX2 : Hid _ := Mk3.mkV HC.out HX1.out
        (try clear c0 c1 c2 c3 c4 ff)
        refine wpAnyH_ready (rs := [1, 3]) (by kernel_rfl) (by simp) ?_
        refine AllReadyH.cons (o := { dst := _, op := _, type := _, pos := _, after := _, guard := _ }) rfl (fun K hK => ?_) (AllReadyH.cons (o := { dst := _, op := _, type := _, pos := _, after := _, guard := _ }) rfl (fun K hK => ?_) (AllReadyH.nil))
        · go_simp
          refine hK.out _ _ ?_ (fun hHeld => ?_)
          · exact trivial
          clear hK K
          try simp only [Act.put, List.setIfInBounds_toArray, List.set_cons_zero, List.set_cons_succ]
          have HX3 : Hid _ := Mk3.mkA HC.out HX2.out
          (try clear c0 c1 c2 c3 c4 ff)
          refine wpAnyH_ready (rs := [3]) (by kernel_rfl) (by simp) ?_
          refine AllReadyH.cons (o := { dst := _, op := _, type := _, pos := _, after := _, guard := _ }) rfl (fun K hK => ?_) AllReadyH.nil
          go_simp
          refine hK.out _ _ ?_ (fun hHeld => ?_)
          · exact trivial
          clear hK K
          try simp only [Act.put, List.setIfInBounds_toArray, List.set_cons_zero, List.set_cons_succ]
          have HX4 : Hid _ := Mk3.mkB HC.out HX3.out
          (try clear c0 c1 c2 c3 c4 ff)
          refine wpAnyH_take (i := 6) (oi := { dst := _, op := _, type := _, pos := _, after := _, guard := _ }) (v := ?_) rfl (by kernel_rfl) (by kernel_rfl) (by kernel_rfl) (fun _ _ _ h => h) (Or.inl ⟨by rfl, ?_⟩) (by assumption) ?_
          rotate_left
          · intro W hSw
            (try dsimp only at hSw)
            go_simp
            (try with_reducible rfl)
          try simp only [Act.put, List.setIfInBounds_toArray, List.set_cons_zero, List.set_cons_succ]
          refine wpAnyH_ready (rs := [8]) (by kernel_rfl) (by simp) ?_
          refine AllReadyH.cons (o := { dst := _, op := _, type := _, pos := _, after := _, guard := _ }) rfl (fun K hK => ?_) AllReadyH.nil
          have hE := HX4.out
          (try simp only [World.size_alloc] at hE)
          obtain ⟨Xn, hXn⟩ : ∃ Xn, Xn = (((WD.alloc (.cells (madeCells #[.slice none 0 0] c) 23)).alloc (.cells #[.slice none 0 0, .slice none 0 0, .slice none 0 0, .int .i64 0, .int .i64 0] 26)).alloc (.cells (madeCells #[.int .u64 0, .int .u64 0, .int .u64 0, .int .u64 0] (c * 4)) 40)).alloc (.cells (madeCells #[.int .i64 0] c) 3) := ⟨_, rfl⟩
          rw [← hXn] at hE ⊢
          clear hXn
          have ⟨c0, c1, c2, c3, c4, ff⟩ := hE.vv _ rfl
          have HE : Hid _ := hE
          clear hE
          go_simp
          refine hK.out _ _ ?_ (fun hHeld => ?_)
          · exact trivial
          clear hK K
          try simp only [Act.put, List.setIfInBounds_toArray, List.set_cons_zero, List.set_cons_succ]
          refine wpAnyH_done (by kernel_rfl) ?_ _
          clear hHeld
          refine NoPanic.normal ?_
          clear c0 c1 c2 c3 c4 ff
          go_wp2_with fail
          go_meet
          exact Mk3.fin HE.out
        · go_simp
          refine hK.out _ _ ?_ (fun hHeld => ?_)
          · exact trivial
          clear hK K
          try simp only [Act.put, List.setIfInBounds_toArray, List.set_cons_zero, List.set_cons_succ]
          have HX3 : Hid _ := Mk3.mkB HC.out HX2.out
          (try clear c0 c1 c2 c3 c4 ff)
          refine wpAnyH_ready (rs := [1]) (by kernel_rfl) (by simp) ?_
          refine AllReadyH.cons (o := { dst := _, op := _, type := _, pos := _, after := _, guard := _ }) rfl (fun K hK => ?_) AllReadyH.nil
          go_simp
          refine hK.out _ _ ?_ (fun hHeld => ?_)
          · exact trivial
          clear hK K
          try simp only [Act.put, List.setIfInBounds_toArray, List.set_cons_zero, List.set_cons_succ]
          have HX4 : Hid _ := Mk3.mkA HC.out HX3.out
          (try clear c0 c1 c2 c3 c4 ff)
          refine wpAnyH_take (i := 6) (oi := { dst := _, op := _, type := _, pos := _, after := _, guard := _ }) (v := ?_) rfl (by kernel_rfl) (by kernel_rfl) (by kernel_rfl) (fun _ _ _ h => h) (Or.inl ⟨by rfl, ?_⟩) (by assumption) ?_
          rotate_left
          · intro W hSw
            (try dsimp only at hSw)
            go_simp
            (try with_reducible rfl)
          try simp only [Act.put, List.setIfInBounds_toArray, List.set_cons_zero, List.set_cons_succ]
          refine wpAnyH_ready (rs := [8]) (by kernel_rfl) (by simp) ?_
          refine AllReadyH.cons (o := { dst := _, op := _, type := _, pos := _, after := _, guard := _ }) rfl (fun K hK => ?_) AllReadyH.nil
          have hE := HX4.out
          (try simp only [World.size_alloc] at hE)
          obtain ⟨Xn, hXn⟩ : ∃ Xn, Xn = (((WD.alloc (.cells (madeCells #[.slice none 0 0] c) 23)).alloc (.cells #[.slice none 0 0, .slice none 0 0, .slice none 0 0, .int .i64 0, .int .i64 0] 26)).alloc (.cells (madeCells #[.int .i64 0] c) 3)).alloc (.cells (madeCells #[.int .u64 0, .int .u64 0, .int .u64 0, .int .u64 0] (c * 4)) 40) := ⟨_, rfl⟩
          rw [← hXn] at hE ⊢
          clear hXn
          have ⟨c0, c1, c2, c3, c4, ff⟩ := hE.vv _ rfl
          have HE : Hid _ := hE
          clear hE
          go_simp
          refine hK.out _ _ ?_ (fun hHeld => ?_)
          · exact trivial
          clear hK K
          try simp only [Act.put, List.setIfInBounds_toArray, List.set_cons_zero, List.set_cons_succ]
          refine wpAnyH_done (by kernel_rfl) ?_ _
          clear hHeld
          refine NoPanic.normal ?_
          clear c0 c1 c2 c3 c4 ff
          go_wp2_with fail
          go_meet
          exact Mk3.fin HE.out
    · go_simp
      refine hK.out _ _ ?_ (fun hHeld => ?_)
      · exact trivial
      clear hK K
      try simp only [Act.put, List.setIfInBounds_toArray, List.set_cons_zero, List.set_cons_succ]
      have HX1 : Hid _ := Mk3.mkV HC.out HX0.out
      (try clear c0 c1 c2 c3 c4 ff)
      refine wpAnyH_ready (rs := [1, 3, 5]) (by kernel_rfl) (by simp) ?_
      refine AllReadyH.cons (o := { dst := _, op := _, type := _, pos := _, after := _, guard := _ }) rfl (fun K hK => ?_) (AllReadyH.cons (o := { dst := _, op := _, type := _, pos := _, after := _, guard := _ }) rfl (fun K hK => ?_) (AllReadyH.cons (o := { dst := _, op := _, type := _, pos := _, after := _, guard := _ }) rfl (fun K hK => ?_) (AllReadyH.nil)))
      · go_simp
        refine hK.out _ _ ?_ (fun hHeld => ?_)
        · exact trivial
        clear hK K
        try simp only [Act.put, List.setIfInBounds_toArray, List.set_cons_zero, List.set_cons_succ]
        have HX2 : Hid _ := Mk3.mkA HC.out HX1.out
        (try clear c0 c1 c2 c3 c4 ff)
        refine wpAnyH_ready (rs := [3, 5]) (by kernel_rfl) (by simp) ?_
        refine AllReadyH.cons (o := { dst := _, op := _, type := _, pos := _, after := _, guard := _ }) rfl (fun K hK => ?_) (AllReadyH.cons (o := { dst := _, op := _, type := _, pos := _, after := _, guard := _ }) rfl (fun K hK => ?_) (AllReadyH.nil))
        · go_simp
          refine hK.out _ _ ?_ (fun hHeld => ?_)
          · exact trivial
          clear hK K
          try simp only [Act.put, List.setIfInBounds_toArray, List.set_cons_zero, List.set_cons_succ]
          have HX3 : Hid _ := Mk3.mkB HC.out HX2.out
          (try clear c0 c1 c2 c3 c4 ff)
          refine wpAnyH_ready (rs := [5]) (by kernel_rfl) (by simp) ?_
          refine AllReadyH.cons (o := { dst := _, op := _, type := _, pos := _, after := _, guard := _ }) rfl (fun K hK => ?_) AllReadyH.nil
          go_simp
          refine hK.out _ _ ?_ (fun hHeld => ?_)
          · exact trivial
          clear hK K
          try simp only [Act.put, List.setIfInBounds_toArray, List.set_cons_zero, List.set_cons_succ]
          have HX4 : Hid _ := Mk3.mkC HC.out HX3.out
          (try clear c0 c1 c2 c3 c4 ff)
          refine wpAnyH_take (i := 6) (oi := { dst := _, op := _, type := _, pos := _, after := _, guard := _ }) (v := ?_) rfl (by kernel_rfl) (by kernel_rfl) (by kernel_rfl) (fun _ _ _ h => h) (Or.inl ⟨by rfl, ?_⟩) (by assumption) ?_
          rotate_left
          · intro W hSw
            (try dsimp only at hSw)
            go_simp
            (try with_reducible rfl)
          try simp only [Act.put, List.setIfInBounds_toArray, List.set_cons_zero, List.set_cons_succ]
          refine wpAnyH_ready (rs := [8]) (by kernel_rfl) (by simp) ?_
          refine AllReadyH.cons (o := { dst := _, op := _, type := _, pos := _, after := _, guard := _ }) rfl (fun K hK => ?_) AllReadyH.nil
          have hE := HX4.out
          (try simp only [World.size_alloc] at hE)
          obtain ⟨Xn, hXn⟩ : ∃ Xn, Xn = (((WD.alloc (.cells #[.slice none 0 0, .slice none 0 0, .slice none 0 0, .int .i64 0, .int .i64 0] 26)).alloc (.cells (madeCells #[.int .u64 0, .int .u64 0, .int .u64 0, .int .u64 0] (c * 4)) 40)).alloc (.cells (madeCells #[.int .i64 0] c) 3)).alloc (.cells (madeCells #[.slice none 0 0] c) 23) := ⟨_, rfl⟩
          rw [← hXn] at hE ⊢
          clear hXn
          have ⟨c0, c1, c2, c3, c4, ff⟩ := hE.vv _ rfl
          have HE : Hid _ := hE
          clear hE
          go_simp
          refine hK.out _ _ ?_ (fun hHeld => ?_)
          · exact trivial
          clear hK K
          try simp only [Act.put, List.setIfInBounds_toArray, List.set_cons_zero, List.set_cons_succ]
          refine wpAnyH_done (by kernel_rfl) ?_ _
          clear hHeld
          refine NoPanic.normal ?_
          clear c0 c1 c2 c3 c4 ff
          go_wp2_with fail
          go_meet
          exact Mk3.fin HE.out
        · go_simp
          refine hK.out _ _ ?_ (fun hHeld => ?_)
          · exact trivial
          clear hK K
          try simp only [Act.put, List.setIfInBounds_toArray, List.set_cons_zero, List.set_cons_succ]
          have HX3 : Hid _ := Mk3.mkC HC.out HX2.out
          (try clear c0 c1 c2 c3 c4 ff)
          refine wpAnyH_ready (rs := [3]) (by kernel_rfl) (by simp) ?_
          refine AllReadyH.cons (o := { dst := _, op := _, type := _, pos := _, after := _, guard := _ }) rfl (fun K hK => ?_) AllReadyH.nil
          go_simp
          refine hK.out _ _ ?_ (fun hHeld => ?_)
          · exact trivial
          clear hK K
          try simp only [Act.put, List.setIfInBounds_toArray, List.set_cons_zero, List.set_cons_succ]
          have HX4 : Hid _ := Mk3.mkB HC.out HX3.out
          (try clear c0 c1 c2 c3 c4 ff)
          refine wpAnyH_take (i := 6) (oi := { dst := _, op := _, type := _, pos := _, after := _, guard := _ }) (v := ?_) rfl (by kernel_rfl) (by kernel_rfl) (by kernel_rfl) (fun _ _ _ h => h) (Or.inl ⟨by rfl, ?_⟩) (by assumption) ?_
          rotate_left
          · intro W hSw
            (try dsimp only at hSw)
            go_simp
            (try with_reducible rfl)
          try simp only [Act.put, List.setIfInBounds_toArray, List.set_cons_zero, List.set_cons_succ]
          refine wpAnyH_ready (rs := [8]) (by kernel_rfl) (by simp) ?_
          refine AllReadyH.cons (o := { dst := _, op := _, type := _, pos := _, after := _, guard := _ }) rfl (fun K hK => ?_) AllReadyH.nil
          have hE := HX4.out
          (try simp only [World.size_alloc] at hE)
          obtain ⟨Xn, hXn⟩ : ∃ Xn, Xn = (((WD.alloc (.cells #[.slice none 0 0, .slice none 0 0, .slice none 0 0, .int .i64 0, .int .i64 0] 26)).alloc (.cells (madeCells #[.int .u64 0, .int .u64 0, .int .u64 0, .int .u64 0] (c * 4)) 40)).alloc (.cells (madeCells #[.slice none 0 0] c) 23)).alloc (.cells (madeCells #[.int .i64 0] c) 3) := ⟨_, rfl⟩
          rw [← hXn] at hE ⊢
          clear hXn
          have ⟨c0, c1, c2, c3, c4, ff⟩ := hE.vv _ rfl
          have HE : Hid _ := hE
          clear hE
          go_simp
          refine hK.out _ _ ?_ (fun hHeld => ?_)
          · exact trivial
          clear hK K
          try simp only [Act.put, List.setIfInBounds_toArray, List.set_cons_zero, List.set_cons_succ]
          refine wpAnyH_done (by kernel_rfl) ?_ _
          clear hHeld
          refine NoPanic.normal ?_
          clear c0 c1 c2 c3 c4 ff
          go_wp2_with fail
          go_meet
          exact Mk3.fin HE.out
      · go_simp
        refine hK.out _ _ ?_ (fun hHeld => ?_)
        · exact trivial
        clear hK K
        try simp only [Act.put, List.setIfInBounds_toArray, List.set_cons_zero, List.set_cons_succ]
        have HX2 : Hid _ := Mk3.mkB HC.out HX1.out
        (try clear c0 c1 c2 c3 c4 ff)
        refine wpAnyH_ready (rs := [1, 5]) (by kernel_rfl) (by simp) ?_
        refine AllReadyH.cons (o := { dst := _, op := _, type := _, pos := _, after := _, guard := _ }) rfl (fun K hK => ?_) (AllReadyH.cons (o := { dst := _, op := _, type := _, pos := _, after := _, guard := _ }) rfl (fun K hK => ?_) (AllReadyH.nil))
        · go_simp
          refine hK.out _ _ ?_ (fun hHeld => ?_)
          · exact trivial
          clear hK K
          try simp only [Act.put, List.setIfInBounds_toArray, List.set_cons_zero, List.set_cons_succ]
          have HX3 : Hid _ := Mk3.mkA HC.out HX2.out
          (try clear c0 c1 c2 c3 c4 ff)
          refine wpAnyH_ready (rs := [5]) (by kernel_rfl) (by simp) ?_
          refine AllReadyH.cons (o := { dst := _, op := _, type := _, pos := _, after := _, guard := _ }) rfl (fun K hK => ?_) AllReadyH.nil
          go_simp
          refine hK.out _ _ ?_ (fun hHeld => ?_)
          · exact trivial
          clear hK K
          try simp only [Act.put, List.setIfInBounds_toArray, List.set_cons_zero, List.set_cons_succ]
          have HX4 : Hid _ := Mk3.mkC HC.out HX3.out
          (try clear c0 c1 c2 c3 c4 ff)
          refine wpAnyH_take (i := 6) (oi := { dst := _, op := _, type := _, pos := _, after := _, guard := _ }) (v := ?_) rfl (by kernel_rfl) (by kernel_rfl) (by kernel_rfl) (fun _ _ _ h => h) (Or.inl ⟨by rfl, ?_⟩) (by assumption) ?_
          rotate_left
          · intro W hSw
            (try dsimp only at hSw)
            go_simp
            (try with_reducible rfl)
          try simp only [Act.put, List.setIfInBounds_toArray, List.set_cons_zero, List.set_cons_succ]
          refine wpAnyH_ready (rs := [8]) (by kernel_rfl) (by simp) ?_
          refine AllReadyH.cons (o := { dst := _, op := _, type := _, pos := _, after := _, guard := _ }) rfl (fun K hK => ?_) AllReadyH.nil
          have hE := HX4.out
          (try simp only [World.size_alloc] at hE)
          obtain ⟨Xn, hXn⟩ : ∃ Xn, Xn = (((WD.alloc (.cells #[.slice none 0 0, .slice none 0 0, .slice none 0 0, .int .i64 0, .int .i64 0] 26)).alloc (.cells (madeCells #[.int .i64 0] c) 3)).alloc (.cells (madeCells #[.int .u64 0, .int .u64 0, .int .u64 0, .int .u64 0] (c * 4)) 40)).alloc (.cells (madeCells #[.slice none 0 0] c) 23) := ⟨_, rfl⟩
          rw [← hXn] at hE ⊢
          clear hXn
          have ⟨c0, c1, c2, c3, c4, ff⟩ := hE.vv _ rfl
          have HE : Hid _ := hE
          clear hE
          go_simp
          refine hK.out _ _ ?_ (fun hHeld => ?_)
          · exact trivial
          clear hK K
          try simp only [Act.put, List.setIfInBounds_toArray, List.set_cons_zero, List.set_cons_succ]
          refine wpAnyH_done (by kernel_rfl) ?_ _
          clear hHeld
          refine NoPanic.normal ?_
          clear c0 c1 c2 c3 c4 ff
          go_wp2_with fail
          go_meet
          exact Mk3.fin HE.out
        · go_simp
          refine hK.out _ _ ?_ (fun hHeld => ?_)
          · exact trivial
          clear hK K
          try simp only [Act.put, List.setIfInBounds_toArray, List.set_cons_zero, List.set_cons_succ]
          have HX3 : Hid _ := Mk3.mkC HC.out HX2.out
          (try clear c0 c1 c2 c3 c4 ff)
          refine wpAnyH_ready (rs := [1]) (by kernel_rfl) (by simp) ?_
          refine AllReadyH.cons (o := { dst := _, op := _, type := _, pos := _, after := _, guard := _ }) rfl (fun K hK => ?_) AllReadyH.nil
          go_simp
          refine hK.out _ _ ?_ (fun hHeld => ?_)
          · exact trivial
          clear hK K
          try simp only [Act.put, List.setIfInBounds_toArray, List.set_cons_zero, List.set_cons_succ]
          have HX4 : Hid _ := Mk3.mkA HC.out HX3.out
          (try clear c0 c1 c2 c3 c4 ff)
          refine wpAnyH_take (i := 6) (oi := { dst := _, op := _, type := _, pos := _, after := _, guard := _ }) (v := ?_) rfl (by kernel_rfl) (by kernel_rfl) (by kernel_rfl) (fun _ _ _ h => h) (Or.inl ⟨by rfl, ?_⟩) (by assumption) ?_
          rotate_left
          · intro W hSw
            (try dsimp only at hSw)
            go_simp
            (try with_reducible rfl)
          try simp only [Act.put, List.setIfInBounds_toArray, List.set_cons_zero, List.set_cons_succ]
          refine wpAnyH_ready (rs := [8]) (by kernel_rfl) (by simp) ?_
          refine AllReadyH.cons (o := { dst := _, op := _, type := _, pos := _, after := _, guard := _ }) rfl (fun K hK => ?_) AllReadyH.nil
          have hE := HX4.out
          (try simp only [World.size_alloc] at hE)
          obtain ⟨Xn, hXn⟩ : ∃ Xn, Xn = (((WD.alloc (.cells #[.slice none 0 0, .slice none 0 0, .slice none 0 0, .int .i64 0, .int .i64 0] 26)).alloc (.cells (madeCells #[.int .i64 0] c) 3)).alloc (.cells (madeCells #[.slice none 0 0] c) 23)).alloc (.cells (madeCells #[.int .u64 0, .int .u64 0, .int .u64 0, .int .u64 0] (c * 4)) 40) := ⟨_, rfl⟩
          rw [← hXn] at hE ⊢
          clear hXn
          have ⟨c0, c1, c2, c3, c4, ff⟩ := hE.vv _ rfl
          have HE : Hid _ := hE
          clear hE
          go_simp
          refine hK.out _ _ ?_ (fun hHeld => ?_)
          · exact trivial
          clear hK K
          try simp only [Act.put, List.setIfInBounds_toArray, List.set_cons_zero, List.set_cons_succ]
          refine wpAnyH_done (by kernel_rfl) ?_ _
          clear hHeld
          refine NoPanic.normal ?_
          clear c0 c1 c2 c3 c4 ff
          go_wp2_with fail
          go_meet
          exact Mk3.fin HE.out
      · go_simp
        refine hK.out _ _ ?_ (fun hHeld => ?_)
        · exact trivial
        clear hK K
        try simp only [Act.put, List.setIfInBounds_toArray, List.set_cons_zero, List.set_cons_succ]
        have HX2 : Hid _ := Mk3.mkC HC.out HX1.out
        (try clear c0 c1 c2 c3 c4 ff)
        refine wpAnyH_ready (rs := [1, 3]) (by kernel_rfl) (by simp) ?_
        refine AllReadyH.cons (o := { dst := _, op := _, type := _, pos := _, after := _, guard := _ }) rfl (fun K hK => ?_) (AllReadyH.cons (o := { dst := _, op := _, type := _, pos := _, after := _, guard := _ }) rfl (fun K hK => ?_) (AllReadyH.nil))
        · go_simp
          refine hK.out _ _ ?_ (fun hHeld => ?_)
          · exact trivial
          clear hK K
          try simp only [Act.put, List.setIfInBounds_toArray, List.set_cons_zero, List.set_cons_succ]
          have HX3 : Hid _ := Mk3.mkA HC.out HX2.out
          (try clear c0 c1 c2 c3 c4 ff)
          refine wpAnyH_ready (rs := [3]) (by kernel_rfl) (by simp) ?_
          refine AllReadyH.cons (o := { dst := _, op := _, type := _, pos := _, after := _, guard := _ }) rfl (fun K hK => ?_) AllReadyH.nil
          go_simp
          refine hK.out _ _ ?_ (fun hHeld => ?_)
          · exact trivial
          clear hK K
          try simp only [Act.put, List.setIfInBounds_toArray, List.set_cons_zero, List.set_cons_succ]
          have HX4 : Hid _ := Mk3.mkB HC.out HX3.out
          (try clear c0 c1 c2 c3 c4 ff)
          refine wpAnyH_take (i := 6) (oi := { dst := _, op := _, type := _, pos := _, after := _, guard := _ }) (v := ?_) rfl (by kernel_rfl) (by kernel_rfl) (by kernel_rfl) (fun _ _ _ h => h) (Or.inl ⟨by rfl, ?_⟩) (by assumption) ?_
          rotate_left
          · intro W hSw
            (try dsimp only at hSw)
            go_simp
            (try with_reducible rfl)
          try simp only [Act.put, List.setIfInBounds_toArray, List.set_cons_zero, List.set_cons_succ]
          refine wpAnyH_ready (rs := [8]) (by kernel_rfl) (by simp) ?_
          refine AllReadyH.cons (o := { dst := _, op := _, type := _, pos := _, after := _, guard := _ }) rfl (fun K hK => ?_) AllReadyH.nil
          have hE := HX4.out
          (try simp only [World.size_alloc] at hE)
          obtain ⟨Xn, hXn⟩ : ∃ Xn, Xn = (((WD.alloc (.cells #[.slice none 0 0, .slice none 0 0, .slice none 0 0, .int .i64 0, .int .i64 0] 26)).alloc (.cells (madeCells #[.slice none 0 0] c) 23)).alloc (.cells (madeCells #[.int .u64 0, .int .u64 0, .int .u64 0, .int .u64 0] (c * 4)) 40)).alloc (.cells (madeCells #[.int .i64 0] c) 3) := ⟨_, rfl⟩
          rw [← hXn] at hE ⊢
          clear hXn
          have ⟨c0, c1, c2, c3, c4, ff⟩ := hE.vv _ rfl
          have HE : Hid _ := hE
          clear hE
          go_simp
          refine hK.out _ _ ?_ (fun hHeld => ?_)
          · exact trivial
          clear hK K
          try simp only [Act.put, List.setIfInBounds_toArray, List.set_cons_zero, List.set_cons_succ]
          refine wpAnyH_done (by kernel_rfl) ?_ _
          clear hHeld
          refine NoPanic.normal ?_
          clear c0 c1 c2 c3 c4 ff
          go_wp2_with fail
          go_meet
          exact Mk3.fin HE.out
        · go_simp
          refine hK.out _ _ ?_ (fun hHeld => ?_)
          · exact trivial
          clear hK K
          try simp only [Act.put, List.setIfInBounds_toArray, List.set_cons_zero, List.set_cons_succ]
          have HX3 : Hid _ := Mk3.mkB HC.out HX2.out
          (try clear c0 c1 c2 c3 c4 ff)
          refine wpAnyH_ready (rs := [1]) (by kernel_rfl) (by simp) ?_
          refine AllReadyH.cons (o := { dst := _, op := _, type := _, pos := _, after := _, guard := _ }) rfl (fun K hK => ?_) AllReadyH.nil
          go_simp
          refine hK.out _ _ ?_ (fun hHeld => ?_)
          · exact trivial
          clear hK K
          try simp only [Act.put, List.setIfInBounds_toArray, List.set_cons_zero, List.set_cons_succ]
          have HX4 : Hid _ := Mk3.mkA HC.out HX3.out
          (try clear c0 c1 c2 c3 c4 ff)
          refine wpAnyH_take (i := 6) (oi := { dst := _, op := _, type := _, pos := _, after := _, guard := _ }) (v := ?_) rfl (by kernel_rfl) (by kernel_rfl) (by kernel_rfl) (fun _ _ _ h => h) (Or.inl ⟨by rfl, ?_⟩) (by assumption) ?_
          rotate_left
          · intro W hSw
            (try dsimp only at hSw)
            go_simp
            (try with_reducible rfl)
          try simp only [Act.put, List.setIfInBounds_toArray, List.set_cons_zero, List.set_cons_succ]
          refine wpAnyH_ready (rs := [8]) (by kernel_rfl) (by simp) ?_
          refine AllReadyH.cons (o := { dst := _, op := _, type := _, pos := _, after := _, guard := _ }) rfl (fun K hK => ?_) AllReadyH.nil
          have hE := HX4.out
          (try simp only [World.size_alloc] at hE)
          obtain ⟨Xn, hXn⟩ : ∃ Xn, Xn = (((WD.alloc (.cells #[.slice none 0 0, .slice none 0 0, .slice none 0 0, .int .i64 0, .int .i64 0] 26)).alloc (.cells (madeCells #[.slice none 0 0] c) 23)).alloc (.cells (madeCells #[.int .i64 0] c) 3)).alloc (.cells (madeCells #[.int .u64 0, .int .u64 0, .int .u64 0, .int .u64 0] (c * 4)) 40) := ⟨_, rfl⟩
          rw [← hXn] at hE ⊢
          clear hXn
          have ⟨c0, c1, c2, c3, c4, ff⟩ := hE.vv _ rfl
          have HE : Hid _ := hE
          clear hE
          go_simp
          refine hK.out _ _ ?_ (fun hHeld => ?_)
          · exact trivial
          clear hK K
          try simp only [Act.put, List.setIfInBounds_toArray, List.set_cons_zero, List.set_cons_succ]
          refine wpAnyH_done (by kernel_rfl) ?_ _
          clear hHeld
          refine NoPanic.normal ?_
          clear c0 c1 c2 c3 c4 ff
          go_wp2_with fail
          go_meet
          exact Mk3.fin HE.out
  case rest =>
    obtain ⟨v', a', b', d', rfl, hv, ha, hb, hd, hbw, hlB⟩ := hcut
    have c0 : wc.cell? ⟨v', 0, none⟩ = some (.slice (some ⟨a', 0, none⟩) 0 c) := by rw [Lib.cell_of_heap hv]; rfl
    have c1 : wc.cell? ⟨v', 1, none⟩ = some (.slice (some ⟨b', 0, none⟩) 0 c) := by rw [Lib.cell_of_heap hv]; rfl
    have c2 : wc.cell? ⟨v', 2, none⟩ = some (.slice (some ⟨d', 0, none⟩) 0 c) := by rw [Lib.cell_of_heap hv]; rfl
    have c3 : wc.cell? ⟨v', 3, none⟩ = some (.int .i64 0) := by rw [Lib.cell_of_heap hv]; rfl
    have c4 : wc.cell? ⟨v', 4, none⟩ = some (.int .i64 0) := by rw [Lib.cell_of_heap hv]; rfl
    have HA : Hid (wc.ownsRow W.heap.size 40 4 (.slice (some ⟨a', 0, none⟩) 0 c) 0 []) := ha
    have HB : Hid (wc.ownsRow W.heap.size 3 1 (.slice (some ⟨b', 0, none⟩) 0 c) 0 []) := hb
    have HD : Hid (wc.ownsRow W.heap.size 23 1 (.slice (some ⟨d', 0, none⟩) 0 c) 0 []) := hd
    have HBW : Hid (Below W.heap.size W wc) := hbw
    have HLB : Hid (W.heap.size ≤ wc.heap.size) := hlB
    clear hv ha hb hd hbw hlB h1 h2 h3 hw
    go_wp2_with fail
    go_ret
    refine ⟨_, rfl, ⟨[], _, _, _, ⟨World.alloc_heap_new wc _, HA.out.alloc _, HB.out.alloc _, HD.out.alloc _, rfl, fun i hi => (by cases hi), HLB.out, by have := HLB.out; simp; omega⟩, rfl, rfl⟩, HBW.out.trans ((bel_up _ _).mono HLB.out)⟩
end Go.Proofs.Ytkjljnneghnpiaa
