import Derived.Test.YtkaciochlemjiabAct
namespace Go.Proofs.Ytkaciochlemjiab
open Go.RowKit Go.Maps

theorem cell_two_new (w : World) (x y : Value) (t : TypeId) : ∀ j u, [x, y][j]? = some u → (w.alloc (.cells #[x, y] t)).cell? ((⟨w.heap.size, 0, none⟩ : Addr).add j) = some u := by
  intro j u hj
  rw [addPl, Nat.zero_add, Lib.cell_of_heap (heap_new w _)]
  simpa using hj
section
variable {B : Nat} {W W2 : World} {b : Nat} {vi vq vf v' : Value} {s : Stt}
theorem Nx.appI (h : Nx B W b vi vq vf s) {x : Int} (hg : W.grownBy W2 vi.ownBlock) (hr : W2.ownsRow B 3 1 v' (s.ind ++ [x]).length (iC (s.ind ++ [x]))) : Nx B (W2.setCell ⟨b, 0, none⟩ v') b v' vq vf { s with ind := s.ind ++ [x] } ∧ Below B W (W2.setCell ⟨b, 0, none⟩ v') := by
  have hb2 := (hg.block b (lt_of_heap h.blk) (fun e => tag_ne_blk h.own.i h.blk (by decide) e.symm)).trans h.blk
  have hB2 : Below B W W2 := (Below.refl B W).grown hg h.lB (fun k e => (row_tag h.own.i k e).1)
  have ho : Own B W2 v' vq vf { s with ind := s.ind ++ [x] } := ⟨hr, h.own.q.kept hg (tag_ne h.own.q h.own.i (by decide)), h.own.f.kept hg (tag_ne h.own.f h.own.i (by decide))⟩
  exact ⟨⟨by rw [blk_set v' hb2]; rfl, ho.off hb2, h.lo, by simp; exact Nat.le_trans h.lB hB2.size⟩, hB2.trans ((Below.refl B W2).setCell (p := ⟨b, 0, none⟩) h.lo _)⟩
theorem Nx.appQ (h : Nx B W b vi vq vf s) {x : ByteArray} (hg : W.grownBy W2 vq.ownBlock) (hr : W2.ownsRow B 9 1 v' (s.que ++ [x]).length (qC (s.que ++ [x]))) : Nx B (W2.setCell ⟨b, 2, none⟩ v') b vi v' vf { s with que := s.que ++ [x] } ∧ Below B W (W2.setCell ⟨b, 2, none⟩ v') := by
  have hb2 := (hg.block b (lt_of_heap h.blk) (fun e => tag_ne_blk h.own.q h.blk (by decide) e.symm)).trans h.blk
  have hB2 : Below B W W2 := (Below.refl B W).grown hg h.lB (fun k e => (row_tag h.own.q k e).1)
  have ho : Own B W2 vi v' vf { s with que := s.que ++ [x] } := ⟨h.own.i.kept hg (tag_ne h.own.i h.own.q (by decide)), hr, h.own.f.kept hg (tag_ne h.own.f h.own.q (by decide))⟩
  exact ⟨⟨by rw [blk_set v' hb2]; rfl, ho.off hb2, h.lo, by simp; exact Nat.le_trans h.lB hB2.size⟩, hB2.trans ((Below.refl B W2).setCell (p := ⟨b, 2, none⟩) h.lo _)⟩
theorem Nx.appF (h : Nx B W b vi vq vf s) {x : Int × ByteArray} (hg : W.grownBy W2 vf.ownBlock) (hr : W2.ownsRow B 42 2 v' (s.frm ++ [x]).length (fC (s.frm ++ [x]))) : Nx B (W2.setCell ⟨b, 3, none⟩ v') b vi vq v' { s with frm := s.frm ++ [x] } ∧ Below B W (W2.setCell ⟨b, 3, none⟩ v') := by
  have hb2 := (hg.block b (lt_of_heap h.blk) (fun e => tag_ne_blk h.own.f h.blk (by decide) e.symm)).trans h.blk
  have hB2 : Below B W W2 := (Below.refl B W).grown hg h.lB (fun k e => (row_tag h.own.f k e).1)
  have ho : Own B W2 vi vq v' { s with frm := s.frm ++ [x] } := ⟨h.own.i.kept hg (tag_ne h.own.i h.own.f (by decide)), h.own.q.kept hg (tag_ne h.own.q h.own.f (by decide)), hr⟩
  exact ⟨⟨by rw [blk_set v' hb2]; rfl, ho.off hb2, h.lo, by simp; exact Nat.le_trans h.lB hB2.size⟩, hB2.trans ((Below.refl B W2).setCell (p := ⟨b, 3, none⟩) h.lo _)⟩
end

set_option maxRecDepth 100000 in
set_option maxHeartbeats 4000000 in
theorem indent_any {B : Nat} {W : World} {b : Nat} {vi vq vf : Value} {s : Stt} (h : Nx B W b vi vq vf s) (hl : s.ind.length ≤ 1000000) :
    Calls Try.prog 32 #[.pointer (some ⟨b, 0, none⟩)] W fun e W' => Rs B W b (aIndent s) e W' := by
  obtain ⟨a1, c1, a2, c2, a3, c3, rfl, rfl, rfl⟩ := h.own.stm.form
  have HN : Hid (Nx B W b (.slice a1 s.ind.length c1) (.slice a2 s.que.length c2) (.slice a3 s.frm.length c3) s) := h
  have HL : Hid (s.ind.length ≤ 1000000) := hl
  have HPW : Hid (∀ W', Below W.heap.size W W' → (W'.cell? ⟨b, 0, none⟩ = some (.slice a1 s.ind.length c1) ∧ W'.cell? ⟨b, 1, none⟩ = some (.int .i64 s.pen) ∧ W'.cell? ⟨b, 2, none⟩ = some (.slice a2 s.que.length c2) ∧ W'.cell? ⟨b, 3, none⟩ = some (.slice a3 s.frm.length c3) ∧ W'.cell? ⟨b, 4, none⟩ = some (.int .u16 (s.flg : Int)))) := fun W' hW => (h.up hW).cells
  obtain ⟨iE, hi3, hx0, hx1, hx2⟩ := info_parts info3
  have HIE : Hid (Try.prog.info? 3 = some iE ∧ iE.zero = some (.int .i64 0) ∧ iE.size = 1 ∧ iE.bytes = 8) := ⟨hi3, hx0, hx1, hx2⟩
  clear h hl hi3 hx0 hx1 hx2
  go_enter Try.func32, Try.ntmps32
  go_upto_region 1 with fail
  refine wp_region_noPanic ?_
  refine wp_region_held_drew (S := fun W => W.cell? ⟨b, 0, none⟩ = some (.slice a1 s.ind.length c1) ∧ W.cell? ⟨b, 1, none⟩ = some (.int .i64 s.pen) ∧ W.cell? ⟨b, 2, none⟩ = some (.slice a2 s.que.length c2) ∧ W.cell? ⟨b, 3, none⟩ = some (.slice a3 s.frm.length c3) ∧ W.cell? ⟨b, 4, none⟩ = some (.int .u16 (s.flg : Int))) (by kernel_rfl) (HPW.out _ (Below.drew (Below.refl _ _))) (fun hHeld => ?_)
  refine wpAnyH_take (i := 0) (oi := { dst := _, op := _, type := _, pos := _, after := _, guard := _ }) (v := ?_) rfl (by kernel_rfl) (by kernel_rfl) (by kernel_rfl) (fun _ _ _ h => h) (Or.inl ⟨by rfl, ?_⟩) (by assumption) ?_
  rotate_left
  · intro W hSw
    obtain ⟨h0, h1, h2, h3, h4⟩ := hSw
    go_simp
    (try with_reducible rfl)
  try simp only [Act.put, List.setIfInBounds_toArray, List.set_cons_zero, List.set_cons_succ]
  refine wpAnyH_take (i := 1) (oi := { dst := _, op := _, type := _, pos := _, after := _, guard := _ }) (v := ?_) rfl (by kernel_rfl) (by kernel_rfl) (by kernel_rfl) (fun _ _ _ h => h) (Or.inl ⟨by rfl, ?_⟩) (by assumption) ?_
  rotate_left
  · intro W hSw
    obtain ⟨h0, h1, h2, h3, h4⟩ := hSw
    go_simp
    (try with_reducible rfl)
  try simp only [Act.put, List.setIfInBounds_toArray, List.set_cons_zero, List.set_cons_succ]
  refine wpAnyH_take (i := 2) (oi := { dst := _, op := _, type := _, pos := _, after := _, guard := _ }) (v := ?_) rfl (by kernel_rfl) (by kernel_rfl) (by kernel_rfl) (fun _ _ _ h => h) (Or.inl ⟨by rfl, ?_⟩) (by assumption) ?_
  rotate_left
  · intro W hSw
    obtain ⟨h0, h1, h2, h3, h4⟩ := hSw
    go_simp
    (try with_reducible rfl)
  try simp only [Act.put, List.setIfInBounds_toArray, List.set_cons_zero, List.set_cons_succ]
  refine wpAnyH_take (i := 3) (oi := { dst := _, op := _, type := _, pos := _, after := _, guard := _ }) (v := ?_) rfl (by kernel_rfl) (by kernel_rfl) (by kernel_rfl) (fun _ _ _ h => h) (Or.inl ⟨by rfl, ?_⟩) (by assumption) ?_
  rotate_left
  · intro W hSw
    obtain ⟨h0, h1, h2, h3, h4⟩ := hSw
    go_simp
    (try with_reducible rfl)
  try simp only [Act.put, List.setIfInBounds_toArray, List.set_cons_zero, List.set_cons_succ]
  refine wpAnyH_take (i := 4) (oi := { dst := _, op := _, type := _, pos := _, after := _, guard := _ }) (v := ?_) rfl (by kernel_rfl) (by kernel_rfl) (by kernel_rfl) (fun _ _ _ h => h) (Or.inl ⟨by rfl, ?_⟩) (by assumption) ?_
  rotate_left
  · intro W hSw
    obtain ⟨h0, h1, h2, h3, h4⟩ := hSw
    go_simp
    (try with_reducible rfl)
  try simp only [Act.put, List.setIfInBounds_toArray, List.set_cons_zero, List.set_cons_succ]
  refine wpAnyH_take (i := 5) (oi := { dst := _, op := _, type := _, pos := _, after := _, guard := _ }) (v := ?_) rfl (by kernel_rfl) (by kernel_rfl) (by kernel_rfl) (fun _ _ _ h => h) (Or.inl ⟨by rfl, ?_⟩) (by assumption) ?_
  rotate_left
  · intro W hSw
    obtain ⟨h0, h1, h2, h3, h4⟩ := hSw
    go_simp
    (try with_reducible rfl)
  try simp only [Act.put, List.setIfInBounds_toArray, List.set_cons_zero, List.set_cons_succ]
  refine wpAnyH_take (i := 6) (oi := { dst := _, op := _, type := _, pos := _, after := _, guard := _ }) (v := ?_) rfl (by kernel_rfl) (by kernel_rfl) (by kernel_rfl) (fun _ _ _ h => h) (Or.inl ⟨by rfl, ?_⟩) (by assumption) ?_
  rotate_left
  · intro W hSw
    obtain ⟨h0, h1, h2, h3, h4⟩ := hSw
    go_simp
    (try with_reducible rfl)
  try simp only [Act.put, List.setIfInBounds_toArray, List.set_cons_zero, List.set_cons_succ]
  refine wpAnyH_ready (rs := [7]) (by kernel_rfl) (by simp) ?_
  refine AllReadyH.cons (o := { dst := _, op := _, type := _, pos := _, after := _, guard := _ }) rfl (fun K hK => ?_) AllReadyH.nil
  go_simp
  refine (top_any _ (HN.out.drew.own.stm) HL.out).mono ?_
  rintro e w5 ⟨rfl, hb6⟩
  have B6 : Hid (Below W.heap.size W w5) := below_trans (Below.drew (Below.refl _ _)) hb6
  clear hb6
  go_wp2_with fail
  refine hK.out _ _ ?_ (fun hHeld => ?_)
  · (try dsimp only)
    exact HPW.out _ B6.out
  clear hK K
  try simp only [Act.put, List.setIfInBounds_toArray, List.set_cons_zero, List.set_cons_succ]
  refine wpAnyH_take (i := 8) (oi := { dst := _, op := _, type := _, pos := _, after := _, guard := _ }) (v := ?_) rfl (by kernel_rfl) (by kernel_rfl) (by kernel_rfl) (fun _ _ _ h => h) (Or.inl ⟨by rfl, ?_⟩) (by assumption) ?_
  rotate_left
  · intro W hSw
    obtain ⟨h0, h1, h2, h3, h4⟩ := hSw
    go_simp
    (try with_reducible rfl)
  try simp only [Act.put, List.setIfInBounds_toArray, List.set_cons_zero, List.set_cons_succ]
  refine wpAnyH_take (i := 9) (oi := { dst := _, op := _, type := _, pos := _, after := _, guard := _ }) (v := ?_) rfl (by kernel_rfl) (by kernel_rfl) (by kernel_rfl) (fun _ _ _ h => h) (Or.inl ⟨by rfl, ?_⟩) (by assumption) ?_
  rotate_left
  · intro W hSw
    obtain ⟨h0, h1, h2, h3, h4⟩ := hSw
    go_simp
    (try with_reducible rfl)
  try simp only [Act.put, List.setIfInBounds_toArray, List.set_cons_zero, List.set_cons_succ]
  refine wpAnyH_done (by kernel_rfl) ?_ _
  refine NoPanic.normal ?_
  clear hHeld
  have HN5 : Hid (Nx B w5 b (.slice a1 s.ind.length c1) (.slice a2 s.que.length c2) (.slice a3 s.frm.length c3) s) := HN.out.up B6.out
  have HB5 : Hid (Below B W w5) := B6.out.mono HN.out.lB
  by_cases hp : s.pen ≤ s.top
  · have e0 : decide (s.pen ≤ s.top) = true := by rw [decide_eq_true_eq]; exact hp
    have HE : Hid (aIndent s = .error 66) := by unfold aIndent; rw [if_pos hp]; exact rfl
    clear hp
    rw [e0]
    go_wp2_with fail
    go_ret
    exact ⟨HB5.out, .inr ⟨66, HE.out, rfl⟩⟩
  · have e0 : decide (s.pen ≤ s.top) = false := by rw [decide_eq_false_iff_not]; exact hp
    rw [e0]
    by_cases hq : s.ind.length = 32
    · have d0 : ((s.ind.length : Int) == 32) = true := by rw [beq_iff_eq]; omega
      have d1 : (s.ind.length == 32) = true := by rw [beq_iff_eq]; omega
      have HE : Hid (aIndent s = .error 60) := by unfold aIndent; rw [if_neg hp, if_pos hq]; exact rfl
      obtain ⟨k0, k1, k2, k3, k4⟩ := HN5.out.cells
      clear hp hq
      go_wp2_with fail
      go_ret
      exact ⟨HB5.out, .inr ⟨60, HE.out, rfl⟩⟩
    · have d0 : ((s.ind.length : Int) == 32) = false := by rw [beq_eq_false_iff_ne]; omega
      have d1 : (s.ind.length == 32) = false := by rw [beq_eq_false_iff_ne]; omega
      have HE : Hid (aIndent s = .ok { s with ind := s.ind ++ [s.pen], pen := -1 }) := by unfold aIndent; rw [if_neg hp, if_neg hq]; exact rfl
      obtain ⟨k0, k1, k2, k3, k4⟩ := HN5.out.cells
      clear hp hq
      go_upto_region 5 with fail
      clear k0 k1 k2 k3 k4
      obtain ⟨WD, hWD⟩ : ∃ WD, w5.drew = WD := ⟨_, rfl⟩
      have HMD : Hid (Nx B WD b (.slice a1 s.ind.length c1) (.slice a2 s.que.length c2) (.slice a3 s.frm.length c3) s) := by rw [← hWD]; exact HN5.out.drew
      have HBD : Hid (Below B w5 WD) := by rw [← hWD]; exact Below.drew (Below.refl _ _)
      have k0 := HMD.out.cell 0 _ rfl
      refine wp_region_noPanic ?_
      refine wp_region_held_drew (S := fun W => W.cell? ⟨b, 1, none⟩ = some (.int .i64 s.pen)) (by kernel_rfl) (by rw [hWD]; exact HMD.out.cell 1 _ rfl) (fun hHeld => ?_)
      rw [hWD] at hHeld ⊢
      clear hWD
      refine wpAnyH_take (i := 0) (oi := { dst := _, op := _, type := _, pos := _, after := _, guard := _ }) (v := ?_) rfl (by kernel_rfl) (by kernel_rfl) (by kernel_rfl) (fun _ _ _ h => h) (Or.inl ⟨by rfl, ?_⟩) (by assumption) ?_
      rotate_left
      · intro W hSw
        (try dsimp only at hSw)
        go_simp
        (try with_reducible rfl)
      try simp only [Act.put, List.setIfInBounds_toArray, List.set_cons_zero, List.set_cons_succ]
      refine wpAnyH_take (i := 1) (oi := { dst := _, op := _, type := _, pos := _, after := _, guard := _ }) (v := ?_) rfl (by kernel_rfl) (by kernel_rfl) (by kernel_rfl) (fun _ _ _ h => h) (Or.inl ⟨by rfl, ?_⟩) (by assumption) ?_
      rotate_left
      · intro W hSw
        (try dsimp only at hSw)
        go_simp
        (try with_reducible rfl)
      try simp only [Act.put, List.setIfInBounds_toArray, List.set_cons_zero, List.set_cons_succ]
      refine wpAnyH_take (i := 2) (oi := { dst := _, op := _, type := _, pos := _, after := _, guard := _ }) (v := ?_) rfl (by kernel_rfl) (by kernel_rfl) (by kernel_rfl) (fun _ _ _ h => h) (Or.inl ⟨by rfl, ?_⟩) (by assumption) ?_
      rotate_left
      · intro W hSw
        (try dsimp only at hSw)
        go_simp
        (try with_reducible rfl)
      try simp only [Act.put, List.setIfInBounds_toArray, List.set_cons_zero, List.set_cons_succ]
      refine wpAnyH_take (i := 3) (oi := { dst := _, op := _, type := _, pos := _, after := _, guard := _ }) (v := ?_) rfl (by kernel_rfl) (by kernel_rfl) (by kernel_rfl) (fun _ _ _ h => h) (Or.inl ⟨by rfl, ?_⟩) (by assumption) ?_
      rotate_left
      · intro W hSw
        (try dsimp only at hSw)
        go_simp
        (try with_reducible rfl)
      try simp only [Act.put, List.setIfInBounds_toArray, List.set_cons_zero, List.set_cons_succ]
      refine wpAnyH_take (i := 5) (oi := { dst := _, op := _, type := _, pos := _, after := _, guard := _ }) (v := ?_) rfl (by kernel_rfl) (by kernel_rfl) (by kernel_rfl) (fun _ _ _ h => h) (Or.inl ⟨by rfl, ?_⟩) (by assumption) ?_
      rotate_left
      · intro W hSw
        (try dsimp only at hSw)
        go_simp
        (try with_reducible rfl)
      try simp only [Act.put, List.setIfInBounds_toArray, List.set_cons_zero, List.set_cons_succ]
      refine wpAnyH_take (i := 6) (oi := { dst := _, op := _, type := _, pos := _, after := _, guard := _ }) (v := ?_) rfl (by kernel_rfl) (by kernel_rfl) (by kernel_rfl) (fun _ _ _ h => h) (Or.inl ⟨by rfl, ?_⟩) (by assumption) ?_
      rotate_left
      · intro W hSw
        (try dsimp only at hSw)
        go_simp
        (try with_reducible rfl)
      try simp only [Act.put, List.setIfInBounds_toArray, List.set_cons_zero, List.set_cons_succ]
      refine wpAnyH_take (i := 7) (oi := { dst := _, op := _, type := _, pos := _, after := _, guard := _ }) (v := ?_) rfl (by kernel_rfl) (by kernel_rfl) (by kernel_rfl) (fun _ _ _ h => h) (Or.inl ⟨by rfl, ?_⟩) (by assumption) ?_
      rotate_left
      · intro W hSw
        (try dsimp only at hSw)
        go_simp
        (try with_reducible rfl)
      try simp only [Act.put, List.setIfInBounds_toArray, List.set_cons_zero, List.set_cons_succ]
      refine wpAnyH_take (i := 8) (oi := { dst := _, op := _, type := _, pos := _, after := _, guard := _ }) (v := ?_) rfl (by kernel_rfl) (by kernel_rfl) (by kernel_rfl) (fun _ _ _ h => h) (Or.inl ⟨by rfl, ?_⟩) (by assumption) ?_
      rotate_left
      · intro W hSw
        (try dsimp only at hSw)
        go_simp
        (try with_reducible rfl)
      try simp only [Act.put, List.setIfInBounds_toArray, List.set_cons_zero, List.set_cons_succ]
      refine wpAnyH_ready (rs := [4, 9]) (by kernel_rfl) (by simp) ?_
      refine AllReadyH.cons (o := { dst := _, op := _, type := _, pos := _, after := _, guard := _ }) rfl (fun K hK => ?_) (AllReadyH.cons (o := { dst := _, op := _, type := _, pos := _, after := _, guard := _ }) rfl (fun K hK => ?_) (AllReadyH.nil))
      · go_simp
        refine hK.out _ _ ?_ (fun hHeld => ?_)
        · exact hHeld
        clear hK K
        try simp only [Act.put, List.setIfInBounds_toArray, List.set_cons_zero, List.set_cons_succ]
        refine wpAnyH_ready (rs := [9]) (by kernel_rfl) (by simp) ?_
        refine AllReadyH.cons (o := { dst := _, op := _, type := _, pos := _, after := _, guard := _ }) rfl (fun K hK => ?_) AllReadyH.nil
        go_simp
        refine hK.out _ _ ?_ (fun hHeld => ?_)
        · exact cell_up _ hHeld
        clear hK K
        try simp only [Act.put, List.setIfInBounds_toArray, List.set_cons_zero, List.set_cons_succ]
        have k0a : (WD.alloc (.cells #[.int .i64 s.pen] 3)).cell? ⟨b, 0, none⟩ = some (.slice a1 s.ind.length c1) := cell_up _ k0
        refine wpAnyH_ready (rs := [10]) (by kernel_rfl) (by simp) ?_
        refine AllReadyH.cons (o := { dst := _, op := _, type := _, pos := _, after := _, guard := _ }) rfl (fun K hK => ?_) AllReadyH.nil
        refine step_append_lies _ rfl (.tmp 24) (.tmp 29) 22 rfl B 3 iE _ 1 8 Try.underlying22 HIE.out.1 HIE.out.2.1 HIE.out.2.2.1 HIE.out.2.2.2 rfl (by decide) (.slice a1 s.ind.length c1) _ _ rfl (HMD.out.own.i.alloc _) ⟨WD.heap.size, 0, none⟩ 1 1 [.int .i64 s.pen] rfl rfl (cell_one_new _ _ _) (by simp [Value.oneCell']) (by decide) (by have := HL.out; unfold maxLen; omega) (by have := HL.out; omega) (by have := HMD.out.lB; simp; omega) (WD.heap.size + 1) (by simp) ?_
        intro g' cap' w' h2 h3 h4 _
        have HO : Hid (w'.ownsRow B 3 1 (.slice (some ⟨g', 0, none⟩) (s.ind.length + 1) cap') (s.ind ++ [s.pen]).length (iC (s.ind ++ [s.pen]))) := by rw [iC_app, List.length_append]; exact h2
        have HG : Hid (WD.grownBy w' (Value.ownBlock (.slice a1 s.ind.length c1))) := (World.grownBy_alloc _ _ _).trans h3
        have k0b : w'.cell? ⟨b, 0, none⟩ = some (.slice a1 s.ind.length c1) := h3.cell k0a (fun e => tag_ne_blk HMD.out.own.i HMD.out.blk (by decide) e.symm)
        have f0b : w'.frozen? ⟨b, 0, none⟩ = false := Lib.frozen_of_heap ((HG.out.block b (lt_of_heap HMD.out.blk) (fun e => tag_ne_blk HMD.out.own.i HMD.out.blk (by decide) e.symm)).trans HMD.out.blk) 0
        have s0b : w'.cell? ⟨b, 1, none⟩ = some (.int .i64 s.pen) := h3.cell hHeld (fun e => tag_ne_blk HMD.out.own.i HMD.out.blk (by decide) e.symm)
        clear h2 h3 h4 k0 k0a
        refine hK.out _ _ ?_ (fun hHeld => ?_)
        · exact s0b
        clear hK K
        try simp only [Act.put, List.setIfInBounds_toArray, List.set_cons_zero, List.set_cons_succ]
        clear s0b
        refine wpAnyH_take (i := 11) (oi := { dst := _, op := _, type := _, pos := _, after := _, guard := _ }) (v := ?_) rfl (by kernel_rfl) (by kernel_rfl) (by kernel_rfl) (fun _ _ _ h => h) (Or.inl ⟨by rfl, ?_⟩) (by assumption) ?_
        rotate_left
        · intro W hSw
          (try dsimp only at hSw)
          go_simp
          (try with_reducible rfl)
        try simp only [Act.put, List.setIfInBounds_toArray, List.set_cons_zero, List.set_cons_succ]
        refine wpAnyH_take (i := 12) (oi := { dst := _, op := _, type := _, pos := _, after := _, guard := _ }) (v := ?_) rfl (by kernel_rfl) (by kernel_rfl) (by kernel_rfl) (fun _ _ _ h => h) (Or.inl ⟨by rfl, ?_⟩) (by assumption) ?_
        rotate_left
        · intro W hSw
          (try dsimp only at hSw)
          go_simp
          (try with_reducible rfl)
        try simp only [Act.put, List.setIfInBounds_toArray, List.set_cons_zero, List.set_cons_succ]
        refine wpAnyH_ready (rs := [13]) (by kernel_rfl) (by simp) ?_
        refine AllReadyH.cons (o := { dst := _, op := _, type := _, pos := _, after := _, guard := _ }) rfl (fun K hK => ?_) AllReadyH.nil
        go_simp
        refine hK.out _ _ ?_ (fun hHeld => ?_)
        · rw [World.cell?_setCell_other _ _ _ _ (fun h => by cases h)]; exact hHeld
        clear hK K
        try simp only [Act.put, List.setIfInBounds_toArray, List.set_cons_zero, List.set_cons_succ]
        refine wpAnyH_done (by kernel_rfl) ?_ _
        clear hHeld k0b f0b
        refine NoPanic.normal ?_
        obtain ⟨hq1, hq2⟩ := HMD.out.appI HG.out HO.out
        have HQ1 : Hid _ := hq1
        have HQ2 : Hid _ := HBD.out.trans hq2
        clear hq1 hq2
        obtain ⟨W7, hW7⟩ : ∃ W7, W7 = w'.setCell ⟨b, 0, none⟩ (.slice (some ⟨g', 0, none⟩) (s.ind.length + 1) cap') := ⟨_, rfl⟩
        rw [← hW7] at HQ1 HQ2 ⊢
        clear hW7
        obtain ⟨q0, q1, q2, q3, q4⟩ := HQ1.out.cells
        have qf := HQ1.out.frz 1
        obtain ⟨hn, hb⟩ := HQ1.out.put (t := { s with ind := s.ind ++ [s.pen], pen := -1 }) 1 (.int .i64 (-1)) rfl ⟨HQ1.out.own.i, HQ1.out.own.q, HQ1.out.own.f⟩
        have HR : Hid _ := hn
        have HRB : Hid _ := (HB5.out.trans HQ2.out).trans hb
        clear hn hb
        go_wp2_with fail
        go_ret
        exact ⟨HRB.out, .inl ⟨_, _, _, _, HE.out, rfl, HR.out⟩⟩
      · go_simp
        refine hK.out _ _ ?_ (fun hHeld => ?_)
        · exact cell_up _ hHeld
        clear hK K
        try simp only [Act.put, List.setIfInBounds_toArray, List.set_cons_zero, List.set_cons_succ]
        have k0a : (WD.alloc (.cells #[.int .i64 s.pen] 3)).cell? ⟨b, 0, none⟩ = some (.slice a1 s.ind.length c1) := cell_up _ k0
        refine wpAnyH_ready (rs := [4]) (by kernel_rfl) (by simp) ?_
        refine AllReadyH.cons (o := { dst := _, op := _, type := _, pos := _, after := _, guard := _ }) rfl (fun K hK => ?_) AllReadyH.nil
        go_simp
        refine hK.out _ _ ?_ (fun hHeld => ?_)
        · exact hHeld
        clear hK K
        try simp only [Act.put, List.setIfInBounds_toArray, List.set_cons_zero, List.set_cons_succ]
        refine wpAnyH_ready (rs := [10]) (by kernel_rfl) (by simp) ?_
        refine AllReadyH.cons (o := { dst := _, op := _, type := _, pos := _, after := _, guard := _ }) rfl (fun K hK => ?_) AllReadyH.nil
        refine step_append_lies _ rfl (.tmp 24) (.tmp 29) 22 rfl B 3 iE _ 1 8 Try.underlying22 HIE.out.1 HIE.out.2.1 HIE.out.2.2.1 HIE.out.2.2.2 rfl (by decide) (.slice a1 s.ind.length c1) _ _ rfl (HMD.out.own.i.alloc _) ⟨WD.heap.size, 0, none⟩ 1 1 [.int .i64 s.pen] rfl rfl (cell_one_new _ _ _) (by simp [Value.oneCell']) (by decide) (by have := HL.out; unfold maxLen; omega) (by have := HL.out; omega) (by have := HMD.out.lB; simp; omega) (WD.heap.size + 1) (by simp) ?_
        intro g' cap' w' h2 h3 h4 _
        have HO : Hid (w'.ownsRow B 3 1 (.slice (some ⟨g', 0, none⟩) (s.ind.length + 1) cap') (s.ind ++ [s.pen]).length (iC (s.ind ++ [s.pen]))) := by rw [iC_app, List.length_append]; exact h2
        have HG : Hid (WD.grownBy w' (Value.ownBlock (.slice a1 s.ind.length c1))) := (World.grownBy_alloc _ _ _).trans h3
        have k0b : w'.cell? ⟨b, 0, none⟩ = some (.slice a1 s.ind.length c1) := h3.cell k0a (fun e => tag_ne_blk HMD.out.own.i HMD.out.blk (by decide) e.symm)
        have f0b : w'.frozen? ⟨b, 0, none⟩ = false := Lib.frozen_of_heap ((HG.out.block b (lt_of_heap HMD.out.blk) (fun e => tag_ne_blk HMD.out.own.i HMD.out.blk (by decide) e.symm)).trans HMD.out.blk) 0
        have s0b : w'.cell? ⟨b, 1, none⟩ = some (.int .i64 s.pen) := h3.cell hHeld (fun e => tag_ne_blk HMD.out.own.i HMD.out.blk (by decide) e.symm)
        clear h2 h3 h4 k0 k0a
        refine hK.out _ _ ?_ (fun hHeld => ?_)
        · exact s0b
        clear hK K
        try simp only [Act.put, List.setIfInBounds_toArray, List.set_cons_zero, List.set_cons_succ]
        clear s0b
        refine wpAnyH_take (i := 11) (oi := { dst := _, op := _, type := _, pos := _, after := _, guard := _ }) (v := ?_) rfl (by kernel_rfl) (by kernel_rfl) (by kernel_rfl) (fun _ _ _ h => h) (Or.inl ⟨by rfl, ?_⟩) (by assumption) ?_
        rotate_left
        · intro W hSw
          (try dsimp only at hSw)
          go_simp
          (try with_reducible rfl)
        try simp only [Act.put, List.setIfInBounds_toArray, List.set_cons_zero, List.set_cons_succ]
        refine wpAnyH_take (i := 12) (oi := { dst := _, op := _, type := _, pos := _, after := _, guard := _ }) (v := ?_) rfl (by kernel_rfl) (by kernel_rfl) (by kernel_rfl) (fun _ _ _ h => h) (Or.inl ⟨by rfl, ?_⟩) (by assumption) ?_
        rotate_left
        · intro W hSw
          (try dsimp only at hSw)
          go_simp
          (try with_reducible rfl)
        try simp only [Act.put, List.setIfInBounds_toArray, List.set_cons_zero, List.set_cons_succ]
        refine wpAnyH_ready (rs := [13]) (by kernel_rfl) (by simp) ?_
        refine AllReadyH.cons (o := { dst := _, op := _, type := _, pos := _, after := _, guard := _ }) rfl (fun K hK => ?_) AllReadyH.nil
        go_simp
        refine hK.out _ _ ?_ (fun hHeld => ?_)
        · rw [World.cell?_setCell_other _ _ _ _ (fun h => by cases h)]; exact hHeld
        clear hK K
        try simp only [Act.put, List.setIfInBounds_toArray, List.set_cons_zero, List.set_cons_succ]
        refine wpAnyH_done (by kernel_rfl) ?_ _
        clear hHeld k0b f0b
        refine NoPanic.normal ?_
        obtain ⟨hq1, hq2⟩ := HMD.out.appI HG.out HO.out
        have HQ1 : Hid _ := hq1
        have HQ2 : Hid _ := HBD.out.trans hq2
        clear hq1 hq2
        obtain ⟨W7, hW7⟩ : ∃ W7, W7 = w'.setCell ⟨b, 0, none⟩ (.slice (some ⟨g', 0, none⟩) (s.ind.length + 1) cap') := ⟨_, rfl⟩
        rw [← hW7] at HQ1 HQ2 ⊢
        clear hW7
        obtain ⟨q0, q1, q2, q3, q4⟩ := HQ1.out.cells
        have qf := HQ1.out.frz 1
        obtain ⟨hn, hb⟩ := HQ1.out.put (t := { s with ind := s.ind ++ [s.pen], pen := -1 }) 1 (.int .i64 (-1)) rfl ⟨HQ1.out.own.i, HQ1.out.own.q, HQ1.out.own.f⟩
        have HR : Hid _ := hn
        have HRB : Hid _ := (HB5.out.trans HQ2.out).trans hb
        clear hn hb
        go_wp2_with fail
        go_ret
        exact ⟨HRB.out, .inl ⟨_, _, _, _, HE.out, rfl, HR.out⟩⟩
end Go.Proofs.Ytkaciochlemjiab
