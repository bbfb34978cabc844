import Derived.Test.YtkaciochlemjiabOpz
import Derived.Test.YtkaciochlemjiabBse
namespace Go.Proofs.Ytkaciochlemjiab
open Go.RowKit Go.Maps

theorem row_cap {W : World} {B : Nat} {e : TypeId} {size n m g cap : Nat} {xs : List Value} (h : W.ownsRow B e size (.slice (some ⟨g, 0, none⟩) n cap) m xs) : m ≤ cap ∧ cap ≤ maxLen := by
  rcases h.2 with ⟨h, _⟩ | ⟨g', cap', cur, h0, h1, h2, h3, h4, _⟩
  · cases h
  · obtain ⟨-, -, rfl⟩ := Value.slice.inj h0
    exact ⟨h3, h4⟩
/-- roomy under way: the state's box, the result's cell, the new state's box. -/
structure Rmb (w W : World) (T : Nat) (sb : Array Value) (xi xq xf : Value) (s : Stt) : Prop where
  bs : W.heap[w.heap.size]? = some (.cells sb 27 (0, 0))
  bz : W.heap[w.heap.size + 1]? = some (.cells zrC 27 (0, 0))
  bt : W.heap[T]? = some (.cells (bxC xi xq xf s) 27 (0, 0))
  bw : Below w.heap.size w W
  lt : w.heap.size + 2 ≤ T
section
variable {w W W' : World} {T : Nat} {sb : Array Value} {xi xq xf : Value} {s : Stt}
theorem Rmb.up (h : Rmb w W T sb xi xq xf s) (hb : Below W.heap.size W W') : Rmb w W' T sb xi xq xf s :=
  ⟨by rw [hb.block _ (lt_of_heap h.bs)]; exact h.bs, by rw [hb.block _ (lt_of_heap h.bz)]; exact h.bz, by rw [hb.block _ (lt_of_heap h.bt)]; exact h.bt, h.bw.trans (hb.mono h.bw.size), h.lt⟩
theorem Rmb.tcell (h : Rmb w W T sb xi xq xf s) (k : Nat) (v : Value) (hk : (bxC xi xq xf s)[k]? = some v) : W.cell? ⟨T, k, none⟩ = some v := by rw [Lib.cell_of_heap h.bt]; exact hk
theorem Rmb.app {e : TypeId} {size n : Nat} {v : Value} {xs : List Value} {xi' xq' xf' : Value} (h : Rmb w W T sb xi xq xf s) (hr : W.ownsRow w.heap.size e size v n xs) (he : e ≠ 27) (hg : W.grownBy W' v.ownBlock) (k : Nat) (u : Value) (hk : (bxC xi xq xf s).setIfInBounds k u = bxC xi' xq' xf' s) : Rmb w (W'.setCell ⟨T, k, none⟩ u) T sb xi' xq' xf' s := by
  have kb : ∀ {b : Nat} {cs : Array Value}, W.heap[b]? = some (.cells cs 27 (0, 0)) → W'.heap[b]? = some (.cells cs 27 (0, 0)) := fun hb => (hg.block _ (lt_of_heap hb) (fun e' => tag_ne_blk hr hb he e'.symm)).trans hb
  have hlt := h.lt
  refine ⟨?_, ?_, ?_, ?_, h.lt⟩
  · rw [Below.heap_setCell _ _ _ _ (by simp <;> omega)]; exact kb h.bs
  · rw [Below.heap_setCell _ _ _ _ (by simp <;> omega)]; exact kb h.bz
  · rw [blk_set u (kb h.bt), hk]
  · exact (h.bw.grown hg h.bw.size (fun r e' => (row_tag hr r e').1)).trans ((Below.refl _ _).setCell (p := ⟨T, k, none⟩) (by show w.heap.size ≤ T; omega) _)
/-- A row that is not appended to stays. -/
theorem Rmb.row {e e' : TypeId} {size size' n n' : Nat} {v v' u : Value} {xs xs' : List Value} {k : Nat} (h : Rmb w W T sb xi xq xf s) (hr : W.ownsRow w.heap.size e size v n xs) (he : e ≠ 27) (hg : W.grownBy W' v.ownBlock) (hr' : W.ownsRow w.heap.size e' size' v' n' xs') (he' : e' ≠ 27) (hne : e' ≠ e) : (W'.setCell ⟨T, k, none⟩ u).ownsRow w.heap.size e' size' v' n' xs' := by
  have hb : W'.heap[T]? = some (.cells (bxC xi xq xf s) 27 (0, 0)) := (hg.block _ (lt_of_heap h.bt) (fun e' => tag_ne_blk hr h.bt he e'.symm)).trans h.bt
  exact (row_off hb (hr'.kept hg (tag_ne hr' hr hne)) he').1
/-- The row that was appended to. -/
theorem Rmb.got {e : TypeId} {size n n' : Nat} {v v' u : Value} {xs xs' : List Value} {k : Nat} (h : Rmb w W T sb xi xq xf s) (hr : W.ownsRow w.heap.size e size v n xs) (he : e ≠ 27) (hg : W.grownBy W' v.ownBlock) (hr' : W'.ownsRow w.heap.size e size v' n' xs') : (W'.setCell ⟨T, k, none⟩ u).ownsRow w.heap.size e size v' n' xs' := by
  have hb : W'.heap[T]? = some (.cells (bxC xi xq xf s) 27 (0, 0)) := (hg.block _ (lt_of_heap h.bt) (fun e' => tag_ne_blk hr h.bt he e'.symm)).trans h.bt
  exact (row_off hb hr' he).1
end
theorem cell_four_new (w : World) (x y z u : Value) (t : TypeId) : ∀ j q, [x, y, z, u][j]? = some q → (w.alloc (.cells #[x, y, z, u] t)).cell? ((⟨w.heap.size, 0, none⟩ : Addr).add j) = some q := by
  intro j u hj
  rw [addPl, Nat.zero_add, Lib.cell_of_heap (heap_new w _)]
  simpa using hj
def mkB : ByteArray := ⟨#[109, 97, 114, 107]⟩
/-- A state whose lists have marked room behind them. -/
def Rmy (B : Nat) (W : World) (vi vq vf : Value) (s : Stt) : Prop := ∃ g1 k1 g2 k2 g3 k3, vi = .slice (some ⟨g1, 0, none⟩) s.ind.length k1 ∧ vq = .slice (some ⟨g2, 0, none⟩) s.que.length k2 ∧ vf = .slice (some ⟨g3, 0, none⟩) s.frm.length k3 ∧
  W.ownsRow B 3 1 (.slice (some ⟨g1, 0, none⟩) (s.ind.length + 2) k1) (s.ind.length + 2) (iC s.ind ++ [.int .i64 71, .int .i64 72]) ∧
  W.ownsRow B 9 1 (.slice (some ⟨g2, 0, none⟩) (s.que.length + 2) k2) (s.que.length + 2) (qC s.que ++ [.string ⟨#[109, 97, 114, 107]⟩, .string ⟨#[109, 97, 114, 107]⟩]) ∧
  W.ownsRow B 42 2 (.slice (some ⟨g3, 0, none⟩) (s.frm.length + 2) k3) (s.frm.length + 2) (fC s.frm ++ [.int .i64 73, .string ⟨#[]⟩, .int .i64 74, .string ⟨#[]⟩])

set_option maxRecDepth 100000 in
set_option maxHeartbeats 16000000 in
theorem roomy_any {vi vq vf : Value} {s : Stt} (w : World) (h : Stm w vi vq vf s) (hz : Sid s) :
    Calls Try.prog 20 #[sv vi vq vf s] w fun e w' => ∃ vi' vq' vf', e = .returned (sv vi' vq' vf' s) ∧ Rmy w.heap.size w' vi' vq' vf' s ∧ Below w.heap.size w w' := by
  obtain ⟨a1, c1, a2, c2, a3, c3, rfl, rfl, rfl⟩ := h.form
  obtain ⟨W1, hW1⟩ : ∃ W1, W1 = (w.alloc (.cells #[.slice a1 s.ind.length c1, .int .i64 s.pen, .slice a2 s.que.length c2, .slice a3 s.frm.length c3, .int .u16 (s.flg : Int)] 27)).alloc (.cells #[.slice none 0 0, .int .i64 0, .slice none 0 0, .slice none 0 0, .int .u16 0] 27) := ⟨_, rfl⟩
  have B1 : Hid (Below w.heap.size w W1) := by rw [hW1]; exact below_trans (bel_up _ _) (bel_up _ _)
  have HP1 : Hid (W1.heap[w.heap.size]? = some (.cells #[.slice a1 s.ind.length c1, .int .i64 s.pen, .slice a2 s.que.length c2, .slice a3 s.frm.length c3, .int .u16 (s.flg : Int)] 27 (0, 0))) := by
    rw [hW1, (bel_up _ _).block _ (by simp)]; exact heap_new w _
  have HP2 : Hid (W1.heap[w.heap.size + 1]? = some (.cells #[.slice none 0 0, .int .i64 0, .slice none 0 0, .slice none 0 0, .int .u16 0] 27 (0, 0))) := by
    rw [hW1]
    have := heap_new (w.alloc (.cells #[.slice a1 s.ind.length c1, .int .i64 s.pen, .slice a2 s.que.length c2, .slice a3 s.frm.length c3, .int .u16 (s.flg : Int)] 27)) (.cells #[.slice none 0 0, .int .i64 0, .slice none 0 0, .slice none 0 0, .int .u16 0] 27)
    rw [World.size_alloc] at this
    exact this
  have HSZ : Hid (W1.heap.size = w.heap.size + 2) := by rw [hW1, World.size_alloc, World.size_alloc]; exact rfl
  have HW : Hid (W1 = (w.alloc (.cells #[.slice a1 s.ind.length c1, .int .i64 s.pen, .slice a2 s.que.length c2, .slice a3 s.frm.length c3, .int .u16 (s.flg : Int)] 27)).alloc (.cells #[.slice none 0 0, .int .i64 0, .slice none 0 0, .slice none 0 0, .int .u16 0] 27)) := hW1
  have HS : Hid (Stm W1 (.slice a1 s.ind.length c1) (.slice a2 s.que.length c2) (.slice a3 s.frm.length c3) s) := h.up B1.out
  have HZ : Hid (Sid s) := hz
  obtain ⟨iE, hi3, hx0, hx1, hx2⟩ := info_parts info3
  have HI3 : Hid (Try.prog.info? 3 = some iE ∧ iE.zero = some (.int .i64 0) ∧ iE.size = 1 ∧ iE.bytes = 8) := ⟨hi3, hx0, hx1, hx2⟩
  obtain ⟨iQ, hq3, hy0, hy1, hy2⟩ := info_parts info9
  have HI9 : Hid (Try.prog.info? 9 = some iQ ∧ iQ.zero = some (.string ⟨#[]⟩) ∧ iQ.size = 1 ∧ iQ.bytes = 16) := ⟨hq3, hy0, hy1, hy2⟩
  obtain ⟨iF, hf3, hz0, hz1, hz2⟩ := info_parts info54
  have HI54 : Hid (Try.prog.info? 42 = some iF ∧ iF.zero = some (.agg #[.int .i64 0, .string ⟨#[]⟩]) ∧ iF.size = 2 ∧ iF.bytes = 24) := ⟨hf3, hz0, hz1, hz2⟩
  clear h hz hW1 hi3 hx0 hx1 hx2 hq3 hy0 hy1 hy2 hf3 hz0 hz1 hz2
  go_enter Try.func20, Try.ntmps20
  go_upto_region 1 with fail
  rw [← HW.out]
  obtain ⟨p0, p1, p2, p3, p4⟩ := box_cells HP1.out
  go_wp2_with fail
  refine (twin_any W1 HS.out (by have := HZ.out.i; omega) (by have := HZ.out.q; omega) (by have := HZ.out.f; omega)).mono ?_
  rintro e w2 ⟨ui, uq, uf, rfl, ho2, hb2⟩
  obtain ⟨x1, y1, x2, y2, x3, y3, rfl, rfl, rfl⟩ := ho2.stm.form
  obtain ⟨W2, hW2⟩ : ∃ W2, W2 = w2.alloc (.cells #[.slice x1 s.ind.length y1, .int .i64 s.pen, .slice x2 s.que.length y2, .slice x3 s.frm.length y3, .int .u16 (s.flg : Int)] 27) := ⟨_, rfl⟩
  have HW2 : Hid (W2 = w2.alloc (.cells #[.slice x1 s.ind.length y1, .int .i64 s.pen, .slice x2 s.que.length y2, .slice x3 s.frm.length y3, .int .u16 (s.flg : Int)] 27)) := hW2
  have B2 : Hid (Below W1.heap.size W1 W2) := by rw [hW2]; exact below_trans hb2 (bel_up _ _)
  obtain ⟨T, hT⟩ : ∃ T, w2.heap.size = T := ⟨_, rfl⟩
  have HTT : Hid (w2.heap.size = T) := hT
  have HM : Hid (Rmb w W2 T #[.slice a1 s.ind.length c1, .int .i64 s.pen, .slice a2 s.que.length c2, .slice a3 s.frm.length c3, .int .u16 (s.flg : Int)] (.slice x1 s.ind.length y1) (.slice x2 s.que.length y2) (.slice x3 s.frm.length y3) s) := by
    refine ⟨(B2.out.block _ (lt_of_heap HP1.out)).trans HP1.out, (B2.out.block _ (lt_of_heap HP2.out)).trans HP2.out, ?_, below_trans B1.out B2.out, ?_⟩
    · rw [hW2, ← hT]; exact heap_new w2 _
    · rw [← hT, ← HSZ.out]; exact hb2.size
  have hbase : w.heap.size ≤ W1.heap.size := B1.out.size
  have RI : Hid (W2.ownsRow w.heap.size 3 1 (.slice x1 s.ind.length y1) s.ind.length (iC s.ind)) := row_up (row_base (by rw [hW2]; exact row_up ho2.i (bel_up _ _)) hbase) (Below.refl _ _)
  have RQ : Hid (W2.ownsRow w.heap.size 9 1 (.slice x2 s.que.length y2) s.que.length (qC s.que)) := row_up (row_base (by rw [hW2]; exact row_up ho2.q (bel_up _ _)) hbase) (Below.refl _ _)
  have RF : Hid (W2.ownsRow w.heap.size 42 2 (.slice x3 s.frm.length y3) s.frm.length (fC s.frm)) := row_up (row_base (by rw [hW2]; exact row_up ho2.f (bel_up _ _)) hbase) (Below.refl _ _)
  clear hW2 hb2 ho2 p0 p1 p2 p3 p4 hT hbase
  go_upto_region 2 with fail
  rw [HTT.out]
  rw [← HW2.out]
  go_cut [3] from 6 to 14 (fun v3 wx => v3 = .pointer (some ⟨T, 0, none⟩) ∧ ∃ g c, Hid (Rmb w wx T #[.slice a1 s.ind.length c1, .int .i64 s.pen, .slice a2 s.que.length c2, .slice a3 s.frm.length c3, .int .u16 (s.flg : Int)] (.slice (some ⟨g, 0, none⟩) s.ind.length c) (.slice x2 s.que.length y2) (.slice x3 s.frm.length y3) s) ∧ Hid (wx.ownsRow w.heap.size 3 1 (.slice (some ⟨g, 0, none⟩) (s.ind.length + 2) c) (s.ind.length + 2) (iC s.ind ++ [.int .i64 71, .int .i64 72])) ∧ Hid (wx.ownsRow w.heap.size 9 1 (.slice x2 s.que.length y2) s.que.length (qC s.que)) ∧ Hid (wx.ownsRow w.heap.size 42 2 (.slice x3 s.frm.length y3) s.frm.length (fC s.frm)))
  case first =>
    obtain ⟨WD, hWD⟩ : ∃ WD, W2.drew = WD := ⟨_, rfl⟩
    have HMD : Hid (Rmb w WD T #[.slice a1 s.ind.length c1, .int .i64 s.pen, .slice a2 s.que.length c2, .slice a3 s.frm.length c3, .int .u16 (s.flg : Int)] (.slice x1 s.ind.length y1) (.slice x2 s.que.length y2) (.slice x3 s.frm.length y3) s) := by rw [← hWD]; exact HM.out.up (Below.drew (Below.refl _ _))
    have RID : Hid (WD.ownsRow w.heap.size 3 1 (.slice x1 s.ind.length y1) s.ind.length (iC s.ind)) := by rw [← hWD]; exact row_up RI.out (Below.drew (Below.refl _ _))
    have RQD : Hid (WD.ownsRow w.heap.size 9 1 (.slice x2 s.que.length y2) s.que.length (qC s.que)) := by rw [← hWD]; exact row_up RQ.out (Below.drew (Below.refl _ _))
    have RFD : Hid (WD.ownsRow w.heap.size 42 2 (.slice x3 s.frm.length y3) s.frm.length (fC s.frm)) := by rw [← hWD]; exact row_up RF.out (Below.drew (Below.refl _ _))
    have k0 := HMD.out.tcell 0 _ rfl
    have HSC : Hid (∀ W : World, W.heap[w.heap.size]? = some (.cells #[.slice a1 s.ind.length c1, .int .i64 s.pen, .slice a2 s.que.length c2, .slice a3 s.frm.length c3, .int .u16 (s.flg : Int)] 27 (0, 0)) → W.cell? ⟨w.heap.size, 0, none⟩ = some (.slice a1 s.ind.length c1)) := fun W hW => rcell hW 0 _ rfl
    refine wp_region_noPanic ?_
    refine wp_region_held_drew (S := fun W => W.cell? ⟨w.heap.size, 0, none⟩ = some (.slice a1 s.ind.length c1)) (by kernel_rfl) (by rw [hWD]; exact HSC.out _ HMD.out.bs) (fun hHeld => ?_)
    rw [hWD] at hHeld ⊢
    clear hWD
    refine wpAnyH_take (i := 0) (oi := { dst := _, op := _, type := _, pos := _, after := _, guard := _ }) (v := ?_) rfl (by kernel_rfl) (by kernel_rfl) (by kernel_rfl) (fun _ _ _ h => h) (Or.inl ⟨by rfl, ?_⟩) (by assumption) ?_
    rotate_left
    · intro W hSw
      (try dsimp only at hSw)
      go_simp
      (try with_reducible rfl)
    try simp only [Act.put, List.setIfInBounds_toArray, List.set_cons_zero, List.set_cons_succ]
    refine wpAnyH_take (i := 4) (oi := { dst := _, op := _, type := _, pos := _, after := _, guard := _ }) (v := ?_) rfl (by kernel_rfl) (by kernel_rfl) (by kernel_rfl) (fun _ _ _ h => h) (Or.inl ⟨by rfl, ?_⟩) (by assumption) ?_
    rotate_left
    · intro W hSw
      (try dsimp only at hSw)
      go_simp
      (try with_reducible rfl)
    try simp only [Act.put, List.setIfInBounds_toArray, List.set_cons_zero, List.set_cons_succ]
    refine wpAnyH_take (i := 5) (oi := { dst := _, op := _, type := _, pos := _, after := _, guard := _ }) (v := ?_) rfl (by kernel_rfl) (by kernel_rfl) (by kernel_rfl) (fun _ _ _ h => h) (Or.inl ⟨by rfl, ?_⟩) (by assumption) ?_
    rotate_left
    · intro W hSw
      (try dsimp only at hSw)
      go_simp
      (try with_reducible rfl)
    try simp only [Act.put, List.setIfInBounds_toArray, List.set_cons_zero, List.set_cons_succ]
    refine wpAnyH_take (i := 6) (oi := { dst := _, op := _, type := _, pos := _, after := _, guard := _ }) (v := ?_) rfl (by kernel_rfl) (by kernel_rfl) (by kernel_rfl) (fun _ _ _ h => h) (Or.inl ⟨by rfl, ?_⟩) (by assumption) ?_
    rotate_left
    · intro W hSw
      (try dsimp only at hSw)
      go_simp
      (try with_reducible rfl)
    try simp only [Act.put, List.setIfInBounds_toArray, List.set_cons_zero, List.set_cons_succ]
    refine wpAnyH_ready (rs := [1, 2]) (by kernel_rfl) (by simp) ?_
    refine AllReadyH.cons (o := { dst := _, op := _, type := _, pos := _, after := _, guard := _ }) rfl (fun K hK => ?_) (AllReadyH.cons (o := { dst := _, op := _, type := _, pos := _, after := _, guard := _ }) rfl (fun K hK => ?_) (AllReadyH.nil))
    · go_simp
      refine hK.out _ _ ?_ (fun hHeld => ?_)
      · exact hHeld
      clear hK K
      try simp only [Act.put, List.setIfInBounds_toArray, List.set_cons_zero, List.set_cons_succ]
      refine wpAnyH_ready (rs := [2]) (by kernel_rfl) (by simp) ?_
      refine AllReadyH.cons (o := { dst := _, op := _, type := _, pos := _, after := _, guard := _ }) rfl (fun K hK => ?_) AllReadyH.nil
      go_simp
      refine hK.out _ _ ?_ (fun hHeld => ?_)
      · exact cell_up _ hHeld
      clear hK K
      try simp only [Act.put, List.setIfInBounds_toArray, List.set_cons_zero, List.set_cons_succ]
      have HBB : Hid (Rmb w (WD.alloc (.cells #[.int .i64 71, .int .i64 72] 3)) T #[.slice a1 s.ind.length c1, .int .i64 s.pen, .slice a2 s.que.length c2, .slice a3 s.frm.length c3, .int .u16 (s.flg : Int)] (.slice x1 s.ind.length y1) (.slice x2 s.que.length y2) (.slice x3 s.frm.length y3) s) := HMD.out.up (bel_up _ _)
      have HRB : Hid ((WD.alloc (.cells #[.int .i64 71, .int .i64 72] 3)).ownsRow w.heap.size 3 1 (.slice x1 s.ind.length y1) s.ind.length (iC s.ind)) := row_up RID.out (bel_up _ _)
      refine wpAnyH_ready (rs := [3]) (by kernel_rfl) (by simp) ?_
      refine AllReadyH.cons (o := { dst := _, op := _, type := _, pos := _, after := _, guard := _ }) rfl (fun K hK => ?_) AllReadyH.nil
      refine step_append_lies _ rfl (.tmp 7) (.tmp 8) 22 rfl w.heap.size 3 iE _ 1 8 Try.underlying22 HI3.out.1 HI3.out.2.1 HI3.out.2.2.1 HI3.out.2.2.2 rfl (by decide) (.slice x1 s.ind.length y1) _ _ rfl HRB.out ⟨WD.heap.size, 0, none⟩ 2 2 [.int .i64 71, .int .i64 72] rfl rfl (cell_two_new _ _ _ _) (by simp [Value.oneCell']) (by decide) (by have := HZ.out.i; unfold maxLen; omega) (by have := HZ.out.i; omega) (Nat.le_trans HBB.out.bw.size (Nat.le_refl _)) (WD.heap.size + 1) (by simp) ?_
      intro g' cap' w' h2 h3 h4 _
      have HO : Hid (w'.ownsRow w.heap.size 3 1 (.slice (some ⟨g', 0, none⟩) (s.ind.length + 2) cap') (s.ind.length + 2) (iC s.ind ++ [.int .i64 71, .int .i64 72])) := h2
      have HG : Hid ((WD.alloc (.cells #[.int .i64 71, .int .i64 72] 3)).grownBy w' (Value.ownBlock (.slice x1 s.ind.length y1))) := h3
      have k0b : w'.cell? ⟨T, 0, none⟩ = some (.slice x1 s.ind.length y1) := cel_of h3 HBB.out.bt HRB.out (by decide) rfl
      have f0b : w'.frozen? ⟨T, 0, none⟩ = false := froz_of h3 HBB.out.bt HRB.out (by decide)
      have s0b : w'.cell? ⟨w.heap.size, 0, none⟩ = some (.slice a1 s.ind.length c1) := cel_of h3 HBB.out.bs HRB.out (by decide) rfl
      have hcap : s.ind.length ≤ cap' ∧ ((s.ind.length : Nat) : Int) ≤ (cap' : Int) := by have := row_cap h2; omega
      obtain ⟨hc1, hc2⟩ := hcap
      clear h2 h3 h4 k0
      refine hK.out _ _ ?_ (fun hHeld => ?_)
      · exact s0b
      clear hK K
      try simp only [Act.put, List.setIfInBounds_toArray, List.set_cons_zero, List.set_cons_succ]
      clear s0b
      refine wpAnyH_take (i := 7) (oi := { dst := _, op := _, type := _, pos := _, after := _, guard := _ }) (v := ?_) rfl (by kernel_rfl) (by kernel_rfl) (by kernel_rfl) (fun _ _ _ h => h) (Or.inl ⟨by rfl, ?_⟩) (by assumption) ?_
      rotate_left
      · intro W hSw
        (try dsimp only at hSw)
        go_simp
        (try with_reducible rfl)
      try simp only [Act.put, List.setIfInBounds_toArray, List.set_cons_zero, List.set_cons_succ]
      refine wpAnyH_take (i := 8) (oi := { dst := _, op := _, type := _, pos := _, after := _, guard := _ }) (v := ?_) rfl (by kernel_rfl) (by kernel_rfl) (by kernel_rfl) (fun _ _ _ h => h) (Or.inl ⟨by rfl, ?_⟩) (by assumption) ?_
      rotate_left
      · intro W hSw
        (try dsimp only at hSw)
        go_simp
        (try with_reducible rfl)
      try simp only [Act.put, List.setIfInBounds_toArray, List.set_cons_zero, List.set_cons_succ]
      refine wpAnyH_ready (rs := [9]) (by kernel_rfl) (by simp) ?_
      refine AllReadyH.cons (o := { dst := _, op := _, type := _, pos := _, after := _, guard := _ }) rfl (fun K hK => ?_) AllReadyH.nil
      go_simp
      refine hK.out _ _ ?_ (fun hHeld => ?_)
      · rw [World.cell?_setCell_other _ _ _ _ (fun h => by have h2 := HBB.out.lt; first | exact absurd (show w.heap.size = T from congrArg Addr.block h) (by omega) | exact absurd (show T = w.heap.size from congrArg Addr.block h) (by omega))]; exact hHeld
      clear hK K
      try simp only [Act.put, List.setIfInBounds_toArray, List.set_cons_zero, List.set_cons_succ]
      refine wpAnyH_done (by kernel_rfl) ?_ _
      refine NoPanic.normal ?_
      clear hHeld
      go_wp2_with fail
      go_meet
      exact ⟨rfl, g', cap', HBB.out.app HRB.out (by decide) HG.out 0 _ (by first | rfl | (simp [bxC])), HBB.out.got HRB.out (by decide) HG.out HO.out, HBB.out.row HRB.out (by decide) HG.out (row_up RQD.out (bel_up _ _)) (by decide) (by decide), HBB.out.row HRB.out (by decide) HG.out (row_up RFD.out (bel_up _ _)) (by decide) (by decide)⟩
    · go_simp
      refine hK.out _ _ ?_ (fun hHeld => ?_)
      · exact cell_up _ hHeld
      clear hK K
      try simp only [Act.put, List.setIfInBounds_toArray, List.set_cons_zero, List.set_cons_succ]
      have k0a : (WD.alloc (.cells #[.int .i64 71, .int .i64 72] 3)).cell? ⟨T, 0, none⟩ = some (.slice x1 s.ind.length y1) := cell_up _ k0
      refine wpAnyH_ready (rs := [1]) (by kernel_rfl) (by simp) ?_
      refine AllReadyH.cons (o := { dst := _, op := _, type := _, pos := _, after := _, guard := _ }) rfl (fun K hK => ?_) AllReadyH.nil
      go_simp
      refine hK.out _ _ ?_ (fun hHeld => ?_)
      · exact hHeld
      clear hK K
      try simp only [Act.put, List.setIfInBounds_toArray, List.set_cons_zero, List.set_cons_succ]
      have HBB : Hid (Rmb w (WD.alloc (.cells #[.int .i64 71, .int .i64 72] 3)) T #[.slice a1 s.ind.length c1, .int .i64 s.pen, .slice a2 s.que.length c2, .slice a3 s.frm.length c3, .int .u16 (s.flg : Int)] (.slice x1 s.ind.length y1) (.slice x2 s.que.length y2) (.slice x3 s.frm.length y3) s) := HMD.out.up (bel_up _ _)
      have HRB : Hid ((WD.alloc (.cells #[.int .i64 71, .int .i64 72] 3)).ownsRow w.heap.size 3 1 (.slice x1 s.ind.length y1) s.ind.length (iC s.ind)) := row_up RID.out (bel_up _ _)
      refine wpAnyH_ready (rs := [3]) (by kernel_rfl) (by simp) ?_
      refine AllReadyH.cons (o := { dst := _, op := _, type := _, pos := _, after := _, guard := _ }) rfl (fun K hK => ?_) AllReadyH.nil
      refine step_append_lies _ rfl (.tmp 7) (.tmp 8) 22 rfl w.heap.size 3 iE _ 1 8 Try.underlying22 HI3.out.1 HI3.out.2.1 HI3.out.2.2.1 HI3.out.2.2.2 rfl (by decide) (.slice x1 s.ind.length y1) _ _ rfl HRB.out ⟨WD.heap.size, 0, none⟩ 2 2 [.int .i64 71, .int .i64 72] rfl rfl (cell_two_new _ _ _ _) (by simp [Value.oneCell']) (by decide) (by have := HZ.out.i; unfold maxLen; omega) (by have := HZ.out.i; omega) (Nat.le_trans HBB.out.bw.size (Nat.le_refl _)) (WD.heap.size + 1) (by simp) ?_
      intro g' cap' w' h2 h3 h4 _
      have HO : Hid (w'.ownsRow w.heap.size 3 1 (.slice (some ⟨g', 0, none⟩) (s.ind.length + 2) cap') (s.ind.length + 2) (iC s.ind ++ [.int .i64 71, .int .i64 72])) := h2
      have HG : Hid ((WD.alloc (.cells #[.int .i64 71, .int .i64 72] 3)).grownBy w' (Value.ownBlock (.slice x1 s.ind.length y1))) := h3
      have k0b : w'.cell? ⟨T, 0, none⟩ = some (.slice x1 s.ind.length y1) := cel_of h3 HBB.out.bt HRB.out (by decide) rfl
      have f0b : w'.frozen? ⟨T, 0, none⟩ = false := froz_of h3 HBB.out.bt HRB.out (by decide)
      have s0b : w'.cell? ⟨w.heap.size, 0, none⟩ = some (.slice a1 s.ind.length c1) := cel_of h3 HBB.out.bs HRB.out (by decide) rfl
      have hcap : s.ind.length ≤ cap' ∧ ((s.ind.length : Nat) : Int) ≤ (cap' : Int) := by have := row_cap h2; omega
      obtain ⟨hc1, hc2⟩ := hcap
      clear h2 h3 h4 k0
      refine hK.out _ _ ?_ (fun hHeld => ?_)
      · exact s0b
      clear hK K
      try simp only [Act.put, List.setIfInBounds_toArray, List.set_cons_zero, List.set_cons_succ]
      clear s0b
      refine wpAnyH_take (i := 7) (oi := { dst := _, op := _, type := _, pos := _, after := _, guard := _ }) (v := ?_) rfl (by kernel_rfl) (by kernel_rfl) (by kernel_rfl) (fun _ _ _ h => h) (Or.inl ⟨by rfl, ?_⟩) (by assumption) ?_
      rotate_left
      · intro W hSw
        (try dsimp only at hSw)
        go_simp
        (try with_reducible rfl)
      try simp only [Act.put, List.setIfInBounds_toArray, List.set_cons_zero, List.set_cons_succ]
      refine wpAnyH_take (i := 8) (oi := { dst := _, op := _, type := _, pos := _, after := _, guard := _ }) (v := ?_) rfl (by kernel_rfl) (by kernel_rfl) (by kernel_rfl) (fun _ _ _ h => h) (Or.inl ⟨by rfl, ?_⟩) (by assumption) ?_
      rotate_left
      · intro W hSw
        (try dsimp only at hSw)
        go_simp
        (try with_reducible rfl)
      try simp only [Act.put, List.setIfInBounds_toArray, List.set_cons_zero, List.set_cons_succ]
      refine wpAnyH_ready (rs := [9]) (by kernel_rfl) (by simp) ?_
      refine AllReadyH.cons (o := { dst := _, op := _, type := _, pos := _, after := _, guard := _ }) rfl (fun K hK => ?_) AllReadyH.nil
      go_simp
      refine hK.out _ _ ?_ (fun hHeld => ?_)
      · rw [World.cell?_setCell_other _ _ _ _ (fun h => by have h2 := HBB.out.lt; first | exact absurd (show w.heap.size = T from congrArg Addr.block h) (by omega) | exact absurd (show T = w.heap.size from congrArg Addr.block h) (by omega))]; exact hHeld
      clear hK K
      try simp only [Act.put, List.setIfInBounds_toArray, List.set_cons_zero, List.set_cons_succ]
      refine wpAnyH_done (by kernel_rfl) ?_ _
      refine NoPanic.normal ?_
      clear hHeld
      go_wp2_with fail
      go_meet
      exact ⟨rfl, g', cap', HBB.out.app HRB.out (by decide) HG.out 0 _ (by first | rfl | (simp [bxC])), HBB.out.got HRB.out (by decide) HG.out HO.out, HBB.out.row HRB.out (by decide) HG.out (row_up RQD.out (bel_up _ _)) (by decide) (by decide), HBB.out.row HRB.out (by decide) HG.out (row_up RFD.out (bel_up _ _)) (by decide) (by decide)⟩
  case rest =>
  obtain ⟨rfl, g1, k1, HM1, HO1, RQ1, RF1⟩ := hcut
  clear HM RI RQ RF
  have HM : Hid _ := HM1.out
  have RQ : Hid _ := RQ1.out
  have RF : Hid _ := RF1.out
  clear HM1 RQ1 RF1
  go_upto_region 3 with fail
  go_cut [3] from 15 to 23 (fun v3 wx => v3 = .pointer (some ⟨T, 0, none⟩) ∧ ∃ g c, Hid (Rmb w wx T #[.slice a1 s.ind.length c1, .int .i64 s.pen, .slice a2 s.que.length c2, .slice a3 s.frm.length c3, .int .u16 (s.flg : Int)] (.slice (some ⟨g1, 0, none⟩) s.ind.length k1) (.slice (some ⟨g, 0, none⟩) s.que.length c) (.slice x3 s.frm.length y3) s) ∧ Hid (wx.ownsRow w.heap.size 3 1 (.slice (some ⟨g1, 0, none⟩) (s.ind.length + 2) k1) (s.ind.length + 2) (iC s.ind ++ [.int .i64 71, .int .i64 72])) ∧ Hid (wx.ownsRow w.heap.size 9 1 (.slice (some ⟨g, 0, none⟩) (s.que.length + 2) c) (s.que.length + 2) (qC s.que ++ [.string ⟨#[109, 97, 114, 107]⟩, .string ⟨#[109, 97, 114, 107]⟩])) ∧ Hid (wx.ownsRow w.heap.size 42 2 (.slice x3 s.frm.length y3) s.frm.length (fC s.frm)))
  case first =>
    obtain ⟨WD, hWD⟩ : ∃ WD, wc.drew = WD := ⟨_, rfl⟩
    have HMD : Hid (Rmb w WD T #[.slice a1 s.ind.length c1, .int .i64 s.pen, .slice a2 s.que.length c2, .slice a3 s.frm.length c3, .int .u16 (s.flg : Int)] (.slice (some ⟨g1, 0, none⟩) s.ind.length k1) (.slice x2 s.que.length y2) (.slice x3 s.frm.length y3) s) := by rw [← hWD]; exact HM.out.up (Below.drew (Below.refl _ _))
    have HO1D : Hid (WD.ownsRow w.heap.size 3 1 (.slice (some ⟨g1, 0, none⟩) (s.ind.length + 2) k1) (s.ind.length + 2) (iC s.ind ++ [.int .i64 71, .int .i64 72])) := by rw [← hWD]; exact row_up HO1.out (Below.drew (Below.refl _ _))
    have RQD : Hid (WD.ownsRow w.heap.size 9 1 (.slice x2 s.que.length y2) s.que.length (qC s.que)) := by rw [← hWD]; exact row_up RQ.out (Below.drew (Below.refl _ _))
    have RFD : Hid (WD.ownsRow w.heap.size 42 2 (.slice x3 s.frm.length y3) s.frm.length (fC s.frm)) := by rw [← hWD]; exact row_up RF.out (Below.drew (Below.refl _ _))
    have k0 := HMD.out.tcell 2 _ rfl
    have HSC : Hid (∀ W : World, W.heap[w.heap.size]? = some (.cells #[.slice a1 s.ind.length c1, .int .i64 s.pen, .slice a2 s.que.length c2, .slice a3 s.frm.length c3, .int .u16 (s.flg : Int)] 27 (0, 0)) → W.cell? ⟨w.heap.size, 2, none⟩ = some (.slice a2 s.que.length c2)) := fun W hW => rcell hW 2 _ rfl
    refine wp_region_noPanic ?_
    refine wp_region_held_drew (S := fun W => W.cell? ⟨w.heap.size, 2, none⟩ = some (.slice a2 s.que.length c2)) (by kernel_rfl) (by rw [hWD]; exact HSC.out _ HMD.out.bs) (fun hHeld => ?_)
    rw [hWD] at hHeld ⊢
    clear hWD
    refine wpAnyH_take (i := 0) (oi := { dst := _, op := _, type := _, pos := _, after := _, guard := _ }) (v := ?_) rfl (by kernel_rfl) (by kernel_rfl) (by kernel_rfl) (fun _ _ _ h => h) (Or.inl ⟨by rfl, ?_⟩) (by assumption) ?_
    rotate_left
    · intro W hSw
      (try dsimp only at hSw)
      go_simp
      (try with_reducible rfl)
    try simp only [Act.put, List.setIfInBounds_toArray, List.set_cons_zero, List.set_cons_succ]
    refine wpAnyH_take (i := 4) (oi := { dst := _, op := _, type := _, pos := _, after := _, guard := _ }) (v := ?_) rfl (by kernel_rfl) (by kernel_rfl) (by kernel_rfl) (fun _ _ _ h => h) (Or.inl ⟨by rfl, ?_⟩) (by assumption) ?_
    rotate_left
    · intro W hSw
      (try dsimp only at hSw)
      go_simp
      (try with_reducible rfl)
    try simp only [Act.put, List.setIfInBounds_toArray, List.set_cons_zero, List.set_cons_succ]
    refine wpAnyH_take (i := 5) (oi := { dst := _, op := _, type := _, pos := _, after := _, guard := _ }) (v := ?_) rfl (by kernel_rfl) (by kernel_rfl) (by kernel_rfl) (fun _ _ _ h => h) (Or.inl ⟨by rfl, ?_⟩) (by assumption) ?_
    rotate_left
    · intro W hSw
      (try dsimp only at hSw)
      go_simp
      (try with_reducible rfl)
    try simp only [Act.put, List.setIfInBounds_toArray, List.set_cons_zero, List.set_cons_succ]
    refine wpAnyH_take (i := 6) (oi := { dst := _, op := _, type := _, pos := _, after := _, guard := _ }) (v := ?_) rfl (by kernel_rfl) (by kernel_rfl) (by kernel_rfl) (fun _ _ _ h => h) (Or.inl ⟨by rfl, ?_⟩) (by assumption) ?_
    rotate_left
    · intro W hSw
      (try dsimp only at hSw)
      go_simp
      (try with_reducible rfl)
    try simp only [Act.put, List.setIfInBounds_toArray, List.set_cons_zero, List.set_cons_succ]
    refine wpAnyH_ready (rs := [1, 2]) (by kernel_rfl) (by simp) ?_
    refine AllReadyH.cons (o := { dst := _, op := _, type := _, pos := _, after := _, guard := _ }) rfl (fun K hK => ?_) (AllReadyH.cons (o := { dst := _, op := _, type := _, pos := _, after := _, guard := _ }) rfl (fun K hK => ?_) (AllReadyH.nil))
    · go_simp
      refine hK.out _ _ ?_ (fun hHeld => ?_)
      · exact hHeld
      clear hK K
      try simp only [Act.put, List.setIfInBounds_toArray, List.set_cons_zero, List.set_cons_succ]
      refine wpAnyH_ready (rs := [2]) (by kernel_rfl) (by simp) ?_
      refine AllReadyH.cons (o := { dst := _, op := _, type := _, pos := _, after := _, guard := _ }) rfl (fun K hK => ?_) AllReadyH.nil
      go_simp
      refine hK.out _ _ ?_ (fun hHeld => ?_)
      · exact cell_up _ hHeld
      clear hK K
      try simp only [Act.put, List.setIfInBounds_toArray, List.set_cons_zero, List.set_cons_succ]
      have HBB : Hid (Rmb w (WD.alloc (.cells #[.string ⟨#[109, 97, 114, 107]⟩, .string ⟨#[109, 97, 114, 107]⟩] 9)) T #[.slice a1 s.ind.length c1, .int .i64 s.pen, .slice a2 s.que.length c2, .slice a3 s.frm.length c3, .int .u16 (s.flg : Int)] (.slice (some ⟨g1, 0, none⟩) s.ind.length k1) (.slice x2 s.que.length y2) (.slice x3 s.frm.length y3) s) := HMD.out.up (bel_up _ _)
      have HRB : Hid ((WD.alloc (.cells #[.string ⟨#[109, 97, 114, 107]⟩, .string ⟨#[109, 97, 114, 107]⟩] 9)).ownsRow w.heap.size 9 1 (.slice x2 s.que.length y2) s.que.length (qC s.que)) := row_up RQD.out (bel_up _ _)
      refine wpAnyH_ready (rs := [3]) (by kernel_rfl) (by simp) ?_
      refine AllReadyH.cons (o := { dst := _, op := _, type := _, pos := _, after := _, guard := _ }) rfl (fun K hK => ?_) AllReadyH.nil
      refine step_append_lies _ rfl (.tmp 16) (.tmp 17) 23 rfl w.heap.size 9 iQ _ 1 16 Try.underlying23 HI9.out.1 HI9.out.2.1 HI9.out.2.2.1 HI9.out.2.2.2 rfl (by decide) (.slice x2 s.que.length y2) _ _ rfl HRB.out ⟨WD.heap.size, 0, none⟩ 2 2 [.string ⟨#[109, 97, 114, 107]⟩, .string ⟨#[109, 97, 114, 107]⟩] rfl rfl (cell_two_new _ _ _ _) (by simp [Value.oneCell']) (by decide) (by have := HZ.out.q; unfold maxLen; omega) (by have := HZ.out.q; omega) (Nat.le_trans HBB.out.bw.size (Nat.le_refl _)) (WD.heap.size + 1) (by simp) ?_
      intro g' cap' w' h2 h3 h4 _
      have HO : Hid (w'.ownsRow w.heap.size 9 1 (.slice (some ⟨g', 0, none⟩) (s.que.length + 2) cap') (s.que.length + 2) (qC s.que ++ [.string ⟨#[109, 97, 114, 107]⟩, .string ⟨#[109, 97, 114, 107]⟩])) := h2
      have HG : Hid ((WD.alloc (.cells #[.string ⟨#[109, 97, 114, 107]⟩, .string ⟨#[109, 97, 114, 107]⟩] 9)).grownBy w' (Value.ownBlock (.slice x2 s.que.length y2))) := h3
      have k0b : w'.cell? ⟨T, 2, none⟩ = some (.slice x2 s.que.length y2) := cel_of h3 HBB.out.bt HRB.out (by decide) rfl
      have f0b : w'.frozen? ⟨T, 2, none⟩ = false := froz_of h3 HBB.out.bt HRB.out (by decide)
      have s0b : w'.cell? ⟨w.heap.size, 2, none⟩ = some (.slice a2 s.que.length c2) := cel_of h3 HBB.out.bs HRB.out (by decide) rfl
      have hcap : s.que.length ≤ cap' ∧ ((s.que.length : Nat) : Int) ≤ (cap' : Int) := by have := row_cap h2; omega
      obtain ⟨hc1, hc2⟩ := hcap
      clear h2 h3 h4 k0
      refine hK.out _ _ ?_ (fun hHeld => ?_)
      · exact s0b
      clear hK K
      try simp only [Act.put, List.setIfInBounds_toArray, List.set_cons_zero, List.set_cons_succ]
      clear s0b
      refine wpAnyH_take (i := 7) (oi := { dst := _, op := _, type := _, pos := _, after := _, guard := _ }) (v := ?_) rfl (by kernel_rfl) (by kernel_rfl) (by kernel_rfl) (fun _ _ _ h => h) (Or.inl ⟨by rfl, ?_⟩) (by assumption) ?_
      rotate_left
      · intro W hSw
        (try dsimp only at hSw)
        go_simp
        (try with_reducible rfl)
      try simp only [Act.put, List.setIfInBounds_toArray, List.set_cons_zero, List.set_cons_succ]
      refine wpAnyH_take (i := 8) (oi := { dst := _, op := _, type := _, pos := _, after := _, guard := _ }) (v := ?_) rfl (by kernel_rfl) (by kernel_rfl) (by kernel_rfl) (fun _ _ _ h => h) (Or.inl ⟨by rfl, ?_⟩) (by assumption) ?_
      rotate_left
      · intro W hSw
        (try dsimp only at hSw)
        go_simp
        (try with_reducible rfl)
      try simp only [Act.put, List.setIfInBounds_toArray, List.set_cons_zero, List.set_cons_succ]
      refine wpAnyH_ready (rs := [9]) (by kernel_rfl) (by simp) ?_
      refine AllReadyH.cons (o := { dst := _, op := _, type := _, pos := _, after := _, guard := _ }) rfl (fun K hK => ?_) AllReadyH.nil
      go_simp
      refine hK.out _ _ ?_ (fun hHeld => ?_)
      · rw [World.cell?_setCell_other _ _ _ _ (fun h => by have h2 := HBB.out.lt; first | exact absurd (show w.heap.size = T from congrArg Addr.block h) (by omega) | exact absurd (show T = w.heap.size from congrArg Addr.block h) (by omega))]; exact hHeld
      clear hK K
      try simp only [Act.put, List.setIfInBounds_toArray, List.set_cons_zero, List.set_cons_succ]
      refine wpAnyH_done (by kernel_rfl) ?_ _
      refine NoPanic.normal ?_
      clear hHeld
      go_wp2_with fail
      go_meet
      exact ⟨rfl, g', cap', HBB.out.app HRB.out (by decide) HG.out 2 _ (by first | rfl | (simp [bxC])), HBB.out.row HRB.out (by decide) HG.out (row_up HO1D.out (bel_up _ _)) (by decide) (by decide), HBB.out.got HRB.out (by decide) HG.out HO.out, HBB.out.row HRB.out (by decide) HG.out (row_up RFD.out (bel_up _ _)) (by decide) (by decide)⟩
    · go_simp
      refine hK.out _ _ ?_ (fun hHeld => ?_)
      · exact cell_up _ hHeld
      clear hK K
      try simp only [Act.put, List.setIfInBounds_toArray, List.set_cons_zero, List.set_cons_succ]
      have k0a : (WD.alloc (.cells #[.string ⟨#[109, 97, 114, 107]⟩, .string ⟨#[109, 97, 114, 107]⟩] 9)).cell? ⟨T, 2, none⟩ = some (.slice x2 s.que.length y2) := cell_up _ k0
      refine wpAnyH_ready (rs := [1]) (by kernel_rfl) (by simp) ?_
      refine AllReadyH.cons (o := { dst := _, op := _, type := _, pos := _, after := _, guard := _ }) rfl (fun K hK => ?_) AllReadyH.nil
      go_simp
      refine hK.out _ _ ?_ (fun hHeld => ?_)
      · exact hHeld
      clear hK K
      try simp only [Act.put, List.setIfInBounds_toArray, List.set_cons_zero, List.set_cons_succ]
      have HBB : Hid (Rmb w (WD.alloc (.cells #[.string ⟨#[109, 97, 114, 107]⟩, .string ⟨#[109, 97, 114, 107]⟩] 9)) T #[.slice a1 s.ind.length c1, .int .i64 s.pen, .slice a2 s.que.length c2, .slice a3 s.frm.length c3, .int .u16 (s.flg : Int)] (.slice (some ⟨g1, 0, none⟩) s.ind.length k1) (.slice x2 s.que.length y2) (.slice x3 s.frm.length y3) s) := HMD.out.up (bel_up _ _)
      have HRB : Hid ((WD.alloc (.cells #[.string ⟨#[109, 97, 114, 107]⟩, .string ⟨#[109, 97, 114, 107]⟩] 9)).ownsRow w.heap.size 9 1 (.slice x2 s.que.length y2) s.que.length (qC s.que)) := row_up RQD.out (bel_up _ _)
      refine wpAnyH_ready (rs := [3]) (by kernel_rfl) (by simp) ?_
      refine AllReadyH.cons (o := { dst := _, op := _, type := _, pos := _, after := _, guard := _ }) rfl (fun K hK => ?_) AllReadyH.nil
      refine step_append_lies _ rfl (.tmp 16) (.tmp 17) 23 rfl w.heap.size 9 iQ _ 1 16 Try.underlying23 HI9.out.1 HI9.out.2.1 HI9.out.2.2.1 HI9.out.2.2.2 rfl (by decide) (.slice x2 s.que.length y2) _ _ rfl HRB.out ⟨WD.heap.size, 0, none⟩ 2 2 [.string ⟨#[109, 97, 114, 107]⟩, .string ⟨#[109, 97, 114, 107]⟩] rfl rfl (cell_two_new _ _ _ _) (by simp [Value.oneCell']) (by decide) (by have := HZ.out.q; unfold maxLen; omega) (by have := HZ.out.q; omega) (Nat.le_trans HBB.out.bw.size (Nat.le_refl _)) (WD.heap.size + 1) (by simp) ?_
      intro g' cap' w' h2 h3 h4 _
      have HO : Hid (w'.ownsRow w.heap.size 9 1 (.slice (some ⟨g', 0, none⟩) (s.que.length + 2) cap') (s.que.length + 2) (qC s.que ++ [.string ⟨#[109, 97, 114, 107]⟩, .string ⟨#[109, 97, 114, 107]⟩])) := h2
      have HG : Hid ((WD.alloc (.cells #[.string ⟨#[109, 97, 114, 107]⟩, .string ⟨#[109, 97, 114, 107]⟩] 9)).grownBy w' (Value.ownBlock (.slice x2 s.que.length y2))) := h3
      have k0b : w'.cell? ⟨T, 2, none⟩ = some (.slice x2 s.que.length y2) := cel_of h3 HBB.out.bt HRB.out (by decide) rfl
      have f0b : w'.frozen? ⟨T, 2, none⟩ = false := froz_of h3 HBB.out.bt HRB.out (by decide)
      have s0b : w'.cell? ⟨w.heap.size, 2, none⟩ = some (.slice a2 s.que.length c2) := cel_of h3 HBB.out.bs HRB.out (by decide) rfl
      have hcap : s.que.length ≤ cap' ∧ ((s.que.length : Nat) : Int) ≤ (cap' : Int) := by have := row_cap h2; omega
      obtain ⟨hc1, hc2⟩ := hcap
      clear h2 h3 h4 k0
      refine hK.out _ _ ?_ (fun hHeld => ?_)
      · exact s0b
      clear hK K
      try simp only [Act.put, List.setIfInBounds_toArray, List.set_cons_zero, List.set_cons_succ]
      clear s0b
      refine wpAnyH_take (i := 7) (oi := { dst := _, op := _, type := _, pos := _, after := _, guard := _ }) (v := ?_) rfl (by kernel_rfl) (by kernel_rfl) (by kernel_rfl) (fun _ _ _ h => h) (Or.inl ⟨by rfl, ?_⟩) (by assumption) ?_
      rotate_left
      · intro W hSw
        (try dsimp only at hSw)
        go_simp
        (try with_reducible rfl)
      try simp only [Act.put, List.setIfInBounds_toArray, List.set_cons_zero, List.set_cons_succ]
      refine wpAnyH_take (i := 8) (oi := { dst := _, op := _, type := _, pos := _, after := _, guard := _ }) (v := ?_) rfl (by kernel_rfl) (by kernel_rfl) (by kernel_rfl) (fun _ _ _ h => h) (Or.inl ⟨by rfl, ?_⟩) (by assumption) ?_
      rotate_left
      · intro W hSw
        (try dsimp only at hSw)
        go_simp
        (try with_reducible rfl)
      try simp only [Act.put, List.setIfInBounds_toArray, List.set_cons_zero, List.set_cons_succ]
      refine wpAnyH_ready (rs := [9]) (by kernel_rfl) (by simp) ?_
      refine AllReadyH.cons (o := { dst := _, op := _, type := _, pos := _, after := _, guard := _ }) rfl (fun K hK => ?_) AllReadyH.nil
      go_simp
      refine hK.out _ _ ?_ (fun hHeld => ?_)
      · rw [World.cell?_setCell_other _ _ _ _ (fun h => by have h2 := HBB.out.lt; first | exact absurd (show w.heap.size = T from congrArg Addr.block h) (by omega) | exact absurd (show T = w.heap.size from congrArg Addr.block h) (by omega))]; exact hHeld
      clear hK K
      try simp only [Act.put, List.setIfInBounds_toArray, List.set_cons_zero, List.set_cons_succ]
      refine wpAnyH_done (by kernel_rfl) ?_ _
      refine NoPanic.normal ?_
      clear hHeld
      go_wp2_with fail
      go_meet
      exact ⟨rfl, g', cap', HBB.out.app HRB.out (by decide) HG.out 2 _ (by first | rfl | (simp [bxC])), HBB.out.row HRB.out (by decide) HG.out (row_up HO1D.out (bel_up _ _)) (by decide) (by decide), HBB.out.got HRB.out (by decide) HG.out HO.out, HBB.out.row HRB.out (by decide) HG.out (row_up RFD.out (bel_up _ _)) (by decide) (by decide)⟩
  case rest =>
  obtain ⟨rfl, g2, k2, HM1, HO1b, HO2, RF1⟩ := hcut
  clear HM HO1 RF RQ
  have HM : Hid _ := HM1.out
  have HO1 : Hid _ := HO1b.out
  have RF : Hid _ := RF1.out
  clear HM1 HO1b RF1
  go_upto_region 4 with fail
  go_cut [3] from 24 to 34 (fun v3 wx => v3 = .pointer (some ⟨T, 0, none⟩) ∧ ∃ g c, Hid (Rmb w wx T #[.slice a1 s.ind.length c1, .int .i64 s.pen, .slice a2 s.que.length c2, .slice a3 s.frm.length c3, .int .u16 (s.flg : Int)] (.slice (some ⟨g1, 0, none⟩) s.ind.length k1) (.slice (some ⟨g2, 0, none⟩) s.que.length k2) (.slice (some ⟨g, 0, none⟩) s.frm.length c) s) ∧ Hid (wx.ownsRow w.heap.size 3 1 (.slice (some ⟨g1, 0, none⟩) (s.ind.length + 2) k1) (s.ind.length + 2) (iC s.ind ++ [.int .i64 71, .int .i64 72])) ∧ Hid (wx.ownsRow w.heap.size 9 1 (.slice (some ⟨g2, 0, none⟩) (s.que.length + 2) k2) (s.que.length + 2) (qC s.que ++ [.string ⟨#[109, 97, 114, 107]⟩, .string ⟨#[109, 97, 114, 107]⟩])) ∧ Hid (wx.ownsRow w.heap.size 42 2 (.slice (some ⟨g, 0, none⟩) (s.frm.length + 2) c) (s.frm.length + 2) (fC s.frm ++ [.int .i64 73, .string ⟨#[]⟩, .int .i64 74, .string ⟨#[]⟩])))
  case first =>
    obtain ⟨WD, hWD⟩ : ∃ WD, wc.drew = WD := ⟨_, rfl⟩
    have HMD : Hid (Rmb w WD T #[.slice a1 s.ind.length c1, .int .i64 s.pen, .slice a2 s.que.length c2, .slice a3 s.frm.length c3, .int .u16 (s.flg : Int)] (.slice (some ⟨g1, 0, none⟩) s.ind.length k1) (.slice (some ⟨g2, 0, none⟩) s.que.length k2) (.slice x3 s.frm.length y3) s) := by rw [← hWD]; exact HM.out.up (Below.drew (Below.refl _ _))
    have HO1D : Hid (WD.ownsRow w.heap.size 3 1 (.slice (some ⟨g1, 0, none⟩) (s.ind.length + 2) k1) (s.ind.length + 2) (iC s.ind ++ [.int .i64 71, .int .i64 72])) := by rw [← hWD]; exact row_up HO1.out (Below.drew (Below.refl _ _))
    have HO2D : Hid (WD.ownsRow w.heap.size 9 1 (.slice (some ⟨g2, 0, none⟩) (s.que.length + 2) k2) (s.que.length + 2) (qC s.que ++ [.string ⟨#[109, 97, 114, 107]⟩, .string ⟨#[109, 97, 114, 107]⟩])) := by rw [← hWD]; exact row_up HO2.out (Below.drew (Below.refl _ _))
    have RFD : Hid (WD.ownsRow w.heap.size 42 2 (.slice x3 s.frm.length y3) s.frm.length (fC s.frm)) := by rw [← hWD]; exact row_up RF.out (Below.drew (Below.refl _ _))
    have k0 := HMD.out.tcell 3 _ rfl
    have HSC : Hid (∀ W : World, W.heap[w.heap.size]? = some (.cells #[.slice a1 s.ind.length c1, .int .i64 s.pen, .slice a2 s.que.length c2, .slice a3 s.frm.length c3, .int .u16 (s.flg : Int)] 27 (0, 0)) → W.cell? ⟨w.heap.size, 3, none⟩ = some (.slice a3 s.frm.length c3)) := fun W hW => rcell hW 3 _ rfl
    refine wp_region_noPanic ?_
    refine wp_region_held_drew (S := fun W => W.cell? ⟨w.heap.size, 3, none⟩ = some (.slice a3 s.frm.length c3)) (by kernel_rfl) (by rw [hWD]; exact HSC.out _ HMD.out.bs) (fun hHeld => ?_)
    rw [hWD] at hHeld ⊢
    clear hWD
    refine wpAnyH_take (i := 0) (oi := { dst := _, op := _, type := _, pos := _, after := _, guard := _ }) (v := ?_) rfl (by kernel_rfl) (by kernel_rfl) (by kernel_rfl) (fun _ _ _ h => h) (Or.inl ⟨by rfl, ?_⟩) (by assumption) ?_
    rotate_left
    · intro W hSw
      (try dsimp only at hSw)
      go_simp
      (try with_reducible rfl)
    try simp only [Act.put, List.setIfInBounds_toArray, List.set_cons_zero, List.set_cons_succ]
    refine wpAnyH_take (i := 2) (oi := { dst := _, op := _, type := _, pos := _, after := _, guard := _ }) (v := ?_) rfl (by kernel_rfl) (by kernel_rfl) (by kernel_rfl) (fun _ _ _ h => h) (Or.inl ⟨by rfl, ?_⟩) (by assumption) ?_
    rotate_left
    · intro W hSw
      (try dsimp only at hSw)
      go_simp
      (try with_reducible rfl)
    try simp only [Act.put, List.setIfInBounds_toArray, List.set_cons_zero, List.set_cons_succ]
    refine wpAnyH_take (i := 3) (oi := { dst := _, op := _, type := _, pos := _, after := _, guard := _ }) (v := ?_) rfl (by kernel_rfl) (by kernel_rfl) (by kernel_rfl) (fun _ _ _ h => h) (Or.inl ⟨by rfl, ?_⟩) (by assumption) ?_
    rotate_left
    · intro W hSw
      (try dsimp only at hSw)
      go_simp
      (try with_reducible rfl)
    try simp only [Act.put, List.setIfInBounds_toArray, List.set_cons_zero, List.set_cons_succ]
    refine wpAnyH_take (i := 6) (oi := { dst := _, op := _, type := _, pos := _, after := _, guard := _ }) (v := ?_) rfl (by kernel_rfl) (by kernel_rfl) (by kernel_rfl) (fun _ _ _ h => h) (Or.inl ⟨by rfl, ?_⟩) (by assumption) ?_
    rotate_left
    · intro W hSw
      (try dsimp only at hSw)
      go_simp
      (try with_reducible rfl)
    try simp only [Act.put, List.setIfInBounds_toArray, List.set_cons_zero, List.set_cons_succ]
    refine wpAnyH_take (i := 7) (oi := { dst := _, op := _, type := _, pos := _, after := _, guard := _ }) (v := ?_) rfl (by kernel_rfl) (by kernel_rfl) (by kernel_rfl) (fun _ _ _ h => h) (Or.inl ⟨by rfl, ?_⟩) (by assumption) ?_
    rotate_left
    · intro W hSw
      (try dsimp only at hSw)
      go_simp
      (try with_reducible rfl)
    try simp only [Act.put, List.setIfInBounds_toArray, List.set_cons_zero, List.set_cons_succ]
    refine wpAnyH_take (i := 8) (oi := { dst := _, op := _, type := _, pos := _, after := _, guard := _ }) (v := ?_) rfl (by kernel_rfl) (by kernel_rfl) (by kernel_rfl) (fun _ _ _ h => h) (Or.inl ⟨by rfl, ?_⟩) (by assumption) ?_
    rotate_left
    · intro W hSw
      (try dsimp only at hSw)
      go_simp
      (try with_reducible rfl)
    try simp only [Act.put, List.setIfInBounds_toArray, List.set_cons_zero, List.set_cons_succ]
    refine wpAnyH_ready (rs := [1, 4]) (by kernel_rfl) (by simp) ?_
    refine AllReadyH.cons (o := { dst := _, op := _, type := _, pos := _, after := _, guard := _ }) rfl (fun K hK => ?_) (AllReadyH.cons (o := { dst := _, op := _, type := _, pos := _, after := _, guard := _ }) rfl (fun K hK => ?_) (AllReadyH.nil))
    · go_simp
      refine hK.out _ _ ?_ (fun hHeld => ?_)
      · exact hHeld
      clear hK K
      try simp only [Act.put, List.setIfInBounds_toArray, List.set_cons_zero, List.set_cons_succ]
      refine wpAnyH_ready (rs := [4]) (by kernel_rfl) (by simp) ?_
      refine AllReadyH.cons (o := { dst := _, op := _, type := _, pos := _, after := _, guard := _ }) rfl (fun K hK => ?_) AllReadyH.nil
      go_simp
      refine hK.out _ _ ?_ (fun hHeld => ?_)
      · exact cell_up _ hHeld
      clear hK K
      try simp only [Act.put, List.setIfInBounds_toArray, List.set_cons_zero, List.set_cons_succ]
      have HBB : Hid (Rmb w (WD.alloc (.cells #[.int .i64 73, .string ⟨#[]⟩, .int .i64 74, .string ⟨#[]⟩] 42)) T #[.slice a1 s.ind.length c1, .int .i64 s.pen, .slice a2 s.que.length c2, .slice a3 s.frm.length c3, .int .u16 (s.flg : Int)] (.slice (some ⟨g1, 0, none⟩) s.ind.length k1) (.slice (some ⟨g2, 0, none⟩) s.que.length k2) (.slice x3 s.frm.length y3) s) := HMD.out.up (bel_up _ _)
      have HRB : Hid ((WD.alloc (.cells #[.int .i64 73, .string ⟨#[]⟩, .int .i64 74, .string ⟨#[]⟩] 42)).ownsRow w.heap.size 42 2 (.slice x3 s.frm.length y3) s.frm.length (fC s.frm)) := row_up RFD.out (bel_up _ _)
      refine wpAnyH_ready (rs := [5]) (by kernel_rfl) (by simp) ?_
      refine AllReadyH.cons (o := { dst := _, op := _, type := _, pos := _, after := _, guard := _ }) rfl (fun K hK => ?_) AllReadyH.nil
      refine step_append_lies _ rfl (.tmp 25) (.tmp 28) 24 rfl w.heap.size 42 iF _ 2 24 Try.underlying24 HI54.out.1 HI54.out.2.1 HI54.out.2.2.1 HI54.out.2.2.2 rfl (by decide) (.slice x3 s.frm.length y3) _ _ rfl HRB.out ⟨WD.heap.size, 0, none⟩ 2 2 [.int .i64 73, .string ⟨#[]⟩, .int .i64 74, .string ⟨#[]⟩] rfl rfl (cell_four_new _ _ _ _ _ _) (by simp [Value.oneCell']) (by decide) (by have := HZ.out.f; unfold maxLen; omega) (by have := HZ.out.f; omega) (Nat.le_trans HBB.out.bw.size (Nat.le_refl _)) (WD.heap.size + 1) (by simp) ?_
      intro g' cap' w' h2 h3 h4 _
      have HO : Hid (w'.ownsRow w.heap.size 42 2 (.slice (some ⟨g', 0, none⟩) (s.frm.length + 2) cap') (s.frm.length + 2) (fC s.frm ++ [.int .i64 73, .string ⟨#[]⟩, .int .i64 74, .string ⟨#[]⟩])) := h2
      have HG : Hid ((WD.alloc (.cells #[.int .i64 73, .string ⟨#[]⟩, .int .i64 74, .string ⟨#[]⟩] 42)).grownBy w' (Value.ownBlock (.slice x3 s.frm.length y3))) := h3
      have k0b : w'.cell? ⟨T, 3, none⟩ = some (.slice x3 s.frm.length y3) := cel_of h3 HBB.out.bt HRB.out (by decide) rfl
      have f0b : w'.frozen? ⟨T, 3, none⟩ = false := froz_of h3 HBB.out.bt HRB.out (by decide)
      have s0b : w'.cell? ⟨w.heap.size, 3, none⟩ = some (.slice a3 s.frm.length c3) := cel_of h3 HBB.out.bs HRB.out (by decide) rfl
      have hcap : s.frm.length ≤ cap' ∧ ((s.frm.length : Nat) : Int) ≤ (cap' : Int) := by have := row_cap h2; omega
      obtain ⟨hc1, hc2⟩ := hcap
      clear h2 h3 h4 k0
      refine hK.out _ _ ?_ (fun hHeld => ?_)
      · exact s0b
      clear hK K
      try simp only [Act.put, List.setIfInBounds_toArray, List.set_cons_zero, List.set_cons_succ]
      clear s0b
      refine wpAnyH_take (i := 9) (oi := { dst := _, op := _, type := _, pos := _, after := _, guard := _ }) (v := ?_) rfl (by kernel_rfl) (by kernel_rfl) (by kernel_rfl) (fun _ _ _ h => h) (Or.inl ⟨by rfl, ?_⟩) (by assumption) ?_
      rotate_left
      · intro W hSw
        (try dsimp only at hSw)
        go_simp
        (try with_reducible rfl)
      try simp only [Act.put, List.setIfInBounds_toArray, List.set_cons_zero, List.set_cons_succ]
      refine wpAnyH_take (i := 10) (oi := { dst := _, op := _, type := _, pos := _, after := _, guard := _ }) (v := ?_) rfl (by kernel_rfl) (by kernel_rfl) (by kernel_rfl) (fun _ _ _ h => h) (Or.inl ⟨by rfl, ?_⟩) (by assumption) ?_
      rotate_left
      · intro W hSw
        (try dsimp only at hSw)
        go_simp
        (try with_reducible rfl)
      try simp only [Act.put, List.setIfInBounds_toArray, List.set_cons_zero, List.set_cons_succ]
      refine wpAnyH_ready (rs := [11]) (by kernel_rfl) (by simp) ?_
      refine AllReadyH.cons (o := { dst := _, op := _, type := _, pos := _, after := _, guard := _ }) rfl (fun K hK => ?_) AllReadyH.nil
      go_simp
      refine hK.out _ _ ?_ (fun hHeld => ?_)
      · rw [World.cell?_setCell_other _ _ _ _ (fun h => by have h2 := HBB.out.lt; first | exact absurd (show w.heap.size = T from congrArg Addr.block h) (by omega) | exact absurd (show T = w.heap.size from congrArg Addr.block h) (by omega))]; exact hHeld
      clear hK K
      try simp only [Act.put, List.setIfInBounds_toArray, List.set_cons_zero, List.set_cons_succ]
      refine wpAnyH_done (by kernel_rfl) ?_ _
      refine NoPanic.normal ?_
      clear hHeld
      go_wp2_with fail
      go_meet
      exact ⟨rfl, g', cap', HBB.out.app HRB.out (by decide) HG.out 3 _ (by first | rfl | (simp [bxC])), HBB.out.row HRB.out (by decide) HG.out (row_up HO1D.out (bel_up _ _)) (by decide) (by decide), HBB.out.row HRB.out (by decide) HG.out (row_up HO2D.out (bel_up _ _)) (by decide) (by decide), HBB.out.got HRB.out (by decide) HG.out HO.out⟩
    · go_simp
      refine hK.out _ _ ?_ (fun hHeld => ?_)
      · exact cell_up _ hHeld
      clear hK K
      try simp only [Act.put, List.setIfInBounds_toArray, List.set_cons_zero, List.set_cons_succ]
      have k0a : (WD.alloc (.cells #[.int .i64 73, .string ⟨#[]⟩, .int .i64 74, .string ⟨#[]⟩] 42)).cell? ⟨T, 3, none⟩ = some (.slice x3 s.frm.length y3) := cell_up _ k0
      refine wpAnyH_ready (rs := [1]) (by kernel_rfl) (by simp) ?_
      refine AllReadyH.cons (o := { dst := _, op := _, type := _, pos := _, after := _, guard := _ }) rfl (fun K hK => ?_) AllReadyH.nil
      go_simp
      refine hK.out _ _ ?_ (fun hHeld => ?_)
      · exact hHeld
      clear hK K
      try simp only [Act.put, List.setIfInBounds_toArray, List.set_cons_zero, List.set_cons_succ]
      have HBB : Hid (Rmb w (WD.alloc (.cells #[.int .i64 73, .string ⟨#[]⟩, .int .i64 74, .string ⟨#[]⟩] 42)) T #[.slice a1 s.ind.length c1, .int .i64 s.pen, .slice a2 s.que.length c2, .slice a3 s.frm.length c3, .int .u16 (s.flg : Int)] (.slice (some ⟨g1, 0, none⟩) s.ind.length k1) (.slice (some ⟨g2, 0, none⟩) s.que.length k2) (.slice x3 s.frm.length y3) s) := HMD.out.up (bel_up _ _)
      have HRB : Hid ((WD.alloc (.cells #[.int .i64 73, .string ⟨#[]⟩, .int .i64 74, .string ⟨#[]⟩] 42)).ownsRow w.heap.size 42 2 (.slice x3 s.frm.length y3) s.frm.length (fC s.frm)) := row_up RFD.out (bel_up _ _)
      refine wpAnyH_ready (rs := [5]) (by kernel_rfl) (by simp) ?_
      refine AllReadyH.cons (o := { dst := _, op := _, type := _, pos := _, after := _, guard := _ }) rfl (fun K hK => ?_) AllReadyH.nil
      refine step_append_lies _ rfl (.tmp 25) (.tmp 28) 24 rfl w.heap.size 42 iF _ 2 24 Try.underlying24 HI54.out.1 HI54.out.2.1 HI54.out.2.2.1 HI54.out.2.2.2 rfl (by decide) (.slice x3 s.frm.length y3) _ _ rfl HRB.out ⟨WD.heap.size, 0, none⟩ 2 2 [.int .i64 73, .string ⟨#[]⟩, .int .i64 74, .string ⟨#[]⟩] rfl rfl (cell_four_new _ _ _ _ _ _) (by simp [Value.oneCell']) (by decide) (by have := HZ.out.f; unfold maxLen; omega) (by have := HZ.out.f; omega) (Nat.le_trans HBB.out.bw.size (Nat.le_refl _)) (WD.heap.size + 1) (by simp) ?_
      intro g' cap' w' h2 h3 h4 _
      have HO : Hid (w'.ownsRow w.heap.size 42 2 (.slice (some ⟨g', 0, none⟩) (s.frm.length + 2) cap') (s.frm.length + 2) (fC s.frm ++ [.int .i64 73, .string ⟨#[]⟩, .int .i64 74, .string ⟨#[]⟩])) := h2
      have HG : Hid ((WD.alloc (.cells #[.int .i64 73, .string ⟨#[]⟩, .int .i64 74, .string ⟨#[]⟩] 42)).grownBy w' (Value.ownBlock (.slice x3 s.frm.length y3))) := h3
      have k0b : w'.cell? ⟨T, 3, none⟩ = some (.slice x3 s.frm.length y3) := cel_of h3 HBB.out.bt HRB.out (by decide) rfl
      have f0b : w'.frozen? ⟨T, 3, none⟩ = false := froz_of h3 HBB.out.bt HRB.out (by decide)
      have s0b : w'.cell? ⟨w.heap.size, 3, none⟩ = some (.slice a3 s.frm.length c3) := cel_of h3 HBB.out.bs HRB.out (by decide) rfl
      have hcap : s.frm.length ≤ cap' ∧ ((s.frm.length : Nat) : Int) ≤ (cap' : Int) := by have := row_cap h2; omega
      obtain ⟨hc1, hc2⟩ := hcap
      clear h2 h3 h4 k0
      refine hK.out _ _ ?_ (fun hHeld => ?_)
      · exact s0b
      clear hK K
      try simp only [Act.put, List.setIfInBounds_toArray, List.set_cons_zero, List.set_cons_succ]
      clear s0b
      refine wpAnyH_take (i := 9) (oi := { dst := _, op := _, type := _, pos := _, after := _, guard := _ }) (v := ?_) rfl (by kernel_rfl) (by kernel_rfl) (by kernel_rfl) (fun _ _ _ h => h) (Or.inl ⟨by rfl, ?_⟩) (by assumption) ?_
      rotate_left
      · intro W hSw
        (try dsimp only at hSw)
        go_simp
        (try with_reducible rfl)
      try simp only [Act.put, List.setIfInBounds_toArray, List.set_cons_zero, List.set_cons_succ]
      refine wpAnyH_take (i := 10) (oi := { dst := _, op := _, type := _, pos := _, after := _, guard := _ }) (v := ?_) rfl (by kernel_rfl) (by kernel_rfl) (by kernel_rfl) (fun _ _ _ h => h) (Or.inl ⟨by rfl, ?_⟩) (by assumption) ?_
      rotate_left
      · intro W hSw
        (try dsimp only at hSw)
        go_simp
        (try with_reducible rfl)
      try simp only [Act.put, List.setIfInBounds_toArray, List.set_cons_zero, List.set_cons_succ]
      refine wpAnyH_ready (rs := [11]) (by kernel_rfl) (by simp) ?_
      refine AllReadyH.cons (o := { dst := _, op := _, type := _, pos := _, after := _, guard := _ }) rfl (fun K hK => ?_) AllReadyH.nil
      go_simp
      refine hK.out _ _ ?_ (fun hHeld => ?_)
      · rw [World.cell?_setCell_other _ _ _ _ (fun h => by have h2 := HBB.out.lt; first | exact absurd (show w.heap.size = T from congrArg Addr.block h) (by omega) | exact absurd (show T = w.heap.size from congrArg Addr.block h) (by omega))]; exact hHeld
      clear hK K
      try simp only [Act.put, List.setIfInBounds_toArray, List.set_cons_zero, List.set_cons_succ]
      refine wpAnyH_done (by kernel_rfl) ?_ _
      refine NoPanic.normal ?_
      clear hHeld
      go_wp2_with fail
      go_meet
      exact ⟨rfl, g', cap', HBB.out.app HRB.out (by decide) HG.out 3 _ (by first | rfl | (simp [bxC])), HBB.out.row HRB.out (by decide) HG.out (row_up HO1D.out (bel_up _ _)) (by decide) (by decide), HBB.out.row HRB.out (by decide) HG.out (row_up HO2D.out (bel_up _ _)) (by decide) (by decide), HBB.out.got HRB.out (by decide) HG.out HO.out⟩
  case rest =>
  obtain ⟨rfl, g3, k3, HM1, HO1b, HO2b, HO3⟩ := hcut
  clear HM HO1 HO2 RF
  obtain ⟨j0, j1, j2, j3, j4⟩ := box_cells HM1.out.bt
  have z0 := rcell HM1.out.bz 0 (.slice none 0 0) rfl
  have z1 := rcell HM1.out.bz 1 (.int .i64 0) rfl
  have z2 := rcell HM1.out.bz 2 (.slice none 0 0) rfl
  have z3 := rcell HM1.out.bz 3 (.slice none 0 0) rfl
  have z4 := rcell HM1.out.bz 4 (.int .u16 0) rfl
  have rz : ∀ q, wc.frozen? ⟨w.heap.size + 1, q, none⟩ = false := fun q => Lib.frozen_of_heap HM1.out.bz q
  go_wp2_with fail
  (try simp only [Exit.inBlock, Exit.then])
  refine bodyPost_ret (v := sv (.slice (some ⟨g1, 0, none⟩) s.ind.length k1) (.slice (some ⟨g2, 0, none⟩) s.que.length k2) (.slice (some ⟨g3, 0, none⟩) s.frm.length k3) s) ?_ rfl ⟨_, _, _, rfl, ⟨g1, k1, g2, k2, g3, k3, rfl, rfl, rfl, ?_, ?_, ?_⟩, ?_⟩
  · rw [results_cell1 rfl]; go_simp
  · exact row_five HM1.out.bz HO1b.out (by decide)
  · exact row_five HM1.out.bz HO2b.out (by decide)
  · exact row_five HM1.out.bz HO3.out (by decide)
  · exact bel_five HM1.out.bw (by omega)
end Go.Proofs.Ytkaciochlemjiab
