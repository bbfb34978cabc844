import Derived.Test.YtkaciochlemjiabSfb
namespace Go.Proofs.Ytkaciochlemjiab
open Go.RowKit Go.Maps

/-- A state under way: its box, the new state's box. -/
structure Rmc (w W : World) (T : Nat) (sb : Array Value) (xi xq xf : Value) (s : Stt) : Prop where
  bs : W.heap[w.heap.size]? = some (.cells sb 27 (0, 0))
  bt : W.heap[T]? = some (.cells (bxC xi xq xf s) 27 (0, 0))
  bw : Below w.heap.size w W
  lt : w.heap.size + 1 ≤ T
section
variable {w W W' : World} {T : Nat} {sb : Array Value} {xi xq xf : Value} {s : Stt}
theorem Rmc.up (h : Rmc w W T sb xi xq xf s) (hb : Below W.heap.size W W') : Rmc w W' T sb xi xq xf s :=
  ⟨by rw [hb.block _ (lt_of_heap h.bs)]; exact h.bs, by rw [hb.block _ (lt_of_heap h.bt)]; exact h.bt, h.bw.trans (hb.mono h.bw.size), h.lt⟩
theorem Rmc.tcell (h : Rmc w W T sb xi xq xf s) (k : Nat) (v : Value) (hk : (bxC xi xq xf s)[k]? = some v) : W.cell? ⟨T, k, none⟩ = some v := by rw [Lib.cell_of_heap h.bt]; exact hk
theorem Rmc.app {e : TypeId} {size n : Nat} {v : Value} {xs : List Value} {xi' xq' xf' : Value} (h : Rmc w W T sb xi xq xf s) (hr : W.ownsRow w.heap.size e size v n xs) (he : e ≠ 27) (hg : W.grownBy W' v.ownBlock) (k : Nat) (u : Value) (hk : (bxC xi xq xf s).setIfInBounds k u = bxC xi' xq' xf' s) : Rmc w (W'.setCell ⟨T, k, none⟩ u) T sb xi' xq' xf' s := by
  have kb : ∀ {b : Nat} {cs : Array Value}, W.heap[b]? = some (.cells cs 27 (0, 0)) → W'.heap[b]? = some (.cells cs 27 (0, 0)) := fun hb => (hg.block _ (lt_of_heap hb) (fun e' => tag_ne_blk hr hb he e'.symm)).trans hb
  have hlt := h.lt
  refine ⟨?_, ?_, ?_, h.lt⟩
  · rw [Below.heap_setCell _ _ _ _ (by simp <;> omega)]; exact kb h.bs
  · rw [blk_set u (kb h.bt), hk]
  · exact (h.bw.grown hg h.bw.size (fun r e' => (row_tag hr r e').1)).trans ((Below.refl _ _).setCell (p := ⟨T, k, none⟩) (by show w.heap.size ≤ T; omega) _)
theorem Rmc.row {e e' : TypeId} {size size' n n' : Nat} {v v' u : Value} {xs xs' : List Value} {k : Nat} (h : Rmc w W T sb xi xq xf s) (hr : W.ownsRow w.heap.size e size v n xs) (he : e ≠ 27) (hg : W.grownBy W' v.ownBlock) (hr' : W.ownsRow w.heap.size e' size' v' n' xs') (he' : e' ≠ 27) (hne : e' ≠ e) : (W'.setCell ⟨T, k, none⟩ u).ownsRow w.heap.size e' size' v' n' xs' := by
  have hb : W'.heap[T]? = some (.cells (bxC xi xq xf s) 27 (0, 0)) := (hg.block _ (lt_of_heap h.bt) (fun e' => tag_ne_blk hr h.bt he e'.symm)).trans h.bt
  exact (row_off hb (hr'.kept hg (tag_ne hr' hr hne)) he').1
theorem Rmc.got {e : TypeId} {size n n' : Nat} {v v' u : Value} {xs xs' : List Value} {k : Nat} (h : Rmc w W T sb xi xq xf s) (hr : W.ownsRow w.heap.size e size v n xs) (he : e ≠ 27) (hg : W.grownBy W' v.ownBlock) (hr' : W'.ownsRow w.heap.size e size v' n' xs') : (W'.setCell ⟨T, k, none⟩ u).ownsRow w.heap.size e size v' n' xs' := by
  have hb : W'.heap[T]? = some (.cells (bxC xi xq xf s) 27 (0, 0)) := (hg.block _ (lt_of_heap h.bt) (fun e' => tag_ne_blk hr h.bt he e'.symm)).trans h.bt
  exact (row_off hb hr' he).1
end
set_option maxRecDepth 100000 in
set_option maxHeartbeats 16000000 in
theorem stateFresh_any {vi vq vf va : Value} {s : Stt} {l : List (Int × Int × Int)} (m : ByteArray) (w : World) (h : Stm w vi vq vf s) (ha : Rw w va l.length (aC l)) (hf : s.flg < 65536) (hz : Sid s) (hl : l.length * 24 ≤ 140737488355328) (hm : m.size ≤ 140737488355328) :
    Calls Try.prog 4 #[sv vi vq vf s, va, .string m] w fun e w' => e = .returned (.bool true) ∧ Below w.heap.size w w' := by
  obtain ⟨a1, c1, a2, c2, a3, c3, rfl, rfl, rfl⟩ := h.form
  obtain ⟨av_, cv_, hva⟩ : ∃ a c, va = .slice a l.length c := by obtain ⟨a, _, _, c, e, _⟩ := ha; exact ⟨a, c, e⟩
  subst hva
  obtain ⟨W1, hW1⟩ : ∃ W1, W1 = w.alloc (.cells #[.slice a1 s.ind.length c1, .int .i64 s.pen, .slice a2 s.que.length c2, .slice a3 s.frm.length c3, .int .u16 (s.flg : Int)] 27) := ⟨_, rfl⟩
  have B1 : Hid (Below w.heap.size w W1) := by rw [hW1]; exact bel_up _ _
  have HP1 : Hid (W1.heap[w.heap.size]? = some (.cells #[.slice a1 s.ind.length c1, .int .i64 s.pen, .slice a2 s.que.length c2, .slice a3 s.frm.length c3, .int .u16 (s.flg : Int)] 27 (0, 0))) := by rw [hW1]; exact heap_new w _
  have HSZ : Hid (W1.heap.size = w.heap.size + 1) := by rw [hW1, World.size_alloc]; exact rfl
  have HW : Hid (W1 = w.alloc (.cells #[.slice a1 s.ind.length c1, .int .i64 s.pen, .slice a2 s.que.length c2, .slice a3 s.frm.length c3, .int .u16 (s.flg : Int)] 27)) := hW1
  have HS : Hid (Stm w (.slice a1 s.ind.length c1) (.slice a2 s.que.length c2) (.slice a3 s.frm.length c3) s) := h
  have HA : Hid (Rw w (.slice av_ l.length cv_) l.length (aC l)) := ha
  have HZ : Hid (Sid s) := hz
  have HMM : Hid (m.size ≤ 140737488355328 ∧ s.flg < 65536 ∧ l.length * 24 ≤ 140737488355328) := ⟨hm, hf, hl⟩
  obtain ⟨iE, hi3, hx0, hx1, hx2⟩ := info_parts info3
  have HI3 : Hid (Try.prog.info? 3 = some iE ∧ iE.zero = some (.int .i64 0) ∧ iE.size = 1 ∧ iE.bytes = 8) := ⟨hi3, hx0, hx1, hx2⟩
  obtain ⟨iQ, hq3, hy0, hy1, hy2⟩ := info_parts info9
  have HI9 : Hid (Try.prog.info? 9 = some iQ ∧ iQ.zero = some (.string ⟨#[]⟩) ∧ iQ.size = 1 ∧ iQ.bytes = 16) := ⟨hq3, hy0, hy1, hy2⟩
  obtain ⟨iF, hf3, hz0, hz1, hz2⟩ := info_parts info54
  have HI54 : Hid (Try.prog.info? 42 = some iF ∧ iF.zero = some (.agg #[.int .i64 0, .string ⟨#[]⟩]) ∧ iF.size = 2 ∧ iF.bytes = 24) := ⟨hf3, hz0, hz1, hz2⟩
  clear h hz hf hl hm ha hW1 hi3 hx0 hx1 hx2 hq3 hy0 hy1 hy2 hf3 hz0 hz1 hz2
  go_enter Try.func4, Try.ntmps4
  go_upto_region 1 with fail
  rw [← HW.out]
  go_wp2_with fail
  refine (alive_any W1).mono ?_
  rintro e v1 ⟨rfl, hb1⟩
  have BV1 : Hid (Below W1.heap.size W1 v1) := hb1
  have HP1v : Hid (v1.heap[w.heap.size]? = some (.cells #[.slice a1 s.ind.length c1, .int .i64 s.pen, .slice a2 s.que.length c2, .slice a3 s.frm.length c3, .int .u16 (s.flg : Int)] 27 (0, 0))) := (hb1.block _ (lt_of_heap HP1.out)).trans HP1.out
  have BWv : Hid (Below w.heap.size w v1) := below_trans B1.out hb1
  clear hb1
  obtain ⟨p0, p1, p2, p3, p4⟩ := box_cells HP1v.out
  go_wp2_with fail
  refine (twin_any v1 (HS.out.up BWv.out) (by have := HZ.out.i; omega) (by have := HZ.out.q; omega) (by have := HZ.out.f; omega)).mono ?_
  rintro e w2 ⟨ui, uq, uf, rfl, ho2, hb2⟩
  obtain ⟨x1, y1, x2, y2, x3, y3, rfl, rfl, rfl⟩ := ho2.stm.form
  obtain ⟨W2, hW2⟩ : ∃ W2, W2 = w2.alloc (.cells #[.slice x1 s.ind.length y1, .int .i64 s.pen, .slice x2 s.que.length y2, .slice x3 s.frm.length y3, .int .u16 (s.flg : Int)] 27) := ⟨_, rfl⟩
  have HW2 : Hid (W2 = w2.alloc (.cells #[.slice x1 s.ind.length y1, .int .i64 s.pen, .slice x2 s.que.length y2, .slice x3 s.frm.length y3, .int .u16 (s.flg : Int)] 27)) := hW2
  have B2 : Hid (Below v1.heap.size v1 W2) := by rw [hW2]; exact below_trans hb2 (bel_up _ _)
  obtain ⟨T, hT⟩ : ∃ T, w2.heap.size = T := ⟨_, rfl⟩
  have HTT : Hid (w2.heap.size = T) := hT
  have HM : Hid (Rmc w W2 T #[.slice a1 s.ind.length c1, .int .i64 s.pen, .slice a2 s.que.length c2, .slice a3 s.frm.length c3, .int .u16 (s.flg : Int)] (.slice x1 s.ind.length y1) (.slice x2 s.que.length y2) (.slice x3 s.frm.length y3) s) := by
    refine ⟨(B2.out.block _ (lt_of_heap HP1v.out)).trans HP1v.out, ?_, below_trans BWv.out B2.out, ?_⟩
    · rw [hW2, ← hT]; exact heap_new w2 _
    · rw [← hT, ← HSZ.out]; exact Nat.le_trans BV1.out.size hb2.size
  have hbase : w.heap.size ≤ v1.heap.size := BWv.out.size
  have RI : Hid (W2.ownsRow w.heap.size 3 1 (.slice x1 s.ind.length y1) s.ind.length (iC s.ind)) := row_up (row_base (by rw [hW2]; exact row_up ho2.i (bel_up _ _)) hbase) (Below.refl _ _)
  have RQ : Hid (W2.ownsRow w.heap.size 9 1 (.slice x2 s.que.length y2) s.que.length (qC s.que)) := row_up (row_base (by rw [hW2]; exact row_up ho2.q (bel_up _ _)) hbase) (Below.refl _ _)
  have RF : Hid (W2.ownsRow w.heap.size 42 2 (.slice x3 s.frm.length y3) s.frm.length (fC s.frm)) := row_up (row_base (by rw [hW2]; exact row_up ho2.f (bel_up _ _)) hbase) (Below.refl _ _)
  clear hW2 hb2 ho2 p0 p1 p2 p3 p4 hT hbase HP1v BV1
  go_upto_region 4 with fail
  rw [HTT.out]
  rw [← HW2.out]
  go_cut [7] from 47 to 55 (fun v3 wx => v3 = .pointer (some ⟨T, 0, none⟩) ∧ ∃ g c, Hid (Rmc w wx T #[.slice a1 s.ind.length c1, .int .i64 s.pen, .slice a2 s.que.length c2, .slice a3 s.frm.length c3, .int .u16 (s.flg : Int)] (.slice (some ⟨g, 0, none⟩) s.ind.length c) (.slice x2 s.que.length y2) (.slice x3 s.frm.length y3) s) ∧ Hid (wx.ownsRow w.heap.size 3 1 (.slice (some ⟨g, 0, none⟩) (s.ind.length + 2) c) (s.ind.length + 2) (iC s.ind ++ [.int .i64 1, .int .i64 2])) ∧ Hid (wx.ownsRow w.heap.size 9 1 (.slice x2 s.que.length y2) s.que.length (qC s.que)) ∧ Hid (wx.ownsRow w.heap.size 42 2 (.slice x3 s.frm.length y3) s.frm.length (fC s.frm)))
  case first =>
    obtain ⟨WD, hWD⟩ : ∃ WD, W2.drew = WD := ⟨_, rfl⟩
    have HMD : Hid (Rmc w WD T #[.slice a1 s.ind.length c1, .int .i64 s.pen, .slice a2 s.que.length c2, .slice a3 s.frm.length c3, .int .u16 (s.flg : Int)] (.slice x1 s.ind.length y1) (.slice x2 s.que.length y2) (.slice x3 s.frm.length y3) s) := by rw [← hWD]; exact HM.out.up (Below.drew (Below.refl _ _))
    have RID : Hid (WD.ownsRow w.heap.size 3 1 (.slice x1 s.ind.length y1) s.ind.length (iC s.ind)) := by rw [← hWD]; exact row_up RI.out (Below.drew (Below.refl _ _))
    have RQD : Hid (WD.ownsRow w.heap.size 9 1 (.slice x2 s.que.length y2) s.que.length (qC s.que)) := by rw [← hWD]; exact row_up RQ.out (Below.drew (Below.refl _ _))
    have RFD : Hid (WD.ownsRow w.heap.size 42 2 (.slice x3 s.frm.length y3) s.frm.length (fC s.frm)) := by rw [← hWD]; exact row_up RF.out (Below.drew (Below.refl _ _))
    have k0 := HMD.out.tcell 0 _ rfl
    have HSC : Hid (∀ W : World, W.heap[w.heap.size]? = some (.cells #[.slice a1 s.ind.length c1, .int .i64 s.pen, .slice a2 s.que.length c2, .slice a3 s.frm.length c3, .int .u16 (s.flg : Int)] 27 (0, 0)) → W.cell? ⟨w.heap.size, 0, none⟩ = some (.slice a1 s.ind.length c1)) := fun W hW => rcell hW 0 _ rfl
    refine wp_region_noPanic ?_
    refine wp_region_held_drew (S := fun W => W.cell? ⟨w.heap.size, 0, none⟩ = some (.slice a1 s.ind.length c1)) (by kernel_rfl) (by rw [hWD]; exact HSC.out _ HMD.out.bs) (fun hHeld => ?_)
    rw [hWD] at hHeld ⊢
    clear hWD
    refine wpAnyH_take (i := 0) (oi := { dst := _, op := _, type := _, pos := _, after := _, guard := _ }) (v := ?_) rfl (by kernel_rfl) (by kernel_rfl) (by kernel_rfl) (fun _ _ _ h => h) (Or.inl ⟨by rfl, ?_⟩) (by assumption) ?_
    rotate_left
    · intro W hSw
      (try dsimp only at hSw)
      go_simp
      (try with_reducible rfl)
    try simp only [Act.put, List.setIfInBounds_toArray, List.set_cons_zero, List.set_cons_succ]
    refine wpAnyH_take (i := 4) (oi := { dst := _, op := _, type := _, pos := _, after := _, guard := _ }) (v := ?_) rfl (by kernel_rfl) (by kernel_rfl) (by kernel_rfl) (fun _ _ _ h => h) (Or.inl ⟨by rfl, ?_⟩) (by assumption) ?_
    rotate_left
    · intro W hSw
      (try dsimp only at hSw)
      go_simp
      (try with_reducible rfl)
    try simp only [Act.put, List.setIfInBounds_toArray, List.set_cons_zero, List.set_cons_succ]
    refine wpAnyH_take (i := 5) (oi := { dst := _, op := _, type := _, pos := _, after := _, guard := _ }) (v := ?_) rfl (by kernel_rfl) (by kernel_rfl) (by kernel_rfl) (fun _ _ _ h => h) (Or.inl ⟨by rfl, ?_⟩) (by assumption) ?_
    rotate_left
    · intro W hSw
      (try dsimp only at hSw)
      go_simp
      (try with_reducible rfl)
    try simp only [Act.put, List.setIfInBounds_toArray, List.set_cons_zero, List.set_cons_succ]
    refine wpAnyH_take (i := 6) (oi := { dst := _, op := _, type := _, pos := _, after := _, guard := _ }) (v := ?_) rfl (by kernel_rfl) (by kernel_rfl) (by kernel_rfl) (fun _ _ _ h => h) (Or.inl ⟨by rfl, ?_⟩) (by assumption) ?_
    rotate_left
    · intro W hSw
      (try dsimp only at hSw)
      go_simp
      (try with_reducible rfl)
    try simp only [Act.put, List.setIfInBounds_toArray, List.set_cons_zero, List.set_cons_succ]
    refine wpAnyH_ready (rs := [1, 2]) (by kernel_rfl) (by simp) ?_
    refine AllReadyH.cons (o := { dst := _, op := _, type := _, pos := _, after := _, guard := _ }) rfl (fun K hK => ?_) (AllReadyH.cons (o := { dst := _, op := _, type := _, pos := _, after := _, guard := _ }) rfl (fun K hK => ?_) (AllReadyH.nil))
    · go_simp
      refine hK.out _ _ ?_ (fun hHeld => ?_)
      · exact hHeld
      clear hK K
      try simp only [Act.put, List.setIfInBounds_toArray, List.set_cons_zero, List.set_cons_succ]
      refine wpAnyH_ready (rs := [2]) (by kernel_rfl) (by simp) ?_
      refine AllReadyH.cons (o := { dst := _, op := _, type := _, pos := _, after := _, guard := _ }) rfl (fun K hK => ?_) AllReadyH.nil
      go_simp
      refine hK.out _ _ ?_ (fun hHeld => ?_)
      · exact cell_up _ hHeld
      clear hK K
      try simp only [Act.put, List.setIfInBounds_toArray, List.set_cons_zero, List.set_cons_succ]
      have HBB : Hid (Rmc w (WD.alloc (.cells #[.int .i64 1, .int .i64 2] 3)) T #[.slice a1 s.ind.length c1, .int .i64 s.pen, .slice a2 s.que.length c2, .slice a3 s.frm.length c3, .int .u16 (s.flg : Int)] (.slice x1 s.ind.length y1) (.slice x2 s.que.length y2) (.slice x3 s.frm.length y3) s) := HMD.out.up (bel_up _ _)
      have HRB : Hid ((WD.alloc (.cells #[.int .i64 1, .int .i64 2] 3)).ownsRow w.heap.size 3 1 (.slice x1 s.ind.length y1) s.ind.length (iC s.ind)) := row_up RID.out (bel_up _ _)
      refine wpAnyH_ready (rs := [3]) (by kernel_rfl) (by simp) ?_
      refine AllReadyH.cons (o := { dst := _, op := _, type := _, pos := _, after := _, guard := _ }) rfl (fun K hK => ?_) AllReadyH.nil
      refine step_append_lies _ rfl (.tmp 48) (.tmp 49) 22 rfl w.heap.size 3 iE _ 1 8 Try.underlying22 HI3.out.1 HI3.out.2.1 HI3.out.2.2.1 HI3.out.2.2.2 rfl (by decide) (.slice x1 s.ind.length y1) _ _ rfl HRB.out ⟨WD.heap.size, 0, none⟩ 2 2 [.int .i64 1, .int .i64 2] rfl rfl (cell_two_new _ _ _ _) (by simp [Value.oneCell']) (by decide) (by have := HZ.out.i; unfold maxLen; omega) (by have := HZ.out.i; omega) (Nat.le_trans HBB.out.bw.size (Nat.le_refl _)) (WD.heap.size + 1) (by simp) ?_
      intro g' cap' w' h2 h3 h4 _
      have HO : Hid (w'.ownsRow w.heap.size 3 1 (.slice (some ⟨g', 0, none⟩) (s.ind.length + 2) cap') (s.ind.length + 2) (iC s.ind ++ [.int .i64 1, .int .i64 2])) := h2
      have HG : Hid ((WD.alloc (.cells #[.int .i64 1, .int .i64 2] 3)).grownBy w' (Value.ownBlock (.slice x1 s.ind.length y1))) := h3
      have k0b : w'.cell? ⟨T, 0, none⟩ = some (.slice x1 s.ind.length y1) := cel_of h3 HBB.out.bt HRB.out (by decide) rfl
      have f0b : w'.frozen? ⟨T, 0, none⟩ = false := froz_of h3 HBB.out.bt HRB.out (by decide)
      have s0b : w'.cell? ⟨w.heap.size, 0, none⟩ = some (.slice a1 s.ind.length c1) := cel_of h3 HBB.out.bs HRB.out (by decide) rfl
      have hcap : s.ind.length ≤ cap' ∧ ((s.ind.length : Nat) : Int) ≤ (cap' : Int) := by have := row_cap h2; omega
      obtain ⟨hc1, hc2⟩ := hcap
      clear h2 h3 h4 k0
      refine hK.out _ _ ?_ (fun hHeld => ?_)
      · exact s0b
      clear hK K
      try simp only [Act.put, List.setIfInBounds_toArray, List.set_cons_zero, List.set_cons_succ]
      clear s0b
      refine wpAnyH_take (i := 7) (oi := { dst := _, op := _, type := _, pos := _, after := _, guard := _ }) (v := ?_) rfl (by kernel_rfl) (by kernel_rfl) (by kernel_rfl) (fun _ _ _ h => h) (Or.inl ⟨by rfl, ?_⟩) (by assumption) ?_
      rotate_left
      · intro W hSw
        (try dsimp only at hSw)
        go_simp
        (try with_reducible rfl)
      try simp only [Act.put, List.setIfInBounds_toArray, List.set_cons_zero, List.set_cons_succ]
      refine wpAnyH_take (i := 8) (oi := { dst := _, op := _, type := _, pos := _, after := _, guard := _ }) (v := ?_) rfl (by kernel_rfl) (by kernel_rfl) (by kernel_rfl) (fun _ _ _ h => h) (Or.inl ⟨by rfl, ?_⟩) (by assumption) ?_
      rotate_left
      · intro W hSw
        (try dsimp only at hSw)
        go_simp
        (try with_reducible rfl)
      try simp only [Act.put, List.setIfInBounds_toArray, List.set_cons_zero, List.set_cons_succ]
      refine wpAnyH_ready (rs := [9]) (by kernel_rfl) (by simp) ?_
      refine AllReadyH.cons (o := { dst := _, op := _, type := _, pos := _, after := _, guard := _ }) rfl (fun K hK => ?_) AllReadyH.nil
      go_simp
      refine hK.out _ _ ?_ (fun hHeld => ?_)
      · rw [World.cell?_setCell_other _ _ _ _ (fun h => by have h2 := HBB.out.lt; first | exact absurd (show w.heap.size = T from congrArg Addr.block h) (by omega) | exact absurd (show T = w.heap.size from congrArg Addr.block h) (by omega))]; exact hHeld
      clear hK K
      try simp only [Act.put, List.setIfInBounds_toArray, List.set_cons_zero, List.set_cons_succ]
      refine wpAnyH_done (by kernel_rfl) ?_ _
      refine NoPanic.normal ?_
      clear hHeld
      go_wp2_with fail
      go_meet
      exact ⟨rfl, g', cap', HBB.out.app HRB.out (by decide) HG.out 0 _ (by first | rfl | (simp [bxC])), HBB.out.got HRB.out (by decide) HG.out HO.out, HBB.out.row HRB.out (by decide) HG.out (row_up RQD.out (bel_up _ _)) (by decide) (by decide), HBB.out.row HRB.out (by decide) HG.out (row_up RFD.out (bel_up _ _)) (by decide) (by decide)⟩
    · go_simp
      refine hK.out _ _ ?_ (fun hHeld => ?_)
      · exact cell_up _ hHeld
      clear hK K
      try simp only [Act.put, List.setIfInBounds_toArray, List.set_cons_zero, List.set_cons_succ]
      have k0a : (WD.alloc (.cells #[.int .i64 1, .int .i64 2] 3)).cell? ⟨T, 0, none⟩ = some (.slice x1 s.ind.length y1) := cell_up _ k0
      refine wpAnyH_ready (rs := [1]) (by kernel_rfl) (by simp) ?_
      refine AllReadyH.cons (o := { dst := _, op := _, type := _, pos := _, after := _, guard := _ }) rfl (fun K hK => ?_) AllReadyH.nil
      go_simp
      refine hK.out _ _ ?_ (fun hHeld => ?_)
      · exact hHeld
      clear hK K
      try simp only [Act.put, List.setIfInBounds_toArray, List.set_cons_zero, List.set_cons_succ]
      have HBB : Hid (Rmc w (WD.alloc (.cells #[.int .i64 1, .int .i64 2] 3)) T #[.slice a1 s.ind.length c1, .int .i64 s.pen, .slice a2 s.que.length c2, .slice a3 s.frm.length c3, .int .u16 (s.flg : Int)] (.slice x1 s.ind.length y1) (.slice x2 s.que.length y2) (.slice x3 s.frm.length y3) s) := HMD.out.up (bel_up _ _)
      have HRB : Hid ((WD.alloc (.cells #[.int .i64 1, .int .i64 2] 3)).ownsRow w.heap.size 3 1 (.slice x1 s.ind.length y1) s.ind.length (iC s.ind)) := row_up RID.out (bel_up _ _)
      refine wpAnyH_ready (rs := [3]) (by kernel_rfl) (by simp) ?_
      refine AllReadyH.cons (o := { dst := _, op := _, type := _, pos := _, after := _, guard := _ }) rfl (fun K hK => ?_) AllReadyH.nil
      refine step_append_lies _ rfl (.tmp 48) (.tmp 49) 22 rfl w.heap.size 3 iE _ 1 8 Try.underlying22 HI3.out.1 HI3.out.2.1 HI3.out.2.2.1 HI3.out.2.2.2 rfl (by decide) (.slice x1 s.ind.length y1) _ _ rfl HRB.out ⟨WD.heap.size, 0, none⟩ 2 2 [.int .i64 1, .int .i64 2] rfl rfl (cell_two_new _ _ _ _) (by simp [Value.oneCell']) (by decide) (by have := HZ.out.i; unfold maxLen; omega) (by have := HZ.out.i; omega) (Nat.le_trans HBB.out.bw.size (Nat.le_refl _)) (WD.heap.size + 1) (by simp) ?_
      intro g' cap' w' h2 h3 h4 _
      have HO : Hid (w'.ownsRow w.heap.size 3 1 (.slice (some ⟨g', 0, none⟩) (s.ind.length + 2) cap') (s.ind.length + 2) (iC s.ind ++ [.int .i64 1, .int .i64 2])) := h2
      have HG : Hid ((WD.alloc (.cells #[.int .i64 1, .int .i64 2] 3)).grownBy w' (Value.ownBlock (.slice x1 s.ind.length y1))) := h3
      have k0b : w'.cell? ⟨T, 0, none⟩ = some (.slice x1 s.ind.length y1) := cel_of h3 HBB.out.bt HRB.out (by decide) rfl
      have f0b : w'.frozen? ⟨T, 0, none⟩ = false := froz_of h3 HBB.out.bt HRB.out (by decide)
      have s0b : w'.cell? ⟨w.heap.size, 0, none⟩ = some (.slice a1 s.ind.length c1) := cel_of h3 HBB.out.bs HRB.out (by decide) rfl
      have hcap : s.ind.length ≤ cap' ∧ ((s.ind.length : Nat) : Int) ≤ (cap' : Int) := by have := row_cap h2; omega
      obtain ⟨hc1, hc2⟩ := hcap
      clear h2 h3 h4 k0
      refine hK.out _ _ ?_ (fun hHeld => ?_)
      · exact s0b
      clear hK K
      try simp only [Act.put, List.setIfInBounds_toArray, List.set_cons_zero, List.set_cons_succ]
      clear s0b
      refine wpAnyH_take (i := 7) (oi := { dst := _, op := _, type := _, pos := _, after := _, guard := _ }) (v := ?_) rfl (by kernel_rfl) (by kernel_rfl) (by kernel_rfl) (fun _ _ _ h => h) (Or.inl ⟨by rfl, ?_⟩) (by assumption) ?_
      rotate_left
      · intro W hSw
        (try dsimp only at hSw)
        go_simp
        (try with_reducible rfl)
      try simp only [Act.put, List.setIfInBounds_toArray, List.set_cons_zero, List.set_cons_succ]
      refine wpAnyH_take (i := 8) (oi := { dst := _, op := _, type := _, pos := _, after := _, guard := _ }) (v := ?_) rfl (by kernel_rfl) (by kernel_rfl) (by kernel_rfl) (fun _ _ _ h => h) (Or.inl ⟨by rfl, ?_⟩) (by assumption) ?_
      rotate_left
      · intro W hSw
        (try dsimp only at hSw)
        go_simp
        (try with_reducible rfl)
      try simp only [Act.put, List.setIfInBounds_toArray, List.set_cons_zero, List.set_cons_succ]
      refine wpAnyH_ready (rs := [9]) (by kernel_rfl) (by simp) ?_
      refine AllReadyH.cons (o := { dst := _, op := _, type := _, pos := _, after := _, guard := _ }) rfl (fun K hK => ?_) AllReadyH.nil
      go_simp
      refine hK.out _ _ ?_ (fun hHeld => ?_)
      · rw [World.cell?_setCell_other _ _ _ _ (fun h => by have h2 := HBB.out.lt; first | exact absurd (show w.heap.size = T from congrArg Addr.block h) (by omega) | exact absurd (show T = w.heap.size from congrArg Addr.block h) (by omega))]; exact hHeld
      clear hK K
      try simp only [Act.put, List.setIfInBounds_toArray, List.set_cons_zero, List.set_cons_succ]
      refine wpAnyH_done (by kernel_rfl) ?_ _
      refine NoPanic.normal ?_
      clear hHeld
      go_wp2_with fail
      go_meet
      exact ⟨rfl, g', cap', HBB.out.app HRB.out (by decide) HG.out 0 _ (by first | rfl | (simp [bxC])), HBB.out.got HRB.out (by decide) HG.out HO.out, HBB.out.row HRB.out (by decide) HG.out (row_up RQD.out (bel_up _ _)) (by decide) (by decide), HBB.out.row HRB.out (by decide) HG.out (row_up RFD.out (bel_up _ _)) (by decide) (by decide)⟩
  case rest =>
  obtain ⟨rfl, g1, k1, HM1, HO1, RQ1, RF1⟩ := hcut
  clear HM RI RQ RF
  have HM : Hid _ := HM1.out
  have RQ : Hid _ := RQ1.out
  have RF : Hid _ := RF1.out
  clear HM1 RQ1 RF1
  go_upto_region 5 with fail
  go_cut [7] from 56 to 64 (fun v3 wx => v3 = .pointer (some ⟨T, 0, none⟩) ∧ ∃ g c, Hid (Rmc w wx T #[.slice a1 s.ind.length c1, .int .i64 s.pen, .slice a2 s.que.length c2, .slice a3 s.frm.length c3, .int .u16 (s.flg : Int)] (.slice (some ⟨g1, 0, none⟩) s.ind.length k1) (.slice (some ⟨g, 0, none⟩) s.que.length c) (.slice x3 s.frm.length y3) s) ∧ Hid (wx.ownsRow w.heap.size 3 1 (.slice (some ⟨g1, 0, none⟩) (s.ind.length + 2) k1) (s.ind.length + 2) (iC s.ind ++ [.int .i64 1, .int .i64 2])) ∧ Hid (wx.ownsRow w.heap.size 9 1 (.slice (some ⟨g, 0, none⟩) (s.que.length + 2) c) (s.que.length + 2) (qC s.que ++ [.string ⟨#[97]⟩, .string ⟨#[98]⟩])) ∧ Hid (wx.ownsRow w.heap.size 42 2 (.slice x3 s.frm.length y3) s.frm.length (fC s.frm)))
  case first =>
    obtain ⟨WD, hWD⟩ : ∃ WD, wc.drew = WD := ⟨_, rfl⟩
    have HMD : Hid (Rmc w WD T #[.slice a1 s.ind.length c1, .int .i64 s.pen, .slice a2 s.que.length c2, .slice a3 s.frm.length c3, .int .u16 (s.flg : Int)] (.slice (some ⟨g1, 0, none⟩) s.ind.length k1) (.slice x2 s.que.length y2) (.slice x3 s.frm.length y3) s) := by rw [← hWD]; exact HM.out.up (Below.drew (Below.refl _ _))
    have HO1D : Hid (WD.ownsRow w.heap.size 3 1 (.slice (some ⟨g1, 0, none⟩) (s.ind.length + 2) k1) (s.ind.length + 2) (iC s.ind ++ [.int .i64 1, .int .i64 2])) := by rw [← hWD]; exact row_up HO1.out (Below.drew (Below.refl _ _))
    have RQD : Hid (WD.ownsRow w.heap.size 9 1 (.slice x2 s.que.length y2) s.que.length (qC s.que)) := by rw [← hWD]; exact row_up RQ.out (Below.drew (Below.refl _ _))
    have RFD : Hid (WD.ownsRow w.heap.size 42 2 (.slice x3 s.frm.length y3) s.frm.length (fC s.frm)) := by rw [← hWD]; exact row_up RF.out (Below.drew (Below.refl _ _))
    have k0 := HMD.out.tcell 2 _ rfl
    have HSC : Hid (∀ W : World, W.heap[w.heap.size]? = some (.cells #[.slice a1 s.ind.length c1, .int .i64 s.pen, .slice a2 s.que.length c2, .slice a3 s.frm.length c3, .int .u16 (s.flg : Int)] 27 (0, 0)) → W.cell? ⟨w.heap.size, 2, none⟩ = some (.slice a2 s.que.length c2)) := fun W hW => rcell hW 2 _ rfl
    refine wp_region_noPanic ?_
    refine wp_region_held_drew (S := fun W => W.cell? ⟨w.heap.size, 2, none⟩ = some (.slice a2 s.que.length c2)) (by kernel_rfl) (by rw [hWD]; exact HSC.out _ HMD.out.bs) (fun hHeld => ?_)
    rw [hWD] at hHeld ⊢
    clear hWD
    refine wpAnyH_take (i := 0) (oi := { dst := _, op := _, type := _, pos := _, after := _, guard := _ }) (v := ?_) rfl (by kernel_rfl) (by kernel_rfl) (by kernel_rfl) (fun _ _ _ h => h) (Or.inl ⟨by rfl, ?_⟩) (by assumption) ?_
    rotate_left
    · intro W hSw
      (try dsimp only at hSw)
      go_simp
      (try with_reducible rfl)
    try simp only [Act.put, List.setIfInBounds_toArray, List.set_cons_zero, List.set_cons_succ]
    refine wpAnyH_take (i := 4) (oi := { dst := _, op := _, type := _, pos := _, after := _, guard := _ }) (v := ?_) rfl (by kernel_rfl) (by kernel_rfl) (by kernel_rfl) (fun _ _ _ h => h) (Or.inl ⟨by rfl, ?_⟩) (by assumption) ?_
    rotate_left
    · intro W hSw
      (try dsimp only at hSw)
      go_simp
      (try with_reducible rfl)
    try simp only [Act.put, List.setIfInBounds_toArray, List.set_cons_zero, List.set_cons_succ]
    refine wpAnyH_take (i := 5) (oi := { dst := _, op := _, type := _, pos := _, after := _, guard := _ }) (v := ?_) rfl (by kernel_rfl) (by kernel_rfl) (by kernel_rfl) (fun _ _ _ h => h) (Or.inl ⟨by rfl, ?_⟩) (by assumption) ?_
    rotate_left
    · intro W hSw
      (try dsimp only at hSw)
      go_simp
      (try with_reducible rfl)
    try simp only [Act.put, List.setIfInBounds_toArray, List.set_cons_zero, List.set_cons_succ]
    refine wpAnyH_take (i := 6) (oi := { dst := _, op := _, type := _, pos := _, after := _, guard := _ }) (v := ?_) rfl (by kernel_rfl) (by kernel_rfl) (by kernel_rfl) (fun _ _ _ h => h) (Or.inl ⟨by rfl, ?_⟩) (by assumption) ?_
    rotate_left
    · intro W hSw
      (try dsimp only at hSw)
      go_simp
      (try with_reducible rfl)
    try simp only [Act.put, List.setIfInBounds_toArray, List.set_cons_zero, List.set_cons_succ]
    refine wpAnyH_ready (rs := [1, 2]) (by kernel_rfl) (by simp) ?_
    refine AllReadyH.cons (o := { dst := _, op := _, type := _, pos := _, after := _, guard := _ }) rfl (fun K hK => ?_) (AllReadyH.cons (o := { dst := _, op := _, type := _, pos := _, after := _, guard := _ }) rfl (fun K hK => ?_) (AllReadyH.nil))
    · go_simp
      refine hK.out _ _ ?_ (fun hHeld => ?_)
      · exact hHeld
      clear hK K
      try simp only [Act.put, List.setIfInBounds_toArray, List.set_cons_zero, List.set_cons_succ]
      refine wpAnyH_ready (rs := [2]) (by kernel_rfl) (by simp) ?_
      refine AllReadyH.cons (o := { dst := _, op := _, type := _, pos := _, after := _, guard := _ }) rfl (fun K hK => ?_) AllReadyH.nil
      go_simp
      refine hK.out _ _ ?_ (fun hHeld => ?_)
      · exact cell_up _ hHeld
      clear hK K
      try simp only [Act.put, List.setIfInBounds_toArray, List.set_cons_zero, List.set_cons_succ]
      have HBB : Hid (Rmc w (WD.alloc (.cells #[.string ⟨#[97]⟩, .string ⟨#[98]⟩] 9)) T #[.slice a1 s.ind.length c1, .int .i64 s.pen, .slice a2 s.que.length c2, .slice a3 s.frm.length c3, .int .u16 (s.flg : Int)] (.slice (some ⟨g1, 0, none⟩) s.ind.length k1) (.slice x2 s.que.length y2) (.slice x3 s.frm.length y3) s) := HMD.out.up (bel_up _ _)
      have HRB : Hid ((WD.alloc (.cells #[.string ⟨#[97]⟩, .string ⟨#[98]⟩] 9)).ownsRow w.heap.size 9 1 (.slice x2 s.que.length y2) s.que.length (qC s.que)) := row_up RQD.out (bel_up _ _)
      refine wpAnyH_ready (rs := [3]) (by kernel_rfl) (by simp) ?_
      refine AllReadyH.cons (o := { dst := _, op := _, type := _, pos := _, after := _, guard := _ }) rfl (fun K hK => ?_) AllReadyH.nil
      refine step_append_lies _ rfl (.tmp 57) (.tmp 58) 23 rfl w.heap.size 9 iQ _ 1 16 Try.underlying23 HI9.out.1 HI9.out.2.1 HI9.out.2.2.1 HI9.out.2.2.2 rfl (by decide) (.slice x2 s.que.length y2) _ _ rfl HRB.out ⟨WD.heap.size, 0, none⟩ 2 2 [.string ⟨#[97]⟩, .string ⟨#[98]⟩] rfl rfl (cell_two_new _ _ _ _) (by simp [Value.oneCell']) (by decide) (by have := HZ.out.q; unfold maxLen; omega) (by have := HZ.out.q; omega) (Nat.le_trans HBB.out.bw.size (Nat.le_refl _)) (WD.heap.size + 1) (by simp) ?_
      intro g' cap' w' h2 h3 h4 _
      have HO : Hid (w'.ownsRow w.heap.size 9 1 (.slice (some ⟨g', 0, none⟩) (s.que.length + 2) cap') (s.que.length + 2) (qC s.que ++ [.string ⟨#[97]⟩, .string ⟨#[98]⟩])) := h2
      have HG : Hid ((WD.alloc (.cells #[.string ⟨#[97]⟩, .string ⟨#[98]⟩] 9)).grownBy w' (Value.ownBlock (.slice x2 s.que.length y2))) := h3
      have k0b : w'.cell? ⟨T, 2, none⟩ = some (.slice x2 s.que.length y2) := cel_of h3 HBB.out.bt HRB.out (by decide) rfl
      have f0b : w'.frozen? ⟨T, 2, none⟩ = false := froz_of h3 HBB.out.bt HRB.out (by decide)
      have s0b : w'.cell? ⟨w.heap.size, 2, none⟩ = some (.slice a2 s.que.length c2) := cel_of h3 HBB.out.bs HRB.out (by decide) rfl
      have hcap : s.que.length ≤ cap' ∧ ((s.que.length : Nat) : Int) ≤ (cap' : Int) := by have := row_cap h2; omega
      obtain ⟨hc1, hc2⟩ := hcap
      clear h2 h3 h4 k0
      refine hK.out _ _ ?_ (fun hHeld => ?_)
      · exact s0b
      clear hK K
      try simp only [Act.put, List.setIfInBounds_toArray, List.set_cons_zero, List.set_cons_succ]
      clear s0b
      refine wpAnyH_take (i := 7) (oi := { dst := _, op := _, type := _, pos := _, after := _, guard := _ }) (v := ?_) rfl (by kernel_rfl) (by kernel_rfl) (by kernel_rfl) (fun _ _ _ h => h) (Or.inl ⟨by rfl, ?_⟩) (by assumption) ?_
      rotate_left
      · intro W hSw
        (try dsimp only at hSw)
        go_simp
        (try with_reducible rfl)
      try simp only [Act.put, List.setIfInBounds_toArray, List.set_cons_zero, List.set_cons_succ]
      refine wpAnyH_take (i := 8) (oi := { dst := _, op := _, type := _, pos := _, after := _, guard := _ }) (v := ?_) rfl (by kernel_rfl) (by kernel_rfl) (by kernel_rfl) (fun _ _ _ h => h) (Or.inl ⟨by rfl, ?_⟩) (by assumption) ?_
      rotate_left
      · intro W hSw
        (try dsimp only at hSw)
        go_simp
        (try with_reducible rfl)
      try simp only [Act.put, List.setIfInBounds_toArray, List.set_cons_zero, List.set_cons_succ]
      refine wpAnyH_ready (rs := [9]) (by kernel_rfl) (by simp) ?_
      refine AllReadyH.cons (o := { dst := _, op := _, type := _, pos := _, after := _, guard := _ }) rfl (fun K hK => ?_) AllReadyH.nil
      go_simp
      refine hK.out _ _ ?_ (fun hHeld => ?_)
      · rw [World.cell?_setCell_other _ _ _ _ (fun h => by have h2 := HBB.out.lt; first | exact absurd (show w.heap.size = T from congrArg Addr.block h) (by omega) | exact absurd (show T = w.heap.size from congrArg Addr.block h) (by omega))]; exact hHeld
      clear hK K
      try simp only [Act.put, List.setIfInBounds_toArray, List.set_cons_zero, List.set_cons_succ]
      refine wpAnyH_done (by kernel_rfl) ?_ _
      refine NoPanic.normal ?_
      clear hHeld
      go_wp2_with fail
      go_meet
      exact ⟨rfl, g', cap', HBB.out.app HRB.out (by decide) HG.out 2 _ (by first | rfl | (simp [bxC])), HBB.out.row HRB.out (by decide) HG.out (row_up HO1D.out (bel_up _ _)) (by decide) (by decide), HBB.out.got HRB.out (by decide) HG.out HO.out, HBB.out.row HRB.out (by decide) HG.out (row_up RFD.out (bel_up _ _)) (by decide) (by decide)⟩
    · go_simp
      refine hK.out _ _ ?_ (fun hHeld => ?_)
      · exact cell_up _ hHeld
      clear hK K
      try simp only [Act.put, List.setIfInBounds_toArray, List.set_cons_zero, List.set_cons_succ]
      have k0a : (WD.alloc (.cells #[.string ⟨#[97]⟩, .string ⟨#[98]⟩] 9)).cell? ⟨T, 2, none⟩ = some (.slice x2 s.que.length y2) := cell_up _ k0
      refine wpAnyH_ready (rs := [1]) (by kernel_rfl) (by simp) ?_
      refine AllReadyH.cons (o := { dst := _, op := _, type := _, pos := _, after := _, guard := _ }) rfl (fun K hK => ?_) AllReadyH.nil
      go_simp
      refine hK.out _ _ ?_ (fun hHeld => ?_)
      · exact hHeld
      clear hK K
      try simp only [Act.put, List.setIfInBounds_toArray, List.set_cons_zero, List.set_cons_succ]
      have HBB : Hid (Rmc w (WD.alloc (.cells #[.string ⟨#[97]⟩, .string ⟨#[98]⟩] 9)) T #[.slice a1 s.ind.length c1, .int .i64 s.pen, .slice a2 s.que.length c2, .slice a3 s.frm.length c3, .int .u16 (s.flg : Int)] (.slice (some ⟨g1, 0, none⟩) s.ind.length k1) (.slice x2 s.que.length y2) (.slice x3 s.frm.length y3) s) := HMD.out.up (bel_up _ _)
      have HRB : Hid ((WD.alloc (.cells #[.string ⟨#[97]⟩, .string ⟨#[98]⟩] 9)).ownsRow w.heap.size 9 1 (.slice x2 s.que.length y2) s.que.length (qC s.que)) := row_up RQD.out (bel_up _ _)
      refine wpAnyH_ready (rs := [3]) (by kernel_rfl) (by simp) ?_
      refine AllReadyH.cons (o := { dst := _, op := _, type := _, pos := _, after := _, guard := _ }) rfl (fun K hK => ?_) AllReadyH.nil
      refine step_append_lies _ rfl (.tmp 57) (.tmp 58) 23 rfl w.heap.size 9 iQ _ 1 16 Try.underlying23 HI9.out.1 HI9.out.2.1 HI9.out.2.2.1 HI9.out.2.2.2 rfl (by decide) (.slice x2 s.que.length y2) _ _ rfl HRB.out ⟨WD.heap.size, 0, none⟩ 2 2 [.string ⟨#[97]⟩, .string ⟨#[98]⟩] rfl rfl (cell_two_new _ _ _ _) (by simp [Value.oneCell']) (by decide) (by have := HZ.out.q; unfold maxLen; omega) (by have := HZ.out.q; omega) (Nat.le_trans HBB.out.bw.size (Nat.le_refl _)) (WD.heap.size + 1) (by simp) ?_
      intro g' cap' w' h2 h3 h4 _
      have HO : Hid (w'.ownsRow w.heap.size 9 1 (.slice (some ⟨g', 0, none⟩) (s.que.length + 2) cap') (s.que.length + 2) (qC s.que ++ [.string ⟨#[97]⟩, .string ⟨#[98]⟩])) := h2
      have HG : Hid ((WD.alloc (.cells #[.string ⟨#[97]⟩, .string ⟨#[98]⟩] 9)).grownBy w' (Value.ownBlock (.slice x2 s.que.length y2))) := h3
      have k0b : w'.cell? ⟨T, 2, none⟩ = some (.slice x2 s.que.length y2) := cel_of h3 HBB.out.bt HRB.out (by decide) rfl
      have f0b : w'.frozen? ⟨T, 2, none⟩ = false := froz_of h3 HBB.out.bt HRB.out (by decide)
      have s0b : w'.cell? ⟨w.heap.size, 2, none⟩ = some (.slice a2 s.que.length c2) := cel_of h3 HBB.out.bs HRB.out (by decide) rfl
      have hcap : s.que.length ≤ cap' ∧ ((s.que.length : Nat) : Int) ≤ (cap' : Int) := by have := row_cap h2; omega
      obtain ⟨hc1, hc2⟩ := hcap
      clear h2 h3 h4 k0
      refine hK.out _ _ ?_ (fun hHeld => ?_)
      · exact s0b
      clear hK K
      try simp only [Act.put, List.setIfInBounds_toArray, List.set_cons_zero, List.set_cons_succ]
      clear s0b
      refine wpAnyH_take (i := 7) (oi := { dst := _, op := _, type := _, pos := _, after := _, guard := _ }) (v := ?_) rfl (by kernel_rfl) (by kernel_rfl) (by kernel_rfl) (fun _ _ _ h => h) (Or.inl ⟨by rfl, ?_⟩) (by assumption) ?_
      rotate_left
      · intro W hSw
        (try dsimp only at hSw)
        go_simp
        (try with_reducible rfl)
      try simp only [Act.put, List.setIfInBounds_toArray, List.set_cons_zero, List.set_cons_succ]
      refine wpAnyH_take (i := 8) (oi := { dst := _, op := _, type := _, pos := _, after := _, guard := _ }) (v := ?_) rfl (by kernel_rfl) (by kernel_rfl) (by kernel_rfl) (fun _ _ _ h => h) (Or.inl ⟨by rfl, ?_⟩) (by assumption) ?_
      rotate_left
      · intro W hSw
        (try dsimp only at hSw)
        go_simp
        (try with_reducible rfl)
      try simp only [Act.put, List.setIfInBounds_toArray, List.set_cons_zero, List.set_cons_succ]
      refine wpAnyH_ready (rs := [9]) (by kernel_rfl) (by simp) ?_
      refine AllReadyH.cons (o := { dst := _, op := _, type := _, pos := _, after := _, guard := _ }) rfl (fun K hK => ?_) AllReadyH.nil
      go_simp
      refine hK.out _ _ ?_ (fun hHeld => ?_)
      · rw [World.cell?_setCell_other _ _ _ _ (fun h => by have h2 := HBB.out.lt; first | exact absurd (show w.heap.size = T from congrArg Addr.block h) (by omega) | exact absurd (show T = w.heap.size from congrArg Addr.block h) (by omega))]; exact hHeld
      clear hK K
      try simp only [Act.put, List.setIfInBounds_toArray, List.set_cons_zero, List.set_cons_succ]
      refine wpAnyH_done (by kernel_rfl) ?_ _
      refine NoPanic.normal ?_
      clear hHeld
      go_wp2_with fail
      go_meet
      exact ⟨rfl, g', cap', HBB.out.app HRB.out (by decide) HG.out 2 _ (by first | rfl | (simp [bxC])), HBB.out.row HRB.out (by decide) HG.out (row_up HO1D.out (bel_up _ _)) (by decide) (by decide), HBB.out.got HRB.out (by decide) HG.out HO.out, HBB.out.row HRB.out (by decide) HG.out (row_up RFD.out (bel_up _ _)) (by decide) (by decide)⟩
  case rest =>
  obtain ⟨rfl, g2, k2, HM1, HO1b, HO2, RF1⟩ := hcut
  clear HM HO1 RF RQ
  have HM : Hid _ := HM1.out
  have HO1 : Hid _ := HO1b.out
  have RF : Hid _ := RF1.out
  clear HM1 HO1b RF1
  go_upto_region 6 with fail
  go_cut [7] from 65 to 75 (fun v3 wx => v3 = .pointer (some ⟨T, 0, none⟩) ∧ ∃ g c, Hid (Rmc w wx T #[.slice a1 s.ind.length c1, .int .i64 s.pen, .slice a2 s.que.length c2, .slice a3 s.frm.length c3, .int .u16 (s.flg : Int)] (.slice (some ⟨g1, 0, none⟩) s.ind.length k1) (.slice (some ⟨g2, 0, none⟩) s.que.length k2) (.slice (some ⟨g, 0, none⟩) s.frm.length c) s) ∧ Hid (wx.ownsRow w.heap.size 3 1 (.slice (some ⟨g1, 0, none⟩) (s.ind.length + 2) k1) (s.ind.length + 2) (iC s.ind ++ [.int .i64 1, .int .i64 2])) ∧ Hid (wx.ownsRow w.heap.size 9 1 (.slice (some ⟨g2, 0, none⟩) (s.que.length + 2) k2) (s.que.length + 2) (qC s.que ++ [.string ⟨#[97]⟩, .string ⟨#[98]⟩])) ∧ Hid (wx.ownsRow w.heap.size 42 2 (.slice (some ⟨g, 0, none⟩) (s.frm.length + 2) c) (s.frm.length + 2) (fC s.frm ++ [.int .i64 0, .string ⟨#[]⟩, .int .i64 0, .string ⟨#[]⟩])))
  case first =>
    obtain ⟨WD, hWD⟩ : ∃ WD, wc.drew = WD := ⟨_, rfl⟩
    have HMD : Hid (Rmc w WD T #[.slice a1 s.ind.length c1, .int .i64 s.pen, .slice a2 s.que.length c2, .slice a3 s.frm.length c3, .int .u16 (s.flg : Int)] (.slice (some ⟨g1, 0, none⟩) s.ind.length k1) (.slice (some ⟨g2, 0, none⟩) s.que.length k2) (.slice x3 s.frm.length y3) s) := by rw [← hWD]; exact HM.out.up (Below.drew (Below.refl _ _))
    have HO1D : Hid (WD.ownsRow w.heap.size 3 1 (.slice (some ⟨g1, 0, none⟩) (s.ind.length + 2) k1) (s.ind.length + 2) (iC s.ind ++ [.int .i64 1, .int .i64 2])) := by rw [← hWD]; exact row_up HO1.out (Below.drew (Below.refl _ _))
    have HO2D : Hid (WD.ownsRow w.heap.size 9 1 (.slice (some ⟨g2, 0, none⟩) (s.que.length + 2) k2) (s.que.length + 2) (qC s.que ++ [.string ⟨#[97]⟩, .string ⟨#[98]⟩])) := by rw [← hWD]; exact row_up HO2.out (Below.drew (Below.refl _ _))
    have RFD : Hid (WD.ownsRow w.heap.size 42 2 (.slice x3 s.frm.length y3) s.frm.length (fC s.frm)) := by rw [← hWD]; exact row_up RF.out (Below.drew (Below.refl _ _))
    have k0 := HMD.out.tcell 3 _ rfl
    have HSC : Hid (∀ W : World, W.heap[w.heap.size]? = some (.cells #[.slice a1 s.ind.length c1, .int .i64 s.pen, .slice a2 s.que.length c2, .slice a3 s.frm.length c3, .int .u16 (s.flg : Int)] 27 (0, 0)) → W.cell? ⟨w.heap.size, 3, none⟩ = some (.slice a3 s.frm.length c3)) := fun W hW => rcell hW 3 _ rfl
    refine wp_region_noPanic ?_
    refine wp_region_held_drew (S := fun W => W.cell? ⟨w.heap.size, 3, none⟩ = some (.slice a3 s.frm.length c3)) (by kernel_rfl) (by rw [hWD]; exact HSC.out _ HMD.out.bs) (fun hHeld => ?_)
    rw [hWD] at hHeld ⊢
    clear hWD
    refine wpAnyH_take (i := 0) (oi := { dst := _, op := _, type := _, pos := _, after := _, guard := _ }) (v := ?_) rfl (by kernel_rfl) (by kernel_rfl) (by kernel_rfl) (fun _ _ _ h => h) (Or.inl ⟨by rfl, ?_⟩) (by assumption) ?_
    rotate_left
    · intro W hSw
      (try dsimp only at hSw)
      go_simp
      (try with_reducible rfl)
    try simp only [Act.put, List.setIfInBounds_toArray, List.set_cons_zero, List.set_cons_succ]
    refine wpAnyH_take (i := 2) (oi := { dst := _, op := _, type := _, pos := _, after := _, guard := _ }) (v := ?_) rfl (by kernel_rfl) (by kernel_rfl) (by kernel_rfl) (fun _ _ _ h => h) (Or.inl ⟨by rfl, ?_⟩) (by assumption) ?_
    rotate_left
    · intro W hSw
      (try dsimp only at hSw)
      go_simp
      (try with_reducible rfl)
    try simp only [Act.put, List.setIfInBounds_toArray, List.set_cons_zero, List.set_cons_succ]
    refine wpAnyH_take (i := 3) (oi := { dst := _, op := _, type := _, pos := _, after := _, guard := _ }) (v := ?_) rfl (by kernel_rfl) (by kernel_rfl) (by kernel_rfl) (fun _ _ _ h => h) (Or.inl ⟨by rfl, ?_⟩) (by assumption) ?_
    rotate_left
    · intro W hSw
      (try dsimp only at hSw)
      go_simp
      (try with_reducible rfl)
    try simp only [Act.put, List.setIfInBounds_toArray, List.set_cons_zero, List.set_cons_succ]
    refine wpAnyH_take (i := 6) (oi := { dst := _, op := _, type := _, pos := _, after := _, guard := _ }) (v := ?_) rfl (by kernel_rfl) (by kernel_rfl) (by kernel_rfl) (fun _ _ _ h => h) (Or.inl ⟨by rfl, ?_⟩) (by assumption) ?_
    rotate_left
    · intro W hSw
      (try dsimp only at hSw)
      go_simp
      (try with_reducible rfl)
    try simp only [Act.put, List.setIfInBounds_toArray, List.set_cons_zero, List.set_cons_succ]
    refine wpAnyH_take (i := 7) (oi := { dst := _, op := _, type := _, pos := _, after := _, guard := _ }) (v := ?_) rfl (by kernel_rfl) (by kernel_rfl) (by kernel_rfl) (fun _ _ _ h => h) (Or.inl ⟨by rfl, ?_⟩) (by assumption) ?_
    rotate_left
    · intro W hSw
      (try dsimp only at hSw)
      go_simp
      (try with_reducible rfl)
    try simp only [Act.put, List.setIfInBounds_toArray, List.set_cons_zero, List.set_cons_succ]
    refine wpAnyH_take (i := 8) (oi := { dst := _, op := _, type := _, pos := _, after := _, guard := _ }) (v := ?_) rfl (by kernel_rfl) (by kernel_rfl) (by kernel_rfl) (fun _ _ _ h => h) (Or.inl ⟨by rfl, ?_⟩) (by assumption) ?_
    rotate_left
    · intro W hSw
      (try dsimp only at hSw)
      go_simp
      (try with_reducible rfl)
    try simp only [Act.put, List.setIfInBounds_toArray, List.set_cons_zero, List.set_cons_succ]
    refine wpAnyH_ready (rs := [1, 4]) (by kernel_rfl) (by simp) ?_
    refine AllReadyH.cons (o := { dst := _, op := _, type := _, pos := _, after := _, guard := _ }) rfl (fun K hK => ?_) (AllReadyH.cons (o := { dst := _, op := _, type := _, pos := _, after := _, guard := _ }) rfl (fun K hK => ?_) (AllReadyH.nil))
    · go_simp
      refine hK.out _ _ ?_ (fun hHeld => ?_)
      · exact hHeld
      clear hK K
      try simp only [Act.put, List.setIfInBounds_toArray, List.set_cons_zero, List.set_cons_succ]
      refine wpAnyH_ready (rs := [4]) (by kernel_rfl) (by simp) ?_
      refine AllReadyH.cons (o := { dst := _, op := _, type := _, pos := _, after := _, guard := _ }) rfl (fun K hK => ?_) AllReadyH.nil
      go_simp
      refine hK.out _ _ ?_ (fun hHeld => ?_)
      · exact cell_up _ hHeld
      clear hK K
      try simp only [Act.put, List.setIfInBounds_toArray, List.set_cons_zero, List.set_cons_succ]
      have HBB : Hid (Rmc w (WD.alloc (.cells #[.int .i64 0, .string ⟨#[]⟩, .int .i64 0, .string ⟨#[]⟩] 42)) T #[.slice a1 s.ind.length c1, .int .i64 s.pen, .slice a2 s.que.length c2, .slice a3 s.frm.length c3, .int .u16 (s.flg : Int)] (.slice (some ⟨g1, 0, none⟩) s.ind.length k1) (.slice (some ⟨g2, 0, none⟩) s.que.length k2) (.slice x3 s.frm.length y3) s) := HMD.out.up (bel_up _ _)
      have HRB : Hid ((WD.alloc (.cells #[.int .i64 0, .string ⟨#[]⟩, .int .i64 0, .string ⟨#[]⟩] 42)).ownsRow w.heap.size 42 2 (.slice x3 s.frm.length y3) s.frm.length (fC s.frm)) := row_up RFD.out (bel_up _ _)
      refine wpAnyH_ready (rs := [5]) (by kernel_rfl) (by simp) ?_
      refine AllReadyH.cons (o := { dst := _, op := _, type := _, pos := _, after := _, guard := _ }) rfl (fun K hK => ?_) AllReadyH.nil
      refine step_append_lies _ rfl (.tmp 66) (.tmp 69) 24 rfl w.heap.size 42 iF _ 2 24 Try.underlying24 HI54.out.1 HI54.out.2.1 HI54.out.2.2.1 HI54.out.2.2.2 rfl (by decide) (.slice x3 s.frm.length y3) _ _ rfl HRB.out ⟨WD.heap.size, 0, none⟩ 2 2 [.int .i64 0, .string ⟨#[]⟩, .int .i64 0, .string ⟨#[]⟩] rfl rfl (cell_four_new _ _ _ _ _ _) (by simp [Value.oneCell']) (by decide) (by have := HZ.out.f; unfold maxLen; omega) (by have := HZ.out.f; omega) (Nat.le_trans HBB.out.bw.size (Nat.le_refl _)) (WD.heap.size + 1) (by simp) ?_
      intro g' cap' w' h2 h3 h4 _
      have HO : Hid (w'.ownsRow w.heap.size 42 2 (.slice (some ⟨g', 0, none⟩) (s.frm.length + 2) cap') (s.frm.length + 2) (fC s.frm ++ [.int .i64 0, .string ⟨#[]⟩, .int .i64 0, .string ⟨#[]⟩])) := h2
      have HG : Hid ((WD.alloc (.cells #[.int .i64 0, .string ⟨#[]⟩, .int .i64 0, .string ⟨#[]⟩] 42)).grownBy w' (Value.ownBlock (.slice x3 s.frm.length y3))) := h3
      have k0b : w'.cell? ⟨T, 3, none⟩ = some (.slice x3 s.frm.length y3) := cel_of h3 HBB.out.bt HRB.out (by decide) rfl
      have f0b : w'.frozen? ⟨T, 3, none⟩ = false := froz_of h3 HBB.out.bt HRB.out (by decide)
      have s0b : w'.cell? ⟨w.heap.size, 3, none⟩ = some (.slice a3 s.frm.length c3) := cel_of h3 HBB.out.bs HRB.out (by decide) rfl
      have hcap : s.frm.length ≤ cap' ∧ ((s.frm.length : Nat) : Int) ≤ (cap' : Int) := by have := row_cap h2; omega
      obtain ⟨hc1, hc2⟩ := hcap
      clear h2 h3 h4 k0
      refine hK.out _ _ ?_ (fun hHeld => ?_)
      · exact s0b
      clear hK K
      try simp only [Act.put, List.setIfInBounds_toArray, List.set_cons_zero, List.set_cons_succ]
      clear s0b
      refine wpAnyH_take (i := 9) (oi := { dst := _, op := _, type := _, pos := _, after := _, guard := _ }) (v := ?_) rfl (by kernel_rfl) (by kernel_rfl) (by kernel_rfl) (fun _ _ _ h => h) (Or.inl ⟨by rfl, ?_⟩) (by assumption) ?_
      rotate_left
      · intro W hSw
        (try dsimp only at hSw)
        go_simp
        (try with_reducible rfl)
      try simp only [Act.put, List.setIfInBounds_toArray, List.set_cons_zero, List.set_cons_succ]
      refine wpAnyH_take (i := 10) (oi := { dst := _, op := _, type := _, pos := _, after := _, guard := _ }) (v := ?_) rfl (by kernel_rfl) (by kernel_rfl) (by kernel_rfl) (fun _ _ _ h => h) (Or.inl ⟨by rfl, ?_⟩) (by assumption) ?_
      rotate_left
      · intro W hSw
        (try dsimp only at hSw)
        go_simp
        (try with_reducible rfl)
      try simp only [Act.put, List.setIfInBounds_toArray, List.set_cons_zero, List.set_cons_succ]
      refine wpAnyH_ready (rs := [11]) (by kernel_rfl) (by simp) ?_
      refine AllReadyH.cons (o := { dst := _, op := _, type := _, pos := _, after := _, guard := _ }) rfl (fun K hK => ?_) AllReadyH.nil
      go_simp
      refine hK.out _ _ ?_ (fun hHeld => ?_)
      · rw [World.cell?_setCell_other _ _ _ _ (fun h => by have h2 := HBB.out.lt; first | exact absurd (show w.heap.size = T from congrArg Addr.block h) (by omega) | exact absurd (show T = w.heap.size from congrArg Addr.block h) (by omega))]; exact hHeld
      clear hK K
      try simp only [Act.put, List.setIfInBounds_toArray, List.set_cons_zero, List.set_cons_succ]
      refine wpAnyH_done (by kernel_rfl) ?_ _
      refine NoPanic.normal ?_
      clear hHeld
      go_wp2_with fail
      go_meet
      exact ⟨rfl, g', cap', HBB.out.app HRB.out (by decide) HG.out 3 _ (by first | rfl | (simp [bxC])), HBB.out.row HRB.out (by decide) HG.out (row_up HO1D.out (bel_up _ _)) (by decide) (by decide), HBB.out.row HRB.out (by decide) HG.out (row_up HO2D.out (bel_up _ _)) (by decide) (by decide), HBB.out.got HRB.out (by decide) HG.out HO.out⟩
    · go_simp
      refine hK.out _ _ ?_ (fun hHeld => ?_)
      · exact cell_up _ hHeld
      clear hK K
      try simp only [Act.put, List.setIfInBounds_toArray, List.set_cons_zero, List.set_cons_succ]
      have k0a : (WD.alloc (.cells #[.int .i64 0, .string ⟨#[]⟩, .int .i64 0, .string ⟨#[]⟩] 42)).cell? ⟨T, 3, none⟩ = some (.slice x3 s.frm.length y3) := cell_up _ k0
      refine wpAnyH_ready (rs := [1]) (by kernel_rfl) (by simp) ?_
      refine AllReadyH.cons (o := { dst := _, op := _, type := _, pos := _, after := _, guard := _ }) rfl (fun K hK => ?_) AllReadyH.nil
      go_simp
      refine hK.out _ _ ?_ (fun hHeld => ?_)
      · exact hHeld
      clear hK K
      try simp only [Act.put, List.setIfInBounds_toArray, List.set_cons_zero, List.set_cons_succ]
      have HBB : Hid (Rmc w (WD.alloc (.cells #[.int .i64 0, .string ⟨#[]⟩, .int .i64 0, .string ⟨#[]⟩] 42)) T #[.slice a1 s.ind.length c1, .int .i64 s.pen, .slice a2 s.que.length c2, .slice a3 s.frm.length c3, .int .u16 (s.flg : Int)] (.slice (some ⟨g1, 0, none⟩) s.ind.length k1) (.slice (some ⟨g2, 0, none⟩) s.que.length k2) (.slice x3 s.frm.length y3) s) := HMD.out.up (bel_up _ _)
      have HRB : Hid ((WD.alloc (.cells #[.int .i64 0, .string ⟨#[]⟩, .int .i64 0, .string ⟨#[]⟩] 42)).ownsRow w.heap.size 42 2 (.slice x3 s.frm.length y3) s.frm.length (fC s.frm)) := row_up RFD.out (bel_up _ _)
      refine wpAnyH_ready (rs := [5]) (by kernel_rfl) (by simp) ?_
      refine AllReadyH.cons (o := { dst := _, op := _, type := _, pos := _, after := _, guard := _ }) rfl (fun K hK => ?_) AllReadyH.nil
      refine step_append_lies _ rfl (.tmp 66) (.tmp 69) 24 rfl w.heap.size 42 iF _ 2 24 Try.underlying24 HI54.out.1 HI54.out.2.1 HI54.out.2.2.1 HI54.out.2.2.2 rfl (by decide) (.slice x3 s.frm.length y3) _ _ rfl HRB.out ⟨WD.heap.size, 0, none⟩ 2 2 [.int .i64 0, .string ⟨#[]⟩, .int .i64 0, .string ⟨#[]⟩] rfl rfl (cell_four_new _ _ _ _ _ _) (by simp [Value.oneCell']) (by decide) (by have := HZ.out.f; unfold maxLen; omega) (by have := HZ.out.f; omega) (Nat.le_trans HBB.out.bw.size (Nat.le_refl _)) (WD.heap.size + 1) (by simp) ?_
      intro g' cap' w' h2 h3 h4 _
      have HO : Hid (w'.ownsRow w.heap.size 42 2 (.slice (some ⟨g', 0, none⟩) (s.frm.length + 2) cap') (s.frm.length + 2) (fC s.frm ++ [.int .i64 0, .string ⟨#[]⟩, .int .i64 0, .string ⟨#[]⟩])) := h2
      have HG : Hid ((WD.alloc (.cells #[.int .i64 0, .string ⟨#[]⟩, .int .i64 0, .string ⟨#[]⟩] 42)).grownBy w' (Value.ownBlock (.slice x3 s.frm.length y3))) := h3
      have k0b : w'.cell? ⟨T, 3, none⟩ = some (.slice x3 s.frm.length y3) := cel_of h3 HBB.out.bt HRB.out (by decide) rfl
      have f0b : w'.frozen? ⟨T, 3, none⟩ = false := froz_of h3 HBB.out.bt HRB.out (by decide)
      have s0b : w'.cell? ⟨w.heap.size, 3, none⟩ = some (.slice a3 s.frm.length c3) := cel_of h3 HBB.out.bs HRB.out (by decide) rfl
      have hcap : s.frm.length ≤ cap' ∧ ((s.frm.length : Nat) : Int) ≤ (cap' : Int) := by have := row_cap h2; omega
      obtain ⟨hc1, hc2⟩ := hcap
      clear h2 h3 h4 k0
      refine hK.out _ _ ?_ (fun hHeld => ?_)
      · exact s0b
      clear hK K
      try simp only [Act.put, List.setIfInBounds_toArray, List.set_cons_zero, List.set_cons_succ]
      clear s0b
      refine wpAnyH_take (i := 9) (oi := { dst := _, op := _, type := _, pos := _, after := _, guard := _ }) (v := ?_) rfl (by kernel_rfl) (by kernel_rfl) (by kernel_rfl) (fun _ _ _ h => h) (Or.inl ⟨by rfl, ?_⟩) (by assumption) ?_
      rotate_left
      · intro W hSw
        (try dsimp only at hSw)
        go_simp
        (try with_reducible rfl)
      try simp only [Act.put, List.setIfInBounds_toArray, List.set_cons_zero, List.set_cons_succ]
      refine wpAnyH_take (i := 10) (oi := { dst := _, op := _, type := _, pos := _, after := _, guard := _ }) (v := ?_) rfl (by kernel_rfl) (by kernel_rfl) (by kernel_rfl) (fun _ _ _ h => h) (Or.inl ⟨by rfl, ?_⟩) (by assumption) ?_
      rotate_left
      · intro W hSw
        (try dsimp only at hSw)
        go_simp
        (try with_reducible rfl)
      try simp only [Act.put, List.setIfInBounds_toArray, List.set_cons_zero, List.set_cons_succ]
      refine wpAnyH_ready (rs := [11]) (by kernel_rfl) (by simp) ?_
      refine AllReadyH.cons (o := { dst := _, op := _, type := _, pos := _, after := _, guard := _ }) rfl (fun K hK => ?_) AllReadyH.nil
      go_simp
      refine hK.out _ _ ?_ (fun hHeld => ?_)
      · rw [World.cell?_setCell_other _ _ _ _ (fun h => by have h2 := HBB.out.lt; first | exact absurd (show w.heap.size = T from congrArg Addr.block h) (by omega) | exact absurd (show T = w.heap.size from congrArg Addr.block h) (by omega))]; exact hHeld
      clear hK K
      try simp only [Act.put, List.setIfInBounds_toArray, List.set_cons_zero, List.set_cons_succ]
      refine wpAnyH_done (by kernel_rfl) ?_ _
      refine NoPanic.normal ?_
      clear hHeld
      go_wp2_with fail
      go_meet
      exact ⟨rfl, g', cap', HBB.out.app HRB.out (by decide) HG.out 3 _ (by first | rfl | (simp [bxC])), HBB.out.row HRB.out (by decide) HG.out (row_up HO1D.out (bel_up _ _)) (by decide) (by decide), HBB.out.row HRB.out (by decide) HG.out (row_up HO2D.out (bel_up _ _)) (by decide) (by decide), HBB.out.got HRB.out (by decide) HG.out HO.out⟩
  case rest =>
  obtain ⟨rfl, g3, k3, HM1, HO1b, HO2b, HO3⟩ := hcut
  clear HM HO1 HO2 RF
  have R_1 : Hid (wc.ownsRow w.heap.size 3 1 (.slice (some ⟨g1, 0, none⟩) (s.ind.length + 2) k1) (s.ind.length + 2) (iC s.ind ++ [.int .i64 1, .int .i64 2]) ∧ wc.ownsRow w.heap.size 9 1 (.slice (some ⟨g2, 0, none⟩) (s.que.length + 2) k2) (s.que.length + 2) (qC s.que ++ [.string ⟨#[97]⟩, .string ⟨#[98]⟩]) ∧ wc.ownsRow w.heap.size 42 2 (.slice (some ⟨g3, 0, none⟩) (s.frm.length + 2) k3) (s.frm.length + 2) (fC s.frm ++ [.int .i64 0, .string ⟨#[]⟩, .int .i64 0, .string ⟨#[]⟩])) := ⟨HO1b.out, HO2b.out, HO3.out⟩
  have ZR : Hid (wc.ownsRow w.heap.size 3 1 (.slice (some ⟨g1, 0, none⟩) (s.ind.length + 2) k1) (s.ind.length + 2) (iC s.ind ++ [.int .i64 1, .int .i64 2]) ∧ wc.ownsRow w.heap.size 9 1 (.slice (some ⟨g2, 0, none⟩) (s.que.length + 2) k2) (s.que.length + 2) (qC s.que ++ [.string ⟨#[97]⟩, .string ⟨#[98]⟩]) ∧ wc.ownsRow w.heap.size 42 2 (.slice (some ⟨g3, 0, none⟩) (s.frm.length + 2) k3) (s.frm.length + 2) (fC s.frm ++ [.int .i64 0, .string ⟨#[]⟩, .int .i64 0, .string ⟨#[]⟩])) := ⟨HO1b.out, HO2b.out, HO3.out⟩
  have BW_2 : Hid (Below w.heap.size w wc) := HM1.out.bw
  have PS_3 : Hid (wc.heap[w.heap.size]? = some (.cells #[.slice a1 s.ind.length c1, .int .i64 s.pen, .slice a2 s.que.length c2, .slice a3 s.frm.length c3, .int .u16 (s.flg : Int)] 27 (0, 0))) := HM1.out.bs
  have PX_4 : Hid (wc.heap[T]? = some (.cells #[.slice (some ⟨g1, 0, none⟩) s.ind.length k1, .int .i64 s.pen, .slice (some ⟨g2, 0, none⟩) s.que.length k2, .slice (some ⟨g3, 0, none⟩) s.frm.length k3, .int .u16 (s.flg : Int)] 27 (0, 0))) := HM1.out.bt
  have S_5 : Hid (Stm wc (.slice a1 s.ind.length c1) (.slice a2 s.que.length c2) (.slice a3 s.frm.length c3) s) := HS.out.up HM1.out.bw
  have Ll_6 : Hid (Rw wc (.slice av_ l.length cv_) l.length (aC l)) := HA.out.up HM1.out.bw
  have HTC : Hid (w.heap.size < T ∧ T < wc.heap.size) := ⟨HM1.out.lt, lt_of_heap HM1.out.bt⟩
  clear HO1b HO2b HO3 HM1
  obtain ⟨t, E, htl, hrd, hpd⟩ := alls_both (s := s) (l := l) m HMM.out.2.1 (fun d hd => by have := HZ.out.t d hd; omega) (by have := HMM.out.2.2; omega) HMM.out.1
  have HTL : Hid (t.ind.length ≤ 32 ∧ t.que.length ≤ 8 ∧ t.frm.length ≤ 16) := htl
  have PD : Hid (∀ vi vq vf va W, Stm W vi vq vf s → Rw W va l.length (aC l) → Calls Try.prog 6 #[sv vi vq vf s, va, .string m] W fun e w' => ∃ ui uq uf, e = .returned (.tuple #[sv ui uq uf t, .int .i64 E]) ∧ Own W.heap.size w' ui uq uf t ∧ Below W.heap.size W w') := hpd
  have ne1 : (E != E) = false := by simp
  have ne2 : (E == E) = true := by simp
  clear htl hrd hpd
  obtain ⟨N, G, H, D, hgh, hdl, hen, hde⟩ := enc_dec (s := s) rfl rfl HMM.out.2.1
  have HGH : Hid (G = 0 → H = 0) := hgh
  have HDL : Hid (D.ind.length ≤ 32 ∧ D.que.length ≤ 8 ∧ D.frm.length ≤ 16) := hdl
  have EN : Hid (∀ vi vq vf W, Stm W vi vq vf s → Calls Try.prog 12 #[sv vi vq vf s] W fun e w' => e = .returned (.tuple #[.string N, .int .i64 G]) ∧ Below W.heap.size W w') := hen
  have DE : Hid (∀ W, Calls Try.prog 13 #[.string N] W fun e w' => ∃ ui uq uf, e = .returned (.tuple #[sv ui uq uf D, .int .i64 H]) ∧ Own W.heap.size w' ui uq uf D ∧ Below W.heap.size W w') := hde
  have ne3 : (H != H) = false := by simp
  clear hgh hdl hen hde
  go_upto_region 7 with fail
  obtain ⟨p0, p1, p2, p3, p4⟩ := box_cells PX_4.out
  go_wp2_with fail
  refine (PD.out _ _ _ _ wc (own_of_rows R_1.out.1 R_1.out.2.1 R_1.out.2.2).stm Ll_6.out).mono ?_
  rintro e z1 ⟨vi9, vq9, vf9, rfl, ho9, hb9⟩
  obtain ⟨ba1, bac1, ba2, bac2, ba3, bac3, rfl, rfl, rfl⟩ := ho9.stm.form
  clear p0 p1 p2 p3 p4
  have hb := hb9
  have R_7 : Hid (z1.ownsRow w.heap.size 3 1 (.slice (some ⟨g1, 0, none⟩) (s.ind.length + 2) k1) (s.ind.length + 2) (iC s.ind ++ [.int .i64 1, .int .i64 2]) ∧ z1.ownsRow w.heap.size 9 1 (.slice (some ⟨g2, 0, none⟩) (s.que.length + 2) k2) (s.que.length + 2) (qC s.que ++ [.string ⟨#[97]⟩, .string ⟨#[98]⟩]) ∧ z1.ownsRow w.heap.size 42 2 (.slice (some ⟨g3, 0, none⟩) (s.frm.length + 2) k3) (s.frm.length + 2) (fC s.frm ++ [.int .i64 0, .string ⟨#[]⟩, .int .i64 0, .string ⟨#[]⟩])) := ⟨row_up R_1.out.1 hb, row_up R_1.out.2.1 hb, row_up R_1.out.2.2 hb⟩
  have BW_7 : Hid (Below w.heap.size w z1) := below_trans BW_2.out hb
  have PS_7 : Hid (z1.heap[w.heap.size]? = some (.cells #[.slice a1 s.ind.length c1, .int .i64 s.pen, .slice a2 s.que.length c2, .slice a3 s.frm.length c3, .int .u16 (s.flg : Int)] 27 (0, 0))) := (hb.block _ (lt_of_heap PS_3.out)).trans PS_3.out
  have PX_7 : Hid (z1.heap[T]? = some (.cells #[.slice (some ⟨g1, 0, none⟩) s.ind.length k1, .int .i64 s.pen, .slice (some ⟨g2, 0, none⟩) s.que.length k2, .slice (some ⟨g3, 0, none⟩) s.frm.length k3, .int .u16 (s.flg : Int)] 27 (0, 0))) := (hb.block _ (lt_of_heap PX_4.out)).trans PX_4.out
  have S_7 : Hid (Stm z1 (.slice a1 s.ind.length c1) (.slice a2 s.que.length c2) (.slice a3 s.frm.length c3) s) := S_5.out.up hb
  have Ll_7 : Hid (Rw z1 (.slice av_ l.length cv_) l.length (aC l)) := Ll_6.out.up hb
  clear hb R_1 BW_2 PS_3 PX_4 S_5 Ll_6
  obtain ⟨Wz1, hW9⟩ : ∃ Wz1, Wz1 = z1.alloc (.cells #[.slice ba1 t.ind.length bac1, .int .i64 t.pen, .slice ba2 t.que.length bac2, .slice ba3 t.frm.length bac3, .int .u16 (t.flg : Int)] 27) := ⟨_, rfl⟩
  have HWz1 : Hid (Wz1 = z1.alloc (.cells #[.slice ba1 t.ind.length bac1, .int .i64 t.pen, .slice ba2 t.que.length bac2, .slice ba3 t.frm.length bac3, .int .u16 (t.flg : Int)] 27)) := hW9
  have OS_Aa : Hid (wc.heap.size ≤ z1.heap.size) := hb9.size
  have ZAa : Hid (Own wc.heap.size z1 (.slice ba1 t.ind.length bac1) (.slice ba2 t.que.length bac2) (.slice ba3 t.frm.length bac3) t) := ho9
  have Aa_8 : Hid (Own wc.heap.size z1 (.slice ba1 t.ind.length bac1) (.slice ba2 t.que.length bac2) (.slice ba3 t.frm.length bac3) t) := ho9
  clear ho9 hb9
  have hba : Below z1.heap.size z1 Wz1 := by rw [hW9]; exact bel_up _ _
  have hb := hba
  have R_9 : Hid (Wz1.ownsRow w.heap.size 3 1 (.slice (some ⟨g1, 0, none⟩) (s.ind.length + 2) k1) (s.ind.length + 2) (iC s.ind ++ [.int .i64 1, .int .i64 2]) ∧ Wz1.ownsRow w.heap.size 9 1 (.slice (some ⟨g2, 0, none⟩) (s.que.length + 2) k2) (s.que.length + 2) (qC s.que ++ [.string ⟨#[97]⟩, .string ⟨#[98]⟩]) ∧ Wz1.ownsRow w.heap.size 42 2 (.slice (some ⟨g3, 0, none⟩) (s.frm.length + 2) k3) (s.frm.length + 2) (fC s.frm ++ [.int .i64 0, .string ⟨#[]⟩, .int .i64 0, .string ⟨#[]⟩])) := ⟨row_up R_7.out.1 hb, row_up R_7.out.2.1 hb, row_up R_7.out.2.2 hb⟩
  have BW_9 : Hid (Below w.heap.size w Wz1) := below_trans BW_7.out hb
  have PS_9 : Hid (Wz1.heap[w.heap.size]? = some (.cells #[.slice a1 s.ind.length c1, .int .i64 s.pen, .slice a2 s.que.length c2, .slice a3 s.frm.length c3, .int .u16 (s.flg : Int)] 27 (0, 0))) := (hb.block _ (lt_of_heap PS_7.out)).trans PS_7.out
  have PX_9 : Hid (Wz1.heap[T]? = some (.cells #[.slice (some ⟨g1, 0, none⟩) s.ind.length k1, .int .i64 s.pen, .slice (some ⟨g2, 0, none⟩) s.que.length k2, .slice (some ⟨g3, 0, none⟩) s.frm.length k3, .int .u16 (s.flg : Int)] 27 (0, 0))) := (hb.block _ (lt_of_heap PX_7.out)).trans PX_7.out
  have S_9 : Hid (Stm Wz1 (.slice a1 s.ind.length c1) (.slice a2 s.que.length c2) (.slice a3 s.frm.length c3) s) := S_7.out.up hb
  have Ll_9 : Hid (Rw Wz1 (.slice av_ l.length cv_) l.length (aC l)) := Ll_7.out.up hb
  have Aa_9 : Hid (Own wc.heap.size Wz1 (.slice ba1 t.ind.length bac1) (.slice ba2 t.que.length bac2) (.slice ba3 t.frm.length bac3) t) := Aa_8.out.up hb
  clear hb R_7 BW_7 PS_7 PX_7 S_7 Ll_7 Aa_8
  have QA_10 : Hid (Wz1.heap[z1.heap.size]? = some (.cells #[.slice ba1 t.ind.length bac1, .int .i64 t.pen, .slice ba2 t.que.length bac2, .slice ba3 t.frm.length bac3, .int .u16 (t.flg : Int)] 27 (0, 0))) := by rw [hW9]; exact heap_new z1 _
  have L_z1_11 : Hid (z1.heap.size < Wz1.heap.size) := by rw [hW9, World.size_alloc]; exact Nat.lt_succ_self _
  clear hW9 hba
  go_upto_region 8 with fail
  rw [← HWz1.out]
  obtain ⟨p0, p1, p2, p3, p4⟩ := box_cells PX_9.out
  have ML_z1_Bb : Hid (z1.heap.size < Wz1.heap.size) := L_z1_11.out
  go_wp2_with fail
  refine (PD.out _ _ _ _ Wz1 (own_of_rows R_9.out.1 R_9.out.2.1 R_9.out.2.2).stm Ll_9.out).mono ?_
  rintro e z2 ⟨vi9, vq9, vf9, rfl, ho9, hb9⟩
  obtain ⟨bb1, bbc1, bb2, bbc2, bb3, bbc3, rfl, rfl, rfl⟩ := ho9.stm.form
  clear p0 p1 p2 p3 p4
  have hb := hb9
  have R_12 : Hid (z2.ownsRow w.heap.size 3 1 (.slice (some ⟨g1, 0, none⟩) (s.ind.length + 2) k1) (s.ind.length + 2) (iC s.ind ++ [.int .i64 1, .int .i64 2]) ∧ z2.ownsRow w.heap.size 9 1 (.slice (some ⟨g2, 0, none⟩) (s.que.length + 2) k2) (s.que.length + 2) (qC s.que ++ [.string ⟨#[97]⟩, .string ⟨#[98]⟩]) ∧ z2.ownsRow w.heap.size 42 2 (.slice (some ⟨g3, 0, none⟩) (s.frm.length + 2) k3) (s.frm.length + 2) (fC s.frm ++ [.int .i64 0, .string ⟨#[]⟩, .int .i64 0, .string ⟨#[]⟩])) := ⟨row_up R_9.out.1 hb, row_up R_9.out.2.1 hb, row_up R_9.out.2.2 hb⟩
  have BW_12 : Hid (Below w.heap.size w z2) := below_trans BW_9.out hb
  have PS_12 : Hid (z2.heap[w.heap.size]? = some (.cells #[.slice a1 s.ind.length c1, .int .i64 s.pen, .slice a2 s.que.length c2, .slice a3 s.frm.length c3, .int .u16 (s.flg : Int)] 27 (0, 0))) := (hb.block _ (lt_of_heap PS_9.out)).trans PS_9.out
  have PX_12 : Hid (z2.heap[T]? = some (.cells #[.slice (some ⟨g1, 0, none⟩) s.ind.length k1, .int .i64 s.pen, .slice (some ⟨g2, 0, none⟩) s.que.length k2, .slice (some ⟨g3, 0, none⟩) s.frm.length k3, .int .u16 (s.flg : Int)] 27 (0, 0))) := (hb.block _ (lt_of_heap PX_9.out)).trans PX_9.out
  have S_12 : Hid (Stm z2 (.slice a1 s.ind.length c1) (.slice a2 s.que.length c2) (.slice a3 s.frm.length c3) s) := S_9.out.up hb
  have Ll_12 : Hid (Rw z2 (.slice av_ l.length cv_) l.length (aC l)) := Ll_9.out.up hb
  have Aa_12 : Hid (Own wc.heap.size z2 (.slice ba1 t.ind.length bac1) (.slice ba2 t.que.length bac2) (.slice ba3 t.frm.length bac3) t) := Aa_9.out.up hb
  have QA_12 : Hid (z2.heap[z1.heap.size]? = some (.cells #[.slice ba1 t.ind.length bac1, .int .i64 t.pen, .slice ba2 t.que.length bac2, .slice ba3 t.frm.length bac3, .int .u16 (t.flg : Int)] 27 (0, 0))) := (hb.block _ (lt_of_heap QA_10.out)).trans QA_10.out
  have L_z1_12 : Hid (z1.heap.size < z2.heap.size) := Nat.lt_of_lt_of_le L_z1_11.out hb.size
  clear hb R_9 BW_9 PS_9 PX_9 S_9 Ll_9 Aa_9 QA_10 L_z1_11
  have OL_z1_z2 : Hid (z1.heap.size < z2.heap.size) := L_z1_12.out
  obtain ⟨Wz2, hW9⟩ : ∃ Wz2, Wz2 = z2.alloc (.cells #[.slice bb1 t.ind.length bbc1, .int .i64 t.pen, .slice bb2 t.que.length bbc2, .slice bb3 t.frm.length bbc3, .int .u16 (t.flg : Int)] 27) := ⟨_, rfl⟩
  have HWz2 : Hid (Wz2 = z2.alloc (.cells #[.slice bb1 t.ind.length bbc1, .int .i64 t.pen, .slice bb2 t.que.length bbc2, .slice bb3 t.frm.length bbc3, .int .u16 (t.flg : Int)] 27)) := hW9
  have OS_Bb : Hid (Wz1.heap.size ≤ z2.heap.size) := hb9.size
  have ZBb : Hid (Own Wz1.heap.size z2 (.slice bb1 t.ind.length bbc1) (.slice bb2 t.que.length bbc2) (.slice bb3 t.frm.length bbc3) t) := ho9
  have Bb_13 : Hid (Own Wz1.heap.size z2 (.slice bb1 t.ind.length bbc1) (.slice bb2 t.que.length bbc2) (.slice bb3 t.frm.length bbc3) t) := ho9
  clear ho9 hb9
  have hba : Below z2.heap.size z2 Wz2 := by rw [hW9]; exact bel_up _ _
  have hb := hba
  have R_14 : Hid (Wz2.ownsRow w.heap.size 3 1 (.slice (some ⟨g1, 0, none⟩) (s.ind.length + 2) k1) (s.ind.length + 2) (iC s.ind ++ [.int .i64 1, .int .i64 2]) ∧ Wz2.ownsRow w.heap.size 9 1 (.slice (some ⟨g2, 0, none⟩) (s.que.length + 2) k2) (s.que.length + 2) (qC s.que ++ [.string ⟨#[97]⟩, .string ⟨#[98]⟩]) ∧ Wz2.ownsRow w.heap.size 42 2 (.slice (some ⟨g3, 0, none⟩) (s.frm.length + 2) k3) (s.frm.length + 2) (fC s.frm ++ [.int .i64 0, .string ⟨#[]⟩, .int .i64 0, .string ⟨#[]⟩])) := ⟨row_up R_12.out.1 hb, row_up R_12.out.2.1 hb, row_up R_12.out.2.2 hb⟩
  have BW_14 : Hid (Below w.heap.size w Wz2) := below_trans BW_12.out hb
  have PS_14 : Hid (Wz2.heap[w.heap.size]? = some (.cells #[.slice a1 s.ind.length c1, .int .i64 s.pen, .slice a2 s.que.length c2, .slice a3 s.frm.length c3, .int .u16 (s.flg : Int)] 27 (0, 0))) := (hb.block _ (lt_of_heap PS_12.out)).trans PS_12.out
  have PX_14 : Hid (Wz2.heap[T]? = some (.cells #[.slice (some ⟨g1, 0, none⟩) s.ind.length k1, .int .i64 s.pen, .slice (some ⟨g2, 0, none⟩) s.que.length k2, .slice (some ⟨g3, 0, none⟩) s.frm.length k3, .int .u16 (s.flg : Int)] 27 (0, 0))) := (hb.block _ (lt_of_heap PX_12.out)).trans PX_12.out
  have S_14 : Hid (Stm Wz2 (.slice a1 s.ind.length c1) (.slice a2 s.que.length c2) (.slice a3 s.frm.length c3) s) := S_12.out.up hb
  have Ll_14 : Hid (Rw Wz2 (.slice av_ l.length cv_) l.length (aC l)) := Ll_12.out.up hb
  have Aa_14 : Hid (Own wc.heap.size Wz2 (.slice ba1 t.ind.length bac1) (.slice ba2 t.que.length bac2) (.slice ba3 t.frm.length bac3) t) := Aa_12.out.up hb
  have QA_14 : Hid (Wz2.heap[z1.heap.size]? = some (.cells #[.slice ba1 t.ind.length bac1, .int .i64 t.pen, .slice ba2 t.que.length bac2, .slice ba3 t.frm.length bac3, .int .u16 (t.flg : Int)] 27 (0, 0))) := (hb.block _ (lt_of_heap QA_12.out)).trans QA_12.out
  have L_z1_14 : Hid (z1.heap.size < Wz2.heap.size) := Nat.lt_of_lt_of_le L_z1_12.out hb.size
  have Bb_14 : Hid (Own Wz1.heap.size Wz2 (.slice bb1 t.ind.length bbc1) (.slice bb2 t.que.length bbc2) (.slice bb3 t.frm.length bbc3) t) := Bb_13.out.up hb
  clear hb R_12 BW_12 PS_12 PX_12 S_12 Ll_12 Aa_12 QA_12 L_z1_12 Bb_13
  have QB_15 : Hid (Wz2.heap[z2.heap.size]? = some (.cells #[.slice bb1 t.ind.length bbc1, .int .i64 t.pen, .slice bb2 t.que.length bbc2, .slice bb3 t.frm.length bbc3, .int .u16 (t.flg : Int)] 27 (0, 0))) := by rw [hW9]; exact heap_new z2 _
  have L_z2_16 : Hid (z2.heap.size < Wz2.heap.size) := by rw [hW9, World.size_alloc]; exact Nat.lt_succ_self _
  clear hW9 hba
  go_upto_region 9 with fail
  rw [← HWz2.out]
  obtain ⟨p0, p1, p2, p3, p4⟩ := box_cells QA_14.out
  have ML_z1_Ww : Hid (z1.heap.size < Wz2.heap.size) := L_z1_14.out
  have ML_z2_Ww : Hid (z2.heap.size < Wz2.heap.size) := L_z2_16.out
  go_wp2_with fail
  refine (twin_as Wz2 Aa_14.out.stm rfl rfl (by have := HTL.out; omega) (by have := HTL.out; omega) (by have := HTL.out; omega)).mono ?_
  rintro e z3 ⟨vi9, vq9, vf9, rfl, ho9, hb9⟩
  obtain ⟨bc1, bcc1, bc2, bcc2, bc3, bcc3, rfl, rfl, rfl⟩ := ho9.stm.form
  clear p0 p1 p2 p3 p4
  have hb := hb9
  have R_17 : Hid (z3.ownsRow w.heap.size 3 1 (.slice (some ⟨g1, 0, none⟩) (s.ind.length + 2) k1) (s.ind.length + 2) (iC s.ind ++ [.int .i64 1, .int .i64 2]) ∧ z3.ownsRow w.heap.size 9 1 (.slice (some ⟨g2, 0, none⟩) (s.que.length + 2) k2) (s.que.length + 2) (qC s.que ++ [.string ⟨#[97]⟩, .string ⟨#[98]⟩]) ∧ z3.ownsRow w.heap.size 42 2 (.slice (some ⟨g3, 0, none⟩) (s.frm.length + 2) k3) (s.frm.length + 2) (fC s.frm ++ [.int .i64 0, .string ⟨#[]⟩, .int .i64 0, .string ⟨#[]⟩])) := ⟨row_up R_14.out.1 hb, row_up R_14.out.2.1 hb, row_up R_14.out.2.2 hb⟩
  have BW_17 : Hid (Below w.heap.size w z3) := below_trans BW_14.out hb
  have PS_17 : Hid (z3.heap[w.heap.size]? = some (.cells #[.slice a1 s.ind.length c1, .int .i64 s.pen, .slice a2 s.que.length c2, .slice a3 s.frm.length c3, .int .u16 (s.flg : Int)] 27 (0, 0))) := (hb.block _ (lt_of_heap PS_14.out)).trans PS_14.out
  have PX_17 : Hid (z3.heap[T]? = some (.cells #[.slice (some ⟨g1, 0, none⟩) s.ind.length k1, .int .i64 s.pen, .slice (some ⟨g2, 0, none⟩) s.que.length k2, .slice (some ⟨g3, 0, none⟩) s.frm.length k3, .int .u16 (s.flg : Int)] 27 (0, 0))) := (hb.block _ (lt_of_heap PX_14.out)).trans PX_14.out
  have S_17 : Hid (Stm z3 (.slice a1 s.ind.length c1) (.slice a2 s.que.length c2) (.slice a3 s.frm.length c3) s) := S_14.out.up hb
  have Ll_17 : Hid (Rw z3 (.slice av_ l.length cv_) l.length (aC l)) := Ll_14.out.up hb
  have Aa_17 : Hid (Own wc.heap.size z3 (.slice ba1 t.ind.length bac1) (.slice ba2 t.que.length bac2) (.slice ba3 t.frm.length bac3) t) := Aa_14.out.up hb
  have QA_17 : Hid (z3.heap[z1.heap.size]? = some (.cells #[.slice ba1 t.ind.length bac1, .int .i64 t.pen, .slice ba2 t.que.length bac2, .slice ba3 t.frm.length bac3, .int .u16 (t.flg : Int)] 27 (0, 0))) := (hb.block _ (lt_of_heap QA_14.out)).trans QA_14.out
  have L_z1_17 : Hid (z1.heap.size < z3.heap.size) := Nat.lt_of_lt_of_le L_z1_14.out hb.size
  have Bb_17 : Hid (Own Wz1.heap.size z3 (.slice bb1 t.ind.length bbc1) (.slice bb2 t.que.length bbc2) (.slice bb3 t.frm.length bbc3) t) := Bb_14.out.up hb
  have QB_17 : Hid (z3.heap[z2.heap.size]? = some (.cells #[.slice bb1 t.ind.length bbc1, .int .i64 t.pen, .slice bb2 t.que.length bbc2, .slice bb3 t.frm.length bbc3, .int .u16 (t.flg : Int)] 27 (0, 0))) := (hb.block _ (lt_of_heap QB_15.out)).trans QB_15.out
  have L_z2_17 : Hid (z2.heap.size < z3.heap.size) := Nat.lt_of_lt_of_le L_z2_16.out hb.size
  clear hb R_14 BW_14 PS_14 PX_14 S_14 Ll_14 Aa_14 QA_14 L_z1_14 Bb_14 QB_15 L_z2_16
  have OL_z1_z3 : Hid (z1.heap.size < z3.heap.size) := L_z1_17.out
  have OL_z2_z3 : Hid (z2.heap.size < z3.heap.size) := L_z2_17.out
  obtain ⟨Wz3, hW9⟩ : ∃ Wz3, Wz3 = z3.alloc (.cells #[.slice bc1 t.ind.length bcc1, .int .i64 t.pen, .slice bc2 t.que.length bcc2, .slice bc3 t.frm.length bcc3, .int .u16 (t.flg : Int)] 27) := ⟨_, rfl⟩
  have HWz3 : Hid (Wz3 = z3.alloc (.cells #[.slice bc1 t.ind.length bcc1, .int .i64 t.pen, .slice bc2 t.que.length bcc2, .slice bc3 t.frm.length bcc3, .int .u16 (t.flg : Int)] 27)) := hW9
  have OS_Ww : Hid (Wz2.heap.size ≤ z3.heap.size) := hb9.size
  have ZWw : Hid (Own Wz2.heap.size z3 (.slice bc1 t.ind.length bcc1) (.slice bc2 t.que.length bcc2) (.slice bc3 t.frm.length bcc3) t) := ho9
  have Ww_18 : Hid (Own Wz2.heap.size z3 (.slice bc1 t.ind.length bcc1) (.slice bc2 t.que.length bcc2) (.slice bc3 t.frm.length bcc3) t) := ho9
  clear ho9 hb9
  have hba : Below z3.heap.size z3 Wz3 := by rw [hW9]; exact bel_up _ _
  have hb := hba
  have R_19 : Hid (Wz3.ownsRow w.heap.size 3 1 (.slice (some ⟨g1, 0, none⟩) (s.ind.length + 2) k1) (s.ind.length + 2) (iC s.ind ++ [.int .i64 1, .int .i64 2]) ∧ Wz3.ownsRow w.heap.size 9 1 (.slice (some ⟨g2, 0, none⟩) (s.que.length + 2) k2) (s.que.length + 2) (qC s.que ++ [.string ⟨#[97]⟩, .string ⟨#[98]⟩]) ∧ Wz3.ownsRow w.heap.size 42 2 (.slice (some ⟨g3, 0, none⟩) (s.frm.length + 2) k3) (s.frm.length + 2) (fC s.frm ++ [.int .i64 0, .string ⟨#[]⟩, .int .i64 0, .string ⟨#[]⟩])) := ⟨row_up R_17.out.1 hb, row_up R_17.out.2.1 hb, row_up R_17.out.2.2 hb⟩
  have BW_19 : Hid (Below w.heap.size w Wz3) := below_trans BW_17.out hb
  have PS_19 : Hid (Wz3.heap[w.heap.size]? = some (.cells #[.slice a1 s.ind.length c1, .int .i64 s.pen, .slice a2 s.que.length c2, .slice a3 s.frm.length c3, .int .u16 (s.flg : Int)] 27 (0, 0))) := (hb.block _ (lt_of_heap PS_17.out)).trans PS_17.out
  have PX_19 : Hid (Wz3.heap[T]? = some (.cells #[.slice (some ⟨g1, 0, none⟩) s.ind.length k1, .int .i64 s.pen, .slice (some ⟨g2, 0, none⟩) s.que.length k2, .slice (some ⟨g3, 0, none⟩) s.frm.length k3, .int .u16 (s.flg : Int)] 27 (0, 0))) := (hb.block _ (lt_of_heap PX_17.out)).trans PX_17.out
  have S_19 : Hid (Stm Wz3 (.slice a1 s.ind.length c1) (.slice a2 s.que.length c2) (.slice a3 s.frm.length c3) s) := S_17.out.up hb
  have Ll_19 : Hid (Rw Wz3 (.slice av_ l.length cv_) l.length (aC l)) := Ll_17.out.up hb
  have Aa_19 : Hid (Own wc.heap.size Wz3 (.slice ba1 t.ind.length bac1) (.slice ba2 t.que.length bac2) (.slice ba3 t.frm.length bac3) t) := Aa_17.out.up hb
  have QA_19 : Hid (Wz3.heap[z1.heap.size]? = some (.cells #[.slice ba1 t.ind.length bac1, .int .i64 t.pen, .slice ba2 t.que.length bac2, .slice ba3 t.frm.length bac3, .int .u16 (t.flg : Int)] 27 (0, 0))) := (hb.block _ (lt_of_heap QA_17.out)).trans QA_17.out
  have L_z1_19 : Hid (z1.heap.size < Wz3.heap.size) := Nat.lt_of_lt_of_le L_z1_17.out hb.size
  have Bb_19 : Hid (Own Wz1.heap.size Wz3 (.slice bb1 t.ind.length bbc1) (.slice bb2 t.que.length bbc2) (.slice bb3 t.frm.length bbc3) t) := Bb_17.out.up hb
  have QB_19 : Hid (Wz3.heap[z2.heap.size]? = some (.cells #[.slice bb1 t.ind.length bbc1, .int .i64 t.pen, .slice bb2 t.que.length bbc2, .slice bb3 t.frm.length bbc3, .int .u16 (t.flg : Int)] 27 (0, 0))) := (hb.block _ (lt_of_heap QB_17.out)).trans QB_17.out
  have L_z2_19 : Hid (z2.heap.size < Wz3.heap.size) := Nat.lt_of_lt_of_le L_z2_17.out hb.size
  have Ww_19 : Hid (Own Wz2.heap.size Wz3 (.slice bc1 t.ind.length bcc1) (.slice bc2 t.que.length bcc2) (.slice bc3 t.frm.length bcc3) t) := Ww_18.out.up hb
  clear hb R_17 BW_17 PS_17 PX_17 S_17 Ll_17 Aa_17 QA_17 L_z1_17 Bb_17 QB_17 L_z2_17 Ww_18
  have QW_20 : Hid (Wz3.heap[z3.heap.size]? = some (.cells #[.slice bc1 t.ind.length bcc1, .int .i64 t.pen, .slice bc2 t.que.length bcc2, .slice bc3 t.frm.length bcc3, .int .u16 (t.flg : Int)] 27 (0, 0))) := by rw [hW9]; exact heap_new z3 _
  have L_z3_21 : Hid (z3.heap.size < Wz3.heap.size) := by rw [hW9, World.size_alloc]; exact Nat.lt_succ_self _
  clear hW9 hba
  go_upto_region 10 with fail
  rw [← HWz3.out]
  obtain ⟨p0, p1, p2, p3, p4⟩ := box_cells PX_19.out
  go_wp2_with fail
  refine (EN.out _ _ _ Wz3 (own_of_rows R_19.out.1 R_19.out.2.1 R_19.out.2.2).stm).mono ?_
  rintro e z4 ⟨rfl, hb9⟩
  clear p0 p1 p2 p3 p4
  have hb := hb9
  have R_22 : Hid (z4.ownsRow w.heap.size 3 1 (.slice (some ⟨g1, 0, none⟩) (s.ind.length + 2) k1) (s.ind.length + 2) (iC s.ind ++ [.int .i64 1, .int .i64 2]) ∧ z4.ownsRow w.heap.size 9 1 (.slice (some ⟨g2, 0, none⟩) (s.que.length + 2) k2) (s.que.length + 2) (qC s.que ++ [.string ⟨#[97]⟩, .string ⟨#[98]⟩]) ∧ z4.ownsRow w.heap.size 42 2 (.slice (some ⟨g3, 0, none⟩) (s.frm.length + 2) k3) (s.frm.length + 2) (fC s.frm ++ [.int .i64 0, .string ⟨#[]⟩, .int .i64 0, .string ⟨#[]⟩])) := ⟨row_up R_19.out.1 hb, row_up R_19.out.2.1 hb, row_up R_19.out.2.2 hb⟩
  have BW_22 : Hid (Below w.heap.size w z4) := below_trans BW_19.out hb
  have PS_22 : Hid (z4.heap[w.heap.size]? = some (.cells #[.slice a1 s.ind.length c1, .int .i64 s.pen, .slice a2 s.que.length c2, .slice a3 s.frm.length c3, .int .u16 (s.flg : Int)] 27 (0, 0))) := (hb.block _ (lt_of_heap PS_19.out)).trans PS_19.out
  have PX_22 : Hid (z4.heap[T]? = some (.cells #[.slice (some ⟨g1, 0, none⟩) s.ind.length k1, .int .i64 s.pen, .slice (some ⟨g2, 0, none⟩) s.que.length k2, .slice (some ⟨g3, 0, none⟩) s.frm.length k3, .int .u16 (s.flg : Int)] 27 (0, 0))) := (hb.block _ (lt_of_heap PX_19.out)).trans PX_19.out
  have S_22 : Hid (Stm z4 (.slice a1 s.ind.length c1) (.slice a2 s.que.length c2) (.slice a3 s.frm.length c3) s) := S_19.out.up hb
  have Ll_22 : Hid (Rw z4 (.slice av_ l.length cv_) l.length (aC l)) := Ll_19.out.up hb
  have Aa_22 : Hid (Own wc.heap.size z4 (.slice ba1 t.ind.length bac1) (.slice ba2 t.que.length bac2) (.slice ba3 t.frm.length bac3) t) := Aa_19.out.up hb
  have QA_22 : Hid (z4.heap[z1.heap.size]? = some (.cells #[.slice ba1 t.ind.length bac1, .int .i64 t.pen, .slice ba2 t.que.length bac2, .slice ba3 t.frm.length bac3, .int .u16 (t.flg : Int)] 27 (0, 0))) := (hb.block _ (lt_of_heap QA_19.out)).trans QA_19.out
  have L_z1_22 : Hid (z1.heap.size < z4.heap.size) := Nat.lt_of_lt_of_le L_z1_19.out hb.size
  have Bb_22 : Hid (Own Wz1.heap.size z4 (.slice bb1 t.ind.length bbc1) (.slice bb2 t.que.length bbc2) (.slice bb3 t.frm.length bbc3) t) := Bb_19.out.up hb
  have QB_22 : Hid (z4.heap[z2.heap.size]? = some (.cells #[.slice bb1 t.ind.length bbc1, .int .i64 t.pen, .slice bb2 t.que.length bbc2, .slice bb3 t.frm.length bbc3, .int .u16 (t.flg : Int)] 27 (0, 0))) := (hb.block _ (lt_of_heap QB_19.out)).trans QB_19.out
  have L_z2_22 : Hid (z2.heap.size < z4.heap.size) := Nat.lt_of_lt_of_le L_z2_19.out hb.size
  have Ww_22 : Hid (Own Wz2.heap.size z4 (.slice bc1 t.ind.length bcc1) (.slice bc2 t.que.length bcc2) (.slice bc3 t.frm.length bcc3) t) := Ww_19.out.up hb
  have QW_22 : Hid (z4.heap[z3.heap.size]? = some (.cells #[.slice bc1 t.ind.length bcc1, .int .i64 t.pen, .slice bc2 t.que.length bcc2, .slice bc3 t.frm.length bcc3, .int .u16 (t.flg : Int)] 27 (0, 0))) := (hb.block _ (lt_of_heap QW_20.out)).trans QW_20.out
  have L_z3_22 : Hid (z3.heap.size < z4.heap.size) := Nat.lt_of_lt_of_le L_z3_21.out hb.size
  clear hb R_19 BW_19 PS_19 PX_19 S_19 Ll_19 Aa_19 QA_19 L_z1_19 Bb_19 QB_19 L_z2_19 Ww_19 QW_20 L_z3_21
  clear hb9
  have LCw : Hid (wc.heap.size ≤ z4.heap.size) := by have h1 := L_z1_22.out; have h2 := OS_Aa.out; show wc.heap.size ≤ _; omega
  have LC_z2 : Hid (z2.heap.size < z4.heap.size) := L_z2_22.out
  have LC_z3 : Hid (z3.heap.size < z4.heap.size) := L_z3_22.out
  have ML_z1_Cc : Hid (z1.heap.size < z4.heap.size) := L_z1_22.out
  have ML_z2_Cc : Hid (z2.heap.size < z4.heap.size) := L_z2_22.out
  have ML_z3_Cc : Hid (z3.heap.size < z4.heap.size) := L_z3_22.out
  go_wp2_with fail
  refine (DE.out z4).mono ?_
  rintro e z5 ⟨vi9, vq9, vf9, rfl, ho9, hb9⟩
  obtain ⟨bd1, bdc1, bd2, bdc2, bd3, bdc3, rfl, rfl, rfl⟩ := ho9.stm.form
  have hb := hb9
  have R_23 : Hid (z5.ownsRow w.heap.size 3 1 (.slice (some ⟨g1, 0, none⟩) (s.ind.length + 2) k1) (s.ind.length + 2) (iC s.ind ++ [.int .i64 1, .int .i64 2]) ∧ z5.ownsRow w.heap.size 9 1 (.slice (some ⟨g2, 0, none⟩) (s.que.length + 2) k2) (s.que.length + 2) (qC s.que ++ [.string ⟨#[97]⟩, .string ⟨#[98]⟩]) ∧ z5.ownsRow w.heap.size 42 2 (.slice (some ⟨g3, 0, none⟩) (s.frm.length + 2) k3) (s.frm.length + 2) (fC s.frm ++ [.int .i64 0, .string ⟨#[]⟩, .int .i64 0, .string ⟨#[]⟩])) := ⟨row_up R_22.out.1 hb, row_up R_22.out.2.1 hb, row_up R_22.out.2.2 hb⟩
  have BW_23 : Hid (Below w.heap.size w z5) := below_trans BW_22.out hb
  have PS_23 : Hid (z5.heap[w.heap.size]? = some (.cells #[.slice a1 s.ind.length c1, .int .i64 s.pen, .slice a2 s.que.length c2, .slice a3 s.frm.length c3, .int .u16 (s.flg : Int)] 27 (0, 0))) := (hb.block _ (lt_of_heap PS_22.out)).trans PS_22.out
  have PX_23 : Hid (z5.heap[T]? = some (.cells #[.slice (some ⟨g1, 0, none⟩) s.ind.length k1, .int .i64 s.pen, .slice (some ⟨g2, 0, none⟩) s.que.length k2, .slice (some ⟨g3, 0, none⟩) s.frm.length k3, .int .u16 (s.flg : Int)] 27 (0, 0))) := (hb.block _ (lt_of_heap PX_22.out)).trans PX_22.out
  have S_23 : Hid (Stm z5 (.slice a1 s.ind.length c1) (.slice a2 s.que.length c2) (.slice a3 s.frm.length c3) s) := S_22.out.up hb
  have Ll_23 : Hid (Rw z5 (.slice av_ l.length cv_) l.length (aC l)) := Ll_22.out.up hb
  have Aa_23 : Hid (Own wc.heap.size z5 (.slice ba1 t.ind.length bac1) (.slice ba2 t.que.length bac2) (.slice ba3 t.frm.length bac3) t) := Aa_22.out.up hb
  have QA_23 : Hid (z5.heap[z1.heap.size]? = some (.cells #[.slice ba1 t.ind.length bac1, .int .i64 t.pen, .slice ba2 t.que.length bac2, .slice ba3 t.frm.length bac3, .int .u16 (t.flg : Int)] 27 (0, 0))) := (hb.block _ (lt_of_heap QA_22.out)).trans QA_22.out
  have L_z1_23 : Hid (z1.heap.size < z5.heap.size) := Nat.lt_of_lt_of_le L_z1_22.out hb.size
  have Bb_23 : Hid (Own Wz1.heap.size z5 (.slice bb1 t.ind.length bbc1) (.slice bb2 t.que.length bbc2) (.slice bb3 t.frm.length bbc3) t) := Bb_22.out.up hb
  have QB_23 : Hid (z5.heap[z2.heap.size]? = some (.cells #[.slice bb1 t.ind.length bbc1, .int .i64 t.pen, .slice bb2 t.que.length bbc2, .slice bb3 t.frm.length bbc3, .int .u16 (t.flg : Int)] 27 (0, 0))) := (hb.block _ (lt_of_heap QB_22.out)).trans QB_22.out
  have L_z2_23 : Hid (z2.heap.size < z5.heap.size) := Nat.lt_of_lt_of_le L_z2_22.out hb.size
  have Ww_23 : Hid (Own Wz2.heap.size z5 (.slice bc1 t.ind.length bcc1) (.slice bc2 t.que.length bcc2) (.slice bc3 t.frm.length bcc3) t) := Ww_22.out.up hb
  have QW_23 : Hid (z5.heap[z3.heap.size]? = some (.cells #[.slice bc1 t.ind.length bcc1, .int .i64 t.pen, .slice bc2 t.que.length bcc2, .slice bc3 t.frm.length bcc3, .int .u16 (t.flg : Int)] 27 (0, 0))) := (hb.block _ (lt_of_heap QW_22.out)).trans QW_22.out
  have L_z3_23 : Hid (z3.heap.size < z5.heap.size) := Nat.lt_of_lt_of_le L_z3_22.out hb.size
  clear hb R_22 BW_22 PS_22 PX_22 S_22 Ll_22 Aa_22 QA_22 L_z1_22 Bb_22 QB_22 L_z2_22 Ww_22 QW_22 L_z3_22
  have OL_z1_z5 : Hid (z1.heap.size < z5.heap.size) := L_z1_23.out
  have OL_z2_z5 : Hid (z2.heap.size < z5.heap.size) := L_z2_23.out
  have OL_z3_z5 : Hid (z3.heap.size < z5.heap.size) := L_z3_23.out
  obtain ⟨Wz5, hW9⟩ : ∃ Wz5, Wz5 = z5.alloc (.cells #[.slice bd1 D.ind.length bdc1, .int .i64 D.pen, .slice bd2 D.que.length bdc2, .slice bd3 D.frm.length bdc3, .int .u16 (D.flg : Int)] 27) := ⟨_, rfl⟩
  have HWz5 : Hid (Wz5 = z5.alloc (.cells #[.slice bd1 D.ind.length bdc1, .int .i64 D.pen, .slice bd2 D.que.length bdc2, .slice bd3 D.frm.length bdc3, .int .u16 (D.flg : Int)] 27)) := hW9
  have OS_Cc : Hid (z4.heap.size ≤ z5.heap.size) := hb9.size
  have ZCc : Hid (Own z4.heap.size z5 (.slice bd1 D.ind.length bdc1) (.slice bd2 D.que.length bdc2) (.slice bd3 D.frm.length bdc3) D) := ho9
  have Cc_24 : Hid (Own z4.heap.size z5 (.slice bd1 D.ind.length bdc1) (.slice bd2 D.que.length bdc2) (.slice bd3 D.frm.length bdc3) D) := ho9
  clear ho9 hb9
  have hba : Below z5.heap.size z5 Wz5 := by rw [hW9]; exact bel_up _ _
  have hb := hba
  have R_25 : Hid (Wz5.ownsRow w.heap.size 3 1 (.slice (some ⟨g1, 0, none⟩) (s.ind.length + 2) k1) (s.ind.length + 2) (iC s.ind ++ [.int .i64 1, .int .i64 2]) ∧ Wz5.ownsRow w.heap.size 9 1 (.slice (some ⟨g2, 0, none⟩) (s.que.length + 2) k2) (s.que.length + 2) (qC s.que ++ [.string ⟨#[97]⟩, .string ⟨#[98]⟩]) ∧ Wz5.ownsRow w.heap.size 42 2 (.slice (some ⟨g3, 0, none⟩) (s.frm.length + 2) k3) (s.frm.length + 2) (fC s.frm ++ [.int .i64 0, .string ⟨#[]⟩, .int .i64 0, .string ⟨#[]⟩])) := ⟨row_up R_23.out.1 hb, row_up R_23.out.2.1 hb, row_up R_23.out.2.2 hb⟩
  have BW_25 : Hid (Below w.heap.size w Wz5) := below_trans BW_23.out hb
  have PS_25 : Hid (Wz5.heap[w.heap.size]? = some (.cells #[.slice a1 s.ind.length c1, .int .i64 s.pen, .slice a2 s.que.length c2, .slice a3 s.frm.length c3, .int .u16 (s.flg : Int)] 27 (0, 0))) := (hb.block _ (lt_of_heap PS_23.out)).trans PS_23.out
  have PX_25 : Hid (Wz5.heap[T]? = some (.cells #[.slice (some ⟨g1, 0, none⟩) s.ind.length k1, .int .i64 s.pen, .slice (some ⟨g2, 0, none⟩) s.que.length k2, .slice (some ⟨g3, 0, none⟩) s.frm.length k3, .int .u16 (s.flg : Int)] 27 (0, 0))) := (hb.block _ (lt_of_heap PX_23.out)).trans PX_23.out
  have S_25 : Hid (Stm Wz5 (.slice a1 s.ind.length c1) (.slice a2 s.que.length c2) (.slice a3 s.frm.length c3) s) := S_23.out.up hb
  have Ll_25 : Hid (Rw Wz5 (.slice av_ l.length cv_) l.length (aC l)) := Ll_23.out.up hb
  have Aa_25 : Hid (Own wc.heap.size Wz5 (.slice ba1 t.ind.length bac1) (.slice ba2 t.que.length bac2) (.slice ba3 t.frm.length bac3) t) := Aa_23.out.up hb
  have QA_25 : Hid (Wz5.heap[z1.heap.size]? = some (.cells #[.slice ba1 t.ind.length bac1, .int .i64 t.pen, .slice ba2 t.que.length bac2, .slice ba3 t.frm.length bac3, .int .u16 (t.flg : Int)] 27 (0, 0))) := (hb.block _ (lt_of_heap QA_23.out)).trans QA_23.out
  have L_z1_25 : Hid (z1.heap.size < Wz5.heap.size) := Nat.lt_of_lt_of_le L_z1_23.out hb.size
  have Bb_25 : Hid (Own Wz1.heap.size Wz5 (.slice bb1 t.ind.length bbc1) (.slice bb2 t.que.length bbc2) (.slice bb3 t.frm.length bbc3) t) := Bb_23.out.up hb
  have QB_25 : Hid (Wz5.heap[z2.heap.size]? = some (.cells #[.slice bb1 t.ind.length bbc1, .int .i64 t.pen, .slice bb2 t.que.length bbc2, .slice bb3 t.frm.length bbc3, .int .u16 (t.flg : Int)] 27 (0, 0))) := (hb.block _ (lt_of_heap QB_23.out)).trans QB_23.out
  have L_z2_25 : Hid (z2.heap.size < Wz5.heap.size) := Nat.lt_of_lt_of_le L_z2_23.out hb.size
  have Ww_25 : Hid (Own Wz2.heap.size Wz5 (.slice bc1 t.ind.length bcc1) (.slice bc2 t.que.length bcc2) (.slice bc3 t.frm.length bcc3) t) := Ww_23.out.up hb
  have QW_25 : Hid (Wz5.heap[z3.heap.size]? = some (.cells #[.slice bc1 t.ind.length bcc1, .int .i64 t.pen, .slice bc2 t.que.length bcc2, .slice bc3 t.frm.length bcc3, .int .u16 (t.flg : Int)] 27 (0, 0))) := (hb.block _ (lt_of_heap QW_23.out)).trans QW_23.out
  have L_z3_25 : Hid (z3.heap.size < Wz5.heap.size) := Nat.lt_of_lt_of_le L_z3_23.out hb.size
  have Cc_25 : Hid (Own z4.heap.size Wz5 (.slice bd1 D.ind.length bdc1) (.slice bd2 D.que.length bdc2) (.slice bd3 D.frm.length bdc3) D) := Cc_24.out.up hb
  clear hb R_23 BW_23 PS_23 PX_23 S_23 Ll_23 Aa_23 QA_23 L_z1_23 Bb_23 QB_23 L_z2_23 Ww_23 QW_23 L_z3_23 Cc_24
  have QC_26 : Hid (Wz5.heap[z5.heap.size]? = some (.cells #[.slice bd1 D.ind.length bdc1, .int .i64 D.pen, .slice bd2 D.que.length bdc2, .slice bd3 D.frm.length bdc3, .int .u16 (D.flg : Int)] 27 (0, 0))) := by rw [hW9]; exact heap_new z5 _
  have L_z5_27 : Hid (z5.heap.size < Wz5.heap.size) := by rw [hW9, World.size_alloc]; exact Nat.lt_succ_self _
  clear hW9 hba
  go_upto_region 12 with fail
  rw [← HWz5.out]
  have ML_z1_Dd : Hid (z1.heap.size < Wz5.heap.size) := L_z1_25.out
  have ML_z2_Dd : Hid (z2.heap.size < Wz5.heap.size) := L_z2_25.out
  have ML_z3_Dd : Hid (z3.heap.size < Wz5.heap.size) := L_z3_25.out
  have ML_z5_Dd : Hid (z5.heap.size < Wz5.heap.size) := L_z5_27.out
  go_wp2_with fail
  refine (DE.out Wz5).mono ?_
  rintro e z6 ⟨vi9, vq9, vf9, rfl, ho9, hb9⟩
  obtain ⟨be1, bec1, be2, bec2, be3, bec3, rfl, rfl, rfl⟩ := ho9.stm.form
  have hb := hb9
  have R_28 : Hid (z6.ownsRow w.heap.size 3 1 (.slice (some ⟨g1, 0, none⟩) (s.ind.length + 2) k1) (s.ind.length + 2) (iC s.ind ++ [.int .i64 1, .int .i64 2]) ∧ z6.ownsRow w.heap.size 9 1 (.slice (some ⟨g2, 0, none⟩) (s.que.length + 2) k2) (s.que.length + 2) (qC s.que ++ [.string ⟨#[97]⟩, .string ⟨#[98]⟩]) ∧ z6.ownsRow w.heap.size 42 2 (.slice (some ⟨g3, 0, none⟩) (s.frm.length + 2) k3) (s.frm.length + 2) (fC s.frm ++ [.int .i64 0, .string ⟨#[]⟩, .int .i64 0, .string ⟨#[]⟩])) := ⟨row_up R_25.out.1 hb, row_up R_25.out.2.1 hb, row_up R_25.out.2.2 hb⟩
  have BW_28 : Hid (Below w.heap.size w z6) := below_trans BW_25.out hb
  have PS_28 : Hid (z6.heap[w.heap.size]? = some (.cells #[.slice a1 s.ind.length c1, .int .i64 s.pen, .slice a2 s.que.length c2, .slice a3 s.frm.length c3, .int .u16 (s.flg : Int)] 27 (0, 0))) := (hb.block _ (lt_of_heap PS_25.out)).trans PS_25.out
  have PX_28 : Hid (z6.heap[T]? = some (.cells #[.slice (some ⟨g1, 0, none⟩) s.ind.length k1, .int .i64 s.pen, .slice (some ⟨g2, 0, none⟩) s.que.length k2, .slice (some ⟨g3, 0, none⟩) s.frm.length k3, .int .u16 (s.flg : Int)] 27 (0, 0))) := (hb.block _ (lt_of_heap PX_25.out)).trans PX_25.out
  have S_28 : Hid (Stm z6 (.slice a1 s.ind.length c1) (.slice a2 s.que.length c2) (.slice a3 s.frm.length c3) s) := S_25.out.up hb
  have Ll_28 : Hid (Rw z6 (.slice av_ l.length cv_) l.length (aC l)) := Ll_25.out.up hb
  have Aa_28 : Hid (Own wc.heap.size z6 (.slice ba1 t.ind.length bac1) (.slice ba2 t.que.length bac2) (.slice ba3 t.frm.length bac3) t) := Aa_25.out.up hb
  have QA_28 : Hid (z6.heap[z1.heap.size]? = some (.cells #[.slice ba1 t.ind.length bac1, .int .i64 t.pen, .slice ba2 t.que.length bac2, .slice ba3 t.frm.length bac3, .int .u16 (t.flg : Int)] 27 (0, 0))) := (hb.block _ (lt_of_heap QA_25.out)).trans QA_25.out
  have L_z1_28 : Hid (z1.heap.size < z6.heap.size) := Nat.lt_of_lt_of_le L_z1_25.out hb.size
  have Bb_28 : Hid (Own Wz1.heap.size z6 (.slice bb1 t.ind.length bbc1) (.slice bb2 t.que.length bbc2) (.slice bb3 t.frm.length bbc3) t) := Bb_25.out.up hb
  have QB_28 : Hid (z6.heap[z2.heap.size]? = some (.cells #[.slice bb1 t.ind.length bbc1, .int .i64 t.pen, .slice bb2 t.que.length bbc2, .slice bb3 t.frm.length bbc3, .int .u16 (t.flg : Int)] 27 (0, 0))) := (hb.block _ (lt_of_heap QB_25.out)).trans QB_25.out
  have L_z2_28 : Hid (z2.heap.size < z6.heap.size) := Nat.lt_of_lt_of_le L_z2_25.out hb.size
  have Ww_28 : Hid (Own Wz2.heap.size z6 (.slice bc1 t.ind.length bcc1) (.slice bc2 t.que.length bcc2) (.slice bc3 t.frm.length bcc3) t) := Ww_25.out.up hb
  have QW_28 : Hid (z6.heap[z3.heap.size]? = some (.cells #[.slice bc1 t.ind.length bcc1, .int .i64 t.pen, .slice bc2 t.que.length bcc2, .slice bc3 t.frm.length bcc3, .int .u16 (t.flg : Int)] 27 (0, 0))) := (hb.block _ (lt_of_heap QW_25.out)).trans QW_25.out
  have L_z3_28 : Hid (z3.heap.size < z6.heap.size) := Nat.lt_of_lt_of_le L_z3_25.out hb.size
  have Cc_28 : Hid (Own z4.heap.size z6 (.slice bd1 D.ind.length bdc1) (.slice bd2 D.que.length bdc2) (.slice bd3 D.frm.length bdc3) D) := Cc_25.out.up hb
  have QC_28 : Hid (z6.heap[z5.heap.size]? = some (.cells #[.slice bd1 D.ind.length bdc1, .int .i64 D.pen, .slice bd2 D.que.length bdc2, .slice bd3 D.frm.length bdc3, .int .u16 (D.flg : Int)] 27 (0, 0))) := (hb.block _ (lt_of_heap QC_26.out)).trans QC_26.out
  have L_z5_28 : Hid (z5.heap.size < z6.heap.size) := Nat.lt_of_lt_of_le L_z5_27.out hb.size
  clear hb R_25 BW_25 PS_25 PX_25 S_25 Ll_25 Aa_25 QA_25 L_z1_25 Bb_25 QB_25 L_z2_25 Ww_25 QW_25 L_z3_25 Cc_25 QC_26 L_z5_27
  have OL_z1_z6 : Hid (z1.heap.size < z6.heap.size) := L_z1_28.out
  have OL_z2_z6 : Hid (z2.heap.size < z6.heap.size) := L_z2_28.out
  have OL_z3_z6 : Hid (z3.heap.size < z6.heap.size) := L_z3_28.out
  have OL_z5_z6 : Hid (z5.heap.size < z6.heap.size) := L_z5_28.out
  obtain ⟨Wz6, hW9⟩ : ∃ Wz6, Wz6 = z6.alloc (.cells #[.slice be1 D.ind.length bec1, .int .i64 D.pen, .slice be2 D.que.length bec2, .slice be3 D.frm.length bec3, .int .u16 (D.flg : Int)] 27) := ⟨_, rfl⟩
  have HWz6 : Hid (Wz6 = z6.alloc (.cells #[.slice be1 D.ind.length bec1, .int .i64 D.pen, .slice be2 D.que.length bec2, .slice be3 D.frm.length bec3, .int .u16 (D.flg : Int)] 27)) := hW9
  have OS_Dd : Hid (Wz5.heap.size ≤ z6.heap.size) := hb9.size
  have ZDd : Hid (Own Wz5.heap.size z6 (.slice be1 D.ind.length bec1) (.slice be2 D.que.length bec2) (.slice be3 D.frm.length bec3) D) := ho9
  have Dd_29 : Hid (Own Wz5.heap.size z6 (.slice be1 D.ind.length bec1) (.slice be2 D.que.length bec2) (.slice be3 D.frm.length bec3) D) := ho9
  clear ho9 hb9
  have hba : Below z6.heap.size z6 Wz6 := by rw [hW9]; exact bel_up _ _
  have hb := hba
  have R_30 : Hid (Wz6.ownsRow w.heap.size 3 1 (.slice (some ⟨g1, 0, none⟩) (s.ind.length + 2) k1) (s.ind.length + 2) (iC s.ind ++ [.int .i64 1, .int .i64 2]) ∧ Wz6.ownsRow w.heap.size 9 1 (.slice (some ⟨g2, 0, none⟩) (s.que.length + 2) k2) (s.que.length + 2) (qC s.que ++ [.string ⟨#[97]⟩, .string ⟨#[98]⟩]) ∧ Wz6.ownsRow w.heap.size 42 2 (.slice (some ⟨g3, 0, none⟩) (s.frm.length + 2) k3) (s.frm.length + 2) (fC s.frm ++ [.int .i64 0, .string ⟨#[]⟩, .int .i64 0, .string ⟨#[]⟩])) := ⟨row_up R_28.out.1 hb, row_up R_28.out.2.1 hb, row_up R_28.out.2.2 hb⟩
  have BW_30 : Hid (Below w.heap.size w Wz6) := below_trans BW_28.out hb
  have PS_30 : Hid (Wz6.heap[w.heap.size]? = some (.cells #[.slice a1 s.ind.length c1, .int .i64 s.pen, .slice a2 s.que.length c2, .slice a3 s.frm.length c3, .int .u16 (s.flg : Int)] 27 (0, 0))) := (hb.block _ (lt_of_heap PS_28.out)).trans PS_28.out
  have PX_30 : Hid (Wz6.heap[T]? = some (.cells #[.slice (some ⟨g1, 0, none⟩) s.ind.length k1, .int .i64 s.pen, .slice (some ⟨g2, 0, none⟩) s.que.length k2, .slice (some ⟨g3, 0, none⟩) s.frm.length k3, .int .u16 (s.flg : Int)] 27 (0, 0))) := (hb.block _ (lt_of_heap PX_28.out)).trans PX_28.out
  have S_30 : Hid (Stm Wz6 (.slice a1 s.ind.length c1) (.slice a2 s.que.length c2) (.slice a3 s.frm.length c3) s) := S_28.out.up hb
  have Ll_30 : Hid (Rw Wz6 (.slice av_ l.length cv_) l.length (aC l)) := Ll_28.out.up hb
  have Aa_30 : Hid (Own wc.heap.size Wz6 (.slice ba1 t.ind.length bac1) (.slice ba2 t.que.length bac2) (.slice ba3 t.frm.length bac3) t) := Aa_28.out.up hb
  have QA_30 : Hid (Wz6.heap[z1.heap.size]? = some (.cells #[.slice ba1 t.ind.length bac1, .int .i64 t.pen, .slice ba2 t.que.length bac2, .slice ba3 t.frm.length bac3, .int .u16 (t.flg : Int)] 27 (0, 0))) := (hb.block _ (lt_of_heap QA_28.out)).trans QA_28.out
  have L_z1_30 : Hid (z1.heap.size < Wz6.heap.size) := Nat.lt_of_lt_of_le L_z1_28.out hb.size
  have Bb_30 : Hid (Own Wz1.heap.size Wz6 (.slice bb1 t.ind.length bbc1) (.slice bb2 t.que.length bbc2) (.slice bb3 t.frm.length bbc3) t) := Bb_28.out.up hb
  have QB_30 : Hid (Wz6.heap[z2.heap.size]? = some (.cells #[.slice bb1 t.ind.length bbc1, .int .i64 t.pen, .slice bb2 t.que.length bbc2, .slice bb3 t.frm.length bbc3, .int .u16 (t.flg : Int)] 27 (0, 0))) := (hb.block _ (lt_of_heap QB_28.out)).trans QB_28.out
  have L_z2_30 : Hid (z2.heap.size < Wz6.heap.size) := Nat.lt_of_lt_of_le L_z2_28.out hb.size
  have Ww_30 : Hid (Own Wz2.heap.size Wz6 (.slice bc1 t.ind.length bcc1) (.slice bc2 t.que.length bcc2) (.slice bc3 t.frm.length bcc3) t) := Ww_28.out.up hb
  have QW_30 : Hid (Wz6.heap[z3.heap.size]? = some (.cells #[.slice bc1 t.ind.length bcc1, .int .i64 t.pen, .slice bc2 t.que.length bcc2, .slice bc3 t.frm.length bcc3, .int .u16 (t.flg : Int)] 27 (0, 0))) := (hb.block _ (lt_of_heap QW_28.out)).trans QW_28.out
  have L_z3_30 : Hid (z3.heap.size < Wz6.heap.size) := Nat.lt_of_lt_of_le L_z3_28.out hb.size
  have Cc_30 : Hid (Own z4.heap.size Wz6 (.slice bd1 D.ind.length bdc1) (.slice bd2 D.que.length bdc2) (.slice bd3 D.frm.length bdc3) D) := Cc_28.out.up hb
  have QC_30 : Hid (Wz6.heap[z5.heap.size]? = some (.cells #[.slice bd1 D.ind.length bdc1, .int .i64 D.pen, .slice bd2 D.que.length bdc2, .slice bd3 D.frm.length bdc3, .int .u16 (D.flg : Int)] 27 (0, 0))) := (hb.block _ (lt_of_heap QC_28.out)).trans QC_28.out
  have L_z5_30 : Hid (z5.heap.size < Wz6.heap.size) := Nat.lt_of_lt_of_le L_z5_28.out hb.size
  have Dd_30 : Hid (Own Wz5.heap.size Wz6 (.slice be1 D.ind.length bec1) (.slice be2 D.que.length bec2) (.slice be3 D.frm.length bec3) D) := Dd_29.out.up hb
  clear hb R_28 BW_28 PS_28 PX_28 S_28 Ll_28 Aa_28 QA_28 L_z1_28 Bb_28 QB_28 L_z2_28 Ww_28 QW_28 L_z3_28 Cc_28 QC_28 L_z5_28 Dd_29
  have QD_31 : Hid (Wz6.heap[z6.heap.size]? = some (.cells #[.slice be1 D.ind.length bec1, .int .i64 D.pen, .slice be2 D.que.length bec2, .slice be3 D.frm.length bec3, .int .u16 (D.flg : Int)] 27 (0, 0))) := by rw [hW9]; exact heap_new z6 _
  have L_z6_32 : Hid (z6.heap.size < Wz6.heap.size) := by rw [hW9, World.size_alloc]; exact Nat.lt_succ_self _
  clear hW9 hba
  go_upto_region 13 with fail
  rw [← HWz6.out]
  obtain ⟨i38, hi38, hy0, hy1, hy2⟩ := info_parts info38
  have HI : Hid (Try.prog.info? 38 = some i38 ∧ i38.zero = some (.agg #[.int .i64 0, .int .i64 0, .int .i64 0]) ∧ i38.size = 3 ∧ i38.bytes = 24) := ⟨hi38, hy0, hy1, hy2⟩
  clear hi38 hy0 hy1 hy2
  go_wp2_with fail
  go_loopg [19, 20] l.length (fun gm v19 v20 wr => ∃ j k : Nat, v20 = .int .i64 (j : Int) ∧ Hid (j = k + 1 ∧ k ≤ l.length - 1 ∧ gm = l.length - k) ∧ Hid (Below Wz6.heap.size Wz6 wr) ∧ Hid (wr.ownsRow Wz6.heap.size 38 3 v19 k (aC ((l.drop 1).take k))))
  case atStart => exact ⟨1, 0, rfl, ⟨rfl, Nat.zero_le _, rfl⟩, Below.refl _ _, World.ownsRow_nil _ _ _ _⟩
  case round =>
    obtain ⟨j, k, rfl, HJ, HBL, HR⟩ := hrel
    by_cases hj : j < l.length
    · have e1 : decide ((j : Int) < (l.length : Int)) = true := by rw [decide_eq_true_eq]; omega
      have e2 : decide (j < l.length) = true := by rw [decide_eq_true_eq]; omega
      have e5 : (j : Int) < (l.length : Int) := by omega
      have HJL : Hid (j < l.length) := hj
      have hwr := w64n j (by have := HMM.out.2.2; omega)
      obtain ⟨a9, g9, o9, c9, l1, -, -, l2, l3⟩ := Ll_30.out
      obtain ⟨rfl, -, rfl⟩ := Value.slice.inj l1
      obtain rfl := l2 (by omega)
      obtain ⟨m0, m1, m2⟩ := aC_get l j hj
      have r0 := below_cell HBL.out (l3 _ _ m0)
      have r1 := below_cell HBL.out (l3 _ _ m1)
      have r2 := below_cell HBL.out (l3 _ _ m2)
      rw [← Nat.add_assoc] at r1 r2
      obtain ⟨⟨kx, nx, mx⟩, hx⟩ : ∃ x, l.getD j (0, 0, 0) = x := ⟨_, rfl⟩
      have HX : Hid (l.getD j (0, 0, 0) = (kx, nx, mx)) := hx
      rw [hx] at r0 r1 r2
      simp only [] at r0 r1 r2
      clear l1 l2 l3 m0 m1 m2 hx hj
      have HRW : Hid ((wr.alloc (.cells #[.int .i64 kx, .int .i64 nx, .int .i64 mx] 38)).ownsRow Wz6.heap.size 38 3 u19 k (aC ((l.drop 1).take k))) := row_up HR.out (bel_up _ _)
      have HSB : Hid (Wz6.heap.size ≤ (wr.alloc (.cells #[.int .i64 kx, .int .i64 nx, .int .i64 mx] 38)).heap.size) := (below_trans HBL.out (bel_up _ _)).size
      go_upto_region 16 with (at_builtin; refine wpList_append_own _ rfl _ _ 28 rfl Wz6.heap.size 38 i38 (.agg #[.int .i64 0, .int .i64 0, .int .i64 0]) 3 24 Try.underlying28 HI.out.1 HI.out.2.1 HI.out.2.2.1 HI.out.2.2.2 rfl (by decide) _ k _ rfl HRW.out ⟨wr.heap.size, 0, none⟩ 1 1 [.int .i64 kx, .int .i64 nx, .int .i64 mx] rfl rfl (cell_three_new _ _ _ _ _) (by simp [Value.oneCell']) (by have := HMM.out.2.2; have := HJ.out; have := HJL.out; unfold maxLen; omega) (by have := HMM.out.2.2; have := HJ.out; have := HJL.out; omega) HSB.out ?_; intro v9 u9 ho9 hg9 _; have HO9 : Hid (u9.ownsRow Wz6.heap.size 38 3 v9 (k + 1) (aC ((l.drop 1).take k) ++ [.int .i64 kx, .int .i64 nx, .int .i64 mx])) := ho9; have HB9 : Hid (Below Wz6.heap.size Wz6 u9) := (below_trans HBL.out (bel_up _ _)).grown hg9 HSB.out (fun r e' => (row_tag HRW.out r e').1); clear ho9 hg9)
      go_wp2_with fail
      go_roundg (l.length - (k + 1))
      case measure => have := HJ.out; have := HJL.out; omega
      case rel => exact ⟨j + 1, k + 1, by first | rfl | (rw [show (j : Int) + 1 = ((j + 1 : Nat) : Int) by omega]), ⟨by have := HJ.out; omega, by have := HJ.out; have := HJL.out; omega, rfl⟩, HB9, by have h1 := HJ.out.1; have h2 : l.getD (k + 1) (0, 0, 0) = (kx, nx, mx) := (by rw [← h1]; exact HX.out); rw [take_next (0, 0, 0) l k (by have := HJL.out; omega), h2, aC_app]; exact HO9.out⟩
    · have e1 : decide ((j : Int) < (l.length : Int)) = false := by rw [decide_eq_false_iff_not]; omega
      have e2 : decide (j < l.length) = false := by rw [decide_eq_false_iff_not]; omega
      obtain ⟨fw, hfw⟩ : ∃ fw, l.drop 1 = fw := ⟨_, rfl⟩
      have HFL : Hid (fw.length * 24 ≤ 140737488355328) := by show fw.length * 24 ≤ _; rw [← hfw, List.length_drop]; have := HMM.out.2.2; omega
      have HFR : Hid (Rw wr u19 fw.length (aC fw)) := by have h1 := HJ.out; have h2 : fw.length = k := (by rw [← hfw, List.length_drop]; omega); have h3 := row_rw HR.out (by decide); rw [hfw, List.take_of_length_le (by omega), ← h2] at h3; exact h3
      obtain ⟨fa_, fc_, hfv⟩ : ∃ a c, u19 = .slice a fw.length c := by obtain ⟨a, _, _, c, e, _⟩ := HFR.out; exact ⟨a, c, e⟩
      subst hfv
      clear hj HJ HR hfw
      have hb := HBL.out
      have R_33 : Hid (wr.ownsRow w.heap.size 3 1 (.slice (some ⟨g1, 0, none⟩) (s.ind.length + 2) k1) (s.ind.length + 2) (iC s.ind ++ [.int .i64 1, .int .i64 2]) ∧ wr.ownsRow w.heap.size 9 1 (.slice (some ⟨g2, 0, none⟩) (s.que.length + 2) k2) (s.que.length + 2) (qC s.que ++ [.string ⟨#[97]⟩, .string ⟨#[98]⟩]) ∧ wr.ownsRow w.heap.size 42 2 (.slice (some ⟨g3, 0, none⟩) (s.frm.length + 2) k3) (s.frm.length + 2) (fC s.frm ++ [.int .i64 0, .string ⟨#[]⟩, .int .i64 0, .string ⟨#[]⟩])) := ⟨row_up R_30.out.1 hb, row_up R_30.out.2.1 hb, row_up R_30.out.2.2 hb⟩
      have BW_33 : Hid (Below w.heap.size w wr) := below_trans BW_30.out hb
      have PS_33 : Hid (wr.heap[w.heap.size]? = some (.cells #[.slice a1 s.ind.length c1, .int .i64 s.pen, .slice a2 s.que.length c2, .slice a3 s.frm.length c3, .int .u16 (s.flg : Int)] 27 (0, 0))) := (hb.block _ (lt_of_heap PS_30.out)).trans PS_30.out
      have PX_33 : Hid (wr.heap[T]? = some (.cells #[.slice (some ⟨g1, 0, none⟩) s.ind.length k1, .int .i64 s.pen, .slice (some ⟨g2, 0, none⟩) s.que.length k2, .slice (some ⟨g3, 0, none⟩) s.frm.length k3, .int .u16 (s.flg : Int)] 27 (0, 0))) := (hb.block _ (lt_of_heap PX_30.out)).trans PX_30.out
      have S_33 : Hid (Stm wr (.slice a1 s.ind.length c1) (.slice a2 s.que.length c2) (.slice a3 s.frm.length c3) s) := S_30.out.up hb
      have Ll_33 : Hid (Rw wr (.slice av_ l.length cv_) l.length (aC l)) := Ll_30.out.up hb
      have Aa_33 : Hid (Own wc.heap.size wr (.slice ba1 t.ind.length bac1) (.slice ba2 t.que.length bac2) (.slice ba3 t.frm.length bac3) t) := Aa_30.out.up hb
      have QA_33 : Hid (wr.heap[z1.heap.size]? = some (.cells #[.slice ba1 t.ind.length bac1, .int .i64 t.pen, .slice ba2 t.que.length bac2, .slice ba3 t.frm.length bac3, .int .u16 (t.flg : Int)] 27 (0, 0))) := (hb.block _ (lt_of_heap QA_30.out)).trans QA_30.out
      have L_z1_33 : Hid (z1.heap.size < wr.heap.size) := Nat.lt_of_lt_of_le L_z1_30.out hb.size
      have Bb_33 : Hid (Own Wz1.heap.size wr (.slice bb1 t.ind.length bbc1) (.slice bb2 t.que.length bbc2) (.slice bb3 t.frm.length bbc3) t) := Bb_30.out.up hb
      have QB_33 : Hid (wr.heap[z2.heap.size]? = some (.cells #[.slice bb1 t.ind.length bbc1, .int .i64 t.pen, .slice bb2 t.que.length bbc2, .slice bb3 t.frm.length bbc3, .int .u16 (t.flg : Int)] 27 (0, 0))) := (hb.block _ (lt_of_heap QB_30.out)).trans QB_30.out
      have L_z2_33 : Hid (z2.heap.size < wr.heap.size) := Nat.lt_of_lt_of_le L_z2_30.out hb.size
      have Ww_33 : Hid (Own Wz2.heap.size wr (.slice bc1 t.ind.length bcc1) (.slice bc2 t.que.length bcc2) (.slice bc3 t.frm.length bcc3) t) := Ww_30.out.up hb
      have QW_33 : Hid (wr.heap[z3.heap.size]? = some (.cells #[.slice bc1 t.ind.length bcc1, .int .i64 t.pen, .slice bc2 t.que.length bcc2, .slice bc3 t.frm.length bcc3, .int .u16 (t.flg : Int)] 27 (0, 0))) := (hb.block _ (lt_of_heap QW_30.out)).trans QW_30.out
      have L_z3_33 : Hid (z3.heap.size < wr.heap.size) := Nat.lt_of_lt_of_le L_z3_30.out hb.size
      have Cc_33 : Hid (Own z4.heap.size wr (.slice bd1 D.ind.length bdc1) (.slice bd2 D.que.length bdc2) (.slice bd3 D.frm.length bdc3) D) := Cc_30.out.up hb
      have QC_33 : Hid (wr.heap[z5.heap.size]? = some (.cells #[.slice bd1 D.ind.length bdc1, .int .i64 D.pen, .slice bd2 D.que.length bdc2, .slice bd3 D.frm.length bdc3, .int .u16 (D.flg : Int)] 27 (0, 0))) := (hb.block _ (lt_of_heap QC_30.out)).trans QC_30.out
      have L_z5_33 : Hid (z5.heap.size < wr.heap.size) := Nat.lt_of_lt_of_le L_z5_30.out hb.size
      have Dd_33 : Hid (Own Wz5.heap.size wr (.slice be1 D.ind.length bec1) (.slice be2 D.que.length bec2) (.slice be3 D.frm.length bec3) D) := Dd_30.out.up hb
      have QD_33 : Hid (wr.heap[z6.heap.size]? = some (.cells #[.slice be1 D.ind.length bec1, .int .i64 D.pen, .slice be2 D.que.length bec2, .slice be3 D.frm.length bec3, .int .u16 (D.flg : Int)] 27 (0, 0))) := (hb.block _ (lt_of_heap QD_31.out)).trans QD_31.out
      have L_z6_33 : Hid (z6.heap.size < wr.heap.size) := Nat.lt_of_lt_of_le L_z6_32.out hb.size
      clear hb R_30 BW_30 PS_30 PX_30 S_30 Ll_30 Aa_30 QA_30 L_z1_30 Bb_30 QB_30 L_z2_30 Ww_30 QW_30 L_z3_30 Cc_30 QC_30 L_z5_30 Dd_30 QD_31 L_z6_32
      clear HBL
      have Fw_34 : Hid (Rw wr (.slice fa_ fw.length fc_) fw.length (aC fw)) := HFR.out
      clear HFR
      obtain ⟨q, E2, hql, hrd2, hpd2⟩ := alls_both (s := s) (l := fw) m HMM.out.2.1 (fun d hd => by have := HZ.out.t d hd; omega) (by have := HFL.out; omega) HMM.out.1
      have HQL : Hid (q.ind.length ≤ 32 ∧ q.que.length ≤ 8 ∧ q.frm.length ≤ 16) := hql
      have PD2 : Hid (∀ vi vq vf va W, Stm W vi vq vf s → Rw W va fw.length (aC fw) → Calls Try.prog 6 #[sv vi vq vf s, va, .string m] W fun e w' => ∃ ui uq uf, e = .returned (.tuple #[sv ui uq uf q, .int .i64 E2]) ∧ Own W.heap.size w' ui uq uf q ∧ Below W.heap.size W w') := hpd2
      clear hql hrd2 hpd2
      go_upto_region 18 with fail
      clear e1 e2
      obtain ⟨p0, p1, p2, p3, p4⟩ := box_cells PX_33.out
      have ML_z1_Oo : Hid (z1.heap.size < wr.heap.size) := L_z1_33.out
      have ML_z2_Oo : Hid (z2.heap.size < wr.heap.size) := L_z2_33.out
      have ML_z3_Oo : Hid (z3.heap.size < wr.heap.size) := L_z3_33.out
      have ML_z5_Oo : Hid (z5.heap.size < wr.heap.size) := L_z5_33.out
      have ML_z6_Oo : Hid (z6.heap.size < wr.heap.size) := L_z6_33.out
      go_wp2_with fail
      refine (PD2.out _ _ _ _ wr (own_of_rows R_33.out.1 R_33.out.2.1 R_33.out.2.2).stm Fw_34.out).mono ?_
      rintro e z7 ⟨vi9, vq9, vf9, rfl, ho9, hb9⟩
      obtain ⟨bf1, bfc1, bf2, bfc2, bf3, bfc3, rfl, rfl, rfl⟩ := ho9.stm.form
      clear p0 p1 p2 p3 p4
      have hb := hb9
      have R_35 : Hid (z7.ownsRow w.heap.size 3 1 (.slice (some ⟨g1, 0, none⟩) (s.ind.length + 2) k1) (s.ind.length + 2) (iC s.ind ++ [.int .i64 1, .int .i64 2]) ∧ z7.ownsRow w.heap.size 9 1 (.slice (some ⟨g2, 0, none⟩) (s.que.length + 2) k2) (s.que.length + 2) (qC s.que ++ [.string ⟨#[97]⟩, .string ⟨#[98]⟩]) ∧ z7.ownsRow w.heap.size 42 2 (.slice (some ⟨g3, 0, none⟩) (s.frm.length + 2) k3) (s.frm.length + 2) (fC s.frm ++ [.int .i64 0, .string ⟨#[]⟩, .int .i64 0, .string ⟨#[]⟩])) := ⟨row_up R_33.out.1 hb, row_up R_33.out.2.1 hb, row_up R_33.out.2.2 hb⟩
      have BW_35 : Hid (Below w.heap.size w z7) := below_trans BW_33.out hb
      have PS_35 : Hid (z7.heap[w.heap.size]? = some (.cells #[.slice a1 s.ind.length c1, .int .i64 s.pen, .slice a2 s.que.length c2, .slice a3 s.frm.length c3, .int .u16 (s.flg : Int)] 27 (0, 0))) := (hb.block _ (lt_of_heap PS_33.out)).trans PS_33.out
      have PX_35 : Hid (z7.heap[T]? = some (.cells #[.slice (some ⟨g1, 0, none⟩) s.ind.length k1, .int .i64 s.pen, .slice (some ⟨g2, 0, none⟩) s.que.length k2, .slice (some ⟨g3, 0, none⟩) s.frm.length k3, .int .u16 (s.flg : Int)] 27 (0, 0))) := (hb.block _ (lt_of_heap PX_33.out)).trans PX_33.out
      have S_35 : Hid (Stm z7 (.slice a1 s.ind.length c1) (.slice a2 s.que.length c2) (.slice a3 s.frm.length c3) s) := S_33.out.up hb
      have Ll_35 : Hid (Rw z7 (.slice av_ l.length cv_) l.length (aC l)) := Ll_33.out.up hb
      have Aa_35 : Hid (Own wc.heap.size z7 (.slice ba1 t.ind.length bac1) (.slice ba2 t.que.length bac2) (.slice ba3 t.frm.length bac3) t) := Aa_33.out.up hb
      have QA_35 : Hid (z7.heap[z1.heap.size]? = some (.cells #[.slice ba1 t.ind.length bac1, .int .i64 t.pen, .slice ba2 t.que.length bac2, .slice ba3 t.frm.length bac3, .int .u16 (t.flg : Int)] 27 (0, 0))) := (hb.block _ (lt_of_heap QA_33.out)).trans QA_33.out
      have L_z1_35 : Hid (z1.heap.size < z7.heap.size) := Nat.lt_of_lt_of_le L_z1_33.out hb.size
      have Bb_35 : Hid (Own Wz1.heap.size z7 (.slice bb1 t.ind.length bbc1) (.slice bb2 t.que.length bbc2) (.slice bb3 t.frm.length bbc3) t) := Bb_33.out.up hb
      have QB_35 : Hid (z7.heap[z2.heap.size]? = some (.cells #[.slice bb1 t.ind.length bbc1, .int .i64 t.pen, .slice bb2 t.que.length bbc2, .slice bb3 t.frm.length bbc3, .int .u16 (t.flg : Int)] 27 (0, 0))) := (hb.block _ (lt_of_heap QB_33.out)).trans QB_33.out
      have L_z2_35 : Hid (z2.heap.size < z7.heap.size) := Nat.lt_of_lt_of_le L_z2_33.out hb.size
      have Ww_35 : Hid (Own Wz2.heap.size z7 (.slice bc1 t.ind.length bcc1) (.slice bc2 t.que.length bcc2) (.slice bc3 t.frm.length bcc3) t) := Ww_33.out.up hb
      have QW_35 : Hid (z7.heap[z3.heap.size]? = some (.cells #[.slice bc1 t.ind.length bcc1, .int .i64 t.pen, .slice bc2 t.que.length bcc2, .slice bc3 t.frm.length bcc3, .int .u16 (t.flg : Int)] 27 (0, 0))) := (hb.block _ (lt_of_heap QW_33.out)).trans QW_33.out
      have L_z3_35 : Hid (z3.heap.size < z7.heap.size) := Nat.lt_of_lt_of_le L_z3_33.out hb.size
      have Cc_35 : Hid (Own z4.heap.size z7 (.slice bd1 D.ind.length bdc1) (.slice bd2 D.que.length bdc2) (.slice bd3 D.frm.length bdc3) D) := Cc_33.out.up hb
      have QC_35 : Hid (z7.heap[z5.heap.size]? = some (.cells #[.slice bd1 D.ind.length bdc1, .int .i64 D.pen, .slice bd2 D.que.length bdc2, .slice bd3 D.frm.length bdc3, .int .u16 (D.flg : Int)] 27 (0, 0))) := (hb.block _ (lt_of_heap QC_33.out)).trans QC_33.out
      have L_z5_35 : Hid (z5.heap.size < z7.heap.size) := Nat.lt_of_lt_of_le L_z5_33.out hb.size
      have Dd_35 : Hid (Own Wz5.heap.size z7 (.slice be1 D.ind.length bec1) (.slice be2 D.que.length bec2) (.slice be3 D.frm.length bec3) D) := Dd_33.out.up hb
      have QD_35 : Hid (z7.heap[z6.heap.size]? = some (.cells #[.slice be1 D.ind.length bec1, .int .i64 D.pen, .slice be2 D.que.length bec2, .slice be3 D.frm.length bec3, .int .u16 (D.flg : Int)] 27 (0, 0))) := (hb.block _ (lt_of_heap QD_33.out)).trans QD_33.out
      have L_z6_35 : Hid (z6.heap.size < z7.heap.size) := Nat.lt_of_lt_of_le L_z6_33.out hb.size
      have Fw_35 : Hid (Rw z7 (.slice fa_ fw.length fc_) fw.length (aC fw)) := Fw_34.out.up hb
      clear hb R_33 BW_33 PS_33 PX_33 S_33 Ll_33 Aa_33 QA_33 L_z1_33 Bb_33 QB_33 L_z2_33 Ww_33 QW_33 L_z3_33 Cc_33 QC_33 L_z5_33 Dd_33 QD_33 L_z6_33 Fw_34
      have OL_z1_z7 : Hid (z1.heap.size < z7.heap.size) := L_z1_35.out
      have OL_z2_z7 : Hid (z2.heap.size < z7.heap.size) := L_z2_35.out
      have OL_z3_z7 : Hid (z3.heap.size < z7.heap.size) := L_z3_35.out
      have OL_z5_z7 : Hid (z5.heap.size < z7.heap.size) := L_z5_35.out
      have OL_z6_z7 : Hid (z6.heap.size < z7.heap.size) := L_z6_35.out
      obtain ⟨Wz7, hW9⟩ : ∃ Wz7, Wz7 = z7.alloc (.cells #[.slice bf1 q.ind.length bfc1, .int .i64 q.pen, .slice bf2 q.que.length bfc2, .slice bf3 q.frm.length bfc3, .int .u16 (q.flg : Int)] 27) := ⟨_, rfl⟩
      have HWz7 : Hid (Wz7 = z7.alloc (.cells #[.slice bf1 q.ind.length bfc1, .int .i64 q.pen, .slice bf2 q.que.length bfc2, .slice bf3 q.frm.length bfc3, .int .u16 (q.flg : Int)] 27)) := hW9
      have OS_Oo : Hid (wr.heap.size ≤ z7.heap.size) := hb9.size
      have ZOo : Hid (Own wr.heap.size z7 (.slice bf1 q.ind.length bfc1) (.slice bf2 q.que.length bfc2) (.slice bf3 q.frm.length bfc3) q) := ho9
      have Oo_36 : Hid (Own wr.heap.size z7 (.slice bf1 q.ind.length bfc1) (.slice bf2 q.que.length bfc2) (.slice bf3 q.frm.length bfc3) q) := ho9
      clear ho9 hb9
      have hba : Below z7.heap.size z7 Wz7 := by rw [hW9]; exact bel_up _ _
      have hb := hba
      have R_37 : Hid (Wz7.ownsRow w.heap.size 3 1 (.slice (some ⟨g1, 0, none⟩) (s.ind.length + 2) k1) (s.ind.length + 2) (iC s.ind ++ [.int .i64 1, .int .i64 2]) ∧ Wz7.ownsRow w.heap.size 9 1 (.slice (some ⟨g2, 0, none⟩) (s.que.length + 2) k2) (s.que.length + 2) (qC s.que ++ [.string ⟨#[97]⟩, .string ⟨#[98]⟩]) ∧ Wz7.ownsRow w.heap.size 42 2 (.slice (some ⟨g3, 0, none⟩) (s.frm.length + 2) k3) (s.frm.length + 2) (fC s.frm ++ [.int .i64 0, .string ⟨#[]⟩, .int .i64 0, .string ⟨#[]⟩])) := ⟨row_up R_35.out.1 hb, row_up R_35.out.2.1 hb, row_up R_35.out.2.2 hb⟩
      have BW_37 : Hid (Below w.heap.size w Wz7) := below_trans BW_35.out hb
      have PS_37 : Hid (Wz7.heap[w.heap.size]? = some (.cells #[.slice a1 s.ind.length c1, .int .i64 s.pen, .slice a2 s.que.length c2, .slice a3 s.frm.length c3, .int .u16 (s.flg : Int)] 27 (0, 0))) := (hb.block _ (lt_of_heap PS_35.out)).trans PS_35.out
      have PX_37 : Hid (Wz7.heap[T]? = some (.cells #[.slice (some ⟨g1, 0, none⟩) s.ind.length k1, .int .i64 s.pen, .slice (some ⟨g2, 0, none⟩) s.que.length k2, .slice (some ⟨g3, 0, none⟩) s.frm.length k3, .int .u16 (s.flg : Int)] 27 (0, 0))) := (hb.block _ (lt_of_heap PX_35.out)).trans PX_35.out
      have S_37 : Hid (Stm Wz7 (.slice a1 s.ind.length c1) (.slice a2 s.que.length c2) (.slice a3 s.frm.length c3) s) := S_35.out.up hb
      have Ll_37 : Hid (Rw Wz7 (.slice av_ l.length cv_) l.length (aC l)) := Ll_35.out.up hb
      have Aa_37 : Hid (Own wc.heap.size Wz7 (.slice ba1 t.ind.length bac1) (.slice ba2 t.que.length bac2) (.slice ba3 t.frm.length bac3) t) := Aa_35.out.up hb
      have QA_37 : Hid (Wz7.heap[z1.heap.size]? = some (.cells #[.slice ba1 t.ind.length bac1, .int .i64 t.pen, .slice ba2 t.que.length bac2, .slice ba3 t.frm.length bac3, .int .u16 (t.flg : Int)] 27 (0, 0))) := (hb.block _ (lt_of_heap QA_35.out)).trans QA_35.out
      have L_z1_37 : Hid (z1.heap.size < Wz7.heap.size) := Nat.lt_of_lt_of_le L_z1_35.out hb.size
      have Bb_37 : Hid (Own Wz1.heap.size Wz7 (.slice bb1 t.ind.length bbc1) (.slice bb2 t.que.length bbc2) (.slice bb3 t.frm.length bbc3) t) := Bb_35.out.up hb
      have QB_37 : Hid (Wz7.heap[z2.heap.size]? = some (.cells #[.slice bb1 t.ind.length bbc1, .int .i64 t.pen, .slice bb2 t.que.length bbc2, .slice bb3 t.frm.length bbc3, .int .u16 (t.flg : Int)] 27 (0, 0))) := (hb.block _ (lt_of_heap QB_35.out)).trans QB_35.out
      have L_z2_37 : Hid (z2.heap.size < Wz7.heap.size) := Nat.lt_of_lt_of_le L_z2_35.out hb.size
      have Ww_37 : Hid (Own Wz2.heap.size Wz7 (.slice bc1 t.ind.length bcc1) (.slice bc2 t.que.length bcc2) (.slice bc3 t.frm.length bcc3) t) := Ww_35.out.up hb
      have QW_37 : Hid (Wz7.heap[z3.heap.size]? = some (.cells #[.slice bc1 t.ind.length bcc1, .int .i64 t.pen, .slice bc2 t.que.length bcc2, .slice bc3 t.frm.length bcc3, .int .u16 (t.flg : Int)] 27 (0, 0))) := (hb.block _ (lt_of_heap QW_35.out)).trans QW_35.out
      have L_z3_37 : Hid (z3.heap.size < Wz7.heap.size) := Nat.lt_of_lt_of_le L_z3_35.out hb.size
      have Cc_37 : Hid (Own z4.heap.size Wz7 (.slice bd1 D.ind.length bdc1) (.slice bd2 D.que.length bdc2) (.slice bd3 D.frm.length bdc3) D) := Cc_35.out.up hb
      have QC_37 : Hid (Wz7.heap[z5.heap.size]? = some (.cells #[.slice bd1 D.ind.length bdc1, .int .i64 D.pen, .slice bd2 D.que.length bdc2, .slice bd3 D.frm.length bdc3, .int .u16 (D.flg : Int)] 27 (0, 0))) := (hb.block _ (lt_of_heap QC_35.out)).trans QC_35.out
      have L_z5_37 : Hid (z5.heap.size < Wz7.heap.size) := Nat.lt_of_lt_of_le L_z5_35.out hb.size
      have Dd_37 : Hid (Own Wz5.heap.size Wz7 (.slice be1 D.ind.length bec1) (.slice be2 D.que.length bec2) (.slice be3 D.frm.length bec3) D) := Dd_35.out.up hb
      have QD_37 : Hid (Wz7.heap[z6.heap.size]? = some (.cells #[.slice be1 D.ind.length bec1, .int .i64 D.pen, .slice be2 D.que.length bec2, .slice be3 D.frm.length bec3, .int .u16 (D.flg : Int)] 27 (0, 0))) := (hb.block _ (lt_of_heap QD_35.out)).trans QD_35.out
      have L_z6_37 : Hid (z6.heap.size < Wz7.heap.size) := Nat.lt_of_lt_of_le L_z6_35.out hb.size
      have Fw_37 : Hid (Rw Wz7 (.slice fa_ fw.length fc_) fw.length (aC fw)) := Fw_35.out.up hb
      have Oo_37 : Hid (Own wr.heap.size Wz7 (.slice bf1 q.ind.length bfc1) (.slice bf2 q.que.length bfc2) (.slice bf3 q.frm.length bfc3) q) := Oo_36.out.up hb
      clear hb R_35 BW_35 PS_35 PX_35 S_35 Ll_35 Aa_35 QA_35 L_z1_35 Bb_35 QB_35 L_z2_35 Ww_35 QW_35 L_z3_35 Cc_35 QC_35 L_z5_35 Dd_35 QD_35 L_z6_35 Fw_35 Oo_36
      have QO_38 : Hid (Wz7.heap[z7.heap.size]? = some (.cells #[.slice bf1 q.ind.length bfc1, .int .i64 q.pen, .slice bf2 q.que.length bfc2, .slice bf3 q.frm.length bfc3, .int .u16 (q.flg : Int)] 27 (0, 0))) := by rw [hW9]; exact heap_new z7 _
      have L_z7_39 : Hid (z7.heap.size < Wz7.heap.size) := by rw [hW9, World.size_alloc]; exact Nat.lt_succ_self _
      clear hW9 hba
      go_upto_region 19 with fail
      rw [← HWz7.out]
      clear Fw_37
      obtain ⟨p0, p1, p2, p3, p4⟩ := box_cells QO_38.out
      have ML_z1_Vv : Hid (z1.heap.size < Wz7.heap.size) := L_z1_37.out
      have ML_z2_Vv : Hid (z2.heap.size < Wz7.heap.size) := L_z2_37.out
      have ML_z3_Vv : Hid (z3.heap.size < Wz7.heap.size) := L_z3_37.out
      have ML_z5_Vv : Hid (z5.heap.size < Wz7.heap.size) := L_z5_37.out
      have ML_z6_Vv : Hid (z6.heap.size < Wz7.heap.size) := L_z6_37.out
      have ML_z7_Vv : Hid (z7.heap.size < Wz7.heap.size) := L_z7_39.out
      go_wp2_with fail
      refine (twin_as Wz7 Oo_37.out.stm rfl rfl (by have := HQL.out; omega) (by have := HQL.out; omega) (by have := HQL.out; omega)).mono ?_
      rintro e z8 ⟨vi9, vq9, vf9, rfl, ho9, hb9⟩
      obtain ⟨bg1, bgc1, bg2, bgc2, bg3, bgc3, rfl, rfl, rfl⟩ := ho9.stm.form
      clear p0 p1 p2 p3 p4
      have hb := hb9
      have R_40 : Hid (z8.ownsRow w.heap.size 3 1 (.slice (some ⟨g1, 0, none⟩) (s.ind.length + 2) k1) (s.ind.length + 2) (iC s.ind ++ [.int .i64 1, .int .i64 2]) ∧ z8.ownsRow w.heap.size 9 1 (.slice (some ⟨g2, 0, none⟩) (s.que.length + 2) k2) (s.que.length + 2) (qC s.que ++ [.string ⟨#[97]⟩, .string ⟨#[98]⟩]) ∧ z8.ownsRow w.heap.size 42 2 (.slice (some ⟨g3, 0, none⟩) (s.frm.length + 2) k3) (s.frm.length + 2) (fC s.frm ++ [.int .i64 0, .string ⟨#[]⟩, .int .i64 0, .string ⟨#[]⟩])) := ⟨row_up R_37.out.1 hb, row_up R_37.out.2.1 hb, row_up R_37.out.2.2 hb⟩
      have BW_40 : Hid (Below w.heap.size w z8) := below_trans BW_37.out hb
      have PS_40 : Hid (z8.heap[w.heap.size]? = some (.cells #[.slice a1 s.ind.length c1, .int .i64 s.pen, .slice a2 s.que.length c2, .slice a3 s.frm.length c3, .int .u16 (s.flg : Int)] 27 (0, 0))) := (hb.block _ (lt_of_heap PS_37.out)).trans PS_37.out
      have PX_40 : Hid (z8.heap[T]? = some (.cells #[.slice (some ⟨g1, 0, none⟩) s.ind.length k1, .int .i64 s.pen, .slice (some ⟨g2, 0, none⟩) s.que.length k2, .slice (some ⟨g3, 0, none⟩) s.frm.length k3, .int .u16 (s.flg : Int)] 27 (0, 0))) := (hb.block _ (lt_of_heap PX_37.out)).trans PX_37.out
      have S_40 : Hid (Stm z8 (.slice a1 s.ind.length c1) (.slice a2 s.que.length c2) (.slice a3 s.frm.length c3) s) := S_37.out.up hb
      have Ll_40 : Hid (Rw z8 (.slice av_ l.length cv_) l.length (aC l)) := Ll_37.out.up hb
      have Aa_40 : Hid (Own wc.heap.size z8 (.slice ba1 t.ind.length bac1) (.slice ba2 t.que.length bac2) (.slice ba3 t.frm.length bac3) t) := Aa_37.out.up hb
      have QA_40 : Hid (z8.heap[z1.heap.size]? = some (.cells #[.slice ba1 t.ind.length bac1, .int .i64 t.pen, .slice ba2 t.que.length bac2, .slice ba3 t.frm.length bac3, .int .u16 (t.flg : Int)] 27 (0, 0))) := (hb.block _ (lt_of_heap QA_37.out)).trans QA_37.out
      have L_z1_40 : Hid (z1.heap.size < z8.heap.size) := Nat.lt_of_lt_of_le L_z1_37.out hb.size
      have Bb_40 : Hid (Own Wz1.heap.size z8 (.slice bb1 t.ind.length bbc1) (.slice bb2 t.que.length bbc2) (.slice bb3 t.frm.length bbc3) t) := Bb_37.out.up hb
      have QB_40 : Hid (z8.heap[z2.heap.size]? = some (.cells #[.slice bb1 t.ind.length bbc1, .int .i64 t.pen, .slice bb2 t.que.length bbc2, .slice bb3 t.frm.length bbc3, .int .u16 (t.flg : Int)] 27 (0, 0))) := (hb.block _ (lt_of_heap QB_37.out)).trans QB_37.out
      have L_z2_40 : Hid (z2.heap.size < z8.heap.size) := Nat.lt_of_lt_of_le L_z2_37.out hb.size
      have Ww_40 : Hid (Own Wz2.heap.size z8 (.slice bc1 t.ind.length bcc1) (.slice bc2 t.que.length bcc2) (.slice bc3 t.frm.length bcc3) t) := Ww_37.out.up hb
      have QW_40 : Hid (z8.heap[z3.heap.size]? = some (.cells #[.slice bc1 t.ind.length bcc1, .int .i64 t.pen, .slice bc2 t.que.length bcc2, .slice bc3 t.frm.length bcc3, .int .u16 (t.flg : Int)] 27 (0, 0))) := (hb.block _ (lt_of_heap QW_37.out)).trans QW_37.out
      have L_z3_40 : Hid (z3.heap.size < z8.heap.size) := Nat.lt_of_lt_of_le L_z3_37.out hb.size
      have Cc_40 : Hid (Own z4.heap.size z8 (.slice bd1 D.ind.length bdc1) (.slice bd2 D.que.length bdc2) (.slice bd3 D.frm.length bdc3) D) := Cc_37.out.up hb
      have QC_40 : Hid (z8.heap[z5.heap.size]? = some (.cells #[.slice bd1 D.ind.length bdc1, .int .i64 D.pen, .slice bd2 D.que.length bdc2, .slice bd3 D.frm.length bdc3, .int .u16 (D.flg : Int)] 27 (0, 0))) := (hb.block _ (lt_of_heap QC_37.out)).trans QC_37.out
      have L_z5_40 : Hid (z5.heap.size < z8.heap.size) := Nat.lt_of_lt_of_le L_z5_37.out hb.size
      have Dd_40 : Hid (Own Wz5.heap.size z8 (.slice be1 D.ind.length bec1) (.slice be2 D.que.length bec2) (.slice be3 D.frm.length bec3) D) := Dd_37.out.up hb
      have QD_40 : Hid (z8.heap[z6.heap.size]? = some (.cells #[.slice be1 D.ind.length bec1, .int .i64 D.pen, .slice be2 D.que.length bec2, .slice be3 D.frm.length bec3, .int .u16 (D.flg : Int)] 27 (0, 0))) := (hb.block _ (lt_of_heap QD_37.out)).trans QD_37.out
      have L_z6_40 : Hid (z6.heap.size < z8.heap.size) := Nat.lt_of_lt_of_le L_z6_37.out hb.size
      have Oo_40 : Hid (Own wr.heap.size z8 (.slice bf1 q.ind.length bfc1) (.slice bf2 q.que.length bfc2) (.slice bf3 q.frm.length bfc3) q) := Oo_37.out.up hb
      have QO_40 : Hid (z8.heap[z7.heap.size]? = some (.cells #[.slice bf1 q.ind.length bfc1, .int .i64 q.pen, .slice bf2 q.que.length bfc2, .slice bf3 q.frm.length bfc3, .int .u16 (q.flg : Int)] 27 (0, 0))) := (hb.block _ (lt_of_heap QO_38.out)).trans QO_38.out
      have L_z7_40 : Hid (z7.heap.size < z8.heap.size) := Nat.lt_of_lt_of_le L_z7_39.out hb.size
      clear hb R_37 BW_37 PS_37 PX_37 S_37 Ll_37 Aa_37 QA_37 L_z1_37 Bb_37 QB_37 L_z2_37 Ww_37 QW_37 L_z3_37 Cc_37 QC_37 L_z5_37 Dd_37 QD_37 L_z6_37 Oo_37 QO_38 L_z7_39
      have OL_z1_z8 : Hid (z1.heap.size < z8.heap.size) := L_z1_40.out
      have OL_z2_z8 : Hid (z2.heap.size < z8.heap.size) := L_z2_40.out
      have OL_z3_z8 : Hid (z3.heap.size < z8.heap.size) := L_z3_40.out
      have OL_z5_z8 : Hid (z5.heap.size < z8.heap.size) := L_z5_40.out
      have OL_z6_z8 : Hid (z6.heap.size < z8.heap.size) := L_z6_40.out
      have OL_z7_z8 : Hid (z7.heap.size < z8.heap.size) := L_z7_40.out
      obtain ⟨Wz8, hW9⟩ : ∃ Wz8, Wz8 = z8.alloc (.cells #[.slice bg1 q.ind.length bgc1, .int .i64 q.pen, .slice bg2 q.que.length bgc2, .slice bg3 q.frm.length bgc3, .int .u16 (q.flg : Int)] 27) := ⟨_, rfl⟩
      have HWz8 : Hid (Wz8 = z8.alloc (.cells #[.slice bg1 q.ind.length bgc1, .int .i64 q.pen, .slice bg2 q.que.length bgc2, .slice bg3 q.frm.length bgc3, .int .u16 (q.flg : Int)] 27)) := hW9
      have OS_Vv : Hid (Wz7.heap.size ≤ z8.heap.size) := hb9.size
      have ZVv : Hid (Own Wz7.heap.size z8 (.slice bg1 q.ind.length bgc1) (.slice bg2 q.que.length bgc2) (.slice bg3 q.frm.length bgc3) q) := ho9
      have Vv_41 : Hid (Own Wz7.heap.size z8 (.slice bg1 q.ind.length bgc1) (.slice bg2 q.que.length bgc2) (.slice bg3 q.frm.length bgc3) q) := ho9
      clear ho9 hb9
      have hba : Below z8.heap.size z8 Wz8 := by rw [hW9]; exact bel_up _ _
      have hb := hba
      have R_42 : Hid (Wz8.ownsRow w.heap.size 3 1 (.slice (some ⟨g1, 0, none⟩) (s.ind.length + 2) k1) (s.ind.length + 2) (iC s.ind ++ [.int .i64 1, .int .i64 2]) ∧ Wz8.ownsRow w.heap.size 9 1 (.slice (some ⟨g2, 0, none⟩) (s.que.length + 2) k2) (s.que.length + 2) (qC s.que ++ [.string ⟨#[97]⟩, .string ⟨#[98]⟩]) ∧ Wz8.ownsRow w.heap.size 42 2 (.slice (some ⟨g3, 0, none⟩) (s.frm.length + 2) k3) (s.frm.length + 2) (fC s.frm ++ [.int .i64 0, .string ⟨#[]⟩, .int .i64 0, .string ⟨#[]⟩])) := ⟨row_up R_40.out.1 hb, row_up R_40.out.2.1 hb, row_up R_40.out.2.2 hb⟩
      have BW_42 : Hid (Below w.heap.size w Wz8) := below_trans BW_40.out hb
      have PS_42 : Hid (Wz8.heap[w.heap.size]? = some (.cells #[.slice a1 s.ind.length c1, .int .i64 s.pen, .slice a2 s.que.length c2, .slice a3 s.frm.length c3, .int .u16 (s.flg : Int)] 27 (0, 0))) := (hb.block _ (lt_of_heap PS_40.out)).trans PS_40.out
      have PX_42 : Hid (Wz8.heap[T]? = some (.cells #[.slice (some ⟨g1, 0, none⟩) s.ind.length k1, .int .i64 s.pen, .slice (some ⟨g2, 0, none⟩) s.que.length k2, .slice (some ⟨g3, 0, none⟩) s.frm.length k3, .int .u16 (s.flg : Int)] 27 (0, 0))) := (hb.block _ (lt_of_heap PX_40.out)).trans PX_40.out
      have S_42 : Hid (Stm Wz8 (.slice a1 s.ind.length c1) (.slice a2 s.que.length c2) (.slice a3 s.frm.length c3) s) := S_40.out.up hb
      have Ll_42 : Hid (Rw Wz8 (.slice av_ l.length cv_) l.length (aC l)) := Ll_40.out.up hb
      have Aa_42 : Hid (Own wc.heap.size Wz8 (.slice ba1 t.ind.length bac1) (.slice ba2 t.que.length bac2) (.slice ba3 t.frm.length bac3) t) := Aa_40.out.up hb
      have QA_42 : Hid (Wz8.heap[z1.heap.size]? = some (.cells #[.slice ba1 t.ind.length bac1, .int .i64 t.pen, .slice ba2 t.que.length bac2, .slice ba3 t.frm.length bac3, .int .u16 (t.flg : Int)] 27 (0, 0))) := (hb.block _ (lt_of_heap QA_40.out)).trans QA_40.out
      have L_z1_42 : Hid (z1.heap.size < Wz8.heap.size) := Nat.lt_of_lt_of_le L_z1_40.out hb.size
      have Bb_42 : Hid (Own Wz1.heap.size Wz8 (.slice bb1 t.ind.length bbc1) (.slice bb2 t.que.length bbc2) (.slice bb3 t.frm.length bbc3) t) := Bb_40.out.up hb
      have QB_42 : Hid (Wz8.heap[z2.heap.size]? = some (.cells #[.slice bb1 t.ind.length bbc1, .int .i64 t.pen, .slice bb2 t.que.length bbc2, .slice bb3 t.frm.length bbc3, .int .u16 (t.flg : Int)] 27 (0, 0))) := (hb.block _ (lt_of_heap QB_40.out)).trans QB_40.out
      have L_z2_42 : Hid (z2.heap.size < Wz8.heap.size) := Nat.lt_of_lt_of_le L_z2_40.out hb.size
      have Ww_42 : Hid (Own Wz2.heap.size Wz8 (.slice bc1 t.ind.length bcc1) (.slice bc2 t.que.length bcc2) (.slice bc3 t.frm.length bcc3) t) := Ww_40.out.up hb
      have QW_42 : Hid (Wz8.heap[z3.heap.size]? = some (.cells #[.slice bc1 t.ind.length bcc1, .int .i64 t.pen, .slice bc2 t.que.length bcc2, .slice bc3 t.frm.length bcc3, .int .u16 (t.flg : Int)] 27 (0, 0))) := (hb.block _ (lt_of_heap QW_40.out)).trans QW_40.out
      have L_z3_42 : Hid (z3.heap.size < Wz8.heap.size) := Nat.lt_of_lt_of_le L_z3_40.out hb.size
      have Cc_42 : Hid (Own z4.heap.size Wz8 (.slice bd1 D.ind.length bdc1) (.slice bd2 D.que.length bdc2) (.slice bd3 D.frm.length bdc3) D) := Cc_40.out.up hb
      have QC_42 : Hid (Wz8.heap[z5.heap.size]? = some (.cells #[.slice bd1 D.ind.length bdc1, .int .i64 D.pen, .slice bd2 D.que.length bdc2, .slice bd3 D.frm.length bdc3, .int .u16 (D.flg : Int)] 27 (0, 0))) := (hb.block _ (lt_of_heap QC_40.out)).trans QC_40.out
      have L_z5_42 : Hid (z5.heap.size < Wz8.heap.size) := Nat.lt_of_lt_of_le L_z5_40.out hb.size
      have Dd_42 : Hid (Own Wz5.heap.size Wz8 (.slice be1 D.ind.length bec1) (.slice be2 D.que.length bec2) (.slice be3 D.frm.length bec3) D) := Dd_40.out.up hb
      have QD_42 : Hid (Wz8.heap[z6.heap.size]? = some (.cells #[.slice be1 D.ind.length bec1, .int .i64 D.pen, .slice be2 D.que.length bec2, .slice be3 D.frm.length bec3, .int .u16 (D.flg : Int)] 27 (0, 0))) := (hb.block _ (lt_of_heap QD_40.out)).trans QD_40.out
      have L_z6_42 : Hid (z6.heap.size < Wz8.heap.size) := Nat.lt_of_lt_of_le L_z6_40.out hb.size
      have Oo_42 : Hid (Own wr.heap.size Wz8 (.slice bf1 q.ind.length bfc1) (.slice bf2 q.que.length bfc2) (.slice bf3 q.frm.length bfc3) q) := Oo_40.out.up hb
      have QO_42 : Hid (Wz8.heap[z7.heap.size]? = some (.cells #[.slice bf1 q.ind.length bfc1, .int .i64 q.pen, .slice bf2 q.que.length bfc2, .slice bf3 q.frm.length bfc3, .int .u16 (q.flg : Int)] 27 (0, 0))) := (hb.block _ (lt_of_heap QO_40.out)).trans QO_40.out
      have L_z7_42 : Hid (z7.heap.size < Wz8.heap.size) := Nat.lt_of_lt_of_le L_z7_40.out hb.size
      have Vv_42 : Hid (Own Wz7.heap.size Wz8 (.slice bg1 q.ind.length bgc1) (.slice bg2 q.que.length bgc2) (.slice bg3 q.frm.length bgc3) q) := Vv_41.out.up hb
      clear hb R_40 BW_40 PS_40 PX_40 S_40 Ll_40 Aa_40 QA_40 L_z1_40 Bb_40 QB_40 L_z2_40 Ww_40 QW_40 L_z3_40 Cc_40 QC_40 L_z5_40 Dd_40 QD_40 L_z6_40 Oo_40 QO_40 L_z7_40 Vv_41
      have QV_43 : Hid (Wz8.heap[z8.heap.size]? = some (.cells #[.slice bg1 q.ind.length bgc1, .int .i64 q.pen, .slice bg2 q.que.length bgc2, .slice bg3 q.frm.length bgc3, .int .u16 (q.flg : Int)] 27 (0, 0))) := by rw [hW9]; exact heap_new z8 _
      have L_z8_44 : Hid (z8.heap.size < Wz8.heap.size) := by rw [hW9, World.size_alloc]; exact Nat.lt_succ_self _
      clear hW9 hba
      go_upto_region 20 with fail
      rw [← HWz8.out]
      obtain ⟨p0, p1, p2, p3, p4⟩ := box_cells QD_42.out
      have ML_z1_Rr : Hid (z1.heap.size < Wz8.heap.size) := L_z1_42.out
      have ML_z2_Rr : Hid (z2.heap.size < Wz8.heap.size) := L_z2_42.out
      have ML_z3_Rr : Hid (z3.heap.size < Wz8.heap.size) := L_z3_42.out
      have ML_z5_Rr : Hid (z5.heap.size < Wz8.heap.size) := L_z5_42.out
      have ML_z6_Rr : Hid (z6.heap.size < Wz8.heap.size) := L_z6_42.out
      have ML_z7_Rr : Hid (z7.heap.size < Wz8.heap.size) := L_z7_42.out
      have ML_z8_Rr : Hid (z8.heap.size < Wz8.heap.size) := L_z8_44.out
      go_wp2_with fail
      refine (twin_as Wz8 Dd_42.out.stm rfl rfl (by have := HDL.out; omega) (by have := HDL.out; omega) (by have := HDL.out; omega)).mono ?_
      rintro e z9 ⟨vi9, vq9, vf9, rfl, ho9, hb9⟩
      obtain ⟨bh1, bhc1, bh2, bhc2, bh3, bhc3, rfl, rfl, rfl⟩ := ho9.stm.form
      clear p0 p1 p2 p3 p4
      have hb := hb9
      have R_45 : Hid (z9.ownsRow w.heap.size 3 1 (.slice (some ⟨g1, 0, none⟩) (s.ind.length + 2) k1) (s.ind.length + 2) (iC s.ind ++ [.int .i64 1, .int .i64 2]) ∧ z9.ownsRow w.heap.size 9 1 (.slice (some ⟨g2, 0, none⟩) (s.que.length + 2) k2) (s.que.length + 2) (qC s.que ++ [.string ⟨#[97]⟩, .string ⟨#[98]⟩]) ∧ z9.ownsRow w.heap.size 42 2 (.slice (some ⟨g3, 0, none⟩) (s.frm.length + 2) k3) (s.frm.length + 2) (fC s.frm ++ [.int .i64 0, .string ⟨#[]⟩, .int .i64 0, .string ⟨#[]⟩])) := ⟨row_up R_42.out.1 hb, row_up R_42.out.2.1 hb, row_up R_42.out.2.2 hb⟩
      have BW_45 : Hid (Below w.heap.size w z9) := below_trans BW_42.out hb
      have PS_45 : Hid (z9.heap[w.heap.size]? = some (.cells #[.slice a1 s.ind.length c1, .int .i64 s.pen, .slice a2 s.que.length c2, .slice a3 s.frm.length c3, .int .u16 (s.flg : Int)] 27 (0, 0))) := (hb.block _ (lt_of_heap PS_42.out)).trans PS_42.out
      have PX_45 : Hid (z9.heap[T]? = some (.cells #[.slice (some ⟨g1, 0, none⟩) s.ind.length k1, .int .i64 s.pen, .slice (some ⟨g2, 0, none⟩) s.que.length k2, .slice (some ⟨g3, 0, none⟩) s.frm.length k3, .int .u16 (s.flg : Int)] 27 (0, 0))) := (hb.block _ (lt_of_heap PX_42.out)).trans PX_42.out
      have S_45 : Hid (Stm z9 (.slice a1 s.ind.length c1) (.slice a2 s.que.length c2) (.slice a3 s.frm.length c3) s) := S_42.out.up hb
      have Ll_45 : Hid (Rw z9 (.slice av_ l.length cv_) l.length (aC l)) := Ll_42.out.up hb
      have Aa_45 : Hid (Own wc.heap.size z9 (.slice ba1 t.ind.length bac1) (.slice ba2 t.que.length bac2) (.slice ba3 t.frm.length bac3) t) := Aa_42.out.up hb
      have QA_45 : Hid (z9.heap[z1.heap.size]? = some (.cells #[.slice ba1 t.ind.length bac1, .int .i64 t.pen, .slice ba2 t.que.length bac2, .slice ba3 t.frm.length bac3, .int .u16 (t.flg : Int)] 27 (0, 0))) := (hb.block _ (lt_of_heap QA_42.out)).trans QA_42.out
      have L_z1_45 : Hid (z1.heap.size < z9.heap.size) := Nat.lt_of_lt_of_le L_z1_42.out hb.size
      have Bb_45 : Hid (Own Wz1.heap.size z9 (.slice bb1 t.ind.length bbc1) (.slice bb2 t.que.length bbc2) (.slice bb3 t.frm.length bbc3) t) := Bb_42.out.up hb
      have QB_45 : Hid (z9.heap[z2.heap.size]? = some (.cells #[.slice bb1 t.ind.length bbc1, .int .i64 t.pen, .slice bb2 t.que.length bbc2, .slice bb3 t.frm.length bbc3, .int .u16 (t.flg : Int)] 27 (0, 0))) := (hb.block _ (lt_of_heap QB_42.out)).trans QB_42.out
      have L_z2_45 : Hid (z2.heap.size < z9.heap.size) := Nat.lt_of_lt_of_le L_z2_42.out hb.size
      have Ww_45 : Hid (Own Wz2.heap.size z9 (.slice bc1 t.ind.length bcc1) (.slice bc2 t.que.length bcc2) (.slice bc3 t.frm.length bcc3) t) := Ww_42.out.up hb
      have QW_45 : Hid (z9.heap[z3.heap.size]? = some (.cells #[.slice bc1 t.ind.length bcc1, .int .i64 t.pen, .slice bc2 t.que.length bcc2, .slice bc3 t.frm.length bcc3, .int .u16 (t.flg : Int)] 27 (0, 0))) := (hb.block _ (lt_of_heap QW_42.out)).trans QW_42.out
      have L_z3_45 : Hid (z3.heap.size < z9.heap.size) := Nat.lt_of_lt_of_le L_z3_42.out hb.size
      have Cc_45 : Hid (Own z4.heap.size z9 (.slice bd1 D.ind.length bdc1) (.slice bd2 D.que.length bdc2) (.slice bd3 D.frm.length bdc3) D) := Cc_42.out.up hb
      have QC_45 : Hid (z9.heap[z5.heap.size]? = some (.cells #[.slice bd1 D.ind.length bdc1, .int .i64 D.pen, .slice bd2 D.que.length bdc2, .slice bd3 D.frm.length bdc3, .int .u16 (D.flg : Int)] 27 (0, 0))) := (hb.block _ (lt_of_heap QC_42.out)).trans QC_42.out
      have L_z5_45 : Hid (z5.heap.size < z9.heap.size) := Nat.lt_of_lt_of_le L_z5_42.out hb.size
      have Dd_45 : Hid (Own Wz5.heap.size z9 (.slice be1 D.ind.length bec1) (.slice be2 D.que.length bec2) (.slice be3 D.frm.length bec3) D) := Dd_42.out.up hb
      have QD_45 : Hid (z9.heap[z6.heap.size]? = some (.cells #[.slice be1 D.ind.length bec1, .int .i64 D.pen, .slice be2 D.que.length bec2, .slice be3 D.frm.length bec3, .int .u16 (D.flg : Int)] 27 (0, 0))) := (hb.block _ (lt_of_heap QD_42.out)).trans QD_42.out
      have L_z6_45 : Hid (z6.heap.size < z9.heap.size) := Nat.lt_of_lt_of_le L_z6_42.out hb.size
      have Oo_45 : Hid (Own wr.heap.size z9 (.slice bf1 q.ind.length bfc1) (.slice bf2 q.que.length bfc2) (.slice bf3 q.frm.length bfc3) q) := Oo_42.out.up hb
      have QO_45 : Hid (z9.heap[z7.heap.size]? = some (.cells #[.slice bf1 q.ind.length bfc1, .int .i64 q.pen, .slice bf2 q.que.length bfc2, .slice bf3 q.frm.length bfc3, .int .u16 (q.flg : Int)] 27 (0, 0))) := (hb.block _ (lt_of_heap QO_42.out)).trans QO_42.out
      have L_z7_45 : Hid (z7.heap.size < z9.heap.size) := Nat.lt_of_lt_of_le L_z7_42.out hb.size
      have Vv_45 : Hid (Own Wz7.heap.size z9 (.slice bg1 q.ind.length bgc1) (.slice bg2 q.que.length bgc2) (.slice bg3 q.frm.length bgc3) q) := Vv_42.out.up hb
      have QV_45 : Hid (z9.heap[z8.heap.size]? = some (.cells #[.slice bg1 q.ind.length bgc1, .int .i64 q.pen, .slice bg2 q.que.length bgc2, .slice bg3 q.frm.length bgc3, .int .u16 (q.flg : Int)] 27 (0, 0))) := (hb.block _ (lt_of_heap QV_43.out)).trans QV_43.out
      have L_z8_45 : Hid (z8.heap.size < z9.heap.size) := Nat.lt_of_lt_of_le L_z8_44.out hb.size
      clear hb R_42 BW_42 PS_42 PX_42 S_42 Ll_42 Aa_42 QA_42 L_z1_42 Bb_42 QB_42 L_z2_42 Ww_42 QW_42 L_z3_42 Cc_42 QC_42 L_z5_42 Dd_42 QD_42 L_z6_42 Oo_42 QO_42 L_z7_42 Vv_42 QV_43 L_z8_44
      have OL_z1_z9 : Hid (z1.heap.size < z9.heap.size) := L_z1_45.out
      have OL_z2_z9 : Hid (z2.heap.size < z9.heap.size) := L_z2_45.out
      have OL_z3_z9 : Hid (z3.heap.size < z9.heap.size) := L_z3_45.out
      have OL_z5_z9 : Hid (z5.heap.size < z9.heap.size) := L_z5_45.out
      have OL_z6_z9 : Hid (z6.heap.size < z9.heap.size) := L_z6_45.out
      have OL_z7_z9 : Hid (z7.heap.size < z9.heap.size) := L_z7_45.out
      have OL_z8_z9 : Hid (z8.heap.size < z9.heap.size) := L_z8_45.out
      obtain ⟨Wz9, hW9⟩ : ∃ Wz9, Wz9 = z9.alloc (.cells #[.slice bh1 D.ind.length bhc1, .int .i64 D.pen, .slice bh2 D.que.length bhc2, .slice bh3 D.frm.length bhc3, .int .u16 (D.flg : Int)] 27) := ⟨_, rfl⟩
      have HWz9 : Hid (Wz9 = z9.alloc (.cells #[.slice bh1 D.ind.length bhc1, .int .i64 D.pen, .slice bh2 D.que.length bhc2, .slice bh3 D.frm.length bhc3, .int .u16 (D.flg : Int)] 27)) := hW9
      have OS_Rr : Hid (Wz8.heap.size ≤ z9.heap.size) := hb9.size
      have ZRr : Hid (Own Wz8.heap.size z9 (.slice bh1 D.ind.length bhc1) (.slice bh2 D.que.length bhc2) (.slice bh3 D.frm.length bhc3) D) := ho9
      have Rr_46 : Hid (Own Wz8.heap.size z9 (.slice bh1 D.ind.length bhc1) (.slice bh2 D.que.length bhc2) (.slice bh3 D.frm.length bhc3) D) := ho9
      clear ho9 hb9
      have hba : Below z9.heap.size z9 Wz9 := by rw [hW9]; exact bel_up _ _
      have hb := hba
      have R_47 : Hid (Wz9.ownsRow w.heap.size 3 1 (.slice (some ⟨g1, 0, none⟩) (s.ind.length + 2) k1) (s.ind.length + 2) (iC s.ind ++ [.int .i64 1, .int .i64 2]) ∧ Wz9.ownsRow w.heap.size 9 1 (.slice (some ⟨g2, 0, none⟩) (s.que.length + 2) k2) (s.que.length + 2) (qC s.que ++ [.string ⟨#[97]⟩, .string ⟨#[98]⟩]) ∧ Wz9.ownsRow w.heap.size 42 2 (.slice (some ⟨g3, 0, none⟩) (s.frm.length + 2) k3) (s.frm.length + 2) (fC s.frm ++ [.int .i64 0, .string ⟨#[]⟩, .int .i64 0, .string ⟨#[]⟩])) := ⟨row_up R_45.out.1 hb, row_up R_45.out.2.1 hb, row_up R_45.out.2.2 hb⟩
      have BW_47 : Hid (Below w.heap.size w Wz9) := below_trans BW_45.out hb
      have PS_47 : Hid (Wz9.heap[w.heap.size]? = some (.cells #[.slice a1 s.ind.length c1, .int .i64 s.pen, .slice a2 s.que.length c2, .slice a3 s.frm.length c3, .int .u16 (s.flg : Int)] 27 (0, 0))) := (hb.block _ (lt_of_heap PS_45.out)).trans PS_45.out
      have PX_47 : Hid (Wz9.heap[T]? = some (.cells #[.slice (some ⟨g1, 0, none⟩) s.ind.length k1, .int .i64 s.pen, .slice (some ⟨g2, 0, none⟩) s.que.length k2, .slice (some ⟨g3, 0, none⟩) s.frm.length k3, .int .u16 (s.flg : Int)] 27 (0, 0))) := (hb.block _ (lt_of_heap PX_45.out)).trans PX_45.out
      have S_47 : Hid (Stm Wz9 (.slice a1 s.ind.length c1) (.slice a2 s.que.length c2) (.slice a3 s.frm.length c3) s) := S_45.out.up hb
      have Ll_47 : Hid (Rw Wz9 (.slice av_ l.length cv_) l.length (aC l)) := Ll_45.out.up hb
      have Aa_47 : Hid (Own wc.heap.size Wz9 (.slice ba1 t.ind.length bac1) (.slice ba2 t.que.length bac2) (.slice ba3 t.frm.length bac3) t) := Aa_45.out.up hb
      have QA_47 : Hid (Wz9.heap[z1.heap.size]? = some (.cells #[.slice ba1 t.ind.length bac1, .int .i64 t.pen, .slice ba2 t.que.length bac2, .slice ba3 t.frm.length bac3, .int .u16 (t.flg : Int)] 27 (0, 0))) := (hb.block _ (lt_of_heap QA_45.out)).trans QA_45.out
      have L_z1_47 : Hid (z1.heap.size < Wz9.heap.size) := Nat.lt_of_lt_of_le L_z1_45.out hb.size
      have Bb_47 : Hid (Own Wz1.heap.size Wz9 (.slice bb1 t.ind.length bbc1) (.slice bb2 t.que.length bbc2) (.slice bb3 t.frm.length bbc3) t) := Bb_45.out.up hb
      have QB_47 : Hid (Wz9.heap[z2.heap.size]? = some (.cells #[.slice bb1 t.ind.length bbc1, .int .i64 t.pen, .slice bb2 t.que.length bbc2, .slice bb3 t.frm.length bbc3, .int .u16 (t.flg : Int)] 27 (0, 0))) := (hb.block _ (lt_of_heap QB_45.out)).trans QB_45.out
      have L_z2_47 : Hid (z2.heap.size < Wz9.heap.size) := Nat.lt_of_lt_of_le L_z2_45.out hb.size
      have Ww_47 : Hid (Own Wz2.heap.size Wz9 (.slice bc1 t.ind.length bcc1) (.slice bc2 t.que.length bcc2) (.slice bc3 t.frm.length bcc3) t) := Ww_45.out.up hb
      have QW_47 : Hid (Wz9.heap[z3.heap.size]? = some (.cells #[.slice bc1 t.ind.length bcc1, .int .i64 t.pen, .slice bc2 t.que.length bcc2, .slice bc3 t.frm.length bcc3, .int .u16 (t.flg : Int)] 27 (0, 0))) := (hb.block _ (lt_of_heap QW_45.out)).trans QW_45.out
      have L_z3_47 : Hid (z3.heap.size < Wz9.heap.size) := Nat.lt_of_lt_of_le L_z3_45.out hb.size
      have Cc_47 : Hid (Own z4.heap.size Wz9 (.slice bd1 D.ind.length bdc1) (.slice bd2 D.que.length bdc2) (.slice bd3 D.frm.length bdc3) D) := Cc_45.out.up hb
      have QC_47 : Hid (Wz9.heap[z5.heap.size]? = some (.cells #[.slice bd1 D.ind.length bdc1, .int .i64 D.pen, .slice bd2 D.que.length bdc2, .slice bd3 D.frm.length bdc3, .int .u16 (D.flg : Int)] 27 (0, 0))) := (hb.block _ (lt_of_heap QC_45.out)).trans QC_45.out
      have L_z5_47 : Hid (z5.heap.size < Wz9.heap.size) := Nat.lt_of_lt_of_le L_z5_45.out hb.size
      have Dd_47 : Hid (Own Wz5.heap.size Wz9 (.slice be1 D.ind.length bec1) (.slice be2 D.que.length bec2) (.slice be3 D.frm.length bec3) D) := Dd_45.out.up hb
      have QD_47 : Hid (Wz9.heap[z6.heap.size]? = some (.cells #[.slice be1 D.ind.length bec1, .int .i64 D.pen, .slice be2 D.que.length bec2, .slice be3 D.frm.length bec3, .int .u16 (D.flg : Int)] 27 (0, 0))) := (hb.block _ (lt_of_heap QD_45.out)).trans QD_45.out
      have L_z6_47 : Hid (z6.heap.size < Wz9.heap.size) := Nat.lt_of_lt_of_le L_z6_45.out hb.size
      have Oo_47 : Hid (Own wr.heap.size Wz9 (.slice bf1 q.ind.length bfc1) (.slice bf2 q.que.length bfc2) (.slice bf3 q.frm.length bfc3) q) := Oo_45.out.up hb
      have QO_47 : Hid (Wz9.heap[z7.heap.size]? = some (.cells #[.slice bf1 q.ind.length bfc1, .int .i64 q.pen, .slice bf2 q.que.length bfc2, .slice bf3 q.frm.length bfc3, .int .u16 (q.flg : Int)] 27 (0, 0))) := (hb.block _ (lt_of_heap QO_45.out)).trans QO_45.out
      have L_z7_47 : Hid (z7.heap.size < Wz9.heap.size) := Nat.lt_of_lt_of_le L_z7_45.out hb.size
      have Vv_47 : Hid (Own Wz7.heap.size Wz9 (.slice bg1 q.ind.length bgc1) (.slice bg2 q.que.length bgc2) (.slice bg3 q.frm.length bgc3) q) := Vv_45.out.up hb
      have QV_47 : Hid (Wz9.heap[z8.heap.size]? = some (.cells #[.slice bg1 q.ind.length bgc1, .int .i64 q.pen, .slice bg2 q.que.length bgc2, .slice bg3 q.frm.length bgc3, .int .u16 (q.flg : Int)] 27 (0, 0))) := (hb.block _ (lt_of_heap QV_45.out)).trans QV_45.out
      have L_z8_47 : Hid (z8.heap.size < Wz9.heap.size) := Nat.lt_of_lt_of_le L_z8_45.out hb.size
      have Rr_47 : Hid (Own Wz8.heap.size Wz9 (.slice bh1 D.ind.length bhc1) (.slice bh2 D.que.length bhc2) (.slice bh3 D.frm.length bhc3) D) := Rr_46.out.up hb
      clear hb R_45 BW_45 PS_45 PX_45 S_45 Ll_45 Aa_45 QA_45 L_z1_45 Bb_45 QB_45 L_z2_45 Ww_45 QW_45 L_z3_45 Cc_45 QC_45 L_z5_45 Dd_45 QD_45 L_z6_45 Oo_45 QO_45 L_z7_45 Vv_45 QV_45 L_z8_45 Rr_46
      have QR_48 : Hid (Wz9.heap[z9.heap.size]? = some (.cells #[.slice bh1 D.ind.length bhc1, .int .i64 D.pen, .slice bh2 D.que.length bhc2, .slice bh3 D.frm.length bhc3, .int .u16 (D.flg : Int)] 27 (0, 0))) := by rw [hW9]; exact heap_new z9 _
      have L_z9_49 : Hid (z9.heap.size < Wz9.heap.size) := by rw [hW9, World.size_alloc]; exact Nat.lt_succ_self _
      clear hW9 hba
      go_upto_region 21 with fail
      rw [← HWz9.out]
      clear ne2
      go_cut [146] from 131 to 146 (fun v wx => v = .bool false ∧ wx = Wz9)
      case first =>
        by_cases hG : G = 0
        · have hH := HGH.out hG
          have b1 : (G == 0) = true := by rw [beq_iff_eq]; exact hG
          have b2 : (H != 0) = false := by rw [bne_eq_false_iff_eq]; exact hH
          clear hG hH
          go_wp2_with fail
          go_meet
          exact ⟨rfl, rfl⟩
        · have b1 : (G == 0) = false := by rw [beq_eq_false_iff_ne]; exact hG
          clear hG
          go_wp2_with fail
          go_meet
          exact ⟨rfl, rfl⟩
      case rest =>
      obtain ⟨rfl, hwx⟩ := hcut
      have hwy := hwx.symm
      clear hwx
      subst hwy
      have U1_50 : Hid (wc.heap.size ≤ Wz9.heap.size) := by have h1 := L_z1_47.out; have h2 := OS_Aa.out; show wc.heap.size ≤ _; omega
      have U2_51 : Hid (z4.heap.size ≤ Wz9.heap.size) := by have h1 := L_z5_47.out; have h2 := OS_Cc.out; show z4.heap.size ≤ _; omega
      obtain ⟨p0, p1, p2, p3, p4⟩ := box_cells QA_47.out
      go_wp2_with fail
      refine (spoil_wide Wz9 Aa_47.out (by have := U1_50.out; omega) (by have := HTL.out; omega) (by have := HTL.out; omega) (by have := HTL.out; omega)).mono ?_
      rintro e z10 ⟨⟨rv9, rfl⟩, ⟨s9, q1, q2, q3, q4, q5, ho9⟩, hc9⟩
      clear p0 p1 p2 p3 p4
      have HQ_s9 : Hid (s9.ind.length = t.ind.length ∧ s9.que.length = t.que.length ∧ s9.frm.length = t.frm.length ∧ s9.pen = t.pen ∧ s9.flg = t.flg) := ⟨q1, q2, q3, q4, q5⟩
      clear q1 q2 q3 q4 q5
      have hlow := hc9.below ZAa.out (by have := U1_50.out; omega)
      have hhigh := hc9.kab ZAa.out
      have hsz := hc9.size
      have BW_52 : Hid (Below w.heap.size w z10) := BW_47.out.trans (hlow.mono (by have := HTC.out; omega))
      clear BW_47
      have S_53 : Hid (Stm z10 (.slice a1 s.ind.length c1) (.slice a2 s.que.length c2) (.slice a3 s.frm.length c3) s) := HS.out.up BW_52.out
      clear S_47
      have Ll_54 : Hid (Rw z10 (.slice av_ l.length cv_) l.length (aC l)) := HA.out.up BW_52.out
      clear Ll_47
      have PS_55 : Hid (z10.heap[w.heap.size]? = some (.cells #[.slice a1 s.ind.length c1, .int .i64 s.pen, .slice a2 s.que.length c2, .slice a3 s.frm.length c3, .int .u16 (s.flg : Int)] 27 (0, 0))) := (hlow.block _ (by have := HTC.out; omega)).trans PS_47.out
      clear PS_47
      have PX_56 : Hid (z10.heap[T]? = some (.cells #[.slice (some ⟨g1, 0, none⟩) s.ind.length k1, .int .i64 s.pen, .slice (some ⟨g2, 0, none⟩) s.que.length k2, .slice (some ⟨g3, 0, none⟩) s.frm.length k3, .int .u16 (s.flg : Int)] 27 (0, 0))) := (hlow.block _ HTC.out.2).trans PX_47.out
      clear PX_47
      have R_57 : Hid (z10.ownsRow w.heap.size 3 1 (.slice (some ⟨g1, 0, none⟩) (s.ind.length + 2) k1) (s.ind.length + 2) (iC s.ind ++ [.int .i64 1, .int .i64 2]) ∧ z10.ownsRow w.heap.size 9 1 (.slice (some ⟨g2, 0, none⟩) (s.que.length + 2) k2) (s.que.length + 2) (qC s.que ++ [.string ⟨#[97]⟩, .string ⟨#[98]⟩]) ∧ z10.ownsRow w.heap.size 42 2 (.slice (some ⟨g3, 0, none⟩) (s.frm.length + 2) k3) (s.frm.length + 2) (fC s.frm ++ [.int .i64 0, .string ⟨#[]⟩, .int .i64 0, .string ⟨#[]⟩])) := ⟨row_stay ZR.out.1 R_47.out.1 hlow, row_stay ZR.out.2.1 R_47.out.2.1 hlow, row_stay ZR.out.2.2 R_47.out.2.2 hlow⟩
      clear R_47
      have QB_58 : Hid (z10.heap[z2.heap.size]? = some (.cells #[.slice bb1 t.ind.length bbc1, .int .i64 t.pen, .slice bb2 t.que.length bbc2, .slice bb3 t.frm.length bbc3, .int .u16 (t.flg : Int)] 27 (0, 0))) := (hhigh _ (by have := OL_z1_z2.out; omega) (lt_of_heap QB_47.out)).trans QB_47.out
      clear QB_47
      have QW_59 : Hid (z10.heap[z3.heap.size]? = some (.cells #[.slice bc1 t.ind.length bcc1, .int .i64 t.pen, .slice bc2 t.que.length bcc2, .slice bc3 t.frm.length bcc3, .int .u16 (t.flg : Int)] 27 (0, 0))) := (hhigh _ (by have := OL_z1_z3.out; omega) (lt_of_heap QW_47.out)).trans QW_47.out
      clear QW_47
      have QC_60 : Hid (z10.heap[z5.heap.size]? = some (.cells #[.slice bd1 D.ind.length bdc1, .int .i64 D.pen, .slice bd2 D.que.length bdc2, .slice bd3 D.frm.length bdc3, .int .u16 (D.flg : Int)] 27 (0, 0))) := (hhigh _ (by have := OL_z1_z5.out; omega) (lt_of_heap QC_47.out)).trans QC_47.out
      clear QC_47
      have QD_61 : Hid (z10.heap[z6.heap.size]? = some (.cells #[.slice be1 D.ind.length bec1, .int .i64 D.pen, .slice be2 D.que.length bec2, .slice be3 D.frm.length bec3, .int .u16 (D.flg : Int)] 27 (0, 0))) := (hhigh _ (by have := OL_z1_z6.out; omega) (lt_of_heap QD_47.out)).trans QD_47.out
      clear QD_47
      have QO_62 : Hid (z10.heap[z7.heap.size]? = some (.cells #[.slice bf1 q.ind.length bfc1, .int .i64 q.pen, .slice bf2 q.que.length bfc2, .slice bf3 q.frm.length bfc3, .int .u16 (q.flg : Int)] 27 (0, 0))) := (hhigh _ (by have := OL_z1_z7.out; omega) (lt_of_heap QO_47.out)).trans QO_47.out
      clear QO_47
      have QV_63 : Hid (z10.heap[z8.heap.size]? = some (.cells #[.slice bg1 q.ind.length bgc1, .int .i64 q.pen, .slice bg2 q.que.length bgc2, .slice bg3 q.frm.length bgc3, .int .u16 (q.flg : Int)] 27 (0, 0))) := (hhigh _ (by have := OL_z1_z8.out; omega) (lt_of_heap QV_47.out)).trans QV_47.out
      clear QV_47
      have QR_64 : Hid (z10.heap[z9.heap.size]? = some (.cells #[.slice bh1 D.ind.length bhc1, .int .i64 D.pen, .slice bh2 D.que.length bhc2, .slice bh3 D.frm.length bhc3, .int .u16 (D.flg : Int)] 27 (0, 0))) := (hhigh _ (by have := OL_z1_z9.out; omega) (lt_of_heap QR_48.out)).trans QR_48.out
      clear QR_48
      have Bb_65 : Hid (Own Wz1.heap.size z10 (.slice bb1 t.ind.length bbc1) (.slice bb2 t.que.length bbc2) (.slice bb3 t.frm.length bbc3) t) := Bb_47.out.kab (fun g h1 h2 => hhigh g (by have := ML_z1_Bb.out; omega) h2)
      clear Bb_47
      have Ww_66 : Hid (Own Wz2.heap.size z10 (.slice bc1 t.ind.length bcc1) (.slice bc2 t.que.length bcc2) (.slice bc3 t.frm.length bcc3) t) := Ww_47.out.kab (fun g h1 h2 => hhigh g (by have := ML_z1_Ww.out; omega) h2)
      clear Ww_47
      have Cc_67 : Hid (Own z4.heap.size z10 (.slice bd1 D.ind.length bdc1) (.slice bd2 D.que.length bdc2) (.slice bd3 D.frm.length bdc3) D) := Cc_47.out.kab (fun g h1 h2 => hhigh g (by have := ML_z1_Cc.out; omega) h2)
      clear Cc_47
      have Dd_68 : Hid (Own Wz5.heap.size z10 (.slice be1 D.ind.length bec1) (.slice be2 D.que.length bec2) (.slice be3 D.frm.length bec3) D) := Dd_47.out.kab (fun g h1 h2 => hhigh g (by have := ML_z1_Dd.out; omega) h2)
      clear Dd_47
      have Oo_69 : Hid (Own wr.heap.size z10 (.slice bf1 q.ind.length bfc1) (.slice bf2 q.que.length bfc2) (.slice bf3 q.frm.length bfc3) q) := Oo_47.out.kab (fun g h1 h2 => hhigh g (by have := ML_z1_Oo.out; omega) h2)
      clear Oo_47
      have Vv_70 : Hid (Own Wz7.heap.size z10 (.slice bg1 q.ind.length bgc1) (.slice bg2 q.que.length bgc2) (.slice bg3 q.frm.length bgc3) q) := Vv_47.out.kab (fun g h1 h2 => hhigh g (by have := ML_z1_Vv.out; omega) h2)
      clear Vv_47
      have Rr_71 : Hid (Own Wz8.heap.size z10 (.slice bh1 D.ind.length bhc1) (.slice bh2 D.que.length bhc2) (.slice bh3 D.frm.length bhc3) D) := Rr_47.out.kab (fun g h1 h2 => hhigh g (by have := ML_z1_Rr.out; omega) h2)
      clear Rr_47
      have L_z1_72 : Hid (z1.heap.size < z10.heap.size) := Nat.lt_of_lt_of_le L_z1_47.out hsz
      clear L_z1_47
      have L_z2_73 : Hid (z2.heap.size < z10.heap.size) := Nat.lt_of_lt_of_le L_z2_47.out hsz
      clear L_z2_47
      have L_z3_74 : Hid (z3.heap.size < z10.heap.size) := Nat.lt_of_lt_of_le L_z3_47.out hsz
      clear L_z3_47
      have L_z5_75 : Hid (z5.heap.size < z10.heap.size) := Nat.lt_of_lt_of_le L_z5_47.out hsz
      clear L_z5_47
      have L_z6_76 : Hid (z6.heap.size < z10.heap.size) := Nat.lt_of_lt_of_le L_z6_47.out hsz
      clear L_z6_47
      have L_z7_77 : Hid (z7.heap.size < z10.heap.size) := Nat.lt_of_lt_of_le L_z7_47.out hsz
      clear L_z7_47
      have L_z8_78 : Hid (z8.heap.size < z10.heap.size) := Nat.lt_of_lt_of_le L_z8_47.out hsz
      clear L_z8_47
      have L_z9_79 : Hid (z9.heap.size < z10.heap.size) := Nat.lt_of_lt_of_le L_z9_49.out hsz
      clear L_z9_49
      have U1_80 : Hid (wc.heap.size ≤ z10.heap.size) := Nat.le_trans U1_50.out hsz
      clear U1_50
      have U2_81 : Hid (z4.heap.size ≤ z10.heap.size) := Nat.le_trans U2_51.out hsz
      clear U2_51
      clear QA_47 Aa_47
      clear hlow hhigh hsz ho9 hc9
      obtain ⟨p0, p1, p2, p3, p4⟩ := box_cells QC_60.out
      go_wp2_with fail
      refine (spoil_wide z10 Cc_67.out (by have := U2_81.out; omega) (by have := HDL.out; omega) (by have := HDL.out; omega) (by have := HDL.out; omega)).mono ?_
      rintro e z11 ⟨⟨rv9, rfl⟩, ⟨s8, q1, q2, q3, q4, q5, ho9⟩, hc9⟩
      clear p0 p1 p2 p3 p4
      have HQ_s8 : Hid (s8.ind.length = D.ind.length ∧ s8.que.length = D.que.length ∧ s8.frm.length = D.frm.length ∧ s8.pen = D.pen ∧ s8.flg = D.flg) := ⟨q1, q2, q3, q4, q5⟩
      clear q1 q2 q3 q4 q5
      have hlow := hc9.below ZCc.out (by have := U2_81.out; omega)
      have hhigh := hc9.kab ZCc.out
      have hsz := hc9.size
      have BW_82 : Hid (Below w.heap.size w z11) := BW_52.out.trans (hlow.mono (by have := HTC.out; have := LCw.out; omega))
      clear BW_52
      have S_83 : Hid (Stm z11 (.slice a1 s.ind.length c1) (.slice a2 s.que.length c2) (.slice a3 s.frm.length c3) s) := HS.out.up BW_82.out
      clear S_53
      have Ll_84 : Hid (Rw z11 (.slice av_ l.length cv_) l.length (aC l)) := HA.out.up BW_82.out
      clear Ll_54
      have PS_85 : Hid (z11.heap[w.heap.size]? = some (.cells #[.slice a1 s.ind.length c1, .int .i64 s.pen, .slice a2 s.que.length c2, .slice a3 s.frm.length c3, .int .u16 (s.flg : Int)] 27 (0, 0))) := (hlow.block _ (by have := HTC.out; have := LCw.out; omega)).trans PS_55.out
      clear PS_55
      have PX_86 : Hid (z11.heap[T]? = some (.cells #[.slice (some ⟨g1, 0, none⟩) s.ind.length k1, .int .i64 s.pen, .slice (some ⟨g2, 0, none⟩) s.que.length k2, .slice (some ⟨g3, 0, none⟩) s.frm.length k3, .int .u16 (s.flg : Int)] 27 (0, 0))) := (hlow.block _ (by have := HTC.out; have := LCw.out; omega)).trans PX_56.out
      clear PX_56
      have hlw := hlow.mono LCw.out
      have R_87 : Hid (z11.ownsRow w.heap.size 3 1 (.slice (some ⟨g1, 0, none⟩) (s.ind.length + 2) k1) (s.ind.length + 2) (iC s.ind ++ [.int .i64 1, .int .i64 2]) ∧ z11.ownsRow w.heap.size 9 1 (.slice (some ⟨g2, 0, none⟩) (s.que.length + 2) k2) (s.que.length + 2) (qC s.que ++ [.string ⟨#[97]⟩, .string ⟨#[98]⟩]) ∧ z11.ownsRow w.heap.size 42 2 (.slice (some ⟨g3, 0, none⟩) (s.frm.length + 2) k3) (s.frm.length + 2) (fC s.frm ++ [.int .i64 0, .string ⟨#[]⟩, .int .i64 0, .string ⟨#[]⟩])) := ⟨row_stay ZR.out.1 R_57.out.1 hlw, row_stay ZR.out.2.1 R_57.out.2.1 hlw, row_stay ZR.out.2.2 R_57.out.2.2 hlw⟩
      clear R_57
      have QB_88 : Hid (z11.heap[z2.heap.size]? = some (.cells #[.slice bb1 t.ind.length bbc1, .int .i64 t.pen, .slice bb2 t.que.length bbc2, .slice bb3 t.frm.length bbc3, .int .u16 (t.flg : Int)] 27 (0, 0))) := (hlow.block _ (by have := LC_z2.out; omega)).trans QB_58.out
      clear QB_58
      have QW_89 : Hid (z11.heap[z3.heap.size]? = some (.cells #[.slice bc1 t.ind.length bcc1, .int .i64 t.pen, .slice bc2 t.que.length bcc2, .slice bc3 t.frm.length bcc3, .int .u16 (t.flg : Int)] 27 (0, 0))) := (hlow.block _ (by have := LC_z3.out; omega)).trans QW_59.out
      clear QW_59
      have Bb_90 : Hid (Own Wz1.heap.size z11 (.slice bb1 t.ind.length bbc1) (.slice bb2 t.que.length bbc2) (.slice bb3 t.frm.length bbc3) t) := Own.stay ZBb.out Bb_65.out (hlow.mono (by have := LC_z2.out; omega))
      clear Bb_65
      have Ww_91 : Hid (Own Wz2.heap.size z11 (.slice bc1 t.ind.length bcc1) (.slice bc2 t.que.length bcc2) (.slice bc3 t.frm.length bcc3) t) := Own.stay ZWw.out Ww_66.out (hlow.mono (by have := LC_z3.out; omega))
      clear Ww_66
      have QD_92 : Hid (z11.heap[z6.heap.size]? = some (.cells #[.slice be1 D.ind.length bec1, .int .i64 D.pen, .slice be2 D.que.length bec2, .slice be3 D.frm.length bec3, .int .u16 (D.flg : Int)] 27 (0, 0))) := (hhigh _ (by have := OL_z5_z6.out; omega) (lt_of_heap QD_61.out)).trans QD_61.out
      clear QD_61
      have QO_93 : Hid (z11.heap[z7.heap.size]? = some (.cells #[.slice bf1 q.ind.length bfc1, .int .i64 q.pen, .slice bf2 q.que.length bfc2, .slice bf3 q.frm.length bfc3, .int .u16 (q.flg : Int)] 27 (0, 0))) := (hhigh _ (by have := OL_z5_z7.out; omega) (lt_of_heap QO_62.out)).trans QO_62.out
      clear QO_62
      have QV_94 : Hid (z11.heap[z8.heap.size]? = some (.cells #[.slice bg1 q.ind.length bgc1, .int .i64 q.pen, .slice bg2 q.que.length bgc2, .slice bg3 q.frm.length bgc3, .int .u16 (q.flg : Int)] 27 (0, 0))) := (hhigh _ (by have := OL_z5_z8.out; omega) (lt_of_heap QV_63.out)).trans QV_63.out
      clear QV_63
      have QR_95 : Hid (z11.heap[z9.heap.size]? = some (.cells #[.slice bh1 D.ind.length bhc1, .int .i64 D.pen, .slice bh2 D.que.length bhc2, .slice bh3 D.frm.length bhc3, .int .u16 (D.flg : Int)] 27 (0, 0))) := (hhigh _ (by have := OL_z5_z9.out; omega) (lt_of_heap QR_64.out)).trans QR_64.out
      clear QR_64
      have Dd_96 : Hid (Own Wz5.heap.size z11 (.slice be1 D.ind.length bec1) (.slice be2 D.que.length bec2) (.slice be3 D.frm.length bec3) D) := Dd_68.out.kab (fun g h1 h2 => hhigh g (by have := ML_z5_Dd.out; omega) h2)
      clear Dd_68
      have Oo_97 : Hid (Own wr.heap.size z11 (.slice bf1 q.ind.length bfc1) (.slice bf2 q.que.length bfc2) (.slice bf3 q.frm.length bfc3) q) := Oo_69.out.kab (fun g h1 h2 => hhigh g (by have := ML_z5_Oo.out; omega) h2)
      clear Oo_69
      have Vv_98 : Hid (Own Wz7.heap.size z11 (.slice bg1 q.ind.length bgc1) (.slice bg2 q.que.length bgc2) (.slice bg3 q.frm.length bgc3) q) := Vv_70.out.kab (fun g h1 h2 => hhigh g (by have := ML_z5_Vv.out; omega) h2)
      clear Vv_70
      have Rr_99 : Hid (Own Wz8.heap.size z11 (.slice bh1 D.ind.length bhc1) (.slice bh2 D.que.length bhc2) (.slice bh3 D.frm.length bhc3) D) := Rr_71.out.kab (fun g h1 h2 => hhigh g (by have := ML_z5_Rr.out; omega) h2)
      clear Rr_71
      have L_z1_100 : Hid (z1.heap.size < z11.heap.size) := Nat.lt_of_lt_of_le L_z1_72.out hsz
      clear L_z1_72
      have L_z2_101 : Hid (z2.heap.size < z11.heap.size) := Nat.lt_of_lt_of_le L_z2_73.out hsz
      clear L_z2_73
      have L_z3_102 : Hid (z3.heap.size < z11.heap.size) := Nat.lt_of_lt_of_le L_z3_74.out hsz
      clear L_z3_74
      have L_z5_103 : Hid (z5.heap.size < z11.heap.size) := Nat.lt_of_lt_of_le L_z5_75.out hsz
      clear L_z5_75
      have L_z6_104 : Hid (z6.heap.size < z11.heap.size) := Nat.lt_of_lt_of_le L_z6_76.out hsz
      clear L_z6_76
      have L_z7_105 : Hid (z7.heap.size < z11.heap.size) := Nat.lt_of_lt_of_le L_z7_77.out hsz
      clear L_z7_77
      have L_z8_106 : Hid (z8.heap.size < z11.heap.size) := Nat.lt_of_lt_of_le L_z8_78.out hsz
      clear L_z8_78
      have L_z9_107 : Hid (z9.heap.size < z11.heap.size) := Nat.lt_of_lt_of_le L_z9_79.out hsz
      clear L_z9_79
      have U1_108 : Hid (wc.heap.size ≤ z11.heap.size) := Nat.le_trans U1_80.out hsz
      clear U1_80
      have U2_109 : Hid (z4.heap.size ≤ z11.heap.size) := Nat.le_trans U2_81.out hsz
      clear U2_81
      clear QC_60 Cc_67
      clear hlow hlw hhigh hsz ho9 hc9
      obtain ⟨p0, p1, p2, p3, p4⟩ := box_cells QO_93.out
      obtain ⟨q0, q1, q2, q3, q4⟩ := box_cells QV_94.out
      go_wp2_with fail
      refine (rsame_as z11 Oo_97.out.stm Vv_98.out.stm rfl rfl (by have := HQL.out; omega) (by have := HQL.out; omega) (by have := HQL.out; omega)).mono ?_
      rintro e z12 ⟨rfl, hb9⟩
      clear p0 p1 p2 p3 p4 q0 q1 q2 q3 q4
      have hb := hb9
      have R_110 : Hid (z12.ownsRow w.heap.size 3 1 (.slice (some ⟨g1, 0, none⟩) (s.ind.length + 2) k1) (s.ind.length + 2) (iC s.ind ++ [.int .i64 1, .int .i64 2]) ∧ z12.ownsRow w.heap.size 9 1 (.slice (some ⟨g2, 0, none⟩) (s.que.length + 2) k2) (s.que.length + 2) (qC s.que ++ [.string ⟨#[97]⟩, .string ⟨#[98]⟩]) ∧ z12.ownsRow w.heap.size 42 2 (.slice (some ⟨g3, 0, none⟩) (s.frm.length + 2) k3) (s.frm.length + 2) (fC s.frm ++ [.int .i64 0, .string ⟨#[]⟩, .int .i64 0, .string ⟨#[]⟩])) := ⟨row_up R_87.out.1 hb, row_up R_87.out.2.1 hb, row_up R_87.out.2.2 hb⟩
      have BW_110 : Hid (Below w.heap.size w z12) := below_trans BW_82.out hb
      have PS_110 : Hid (z12.heap[w.heap.size]? = some (.cells #[.slice a1 s.ind.length c1, .int .i64 s.pen, .slice a2 s.que.length c2, .slice a3 s.frm.length c3, .int .u16 (s.flg : Int)] 27 (0, 0))) := (hb.block _ (lt_of_heap PS_85.out)).trans PS_85.out
      have PX_110 : Hid (z12.heap[T]? = some (.cells #[.slice (some ⟨g1, 0, none⟩) s.ind.length k1, .int .i64 s.pen, .slice (some ⟨g2, 0, none⟩) s.que.length k2, .slice (some ⟨g3, 0, none⟩) s.frm.length k3, .int .u16 (s.flg : Int)] 27 (0, 0))) := (hb.block _ (lt_of_heap PX_86.out)).trans PX_86.out
      have S_110 : Hid (Stm z12 (.slice a1 s.ind.length c1) (.slice a2 s.que.length c2) (.slice a3 s.frm.length c3) s) := S_83.out.up hb
      have Ll_110 : Hid (Rw z12 (.slice av_ l.length cv_) l.length (aC l)) := Ll_84.out.up hb
      have L_z1_110 : Hid (z1.heap.size < z12.heap.size) := Nat.lt_of_lt_of_le L_z1_100.out hb.size
      have Bb_110 : Hid (Own Wz1.heap.size z12 (.slice bb1 t.ind.length bbc1) (.slice bb2 t.que.length bbc2) (.slice bb3 t.frm.length bbc3) t) := Bb_90.out.up hb
      have QB_110 : Hid (z12.heap[z2.heap.size]? = some (.cells #[.slice bb1 t.ind.length bbc1, .int .i64 t.pen, .slice bb2 t.que.length bbc2, .slice bb3 t.frm.length bbc3, .int .u16 (t.flg : Int)] 27 (0, 0))) := (hb.block _ (lt_of_heap QB_88.out)).trans QB_88.out
      have L_z2_110 : Hid (z2.heap.size < z12.heap.size) := Nat.lt_of_lt_of_le L_z2_101.out hb.size
      have Ww_110 : Hid (Own Wz2.heap.size z12 (.slice bc1 t.ind.length bcc1) (.slice bc2 t.que.length bcc2) (.slice bc3 t.frm.length bcc3) t) := Ww_91.out.up hb
      have QW_110 : Hid (z12.heap[z3.heap.size]? = some (.cells #[.slice bc1 t.ind.length bcc1, .int .i64 t.pen, .slice bc2 t.que.length bcc2, .slice bc3 t.frm.length bcc3, .int .u16 (t.flg : Int)] 27 (0, 0))) := (hb.block _ (lt_of_heap QW_89.out)).trans QW_89.out
      have L_z3_110 : Hid (z3.heap.size < z12.heap.size) := Nat.lt_of_lt_of_le L_z3_102.out hb.size
      have L_z5_110 : Hid (z5.heap.size < z12.heap.size) := Nat.lt_of_lt_of_le L_z5_103.out hb.size
      have Dd_110 : Hid (Own Wz5.heap.size z12 (.slice be1 D.ind.length bec1) (.slice be2 D.que.length bec2) (.slice be3 D.frm.length bec3) D) := Dd_96.out.up hb
      have QD_110 : Hid (z12.heap[z6.heap.size]? = some (.cells #[.slice be1 D.ind.length bec1, .int .i64 D.pen, .slice be2 D.que.length bec2, .slice be3 D.frm.length bec3, .int .u16 (D.flg : Int)] 27 (0, 0))) := (hb.block _ (lt_of_heap QD_92.out)).trans QD_92.out
      have L_z6_110 : Hid (z6.heap.size < z12.heap.size) := Nat.lt_of_lt_of_le L_z6_104.out hb.size
      have Oo_110 : Hid (Own wr.heap.size z12 (.slice bf1 q.ind.length bfc1) (.slice bf2 q.que.length bfc2) (.slice bf3 q.frm.length bfc3) q) := Oo_97.out.up hb
      have QO_110 : Hid (z12.heap[z7.heap.size]? = some (.cells #[.slice bf1 q.ind.length bfc1, .int .i64 q.pen, .slice bf2 q.que.length bfc2, .slice bf3 q.frm.length bfc3, .int .u16 (q.flg : Int)] 27 (0, 0))) := (hb.block _ (lt_of_heap QO_93.out)).trans QO_93.out
      have L_z7_110 : Hid (z7.heap.size < z12.heap.size) := Nat.lt_of_lt_of_le L_z7_105.out hb.size
      have Vv_110 : Hid (Own Wz7.heap.size z12 (.slice bg1 q.ind.length bgc1) (.slice bg2 q.que.length bgc2) (.slice bg3 q.frm.length bgc3) q) := Vv_98.out.up hb
      have QV_110 : Hid (z12.heap[z8.heap.size]? = some (.cells #[.slice bg1 q.ind.length bgc1, .int .i64 q.pen, .slice bg2 q.que.length bgc2, .slice bg3 q.frm.length bgc3, .int .u16 (q.flg : Int)] 27 (0, 0))) := (hb.block _ (lt_of_heap QV_94.out)).trans QV_94.out
      have L_z8_110 : Hid (z8.heap.size < z12.heap.size) := Nat.lt_of_lt_of_le L_z8_106.out hb.size
      have Rr_110 : Hid (Own Wz8.heap.size z12 (.slice bh1 D.ind.length bhc1) (.slice bh2 D.que.length bhc2) (.slice bh3 D.frm.length bhc3) D) := Rr_99.out.up hb
      have QR_110 : Hid (z12.heap[z9.heap.size]? = some (.cells #[.slice bh1 D.ind.length bhc1, .int .i64 D.pen, .slice bh2 D.que.length bhc2, .slice bh3 D.frm.length bhc3, .int .u16 (D.flg : Int)] 27 (0, 0))) := (hb.block _ (lt_of_heap QR_95.out)).trans QR_95.out
      have L_z9_110 : Hid (z9.heap.size < z12.heap.size) := Nat.lt_of_lt_of_le L_z9_107.out hb.size
      have U1_110 : Hid (wc.heap.size ≤ z12.heap.size) := Nat.le_trans U1_108.out hb.size
      have U2_110 : Hid (z4.heap.size ≤ z12.heap.size) := Nat.le_trans U2_109.out hb.size
      clear hb R_87 BW_82 PS_85 PX_86 S_83 Ll_84 L_z1_100 Bb_90 QB_88 L_z2_101 Ww_91 QW_89 L_z3_102 L_z5_103 Dd_96 QD_92 L_z6_104 Oo_97 QO_93 L_z7_105 Vv_98 QV_94 L_z8_106 Rr_99 QR_95 L_z9_107 U1_108 U2_109
      clear hb9
      obtain ⟨p0, p1, p2, p3, p4⟩ := box_cells QD_110.out
      obtain ⟨q0, q1, q2, q3, q4⟩ := box_cells QR_110.out
      go_wp2_with fail
      refine (rsame_as z12 Dd_110.out.stm Rr_110.out.stm rfl rfl (by have := HDL.out; omega) (by have := HDL.out; omega) (by have := HDL.out; omega)).mono ?_
      rintro e z13 ⟨rfl, hb9⟩
      clear p0 p1 p2 p3 p4 q0 q1 q2 q3 q4
      have hb := hb9
      have R_111 : Hid (z13.ownsRow w.heap.size 3 1 (.slice (some ⟨g1, 0, none⟩) (s.ind.length + 2) k1) (s.ind.length + 2) (iC s.ind ++ [.int .i64 1, .int .i64 2]) ∧ z13.ownsRow w.heap.size 9 1 (.slice (some ⟨g2, 0, none⟩) (s.que.length + 2) k2) (s.que.length + 2) (qC s.que ++ [.string ⟨#[97]⟩, .string ⟨#[98]⟩]) ∧ z13.ownsRow w.heap.size 42 2 (.slice (some ⟨g3, 0, none⟩) (s.frm.length + 2) k3) (s.frm.length + 2) (fC s.frm ++ [.int .i64 0, .string ⟨#[]⟩, .int .i64 0, .string ⟨#[]⟩])) := ⟨row_up R_110.out.1 hb, row_up R_110.out.2.1 hb, row_up R_110.out.2.2 hb⟩
      have BW_111 : Hid (Below w.heap.size w z13) := below_trans BW_110.out hb
      have PS_111 : Hid (z13.heap[w.heap.size]? = some (.cells #[.slice a1 s.ind.length c1, .int .i64 s.pen, .slice a2 s.que.length c2, .slice a3 s.frm.length c3, .int .u16 (s.flg : Int)] 27 (0, 0))) := (hb.block _ (lt_of_heap PS_110.out)).trans PS_110.out
      have PX_111 : Hid (z13.heap[T]? = some (.cells #[.slice (some ⟨g1, 0, none⟩) s.ind.length k1, .int .i64 s.pen, .slice (some ⟨g2, 0, none⟩) s.que.length k2, .slice (some ⟨g3, 0, none⟩) s.frm.length k3, .int .u16 (s.flg : Int)] 27 (0, 0))) := (hb.block _ (lt_of_heap PX_110.out)).trans PX_110.out
      have S_111 : Hid (Stm z13 (.slice a1 s.ind.length c1) (.slice a2 s.que.length c2) (.slice a3 s.frm.length c3) s) := S_110.out.up hb
      have Ll_111 : Hid (Rw z13 (.slice av_ l.length cv_) l.length (aC l)) := Ll_110.out.up hb
      have L_z1_111 : Hid (z1.heap.size < z13.heap.size) := Nat.lt_of_lt_of_le L_z1_110.out hb.size
      have Bb_111 : Hid (Own Wz1.heap.size z13 (.slice bb1 t.ind.length bbc1) (.slice bb2 t.que.length bbc2) (.slice bb3 t.frm.length bbc3) t) := Bb_110.out.up hb
      have QB_111 : Hid (z13.heap[z2.heap.size]? = some (.cells #[.slice bb1 t.ind.length bbc1, .int .i64 t.pen, .slice bb2 t.que.length bbc2, .slice bb3 t.frm.length bbc3, .int .u16 (t.flg : Int)] 27 (0, 0))) := (hb.block _ (lt_of_heap QB_110.out)).trans QB_110.out
      have L_z2_111 : Hid (z2.heap.size < z13.heap.size) := Nat.lt_of_lt_of_le L_z2_110.out hb.size
      have Ww_111 : Hid (Own Wz2.heap.size z13 (.slice bc1 t.ind.length bcc1) (.slice bc2 t.que.length bcc2) (.slice bc3 t.frm.length bcc3) t) := Ww_110.out.up hb
      have QW_111 : Hid (z13.heap[z3.heap.size]? = some (.cells #[.slice bc1 t.ind.length bcc1, .int .i64 t.pen, .slice bc2 t.que.length bcc2, .slice bc3 t.frm.length bcc3, .int .u16 (t.flg : Int)] 27 (0, 0))) := (hb.block _ (lt_of_heap QW_110.out)).trans QW_110.out
      have L_z3_111 : Hid (z3.heap.size < z13.heap.size) := Nat.lt_of_lt_of_le L_z3_110.out hb.size
      have L_z5_111 : Hid (z5.heap.size < z13.heap.size) := Nat.lt_of_lt_of_le L_z5_110.out hb.size
      have Dd_111 : Hid (Own Wz5.heap.size z13 (.slice be1 D.ind.length bec1) (.slice be2 D.que.length bec2) (.slice be3 D.frm.length bec3) D) := Dd_110.out.up hb
      have QD_111 : Hid (z13.heap[z6.heap.size]? = some (.cells #[.slice be1 D.ind.length bec1, .int .i64 D.pen, .slice be2 D.que.length bec2, .slice be3 D.frm.length bec3, .int .u16 (D.flg : Int)] 27 (0, 0))) := (hb.block _ (lt_of_heap QD_110.out)).trans QD_110.out
      have L_z6_111 : Hid (z6.heap.size < z13.heap.size) := Nat.lt_of_lt_of_le L_z6_110.out hb.size
      have Oo_111 : Hid (Own wr.heap.size z13 (.slice bf1 q.ind.length bfc1) (.slice bf2 q.que.length bfc2) (.slice bf3 q.frm.length bfc3) q) := Oo_110.out.up hb
      have QO_111 : Hid (z13.heap[z7.heap.size]? = some (.cells #[.slice bf1 q.ind.length bfc1, .int .i64 q.pen, .slice bf2 q.que.length bfc2, .slice bf3 q.frm.length bfc3, .int .u16 (q.flg : Int)] 27 (0, 0))) := (hb.block _ (lt_of_heap QO_110.out)).trans QO_110.out
      have L_z7_111 : Hid (z7.heap.size < z13.heap.size) := Nat.lt_of_lt_of_le L_z7_110.out hb.size
      have Vv_111 : Hid (Own Wz7.heap.size z13 (.slice bg1 q.ind.length bgc1) (.slice bg2 q.que.length bgc2) (.slice bg3 q.frm.length bgc3) q) := Vv_110.out.up hb
      have QV_111 : Hid (z13.heap[z8.heap.size]? = some (.cells #[.slice bg1 q.ind.length bgc1, .int .i64 q.pen, .slice bg2 q.que.length bgc2, .slice bg3 q.frm.length bgc3, .int .u16 (q.flg : Int)] 27 (0, 0))) := (hb.block _ (lt_of_heap QV_110.out)).trans QV_110.out
      have L_z8_111 : Hid (z8.heap.size < z13.heap.size) := Nat.lt_of_lt_of_le L_z8_110.out hb.size
      have Rr_111 : Hid (Own Wz8.heap.size z13 (.slice bh1 D.ind.length bhc1) (.slice bh2 D.que.length bhc2) (.slice bh3 D.frm.length bhc3) D) := Rr_110.out.up hb
      have QR_111 : Hid (z13.heap[z9.heap.size]? = some (.cells #[.slice bh1 D.ind.length bhc1, .int .i64 D.pen, .slice bh2 D.que.length bhc2, .slice bh3 D.frm.length bhc3, .int .u16 (D.flg : Int)] 27 (0, 0))) := (hb.block _ (lt_of_heap QR_110.out)).trans QR_110.out
      have L_z9_111 : Hid (z9.heap.size < z13.heap.size) := Nat.lt_of_lt_of_le L_z9_110.out hb.size
      have U1_111 : Hid (wc.heap.size ≤ z13.heap.size) := Nat.le_trans U1_110.out hb.size
      have U2_111 : Hid (z4.heap.size ≤ z13.heap.size) := Nat.le_trans U2_110.out hb.size
      clear hb R_110 BW_110 PS_110 PX_110 S_110 Ll_110 L_z1_110 Bb_110 QB_110 L_z2_110 Ww_110 QW_110 L_z3_110 L_z5_110 Dd_110 QD_110 L_z6_110 Oo_110 QO_110 L_z7_110 Vv_110 QV_110 L_z8_110 Rr_110 QR_110 L_z9_110 U1_110 U2_110
      clear hb9
      clear QO_111 Oo_111 QV_111 Vv_111 QD_111 Dd_111 QR_111 Rr_111
      obtain ⟨p0, p1, p2, p3, p4⟩ := box_cells PX_111.out
      obtain ⟨q0, q1, q2, q3, q4⟩ := box_cells PS_111.out
      go_wp2_with fail
      refine (rsame_as z13 (own_of_rows R_111.out.1 R_111.out.2.1 R_111.out.2.2).stm S_111.out rfl rfl (by have := HZ.out.i; omega) (by have := HZ.out.q; omega) (by have := HZ.out.f; omega)).mono ?_
      rintro e z14 ⟨rfl, hb9⟩
      clear p0 p1 p2 p3 p4 q0 q1 q2 q3 q4
      have hb := hb9
      have R_112 : Hid (z14.ownsRow w.heap.size 3 1 (.slice (some ⟨g1, 0, none⟩) (s.ind.length + 2) k1) (s.ind.length + 2) (iC s.ind ++ [.int .i64 1, .int .i64 2]) ∧ z14.ownsRow w.heap.size 9 1 (.slice (some ⟨g2, 0, none⟩) (s.que.length + 2) k2) (s.que.length + 2) (qC s.que ++ [.string ⟨#[97]⟩, .string ⟨#[98]⟩]) ∧ z14.ownsRow w.heap.size 42 2 (.slice (some ⟨g3, 0, none⟩) (s.frm.length + 2) k3) (s.frm.length + 2) (fC s.frm ++ [.int .i64 0, .string ⟨#[]⟩, .int .i64 0, .string ⟨#[]⟩])) := ⟨row_up R_111.out.1 hb, row_up R_111.out.2.1 hb, row_up R_111.out.2.2 hb⟩
      have BW_112 : Hid (Below w.heap.size w z14) := below_trans BW_111.out hb
      have PS_112 : Hid (z14.heap[w.heap.size]? = some (.cells #[.slice a1 s.ind.length c1, .int .i64 s.pen, .slice a2 s.que.length c2, .slice a3 s.frm.length c3, .int .u16 (s.flg : Int)] 27 (0, 0))) := (hb.block _ (lt_of_heap PS_111.out)).trans PS_111.out
      have PX_112 : Hid (z14.heap[T]? = some (.cells #[.slice (some ⟨g1, 0, none⟩) s.ind.length k1, .int .i64 s.pen, .slice (some ⟨g2, 0, none⟩) s.que.length k2, .slice (some ⟨g3, 0, none⟩) s.frm.length k3, .int .u16 (s.flg : Int)] 27 (0, 0))) := (hb.block _ (lt_of_heap PX_111.out)).trans PX_111.out
      have S_112 : Hid (Stm z14 (.slice a1 s.ind.length c1) (.slice a2 s.que.length c2) (.slice a3 s.frm.length c3) s) := S_111.out.up hb
      have Ll_112 : Hid (Rw z14 (.slice av_ l.length cv_) l.length (aC l)) := Ll_111.out.up hb
      have L_z1_112 : Hid (z1.heap.size < z14.heap.size) := Nat.lt_of_lt_of_le L_z1_111.out hb.size
      have Bb_112 : Hid (Own Wz1.heap.size z14 (.slice bb1 t.ind.length bbc1) (.slice bb2 t.que.length bbc2) (.slice bb3 t.frm.length bbc3) t) := Bb_111.out.up hb
      have QB_112 : Hid (z14.heap[z2.heap.size]? = some (.cells #[.slice bb1 t.ind.length bbc1, .int .i64 t.pen, .slice bb2 t.que.length bbc2, .slice bb3 t.frm.length bbc3, .int .u16 (t.flg : Int)] 27 (0, 0))) := (hb.block _ (lt_of_heap QB_111.out)).trans QB_111.out
      have L_z2_112 : Hid (z2.heap.size < z14.heap.size) := Nat.lt_of_lt_of_le L_z2_111.out hb.size
      have Ww_112 : Hid (Own Wz2.heap.size z14 (.slice bc1 t.ind.length bcc1) (.slice bc2 t.que.length bcc2) (.slice bc3 t.frm.length bcc3) t) := Ww_111.out.up hb
      have QW_112 : Hid (z14.heap[z3.heap.size]? = some (.cells #[.slice bc1 t.ind.length bcc1, .int .i64 t.pen, .slice bc2 t.que.length bcc2, .slice bc3 t.frm.length bcc3, .int .u16 (t.flg : Int)] 27 (0, 0))) := (hb.block _ (lt_of_heap QW_111.out)).trans QW_111.out
      have L_z3_112 : Hid (z3.heap.size < z14.heap.size) := Nat.lt_of_lt_of_le L_z3_111.out hb.size
      have L_z5_112 : Hid (z5.heap.size < z14.heap.size) := Nat.lt_of_lt_of_le L_z5_111.out hb.size
      have L_z6_112 : Hid (z6.heap.size < z14.heap.size) := Nat.lt_of_lt_of_le L_z6_111.out hb.size
      have L_z7_112 : Hid (z7.heap.size < z14.heap.size) := Nat.lt_of_lt_of_le L_z7_111.out hb.size
      have L_z8_112 : Hid (z8.heap.size < z14.heap.size) := Nat.lt_of_lt_of_le L_z8_111.out hb.size
      have L_z9_112 : Hid (z9.heap.size < z14.heap.size) := Nat.lt_of_lt_of_le L_z9_111.out hb.size
      have U1_112 : Hid (wc.heap.size ≤ z14.heap.size) := Nat.le_trans U1_111.out hb.size
      have U2_112 : Hid (z4.heap.size ≤ z14.heap.size) := Nat.le_trans U2_111.out hb.size
      clear hb R_111 BW_111 PS_111 PX_111 S_111 Ll_111 L_z1_111 Bb_111 QB_111 L_z2_111 Ww_111 QW_111 L_z3_111 L_z5_111 L_z6_111 L_z7_111 L_z8_111 L_z9_111 U1_111 U2_111
      clear hb9
      obtain ⟨p0, p1, p2, p3, p4⟩ := box_cells QB_112.out
      obtain ⟨q0, q1, q2, q3, q4⟩ := box_cells QW_112.out
      go_wp2_with fail
      refine (rsame_as z14 Bb_112.out.stm Ww_112.out.stm rfl rfl (by have := HTL.out; omega) (by have := HTL.out; omega) (by have := HTL.out; omega)).mono ?_
      rintro e z15 ⟨rfl, hb9⟩
      clear p0 p1 p2 p3 p4 q0 q1 q2 q3 q4
      have hb := hb9
      have R_113 : Hid (z15.ownsRow w.heap.size 3 1 (.slice (some ⟨g1, 0, none⟩) (s.ind.length + 2) k1) (s.ind.length + 2) (iC s.ind ++ [.int .i64 1, .int .i64 2]) ∧ z15.ownsRow w.heap.size 9 1 (.slice (some ⟨g2, 0, none⟩) (s.que.length + 2) k2) (s.que.length + 2) (qC s.que ++ [.string ⟨#[97]⟩, .string ⟨#[98]⟩]) ∧ z15.ownsRow w.heap.size 42 2 (.slice (some ⟨g3, 0, none⟩) (s.frm.length + 2) k3) (s.frm.length + 2) (fC s.frm ++ [.int .i64 0, .string ⟨#[]⟩, .int .i64 0, .string ⟨#[]⟩])) := ⟨row_up R_112.out.1 hb, row_up R_112.out.2.1 hb, row_up R_112.out.2.2 hb⟩
      have BW_113 : Hid (Below w.heap.size w z15) := below_trans BW_112.out hb
      have PS_113 : Hid (z15.heap[w.heap.size]? = some (.cells #[.slice a1 s.ind.length c1, .int .i64 s.pen, .slice a2 s.que.length c2, .slice a3 s.frm.length c3, .int .u16 (s.flg : Int)] 27 (0, 0))) := (hb.block _ (lt_of_heap PS_112.out)).trans PS_112.out
      have PX_113 : Hid (z15.heap[T]? = some (.cells #[.slice (some ⟨g1, 0, none⟩) s.ind.length k1, .int .i64 s.pen, .slice (some ⟨g2, 0, none⟩) s.que.length k2, .slice (some ⟨g3, 0, none⟩) s.frm.length k3, .int .u16 (s.flg : Int)] 27 (0, 0))) := (hb.block _ (lt_of_heap PX_112.out)).trans PX_112.out
      have S_113 : Hid (Stm z15 (.slice a1 s.ind.length c1) (.slice a2 s.que.length c2) (.slice a3 s.frm.length c3) s) := S_112.out.up hb
      have Ll_113 : Hid (Rw z15 (.slice av_ l.length cv_) l.length (aC l)) := Ll_112.out.up hb
      have L_z1_113 : Hid (z1.heap.size < z15.heap.size) := Nat.lt_of_lt_of_le L_z1_112.out hb.size
      have Bb_113 : Hid (Own Wz1.heap.size z15 (.slice bb1 t.ind.length bbc1) (.slice bb2 t.que.length bbc2) (.slice bb3 t.frm.length bbc3) t) := Bb_112.out.up hb
      have QB_113 : Hid (z15.heap[z2.heap.size]? = some (.cells #[.slice bb1 t.ind.length bbc1, .int .i64 t.pen, .slice bb2 t.que.length bbc2, .slice bb3 t.frm.length bbc3, .int .u16 (t.flg : Int)] 27 (0, 0))) := (hb.block _ (lt_of_heap QB_112.out)).trans QB_112.out
      have L_z2_113 : Hid (z2.heap.size < z15.heap.size) := Nat.lt_of_lt_of_le L_z2_112.out hb.size
      have Ww_113 : Hid (Own Wz2.heap.size z15 (.slice bc1 t.ind.length bcc1) (.slice bc2 t.que.length bcc2) (.slice bc3 t.frm.length bcc3) t) := Ww_112.out.up hb
      have QW_113 : Hid (z15.heap[z3.heap.size]? = some (.cells #[.slice bc1 t.ind.length bcc1, .int .i64 t.pen, .slice bc2 t.que.length bcc2, .slice bc3 t.frm.length bcc3, .int .u16 (t.flg : Int)] 27 (0, 0))) := (hb.block _ (lt_of_heap QW_112.out)).trans QW_112.out
      have L_z3_113 : Hid (z3.heap.size < z15.heap.size) := Nat.lt_of_lt_of_le L_z3_112.out hb.size
      have L_z5_113 : Hid (z5.heap.size < z15.heap.size) := Nat.lt_of_lt_of_le L_z5_112.out hb.size
      have L_z6_113 : Hid (z6.heap.size < z15.heap.size) := Nat.lt_of_lt_of_le L_z6_112.out hb.size
      have L_z7_113 : Hid (z7.heap.size < z15.heap.size) := Nat.lt_of_lt_of_le L_z7_112.out hb.size
      have L_z8_113 : Hid (z8.heap.size < z15.heap.size) := Nat.lt_of_lt_of_le L_z8_112.out hb.size
      have L_z9_113 : Hid (z9.heap.size < z15.heap.size) := Nat.lt_of_lt_of_le L_z9_112.out hb.size
      have U1_113 : Hid (wc.heap.size ≤ z15.heap.size) := Nat.le_trans U1_112.out hb.size
      have U2_113 : Hid (z4.heap.size ≤ z15.heap.size) := Nat.le_trans U2_112.out hb.size
      clear hb R_112 BW_112 PS_112 PX_112 S_112 Ll_112 L_z1_112 Bb_112 QB_112 L_z2_112 Ww_112 QW_112 L_z3_112 L_z5_112 L_z6_112 L_z7_112 L_z8_112 L_z9_112 U1_112 U2_112
      clear hb9
      obtain ⟨p0, p1, p2, p3, p4⟩ := box_cells PX_113.out
      have y1 := row_cap R_113.out.1
      have y2 := row_cap R_113.out.2.1
      have y3 := row_cap R_113.out.2.2
      have m10 := row_at R_113.out.1 s.ind.length (.int .i64 1) (by rw [List.getElem?_append_right (by rw [iC_len]; omega), iC_len]; simp)
      have m11 := row_at R_113.out.1 (s.ind.length + 1) (.int .i64 2) (by rw [List.getElem?_append_right (by rw [iC_len]; omega), iC_len]; simp)
      have m20 := row_at R_113.out.2.1 s.que.length (.string ⟨#[97]⟩) (by rw [List.getElem?_append_right (by rw [qC_len]; omega), qC_len]; simp)
      have m21 := row_at R_113.out.2.1 (s.que.length + 1) (.string ⟨#[98]⟩) (by rw [List.getElem?_append_right (by rw [qC_len]; omega), qC_len]; simp)
      have m30 := row_at R_113.out.2.2 (s.frm.length * 2) (.int .i64 0) (by rw [List.getElem?_append_right (by rw [fC_len]; omega), fC_len]; simp)
      have m31 := row_at R_113.out.2.2 (s.frm.length * 2 + 1) (.string ⟨#[]⟩) (by rw [List.getElem?_append_right (by rw [fC_len]; omega), fC_len, show s.frm.length * 2 + 1 - s.frm.length * 2 = 1 by omega]; rfl)
      have m32 := row_at R_113.out.2.2 ((s.frm.length + 1) * 2) (.int .i64 0) (by rw [List.getElem?_append_right (by rw [fC_len]; omega), fC_len, show (s.frm.length + 1) * 2 - s.frm.length * 2 = 2 by omega]; rfl)
      have m33 := row_at R_113.out.2.2 ((s.frm.length + 1) * 2 + 1) (.string ⟨#[]⟩) (by rw [List.getElem?_append_right (by rw [fC_len]; omega), fC_len, show (s.frm.length + 1) * 2 + 1 - s.frm.length * 2 = 3 by omega]; rfl)
      have b1 : s.ind.length ≤ 140737488355328 := by have := HZ.out.i; omega
      have t1 : ((s.ind.length : Int) + 2).toNat = s.ind.length + 2 := by omega
      have tt1 : ((s.ind.length : Int) + 1).toNat = s.ind.length + 1 := by omega
      have ti1 : (s.ind.length : Int) + 2 - 1 = (s.ind.length : Int) + 1 := by omega
      have tj1 : (s.ind.length : Int) + 2 - 2 = (s.ind.length : Int) := by omega
      have tk1 : (s.ind.length : Int) + 1 < (s.ind.length : Int) + 2 := by omega
      have tl1 : (s.ind.length : Int) < (s.ind.length : Int) + 2 := by omega
      have u1 : (s.ind.length : Int) + 2 ≤ (k1 : Int) := by omega
      have v1 : s.ind.length + 2 ≤ k1 := y1.1
      have b2 : s.que.length ≤ 140737488355328 := by have := HZ.out.q; omega
      have t2 : ((s.que.length : Int) + 2).toNat = s.que.length + 2 := by omega
      have tt2 : ((s.que.length : Int) + 1).toNat = s.que.length + 1 := by omega
      have ti2 : (s.que.length : Int) + 2 - 1 = (s.que.length : Int) + 1 := by omega
      have tj2 : (s.que.length : Int) + 2 - 2 = (s.que.length : Int) := by omega
      have tk2 : (s.que.length : Int) + 1 < (s.que.length : Int) + 2 := by omega
      have tl2 : (s.que.length : Int) < (s.que.length : Int) + 2 := by omega
      have u2 : (s.que.length : Int) + 2 ≤ (k2 : Int) := by omega
      have v2 : s.que.length + 2 ≤ k2 := y2.1
      have b3 : s.frm.length ≤ 140737488355328 := by have := HZ.out.f; omega
      have t3 : ((s.frm.length : Int) + 2).toNat = s.frm.length + 2 := by omega
      have tt3 : ((s.frm.length : Int) + 1).toNat = s.frm.length + 1 := by omega
      have ti3 : (s.frm.length : Int) + 2 - 1 = (s.frm.length : Int) + 1 := by omega
      have tj3 : (s.frm.length : Int) + 2 - 2 = (s.frm.length : Int) := by omega
      have tk3 : (s.frm.length : Int) + 1 < (s.frm.length : Int) + 2 := by omega
      have tl3 : (s.frm.length : Int) < (s.frm.length : Int) + 2 := by omega
      have u3 : (s.frm.length : Int) + 2 ≤ (k3 : Int) := by omega
      have v3 : s.frm.length + 2 ≤ k3 := y3.1
      have kz : ∀ W : World, (binOp .neq 42 (.agg #[.int .i64 0, .string ⟨#[]⟩]) (.agg #[.int .i64 0, .string ⟨#[]⟩])).run Try.prog W = .ok (.bool false) W := fun W => by rw [fr_neq]; simp
      clear y1 y2 y3
      go_upto_region 38 with fail
      clear p0 p1 p2 p3 p4
      clear m10 m11 m20 m21 m30 m31 m32 m33 kz b1 t1 tt1 ti1 tj1 tk1 tl1 u1 v1 b2 t2 tt2 ti2 tj2 tk2 tl2 u2 v2 b3 t3 tt3 ti3 tj3 tk3 tl3 u3 v3
      go_upto_region 40 with (at_builtin; refine wpList_copy _ rfl _ _ 28 rfl z15.heap.size 38 i38 (.agg #[.int .i64 0, .int .i64 0, .int .i64 0]) 3 24 Try.underlying28 HI.out.1 HI.out.2.1 HI.out.2.2.1 HI.out.2.2.2 rfl (by decide) _ l.length (aC l) rfl rfl Ll_113.out (aC_len _) (aC_one _) (by have := HMM.out.2.2; unfold maxLen; omega) HMM.out.2.2 (Nat.le_refl _) ?_; intro v8 u8 ho8 hg8; obtain ⟨ea8, ma8, rfl⟩ := row_shape ho8; have HO8 : Hid (u8.ownsRow z15.heap.size 38 3 (.slice ea8 l.length ma8) l.length (aC l)) := ho8; have HG8 : Hid (Below z15.heap.size z15 u8) := below_of_grown hg8; clear ho8 hg8)
      obtain ⟨p0, p1, p2, p3, p4⟩ := box_cells ((HG8.out.block _ (lt_of_heap PX_113.out)).trans PX_113.out)
      go_wp2_with fail
      refine (PD.out _ _ _ _ u8 (own_of_rows (row_up R_113.out.1 HG8.out) (row_up R_113.out.2.1 HG8.out) (row_up R_113.out.2.2 HG8.out)).stm (row_rw HO8.out (by decide))).mono ?_
      rintro e u9 ⟨vi9, vq9, vf9, rfl, ho9, hb9⟩
      have HG9 : Hid (Below z15.heap.size z15 u9) := below_trans HG8.out hb9
      have HO9 : Hid (∃ lt : List (Int × Int × Int), lt.length = l.length ∧ u9.ownsRow z15.heap.size 38 3 (.slice ea8 l.length ma8) l.length (aC lt)) := ⟨l, rfl, row_up HO8.out hb9⟩
      clear p0 p1 p2 p3 p4 HG8 HO8 hb9 ho9
      go_wp2_with fail
      go_loopg [33] l.length (fun gm v wr => ∃ i : Nat, v = .int .i64 (i : Int) ∧ Hid (i ≤ l.length ∧ gm = l.length - i) ∧ Hid (Below z15.heap.size z15 wr) ∧ Hid (∃ lt : List (Int × Int × Int), lt.length = l.length ∧ wr.ownsRow z15.heap.size 38 3 (.slice ea8 l.length ma8) l.length (aC lt)))
      case atStart => exact ⟨0, rfl, ⟨Nat.zero_le _, rfl⟩, HG9, HO9⟩
      case round =>
        clear HG9 HO9
        obtain ⟨i, rfl, HIJ, HBL, HRO⟩ := hrel
        by_cases hj : i < l.length
        · have e1 : decide ((i : Int) < (l.length : Int)) = true := by rw [decide_eq_true_eq]; omega
          have e2 : decide (i < l.length) = true := by rw [decide_eq_true_eq]; omega
          have e5 : (i : Int) < (l.length : Int) := by omega
          have HJL : Hid (i < l.length) := hj
          have hwr := w64n i (by have := HMM.out.2.2; omega)
          obtain ⟨lt, hlt, hrow⟩ := HRO.out
          obtain ⟨g8, c8, e8, hg8, -, -⟩ := row_form hrow (by omega)
          obtain ⟨rfl, -, rfl⟩ := Value.slice.inj e8
          obtain ⟨n0, n1, n2⟩ := aC_get lt i (by omega)
          have s0 := row_at hrow _ _ n0
          have s1 := row_at hrow _ _ n1
          have s2 := row_at hrow _ _ n2
          have fz : ∀ q, wr.frozen? ⟨g8, q, none⟩ = false := by obtain ⟨_, cur, hh⟩ := row_tag hrow g8 rfl; exact fun q => Lib.frozen_of_heap hh q
          obtain ⟨mm, hmm⟩ : ∃ mm, l.length = mm + 1 := ⟨l.length - 1, by omega⟩
          obtain ⟨jj, hjj⟩ : ∃ jj, mm = i + jj := ⟨mm - i, by omega⟩
          obtain ⟨a9, g9, o9, c9, l1, -, -, l2, l3⟩ := Ll_113.out
          obtain ⟨rfl, -, rfl⟩ := Value.slice.inj l1
          obtain rfl := l2 (by omega)
          obtain ⟨m0, m1, m2⟩ := aC_get l jj (by omega)
          have r0 := below_cell HBL.out (l3 _ _ m0)
          have r1 := below_cell HBL.out (l3 _ _ m1)
          have r2 := below_cell HBL.out (l3 _ _ m2)
          rw [← Nat.add_assoc] at r1 r2
          obtain ⟨⟨kx, nx, mx⟩, hx⟩ : ∃ x, l.getD jj (0, 0, 0) = x := ⟨_, rfl⟩
          rw [hx] at r0 r1 r2
          simp only [] at r0 r1 r2
          have e6 : (jj : Int) < (l.length : Int) := by omega
          have w1 : wrap64 ((l.length : Int) - 1) = (mm : Int) := by have := HMM.out.2.2; unfold wrap64; omega
          have w2 : wrap64 ((mm : Int) - (i : Int)) = (jj : Int) := by have := HMM.out.2.2; unfold wrap64; omega
          have HROW : Hid (lt.length = l.length ∧ wr.ownsRow z15.heap.size 38 3 (.slice (some ⟨g8, 0, none⟩) l.length ma8) l.length (aC lt)) := ⟨hlt, hrow⟩
          have HG8 : Hid (z15.heap.size ≤ g8) := hg8
          clear l1 l2 l3 m0 m1 m2 hx hj hlt hrow e8 hg8 hmm hjj n0 n1 n2
          go_wp2_with fail
          go_roundg (l.length - (i + 1))
          case measure => have := HIJ.out; have := HJL.out; omega
          case rel => exact ⟨i + 1, by first | rfl | (rw [show (i : Int) + 1 = ((i + 1 : Nat) : Int) by omega]), ⟨HJL.out, rfl⟩, ((HBL.out.setCell (p := ⟨g8, _, none⟩) HG8.out _).setCell (p := ⟨g8, _, none⟩) HG8.out _).setCell (p := ⟨g8, _, none⟩) HG8.out _, ⟨lt.set i (kx, nx, mx), by rw [List.length_set]; exact HROW.out.1, acts_stored HROW.out.2 kx nx mx⟩⟩
        · have e1 : decide ((i : Int) < (l.length : Int)) = false := by rw [decide_eq_false_iff_not]; omega
          have e2 : decide (i < l.length) = false := by rw [decide_eq_false_iff_not]; omega
          obtain ⟨lt, hlt, hrow⟩ := HRO.out
          have HLT : Hid (lt.length = l.length) := hlt
          have HRT : Hid (Rw wr (.slice ea8 l.length ma8) lt.length (aC lt)) := by show Rw _ _ _ _; rw [hlt]; exact row_rw hrow (by decide)
          clear hj hlt hrow HIJ HRO
          have hb := HBL.out
          have R_114 : Hid (wr.ownsRow w.heap.size 3 1 (.slice (some ⟨g1, 0, none⟩) (s.ind.length + 2) k1) (s.ind.length + 2) (iC s.ind ++ [.int .i64 1, .int .i64 2]) ∧ wr.ownsRow w.heap.size 9 1 (.slice (some ⟨g2, 0, none⟩) (s.que.length + 2) k2) (s.que.length + 2) (qC s.que ++ [.string ⟨#[97]⟩, .string ⟨#[98]⟩]) ∧ wr.ownsRow w.heap.size 42 2 (.slice (some ⟨g3, 0, none⟩) (s.frm.length + 2) k3) (s.frm.length + 2) (fC s.frm ++ [.int .i64 0, .string ⟨#[]⟩, .int .i64 0, .string ⟨#[]⟩])) := ⟨row_up R_113.out.1 hb, row_up R_113.out.2.1 hb, row_up R_113.out.2.2 hb⟩
          have BW_114 : Hid (Below w.heap.size w wr) := below_trans BW_113.out hb
          have PS_114 : Hid (wr.heap[w.heap.size]? = some (.cells #[.slice a1 s.ind.length c1, .int .i64 s.pen, .slice a2 s.que.length c2, .slice a3 s.frm.length c3, .int .u16 (s.flg : Int)] 27 (0, 0))) := (hb.block _ (lt_of_heap PS_113.out)).trans PS_113.out
          have PX_114 : Hid (wr.heap[T]? = some (.cells #[.slice (some ⟨g1, 0, none⟩) s.ind.length k1, .int .i64 s.pen, .slice (some ⟨g2, 0, none⟩) s.que.length k2, .slice (some ⟨g3, 0, none⟩) s.frm.length k3, .int .u16 (s.flg : Int)] 27 (0, 0))) := (hb.block _ (lt_of_heap PX_113.out)).trans PX_113.out
          have S_114 : Hid (Stm wr (.slice a1 s.ind.length c1) (.slice a2 s.que.length c2) (.slice a3 s.frm.length c3) s) := S_113.out.up hb
          have Ll_114 : Hid (Rw wr (.slice av_ l.length cv_) l.length (aC l)) := Ll_113.out.up hb
          have L_z1_114 : Hid (z1.heap.size < wr.heap.size) := Nat.lt_of_lt_of_le L_z1_113.out hb.size
          have Bb_114 : Hid (Own Wz1.heap.size wr (.slice bb1 t.ind.length bbc1) (.slice bb2 t.que.length bbc2) (.slice bb3 t.frm.length bbc3) t) := Bb_113.out.up hb
          have QB_114 : Hid (wr.heap[z2.heap.size]? = some (.cells #[.slice bb1 t.ind.length bbc1, .int .i64 t.pen, .slice bb2 t.que.length bbc2, .slice bb3 t.frm.length bbc3, .int .u16 (t.flg : Int)] 27 (0, 0))) := (hb.block _ (lt_of_heap QB_113.out)).trans QB_113.out
          have L_z2_114 : Hid (z2.heap.size < wr.heap.size) := Nat.lt_of_lt_of_le L_z2_113.out hb.size
          have Ww_114 : Hid (Own Wz2.heap.size wr (.slice bc1 t.ind.length bcc1) (.slice bc2 t.que.length bcc2) (.slice bc3 t.frm.length bcc3) t) := Ww_113.out.up hb
          have QW_114 : Hid (wr.heap[z3.heap.size]? = some (.cells #[.slice bc1 t.ind.length bcc1, .int .i64 t.pen, .slice bc2 t.que.length bcc2, .slice bc3 t.frm.length bcc3, .int .u16 (t.flg : Int)] 27 (0, 0))) := (hb.block _ (lt_of_heap QW_113.out)).trans QW_113.out
          have L_z3_114 : Hid (z3.heap.size < wr.heap.size) := Nat.lt_of_lt_of_le L_z3_113.out hb.size
          have L_z5_114 : Hid (z5.heap.size < wr.heap.size) := Nat.lt_of_lt_of_le L_z5_113.out hb.size
          have L_z6_114 : Hid (z6.heap.size < wr.heap.size) := Nat.lt_of_lt_of_le L_z6_113.out hb.size
          have L_z7_114 : Hid (z7.heap.size < wr.heap.size) := Nat.lt_of_lt_of_le L_z7_113.out hb.size
          have L_z8_114 : Hid (z8.heap.size < wr.heap.size) := Nat.lt_of_lt_of_le L_z8_113.out hb.size
          have L_z9_114 : Hid (z9.heap.size < wr.heap.size) := Nat.lt_of_lt_of_le L_z9_113.out hb.size
          have U1_114 : Hid (wc.heap.size ≤ wr.heap.size) := Nat.le_trans U1_113.out hb.size
          have U2_114 : Hid (z4.heap.size ≤ wr.heap.size) := Nat.le_trans U2_113.out hb.size
          clear hb R_113 BW_113 PS_113 PX_113 S_113 Ll_113 L_z1_113 Bb_113 QB_113 L_z2_113 Ww_113 QW_113 L_z3_113 L_z5_113 L_z6_113 L_z7_113 L_z8_113 L_z9_113 U1_113 U2_113
          clear HBL
          have Tt_115 : Hid (Rw wr (.slice ea8 l.length ma8) lt.length (aC lt)) := HRT.out
          clear HRT
          obtain ⟨t3, E3, htl3, hrd3, hpd3⟩ := alls_both (s := s) (l := lt) m HMM.out.2.1 (fun d hd => by have := HZ.out.t d hd; omega) (by have := HMM.out.2.2; have := HLT.out; omega) HMM.out.1
          have HTL3 : Hid (t3.ind.length ≤ 32 ∧ t3.que.length ≤ 8 ∧ t3.frm.length ≤ 16) := htl3
          have PD3 : Hid (∀ vi vq vf va W, Stm W vi vq vf s → Rw W va lt.length (aC lt) → Calls Try.prog 6 #[sv vi vq vf s, va, .string m] W fun e w' => ∃ ui uq uf, e = .returned (.tuple #[sv ui uq uf t3, .int .i64 E3]) ∧ Own W.heap.size w' ui uq uf t3 ∧ Below W.heap.size W w') := hpd3
          have RD3 : Hid (∀ vi vq vf va W, Stm W vi vq vf s → Rw W va lt.length (aC lt) → Calls Try.prog 7 #[sv vi vq vf s, va, .string m] W fun e w' => ∃ ui uq uf, e = .returned (.tuple #[sv ui uq uf t3, .int .i64 E3]) ∧ Stl W.heap.size w' ui uq uf t3 ∧ Below W.heap.size W w') := hrd3
          have ne4 : (E3 != E3) = false := by simp
          clear htl3 hrd3 hpd3
          go_upto_region 45 with fail
          clear e1 e2
          obtain ⟨p0, p1, p2, p3, p4⟩ := box_cells PX_114.out
          have ML_z1_Ee : Hid (z1.heap.size < wr.heap.size) := L_z1_114.out
          have ML_z2_Ee : Hid (z2.heap.size < wr.heap.size) := L_z2_114.out
          have ML_z3_Ee : Hid (z3.heap.size < wr.heap.size) := L_z3_114.out
          have ML_z5_Ee : Hid (z5.heap.size < wr.heap.size) := L_z5_114.out
          have ML_z6_Ee : Hid (z6.heap.size < wr.heap.size) := L_z6_114.out
          have ML_z7_Ee : Hid (z7.heap.size < wr.heap.size) := L_z7_114.out
          have ML_z8_Ee : Hid (z8.heap.size < wr.heap.size) := L_z8_114.out
          have ML_z9_Ee : Hid (z9.heap.size < wr.heap.size) := L_z9_114.out
          go_wp2_with fail
          refine (PD3.out _ _ _ _ wr (own_of_rows R_114.out.1 R_114.out.2.1 R_114.out.2.2).stm Tt_115.out).mono ?_
          rintro e z16 ⟨vi9, vq9, vf9, rfl, ho9, hb9⟩
          obtain ⟨ca1, cac1, ca2, cac2, ca3, cac3, rfl, rfl, rfl⟩ := ho9.stm.form
          clear p0 p1 p2 p3 p4
          have hb := hb9
          have R_116 : Hid (z16.ownsRow w.heap.size 3 1 (.slice (some ⟨g1, 0, none⟩) (s.ind.length + 2) k1) (s.ind.length + 2) (iC s.ind ++ [.int .i64 1, .int .i64 2]) ∧ z16.ownsRow w.heap.size 9 1 (.slice (some ⟨g2, 0, none⟩) (s.que.length + 2) k2) (s.que.length + 2) (qC s.que ++ [.string ⟨#[97]⟩, .string ⟨#[98]⟩]) ∧ z16.ownsRow w.heap.size 42 2 (.slice (some ⟨g3, 0, none⟩) (s.frm.length + 2) k3) (s.frm.length + 2) (fC s.frm ++ [.int .i64 0, .string ⟨#[]⟩, .int .i64 0, .string ⟨#[]⟩])) := ⟨row_up R_114.out.1 hb, row_up R_114.out.2.1 hb, row_up R_114.out.2.2 hb⟩
          have BW_116 : Hid (Below w.heap.size w z16) := below_trans BW_114.out hb
          have PS_116 : Hid (z16.heap[w.heap.size]? = some (.cells #[.slice a1 s.ind.length c1, .int .i64 s.pen, .slice a2 s.que.length c2, .slice a3 s.frm.length c3, .int .u16 (s.flg : Int)] 27 (0, 0))) := (hb.block _ (lt_of_heap PS_114.out)).trans PS_114.out
          have PX_116 : Hid (z16.heap[T]? = some (.cells #[.slice (some ⟨g1, 0, none⟩) s.ind.length k1, .int .i64 s.pen, .slice (some ⟨g2, 0, none⟩) s.que.length k2, .slice (some ⟨g3, 0, none⟩) s.frm.length k3, .int .u16 (s.flg : Int)] 27 (0, 0))) := (hb.block _ (lt_of_heap PX_114.out)).trans PX_114.out
          have S_116 : Hid (Stm z16 (.slice a1 s.ind.length c1) (.slice a2 s.que.length c2) (.slice a3 s.frm.length c3) s) := S_114.out.up hb
          have Ll_116 : Hid (Rw z16 (.slice av_ l.length cv_) l.length (aC l)) := Ll_114.out.up hb
          have L_z1_116 : Hid (z1.heap.size < z16.heap.size) := Nat.lt_of_lt_of_le L_z1_114.out hb.size
          have Bb_116 : Hid (Own Wz1.heap.size z16 (.slice bb1 t.ind.length bbc1) (.slice bb2 t.que.length bbc2) (.slice bb3 t.frm.length bbc3) t) := Bb_114.out.up hb
          have QB_116 : Hid (z16.heap[z2.heap.size]? = some (.cells #[.slice bb1 t.ind.length bbc1, .int .i64 t.pen, .slice bb2 t.que.length bbc2, .slice bb3 t.frm.length bbc3, .int .u16 (t.flg : Int)] 27 (0, 0))) := (hb.block _ (lt_of_heap QB_114.out)).trans QB_114.out
          have L_z2_116 : Hid (z2.heap.size < z16.heap.size) := Nat.lt_of_lt_of_le L_z2_114.out hb.size
          have Ww_116 : Hid (Own Wz2.heap.size z16 (.slice bc1 t.ind.length bcc1) (.slice bc2 t.que.length bcc2) (.slice bc3 t.frm.length bcc3) t) := Ww_114.out.up hb
          have QW_116 : Hid (z16.heap[z3.heap.size]? = some (.cells #[.slice bc1 t.ind.length bcc1, .int .i64 t.pen, .slice bc2 t.que.length bcc2, .slice bc3 t.frm.length bcc3, .int .u16 (t.flg : Int)] 27 (0, 0))) := (hb.block _ (lt_of_heap QW_114.out)).trans QW_114.out
          have L_z3_116 : Hid (z3.heap.size < z16.heap.size) := Nat.lt_of_lt_of_le L_z3_114.out hb.size
          have L_z5_116 : Hid (z5.heap.size < z16.heap.size) := Nat.lt_of_lt_of_le L_z5_114.out hb.size
          have L_z6_116 : Hid (z6.heap.size < z16.heap.size) := Nat.lt_of_lt_of_le L_z6_114.out hb.size
          have L_z7_116 : Hid (z7.heap.size < z16.heap.size) := Nat.lt_of_lt_of_le L_z7_114.out hb.size
          have L_z8_116 : Hid (z8.heap.size < z16.heap.size) := Nat.lt_of_lt_of_le L_z8_114.out hb.size
          have L_z9_116 : Hid (z9.heap.size < z16.heap.size) := Nat.lt_of_lt_of_le L_z9_114.out hb.size
          have U1_116 : Hid (wc.heap.size ≤ z16.heap.size) := Nat.le_trans U1_114.out hb.size
          have U2_116 : Hid (z4.heap.size ≤ z16.heap.size) := Nat.le_trans U2_114.out hb.size
          have Tt_116 : Hid (Rw z16 (.slice ea8 l.length ma8) lt.length (aC lt)) := Tt_115.out.up hb
          clear hb R_114 BW_114 PS_114 PX_114 S_114 Ll_114 L_z1_114 Bb_114 QB_114 L_z2_114 Ww_114 QW_114 L_z3_114 L_z5_114 L_z6_114 L_z7_114 L_z8_114 L_z9_114 U1_114 U2_114 Tt_115
          have OL_z1_z16 : Hid (z1.heap.size < z16.heap.size) := L_z1_116.out
          have OL_z2_z16 : Hid (z2.heap.size < z16.heap.size) := L_z2_116.out
          have OL_z3_z16 : Hid (z3.heap.size < z16.heap.size) := L_z3_116.out
          have OL_z5_z16 : Hid (z5.heap.size < z16.heap.size) := L_z5_116.out
          have OL_z6_z16 : Hid (z6.heap.size < z16.heap.size) := L_z6_116.out
          have OL_z7_z16 : Hid (z7.heap.size < z16.heap.size) := L_z7_116.out
          have OL_z8_z16 : Hid (z8.heap.size < z16.heap.size) := L_z8_116.out
          have OL_z9_z16 : Hid (z9.heap.size < z16.heap.size) := L_z9_116.out
          obtain ⟨Wz16, hW9⟩ : ∃ Wz16, Wz16 = z16.alloc (.cells #[.slice ca1 t3.ind.length cac1, .int .i64 t3.pen, .slice ca2 t3.que.length cac2, .slice ca3 t3.frm.length cac3, .int .u16 (t3.flg : Int)] 27) := ⟨_, rfl⟩
          have HWz16 : Hid (Wz16 = z16.alloc (.cells #[.slice ca1 t3.ind.length cac1, .int .i64 t3.pen, .slice ca2 t3.que.length cac2, .slice ca3 t3.frm.length cac3, .int .u16 (t3.flg : Int)] 27)) := hW9
          have OS_Ee : Hid (wr.heap.size ≤ z16.heap.size) := hb9.size
          have ZEe : Hid (Own wr.heap.size z16 (.slice ca1 t3.ind.length cac1) (.slice ca2 t3.que.length cac2) (.slice ca3 t3.frm.length cac3) t3) := ho9
          have Ee_117 : Hid (Own wr.heap.size z16 (.slice ca1 t3.ind.length cac1) (.slice ca2 t3.que.length cac2) (.slice ca3 t3.frm.length cac3) t3) := ho9
          clear ho9 hb9
          have hba : Below z16.heap.size z16 Wz16 := by rw [hW9]; exact bel_up _ _
          have hb := hba
          have R_118 : Hid (Wz16.ownsRow w.heap.size 3 1 (.slice (some ⟨g1, 0, none⟩) (s.ind.length + 2) k1) (s.ind.length + 2) (iC s.ind ++ [.int .i64 1, .int .i64 2]) ∧ Wz16.ownsRow w.heap.size 9 1 (.slice (some ⟨g2, 0, none⟩) (s.que.length + 2) k2) (s.que.length + 2) (qC s.que ++ [.string ⟨#[97]⟩, .string ⟨#[98]⟩]) ∧ Wz16.ownsRow w.heap.size 42 2 (.slice (some ⟨g3, 0, none⟩) (s.frm.length + 2) k3) (s.frm.length + 2) (fC s.frm ++ [.int .i64 0, .string ⟨#[]⟩, .int .i64 0, .string ⟨#[]⟩])) := ⟨row_up R_116.out.1 hb, row_up R_116.out.2.1 hb, row_up R_116.out.2.2 hb⟩
          have BW_118 : Hid (Below w.heap.size w Wz16) := below_trans BW_116.out hb
          have PS_118 : Hid (Wz16.heap[w.heap.size]? = some (.cells #[.slice a1 s.ind.length c1, .int .i64 s.pen, .slice a2 s.que.length c2, .slice a3 s.frm.length c3, .int .u16 (s.flg : Int)] 27 (0, 0))) := (hb.block _ (lt_of_heap PS_116.out)).trans PS_116.out
          have PX_118 : Hid (Wz16.heap[T]? = some (.cells #[.slice (some ⟨g1, 0, none⟩) s.ind.length k1, .int .i64 s.pen, .slice (some ⟨g2, 0, none⟩) s.que.length k2, .slice (some ⟨g3, 0, none⟩) s.frm.length k3, .int .u16 (s.flg : Int)] 27 (0, 0))) := (hb.block _ (lt_of_heap PX_116.out)).trans PX_116.out
          have S_118 : Hid (Stm Wz16 (.slice a1 s.ind.length c1) (.slice a2 s.que.length c2) (.slice a3 s.frm.length c3) s) := S_116.out.up hb
          have Ll_118 : Hid (Rw Wz16 (.slice av_ l.length cv_) l.length (aC l)) := Ll_116.out.up hb
          have L_z1_118 : Hid (z1.heap.size < Wz16.heap.size) := Nat.lt_of_lt_of_le L_z1_116.out hb.size
          have Bb_118 : Hid (Own Wz1.heap.size Wz16 (.slice bb1 t.ind.length bbc1) (.slice bb2 t.que.length bbc2) (.slice bb3 t.frm.length bbc3) t) := Bb_116.out.up hb
          have QB_118 : Hid (Wz16.heap[z2.heap.size]? = some (.cells #[.slice bb1 t.ind.length bbc1, .int .i64 t.pen, .slice bb2 t.que.length bbc2, .slice bb3 t.frm.length bbc3, .int .u16 (t.flg : Int)] 27 (0, 0))) := (hb.block _ (lt_of_heap QB_116.out)).trans QB_116.out
          have L_z2_118 : Hid (z2.heap.size < Wz16.heap.size) := Nat.lt_of_lt_of_le L_z2_116.out hb.size
          have Ww_118 : Hid (Own Wz2.heap.size Wz16 (.slice bc1 t.ind.length bcc1) (.slice bc2 t.que.length bcc2) (.slice bc3 t.frm.length bcc3) t) := Ww_116.out.up hb
          have QW_118 : Hid (Wz16.heap[z3.heap.size]? = some (.cells #[.slice bc1 t.ind.length bcc1, .int .i64 t.pen, .slice bc2 t.que.length bcc2, .slice bc3 t.frm.length bcc3, .int .u16 (t.flg : Int)] 27 (0, 0))) := (hb.block _ (lt_of_heap QW_116.out)).trans QW_116.out
          have L_z3_118 : Hid (z3.heap.size < Wz16.heap.size) := Nat.lt_of_lt_of_le L_z3_116.out hb.size
          have L_z5_118 : Hid (z5.heap.size < Wz16.heap.size) := Nat.lt_of_lt_of_le L_z5_116.out hb.size
          have L_z6_118 : Hid (z6.heap.size < Wz16.heap.size) := Nat.lt_of_lt_of_le L_z6_116.out hb.size
          have L_z7_118 : Hid (z7.heap.size < Wz16.heap.size) := Nat.lt_of_lt_of_le L_z7_116.out hb.size
          have L_z8_118 : Hid (z8.heap.size < Wz16.heap.size) := Nat.lt_of_lt_of_le L_z8_116.out hb.size
          have L_z9_118 : Hid (z9.heap.size < Wz16.heap.size) := Nat.lt_of_lt_of_le L_z9_116.out hb.size
          have U1_118 : Hid (wc.heap.size ≤ Wz16.heap.size) := Nat.le_trans U1_116.out hb.size
          have U2_118 : Hid (z4.heap.size ≤ Wz16.heap.size) := Nat.le_trans U2_116.out hb.size
          have Tt_118 : Hid (Rw Wz16 (.slice ea8 l.length ma8) lt.length (aC lt)) := Tt_116.out.up hb
          have Ee_118 : Hid (Own wr.heap.size Wz16 (.slice ca1 t3.ind.length cac1) (.slice ca2 t3.que.length cac2) (.slice ca3 t3.frm.length cac3) t3) := Ee_117.out.up hb
          clear hb R_116 BW_116 PS_116 PX_116 S_116 Ll_116 L_z1_116 Bb_116 QB_116 L_z2_116 Ww_116 QW_116 L_z3_116 L_z5_116 L_z6_116 L_z7_116 L_z8_116 L_z9_116 U1_116 U2_116 Tt_116 Ee_117
          have QE_119 : Hid (Wz16.heap[z16.heap.size]? = some (.cells #[.slice ca1 t3.ind.length cac1, .int .i64 t3.pen, .slice ca2 t3.que.length cac2, .slice ca3 t3.frm.length cac3, .int .u16 (t3.flg : Int)] 27 (0, 0))) := by rw [hW9]; exact heap_new z16 _
          have L_z16_120 : Hid (z16.heap.size < Wz16.heap.size) := by rw [hW9, World.size_alloc]; exact Nat.lt_succ_self _
          clear hW9 hba
          go_upto_region 46 with fail
          rw [← HWz16.out]
          obtain ⟨p0, p1, p2, p3, p4⟩ := box_cells PX_118.out
          have ML_z1_Ff : Hid (z1.heap.size < Wz16.heap.size) := L_z1_118.out
          have ML_z2_Ff : Hid (z2.heap.size < Wz16.heap.size) := L_z2_118.out
          have ML_z3_Ff : Hid (z3.heap.size < Wz16.heap.size) := L_z3_118.out
          have ML_z5_Ff : Hid (z5.heap.size < Wz16.heap.size) := L_z5_118.out
          have ML_z6_Ff : Hid (z6.heap.size < Wz16.heap.size) := L_z6_118.out
          have ML_z7_Ff : Hid (z7.heap.size < Wz16.heap.size) := L_z7_118.out
          have ML_z8_Ff : Hid (z8.heap.size < Wz16.heap.size) := L_z8_118.out
          have ML_z9_Ff : Hid (z9.heap.size < Wz16.heap.size) := L_z9_118.out
          have ML_z16_Ff : Hid (z16.heap.size < Wz16.heap.size) := L_z16_120.out
          go_wp2_with fail
          refine (RD3.out _ _ _ _ Wz16 (own_of_rows R_118.out.1 R_118.out.2.1 R_118.out.2.2).stm Tt_118.out).mono ?_
          rintro e z17 ⟨vi9, vq9, vf9, rfl, ho9, hb9⟩
          obtain ⟨cb1, cbc1, cb2, cbc2, cb3, cbc3, rfl, rfl, rfl⟩ := ho9.stm.form
          clear p0 p1 p2 p3 p4
          have hb := hb9
          have R_121 : Hid (z17.ownsRow w.heap.size 3 1 (.slice (some ⟨g1, 0, none⟩) (s.ind.length + 2) k1) (s.ind.length + 2) (iC s.ind ++ [.int .i64 1, .int .i64 2]) ∧ z17.ownsRow w.heap.size 9 1 (.slice (some ⟨g2, 0, none⟩) (s.que.length + 2) k2) (s.que.length + 2) (qC s.que ++ [.string ⟨#[97]⟩, .string ⟨#[98]⟩]) ∧ z17.ownsRow w.heap.size 42 2 (.slice (some ⟨g3, 0, none⟩) (s.frm.length + 2) k3) (s.frm.length + 2) (fC s.frm ++ [.int .i64 0, .string ⟨#[]⟩, .int .i64 0, .string ⟨#[]⟩])) := ⟨row_up R_118.out.1 hb, row_up R_118.out.2.1 hb, row_up R_118.out.2.2 hb⟩
          have BW_121 : Hid (Below w.heap.size w z17) := below_trans BW_118.out hb
          have PS_121 : Hid (z17.heap[w.heap.size]? = some (.cells #[.slice a1 s.ind.length c1, .int .i64 s.pen, .slice a2 s.que.length c2, .slice a3 s.frm.length c3, .int .u16 (s.flg : Int)] 27 (0, 0))) := (hb.block _ (lt_of_heap PS_118.out)).trans PS_118.out
          have PX_121 : Hid (z17.heap[T]? = some (.cells #[.slice (some ⟨g1, 0, none⟩) s.ind.length k1, .int .i64 s.pen, .slice (some ⟨g2, 0, none⟩) s.que.length k2, .slice (some ⟨g3, 0, none⟩) s.frm.length k3, .int .u16 (s.flg : Int)] 27 (0, 0))) := (hb.block _ (lt_of_heap PX_118.out)).trans PX_118.out
          have S_121 : Hid (Stm z17 (.slice a1 s.ind.length c1) (.slice a2 s.que.length c2) (.slice a3 s.frm.length c3) s) := S_118.out.up hb
          have Ll_121 : Hid (Rw z17 (.slice av_ l.length cv_) l.length (aC l)) := Ll_118.out.up hb
          have L_z1_121 : Hid (z1.heap.size < z17.heap.size) := Nat.lt_of_lt_of_le L_z1_118.out hb.size
          have Bb_121 : Hid (Own Wz1.heap.size z17 (.slice bb1 t.ind.length bbc1) (.slice bb2 t.que.length bbc2) (.slice bb3 t.frm.length bbc3) t) := Bb_118.out.up hb
          have QB_121 : Hid (z17.heap[z2.heap.size]? = some (.cells #[.slice bb1 t.ind.length bbc1, .int .i64 t.pen, .slice bb2 t.que.length bbc2, .slice bb3 t.frm.length bbc3, .int .u16 (t.flg : Int)] 27 (0, 0))) := (hb.block _ (lt_of_heap QB_118.out)).trans QB_118.out
          have L_z2_121 : Hid (z2.heap.size < z17.heap.size) := Nat.lt_of_lt_of_le L_z2_118.out hb.size
          have Ww_121 : Hid (Own Wz2.heap.size z17 (.slice bc1 t.ind.length bcc1) (.slice bc2 t.que.length bcc2) (.slice bc3 t.frm.length bcc3) t) := Ww_118.out.up hb
          have QW_121 : Hid (z17.heap[z3.heap.size]? = some (.cells #[.slice bc1 t.ind.length bcc1, .int .i64 t.pen, .slice bc2 t.que.length bcc2, .slice bc3 t.frm.length bcc3, .int .u16 (t.flg : Int)] 27 (0, 0))) := (hb.block _ (lt_of_heap QW_118.out)).trans QW_118.out
          have L_z3_121 : Hid (z3.heap.size < z17.heap.size) := Nat.lt_of_lt_of_le L_z3_118.out hb.size
          have L_z5_121 : Hid (z5.heap.size < z17.heap.size) := Nat.lt_of_lt_of_le L_z5_118.out hb.size
          have L_z6_121 : Hid (z6.heap.size < z17.heap.size) := Nat.lt_of_lt_of_le L_z6_118.out hb.size
          have L_z7_121 : Hid (z7.heap.size < z17.heap.size) := Nat.lt_of_lt_of_le L_z7_118.out hb.size
          have L_z8_121 : Hid (z8.heap.size < z17.heap.size) := Nat.lt_of_lt_of_le L_z8_118.out hb.size
          have L_z9_121 : Hid (z9.heap.size < z17.heap.size) := Nat.lt_of_lt_of_le L_z9_118.out hb.size
          have U1_121 : Hid (wc.heap.size ≤ z17.heap.size) := Nat.le_trans U1_118.out hb.size
          have U2_121 : Hid (z4.heap.size ≤ z17.heap.size) := Nat.le_trans U2_118.out hb.size
          have Tt_121 : Hid (Rw z17 (.slice ea8 l.length ma8) lt.length (aC lt)) := Tt_118.out.up hb
          have Ee_121 : Hid (Own wr.heap.size z17 (.slice ca1 t3.ind.length cac1) (.slice ca2 t3.que.length cac2) (.slice ca3 t3.frm.length cac3) t3) := Ee_118.out.up hb
          have QE_121 : Hid (z17.heap[z16.heap.size]? = some (.cells #[.slice ca1 t3.ind.length cac1, .int .i64 t3.pen, .slice ca2 t3.que.length cac2, .slice ca3 t3.frm.length cac3, .int .u16 (t3.flg : Int)] 27 (0, 0))) := (hb.block _ (lt_of_heap QE_119.out)).trans QE_119.out
          have L_z16_121 : Hid (z16.heap.size < z17.heap.size) := Nat.lt_of_lt_of_le L_z16_120.out hb.size
          clear hb R_118 BW_118 PS_118 PX_118 S_118 Ll_118 L_z1_118 Bb_118 QB_118 L_z2_118 Ww_118 QW_118 L_z3_118 L_z5_118 L_z6_118 L_z7_118 L_z8_118 L_z9_118 U1_118 U2_118 Tt_118 Ee_118 QE_119 L_z16_120
          have OL_z1_z17 : Hid (z1.heap.size < z17.heap.size) := L_z1_121.out
          have OL_z2_z17 : Hid (z2.heap.size < z17.heap.size) := L_z2_121.out
          have OL_z3_z17 : Hid (z3.heap.size < z17.heap.size) := L_z3_121.out
          have OL_z5_z17 : Hid (z5.heap.size < z17.heap.size) := L_z5_121.out
          have OL_z6_z17 : Hid (z6.heap.size < z17.heap.size) := L_z6_121.out
          have OL_z7_z17 : Hid (z7.heap.size < z17.heap.size) := L_z7_121.out
          have OL_z8_z17 : Hid (z8.heap.size < z17.heap.size) := L_z8_121.out
          have OL_z9_z17 : Hid (z9.heap.size < z17.heap.size) := L_z9_121.out
          have OL_z16_z17 : Hid (z16.heap.size < z17.heap.size) := L_z16_121.out
          obtain ⟨Wz17, hW9⟩ : ∃ Wz17, Wz17 = z17.alloc (.cells #[.slice cb1 t3.ind.length cbc1, .int .i64 t3.pen, .slice cb2 t3.que.length cbc2, .slice cb3 t3.frm.length cbc3, .int .u16 (t3.flg : Int)] 27) := ⟨_, rfl⟩
          have HWz17 : Hid (Wz17 = z17.alloc (.cells #[.slice cb1 t3.ind.length cbc1, .int .i64 t3.pen, .slice cb2 t3.que.length cbc2, .slice cb3 t3.frm.length cbc3, .int .u16 (t3.flg : Int)] 27)) := hW9
          have OS_Ff : Hid (Wz16.heap.size ≤ z17.heap.size) := hb9.size
          have ZFf : Hid (Stl Wz16.heap.size z17 (.slice cb1 t3.ind.length cbc1) (.slice cb2 t3.que.length cbc2) (.slice cb3 t3.frm.length cbc3) t3) := ho9
          have Ff_122 : Hid (Stl Wz16.heap.size z17 (.slice cb1 t3.ind.length cbc1) (.slice cb2 t3.que.length cbc2) (.slice cb3 t3.frm.length cbc3) t3) := ho9
          clear ho9 hb9
          have hba : Below z17.heap.size z17 Wz17 := by rw [hW9]; exact bel_up _ _
          have hb := hba
          have R_123 : Hid (Wz17.ownsRow w.heap.size 3 1 (.slice (some ⟨g1, 0, none⟩) (s.ind.length + 2) k1) (s.ind.length + 2) (iC s.ind ++ [.int .i64 1, .int .i64 2]) ∧ Wz17.ownsRow w.heap.size 9 1 (.slice (some ⟨g2, 0, none⟩) (s.que.length + 2) k2) (s.que.length + 2) (qC s.que ++ [.string ⟨#[97]⟩, .string ⟨#[98]⟩]) ∧ Wz17.ownsRow w.heap.size 42 2 (.slice (some ⟨g3, 0, none⟩) (s.frm.length + 2) k3) (s.frm.length + 2) (fC s.frm ++ [.int .i64 0, .string ⟨#[]⟩, .int .i64 0, .string ⟨#[]⟩])) := ⟨row_up R_121.out.1 hb, row_up R_121.out.2.1 hb, row_up R_121.out.2.2 hb⟩
          have BW_123 : Hid (Below w.heap.size w Wz17) := below_trans BW_121.out hb
          have PS_123 : Hid (Wz17.heap[w.heap.size]? = some (.cells #[.slice a1 s.ind.length c1, .int .i64 s.pen, .slice a2 s.que.length c2, .slice a3 s.frm.length c3, .int .u16 (s.flg : Int)] 27 (0, 0))) := (hb.block _ (lt_of_heap PS_121.out)).trans PS_121.out
          have PX_123 : Hid (Wz17.heap[T]? = some (.cells #[.slice (some ⟨g1, 0, none⟩) s.ind.length k1, .int .i64 s.pen, .slice (some ⟨g2, 0, none⟩) s.que.length k2, .slice (some ⟨g3, 0, none⟩) s.frm.length k3, .int .u16 (s.flg : Int)] 27 (0, 0))) := (hb.block _ (lt_of_heap PX_121.out)).trans PX_121.out
          have S_123 : Hid (Stm Wz17 (.slice a1 s.ind.length c1) (.slice a2 s.que.length c2) (.slice a3 s.frm.length c3) s) := S_121.out.up hb
          have Ll_123 : Hid (Rw Wz17 (.slice av_ l.length cv_) l.length (aC l)) := Ll_121.out.up hb
          have L_z1_123 : Hid (z1.heap.size < Wz17.heap.size) := Nat.lt_of_lt_of_le L_z1_121.out hb.size
          have Bb_123 : Hid (Own Wz1.heap.size Wz17 (.slice bb1 t.ind.length bbc1) (.slice bb2 t.que.length bbc2) (.slice bb3 t.frm.length bbc3) t) := Bb_121.out.up hb
          have QB_123 : Hid (Wz17.heap[z2.heap.size]? = some (.cells #[.slice bb1 t.ind.length bbc1, .int .i64 t.pen, .slice bb2 t.que.length bbc2, .slice bb3 t.frm.length bbc3, .int .u16 (t.flg : Int)] 27 (0, 0))) := (hb.block _ (lt_of_heap QB_121.out)).trans QB_121.out
          have L_z2_123 : Hid (z2.heap.size < Wz17.heap.size) := Nat.lt_of_lt_of_le L_z2_121.out hb.size
          have Ww_123 : Hid (Own Wz2.heap.size Wz17 (.slice bc1 t.ind.length bcc1) (.slice bc2 t.que.length bcc2) (.slice bc3 t.frm.length bcc3) t) := Ww_121.out.up hb
          have QW_123 : Hid (Wz17.heap[z3.heap.size]? = some (.cells #[.slice bc1 t.ind.length bcc1, .int .i64 t.pen, .slice bc2 t.que.length bcc2, .slice bc3 t.frm.length bcc3, .int .u16 (t.flg : Int)] 27 (0, 0))) := (hb.block _ (lt_of_heap QW_121.out)).trans QW_121.out
          have L_z3_123 : Hid (z3.heap.size < Wz17.heap.size) := Nat.lt_of_lt_of_le L_z3_121.out hb.size
          have L_z5_123 : Hid (z5.heap.size < Wz17.heap.size) := Nat.lt_of_lt_of_le L_z5_121.out hb.size
          have L_z6_123 : Hid (z6.heap.size < Wz17.heap.size) := Nat.lt_of_lt_of_le L_z6_121.out hb.size
          have L_z7_123 : Hid (z7.heap.size < Wz17.heap.size) := Nat.lt_of_lt_of_le L_z7_121.out hb.size
          have L_z8_123 : Hid (z8.heap.size < Wz17.heap.size) := Nat.lt_of_lt_of_le L_z8_121.out hb.size
          have L_z9_123 : Hid (z9.heap.size < Wz17.heap.size) := Nat.lt_of_lt_of_le L_z9_121.out hb.size
          have U1_123 : Hid (wc.heap.size ≤ Wz17.heap.size) := Nat.le_trans U1_121.out hb.size
          have U2_123 : Hid (z4.heap.size ≤ Wz17.heap.size) := Nat.le_trans U2_121.out hb.size
          have Tt_123 : Hid (Rw Wz17 (.slice ea8 l.length ma8) lt.length (aC lt)) := Tt_121.out.up hb
          have Ee_123 : Hid (Own wr.heap.size Wz17 (.slice ca1 t3.ind.length cac1) (.slice ca2 t3.que.length cac2) (.slice ca3 t3.frm.length cac3) t3) := Ee_121.out.up hb
          have QE_123 : Hid (Wz17.heap[z16.heap.size]? = some (.cells #[.slice ca1 t3.ind.length cac1, .int .i64 t3.pen, .slice ca2 t3.que.length cac2, .slice ca3 t3.frm.length cac3, .int .u16 (t3.flg : Int)] 27 (0, 0))) := (hb.block _ (lt_of_heap QE_121.out)).trans QE_121.out
          have L_z16_123 : Hid (z16.heap.size < Wz17.heap.size) := Nat.lt_of_lt_of_le L_z16_121.out hb.size
          have Ff_123 : Hid (Stl Wz16.heap.size Wz17 (.slice cb1 t3.ind.length cbc1) (.slice cb2 t3.que.length cbc2) (.slice cb3 t3.frm.length cbc3) t3) := Ff_122.out.up hb
          clear hb R_121 BW_121 PS_121 PX_121 S_121 Ll_121 L_z1_121 Bb_121 QB_121 L_z2_121 Ww_121 QW_121 L_z3_121 L_z5_121 L_z6_121 L_z7_121 L_z8_121 L_z9_121 U1_121 U2_121 Tt_121 Ee_121 QE_121 L_z16_121 Ff_122
          have QF_124 : Hid (Wz17.heap[z17.heap.size]? = some (.cells #[.slice cb1 t3.ind.length cbc1, .int .i64 t3.pen, .slice cb2 t3.que.length cbc2, .slice cb3 t3.frm.length cbc3, .int .u16 (t3.flg : Int)] 27 (0, 0))) := by rw [hW9]; exact heap_new z17 _
          have L_z17_125 : Hid (z17.heap.size < Wz17.heap.size) := by rw [hW9, World.size_alloc]; exact Nat.lt_succ_self _
          clear hW9 hba
          go_upto_region 47 with fail
          rw [← HWz17.out]
          obtain ⟨p0, p1, p2, p3, p4⟩ := box_cells QE_123.out
          obtain ⟨q0, q1, q2, q3, q4⟩ := box_cells QF_124.out
          go_wp2_with fail
          refine (rsame_as Wz17 Ee_123.out.stm Ff_123.out.stm rfl rfl (by have := HTL3.out; omega) (by have := HTL3.out; omega) (by have := HTL3.out; omega)).mono ?_
          rintro e z18 ⟨rfl, hb9⟩
          clear p0 p1 p2 p3 p4 q0 q1 q2 q3 q4
          have hb := hb9
          have R_126 : Hid (z18.ownsRow w.heap.size 3 1 (.slice (some ⟨g1, 0, none⟩) (s.ind.length + 2) k1) (s.ind.length + 2) (iC s.ind ++ [.int .i64 1, .int .i64 2]) ∧ z18.ownsRow w.heap.size 9 1 (.slice (some ⟨g2, 0, none⟩) (s.que.length + 2) k2) (s.que.length + 2) (qC s.que ++ [.string ⟨#[97]⟩, .string ⟨#[98]⟩]) ∧ z18.ownsRow w.heap.size 42 2 (.slice (some ⟨g3, 0, none⟩) (s.frm.length + 2) k3) (s.frm.length + 2) (fC s.frm ++ [.int .i64 0, .string ⟨#[]⟩, .int .i64 0, .string ⟨#[]⟩])) := ⟨row_up R_123.out.1 hb, row_up R_123.out.2.1 hb, row_up R_123.out.2.2 hb⟩
          have BW_126 : Hid (Below w.heap.size w z18) := below_trans BW_123.out hb
          have PS_126 : Hid (z18.heap[w.heap.size]? = some (.cells #[.slice a1 s.ind.length c1, .int .i64 s.pen, .slice a2 s.que.length c2, .slice a3 s.frm.length c3, .int .u16 (s.flg : Int)] 27 (0, 0))) := (hb.block _ (lt_of_heap PS_123.out)).trans PS_123.out
          have PX_126 : Hid (z18.heap[T]? = some (.cells #[.slice (some ⟨g1, 0, none⟩) s.ind.length k1, .int .i64 s.pen, .slice (some ⟨g2, 0, none⟩) s.que.length k2, .slice (some ⟨g3, 0, none⟩) s.frm.length k3, .int .u16 (s.flg : Int)] 27 (0, 0))) := (hb.block _ (lt_of_heap PX_123.out)).trans PX_123.out
          have S_126 : Hid (Stm z18 (.slice a1 s.ind.length c1) (.slice a2 s.que.length c2) (.slice a3 s.frm.length c3) s) := S_123.out.up hb
          have Ll_126 : Hid (Rw z18 (.slice av_ l.length cv_) l.length (aC l)) := Ll_123.out.up hb
          have L_z1_126 : Hid (z1.heap.size < z18.heap.size) := Nat.lt_of_lt_of_le L_z1_123.out hb.size
          have Bb_126 : Hid (Own Wz1.heap.size z18 (.slice bb1 t.ind.length bbc1) (.slice bb2 t.que.length bbc2) (.slice bb3 t.frm.length bbc3) t) := Bb_123.out.up hb
          have QB_126 : Hid (z18.heap[z2.heap.size]? = some (.cells #[.slice bb1 t.ind.length bbc1, .int .i64 t.pen, .slice bb2 t.que.length bbc2, .slice bb3 t.frm.length bbc3, .int .u16 (t.flg : Int)] 27 (0, 0))) := (hb.block _ (lt_of_heap QB_123.out)).trans QB_123.out
          have L_z2_126 : Hid (z2.heap.size < z18.heap.size) := Nat.lt_of_lt_of_le L_z2_123.out hb.size
          have Ww_126 : Hid (Own Wz2.heap.size z18 (.slice bc1 t.ind.length bcc1) (.slice bc2 t.que.length bcc2) (.slice bc3 t.frm.length bcc3) t) := Ww_123.out.up hb
          have QW_126 : Hid (z18.heap[z3.heap.size]? = some (.cells #[.slice bc1 t.ind.length bcc1, .int .i64 t.pen, .slice bc2 t.que.length bcc2, .slice bc3 t.frm.length bcc3, .int .u16 (t.flg : Int)] 27 (0, 0))) := (hb.block _ (lt_of_heap QW_123.out)).trans QW_123.out
          have L_z3_126 : Hid (z3.heap.size < z18.heap.size) := Nat.lt_of_lt_of_le L_z3_123.out hb.size
          have L_z5_126 : Hid (z5.heap.size < z18.heap.size) := Nat.lt_of_lt_of_le L_z5_123.out hb.size
          have L_z6_126 : Hid (z6.heap.size < z18.heap.size) := Nat.lt_of_lt_of_le L_z6_123.out hb.size
          have L_z7_126 : Hid (z7.heap.size < z18.heap.size) := Nat.lt_of_lt_of_le L_z7_123.out hb.size
          have L_z8_126 : Hid (z8.heap.size < z18.heap.size) := Nat.lt_of_lt_of_le L_z8_123.out hb.size
          have L_z9_126 : Hid (z9.heap.size < z18.heap.size) := Nat.lt_of_lt_of_le L_z9_123.out hb.size
          have U1_126 : Hid (wc.heap.size ≤ z18.heap.size) := Nat.le_trans U1_123.out hb.size
          have U2_126 : Hid (z4.heap.size ≤ z18.heap.size) := Nat.le_trans U2_123.out hb.size
          have Tt_126 : Hid (Rw z18 (.slice ea8 l.length ma8) lt.length (aC lt)) := Tt_123.out.up hb
          have Ee_126 : Hid (Own wr.heap.size z18 (.slice ca1 t3.ind.length cac1) (.slice ca2 t3.que.length cac2) (.slice ca3 t3.frm.length cac3) t3) := Ee_123.out.up hb
          have QE_126 : Hid (z18.heap[z16.heap.size]? = some (.cells #[.slice ca1 t3.ind.length cac1, .int .i64 t3.pen, .slice ca2 t3.que.length cac2, .slice ca3 t3.frm.length cac3, .int .u16 (t3.flg : Int)] 27 (0, 0))) := (hb.block _ (lt_of_heap QE_123.out)).trans QE_123.out
          have L_z16_126 : Hid (z16.heap.size < z18.heap.size) := Nat.lt_of_lt_of_le L_z16_123.out hb.size
          have Ff_126 : Hid (Stl Wz16.heap.size z18 (.slice cb1 t3.ind.length cbc1) (.slice cb2 t3.que.length cbc2) (.slice cb3 t3.frm.length cbc3) t3) := Ff_123.out.up hb
          have QF_126 : Hid (z18.heap[z17.heap.size]? = some (.cells #[.slice cb1 t3.ind.length cbc1, .int .i64 t3.pen, .slice cb2 t3.que.length cbc2, .slice cb3 t3.frm.length cbc3, .int .u16 (t3.flg : Int)] 27 (0, 0))) := (hb.block _ (lt_of_heap QF_124.out)).trans QF_124.out
          have L_z17_126 : Hid (z17.heap.size < z18.heap.size) := Nat.lt_of_lt_of_le L_z17_125.out hb.size
          clear hb R_123 BW_123 PS_123 PX_123 S_123 Ll_123 L_z1_123 Bb_123 QB_123 L_z2_123 Ww_123 QW_123 L_z3_123 L_z5_123 L_z6_123 L_z7_123 L_z8_123 L_z9_123 U1_123 U2_123 Tt_123 Ee_123 QE_123 L_z16_123 Ff_123 QF_124 L_z17_125
          clear hb9
          clear QE_126 Ee_126 QF_126 Ff_126 Tt_126
          go_upto_region 50 with fail
          have ne2 : (E == E) = true := by simp
          obtain ⟨p0, p1, p2, p3, p4⟩ := box_cells PX_126.out
          have ML_z1_Gg : Hid (z1.heap.size < z18.heap.size) := L_z1_126.out
          have ML_z2_Gg : Hid (z2.heap.size < z18.heap.size) := L_z2_126.out
          have ML_z3_Gg : Hid (z3.heap.size < z18.heap.size) := L_z3_126.out
          have ML_z5_Gg : Hid (z5.heap.size < z18.heap.size) := L_z5_126.out
          have ML_z6_Gg : Hid (z6.heap.size < z18.heap.size) := L_z6_126.out
          have ML_z7_Gg : Hid (z7.heap.size < z18.heap.size) := L_z7_126.out
          have ML_z8_Gg : Hid (z8.heap.size < z18.heap.size) := L_z8_126.out
          have ML_z9_Gg : Hid (z9.heap.size < z18.heap.size) := L_z9_126.out
          have ML_z16_Gg : Hid (z16.heap.size < z18.heap.size) := L_z16_126.out
          have ML_z17_Gg : Hid (z17.heap.size < z18.heap.size) := L_z17_126.out
          go_wp2_with fail
          refine (PD.out _ _ _ _ z18 (own_of_rows R_126.out.1 R_126.out.2.1 R_126.out.2.2).stm Ll_126.out).mono ?_
          rintro e z19 ⟨vi9, vq9, vf9, rfl, ho9, hb9⟩
          obtain ⟨cc1, ccc1, cc2, ccc2, cc3, ccc3, rfl, rfl, rfl⟩ := ho9.stm.form
          clear p0 p1 p2 p3 p4
          have hb := hb9
          have R_127 : Hid (z19.ownsRow w.heap.size 3 1 (.slice (some ⟨g1, 0, none⟩) (s.ind.length + 2) k1) (s.ind.length + 2) (iC s.ind ++ [.int .i64 1, .int .i64 2]) ∧ z19.ownsRow w.heap.size 9 1 (.slice (some ⟨g2, 0, none⟩) (s.que.length + 2) k2) (s.que.length + 2) (qC s.que ++ [.string ⟨#[97]⟩, .string ⟨#[98]⟩]) ∧ z19.ownsRow w.heap.size 42 2 (.slice (some ⟨g3, 0, none⟩) (s.frm.length + 2) k3) (s.frm.length + 2) (fC s.frm ++ [.int .i64 0, .string ⟨#[]⟩, .int .i64 0, .string ⟨#[]⟩])) := ⟨row_up R_126.out.1 hb, row_up R_126.out.2.1 hb, row_up R_126.out.2.2 hb⟩
          have BW_127 : Hid (Below w.heap.size w z19) := below_trans BW_126.out hb
          have PS_127 : Hid (z19.heap[w.heap.size]? = some (.cells #[.slice a1 s.ind.length c1, .int .i64 s.pen, .slice a2 s.que.length c2, .slice a3 s.frm.length c3, .int .u16 (s.flg : Int)] 27 (0, 0))) := (hb.block _ (lt_of_heap PS_126.out)).trans PS_126.out
          have PX_127 : Hid (z19.heap[T]? = some (.cells #[.slice (some ⟨g1, 0, none⟩) s.ind.length k1, .int .i64 s.pen, .slice (some ⟨g2, 0, none⟩) s.que.length k2, .slice (some ⟨g3, 0, none⟩) s.frm.length k3, .int .u16 (s.flg : Int)] 27 (0, 0))) := (hb.block _ (lt_of_heap PX_126.out)).trans PX_126.out
          have S_127 : Hid (Stm z19 (.slice a1 s.ind.length c1) (.slice a2 s.que.length c2) (.slice a3 s.frm.length c3) s) := S_126.out.up hb
          have Ll_127 : Hid (Rw z19 (.slice av_ l.length cv_) l.length (aC l)) := Ll_126.out.up hb
          have L_z1_127 : Hid (z1.heap.size < z19.heap.size) := Nat.lt_of_lt_of_le L_z1_126.out hb.size
          have Bb_127 : Hid (Own Wz1.heap.size z19 (.slice bb1 t.ind.length bbc1) (.slice bb2 t.que.length bbc2) (.slice bb3 t.frm.length bbc3) t) := Bb_126.out.up hb
          have QB_127 : Hid (z19.heap[z2.heap.size]? = some (.cells #[.slice bb1 t.ind.length bbc1, .int .i64 t.pen, .slice bb2 t.que.length bbc2, .slice bb3 t.frm.length bbc3, .int .u16 (t.flg : Int)] 27 (0, 0))) := (hb.block _ (lt_of_heap QB_126.out)).trans QB_126.out
          have L_z2_127 : Hid (z2.heap.size < z19.heap.size) := Nat.lt_of_lt_of_le L_z2_126.out hb.size
          have Ww_127 : Hid (Own Wz2.heap.size z19 (.slice bc1 t.ind.length bcc1) (.slice bc2 t.que.length bcc2) (.slice bc3 t.frm.length bcc3) t) := Ww_126.out.up hb
          have QW_127 : Hid (z19.heap[z3.heap.size]? = some (.cells #[.slice bc1 t.ind.length bcc1, .int .i64 t.pen, .slice bc2 t.que.length bcc2, .slice bc3 t.frm.length bcc3, .int .u16 (t.flg : Int)] 27 (0, 0))) := (hb.block _ (lt_of_heap QW_126.out)).trans QW_126.out
          have L_z3_127 : Hid (z3.heap.size < z19.heap.size) := Nat.lt_of_lt_of_le L_z3_126.out hb.size
          have L_z5_127 : Hid (z5.heap.size < z19.heap.size) := Nat.lt_of_lt_of_le L_z5_126.out hb.size
          have L_z6_127 : Hid (z6.heap.size < z19.heap.size) := Nat.lt_of_lt_of_le L_z6_126.out hb.size
          have L_z7_127 : Hid (z7.heap.size < z19.heap.size) := Nat.lt_of_lt_of_le L_z7_126.out hb.size
          have L_z8_127 : Hid (z8.heap.size < z19.heap.size) := Nat.lt_of_lt_of_le L_z8_126.out hb.size
          have L_z9_127 : Hid (z9.heap.size < z19.heap.size) := Nat.lt_of_lt_of_le L_z9_126.out hb.size
          have U1_127 : Hid (wc.heap.size ≤ z19.heap.size) := Nat.le_trans U1_126.out hb.size
          have U2_127 : Hid (z4.heap.size ≤ z19.heap.size) := Nat.le_trans U2_126.out hb.size
          have L_z16_127 : Hid (z16.heap.size < z19.heap.size) := Nat.lt_of_lt_of_le L_z16_126.out hb.size
          have L_z17_127 : Hid (z17.heap.size < z19.heap.size) := Nat.lt_of_lt_of_le L_z17_126.out hb.size
          clear hb R_126 BW_126 PS_126 PX_126 S_126 Ll_126 L_z1_126 Bb_126 QB_126 L_z2_126 Ww_126 QW_126 L_z3_126 L_z5_126 L_z6_126 L_z7_126 L_z8_126 L_z9_126 U1_126 U2_126 L_z16_126 L_z17_126
          have OL_z1_z19 : Hid (z1.heap.size < z19.heap.size) := L_z1_127.out
          have OL_z2_z19 : Hid (z2.heap.size < z19.heap.size) := L_z2_127.out
          have OL_z3_z19 : Hid (z3.heap.size < z19.heap.size) := L_z3_127.out
          have OL_z5_z19 : Hid (z5.heap.size < z19.heap.size) := L_z5_127.out
          have OL_z6_z19 : Hid (z6.heap.size < z19.heap.size) := L_z6_127.out
          have OL_z7_z19 : Hid (z7.heap.size < z19.heap.size) := L_z7_127.out
          have OL_z8_z19 : Hid (z8.heap.size < z19.heap.size) := L_z8_127.out
          have OL_z9_z19 : Hid (z9.heap.size < z19.heap.size) := L_z9_127.out
          have OL_z16_z19 : Hid (z16.heap.size < z19.heap.size) := L_z16_127.out
          have OL_z17_z19 : Hid (z17.heap.size < z19.heap.size) := L_z17_127.out
          obtain ⟨Wz19, hW9⟩ : ∃ Wz19, Wz19 = z19.alloc (.cells #[.slice cc1 t.ind.length ccc1, .int .i64 t.pen, .slice cc2 t.que.length ccc2, .slice cc3 t.frm.length ccc3, .int .u16 (t.flg : Int)] 27) := ⟨_, rfl⟩
          have HWz19 : Hid (Wz19 = z19.alloc (.cells #[.slice cc1 t.ind.length ccc1, .int .i64 t.pen, .slice cc2 t.que.length ccc2, .slice cc3 t.frm.length ccc3, .int .u16 (t.flg : Int)] 27)) := hW9
          have OS_Gg : Hid (z18.heap.size ≤ z19.heap.size) := hb9.size
          have ZGg : Hid (Own z18.heap.size z19 (.slice cc1 t.ind.length ccc1) (.slice cc2 t.que.length ccc2) (.slice cc3 t.frm.length ccc3) t) := ho9
          have Gg_128 : Hid (Own z18.heap.size z19 (.slice cc1 t.ind.length ccc1) (.slice cc2 t.que.length ccc2) (.slice cc3 t.frm.length ccc3) t) := ho9
          clear ho9 hb9
          have hba : Below z19.heap.size z19 Wz19 := by rw [hW9]; exact bel_up _ _
          have hb := hba
          have R_129 : Hid (Wz19.ownsRow w.heap.size 3 1 (.slice (some ⟨g1, 0, none⟩) (s.ind.length + 2) k1) (s.ind.length + 2) (iC s.ind ++ [.int .i64 1, .int .i64 2]) ∧ Wz19.ownsRow w.heap.size 9 1 (.slice (some ⟨g2, 0, none⟩) (s.que.length + 2) k2) (s.que.length + 2) (qC s.que ++ [.string ⟨#[97]⟩, .string ⟨#[98]⟩]) ∧ Wz19.ownsRow w.heap.size 42 2 (.slice (some ⟨g3, 0, none⟩) (s.frm.length + 2) k3) (s.frm.length + 2) (fC s.frm ++ [.int .i64 0, .string ⟨#[]⟩, .int .i64 0, .string ⟨#[]⟩])) := ⟨row_up R_127.out.1 hb, row_up R_127.out.2.1 hb, row_up R_127.out.2.2 hb⟩
          have BW_129 : Hid (Below w.heap.size w Wz19) := below_trans BW_127.out hb
          have PS_129 : Hid (Wz19.heap[w.heap.size]? = some (.cells #[.slice a1 s.ind.length c1, .int .i64 s.pen, .slice a2 s.que.length c2, .slice a3 s.frm.length c3, .int .u16 (s.flg : Int)] 27 (0, 0))) := (hb.block _ (lt_of_heap PS_127.out)).trans PS_127.out
          have PX_129 : Hid (Wz19.heap[T]? = some (.cells #[.slice (some ⟨g1, 0, none⟩) s.ind.length k1, .int .i64 s.pen, .slice (some ⟨g2, 0, none⟩) s.que.length k2, .slice (some ⟨g3, 0, none⟩) s.frm.length k3, .int .u16 (s.flg : Int)] 27 (0, 0))) := (hb.block _ (lt_of_heap PX_127.out)).trans PX_127.out
          have S_129 : Hid (Stm Wz19 (.slice a1 s.ind.length c1) (.slice a2 s.que.length c2) (.slice a3 s.frm.length c3) s) := S_127.out.up hb
          have Ll_129 : Hid (Rw Wz19 (.slice av_ l.length cv_) l.length (aC l)) := Ll_127.out.up hb
          have L_z1_129 : Hid (z1.heap.size < Wz19.heap.size) := Nat.lt_of_lt_of_le L_z1_127.out hb.size
          have Bb_129 : Hid (Own Wz1.heap.size Wz19 (.slice bb1 t.ind.length bbc1) (.slice bb2 t.que.length bbc2) (.slice bb3 t.frm.length bbc3) t) := Bb_127.out.up hb
          have QB_129 : Hid (Wz19.heap[z2.heap.size]? = some (.cells #[.slice bb1 t.ind.length bbc1, .int .i64 t.pen, .slice bb2 t.que.length bbc2, .slice bb3 t.frm.length bbc3, .int .u16 (t.flg : Int)] 27 (0, 0))) := (hb.block _ (lt_of_heap QB_127.out)).trans QB_127.out
          have L_z2_129 : Hid (z2.heap.size < Wz19.heap.size) := Nat.lt_of_lt_of_le L_z2_127.out hb.size
          have Ww_129 : Hid (Own Wz2.heap.size Wz19 (.slice bc1 t.ind.length bcc1) (.slice bc2 t.que.length bcc2) (.slice bc3 t.frm.length bcc3) t) := Ww_127.out.up hb
          have QW_129 : Hid (Wz19.heap[z3.heap.size]? = some (.cells #[.slice bc1 t.ind.length bcc1, .int .i64 t.pen, .slice bc2 t.que.length bcc2, .slice bc3 t.frm.length bcc3, .int .u16 (t.flg : Int)] 27 (0, 0))) := (hb.block _ (lt_of_heap QW_127.out)).trans QW_127.out
          have L_z3_129 : Hid (z3.heap.size < Wz19.heap.size) := Nat.lt_of_lt_of_le L_z3_127.out hb.size
          have L_z5_129 : Hid (z5.heap.size < Wz19.heap.size) := Nat.lt_of_lt_of_le L_z5_127.out hb.size
          have L_z6_129 : Hid (z6.heap.size < Wz19.heap.size) := Nat.lt_of_lt_of_le L_z6_127.out hb.size
          have L_z7_129 : Hid (z7.heap.size < Wz19.heap.size) := Nat.lt_of_lt_of_le L_z7_127.out hb.size
          have L_z8_129 : Hid (z8.heap.size < Wz19.heap.size) := Nat.lt_of_lt_of_le L_z8_127.out hb.size
          have L_z9_129 : Hid (z9.heap.size < Wz19.heap.size) := Nat.lt_of_lt_of_le L_z9_127.out hb.size
          have U1_129 : Hid (wc.heap.size ≤ Wz19.heap.size) := Nat.le_trans U1_127.out hb.size
          have U2_129 : Hid (z4.heap.size ≤ Wz19.heap.size) := Nat.le_trans U2_127.out hb.size
          have L_z16_129 : Hid (z16.heap.size < Wz19.heap.size) := Nat.lt_of_lt_of_le L_z16_127.out hb.size
          have L_z17_129 : Hid (z17.heap.size < Wz19.heap.size) := Nat.lt_of_lt_of_le L_z17_127.out hb.size
          have Gg_129 : Hid (Own z18.heap.size Wz19 (.slice cc1 t.ind.length ccc1) (.slice cc2 t.que.length ccc2) (.slice cc3 t.frm.length ccc3) t) := Gg_128.out.up hb
          clear hb R_127 BW_127 PS_127 PX_127 S_127 Ll_127 L_z1_127 Bb_127 QB_127 L_z2_127 Ww_127 QW_127 L_z3_127 L_z5_127 L_z6_127 L_z7_127 L_z8_127 L_z9_127 U1_127 U2_127 L_z16_127 L_z17_127 Gg_128
          have QG_130 : Hid (Wz19.heap[z19.heap.size]? = some (.cells #[.slice cc1 t.ind.length ccc1, .int .i64 t.pen, .slice cc2 t.que.length ccc2, .slice cc3 t.frm.length ccc3, .int .u16 (t.flg : Int)] 27 (0, 0))) := by rw [hW9]; exact heap_new z19 _
          have L_z19_131 : Hid (z19.heap.size < Wz19.heap.size) := by rw [hW9, World.size_alloc]; exact Nat.lt_succ_self _
          clear hW9 hba
          go_upto_region 51 with fail
          rw [← HWz19.out]
          obtain ⟨p0, p1, p2, p3, p4⟩ := box_cells QG_130.out
          obtain ⟨q0, q1, q2, q3, q4⟩ := box_cells QW_129.out
          go_wp2_with fail
          refine (rsame_as Wz19 Gg_129.out.stm Ww_129.out.stm rfl rfl (by have := HTL.out; omega) (by have := HTL.out; omega) (by have := HTL.out; omega)).mono ?_
          rintro e z20 ⟨rfl, hb9⟩
          clear p0 p1 p2 p3 p4 q0 q1 q2 q3 q4
          have hb := hb9
          have R_132 : Hid (z20.ownsRow w.heap.size 3 1 (.slice (some ⟨g1, 0, none⟩) (s.ind.length + 2) k1) (s.ind.length + 2) (iC s.ind ++ [.int .i64 1, .int .i64 2]) ∧ z20.ownsRow w.heap.size 9 1 (.slice (some ⟨g2, 0, none⟩) (s.que.length + 2) k2) (s.que.length + 2) (qC s.que ++ [.string ⟨#[97]⟩, .string ⟨#[98]⟩]) ∧ z20.ownsRow w.heap.size 42 2 (.slice (some ⟨g3, 0, none⟩) (s.frm.length + 2) k3) (s.frm.length + 2) (fC s.frm ++ [.int .i64 0, .string ⟨#[]⟩, .int .i64 0, .string ⟨#[]⟩])) := ⟨row_up R_129.out.1 hb, row_up R_129.out.2.1 hb, row_up R_129.out.2.2 hb⟩
          have BW_132 : Hid (Below w.heap.size w z20) := below_trans BW_129.out hb
          have PS_132 : Hid (z20.heap[w.heap.size]? = some (.cells #[.slice a1 s.ind.length c1, .int .i64 s.pen, .slice a2 s.que.length c2, .slice a3 s.frm.length c3, .int .u16 (s.flg : Int)] 27 (0, 0))) := (hb.block _ (lt_of_heap PS_129.out)).trans PS_129.out
          have PX_132 : Hid (z20.heap[T]? = some (.cells #[.slice (some ⟨g1, 0, none⟩) s.ind.length k1, .int .i64 s.pen, .slice (some ⟨g2, 0, none⟩) s.que.length k2, .slice (some ⟨g3, 0, none⟩) s.frm.length k3, .int .u16 (s.flg : Int)] 27 (0, 0))) := (hb.block _ (lt_of_heap PX_129.out)).trans PX_129.out
          have S_132 : Hid (Stm z20 (.slice a1 s.ind.length c1) (.slice a2 s.que.length c2) (.slice a3 s.frm.length c3) s) := S_129.out.up hb
          have Ll_132 : Hid (Rw z20 (.slice av_ l.length cv_) l.length (aC l)) := Ll_129.out.up hb
          have L_z1_132 : Hid (z1.heap.size < z20.heap.size) := Nat.lt_of_lt_of_le L_z1_129.out hb.size
          have Bb_132 : Hid (Own Wz1.heap.size z20 (.slice bb1 t.ind.length bbc1) (.slice bb2 t.que.length bbc2) (.slice bb3 t.frm.length bbc3) t) := Bb_129.out.up hb
          have QB_132 : Hid (z20.heap[z2.heap.size]? = some (.cells #[.slice bb1 t.ind.length bbc1, .int .i64 t.pen, .slice bb2 t.que.length bbc2, .slice bb3 t.frm.length bbc3, .int .u16 (t.flg : Int)] 27 (0, 0))) := (hb.block _ (lt_of_heap QB_129.out)).trans QB_129.out
          have L_z2_132 : Hid (z2.heap.size < z20.heap.size) := Nat.lt_of_lt_of_le L_z2_129.out hb.size
          have Ww_132 : Hid (Own Wz2.heap.size z20 (.slice bc1 t.ind.length bcc1) (.slice bc2 t.que.length bcc2) (.slice bc3 t.frm.length bcc3) t) := Ww_129.out.up hb
          have QW_132 : Hid (z20.heap[z3.heap.size]? = some (.cells #[.slice bc1 t.ind.length bcc1, .int .i64 t.pen, .slice bc2 t.que.length bcc2, .slice bc3 t.frm.length bcc3, .int .u16 (t.flg : Int)] 27 (0, 0))) := (hb.block _ (lt_of_heap QW_129.out)).trans QW_129.out
          have L_z3_132 : Hid (z3.heap.size < z20.heap.size) := Nat.lt_of_lt_of_le L_z3_129.out hb.size
          have L_z5_132 : Hid (z5.heap.size < z20.heap.size) := Nat.lt_of_lt_of_le L_z5_129.out hb.size
          have L_z6_132 : Hid (z6.heap.size < z20.heap.size) := Nat.lt_of_lt_of_le L_z6_129.out hb.size
          have L_z7_132 : Hid (z7.heap.size < z20.heap.size) := Nat.lt_of_lt_of_le L_z7_129.out hb.size
          have L_z8_132 : Hid (z8.heap.size < z20.heap.size) := Nat.lt_of_lt_of_le L_z8_129.out hb.size
          have L_z9_132 : Hid (z9.heap.size < z20.heap.size) := Nat.lt_of_lt_of_le L_z9_129.out hb.size
          have U1_132 : Hid (wc.heap.size ≤ z20.heap.size) := Nat.le_trans U1_129.out hb.size
          have U2_132 : Hid (z4.heap.size ≤ z20.heap.size) := Nat.le_trans U2_129.out hb.size
          have L_z16_132 : Hid (z16.heap.size < z20.heap.size) := Nat.lt_of_lt_of_le L_z16_129.out hb.size
          have L_z17_132 : Hid (z17.heap.size < z20.heap.size) := Nat.lt_of_lt_of_le L_z17_129.out hb.size
          have Gg_132 : Hid (Own z18.heap.size z20 (.slice cc1 t.ind.length ccc1) (.slice cc2 t.que.length ccc2) (.slice cc3 t.frm.length ccc3) t) := Gg_129.out.up hb
          have QG_132 : Hid (z20.heap[z19.heap.size]? = some (.cells #[.slice cc1 t.ind.length ccc1, .int .i64 t.pen, .slice cc2 t.que.length ccc2, .slice cc3 t.frm.length ccc3, .int .u16 (t.flg : Int)] 27 (0, 0))) := (hb.block _ (lt_of_heap QG_130.out)).trans QG_130.out
          have L_z19_132 : Hid (z19.heap.size < z20.heap.size) := Nat.lt_of_lt_of_le L_z19_131.out hb.size
          clear hb R_129 BW_129 PS_129 PX_129 S_129 Ll_129 L_z1_129 Bb_129 QB_129 L_z2_129 Ww_129 QW_129 L_z3_129 L_z5_129 L_z6_129 L_z7_129 L_z8_129 L_z9_129 U1_129 U2_129 L_z16_129 L_z17_129 Gg_129 QG_130 L_z19_131
          clear hb9
          obtain ⟨p0, p1, p2, p3, p4⟩ := box_cells PX_132.out
          go_wp2_with fail
          refine (spoil_wide z20 (own_of_rows R_132.out.1 R_132.out.2.1 R_132.out.2.2) BW_132.out.size HZ.out.i HZ.out.q HZ.out.f).mono ?_
          rintro e z21 ⟨⟨rv7, rfl⟩, -, hc9⟩
          clear p0 p1 p2 p3 p4
          have hlow := hc9.below (own_of_rows R_132.out.1 R_132.out.2.1 R_132.out.2.2) BW_132.out.size
          have hhigh := hc9.kab (own_of_rows ZR.out.1 ZR.out.2.1 ZR.out.2.2)
          have BW_133 : Hid (Below w.heap.size w z21) := BW_132.out.trans hlow
          clear BW_132
          have QB_134 : Hid (z21.heap[z2.heap.size]? = some (.cells #[.slice bb1 t.ind.length bbc1, .int .i64 t.pen, .slice bb2 t.que.length bbc2, .slice bb3 t.frm.length bbc3, .int .u16 (t.flg : Int)] 27 (0, 0))) := (hhigh _ (by have := OL_z1_z2.out; have := OS_Aa.out; omega) (lt_of_heap QB_132.out)).trans QB_132.out
          clear QB_132
          have QW_135 : Hid (z21.heap[z3.heap.size]? = some (.cells #[.slice bc1 t.ind.length bcc1, .int .i64 t.pen, .slice bc2 t.que.length bcc2, .slice bc3 t.frm.length bcc3, .int .u16 (t.flg : Int)] 27 (0, 0))) := (hhigh _ (by have := OL_z1_z3.out; have := OS_Aa.out; omega) (lt_of_heap QW_132.out)).trans QW_132.out
          clear QW_132
          have Bb_136 : Hid (Own Wz1.heap.size z21 (.slice bb1 t.ind.length bbc1) (.slice bb2 t.que.length bbc2) (.slice bb3 t.frm.length bbc3) t) := Bb_132.out.kab (fun g h1 h2 => hhigh g (by have := ML_z1_Bb.out; have := OS_Aa.out; omega) h2)
          clear Bb_132
          have Ww_137 : Hid (Own Wz2.heap.size z21 (.slice bc1 t.ind.length bcc1) (.slice bc2 t.que.length bcc2) (.slice bc3 t.frm.length bcc3) t) := Ww_132.out.kab (fun g h1 h2 => hhigh g (by have := ML_z1_Ww.out; have := OS_Aa.out; omega) h2)
          clear Ww_132
          clear R_132
          clear PS_132
          clear PX_132
          clear S_132
          clear Ll_132
          clear L_z1_132
          clear L_z2_132
          clear L_z3_132
          clear L_z5_132
          clear L_z6_132
          clear L_z7_132
          clear L_z8_132
          clear L_z9_132
          clear U1_132
          clear U2_132
          clear L_z16_132
          clear L_z17_132
          clear Gg_132
          clear QG_132
          clear L_z19_132
          clear hlow hhigh hc9
          obtain ⟨p0, p1, p2, p3, p4⟩ := box_cells QB_134.out
          obtain ⟨q0, q1, q2, q3, q4⟩ := box_cells QW_135.out
          go_wp2_with fail
          refine (rsame_as z21 Bb_136.out.stm Ww_137.out.stm rfl rfl (by have := HTL.out; omega) (by have := HTL.out; omega) (by have := HTL.out; omega)).mono ?_
          rintro e z22 ⟨rfl, hb9⟩
          clear p0 p1 p2 p3 p4 q0 q1 q2 q3 q4
          have hb := hb9
          have BW_138 : Hid (Below w.heap.size w z22) := below_trans BW_133.out hb
          have Bb_138 : Hid (Own Wz1.heap.size z22 (.slice bb1 t.ind.length bbc1) (.slice bb2 t.que.length bbc2) (.slice bb3 t.frm.length bbc3) t) := Bb_136.out.up hb
          have QB_138 : Hid (z22.heap[z2.heap.size]? = some (.cells #[.slice bb1 t.ind.length bbc1, .int .i64 t.pen, .slice bb2 t.que.length bbc2, .slice bb3 t.frm.length bbc3, .int .u16 (t.flg : Int)] 27 (0, 0))) := (hb.block _ (lt_of_heap QB_134.out)).trans QB_134.out
          have Ww_138 : Hid (Own Wz2.heap.size z22 (.slice bc1 t.ind.length bcc1) (.slice bc2 t.que.length bcc2) (.slice bc3 t.frm.length bcc3) t) := Ww_137.out.up hb
          have QW_138 : Hid (z22.heap[z3.heap.size]? = some (.cells #[.slice bc1 t.ind.length bcc1, .int .i64 t.pen, .slice bc2 t.que.length bcc2, .slice bc3 t.frm.length bcc3, .int .u16 (t.flg : Int)] 27 (0, 0))) := (hb.block _ (lt_of_heap QW_135.out)).trans QW_135.out
          clear hb BW_133 Bb_136 QB_134 Ww_137 QW_135
          clear hb9
          go_wp2_with fail
          go_ret
          exact ⟨rfl, BW_138.out⟩
end Go.Proofs.Ytkaciochlemjiab
