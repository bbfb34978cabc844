import Derived.Test.YtkaciochlemjiabFra
namespace Go.Proofs.Ytkaciochlemjiab
open Go.RowKit Go.Maps

theorem five_blk {W : World} {b : Nat} {x0 x1 x2 x3 x4 v0 v1 v2 v3 v4 : Value} (h : W.heap[b]? = some (.cells #[x0, x1, x2, x3, x4] 27 (0, 0))) : (five W b v0 v1 v2 v3 v4).heap[b]? = some (.cells #[v0, v1, v2, v3, v4] 27 (0, 0)) :=
  blk_set v4 (blk_set v3 (blk_set v2 (blk_set v1 (blk_set v0 h))))
theorem five_far {W : World} {b c : Nat} {v0 v1 v2 v3 v4 : Value} (h : c ≠ b) : (five W b v0 v1 v2 v3 v4).heap[c]? = W.heap[c]? := by
  rw [Below.heap_setCell _ _ _ _ h, Below.heap_setCell _ _ _ _ h, Below.heap_setCell _ _ _ _ h, Below.heap_setCell _ _ _ _ h, Below.heap_setCell _ _ _ _ h]
theorem rmy_five {W : World} {B b : Nat} {vi vq vf v0 v1 v2 v3 v4 : Value} {s : Stt} {cs : Array Value} (hb : W.heap[b]? = some (.cells cs 27 (0, 0))) (h : Rmy B W vi vq vf s) : Rmy B (five W b v0 v1 v2 v3 v4) vi vq vf s := by
  obtain ⟨g1, k1, g2, k2, g3, k3, e1, e2, e3, r1, r2, r3⟩ := h
  exact ⟨g1, k1, g2, k2, g3, k3, e1, e2, e3, row_five hb r1 (by decide), row_five hb r2 (by decide), row_five hb r3 (by decide)⟩
set_option maxRecDepth 100000 in
set_option maxHeartbeats 16000000 in
theorem fresh_any {vi vq vf : Value} {s : Stt} (k n mo : Int) (m : ByteArray) (w : World) (h : Stm w vi vq vf s) (hf : s.flg < 65536) (hz : Sid s) (hm : m.size ≤ 140737488355328) :
    Calls Try.prog 10 #[sv vi vq vf s, av k n mo, .string m] w fun e w' => e = .returned (.bool true) ∧ Below w.heap.size w w' := by
  obtain ⟨a1, ac1, a2, ac2, a3, ac3, rfl, rfl, rfl⟩ := h.form
  obtain ⟨W1, hW1⟩ : ∃ W1, W1 = (w.alloc (.cells #[.slice a1 s.ind.length ac1, .int .i64 s.pen, .slice a2 s.que.length ac2, .slice a3 s.frm.length ac3, .int .u16 (s.flg : Int)] 27)).alloc (.cells #[.int .i64 k, .int .i64 n, .int .i64 mo] 38) := ⟨_, rfl⟩
  have HW : Hid (W1 = (w.alloc (.cells #[.slice a1 s.ind.length ac1, .int .i64 s.pen, .slice a2 s.que.length ac2, .slice a3 s.frm.length ac3, .int .u16 (s.flg : Int)] 27)).alloc (.cells #[.int .i64 k, .int .i64 n, .int .i64 mo] 38)) := hW1
  have s1 : (w.alloc (.cells #[.slice a1 s.ind.length ac1, .int .i64 s.pen, .slice a2 s.que.length ac2, .slice a3 s.frm.length ac3, .int .u16 (s.flg : Int)] 27)).heap.size = w.heap.size + 1 := World.size_alloc _ _
  have SW1 : Hid (W1.heap.size = w.heap.size + 2) := by show W1.heap.size = _; rw [hW1, World.size_alloc, s1]
  have BW_1 : Hid (Below w.heap.size w W1) := by rw [hW1]; exact below_trans (bel_up _ _) (bel_up _ _)
  have PS_2 : Hid (W1.heap[w.heap.size]? = some (.cells #[.slice a1 s.ind.length ac1, .int .i64 s.pen, .slice a2 s.que.length ac2, .slice a3 s.frm.length ac3, .int .u16 (s.flg : Int)] 27 (0, 0))) := by rw [hW1, (bel_up _ _).block _ (by rw [s1]; omega)]; exact heap_new w _
  have PT_3 : Hid (W1.heap[w.heap.size + 1]? = some (.cells #[.int .i64 k, .int .i64 n, .int .i64 mo] 38 (0, 0))) := by rw [hW1]; have := heap_new (w.alloc (.cells #[.slice a1 s.ind.length ac1, .int .i64 s.pen, .slice a2 s.que.length ac2, .slice a3 s.frm.length ac3, .int .u16 (s.flg : Int)] 27)) (.cells #[.int .i64 k, .int .i64 n, .int .i64 mo] 38); rw [s1] at this; exact this
  have S_4 : Hid (Stm W1 (.slice a1 s.ind.length ac1) (.slice a2 s.que.length ac2) (.slice a3 s.frm.length ac3) s) := h.up BW_1.out
  have ZS : Hid (Sid s) := hz
  have HM : Hid (m.size ≤ 140737488355328 ∧ s.flg < 65536) := ⟨hm, hf⟩
  obtain ⟨t, E, htl, hrd, hpd⟩ := does_both (s := s) k n mo m rfl rfl hf (fun d hd => by have := hz.t d hd; omega) hm
  have HTL : Hid (t.ind.length ≤ 32 ∧ t.que.length ≤ 8 ∧ t.frm.length ≤ 16) := htl
  have RD : Hid (∀ vi vq vf W, Stm W vi vq vf s → Calls Try.prog 19 #[.agg #[vi, .int .i64 s.pen, vq, vf, .int .u16 (s.flg : Int)], av k n mo, .string m] W fun e w' => ∃ ui uq uf, e = .returned (.tuple #[sv ui uq uf t, .int .i64 E]) ∧ Stl W.heap.size w' ui uq uf t ∧ Below W.heap.size W w') := hrd
  have PD : Hid (∀ vi vq vf W, Stm W vi vq vf s → Calls Try.prog 21 #[.agg #[vi, .int .i64 s.pen, vq, vf, .int .u16 (s.flg : Int)], av k n mo, .string m] W fun e w' => ∃ ui uq uf, e = .returned (.tuple #[sv ui uq uf t, .int .i64 E]) ∧ Own W.heap.size w' ui uq uf t ∧ Below W.heap.size W w') := hpd
  have ne1 : (E != E) = false := by simp
  have ne2 : (E == E) = true := by simp
  clear h hz hf hm htl hrd hpd hW1 s1
  go_enter Try.func10, Try.ntmps10
  go_upto_region 1 with fail
  rw [← HW.out]
  obtain ⟨p0, p1, p2, p3, p4⟩ := box_cells PS_2.out
  go_wp2_with fail
  refine (roomy_any W1 S_4.out ZS.out).mono ?_
  rintro e w2 ⟨zi, zq, zf, rfl, ⟨g1, k1, g2, k2, g3, k3, rfl, rfl, rfl, r1, r2, r3⟩, hb9⟩
  clear p0 p1 p2 p3 p4
  have hb := hb9
  have BW_5 : Hid (Below w.heap.size w w2) := below_trans BW_1.out hb
  have PS_5 : Hid (w2.heap[w.heap.size]? = some (.cells #[.slice a1 s.ind.length ac1, .int .i64 s.pen, .slice a2 s.que.length ac2, .slice a3 s.frm.length ac3, .int .u16 (s.flg : Int)] 27 (0, 0))) := (hb.block _ (lt_of_heap PS_2.out)).trans PS_2.out
  have PT_5 : Hid (w2.heap[w.heap.size + 1]? = some (.cells #[.int .i64 k, .int .i64 n, .int .i64 mo] 38 (0, 0))) := (hb.block _ (lt_of_heap PT_3.out)).trans PT_3.out
  have S_5 : Hid (Stm w2 (.slice a1 s.ind.length ac1) (.slice a2 s.que.length ac2) (.slice a3 s.frm.length ac3) s) := S_4.out.up hb
  clear hb BW_1 PS_2 PT_3 S_4
  have HGB : Hid ((W1.heap.size ≤ g1 ∧ g1 < w2.heap.size) ∧ (W1.heap.size ≤ g2 ∧ g2 < w2.heap.size) ∧ (W1.heap.size ≤ g3 ∧ g3 < w2.heap.size)) := by
    obtain ⟨l1, _, q1⟩ := row_blk r1
    obtain ⟨l2, _, q2⟩ := row_blk r2
    obtain ⟨l3, _, q3⟩ := row_blk r3
    exact ⟨⟨l1, lt_of_heap q1⟩, ⟨l2, lt_of_heap q2⟩, ⟨l3, lt_of_heap q3⟩⟩
  have R_6 : Hid (w2.ownsRow W1.heap.size 3 1 (.slice (some ⟨g1, 0, none⟩) (s.ind.length + 2) k1) (s.ind.length + 2) (iC s.ind ++ mI) ∧ w2.ownsRow W1.heap.size 9 1 (.slice (some ⟨g2, 0, none⟩) (s.que.length + 2) k2) (s.que.length + 2) (qC s.que ++ mQ) ∧ w2.ownsRow W1.heap.size 42 2 (.slice (some ⟨g3, 0, none⟩) (s.frm.length + 2) k3) (s.frm.length + 2) (fC s.frm ++ mF)) := ⟨r1, r2, r3⟩
  have B12 : Hid (W1.heap.size ≤ w2.heap.size) := hb9.size
  clear r1 r2 r3 hb9
  obtain ⟨W2, hW9⟩ : ∃ W2, W2 = w2.alloc (.cells #[.slice (some ⟨g1, 0, none⟩) s.ind.length k1, .int .i64 s.pen, .slice (some ⟨g2, 0, none⟩) s.que.length k2, .slice (some ⟨g3, 0, none⟩) s.frm.length k3, .int .u16 (s.flg : Int)] 27) := ⟨_, rfl⟩
  have HW2 : Hid (W2 = w2.alloc (.cells #[.slice (some ⟨g1, 0, none⟩) s.ind.length k1, .int .i64 s.pen, .slice (some ⟨g2, 0, none⟩) s.que.length k2, .slice (some ⟨g3, 0, none⟩) s.frm.length k3, .int .u16 (s.flg : Int)] 27)) := hW9
  have hba : Below w2.heap.size w2 W2 := by rw [hW9]; exact bel_up _ _
  have hb := hba
  have BW_7 : Hid (Below w.heap.size w W2) := below_trans BW_5.out hb
  have PS_7 : Hid (W2.heap[w.heap.size]? = some (.cells #[.slice a1 s.ind.length ac1, .int .i64 s.pen, .slice a2 s.que.length ac2, .slice a3 s.frm.length ac3, .int .u16 (s.flg : Int)] 27 (0, 0))) := (hb.block _ (lt_of_heap PS_5.out)).trans PS_5.out
  have PT_7 : Hid (W2.heap[w.heap.size + 1]? = some (.cells #[.int .i64 k, .int .i64 n, .int .i64 mo] 38 (0, 0))) := (hb.block _ (lt_of_heap PT_5.out)).trans PT_5.out
  have S_7 : Hid (Stm W2 (.slice a1 s.ind.length ac1) (.slice a2 s.que.length ac2) (.slice a3 s.frm.length ac3) s) := S_5.out.up hb
  have R_7 : Hid (W2.ownsRow W1.heap.size 3 1 (.slice (some ⟨g1, 0, none⟩) (s.ind.length + 2) k1) (s.ind.length + 2) (iC s.ind ++ mI) ∧ W2.ownsRow W1.heap.size 9 1 (.slice (some ⟨g2, 0, none⟩) (s.que.length + 2) k2) (s.que.length + 2) (qC s.que ++ mQ) ∧ W2.ownsRow W1.heap.size 42 2 (.slice (some ⟨g3, 0, none⟩) (s.frm.length + 2) k3) (s.frm.length + 2) (fC s.frm ++ mF)) := ⟨row_up R_6.out.1 hb, row_up R_6.out.2.1 hb, row_up R_6.out.2.2 hb⟩
  clear hb BW_5 PS_5 PT_5 S_5 R_6
  have PX_8 : Hid (W2.heap[w2.heap.size]? = some (.cells #[.slice (some ⟨g1, 0, none⟩) s.ind.length k1, .int .i64 s.pen, .slice (some ⟨g2, 0, none⟩) s.que.length k2, .slice (some ⟨g3, 0, none⟩) s.frm.length k3, .int .u16 (s.flg : Int)] 27 (0, 0))) := by rw [hW9]; exact heap_new w2 _
  have L_w2_9 : Hid (w2.heap.size < W2.heap.size) := by rw [hW9, World.size_alloc]; exact Nat.lt_succ_self _
  clear hW9 hba
  go_upto_region 2 with fail
  rw [← HW2.out]
  obtain ⟨p0, p1, p2, p3, p4⟩ := box_cells PS_7.out
  have q0 := rcell PT_7.out 0 (.int .i64 k) rfl
  have q1 := rcell PT_7.out 1 (.int .i64 n) rfl
  have q2 := rcell PT_7.out 2 (.int .i64 mo) rfl
  go_wp2_with fail
  refine (RD.out _ _ _ W2 S_7.out).mono ?_
  rintro e z1 ⟨vi9, vq9, vf9, rfl, ho9, hb9⟩
  obtain ⟨d1, dc1, d2, dc2, d3, dc3, rfl, rfl, rfl⟩ := ho9.stm.form
  clear p0 p1 p2 p3 p4 q0 q1 q2
  have hb := hb9
  have BW_10 : Hid (Below w.heap.size w z1) := below_trans BW_7.out hb
  have PS_10 : Hid (z1.heap[w.heap.size]? = some (.cells #[.slice a1 s.ind.length ac1, .int .i64 s.pen, .slice a2 s.que.length ac2, .slice a3 s.frm.length ac3, .int .u16 (s.flg : Int)] 27 (0, 0))) := (hb.block _ (lt_of_heap PS_7.out)).trans PS_7.out
  have PT_10 : Hid (z1.heap[w.heap.size + 1]? = some (.cells #[.int .i64 k, .int .i64 n, .int .i64 mo] 38 (0, 0))) := (hb.block _ (lt_of_heap PT_7.out)).trans PT_7.out
  have S_10 : Hid (Stm z1 (.slice a1 s.ind.length ac1) (.slice a2 s.que.length ac2) (.slice a3 s.frm.length ac3) s) := S_7.out.up hb
  have R_10 : Hid (z1.ownsRow W1.heap.size 3 1 (.slice (some ⟨g1, 0, none⟩) (s.ind.length + 2) k1) (s.ind.length + 2) (iC s.ind ++ mI) ∧ z1.ownsRow W1.heap.size 9 1 (.slice (some ⟨g2, 0, none⟩) (s.que.length + 2) k2) (s.que.length + 2) (qC s.que ++ mQ) ∧ z1.ownsRow W1.heap.size 42 2 (.slice (some ⟨g3, 0, none⟩) (s.frm.length + 2) k3) (s.frm.length + 2) (fC s.frm ++ mF)) := ⟨row_up R_7.out.1 hb, row_up R_7.out.2.1 hb, row_up R_7.out.2.2 hb⟩
  have PX_10 : Hid (z1.heap[w2.heap.size]? = some (.cells #[.slice (some ⟨g1, 0, none⟩) s.ind.length k1, .int .i64 s.pen, .slice (some ⟨g2, 0, none⟩) s.que.length k2, .slice (some ⟨g3, 0, none⟩) s.frm.length k3, .int .u16 (s.flg : Int)] 27 (0, 0))) := (hb.block _ (lt_of_heap PX_8.out)).trans PX_8.out
  have L_w2_10 : Hid (w2.heap.size < z1.heap.size) := Nat.lt_of_lt_of_le L_w2_9.out hb.size
  clear hb BW_7 PS_7 PT_7 S_7 R_7 PX_8 L_w2_9
  have OL_w2_z1 : Hid (w2.heap.size < z1.heap.size) := L_w2_10.out
  obtain ⟨Wz1, hW9⟩ : ∃ Wz1, Wz1 = z1.alloc (.cells #[.slice d1 t.ind.length dc1, .int .i64 t.pen, .slice d2 t.que.length dc2, .slice d3 t.frm.length dc3, .int .u16 (t.flg : Int)] 27) := ⟨_, rfl⟩
  have HWz1 : Hid (Wz1 = z1.alloc (.cells #[.slice d1 t.ind.length dc1, .int .i64 t.pen, .slice d2 t.que.length dc2, .slice d3 t.frm.length dc3, .int .u16 (t.flg : Int)] 27)) := hW9
  have Dd_11 : Hid (Stl W2.heap.size z1 (.slice d1 t.ind.length dc1) (.slice d2 t.que.length dc2) (.slice d3 t.frm.length dc3) t) := ho9
  clear ho9 hb9
  have hba : Below z1.heap.size z1 Wz1 := by rw [hW9]; exact bel_up _ _
  have hb := hba
  have BW_12 : Hid (Below w.heap.size w Wz1) := below_trans BW_10.out hb
  have PS_12 : Hid (Wz1.heap[w.heap.size]? = some (.cells #[.slice a1 s.ind.length ac1, .int .i64 s.pen, .slice a2 s.que.length ac2, .slice a3 s.frm.length ac3, .int .u16 (s.flg : Int)] 27 (0, 0))) := (hb.block _ (lt_of_heap PS_10.out)).trans PS_10.out
  have PT_12 : Hid (Wz1.heap[w.heap.size + 1]? = some (.cells #[.int .i64 k, .int .i64 n, .int .i64 mo] 38 (0, 0))) := (hb.block _ (lt_of_heap PT_10.out)).trans PT_10.out
  have S_12 : Hid (Stm Wz1 (.slice a1 s.ind.length ac1) (.slice a2 s.que.length ac2) (.slice a3 s.frm.length ac3) s) := S_10.out.up hb
  have R_12 : Hid (Wz1.ownsRow W1.heap.size 3 1 (.slice (some ⟨g1, 0, none⟩) (s.ind.length + 2) k1) (s.ind.length + 2) (iC s.ind ++ mI) ∧ Wz1.ownsRow W1.heap.size 9 1 (.slice (some ⟨g2, 0, none⟩) (s.que.length + 2) k2) (s.que.length + 2) (qC s.que ++ mQ) ∧ Wz1.ownsRow W1.heap.size 42 2 (.slice (some ⟨g3, 0, none⟩) (s.frm.length + 2) k3) (s.frm.length + 2) (fC s.frm ++ mF)) := ⟨row_up R_10.out.1 hb, row_up R_10.out.2.1 hb, row_up R_10.out.2.2 hb⟩
  have PX_12 : Hid (Wz1.heap[w2.heap.size]? = some (.cells #[.slice (some ⟨g1, 0, none⟩) s.ind.length k1, .int .i64 s.pen, .slice (some ⟨g2, 0, none⟩) s.que.length k2, .slice (some ⟨g3, 0, none⟩) s.frm.length k3, .int .u16 (s.flg : Int)] 27 (0, 0))) := (hb.block _ (lt_of_heap PX_10.out)).trans PX_10.out
  have L_w2_12 : Hid (w2.heap.size < Wz1.heap.size) := Nat.lt_of_lt_of_le L_w2_10.out hb.size
  have Dd_12 : Hid (Stl W2.heap.size Wz1 (.slice d1 t.ind.length dc1) (.slice d2 t.que.length dc2) (.slice d3 t.frm.length dc3) t) := Dd_11.out.up hb
  clear hb BW_10 PS_10 PT_10 S_10 R_10 PX_10 L_w2_10 Dd_11
  have QD_13 : Hid (Wz1.heap[z1.heap.size]? = some (.cells #[.slice d1 t.ind.length dc1, .int .i64 t.pen, .slice d2 t.que.length dc2, .slice d3 t.frm.length dc3, .int .u16 (t.flg : Int)] 27 (0, 0))) := by rw [hW9]; exact heap_new z1 _
  have L_z1_14 : Hid (z1.heap.size < Wz1.heap.size) := by rw [hW9, World.size_alloc]; exact Nat.lt_succ_self _
  clear hW9 hba
  go_upto_region 3 with fail
  rw [← HWz1.out]
  have LOW : Hid ((Wz1.heap[w.heap.size]? = some (.cells #[.slice a1 s.ind.length ac1, .int .i64 s.pen, .slice a2 s.que.length ac2, .slice a3 s.frm.length ac3, .int .u16 (s.flg : Int)] 27 (0, 0))) ∧ (Wz1.heap[w.heap.size + 1]? = some (.cells #[.int .i64 k, .int .i64 n, .int .i64 mo] 38 (0, 0))) ∧ Stm Wz1 (.slice a1 s.ind.length ac1) (.slice a2 s.que.length ac2) (.slice a3 s.frm.length ac3) s ∧ (Wz1.ownsRow W1.heap.size 3 1 (.slice (some ⟨g1, 0, none⟩) (s.ind.length + 2) k1) (s.ind.length + 2) (iC s.ind ++ mI) ∧ Wz1.ownsRow W1.heap.size 9 1 (.slice (some ⟨g2, 0, none⟩) (s.que.length + 2) k2) (s.que.length + 2) (qC s.que ++ mQ) ∧ Wz1.ownsRow W1.heap.size 42 2 (.slice (some ⟨g3, 0, none⟩) (s.frm.length + 2) k3) (s.frm.length + 2) (fC s.frm ++ mF)) ∧ (Wz1.heap[w2.heap.size]? = some (.cells #[.slice (some ⟨g1, 0, none⟩) s.ind.length k1, .int .i64 s.pen, .slice (some ⟨g2, 0, none⟩) s.que.length k2, .slice (some ⟨g3, 0, none⟩) s.frm.length k3, .int .u16 (s.flg : Int)] 27 (0, 0))) ∧ Stl W2.heap.size Wz1 (.slice d1 t.ind.length dc1) (.slice d2 t.que.length dc2) (.slice d3 t.frm.length dc3) t ∧ (Wz1.heap[z1.heap.size]? = some (.cells #[.slice d1 t.ind.length dc1, .int .i64 t.pen, .slice d2 t.que.length dc2, .slice d3 t.frm.length dc3, .int .u16 (t.flg : Int)] 27 (0, 0))) ∧ Below w.heap.size w Wz1) := ⟨PS_12.out, PT_12.out, S_12.out, R_12.out, PX_12.out, Dd_12.out, QD_13.out, BW_12.out⟩
  have LA_15 : Hid (Below Wz1.heap.size Wz1 Wz1) := Below.refl _ _
  obtain ⟨p0, p1, p2, p3, p4⟩ := box_cells PX_12.out
  have q0 := rcell PT_12.out 0 (.int .i64 k) rfl
  have q1 := rcell PT_12.out 1 (.int .i64 n) rfl
  have q2 := rcell PT_12.out 2 (.int .i64 mo) rfl
  go_wp2_with fail
  refine (PD.out _ _ _ Wz1 (show Rmy W1.heap.size _ (.slice (some ⟨g1, 0, none⟩) s.ind.length k1) (.slice (some ⟨g2, 0, none⟩) s.que.length k2) (.slice (some ⟨g3, 0, none⟩) s.frm.length k3) s from ⟨g1, k1, g2, k2, g3, k3, rfl, rfl, rfl, R_12.out.1, R_12.out.2.1, R_12.out.2.2⟩).stm).mono ?_
  rintro e z2 ⟨vi9, vq9, vf9, rfl, ho9, hb9⟩
  obtain ⟨b1, bc1, b2, bc2, b3, bc3, rfl, rfl, rfl⟩ := ho9.stm.form
  clear p0 p1 p2 p3 p4 q0 q1 q2
  have hb := hb9
  have BW_16 : Hid (Below w.heap.size w z2) := below_trans BW_12.out hb
  have PS_16 : Hid (z2.heap[w.heap.size]? = some (.cells #[.slice a1 s.ind.length ac1, .int .i64 s.pen, .slice a2 s.que.length ac2, .slice a3 s.frm.length ac3, .int .u16 (s.flg : Int)] 27 (0, 0))) := (hb.block _ (lt_of_heap PS_12.out)).trans PS_12.out
  have PT_16 : Hid (z2.heap[w.heap.size + 1]? = some (.cells #[.int .i64 k, .int .i64 n, .int .i64 mo] 38 (0, 0))) := (hb.block _ (lt_of_heap PT_12.out)).trans PT_12.out
  have S_16 : Hid (Stm z2 (.slice a1 s.ind.length ac1) (.slice a2 s.que.length ac2) (.slice a3 s.frm.length ac3) s) := S_12.out.up hb
  have R_16 : Hid (z2.ownsRow W1.heap.size 3 1 (.slice (some ⟨g1, 0, none⟩) (s.ind.length + 2) k1) (s.ind.length + 2) (iC s.ind ++ mI) ∧ z2.ownsRow W1.heap.size 9 1 (.slice (some ⟨g2, 0, none⟩) (s.que.length + 2) k2) (s.que.length + 2) (qC s.que ++ mQ) ∧ z2.ownsRow W1.heap.size 42 2 (.slice (some ⟨g3, 0, none⟩) (s.frm.length + 2) k3) (s.frm.length + 2) (fC s.frm ++ mF)) := ⟨row_up R_12.out.1 hb, row_up R_12.out.2.1 hb, row_up R_12.out.2.2 hb⟩
  have PX_16 : Hid (z2.heap[w2.heap.size]? = some (.cells #[.slice (some ⟨g1, 0, none⟩) s.ind.length k1, .int .i64 s.pen, .slice (some ⟨g2, 0, none⟩) s.que.length k2, .slice (some ⟨g3, 0, none⟩) s.frm.length k3, .int .u16 (s.flg : Int)] 27 (0, 0))) := (hb.block _ (lt_of_heap PX_12.out)).trans PX_12.out
  have L_w2_16 : Hid (w2.heap.size < z2.heap.size) := Nat.lt_of_lt_of_le L_w2_12.out hb.size
  have Dd_16 : Hid (Stl W2.heap.size z2 (.slice d1 t.ind.length dc1) (.slice d2 t.que.length dc2) (.slice d3 t.frm.length dc3) t) := Dd_12.out.up hb
  have QD_16 : Hid (z2.heap[z1.heap.size]? = some (.cells #[.slice d1 t.ind.length dc1, .int .i64 t.pen, .slice d2 t.que.length dc2, .slice d3 t.frm.length dc3, .int .u16 (t.flg : Int)] 27 (0, 0))) := (hb.block _ (lt_of_heap QD_13.out)).trans QD_13.out
  have L_z1_16 : Hid (z1.heap.size < z2.heap.size) := Nat.lt_of_lt_of_le L_z1_14.out hb.size
  have LA_16 : Hid (Below Wz1.heap.size Wz1 z2) := below_trans LA_15.out hb
  clear hb BW_12 PS_12 PT_12 S_12 R_12 PX_12 L_w2_12 Dd_12 QD_13 L_z1_14 LA_15
  have OL_w2_z2 : Hid (w2.heap.size < z2.heap.size) := L_w2_16.out
  have OL_z1_z2 : Hid (z1.heap.size < z2.heap.size) := L_z1_16.out
  obtain ⟨Wz2, hW9⟩ : ∃ Wz2, Wz2 = z2.alloc (.cells #[.slice b1 t.ind.length bc1, .int .i64 t.pen, .slice b2 t.que.length bc2, .slice b3 t.frm.length bc3, .int .u16 (t.flg : Int)] 27) := ⟨_, rfl⟩
  have HWz2 : Hid (Wz2 = z2.alloc (.cells #[.slice b1 t.ind.length bc1, .int .i64 t.pen, .slice b2 t.que.length bc2, .slice b3 t.frm.length bc3, .int .u16 (t.flg : Int)] 27)) := hW9
  have HOA : Hid (Own Wz1.heap.size z2 (.slice b1 t.ind.length bc1) (.slice b2 t.que.length bc2) (.slice b3 t.frm.length bc3) t) := ho9
  have Aa_17 : Hid (Own Wz1.heap.size z2 (.slice b1 t.ind.length bc1) (.slice b2 t.que.length bc2) (.slice b3 t.frm.length bc3) t) := ho9
  clear ho9 hb9
  have hba : Below z2.heap.size z2 Wz2 := by rw [hW9]; exact bel_up _ _
  have hb := hba
  have BW_18 : Hid (Below w.heap.size w Wz2) := below_trans BW_16.out hb
  have PS_18 : Hid (Wz2.heap[w.heap.size]? = some (.cells #[.slice a1 s.ind.length ac1, .int .i64 s.pen, .slice a2 s.que.length ac2, .slice a3 s.frm.length ac3, .int .u16 (s.flg : Int)] 27 (0, 0))) := (hb.block _ (lt_of_heap PS_16.out)).trans PS_16.out
  have PT_18 : Hid (Wz2.heap[w.heap.size + 1]? = some (.cells #[.int .i64 k, .int .i64 n, .int .i64 mo] 38 (0, 0))) := (hb.block _ (lt_of_heap PT_16.out)).trans PT_16.out
  have S_18 : Hid (Stm Wz2 (.slice a1 s.ind.length ac1) (.slice a2 s.que.length ac2) (.slice a3 s.frm.length ac3) s) := S_16.out.up hb
  have R_18 : Hid (Wz2.ownsRow W1.heap.size 3 1 (.slice (some ⟨g1, 0, none⟩) (s.ind.length + 2) k1) (s.ind.length + 2) (iC s.ind ++ mI) ∧ Wz2.ownsRow W1.heap.size 9 1 (.slice (some ⟨g2, 0, none⟩) (s.que.length + 2) k2) (s.que.length + 2) (qC s.que ++ mQ) ∧ Wz2.ownsRow W1.heap.size 42 2 (.slice (some ⟨g3, 0, none⟩) (s.frm.length + 2) k3) (s.frm.length + 2) (fC s.frm ++ mF)) := ⟨row_up R_16.out.1 hb, row_up R_16.out.2.1 hb, row_up R_16.out.2.2 hb⟩
  have PX_18 : Hid (Wz2.heap[w2.heap.size]? = some (.cells #[.slice (some ⟨g1, 0, none⟩) s.ind.length k1, .int .i64 s.pen, .slice (some ⟨g2, 0, none⟩) s.que.length k2, .slice (some ⟨g3, 0, none⟩) s.frm.length k3, .int .u16 (s.flg : Int)] 27 (0, 0))) := (hb.block _ (lt_of_heap PX_16.out)).trans PX_16.out
  have L_w2_18 : Hid (w2.heap.size < Wz2.heap.size) := Nat.lt_of_lt_of_le L_w2_16.out hb.size
  have Dd_18 : Hid (Stl W2.heap.size Wz2 (.slice d1 t.ind.length dc1) (.slice d2 t.que.length dc2) (.slice d3 t.frm.length dc3) t) := Dd_16.out.up hb
  have QD_18 : Hid (Wz2.heap[z1.heap.size]? = some (.cells #[.slice d1 t.ind.length dc1, .int .i64 t.pen, .slice d2 t.que.length dc2, .slice d3 t.frm.length dc3, .int .u16 (t.flg : Int)] 27 (0, 0))) := (hb.block _ (lt_of_heap QD_16.out)).trans QD_16.out
  have L_z1_18 : Hid (z1.heap.size < Wz2.heap.size) := Nat.lt_of_lt_of_le L_z1_16.out hb.size
  have LA_18 : Hid (Below Wz1.heap.size Wz1 Wz2) := below_trans LA_16.out hb
  have Aa_18 : Hid (Own Wz1.heap.size Wz2 (.slice b1 t.ind.length bc1) (.slice b2 t.que.length bc2) (.slice b3 t.frm.length bc3) t) := Aa_17.out.up hb
  clear hb BW_16 PS_16 PT_16 S_16 R_16 PX_16 L_w2_16 Dd_16 QD_16 L_z1_16 LA_16 Aa_17
  have PA__19 : Hid (Wz2.heap[z2.heap.size]? = some (.cells #[.slice b1 t.ind.length bc1, .int .i64 t.pen, .slice b2 t.que.length bc2, .slice b3 t.frm.length bc3, .int .u16 (t.flg : Int)] 27 (0, 0))) := by rw [hW9]; exact heap_new z2 _
  have L_z2_20 : Hid (z2.heap.size < Wz2.heap.size) := by rw [hW9, World.size_alloc]; exact Nat.lt_succ_self _
  clear hW9 hba
  go_upto_region 4 with fail
  rw [← HWz2.out]
  have LBB : Hid (z2.heap.size < Wz2.heap.size) := L_z2_20.out
  obtain ⟨p0, p1, p2, p3, p4⟩ := box_cells PX_18.out
  have q0 := rcell PT_18.out 0 (.int .i64 k) rfl
  have q1 := rcell PT_18.out 1 (.int .i64 n) rfl
  have q2 := rcell PT_18.out 2 (.int .i64 mo) rfl
  go_wp2_with fail
  refine (PD.out _ _ _ Wz2 (show Rmy W1.heap.size _ (.slice (some ⟨g1, 0, none⟩) s.ind.length k1) (.slice (some ⟨g2, 0, none⟩) s.que.length k2) (.slice (some ⟨g3, 0, none⟩) s.frm.length k3) s from ⟨g1, k1, g2, k2, g3, k3, rfl, rfl, rfl, R_18.out.1, R_18.out.2.1, R_18.out.2.2⟩).stm).mono ?_
  rintro e z3 ⟨vi9, vq9, vf9, rfl, ho9, hb9⟩
  obtain ⟨e1, ec1, e2, ec2, e3, ec3, rfl, rfl, rfl⟩ := ho9.stm.form
  clear p0 p1 p2 p3 p4 q0 q1 q2
  have hb := hb9
  have BW_21 : Hid (Below w.heap.size w z3) := below_trans BW_18.out hb
  have PS_21 : Hid (z3.heap[w.heap.size]? = some (.cells #[.slice a1 s.ind.length ac1, .int .i64 s.pen, .slice a2 s.que.length ac2, .slice a3 s.frm.length ac3, .int .u16 (s.flg : Int)] 27 (0, 0))) := (hb.block _ (lt_of_heap PS_18.out)).trans PS_18.out
  have PT_21 : Hid (z3.heap[w.heap.size + 1]? = some (.cells #[.int .i64 k, .int .i64 n, .int .i64 mo] 38 (0, 0))) := (hb.block _ (lt_of_heap PT_18.out)).trans PT_18.out
  have S_21 : Hid (Stm z3 (.slice a1 s.ind.length ac1) (.slice a2 s.que.length ac2) (.slice a3 s.frm.length ac3) s) := S_18.out.up hb
  have R_21 : Hid (z3.ownsRow W1.heap.size 3 1 (.slice (some ⟨g1, 0, none⟩) (s.ind.length + 2) k1) (s.ind.length + 2) (iC s.ind ++ mI) ∧ z3.ownsRow W1.heap.size 9 1 (.slice (some ⟨g2, 0, none⟩) (s.que.length + 2) k2) (s.que.length + 2) (qC s.que ++ mQ) ∧ z3.ownsRow W1.heap.size 42 2 (.slice (some ⟨g3, 0, none⟩) (s.frm.length + 2) k3) (s.frm.length + 2) (fC s.frm ++ mF)) := ⟨row_up R_18.out.1 hb, row_up R_18.out.2.1 hb, row_up R_18.out.2.2 hb⟩
  have PX_21 : Hid (z3.heap[w2.heap.size]? = some (.cells #[.slice (some ⟨g1, 0, none⟩) s.ind.length k1, .int .i64 s.pen, .slice (some ⟨g2, 0, none⟩) s.que.length k2, .slice (some ⟨g3, 0, none⟩) s.frm.length k3, .int .u16 (s.flg : Int)] 27 (0, 0))) := (hb.block _ (lt_of_heap PX_18.out)).trans PX_18.out
  have L_w2_21 : Hid (w2.heap.size < z3.heap.size) := Nat.lt_of_lt_of_le L_w2_18.out hb.size
  have Dd_21 : Hid (Stl W2.heap.size z3 (.slice d1 t.ind.length dc1) (.slice d2 t.que.length dc2) (.slice d3 t.frm.length dc3) t) := Dd_18.out.up hb
  have QD_21 : Hid (z3.heap[z1.heap.size]? = some (.cells #[.slice d1 t.ind.length dc1, .int .i64 t.pen, .slice d2 t.que.length dc2, .slice d3 t.frm.length dc3, .int .u16 (t.flg : Int)] 27 (0, 0))) := (hb.block _ (lt_of_heap QD_18.out)).trans QD_18.out
  have L_z1_21 : Hid (z1.heap.size < z3.heap.size) := Nat.lt_of_lt_of_le L_z1_18.out hb.size
  have LA_21 : Hid (Below Wz1.heap.size Wz1 z3) := below_trans LA_18.out hb
  have Aa_21 : Hid (Own Wz1.heap.size z3 (.slice b1 t.ind.length bc1) (.slice b2 t.que.length bc2) (.slice b3 t.frm.length bc3) t) := Aa_18.out.up hb
  have PA__21 : Hid (z3.heap[z2.heap.size]? = some (.cells #[.slice b1 t.ind.length bc1, .int .i64 t.pen, .slice b2 t.que.length bc2, .slice b3 t.frm.length bc3, .int .u16 (t.flg : Int)] 27 (0, 0))) := (hb.block _ (lt_of_heap PA__19.out)).trans PA__19.out
  have L_z2_21 : Hid (z2.heap.size < z3.heap.size) := Nat.lt_of_lt_of_le L_z2_20.out hb.size
  clear hb BW_18 PS_18 PT_18 S_18 R_18 PX_18 L_w2_18 Dd_18 QD_18 L_z1_18 LA_18 Aa_18 PA__19 L_z2_20
  have OL_w2_z3 : Hid (w2.heap.size < z3.heap.size) := L_w2_21.out
  have OL_z1_z3 : Hid (z1.heap.size < z3.heap.size) := L_z1_21.out
  have OL_z2_z3 : Hid (z2.heap.size < z3.heap.size) := L_z2_21.out
  obtain ⟨Wz3, hW9⟩ : ∃ Wz3, Wz3 = z3.alloc (.cells #[.slice e1 t.ind.length ec1, .int .i64 t.pen, .slice e2 t.que.length ec2, .slice e3 t.frm.length ec3, .int .u16 (t.flg : Int)] 27) := ⟨_, rfl⟩
  have HWz3 : Hid (Wz3 = z3.alloc (.cells #[.slice e1 t.ind.length ec1, .int .i64 t.pen, .slice e2 t.que.length ec2, .slice e3 t.frm.length ec3, .int .u16 (t.flg : Int)] 27)) := hW9
  have Bb_22 : Hid (Own Wz2.heap.size z3 (.slice e1 t.ind.length ec1) (.slice e2 t.que.length ec2) (.slice e3 t.frm.length ec3) t) := ho9
  clear ho9 hb9
  have hba : Below z3.heap.size z3 Wz3 := by rw [hW9]; exact bel_up _ _
  have hb := hba
  have BW_23 : Hid (Below w.heap.size w Wz3) := below_trans BW_21.out hb
  have PS_23 : Hid (Wz3.heap[w.heap.size]? = some (.cells #[.slice a1 s.ind.length ac1, .int .i64 s.pen, .slice a2 s.que.length ac2, .slice a3 s.frm.length ac3, .int .u16 (s.flg : Int)] 27 (0, 0))) := (hb.block _ (lt_of_heap PS_21.out)).trans PS_21.out
  have PT_23 : Hid (Wz3.heap[w.heap.size + 1]? = some (.cells #[.int .i64 k, .int .i64 n, .int .i64 mo] 38 (0, 0))) := (hb.block _ (lt_of_heap PT_21.out)).trans PT_21.out
  have S_23 : Hid (Stm Wz3 (.slice a1 s.ind.length ac1) (.slice a2 s.que.length ac2) (.slice a3 s.frm.length ac3) s) := S_21.out.up hb
  have R_23 : Hid (Wz3.ownsRow W1.heap.size 3 1 (.slice (some ⟨g1, 0, none⟩) (s.ind.length + 2) k1) (s.ind.length + 2) (iC s.ind ++ mI) ∧ Wz3.ownsRow W1.heap.size 9 1 (.slice (some ⟨g2, 0, none⟩) (s.que.length + 2) k2) (s.que.length + 2) (qC s.que ++ mQ) ∧ Wz3.ownsRow W1.heap.size 42 2 (.slice (some ⟨g3, 0, none⟩) (s.frm.length + 2) k3) (s.frm.length + 2) (fC s.frm ++ mF)) := ⟨row_up R_21.out.1 hb, row_up R_21.out.2.1 hb, row_up R_21.out.2.2 hb⟩
  have PX_23 : Hid (Wz3.heap[w2.heap.size]? = some (.cells #[.slice (some ⟨g1, 0, none⟩) s.ind.length k1, .int .i64 s.pen, .slice (some ⟨g2, 0, none⟩) s.que.length k2, .slice (some ⟨g3, 0, none⟩) s.frm.length k3, .int .u16 (s.flg : Int)] 27 (0, 0))) := (hb.block _ (lt_of_heap PX_21.out)).trans PX_21.out
  have L_w2_23 : Hid (w2.heap.size < Wz3.heap.size) := Nat.lt_of_lt_of_le L_w2_21.out hb.size
  have Dd_23 : Hid (Stl W2.heap.size Wz3 (.slice d1 t.ind.length dc1) (.slice d2 t.que.length dc2) (.slice d3 t.frm.length dc3) t) := Dd_21.out.up hb
  have QD_23 : Hid (Wz3.heap[z1.heap.size]? = some (.cells #[.slice d1 t.ind.length dc1, .int .i64 t.pen, .slice d2 t.que.length dc2, .slice d3 t.frm.length dc3, .int .u16 (t.flg : Int)] 27 (0, 0))) := (hb.block _ (lt_of_heap QD_21.out)).trans QD_21.out
  have L_z1_23 : Hid (z1.heap.size < Wz3.heap.size) := Nat.lt_of_lt_of_le L_z1_21.out hb.size
  have LA_23 : Hid (Below Wz1.heap.size Wz1 Wz3) := below_trans LA_21.out hb
  have Aa_23 : Hid (Own Wz1.heap.size Wz3 (.slice b1 t.ind.length bc1) (.slice b2 t.que.length bc2) (.slice b3 t.frm.length bc3) t) := Aa_21.out.up hb
  have PA__23 : Hid (Wz3.heap[z2.heap.size]? = some (.cells #[.slice b1 t.ind.length bc1, .int .i64 t.pen, .slice b2 t.que.length bc2, .slice b3 t.frm.length bc3, .int .u16 (t.flg : Int)] 27 (0, 0))) := (hb.block _ (lt_of_heap PA__21.out)).trans PA__21.out
  have L_z2_23 : Hid (z2.heap.size < Wz3.heap.size) := Nat.lt_of_lt_of_le L_z2_21.out hb.size
  have Bb_23 : Hid (Own Wz2.heap.size Wz3 (.slice e1 t.ind.length ec1) (.slice e2 t.que.length ec2) (.slice e3 t.frm.length ec3) t) := Bb_22.out.up hb
  clear hb BW_21 PS_21 PT_21 S_21 R_21 PX_21 L_w2_21 Dd_21 QD_21 L_z1_21 LA_21 Aa_21 PA__21 L_z2_21 Bb_22
  have PB_24 : Hid (Wz3.heap[z3.heap.size]? = some (.cells #[.slice e1 t.ind.length ec1, .int .i64 t.pen, .slice e2 t.que.length ec2, .slice e3 t.frm.length ec3, .int .u16 (t.flg : Int)] 27 (0, 0))) := by rw [hW9]; exact heap_new z3 _
  have L_z3_25 : Hid (z3.heap.size < Wz3.heap.size) := by rw [hW9, World.size_alloc]; exact Nat.lt_succ_self _
  clear hW9 hba
  go_upto_region 5 with fail
  rw [← HWz3.out]
  obtain ⟨p0, p1, p2, p3, p4⟩ := box_cells PA__23.out
  obtain ⟨q0, q1, q2, q3, q4⟩ := box_cells QD_23.out
  go_wp2_with fail
  refine (rsame_as Wz3 Aa_23.out.stm Dd_23.out.stm rfl rfl (by have := HTL.out; omega) (by have := HTL.out; omega) (by have := HTL.out; omega)).mono ?_
  rintro e z4 ⟨rfl, hb9⟩
  clear p0 p1 p2 p3 p4 q0 q1 q2 q3 q4
  have hb := hb9
  have BW_26 : Hid (Below w.heap.size w z4) := below_trans BW_23.out hb
  have PS_26 : Hid (z4.heap[w.heap.size]? = some (.cells #[.slice a1 s.ind.length ac1, .int .i64 s.pen, .slice a2 s.que.length ac2, .slice a3 s.frm.length ac3, .int .u16 (s.flg : Int)] 27 (0, 0))) := (hb.block _ (lt_of_heap PS_23.out)).trans PS_23.out
  have PT_26 : Hid (z4.heap[w.heap.size + 1]? = some (.cells #[.int .i64 k, .int .i64 n, .int .i64 mo] 38 (0, 0))) := (hb.block _ (lt_of_heap PT_23.out)).trans PT_23.out
  have S_26 : Hid (Stm z4 (.slice a1 s.ind.length ac1) (.slice a2 s.que.length ac2) (.slice a3 s.frm.length ac3) s) := S_23.out.up hb
  have R_26 : Hid (z4.ownsRow W1.heap.size 3 1 (.slice (some ⟨g1, 0, none⟩) (s.ind.length + 2) k1) (s.ind.length + 2) (iC s.ind ++ mI) ∧ z4.ownsRow W1.heap.size 9 1 (.slice (some ⟨g2, 0, none⟩) (s.que.length + 2) k2) (s.que.length + 2) (qC s.que ++ mQ) ∧ z4.ownsRow W1.heap.size 42 2 (.slice (some ⟨g3, 0, none⟩) (s.frm.length + 2) k3) (s.frm.length + 2) (fC s.frm ++ mF)) := ⟨row_up R_23.out.1 hb, row_up R_23.out.2.1 hb, row_up R_23.out.2.2 hb⟩
  have PX_26 : Hid (z4.heap[w2.heap.size]? = some (.cells #[.slice (some ⟨g1, 0, none⟩) s.ind.length k1, .int .i64 s.pen, .slice (some ⟨g2, 0, none⟩) s.que.length k2, .slice (some ⟨g3, 0, none⟩) s.frm.length k3, .int .u16 (s.flg : Int)] 27 (0, 0))) := (hb.block _ (lt_of_heap PX_23.out)).trans PX_23.out
  have L_w2_26 : Hid (w2.heap.size < z4.heap.size) := Nat.lt_of_lt_of_le L_w2_23.out hb.size
  have Dd_26 : Hid (Stl W2.heap.size z4 (.slice d1 t.ind.length dc1) (.slice d2 t.que.length dc2) (.slice d3 t.frm.length dc3) t) := Dd_23.out.up hb
  have QD_26 : Hid (z4.heap[z1.heap.size]? = some (.cells #[.slice d1 t.ind.length dc1, .int .i64 t.pen, .slice d2 t.que.length dc2, .slice d3 t.frm.length dc3, .int .u16 (t.flg : Int)] 27 (0, 0))) := (hb.block _ (lt_of_heap QD_23.out)).trans QD_23.out
  have L_z1_26 : Hid (z1.heap.size < z4.heap.size) := Nat.lt_of_lt_of_le L_z1_23.out hb.size
  have LA_26 : Hid (Below Wz1.heap.size Wz1 z4) := below_trans LA_23.out hb
  have Aa_26 : Hid (Own Wz1.heap.size z4 (.slice b1 t.ind.length bc1) (.slice b2 t.que.length bc2) (.slice b3 t.frm.length bc3) t) := Aa_23.out.up hb
  have PA__26 : Hid (z4.heap[z2.heap.size]? = some (.cells #[.slice b1 t.ind.length bc1, .int .i64 t.pen, .slice b2 t.que.length bc2, .slice b3 t.frm.length bc3, .int .u16 (t.flg : Int)] 27 (0, 0))) := (hb.block _ (lt_of_heap PA__23.out)).trans PA__23.out
  have L_z2_26 : Hid (z2.heap.size < z4.heap.size) := Nat.lt_of_lt_of_le L_z2_23.out hb.size
  have Bb_26 : Hid (Own Wz2.heap.size z4 (.slice e1 t.ind.length ec1) (.slice e2 t.que.length ec2) (.slice e3 t.frm.length ec3) t) := Bb_23.out.up hb
  have PB_26 : Hid (z4.heap[z3.heap.size]? = some (.cells #[.slice e1 t.ind.length ec1, .int .i64 t.pen, .slice e2 t.que.length ec2, .slice e3 t.frm.length ec3, .int .u16 (t.flg : Int)] 27 (0, 0))) := (hb.block _ (lt_of_heap PB_24.out)).trans PB_24.out
  have L_z3_26 : Hid (z3.heap.size < z4.heap.size) := Nat.lt_of_lt_of_le L_z3_25.out hb.size
  clear hb BW_23 PS_23 PT_23 S_23 R_23 PX_23 L_w2_23 Dd_23 QD_23 L_z1_23 LA_23 Aa_23 PA__23 L_z2_23 Bb_23 PB_24 L_z3_25
  clear hb9
  obtain ⟨p0, p1, p2, p3, p4⟩ := box_cells PB_26.out
  obtain ⟨q0, q1, q2, q3, q4⟩ := box_cells QD_26.out
  go_wp2_with fail
  refine (rsame_as z4 Bb_26.out.stm Dd_26.out.stm rfl rfl (by have := HTL.out; omega) (by have := HTL.out; omega) (by have := HTL.out; omega)).mono ?_
  rintro e z5 ⟨rfl, hb9⟩
  clear p0 p1 p2 p3 p4 q0 q1 q2 q3 q4
  have hb := hb9
  have BW_27 : Hid (Below w.heap.size w z5) := below_trans BW_26.out hb
  have PS_27 : Hid (z5.heap[w.heap.size]? = some (.cells #[.slice a1 s.ind.length ac1, .int .i64 s.pen, .slice a2 s.que.length ac2, .slice a3 s.frm.length ac3, .int .u16 (s.flg : Int)] 27 (0, 0))) := (hb.block _ (lt_of_heap PS_26.out)).trans PS_26.out
  have PT_27 : Hid (z5.heap[w.heap.size + 1]? = some (.cells #[.int .i64 k, .int .i64 n, .int .i64 mo] 38 (0, 0))) := (hb.block _ (lt_of_heap PT_26.out)).trans PT_26.out
  have S_27 : Hid (Stm z5 (.slice a1 s.ind.length ac1) (.slice a2 s.que.length ac2) (.slice a3 s.frm.length ac3) s) := S_26.out.up hb
  have R_27 : Hid (z5.ownsRow W1.heap.size 3 1 (.slice (some ⟨g1, 0, none⟩) (s.ind.length + 2) k1) (s.ind.length + 2) (iC s.ind ++ mI) ∧ z5.ownsRow W1.heap.size 9 1 (.slice (some ⟨g2, 0, none⟩) (s.que.length + 2) k2) (s.que.length + 2) (qC s.que ++ mQ) ∧ z5.ownsRow W1.heap.size 42 2 (.slice (some ⟨g3, 0, none⟩) (s.frm.length + 2) k3) (s.frm.length + 2) (fC s.frm ++ mF)) := ⟨row_up R_26.out.1 hb, row_up R_26.out.2.1 hb, row_up R_26.out.2.2 hb⟩
  have PX_27 : Hid (z5.heap[w2.heap.size]? = some (.cells #[.slice (some ⟨g1, 0, none⟩) s.ind.length k1, .int .i64 s.pen, .slice (some ⟨g2, 0, none⟩) s.que.length k2, .slice (some ⟨g3, 0, none⟩) s.frm.length k3, .int .u16 (s.flg : Int)] 27 (0, 0))) := (hb.block _ (lt_of_heap PX_26.out)).trans PX_26.out
  have L_w2_27 : Hid (w2.heap.size < z5.heap.size) := Nat.lt_of_lt_of_le L_w2_26.out hb.size
  have Dd_27 : Hid (Stl W2.heap.size z5 (.slice d1 t.ind.length dc1) (.slice d2 t.que.length dc2) (.slice d3 t.frm.length dc3) t) := Dd_26.out.up hb
  have QD_27 : Hid (z5.heap[z1.heap.size]? = some (.cells #[.slice d1 t.ind.length dc1, .int .i64 t.pen, .slice d2 t.que.length dc2, .slice d3 t.frm.length dc3, .int .u16 (t.flg : Int)] 27 (0, 0))) := (hb.block _ (lt_of_heap QD_26.out)).trans QD_26.out
  have L_z1_27 : Hid (z1.heap.size < z5.heap.size) := Nat.lt_of_lt_of_le L_z1_26.out hb.size
  have LA_27 : Hid (Below Wz1.heap.size Wz1 z5) := below_trans LA_26.out hb
  have Aa_27 : Hid (Own Wz1.heap.size z5 (.slice b1 t.ind.length bc1) (.slice b2 t.que.length bc2) (.slice b3 t.frm.length bc3) t) := Aa_26.out.up hb
  have PA__27 : Hid (z5.heap[z2.heap.size]? = some (.cells #[.slice b1 t.ind.length bc1, .int .i64 t.pen, .slice b2 t.que.length bc2, .slice b3 t.frm.length bc3, .int .u16 (t.flg : Int)] 27 (0, 0))) := (hb.block _ (lt_of_heap PA__26.out)).trans PA__26.out
  have L_z2_27 : Hid (z2.heap.size < z5.heap.size) := Nat.lt_of_lt_of_le L_z2_26.out hb.size
  have Bb_27 : Hid (Own Wz2.heap.size z5 (.slice e1 t.ind.length ec1) (.slice e2 t.que.length ec2) (.slice e3 t.frm.length ec3) t) := Bb_26.out.up hb
  have PB_27 : Hid (z5.heap[z3.heap.size]? = some (.cells #[.slice e1 t.ind.length ec1, .int .i64 t.pen, .slice e2 t.que.length ec2, .slice e3 t.frm.length ec3, .int .u16 (t.flg : Int)] 27 (0, 0))) := (hb.block _ (lt_of_heap PB_26.out)).trans PB_26.out
  have L_z3_27 : Hid (z3.heap.size < z5.heap.size) := Nat.lt_of_lt_of_le L_z3_26.out hb.size
  clear hb BW_26 PS_26 PT_26 S_26 R_26 PX_26 L_w2_26 Dd_26 QD_26 L_z1_26 LA_26 Aa_26 PA__26 L_z2_26 Bb_26 PB_26 L_z3_26
  clear hb9
  obtain ⟨p0, p1, p2, p3, p4⟩ := box_cells PX_27.out
  obtain ⟨q0, q1, q2, q3, q4⟩ := box_cells PS_27.out
  go_wp2_with fail
  refine (rsame_as z5 (show Rmy W1.heap.size _ (.slice (some ⟨g1, 0, none⟩) s.ind.length k1) (.slice (some ⟨g2, 0, none⟩) s.que.length k2) (.slice (some ⟨g3, 0, none⟩) s.frm.length k3) s from ⟨g1, k1, g2, k2, g3, k3, rfl, rfl, rfl, R_27.out.1, R_27.out.2.1, R_27.out.2.2⟩).stm S_27.out rfl rfl (by have := ZS.out.i; omega) (by have := ZS.out.q; omega) (by have := ZS.out.f; omega)).mono ?_
  rintro e z6 ⟨rfl, hb9⟩
  clear p0 p1 p2 p3 p4 q0 q1 q2 q3 q4
  have hb := hb9
  have BW_28 : Hid (Below w.heap.size w z6) := below_trans BW_27.out hb
  have PS_28 : Hid (z6.heap[w.heap.size]? = some (.cells #[.slice a1 s.ind.length ac1, .int .i64 s.pen, .slice a2 s.que.length ac2, .slice a3 s.frm.length ac3, .int .u16 (s.flg : Int)] 27 (0, 0))) := (hb.block _ (lt_of_heap PS_27.out)).trans PS_27.out
  have PT_28 : Hid (z6.heap[w.heap.size + 1]? = some (.cells #[.int .i64 k, .int .i64 n, .int .i64 mo] 38 (0, 0))) := (hb.block _ (lt_of_heap PT_27.out)).trans PT_27.out
  have S_28 : Hid (Stm z6 (.slice a1 s.ind.length ac1) (.slice a2 s.que.length ac2) (.slice a3 s.frm.length ac3) s) := S_27.out.up hb
  have R_28 : Hid (z6.ownsRow W1.heap.size 3 1 (.slice (some ⟨g1, 0, none⟩) (s.ind.length + 2) k1) (s.ind.length + 2) (iC s.ind ++ mI) ∧ z6.ownsRow W1.heap.size 9 1 (.slice (some ⟨g2, 0, none⟩) (s.que.length + 2) k2) (s.que.length + 2) (qC s.que ++ mQ) ∧ z6.ownsRow W1.heap.size 42 2 (.slice (some ⟨g3, 0, none⟩) (s.frm.length + 2) k3) (s.frm.length + 2) (fC s.frm ++ mF)) := ⟨row_up R_27.out.1 hb, row_up R_27.out.2.1 hb, row_up R_27.out.2.2 hb⟩
  have PX_28 : Hid (z6.heap[w2.heap.size]? = some (.cells #[.slice (some ⟨g1, 0, none⟩) s.ind.length k1, .int .i64 s.pen, .slice (some ⟨g2, 0, none⟩) s.que.length k2, .slice (some ⟨g3, 0, none⟩) s.frm.length k3, .int .u16 (s.flg : Int)] 27 (0, 0))) := (hb.block _ (lt_of_heap PX_27.out)).trans PX_27.out
  have L_w2_28 : Hid (w2.heap.size < z6.heap.size) := Nat.lt_of_lt_of_le L_w2_27.out hb.size
  have Dd_28 : Hid (Stl W2.heap.size z6 (.slice d1 t.ind.length dc1) (.slice d2 t.que.length dc2) (.slice d3 t.frm.length dc3) t) := Dd_27.out.up hb
  have QD_28 : Hid (z6.heap[z1.heap.size]? = some (.cells #[.slice d1 t.ind.length dc1, .int .i64 t.pen, .slice d2 t.que.length dc2, .slice d3 t.frm.length dc3, .int .u16 (t.flg : Int)] 27 (0, 0))) := (hb.block _ (lt_of_heap QD_27.out)).trans QD_27.out
  have L_z1_28 : Hid (z1.heap.size < z6.heap.size) := Nat.lt_of_lt_of_le L_z1_27.out hb.size
  have LA_28 : Hid (Below Wz1.heap.size Wz1 z6) := below_trans LA_27.out hb
  have Aa_28 : Hid (Own Wz1.heap.size z6 (.slice b1 t.ind.length bc1) (.slice b2 t.que.length bc2) (.slice b3 t.frm.length bc3) t) := Aa_27.out.up hb
  have PA__28 : Hid (z6.heap[z2.heap.size]? = some (.cells #[.slice b1 t.ind.length bc1, .int .i64 t.pen, .slice b2 t.que.length bc2, .slice b3 t.frm.length bc3, .int .u16 (t.flg : Int)] 27 (0, 0))) := (hb.block _ (lt_of_heap PA__27.out)).trans PA__27.out
  have L_z2_28 : Hid (z2.heap.size < z6.heap.size) := Nat.lt_of_lt_of_le L_z2_27.out hb.size
  have Bb_28 : Hid (Own Wz2.heap.size z6 (.slice e1 t.ind.length ec1) (.slice e2 t.que.length ec2) (.slice e3 t.frm.length ec3) t) := Bb_27.out.up hb
  have PB_28 : Hid (z6.heap[z3.heap.size]? = some (.cells #[.slice e1 t.ind.length ec1, .int .i64 t.pen, .slice e2 t.que.length ec2, .slice e3 t.frm.length ec3, .int .u16 (t.flg : Int)] 27 (0, 0))) := (hb.block _ (lt_of_heap PB_27.out)).trans PB_27.out
  have L_z3_28 : Hid (z3.heap.size < z6.heap.size) := Nat.lt_of_lt_of_le L_z3_27.out hb.size
  clear hb BW_27 PS_27 PT_27 S_27 R_27 PX_27 L_w2_27 Dd_27 QD_27 L_z1_27 LA_27 Aa_27 PA__27 L_z2_27 Bb_27 PB_27 L_z3_27
  clear hb9
  obtain ⟨p0, p1, p2, p3, p4⟩ := box_cells PX_28.out
  go_wp2_with fail
  refine (rooms_as z6 (show Rmy W1.heap.size _ (.slice (some ⟨g1, 0, none⟩) s.ind.length k1) (.slice (some ⟨g2, 0, none⟩) s.que.length k2) (.slice (some ⟨g3, 0, none⟩) s.frm.length k3) s from ⟨g1, k1, g2, k2, g3, k3, rfl, rfl, rfl, R_28.out.1, R_28.out.2.1, R_28.out.2.2⟩) rfl rfl (by have := ZS.out.i; omega) (by have := ZS.out.q; omega) (by have := ZS.out.f; omega)).mono ?_
  rintro e z7 ⟨rfl, hb9⟩
  clear p0 p1 p2 p3 p4
  have hb := hb9
  have BW_29 : Hid (Below w.heap.size w z7) := below_trans BW_28.out hb
  have PS_29 : Hid (z7.heap[w.heap.size]? = some (.cells #[.slice a1 s.ind.length ac1, .int .i64 s.pen, .slice a2 s.que.length ac2, .slice a3 s.frm.length ac3, .int .u16 (s.flg : Int)] 27 (0, 0))) := (hb.block _ (lt_of_heap PS_28.out)).trans PS_28.out
  have PT_29 : Hid (z7.heap[w.heap.size + 1]? = some (.cells #[.int .i64 k, .int .i64 n, .int .i64 mo] 38 (0, 0))) := (hb.block _ (lt_of_heap PT_28.out)).trans PT_28.out
  have S_29 : Hid (Stm z7 (.slice a1 s.ind.length ac1) (.slice a2 s.que.length ac2) (.slice a3 s.frm.length ac3) s) := S_28.out.up hb
  have R_29 : Hid (z7.ownsRow W1.heap.size 3 1 (.slice (some ⟨g1, 0, none⟩) (s.ind.length + 2) k1) (s.ind.length + 2) (iC s.ind ++ mI) ∧ z7.ownsRow W1.heap.size 9 1 (.slice (some ⟨g2, 0, none⟩) (s.que.length + 2) k2) (s.que.length + 2) (qC s.que ++ mQ) ∧ z7.ownsRow W1.heap.size 42 2 (.slice (some ⟨g3, 0, none⟩) (s.frm.length + 2) k3) (s.frm.length + 2) (fC s.frm ++ mF)) := ⟨row_up R_28.out.1 hb, row_up R_28.out.2.1 hb, row_up R_28.out.2.2 hb⟩
  have PX_29 : Hid (z7.heap[w2.heap.size]? = some (.cells #[.slice (some ⟨g1, 0, none⟩) s.ind.length k1, .int .i64 s.pen, .slice (some ⟨g2, 0, none⟩) s.que.length k2, .slice (some ⟨g3, 0, none⟩) s.frm.length k3, .int .u16 (s.flg : Int)] 27 (0, 0))) := (hb.block _ (lt_of_heap PX_28.out)).trans PX_28.out
  have L_w2_29 : Hid (w2.heap.size < z7.heap.size) := Nat.lt_of_lt_of_le L_w2_28.out hb.size
  have Dd_29 : Hid (Stl W2.heap.size z7 (.slice d1 t.ind.length dc1) (.slice d2 t.que.length dc2) (.slice d3 t.frm.length dc3) t) := Dd_28.out.up hb
  have QD_29 : Hid (z7.heap[z1.heap.size]? = some (.cells #[.slice d1 t.ind.length dc1, .int .i64 t.pen, .slice d2 t.que.length dc2, .slice d3 t.frm.length dc3, .int .u16 (t.flg : Int)] 27 (0, 0))) := (hb.block _ (lt_of_heap QD_28.out)).trans QD_28.out
  have L_z1_29 : Hid (z1.heap.size < z7.heap.size) := Nat.lt_of_lt_of_le L_z1_28.out hb.size
  have LA_29 : Hid (Below Wz1.heap.size Wz1 z7) := below_trans LA_28.out hb
  have Aa_29 : Hid (Own Wz1.heap.size z7 (.slice b1 t.ind.length bc1) (.slice b2 t.que.length bc2) (.slice b3 t.frm.length bc3) t) := Aa_28.out.up hb
  have PA__29 : Hid (z7.heap[z2.heap.size]? = some (.cells #[.slice b1 t.ind.length bc1, .int .i64 t.pen, .slice b2 t.que.length bc2, .slice b3 t.frm.length bc3, .int .u16 (t.flg : Int)] 27 (0, 0))) := (hb.block _ (lt_of_heap PA__28.out)).trans PA__28.out
  have L_z2_29 : Hid (z2.heap.size < z7.heap.size) := Nat.lt_of_lt_of_le L_z2_28.out hb.size
  have Bb_29 : Hid (Own Wz2.heap.size z7 (.slice e1 t.ind.length ec1) (.slice e2 t.que.length ec2) (.slice e3 t.frm.length ec3) t) := Bb_28.out.up hb
  have PB_29 : Hid (z7.heap[z3.heap.size]? = some (.cells #[.slice e1 t.ind.length ec1, .int .i64 t.pen, .slice e2 t.que.length ec2, .slice e3 t.frm.length ec3, .int .u16 (t.flg : Int)] 27 (0, 0))) := (hb.block _ (lt_of_heap PB_28.out)).trans PB_28.out
  have L_z3_29 : Hid (z3.heap.size < z7.heap.size) := Nat.lt_of_lt_of_le L_z3_28.out hb.size
  clear hb BW_28 PS_28 PT_28 S_28 R_28 PX_28 L_w2_28 Dd_28 QD_28 L_z1_28 LA_28 Aa_28 PA__28 L_z2_28 Bb_28 PB_28 L_z3_28
  clear hb9
  obtain ⟨p0, p1, p2, p3, p4⟩ := box_cells PA__29.out
  go_wp2_with fail
  refine (spoil_any z7 Aa_29.out LA_29.out.size (by have := HTL.out; omega) (by have := HTL.out; omega) (by have := HTL.out; omega)).mono ?_
  rintro e z8 ⟨⟨rv9, rfl⟩, ⟨s9, q1, q2, q3, q4, q5, ho9⟩, hc9⟩
  clear p0 p1 p2 p3 p4
  have HQ9 : Hid (s9.ind.length = t.ind.length ∧ s9.que.length = t.que.length ∧ s9.frm.length = t.frm.length ∧ s9.pen = t.pen ∧ s9.flg = t.flg) := ⟨q1, q2, q3, q4, q5⟩
  clear q1 q2 q3 q4 q5
  have hlow := hc9.below Aa_29.out LA_29.out.size
  have hhigh := hc9.kab HOA.out
  have PS_30 : Hid (z8.heap[w.heap.size]? = some (.cells #[.slice a1 s.ind.length ac1, .int .i64 s.pen, .slice a2 s.que.length ac2, .slice a3 s.frm.length ac3, .int .u16 (s.flg : Int)] 27 (0, 0))) := by obtain ⟨x1, x2, x3, x4, x5, x6, x7, x8⟩ := LOW.out; have hb := LA_29.out.trans hlow; exact (hb.block _ (lt_of_heap x1)).trans x1
  clear PS_29
  have PT_31 : Hid (z8.heap[w.heap.size + 1]? = some (.cells #[.int .i64 k, .int .i64 n, .int .i64 mo] 38 (0, 0))) := by obtain ⟨x1, x2, x3, x4, x5, x6, x7, x8⟩ := LOW.out; have hb := LA_29.out.trans hlow; exact (hb.block _ (lt_of_heap x2)).trans x2
  clear PT_29
  have S_32 : Hid (Stm z8 (.slice a1 s.ind.length ac1) (.slice a2 s.que.length ac2) (.slice a3 s.frm.length ac3) s) := by obtain ⟨x1, x2, x3, x4, x5, x6, x7, x8⟩ := LOW.out; have hb := LA_29.out.trans hlow; exact x3.up hb
  clear S_29
  have R_33 : Hid (z8.ownsRow W1.heap.size 3 1 (.slice (some ⟨g1, 0, none⟩) (s.ind.length + 2) k1) (s.ind.length + 2) (iC s.ind ++ mI) ∧ z8.ownsRow W1.heap.size 9 1 (.slice (some ⟨g2, 0, none⟩) (s.que.length + 2) k2) (s.que.length + 2) (qC s.que ++ mQ) ∧ z8.ownsRow W1.heap.size 42 2 (.slice (some ⟨g3, 0, none⟩) (s.frm.length + 2) k3) (s.frm.length + 2) (fC s.frm ++ mF)) := by obtain ⟨x1, x2, x3, x4, x5, x6, x7, x8⟩ := LOW.out; have hb := LA_29.out.trans hlow; exact ⟨row_up x4.1 hb, row_up x4.2.1 hb, row_up x4.2.2 hb⟩
  clear R_29
  have PX_34 : Hid (z8.heap[w2.heap.size]? = some (.cells #[.slice (some ⟨g1, 0, none⟩) s.ind.length k1, .int .i64 s.pen, .slice (some ⟨g2, 0, none⟩) s.que.length k2, .slice (some ⟨g3, 0, none⟩) s.frm.length k3, .int .u16 (s.flg : Int)] 27 (0, 0))) := by obtain ⟨x1, x2, x3, x4, x5, x6, x7, x8⟩ := LOW.out; have hb := LA_29.out.trans hlow; exact (hb.block _ (lt_of_heap x5)).trans x5
  clear PX_29
  have Dd_35 : Hid (Stl W2.heap.size z8 (.slice d1 t.ind.length dc1) (.slice d2 t.que.length dc2) (.slice d3 t.frm.length dc3) t) := by obtain ⟨x1, x2, x3, x4, x5, x6, x7, x8⟩ := LOW.out; have hb := LA_29.out.trans hlow; exact x6.up hb
  clear Dd_29
  have QD_36 : Hid (z8.heap[z1.heap.size]? = some (.cells #[.slice d1 t.ind.length dc1, .int .i64 t.pen, .slice d2 t.que.length dc2, .slice d3 t.frm.length dc3, .int .u16 (t.flg : Int)] 27 (0, 0))) := by obtain ⟨x1, x2, x3, x4, x5, x6, x7, x8⟩ := LOW.out; have hb := LA_29.out.trans hlow; exact (hb.block _ (lt_of_heap x7)).trans x7
  clear QD_29
  have BW_37 : Hid (Below w.heap.size w z8) := by obtain ⟨x1, x2, x3, x4, x5, x6, x7, x8⟩ := LOW.out; have hb := LA_29.out.trans hlow; exact below_trans x8 hb
  clear BW_29
  have PB_38 : Hid (z8.heap[z3.heap.size]? = some (.cells #[.slice e1 t.ind.length ec1, .int .i64 t.pen, .slice e2 t.que.length ec2, .slice e3 t.frm.length ec3, .int .u16 (t.flg : Int)] 27 (0, 0))) := (hhigh _ (by have := OL_z2_z3.out; omega) (lt_of_heap PB_29.out)).trans PB_29.out
  clear PB_29
  have PA__39 : Hid (z8.heap[z2.heap.size]? = some (.cells #[.slice b1 t.ind.length bc1, .int .i64 t.pen, .slice b2 t.que.length bc2, .slice b3 t.frm.length bc3, .int .u16 (t.flg : Int)] 27 (0, 0))) := (hhigh _ (by omega) (lt_of_heap PA__29.out)).trans PA__29.out
  clear PA__29
  have Bb_40 : Hid (Own Wz2.heap.size z8 (.slice e1 t.ind.length ec1) (.slice e2 t.que.length ec2) (.slice e3 t.frm.length ec3) t) := Bb_29.out.kab (fun g h1 h2 => hhigh g (by have := LBB.out; omega) h2)
  clear Bb_29
  have L_w2_41 : Hid (w2.heap.size < z8.heap.size) := Nat.lt_of_lt_of_le L_w2_29.out hc9.size
  clear L_w2_29
  have L_z1_42 : Hid (z1.heap.size < z8.heap.size) := Nat.lt_of_lt_of_le L_z1_29.out hc9.size
  clear L_z1_29
  have L_z2_43 : Hid (z2.heap.size < z8.heap.size) := Nat.lt_of_lt_of_le L_z2_29.out hc9.size
  clear L_z2_29
  have L_z3_44 : Hid (z3.heap.size < z8.heap.size) := Nat.lt_of_lt_of_le L_z3_29.out hc9.size
  clear L_z3_29
  clear LA_29
  have Aa_45 : Hid (Own Wz1.heap.size z8 (.slice b1 t.ind.length bc1) (.slice b2 t.que.length bc2) (.slice b3 t.frm.length bc3) s9) := ho9
  clear Aa_29
  clear hlow hhigh ho9 hc9
  obtain ⟨p0, p1, p2, p3, p4⟩ := box_cells PA__39.out
  go_wp2_with fail
  refine (twin_as z8 Aa_45.out.stm HQ9.out.2.2.2.1 HQ9.out.2.2.2.2 (by have := HTL.out; have := HQ9.out; omega) (by have := HTL.out; have := HQ9.out; omega) (by have := HTL.out; have := HQ9.out; omega)).mono ?_
  rintro e z9 ⟨vi9, vq9, vf9, rfl, ho9, hb9⟩
  obtain ⟨h1, hc1, h2, hc2, h3, hc3, rfl, rfl, rfl⟩ := ho9.stm.form
  clear p0 p1 p2 p3 p4
  have hb := hb9
  have BW_46 : Hid (Below w.heap.size w z9) := below_trans BW_37.out hb
  have PS_46 : Hid (z9.heap[w.heap.size]? = some (.cells #[.slice a1 s.ind.length ac1, .int .i64 s.pen, .slice a2 s.que.length ac2, .slice a3 s.frm.length ac3, .int .u16 (s.flg : Int)] 27 (0, 0))) := (hb.block _ (lt_of_heap PS_30.out)).trans PS_30.out
  have PT_46 : Hid (z9.heap[w.heap.size + 1]? = some (.cells #[.int .i64 k, .int .i64 n, .int .i64 mo] 38 (0, 0))) := (hb.block _ (lt_of_heap PT_31.out)).trans PT_31.out
  have S_46 : Hid (Stm z9 (.slice a1 s.ind.length ac1) (.slice a2 s.que.length ac2) (.slice a3 s.frm.length ac3) s) := S_32.out.up hb
  have R_46 : Hid (z9.ownsRow W1.heap.size 3 1 (.slice (some ⟨g1, 0, none⟩) (s.ind.length + 2) k1) (s.ind.length + 2) (iC s.ind ++ mI) ∧ z9.ownsRow W1.heap.size 9 1 (.slice (some ⟨g2, 0, none⟩) (s.que.length + 2) k2) (s.que.length + 2) (qC s.que ++ mQ) ∧ z9.ownsRow W1.heap.size 42 2 (.slice (some ⟨g3, 0, none⟩) (s.frm.length + 2) k3) (s.frm.length + 2) (fC s.frm ++ mF)) := ⟨row_up R_33.out.1 hb, row_up R_33.out.2.1 hb, row_up R_33.out.2.2 hb⟩
  have PX_46 : Hid (z9.heap[w2.heap.size]? = some (.cells #[.slice (some ⟨g1, 0, none⟩) s.ind.length k1, .int .i64 s.pen, .slice (some ⟨g2, 0, none⟩) s.que.length k2, .slice (some ⟨g3, 0, none⟩) s.frm.length k3, .int .u16 (s.flg : Int)] 27 (0, 0))) := (hb.block _ (lt_of_heap PX_34.out)).trans PX_34.out
  have L_w2_46 : Hid (w2.heap.size < z9.heap.size) := Nat.lt_of_lt_of_le L_w2_41.out hb.size
  have Dd_46 : Hid (Stl W2.heap.size z9 (.slice d1 t.ind.length dc1) (.slice d2 t.que.length dc2) (.slice d3 t.frm.length dc3) t) := Dd_35.out.up hb
  have QD_46 : Hid (z9.heap[z1.heap.size]? = some (.cells #[.slice d1 t.ind.length dc1, .int .i64 t.pen, .slice d2 t.que.length dc2, .slice d3 t.frm.length dc3, .int .u16 (t.flg : Int)] 27 (0, 0))) := (hb.block _ (lt_of_heap QD_36.out)).trans QD_36.out
  have L_z1_46 : Hid (z1.heap.size < z9.heap.size) := Nat.lt_of_lt_of_le L_z1_42.out hb.size
  have Aa_46 : Hid (Own Wz1.heap.size z9 (.slice b1 t.ind.length bc1) (.slice b2 t.que.length bc2) (.slice b3 t.frm.length bc3) s9) := Aa_45.out.up hb
  have PA__46 : Hid (z9.heap[z2.heap.size]? = some (.cells #[.slice b1 t.ind.length bc1, .int .i64 t.pen, .slice b2 t.que.length bc2, .slice b3 t.frm.length bc3, .int .u16 (t.flg : Int)] 27 (0, 0))) := (hb.block _ (lt_of_heap PA__39.out)).trans PA__39.out
  have L_z2_46 : Hid (z2.heap.size < z9.heap.size) := Nat.lt_of_lt_of_le L_z2_43.out hb.size
  have Bb_46 : Hid (Own Wz2.heap.size z9 (.slice e1 t.ind.length ec1) (.slice e2 t.que.length ec2) (.slice e3 t.frm.length ec3) t) := Bb_40.out.up hb
  have PB_46 : Hid (z9.heap[z3.heap.size]? = some (.cells #[.slice e1 t.ind.length ec1, .int .i64 t.pen, .slice e2 t.que.length ec2, .slice e3 t.frm.length ec3, .int .u16 (t.flg : Int)] 27 (0, 0))) := (hb.block _ (lt_of_heap PB_38.out)).trans PB_38.out
  have L_z3_46 : Hid (z3.heap.size < z9.heap.size) := Nat.lt_of_lt_of_le L_z3_44.out hb.size
  clear hb BW_37 PS_30 PT_31 S_32 R_33 PX_34 L_w2_41 Dd_35 QD_36 L_z1_42 Aa_45 PA__39 L_z2_43 Bb_40 PB_38 L_z3_44
  have OL_w2_z9 : Hid (w2.heap.size < z9.heap.size) := L_w2_46.out
  have OL_z1_z9 : Hid (z1.heap.size < z9.heap.size) := L_z1_46.out
  have OL_z2_z9 : Hid (z2.heap.size < z9.heap.size) := L_z2_46.out
  have OL_z3_z9 : Hid (z3.heap.size < z9.heap.size) := L_z3_46.out
  obtain ⟨Wz9, hW9⟩ : ∃ Wz9, Wz9 = z9.alloc (.cells #[.slice h1 s9.ind.length hc1, .int .i64 t.pen, .slice h2 s9.que.length hc2, .slice h3 s9.frm.length hc3, .int .u16 (t.flg : Int)] 27) := ⟨_, rfl⟩
  have HWz9 : Hid (Wz9 = z9.alloc (.cells #[.slice h1 s9.ind.length hc1, .int .i64 t.pen, .slice h2 s9.que.length hc2, .slice h3 s9.frm.length hc3, .int .u16 (t.flg : Int)] 27)) := hW9
  have Pp_47 : Hid (Own z8.heap.size z9 (.slice h1 s9.ind.length hc1) (.slice h2 s9.que.length hc2) (.slice h3 s9.frm.length hc3) s9) := ho9
  clear ho9 hb9
  have hba : Below z9.heap.size z9 Wz9 := by rw [hW9]; exact bel_up _ _
  have hb := hba
  have BW_48 : Hid (Below w.heap.size w Wz9) := below_trans BW_46.out hb
  have PS_48 : Hid (Wz9.heap[w.heap.size]? = some (.cells #[.slice a1 s.ind.length ac1, .int .i64 s.pen, .slice a2 s.que.length ac2, .slice a3 s.frm.length ac3, .int .u16 (s.flg : Int)] 27 (0, 0))) := (hb.block _ (lt_of_heap PS_46.out)).trans PS_46.out
  have PT_48 : Hid (Wz9.heap[w.heap.size + 1]? = some (.cells #[.int .i64 k, .int .i64 n, .int .i64 mo] 38 (0, 0))) := (hb.block _ (lt_of_heap PT_46.out)).trans PT_46.out
  have S_48 : Hid (Stm Wz9 (.slice a1 s.ind.length ac1) (.slice a2 s.que.length ac2) (.slice a3 s.frm.length ac3) s) := S_46.out.up hb
  have R_48 : Hid (Wz9.ownsRow W1.heap.size 3 1 (.slice (some ⟨g1, 0, none⟩) (s.ind.length + 2) k1) (s.ind.length + 2) (iC s.ind ++ mI) ∧ Wz9.ownsRow W1.heap.size 9 1 (.slice (some ⟨g2, 0, none⟩) (s.que.length + 2) k2) (s.que.length + 2) (qC s.que ++ mQ) ∧ Wz9.ownsRow W1.heap.size 42 2 (.slice (some ⟨g3, 0, none⟩) (s.frm.length + 2) k3) (s.frm.length + 2) (fC s.frm ++ mF)) := ⟨row_up R_46.out.1 hb, row_up R_46.out.2.1 hb, row_up R_46.out.2.2 hb⟩
  have PX_48 : Hid (Wz9.heap[w2.heap.size]? = some (.cells #[.slice (some ⟨g1, 0, none⟩) s.ind.length k1, .int .i64 s.pen, .slice (some ⟨g2, 0, none⟩) s.que.length k2, .slice (some ⟨g3, 0, none⟩) s.frm.length k3, .int .u16 (s.flg : Int)] 27 (0, 0))) := (hb.block _ (lt_of_heap PX_46.out)).trans PX_46.out
  have L_w2_48 : Hid (w2.heap.size < Wz9.heap.size) := Nat.lt_of_lt_of_le L_w2_46.out hb.size
  have Dd_48 : Hid (Stl W2.heap.size Wz9 (.slice d1 t.ind.length dc1) (.slice d2 t.que.length dc2) (.slice d3 t.frm.length dc3) t) := Dd_46.out.up hb
  have QD_48 : Hid (Wz9.heap[z1.heap.size]? = some (.cells #[.slice d1 t.ind.length dc1, .int .i64 t.pen, .slice d2 t.que.length dc2, .slice d3 t.frm.length dc3, .int .u16 (t.flg : Int)] 27 (0, 0))) := (hb.block _ (lt_of_heap QD_46.out)).trans QD_46.out
  have L_z1_48 : Hid (z1.heap.size < Wz9.heap.size) := Nat.lt_of_lt_of_le L_z1_46.out hb.size
  have Aa_48 : Hid (Own Wz1.heap.size Wz9 (.slice b1 t.ind.length bc1) (.slice b2 t.que.length bc2) (.slice b3 t.frm.length bc3) s9) := Aa_46.out.up hb
  have PA__48 : Hid (Wz9.heap[z2.heap.size]? = some (.cells #[.slice b1 t.ind.length bc1, .int .i64 t.pen, .slice b2 t.que.length bc2, .slice b3 t.frm.length bc3, .int .u16 (t.flg : Int)] 27 (0, 0))) := (hb.block _ (lt_of_heap PA__46.out)).trans PA__46.out
  have L_z2_48 : Hid (z2.heap.size < Wz9.heap.size) := Nat.lt_of_lt_of_le L_z2_46.out hb.size
  have Bb_48 : Hid (Own Wz2.heap.size Wz9 (.slice e1 t.ind.length ec1) (.slice e2 t.que.length ec2) (.slice e3 t.frm.length ec3) t) := Bb_46.out.up hb
  have PB_48 : Hid (Wz9.heap[z3.heap.size]? = some (.cells #[.slice e1 t.ind.length ec1, .int .i64 t.pen, .slice e2 t.que.length ec2, .slice e3 t.frm.length ec3, .int .u16 (t.flg : Int)] 27 (0, 0))) := (hb.block _ (lt_of_heap PB_46.out)).trans PB_46.out
  have L_z3_48 : Hid (z3.heap.size < Wz9.heap.size) := Nat.lt_of_lt_of_le L_z3_46.out hb.size
  have Pp_48 : Hid (Own z8.heap.size Wz9 (.slice h1 s9.ind.length hc1) (.slice h2 s9.que.length hc2) (.slice h3 s9.frm.length hc3) s9) := Pp_47.out.up hb
  clear hb BW_46 PS_46 PT_46 S_46 R_46 PX_46 L_w2_46 Dd_46 QD_46 L_z1_46 Aa_46 PA__46 L_z2_46 Bb_46 PB_46 L_z3_46 Pp_47
  have PP_49 : Hid (Wz9.heap[z9.heap.size]? = some (.cells #[.slice h1 s9.ind.length hc1, .int .i64 t.pen, .slice h2 s9.que.length hc2, .slice h3 s9.frm.length hc3, .int .u16 (t.flg : Int)] 27 (0, 0))) := by rw [hW9]; exact heap_new z9 _
  have L_z9_50 : Hid (z9.heap.size < Wz9.heap.size) := by rw [hW9, World.size_alloc]; exact Nat.lt_succ_self _
  clear hW9 hba
  go_upto_region 12 with fail
  rw [← HWz9.out]
  obtain ⟨p0, p1, p2, p3, p4⟩ := box_cells PB_48.out
  obtain ⟨q0, q1, q2, q3, q4⟩ := box_cells QD_48.out
  go_wp2_with fail
  refine (rsame_as Wz9 Bb_48.out.stm Dd_48.out.stm rfl rfl (by have := HTL.out; omega) (by have := HTL.out; omega) (by have := HTL.out; omega)).mono ?_
  rintro e z10 ⟨rfl, hb9⟩
  clear p0 p1 p2 p3 p4 q0 q1 q2 q3 q4
  have hb := hb9
  have BW_51 : Hid (Below w.heap.size w z10) := below_trans BW_48.out hb
  have PS_51 : Hid (z10.heap[w.heap.size]? = some (.cells #[.slice a1 s.ind.length ac1, .int .i64 s.pen, .slice a2 s.que.length ac2, .slice a3 s.frm.length ac3, .int .u16 (s.flg : Int)] 27 (0, 0))) := (hb.block _ (lt_of_heap PS_48.out)).trans PS_48.out
  have PT_51 : Hid (z10.heap[w.heap.size + 1]? = some (.cells #[.int .i64 k, .int .i64 n, .int .i64 mo] 38 (0, 0))) := (hb.block _ (lt_of_heap PT_48.out)).trans PT_48.out
  have S_51 : Hid (Stm z10 (.slice a1 s.ind.length ac1) (.slice a2 s.que.length ac2) (.slice a3 s.frm.length ac3) s) := S_48.out.up hb
  have R_51 : Hid (z10.ownsRow W1.heap.size 3 1 (.slice (some ⟨g1, 0, none⟩) (s.ind.length + 2) k1) (s.ind.length + 2) (iC s.ind ++ mI) ∧ z10.ownsRow W1.heap.size 9 1 (.slice (some ⟨g2, 0, none⟩) (s.que.length + 2) k2) (s.que.length + 2) (qC s.que ++ mQ) ∧ z10.ownsRow W1.heap.size 42 2 (.slice (some ⟨g3, 0, none⟩) (s.frm.length + 2) k3) (s.frm.length + 2) (fC s.frm ++ mF)) := ⟨row_up R_48.out.1 hb, row_up R_48.out.2.1 hb, row_up R_48.out.2.2 hb⟩
  have PX_51 : Hid (z10.heap[w2.heap.size]? = some (.cells #[.slice (some ⟨g1, 0, none⟩) s.ind.length k1, .int .i64 s.pen, .slice (some ⟨g2, 0, none⟩) s.que.length k2, .slice (some ⟨g3, 0, none⟩) s.frm.length k3, .int .u16 (s.flg : Int)] 27 (0, 0))) := (hb.block _ (lt_of_heap PX_48.out)).trans PX_48.out
  have L_w2_51 : Hid (w2.heap.size < z10.heap.size) := Nat.lt_of_lt_of_le L_w2_48.out hb.size
  have Dd_51 : Hid (Stl W2.heap.size z10 (.slice d1 t.ind.length dc1) (.slice d2 t.que.length dc2) (.slice d3 t.frm.length dc3) t) := Dd_48.out.up hb
  have QD_51 : Hid (z10.heap[z1.heap.size]? = some (.cells #[.slice d1 t.ind.length dc1, .int .i64 t.pen, .slice d2 t.que.length dc2, .slice d3 t.frm.length dc3, .int .u16 (t.flg : Int)] 27 (0, 0))) := (hb.block _ (lt_of_heap QD_48.out)).trans QD_48.out
  have L_z1_51 : Hid (z1.heap.size < z10.heap.size) := Nat.lt_of_lt_of_le L_z1_48.out hb.size
  have Aa_51 : Hid (Own Wz1.heap.size z10 (.slice b1 t.ind.length bc1) (.slice b2 t.que.length bc2) (.slice b3 t.frm.length bc3) s9) := Aa_48.out.up hb
  have PA__51 : Hid (z10.heap[z2.heap.size]? = some (.cells #[.slice b1 t.ind.length bc1, .int .i64 t.pen, .slice b2 t.que.length bc2, .slice b3 t.frm.length bc3, .int .u16 (t.flg : Int)] 27 (0, 0))) := (hb.block _ (lt_of_heap PA__48.out)).trans PA__48.out
  have L_z2_51 : Hid (z2.heap.size < z10.heap.size) := Nat.lt_of_lt_of_le L_z2_48.out hb.size
  have Bb_51 : Hid (Own Wz2.heap.size z10 (.slice e1 t.ind.length ec1) (.slice e2 t.que.length ec2) (.slice e3 t.frm.length ec3) t) := Bb_48.out.up hb
  have PB_51 : Hid (z10.heap[z3.heap.size]? = some (.cells #[.slice e1 t.ind.length ec1, .int .i64 t.pen, .slice e2 t.que.length ec2, .slice e3 t.frm.length ec3, .int .u16 (t.flg : Int)] 27 (0, 0))) := (hb.block _ (lt_of_heap PB_48.out)).trans PB_48.out
  have L_z3_51 : Hid (z3.heap.size < z10.heap.size) := Nat.lt_of_lt_of_le L_z3_48.out hb.size
  have Pp_51 : Hid (Own z8.heap.size z10 (.slice h1 s9.ind.length hc1) (.slice h2 s9.que.length hc2) (.slice h3 s9.frm.length hc3) s9) := Pp_48.out.up hb
  have PP_51 : Hid (z10.heap[z9.heap.size]? = some (.cells #[.slice h1 s9.ind.length hc1, .int .i64 t.pen, .slice h2 s9.que.length hc2, .slice h3 s9.frm.length hc3, .int .u16 (t.flg : Int)] 27 (0, 0))) := (hb.block _ (lt_of_heap PP_49.out)).trans PP_49.out
  have L_z9_51 : Hid (z9.heap.size < z10.heap.size) := Nat.lt_of_lt_of_le L_z9_50.out hb.size
  clear hb BW_48 PS_48 PT_48 S_48 R_48 PX_48 L_w2_48 Dd_48 QD_48 L_z1_48 Aa_48 PA__48 L_z2_48 Bb_48 PB_48 L_z3_48 Pp_48 PP_49 L_z9_50
  clear hb9
  obtain ⟨p0, p1, p2, p3, p4⟩ := box_cells PX_51.out
  have q0 := rcell PT_51.out 0 (.int .i64 k) rfl
  have q1 := rcell PT_51.out 1 (.int .i64 n) rfl
  have q2 := rcell PT_51.out 2 (.int .i64 mo) rfl
  go_wp2_with fail
  refine (PD.out _ _ _ z10 (show Rmy W1.heap.size _ (.slice (some ⟨g1, 0, none⟩) s.ind.length k1) (.slice (some ⟨g2, 0, none⟩) s.que.length k2) (.slice (some ⟨g3, 0, none⟩) s.frm.length k3) s from ⟨g1, k1, g2, k2, g3, k3, rfl, rfl, rfl, R_51.out.1, R_51.out.2.1, R_51.out.2.2⟩).stm).mono ?_
  rintro e z11 ⟨vi9, vq9, vf9, rfl, ho9, hb9⟩
  obtain ⟨f1, fc1, f2, fc2, f3, fc3, rfl, rfl, rfl⟩ := ho9.stm.form
  clear p0 p1 p2 p3 p4 q0 q1 q2
  have hb := hb9
  have BW_52 : Hid (Below w.heap.size w z11) := below_trans BW_51.out hb
  have PS_52 : Hid (z11.heap[w.heap.size]? = some (.cells #[.slice a1 s.ind.length ac1, .int .i64 s.pen, .slice a2 s.que.length ac2, .slice a3 s.frm.length ac3, .int .u16 (s.flg : Int)] 27 (0, 0))) := (hb.block _ (lt_of_heap PS_51.out)).trans PS_51.out
  have PT_52 : Hid (z11.heap[w.heap.size + 1]? = some (.cells #[.int .i64 k, .int .i64 n, .int .i64 mo] 38 (0, 0))) := (hb.block _ (lt_of_heap PT_51.out)).trans PT_51.out
  have S_52 : Hid (Stm z11 (.slice a1 s.ind.length ac1) (.slice a2 s.que.length ac2) (.slice a3 s.frm.length ac3) s) := S_51.out.up hb
  have R_52 : Hid (z11.ownsRow W1.heap.size 3 1 (.slice (some ⟨g1, 0, none⟩) (s.ind.length + 2) k1) (s.ind.length + 2) (iC s.ind ++ mI) ∧ z11.ownsRow W1.heap.size 9 1 (.slice (some ⟨g2, 0, none⟩) (s.que.length + 2) k2) (s.que.length + 2) (qC s.que ++ mQ) ∧ z11.ownsRow W1.heap.size 42 2 (.slice (some ⟨g3, 0, none⟩) (s.frm.length + 2) k3) (s.frm.length + 2) (fC s.frm ++ mF)) := ⟨row_up R_51.out.1 hb, row_up R_51.out.2.1 hb, row_up R_51.out.2.2 hb⟩
  have PX_52 : Hid (z11.heap[w2.heap.size]? = some (.cells #[.slice (some ⟨g1, 0, none⟩) s.ind.length k1, .int .i64 s.pen, .slice (some ⟨g2, 0, none⟩) s.que.length k2, .slice (some ⟨g3, 0, none⟩) s.frm.length k3, .int .u16 (s.flg : Int)] 27 (0, 0))) := (hb.block _ (lt_of_heap PX_51.out)).trans PX_51.out
  have L_w2_52 : Hid (w2.heap.size < z11.heap.size) := Nat.lt_of_lt_of_le L_w2_51.out hb.size
  have Dd_52 : Hid (Stl W2.heap.size z11 (.slice d1 t.ind.length dc1) (.slice d2 t.que.length dc2) (.slice d3 t.frm.length dc3) t) := Dd_51.out.up hb
  have QD_52 : Hid (z11.heap[z1.heap.size]? = some (.cells #[.slice d1 t.ind.length dc1, .int .i64 t.pen, .slice d2 t.que.length dc2, .slice d3 t.frm.length dc3, .int .u16 (t.flg : Int)] 27 (0, 0))) := (hb.block _ (lt_of_heap QD_51.out)).trans QD_51.out
  have L_z1_52 : Hid (z1.heap.size < z11.heap.size) := Nat.lt_of_lt_of_le L_z1_51.out hb.size
  have Aa_52 : Hid (Own Wz1.heap.size z11 (.slice b1 t.ind.length bc1) (.slice b2 t.que.length bc2) (.slice b3 t.frm.length bc3) s9) := Aa_51.out.up hb
  have PA__52 : Hid (z11.heap[z2.heap.size]? = some (.cells #[.slice b1 t.ind.length bc1, .int .i64 t.pen, .slice b2 t.que.length bc2, .slice b3 t.frm.length bc3, .int .u16 (t.flg : Int)] 27 (0, 0))) := (hb.block _ (lt_of_heap PA__51.out)).trans PA__51.out
  have L_z2_52 : Hid (z2.heap.size < z11.heap.size) := Nat.lt_of_lt_of_le L_z2_51.out hb.size
  have Bb_52 : Hid (Own Wz2.heap.size z11 (.slice e1 t.ind.length ec1) (.slice e2 t.que.length ec2) (.slice e3 t.frm.length ec3) t) := Bb_51.out.up hb
  have PB_52 : Hid (z11.heap[z3.heap.size]? = some (.cells #[.slice e1 t.ind.length ec1, .int .i64 t.pen, .slice e2 t.que.length ec2, .slice e3 t.frm.length ec3, .int .u16 (t.flg : Int)] 27 (0, 0))) := (hb.block _ (lt_of_heap PB_51.out)).trans PB_51.out
  have L_z3_52 : Hid (z3.heap.size < z11.heap.size) := Nat.lt_of_lt_of_le L_z3_51.out hb.size
  have Pp_52 : Hid (Own z8.heap.size z11 (.slice h1 s9.ind.length hc1) (.slice h2 s9.que.length hc2) (.slice h3 s9.frm.length hc3) s9) := Pp_51.out.up hb
  have PP_52 : Hid (z11.heap[z9.heap.size]? = some (.cells #[.slice h1 s9.ind.length hc1, .int .i64 t.pen, .slice h2 s9.que.length hc2, .slice h3 s9.frm.length hc3, .int .u16 (t.flg : Int)] 27 (0, 0))) := (hb.block _ (lt_of_heap PP_51.out)).trans PP_51.out
  have L_z9_52 : Hid (z9.heap.size < z11.heap.size) := Nat.lt_of_lt_of_le L_z9_51.out hb.size
  clear hb BW_51 PS_51 PT_51 S_51 R_51 PX_51 L_w2_51 Dd_51 QD_51 L_z1_51 Aa_51 PA__51 L_z2_51 Bb_51 PB_51 L_z3_51 Pp_51 PP_51 L_z9_51
  have OL_w2_z11 : Hid (w2.heap.size < z11.heap.size) := L_w2_52.out
  have OL_z1_z11 : Hid (z1.heap.size < z11.heap.size) := L_z1_52.out
  have OL_z2_z11 : Hid (z2.heap.size < z11.heap.size) := L_z2_52.out
  have OL_z3_z11 : Hid (z3.heap.size < z11.heap.size) := L_z3_52.out
  have OL_z9_z11 : Hid (z9.heap.size < z11.heap.size) := L_z9_52.out
  obtain ⟨Wz11, hW9⟩ : ∃ Wz11, Wz11 = z11.alloc (.cells #[.slice f1 t.ind.length fc1, .int .i64 t.pen, .slice f2 t.que.length fc2, .slice f3 t.frm.length fc3, .int .u16 (t.flg : Int)] 27) := ⟨_, rfl⟩
  have HWz11 : Hid (Wz11 = z11.alloc (.cells #[.slice f1 t.ind.length fc1, .int .i64 t.pen, .slice f2 t.que.length fc2, .slice f3 t.frm.length fc3, .int .u16 (t.flg : Int)] 27)) := hW9
  have Cc_53 : Hid (Own z10.heap.size z11 (.slice f1 t.ind.length fc1) (.slice f2 t.que.length fc2) (.slice f3 t.frm.length fc3) t) := ho9
  clear ho9 hb9
  have hba : Below z11.heap.size z11 Wz11 := by rw [hW9]; exact bel_up _ _
  have hb := hba
  have BW_54 : Hid (Below w.heap.size w Wz11) := below_trans BW_52.out hb
  have PS_54 : Hid (Wz11.heap[w.heap.size]? = some (.cells #[.slice a1 s.ind.length ac1, .int .i64 s.pen, .slice a2 s.que.length ac2, .slice a3 s.frm.length ac3, .int .u16 (s.flg : Int)] 27 (0, 0))) := (hb.block _ (lt_of_heap PS_52.out)).trans PS_52.out
  have PT_54 : Hid (Wz11.heap[w.heap.size + 1]? = some (.cells #[.int .i64 k, .int .i64 n, .int .i64 mo] 38 (0, 0))) := (hb.block _ (lt_of_heap PT_52.out)).trans PT_52.out
  have S_54 : Hid (Stm Wz11 (.slice a1 s.ind.length ac1) (.slice a2 s.que.length ac2) (.slice a3 s.frm.length ac3) s) := S_52.out.up hb
  have R_54 : Hid (Wz11.ownsRow W1.heap.size 3 1 (.slice (some ⟨g1, 0, none⟩) (s.ind.length + 2) k1) (s.ind.length + 2) (iC s.ind ++ mI) ∧ Wz11.ownsRow W1.heap.size 9 1 (.slice (some ⟨g2, 0, none⟩) (s.que.length + 2) k2) (s.que.length + 2) (qC s.que ++ mQ) ∧ Wz11.ownsRow W1.heap.size 42 2 (.slice (some ⟨g3, 0, none⟩) (s.frm.length + 2) k3) (s.frm.length + 2) (fC s.frm ++ mF)) := ⟨row_up R_52.out.1 hb, row_up R_52.out.2.1 hb, row_up R_52.out.2.2 hb⟩
  have PX_54 : Hid (Wz11.heap[w2.heap.size]? = some (.cells #[.slice (some ⟨g1, 0, none⟩) s.ind.length k1, .int .i64 s.pen, .slice (some ⟨g2, 0, none⟩) s.que.length k2, .slice (some ⟨g3, 0, none⟩) s.frm.length k3, .int .u16 (s.flg : Int)] 27 (0, 0))) := (hb.block _ (lt_of_heap PX_52.out)).trans PX_52.out
  have L_w2_54 : Hid (w2.heap.size < Wz11.heap.size) := Nat.lt_of_lt_of_le L_w2_52.out hb.size
  have Dd_54 : Hid (Stl W2.heap.size Wz11 (.slice d1 t.ind.length dc1) (.slice d2 t.que.length dc2) (.slice d3 t.frm.length dc3) t) := Dd_52.out.up hb
  have QD_54 : Hid (Wz11.heap[z1.heap.size]? = some (.cells #[.slice d1 t.ind.length dc1, .int .i64 t.pen, .slice d2 t.que.length dc2, .slice d3 t.frm.length dc3, .int .u16 (t.flg : Int)] 27 (0, 0))) := (hb.block _ (lt_of_heap QD_52.out)).trans QD_52.out
  have L_z1_54 : Hid (z1.heap.size < Wz11.heap.size) := Nat.lt_of_lt_of_le L_z1_52.out hb.size
  have Aa_54 : Hid (Own Wz1.heap.size Wz11 (.slice b1 t.ind.length bc1) (.slice b2 t.que.length bc2) (.slice b3 t.frm.length bc3) s9) := Aa_52.out.up hb
  have PA__54 : Hid (Wz11.heap[z2.heap.size]? = some (.cells #[.slice b1 t.ind.length bc1, .int .i64 t.pen, .slice b2 t.que.length bc2, .slice b3 t.frm.length bc3, .int .u16 (t.flg : Int)] 27 (0, 0))) := (hb.block _ (lt_of_heap PA__52.out)).trans PA__52.out
  have L_z2_54 : Hid (z2.heap.size < Wz11.heap.size) := Nat.lt_of_lt_of_le L_z2_52.out hb.size
  have Bb_54 : Hid (Own Wz2.heap.size Wz11 (.slice e1 t.ind.length ec1) (.slice e2 t.que.length ec2) (.slice e3 t.frm.length ec3) t) := Bb_52.out.up hb
  have PB_54 : Hid (Wz11.heap[z3.heap.size]? = some (.cells #[.slice e1 t.ind.length ec1, .int .i64 t.pen, .slice e2 t.que.length ec2, .slice e3 t.frm.length ec3, .int .u16 (t.flg : Int)] 27 (0, 0))) := (hb.block _ (lt_of_heap PB_52.out)).trans PB_52.out
  have L_z3_54 : Hid (z3.heap.size < Wz11.heap.size) := Nat.lt_of_lt_of_le L_z3_52.out hb.size
  have Pp_54 : Hid (Own z8.heap.size Wz11 (.slice h1 s9.ind.length hc1) (.slice h2 s9.que.length hc2) (.slice h3 s9.frm.length hc3) s9) := Pp_52.out.up hb
  have PP_54 : Hid (Wz11.heap[z9.heap.size]? = some (.cells #[.slice h1 s9.ind.length hc1, .int .i64 t.pen, .slice h2 s9.que.length hc2, .slice h3 s9.frm.length hc3, .int .u16 (t.flg : Int)] 27 (0, 0))) := (hb.block _ (lt_of_heap PP_52.out)).trans PP_52.out
  have L_z9_54 : Hid (z9.heap.size < Wz11.heap.size) := Nat.lt_of_lt_of_le L_z9_52.out hb.size
  have Cc_54 : Hid (Own z10.heap.size Wz11 (.slice f1 t.ind.length fc1) (.slice f2 t.que.length fc2) (.slice f3 t.frm.length fc3) t) := Cc_53.out.up hb
  clear hb BW_52 PS_52 PT_52 S_52 R_52 PX_52 L_w2_52 Dd_52 QD_52 L_z1_52 Aa_52 PA__52 L_z2_52 Bb_52 PB_52 L_z3_52 Pp_52 PP_52 L_z9_52 Cc_53
  have PC_55 : Hid (Wz11.heap[z11.heap.size]? = some (.cells #[.slice f1 t.ind.length fc1, .int .i64 t.pen, .slice f2 t.que.length fc2, .slice f3 t.frm.length fc3, .int .u16 (t.flg : Int)] 27 (0, 0))) := by rw [hW9]; exact heap_new z11 _
  have L_z11_56 : Hid (z11.heap.size < Wz11.heap.size) := by rw [hW9, World.size_alloc]; exact Nat.lt_succ_self _
  clear hW9 hba
  go_upto_region 14 with fail
  rw [← HWz11.out]
  obtain ⟨p0, p1, p2, p3, p4⟩ := box_cells PC_55.out
  obtain ⟨q0, q1, q2, q3, q4⟩ := box_cells QD_54.out
  go_wp2_with fail
  refine (rsame_as Wz11 Cc_54.out.stm Dd_54.out.stm rfl rfl (by have := HTL.out; omega) (by have := HTL.out; omega) (by have := HTL.out; omega)).mono ?_
  rintro e z12 ⟨rfl, hb9⟩
  clear p0 p1 p2 p3 p4 q0 q1 q2 q3 q4
  have hb := hb9
  have BW_57 : Hid (Below w.heap.size w z12) := below_trans BW_54.out hb
  have PS_57 : Hid (z12.heap[w.heap.size]? = some (.cells #[.slice a1 s.ind.length ac1, .int .i64 s.pen, .slice a2 s.que.length ac2, .slice a3 s.frm.length ac3, .int .u16 (s.flg : Int)] 27 (0, 0))) := (hb.block _ (lt_of_heap PS_54.out)).trans PS_54.out
  have PT_57 : Hid (z12.heap[w.heap.size + 1]? = some (.cells #[.int .i64 k, .int .i64 n, .int .i64 mo] 38 (0, 0))) := (hb.block _ (lt_of_heap PT_54.out)).trans PT_54.out
  have S_57 : Hid (Stm z12 (.slice a1 s.ind.length ac1) (.slice a2 s.que.length ac2) (.slice a3 s.frm.length ac3) s) := S_54.out.up hb
  have R_57 : Hid (z12.ownsRow W1.heap.size 3 1 (.slice (some ⟨g1, 0, none⟩) (s.ind.length + 2) k1) (s.ind.length + 2) (iC s.ind ++ mI) ∧ z12.ownsRow W1.heap.size 9 1 (.slice (some ⟨g2, 0, none⟩) (s.que.length + 2) k2) (s.que.length + 2) (qC s.que ++ mQ) ∧ z12.ownsRow W1.heap.size 42 2 (.slice (some ⟨g3, 0, none⟩) (s.frm.length + 2) k3) (s.frm.length + 2) (fC s.frm ++ mF)) := ⟨row_up R_54.out.1 hb, row_up R_54.out.2.1 hb, row_up R_54.out.2.2 hb⟩
  have PX_57 : Hid (z12.heap[w2.heap.size]? = some (.cells #[.slice (some ⟨g1, 0, none⟩) s.ind.length k1, .int .i64 s.pen, .slice (some ⟨g2, 0, none⟩) s.que.length k2, .slice (some ⟨g3, 0, none⟩) s.frm.length k3, .int .u16 (s.flg : Int)] 27 (0, 0))) := (hb.block _ (lt_of_heap PX_54.out)).trans PX_54.out
  have L_w2_57 : Hid (w2.heap.size < z12.heap.size) := Nat.lt_of_lt_of_le L_w2_54.out hb.size
  have Dd_57 : Hid (Stl W2.heap.size z12 (.slice d1 t.ind.length dc1) (.slice d2 t.que.length dc2) (.slice d3 t.frm.length dc3) t) := Dd_54.out.up hb
  have QD_57 : Hid (z12.heap[z1.heap.size]? = some (.cells #[.slice d1 t.ind.length dc1, .int .i64 t.pen, .slice d2 t.que.length dc2, .slice d3 t.frm.length dc3, .int .u16 (t.flg : Int)] 27 (0, 0))) := (hb.block _ (lt_of_heap QD_54.out)).trans QD_54.out
  have L_z1_57 : Hid (z1.heap.size < z12.heap.size) := Nat.lt_of_lt_of_le L_z1_54.out hb.size
  have Aa_57 : Hid (Own Wz1.heap.size z12 (.slice b1 t.ind.length bc1) (.slice b2 t.que.length bc2) (.slice b3 t.frm.length bc3) s9) := Aa_54.out.up hb
  have PA__57 : Hid (z12.heap[z2.heap.size]? = some (.cells #[.slice b1 t.ind.length bc1, .int .i64 t.pen, .slice b2 t.que.length bc2, .slice b3 t.frm.length bc3, .int .u16 (t.flg : Int)] 27 (0, 0))) := (hb.block _ (lt_of_heap PA__54.out)).trans PA__54.out
  have L_z2_57 : Hid (z2.heap.size < z12.heap.size) := Nat.lt_of_lt_of_le L_z2_54.out hb.size
  have Bb_57 : Hid (Own Wz2.heap.size z12 (.slice e1 t.ind.length ec1) (.slice e2 t.que.length ec2) (.slice e3 t.frm.length ec3) t) := Bb_54.out.up hb
  have PB_57 : Hid (z12.heap[z3.heap.size]? = some (.cells #[.slice e1 t.ind.length ec1, .int .i64 t.pen, .slice e2 t.que.length ec2, .slice e3 t.frm.length ec3, .int .u16 (t.flg : Int)] 27 (0, 0))) := (hb.block _ (lt_of_heap PB_54.out)).trans PB_54.out
  have L_z3_57 : Hid (z3.heap.size < z12.heap.size) := Nat.lt_of_lt_of_le L_z3_54.out hb.size
  have Pp_57 : Hid (Own z8.heap.size z12 (.slice h1 s9.ind.length hc1) (.slice h2 s9.que.length hc2) (.slice h3 s9.frm.length hc3) s9) := Pp_54.out.up hb
  have PP_57 : Hid (z12.heap[z9.heap.size]? = some (.cells #[.slice h1 s9.ind.length hc1, .int .i64 t.pen, .slice h2 s9.que.length hc2, .slice h3 s9.frm.length hc3, .int .u16 (t.flg : Int)] 27 (0, 0))) := (hb.block _ (lt_of_heap PP_54.out)).trans PP_54.out
  have L_z9_57 : Hid (z9.heap.size < z12.heap.size) := Nat.lt_of_lt_of_le L_z9_54.out hb.size
  have Cc_57 : Hid (Own z10.heap.size z12 (.slice f1 t.ind.length fc1) (.slice f2 t.que.length fc2) (.slice f3 t.frm.length fc3) t) := Cc_54.out.up hb
  have PC_57 : Hid (z12.heap[z11.heap.size]? = some (.cells #[.slice f1 t.ind.length fc1, .int .i64 t.pen, .slice f2 t.que.length fc2, .slice f3 t.frm.length fc3, .int .u16 (t.flg : Int)] 27 (0, 0))) := (hb.block _ (lt_of_heap PC_55.out)).trans PC_55.out
  have L_z11_57 : Hid (z11.heap.size < z12.heap.size) := Nat.lt_of_lt_of_le L_z11_56.out hb.size
  clear hb BW_54 PS_54 PT_54 S_54 R_54 PX_54 L_w2_54 Dd_54 QD_54 L_z1_54 Aa_54 PA__54 L_z2_54 Bb_54 PB_54 L_z3_54 Pp_54 PP_54 L_z9_54 Cc_54 PC_55 L_z11_56
  clear hb9
  obtain ⟨p0, p1, p2, p3, p4⟩ := box_cells PA__57.out
  obtain ⟨q0, q1, q2, q3, q4⟩ := box_cells PP_57.out
  go_wp2_with fail
  refine (rsame_as z12 Aa_57.out.stm Pp_57.out.stm HQ9.out.2.2.2.1 HQ9.out.2.2.2.2 (by have := HTL.out; have := HQ9.out; omega) (by have := HTL.out; have := HQ9.out; omega) (by have := HTL.out; have := HQ9.out; omega)).mono ?_
  rintro e z13 ⟨rfl, hb9⟩
  clear p0 p1 p2 p3 p4 q0 q1 q2 q3 q4
  have hb := hb9
  have BW_58 : Hid (Below w.heap.size w z13) := below_trans BW_57.out hb
  have PS_58 : Hid (z13.heap[w.heap.size]? = some (.cells #[.slice a1 s.ind.length ac1, .int .i64 s.pen, .slice a2 s.que.length ac2, .slice a3 s.frm.length ac3, .int .u16 (s.flg : Int)] 27 (0, 0))) := (hb.block _ (lt_of_heap PS_57.out)).trans PS_57.out
  have PT_58 : Hid (z13.heap[w.heap.size + 1]? = some (.cells #[.int .i64 k, .int .i64 n, .int .i64 mo] 38 (0, 0))) := (hb.block _ (lt_of_heap PT_57.out)).trans PT_57.out
  have S_58 : Hid (Stm z13 (.slice a1 s.ind.length ac1) (.slice a2 s.que.length ac2) (.slice a3 s.frm.length ac3) s) := S_57.out.up hb
  have R_58 : Hid (z13.ownsRow W1.heap.size 3 1 (.slice (some ⟨g1, 0, none⟩) (s.ind.length + 2) k1) (s.ind.length + 2) (iC s.ind ++ mI) ∧ z13.ownsRow W1.heap.size 9 1 (.slice (some ⟨g2, 0, none⟩) (s.que.length + 2) k2) (s.que.length + 2) (qC s.que ++ mQ) ∧ z13.ownsRow W1.heap.size 42 2 (.slice (some ⟨g3, 0, none⟩) (s.frm.length + 2) k3) (s.frm.length + 2) (fC s.frm ++ mF)) := ⟨row_up R_57.out.1 hb, row_up R_57.out.2.1 hb, row_up R_57.out.2.2 hb⟩
  have PX_58 : Hid (z13.heap[w2.heap.size]? = some (.cells #[.slice (some ⟨g1, 0, none⟩) s.ind.length k1, .int .i64 s.pen, .slice (some ⟨g2, 0, none⟩) s.que.length k2, .slice (some ⟨g3, 0, none⟩) s.frm.length k3, .int .u16 (s.flg : Int)] 27 (0, 0))) := (hb.block _ (lt_of_heap PX_57.out)).trans PX_57.out
  have L_w2_58 : Hid (w2.heap.size < z13.heap.size) := Nat.lt_of_lt_of_le L_w2_57.out hb.size
  have Dd_58 : Hid (Stl W2.heap.size z13 (.slice d1 t.ind.length dc1) (.slice d2 t.que.length dc2) (.slice d3 t.frm.length dc3) t) := Dd_57.out.up hb
  have QD_58 : Hid (z13.heap[z1.heap.size]? = some (.cells #[.slice d1 t.ind.length dc1, .int .i64 t.pen, .slice d2 t.que.length dc2, .slice d3 t.frm.length dc3, .int .u16 (t.flg : Int)] 27 (0, 0))) := (hb.block _ (lt_of_heap QD_57.out)).trans QD_57.out
  have L_z1_58 : Hid (z1.heap.size < z13.heap.size) := Nat.lt_of_lt_of_le L_z1_57.out hb.size
  have Aa_58 : Hid (Own Wz1.heap.size z13 (.slice b1 t.ind.length bc1) (.slice b2 t.que.length bc2) (.slice b3 t.frm.length bc3) s9) := Aa_57.out.up hb
  have PA__58 : Hid (z13.heap[z2.heap.size]? = some (.cells #[.slice b1 t.ind.length bc1, .int .i64 t.pen, .slice b2 t.que.length bc2, .slice b3 t.frm.length bc3, .int .u16 (t.flg : Int)] 27 (0, 0))) := (hb.block _ (lt_of_heap PA__57.out)).trans PA__57.out
  have L_z2_58 : Hid (z2.heap.size < z13.heap.size) := Nat.lt_of_lt_of_le L_z2_57.out hb.size
  have Bb_58 : Hid (Own Wz2.heap.size z13 (.slice e1 t.ind.length ec1) (.slice e2 t.que.length ec2) (.slice e3 t.frm.length ec3) t) := Bb_57.out.up hb
  have PB_58 : Hid (z13.heap[z3.heap.size]? = some (.cells #[.slice e1 t.ind.length ec1, .int .i64 t.pen, .slice e2 t.que.length ec2, .slice e3 t.frm.length ec3, .int .u16 (t.flg : Int)] 27 (0, 0))) := (hb.block _ (lt_of_heap PB_57.out)).trans PB_57.out
  have L_z3_58 : Hid (z3.heap.size < z13.heap.size) := Nat.lt_of_lt_of_le L_z3_57.out hb.size
  have Pp_58 : Hid (Own z8.heap.size z13 (.slice h1 s9.ind.length hc1) (.slice h2 s9.que.length hc2) (.slice h3 s9.frm.length hc3) s9) := Pp_57.out.up hb
  have PP_58 : Hid (z13.heap[z9.heap.size]? = some (.cells #[.slice h1 s9.ind.length hc1, .int .i64 t.pen, .slice h2 s9.que.length hc2, .slice h3 s9.frm.length hc3, .int .u16 (t.flg : Int)] 27 (0, 0))) := (hb.block _ (lt_of_heap PP_57.out)).trans PP_57.out
  have L_z9_58 : Hid (z9.heap.size < z13.heap.size) := Nat.lt_of_lt_of_le L_z9_57.out hb.size
  have Cc_58 : Hid (Own z10.heap.size z13 (.slice f1 t.ind.length fc1) (.slice f2 t.que.length fc2) (.slice f3 t.frm.length fc3) t) := Cc_57.out.up hb
  have PC_58 : Hid (z13.heap[z11.heap.size]? = some (.cells #[.slice f1 t.ind.length fc1, .int .i64 t.pen, .slice f2 t.que.length fc2, .slice f3 t.frm.length fc3, .int .u16 (t.flg : Int)] 27 (0, 0))) := (hb.block _ (lt_of_heap PC_57.out)).trans PC_57.out
  have L_z11_58 : Hid (z11.heap.size < z13.heap.size) := Nat.lt_of_lt_of_le L_z11_57.out hb.size
  clear hb BW_57 PS_57 PT_57 S_57 R_57 PX_57 L_w2_57 Dd_57 QD_57 L_z1_57 Aa_57 PA__57 L_z2_57 Bb_57 PB_57 L_z3_57 Pp_57 PP_57 L_z9_57 Cc_57 PC_57 L_z11_57
  clear hb9
  clear PS_58 S_58 Dd_58 PA__58 Aa_58 PB_58 Bb_58 PP_58 Pp_58 Cc_58
  obtain ⟨p0, p1, p2, p3, p4⟩ := box_cells PX_58.out
  go_wp2_with fail
  have HWI : Hid _ := wider_any (pn := s.pen) (fl := (s.flg : Int)) z13 (ty_of (M := 140737488351232) R_58.out.1 R_58.out.2.1 R_58.out.2.2 ZS.out.t ZS.out.u) (by have := ZS.out.i; omega) (by have := ZS.out.q; omega) (by have := ZS.out.f; omega) (by omega)
  refine Calls.mono HWI.out ?_
  rintro e z14 ⟨⟨rv8, rfl⟩, hty⟩
  clear p0 p1 p2 p3 p4
  clear HWI
  obtain ⟨r, q1, q2, q3, q4, q5, q6, hx⟩ := hty.rmy s.pen s.flg
  have HQ : Hid (r.ind.length = s.ind.length ∧ r.que.length = s.que.length ∧ r.frm.length = s.frm.length ∧ r.pen = s.pen ∧ r.flg = s.flg ∧ (∀ d ∈ r.que, d.size ≤ 140737488351232 + s.que.length + s.frm.length)) := ⟨q3, q4, q5, q1, q2, q6⟩
  have hlow := hty.ch.below (B := W1.heap.size) (by have := L_w2_58.out; have := B12.out; omega) HGB.out.1.1 HGB.out.2.1.1 HGB.out.2.2.1
  have hhigh := hty.ch.kab (N := w2.heap.size) HGB.out.1.2 HGB.out.2.1.2 HGB.out.2.2.2
  have PT_59 : Hid (z14.heap[w.heap.size + 1]? = some (.cells #[.int .i64 k, .int .i64 n, .int .i64 mo] 38 (0, 0))) := (hlow.block _ (by have := SW1.out; omega)).trans PT_58.out
  clear PT_58
  have PX_60 : Hid (z14.heap[w2.heap.size]? = some (.cells #[.slice (some ⟨g1, 0, none⟩) s.ind.length k1, .int .i64 s.pen, .slice (some ⟨g2, 0, none⟩) s.que.length k2, .slice (some ⟨g3, 0, none⟩) s.frm.length k3, .int .u16 (s.flg : Int)] 27 (0, 0))) := (hhigh _ (by omega) (lt_of_heap PX_58.out)).trans PX_58.out
  clear PX_58
  have QD_61 : Hid (z14.heap[z1.heap.size]? = some (.cells #[.slice d1 t.ind.length dc1, .int .i64 t.pen, .slice d2 t.que.length dc2, .slice d3 t.frm.length dc3, .int .u16 (t.flg : Int)] 27 (0, 0))) := (hhigh _ (by have := OL_w2_z1.out; omega) (lt_of_heap QD_58.out)).trans QD_58.out
  clear QD_58
  have PC_62 : Hid (z14.heap[z11.heap.size]? = some (.cells #[.slice f1 t.ind.length fc1, .int .i64 t.pen, .slice f2 t.que.length fc2, .slice f3 t.frm.length fc3, .int .u16 (t.flg : Int)] 27 (0, 0))) := (hhigh _ (by have := OL_w2_z11.out; omega) (lt_of_heap PC_58.out)).trans PC_58.out
  clear PC_58
  have BW_63 : Hid (Below w.heap.size w z14) := BW_58.out.trans (hlow.mono (by have := SW1.out; omega))
  clear BW_58
  have L_w2_64 : Hid (w2.heap.size < z14.heap.size) := Nat.lt_of_lt_of_le L_w2_58.out hty.ch.size
  clear L_w2_58
  have L_z1_65 : Hid (z1.heap.size < z14.heap.size) := Nat.lt_of_lt_of_le L_z1_58.out hty.ch.size
  clear L_z1_58
  have L_z2_66 : Hid (z2.heap.size < z14.heap.size) := Nat.lt_of_lt_of_le L_z2_58.out hty.ch.size
  clear L_z2_58
  have L_z3_67 : Hid (z3.heap.size < z14.heap.size) := Nat.lt_of_lt_of_le L_z3_58.out hty.ch.size
  clear L_z3_58
  have L_z9_68 : Hid (z9.heap.size < z14.heap.size) := Nat.lt_of_lt_of_le L_z9_58.out hty.ch.size
  clear L_z9_58
  have L_z11_69 : Hid (z11.heap.size < z14.heap.size) := Nat.lt_of_lt_of_le L_z11_58.out hty.ch.size
  clear L_z11_58
  clear R_58
  have Xr_70 : Hid (Rmy W1.heap.size z14 (.slice (some ⟨g1, 0, none⟩) s.ind.length k1) (.slice (some ⟨g2, 0, none⟩) s.que.length k2) (.slice (some ⟨g3, 0, none⟩) s.frm.length k3) r) := hx
  clear hlow hhigh hty hx q1 q2 q3 q4 q5 q6
  obtain ⟨u, F, hul, hrd, hpd⟩ := does_both (s := r) k n mo m HQ.out.2.2.2.1 HQ.out.2.2.2.2.1 HM.out.2 (fun d hd => by have h1 := HQ.out.2.2.2.2.2 d hd; have h2 := ZS.out.q; have h3 := ZS.out.f; omega) HM.out.1
  have HUL : Hid (u.ind.length ≤ 32 ∧ u.que.length ≤ 8 ∧ u.frm.length ≤ 16) := hul
  have RD2 : Hid (∀ vi vq vf W, Stm W vi vq vf r → Calls Try.prog 19 #[.agg #[vi, .int .i64 s.pen, vq, vf, .int .u16 (s.flg : Int)], av k n mo, .string m] W fun e w' => ∃ ui uq uf, e = .returned (.tuple #[sv ui uq uf u, .int .i64 F]) ∧ Stl W.heap.size w' ui uq uf u ∧ Below W.heap.size W w') := hrd
  have PD2 : Hid (∀ vi vq vf W, Stm W vi vq vf r → Calls Try.prog 21 #[.agg #[vi, .int .i64 s.pen, vq, vf, .int .u16 (s.flg : Int)], av k n mo, .string m] W fun e w' => ∃ ui uq uf, e = .returned (.tuple #[sv ui uq uf u, .int .i64 F]) ∧ Own W.heap.size w' ui uq uf u ∧ Below W.heap.size W w') := hpd
  clear hul hrd hpd RD PD ne1 ne2
  have ne1 : (F != F) = false := by simp
  have ne2 : (F == F) = true := by simp
  obtain ⟨p0, p1, p2, p3, p4⟩ := box_cells PX_60.out
  go_wp2_with fail
  refine (twin_as z14 Xr_70.out.stm HQ.out.2.2.2.1 HQ.out.2.2.2.2.1 (by have := ZS.out.i; have := HQ.out.1; omega) (by have := ZS.out.q; have := HQ.out.2.1; omega) (by have := ZS.out.f; have := HQ.out.2.2.1; omega)).mono ?_
  rintro e z15 ⟨vi9, vq9, vf9, rfl, ho9, hb9⟩
  obtain ⟨n1, nc1, n2, nc2, n3, nc3, rfl, rfl, rfl⟩ := ho9.stm.form
  clear p0 p1 p2 p3 p4
  have hb := hb9
  have BW_71 : Hid (Below w.heap.size w z15) := below_trans BW_63.out hb
  have PT_71 : Hid (z15.heap[w.heap.size + 1]? = some (.cells #[.int .i64 k, .int .i64 n, .int .i64 mo] 38 (0, 0))) := (hb.block _ (lt_of_heap PT_59.out)).trans PT_59.out
  have PX_71 : Hid (z15.heap[w2.heap.size]? = some (.cells #[.slice (some ⟨g1, 0, none⟩) s.ind.length k1, .int .i64 s.pen, .slice (some ⟨g2, 0, none⟩) s.que.length k2, .slice (some ⟨g3, 0, none⟩) s.frm.length k3, .int .u16 (s.flg : Int)] 27 (0, 0))) := (hb.block _ (lt_of_heap PX_60.out)).trans PX_60.out
  have L_w2_71 : Hid (w2.heap.size < z15.heap.size) := Nat.lt_of_lt_of_le L_w2_64.out hb.size
  have QD_71 : Hid (z15.heap[z1.heap.size]? = some (.cells #[.slice d1 t.ind.length dc1, .int .i64 t.pen, .slice d2 t.que.length dc2, .slice d3 t.frm.length dc3, .int .u16 (t.flg : Int)] 27 (0, 0))) := (hb.block _ (lt_of_heap QD_61.out)).trans QD_61.out
  have L_z1_71 : Hid (z1.heap.size < z15.heap.size) := Nat.lt_of_lt_of_le L_z1_65.out hb.size
  have L_z2_71 : Hid (z2.heap.size < z15.heap.size) := Nat.lt_of_lt_of_le L_z2_66.out hb.size
  have L_z3_71 : Hid (z3.heap.size < z15.heap.size) := Nat.lt_of_lt_of_le L_z3_67.out hb.size
  have L_z9_71 : Hid (z9.heap.size < z15.heap.size) := Nat.lt_of_lt_of_le L_z9_68.out hb.size
  have PC_71 : Hid (z15.heap[z11.heap.size]? = some (.cells #[.slice f1 t.ind.length fc1, .int .i64 t.pen, .slice f2 t.que.length fc2, .slice f3 t.frm.length fc3, .int .u16 (t.flg : Int)] 27 (0, 0))) := (hb.block _ (lt_of_heap PC_62.out)).trans PC_62.out
  have L_z11_71 : Hid (z11.heap.size < z15.heap.size) := Nat.lt_of_lt_of_le L_z11_69.out hb.size
  have Xr_71 : Hid (Rmy W1.heap.size z15 (.slice (some ⟨g1, 0, none⟩) s.ind.length k1) (.slice (some ⟨g2, 0, none⟩) s.que.length k2) (.slice (some ⟨g3, 0, none⟩) s.frm.length k3) r) := Xr_70.out.up hb
  clear hb BW_63 PT_59 PX_60 L_w2_64 QD_61 L_z1_65 L_z2_66 L_z3_67 L_z9_68 PC_62 L_z11_69 Xr_70
  have OL_w2_z15 : Hid (w2.heap.size < z15.heap.size) := L_w2_71.out
  have OL_z1_z15 : Hid (z1.heap.size < z15.heap.size) := L_z1_71.out
  have OL_z2_z15 : Hid (z2.heap.size < z15.heap.size) := L_z2_71.out
  have OL_z3_z15 : Hid (z3.heap.size < z15.heap.size) := L_z3_71.out
  have OL_z9_z15 : Hid (z9.heap.size < z15.heap.size) := L_z9_71.out
  have OL_z11_z15 : Hid (z11.heap.size < z15.heap.size) := L_z11_71.out
  obtain ⟨Wz15, hW9⟩ : ∃ Wz15, Wz15 = z15.alloc (.cells #[.slice n1 r.ind.length nc1, .int .i64 s.pen, .slice n2 r.que.length nc2, .slice n3 r.frm.length nc3, .int .u16 (s.flg : Int)] 27) := ⟨_, rfl⟩
  have HWz15 : Hid (Wz15 = z15.alloc (.cells #[.slice n1 r.ind.length nc1, .int .i64 s.pen, .slice n2 r.que.length nc2, .slice n3 r.frm.length nc3, .int .u16 (s.flg : Int)] 27)) := hW9
  have Nn_72 : Hid (Own z14.heap.size z15 (.slice n1 r.ind.length nc1) (.slice n2 r.que.length nc2) (.slice n3 r.frm.length nc3) r) := ho9
  clear ho9 hb9
  have hba : Below z15.heap.size z15 Wz15 := by rw [hW9]; exact bel_up _ _
  have hb := hba
  have BW_73 : Hid (Below w.heap.size w Wz15) := below_trans BW_71.out hb
  have PT_73 : Hid (Wz15.heap[w.heap.size + 1]? = some (.cells #[.int .i64 k, .int .i64 n, .int .i64 mo] 38 (0, 0))) := (hb.block _ (lt_of_heap PT_71.out)).trans PT_71.out
  have PX_73 : Hid (Wz15.heap[w2.heap.size]? = some (.cells #[.slice (some ⟨g1, 0, none⟩) s.ind.length k1, .int .i64 s.pen, .slice (some ⟨g2, 0, none⟩) s.que.length k2, .slice (some ⟨g3, 0, none⟩) s.frm.length k3, .int .u16 (s.flg : Int)] 27 (0, 0))) := (hb.block _ (lt_of_heap PX_71.out)).trans PX_71.out
  have L_w2_73 : Hid (w2.heap.size < Wz15.heap.size) := Nat.lt_of_lt_of_le L_w2_71.out hb.size
  have QD_73 : Hid (Wz15.heap[z1.heap.size]? = some (.cells #[.slice d1 t.ind.length dc1, .int .i64 t.pen, .slice d2 t.que.length dc2, .slice d3 t.frm.length dc3, .int .u16 (t.flg : Int)] 27 (0, 0))) := (hb.block _ (lt_of_heap QD_71.out)).trans QD_71.out
  have L_z1_73 : Hid (z1.heap.size < Wz15.heap.size) := Nat.lt_of_lt_of_le L_z1_71.out hb.size
  have L_z2_73 : Hid (z2.heap.size < Wz15.heap.size) := Nat.lt_of_lt_of_le L_z2_71.out hb.size
  have L_z3_73 : Hid (z3.heap.size < Wz15.heap.size) := Nat.lt_of_lt_of_le L_z3_71.out hb.size
  have L_z9_73 : Hid (z9.heap.size < Wz15.heap.size) := Nat.lt_of_lt_of_le L_z9_71.out hb.size
  have PC_73 : Hid (Wz15.heap[z11.heap.size]? = some (.cells #[.slice f1 t.ind.length fc1, .int .i64 t.pen, .slice f2 t.que.length fc2, .slice f3 t.frm.length fc3, .int .u16 (t.flg : Int)] 27 (0, 0))) := (hb.block _ (lt_of_heap PC_71.out)).trans PC_71.out
  have L_z11_73 : Hid (z11.heap.size < Wz15.heap.size) := Nat.lt_of_lt_of_le L_z11_71.out hb.size
  have Xr_73 : Hid (Rmy W1.heap.size Wz15 (.slice (some ⟨g1, 0, none⟩) s.ind.length k1) (.slice (some ⟨g2, 0, none⟩) s.que.length k2) (.slice (some ⟨g3, 0, none⟩) s.frm.length k3) r) := Xr_71.out.up hb
  have Nn_73 : Hid (Own z14.heap.size Wz15 (.slice n1 r.ind.length nc1) (.slice n2 r.que.length nc2) (.slice n3 r.frm.length nc3) r) := Nn_72.out.up hb
  clear hb BW_71 PT_71 PX_71 L_w2_71 QD_71 L_z1_71 L_z2_71 L_z3_71 L_z9_71 PC_71 L_z11_71 Xr_71 Nn_72
  have PN_74 : Hid (Wz15.heap[z15.heap.size]? = some (.cells #[.slice n1 r.ind.length nc1, .int .i64 s.pen, .slice n2 r.que.length nc2, .slice n3 r.frm.length nc3, .int .u16 (s.flg : Int)] 27 (0, 0))) := by rw [hW9]; exact heap_new z15 _
  have L_z15_75 : Hid (z15.heap.size < Wz15.heap.size) := by rw [hW9, World.size_alloc]; exact Nat.lt_succ_self _
  clear hW9 hba
  go_upto_region 20 with fail
  rw [← HWz15.out]
  obtain ⟨p0, p1, p2, p3, p4⟩ := box_cells PN_74.out
  have q0 := rcell PT_73.out 0 (.int .i64 k) rfl
  have q1 := rcell PT_73.out 1 (.int .i64 n) rfl
  have q2 := rcell PT_73.out 2 (.int .i64 mo) rfl
  have LD9 : Hid (z1.heap.size < Wz15.heap.size) := L_z1_73.out
  have LN9 : Hid (z15.heap.size < Wz15.heap.size) := L_z15_75.out
  go_wp2_with fail
  refine (RD2.out _ _ _ Wz15 Nn_73.out.stm).mono ?_
  rintro e z16 ⟨vi9, vq9, vf9, rfl, ho9, hb9⟩
  obtain ⟨i1, ic1, i2, ic2, i3, ic3, rfl, rfl, rfl⟩ := ho9.stm.form
  clear p0 p1 p2 p3 p4 q0 q1 q2
  have hsz9 := hb9.size
  have hb := hb9
  have BW_76 : Hid (Below w.heap.size w z16) := below_trans BW_73.out hb
  have PT_76 : Hid (z16.heap[w.heap.size + 1]? = some (.cells #[.int .i64 k, .int .i64 n, .int .i64 mo] 38 (0, 0))) := (hb.block _ (lt_of_heap PT_73.out)).trans PT_73.out
  have PX_76 : Hid (z16.heap[w2.heap.size]? = some (.cells #[.slice (some ⟨g1, 0, none⟩) s.ind.length k1, .int .i64 s.pen, .slice (some ⟨g2, 0, none⟩) s.que.length k2, .slice (some ⟨g3, 0, none⟩) s.frm.length k3, .int .u16 (s.flg : Int)] 27 (0, 0))) := (hb.block _ (lt_of_heap PX_73.out)).trans PX_73.out
  have L_w2_76 : Hid (w2.heap.size < z16.heap.size) := Nat.lt_of_lt_of_le L_w2_73.out hb.size
  have QD_76 : Hid (z16.heap[z1.heap.size]? = some (.cells #[.slice d1 t.ind.length dc1, .int .i64 t.pen, .slice d2 t.que.length dc2, .slice d3 t.frm.length dc3, .int .u16 (t.flg : Int)] 27 (0, 0))) := (hb.block _ (lt_of_heap QD_73.out)).trans QD_73.out
  have L_z1_76 : Hid (z1.heap.size < z16.heap.size) := Nat.lt_of_lt_of_le L_z1_73.out hb.size
  have L_z2_76 : Hid (z2.heap.size < z16.heap.size) := Nat.lt_of_lt_of_le L_z2_73.out hb.size
  have L_z3_76 : Hid (z3.heap.size < z16.heap.size) := Nat.lt_of_lt_of_le L_z3_73.out hb.size
  have L_z9_76 : Hid (z9.heap.size < z16.heap.size) := Nat.lt_of_lt_of_le L_z9_73.out hb.size
  have PC_76 : Hid (z16.heap[z11.heap.size]? = some (.cells #[.slice f1 t.ind.length fc1, .int .i64 t.pen, .slice f2 t.que.length fc2, .slice f3 t.frm.length fc3, .int .u16 (t.flg : Int)] 27 (0, 0))) := (hb.block _ (lt_of_heap PC_73.out)).trans PC_73.out
  have L_z11_76 : Hid (z11.heap.size < z16.heap.size) := Nat.lt_of_lt_of_le L_z11_73.out hb.size
  have Xr_76 : Hid (Rmy W1.heap.size z16 (.slice (some ⟨g1, 0, none⟩) s.ind.length k1) (.slice (some ⟨g2, 0, none⟩) s.que.length k2) (.slice (some ⟨g3, 0, none⟩) s.frm.length k3) r) := Xr_73.out.up hb
  have Nn_76 : Hid (Own z14.heap.size z16 (.slice n1 r.ind.length nc1) (.slice n2 r.que.length nc2) (.slice n3 r.frm.length nc3) r) := Nn_73.out.up hb
  have PN_76 : Hid (z16.heap[z15.heap.size]? = some (.cells #[.slice n1 r.ind.length nc1, .int .i64 s.pen, .slice n2 r.que.length nc2, .slice n3 r.frm.length nc3, .int .u16 (s.flg : Int)] 27 (0, 0))) := (hb.block _ (lt_of_heap PN_74.out)).trans PN_74.out
  have L_z15_76 : Hid (z15.heap.size < z16.heap.size) := Nat.lt_of_lt_of_le L_z15_75.out hb.size
  clear hb BW_73 PT_73 PX_73 L_w2_73 QD_73 L_z1_73 L_z2_73 L_z3_73 L_z9_73 PC_73 L_z11_73 Xr_73 Nn_73 PN_74 L_z15_75
  obtain ⟨Wz16, hW9⟩ : ∃ Wz16, Wz16 = ((((z16.setCell ⟨z1.heap.size, 0, none⟩ (.slice i1 u.ind.length ic1)).setCell ⟨z1.heap.size, 1, none⟩ (.int .i64 u.pen)).setCell ⟨z1.heap.size, 2, none⟩ (.slice i2 u.que.length ic2)).setCell ⟨z1.heap.size, 3, none⟩ (.slice i3 u.frm.length ic3)).setCell ⟨z1.heap.size, 4, none⟩ (.int .u16 (u.flg : Int)) := ⟨_, rfl⟩
  have HWz16 : Hid (Wz16 = ((((z16.setCell ⟨z1.heap.size, 0, none⟩ (.slice i1 u.ind.length ic1)).setCell ⟨z1.heap.size, 1, none⟩ (.int .i64 u.pen)).setCell ⟨z1.heap.size, 2, none⟩ (.slice i2 u.que.length ic2)).setCell ⟨z1.heap.size, 3, none⟩ (.slice i3 u.frm.length ic3)).setCell ⟨z1.heap.size, 4, none⟩ (.int .u16 (u.flg : Int))) := hW9
  obtain ⟨c0, c1, c2, c3, c4⟩ := box_cells QD_76.out
  have fz : ∀ q, z16.frozen? ⟨z1.heap.size, q, none⟩ = false := Lib.frozen_of_heap QD_76.out
  go_upto_region 21 with fail
  rw [← HWz16.out]
  clear c0 c1 c2 c3 c4
  clear fz
  have HBX9 : Hid (z16.heap[z1.heap.size]? = some (.cells #[.slice d1 t.ind.length dc1, .int .i64 t.pen, .slice d2 t.que.length dc2, .slice d3 t.frm.length dc3, .int .u16 (t.flg : Int)] 27 (0, 0))) := QD_76.out
  have BW_77 : Hid (Below w.heap.size w Wz16) := by rw [hW9]; exact bel_five BW_76.out (by have := SW1.out; have := B12.out; have := OL_w2_z1.out; omega)
  clear BW_76
  have PT_78 : Hid (Wz16.heap[w.heap.size + 1]? = some (.cells #[.int .i64 k, .int .i64 n, .int .i64 mo] 38 (0, 0))) := by rw [hW9]; exact (five_far (by have := OL_w2_z1.out; have := B12.out; have := SW1.out; omega)).trans PT_76.out
  clear PT_76
  have PX_79 : Hid (Wz16.heap[w2.heap.size]? = some (.cells #[.slice (some ⟨g1, 0, none⟩) s.ind.length k1, .int .i64 s.pen, .slice (some ⟨g2, 0, none⟩) s.que.length k2, .slice (some ⟨g3, 0, none⟩) s.frm.length k3, .int .u16 (s.flg : Int)] 27 (0, 0))) := by rw [hW9]; exact (five_far (by have := OL_w2_z1.out; omega)).trans PX_76.out
  clear PX_76
  have L_w2_80 : Hid (w2.heap.size < Wz16.heap.size) := by show _ < Wz16.heap.size; rw [hW9]; simp only [World.size_setCell]; exact L_w2_76.out
  clear L_w2_76
  have QD_81 : Hid (Wz16.heap[z1.heap.size]? = some (.cells #[.slice i1 u.ind.length ic1, .int .i64 u.pen, .slice i2 u.que.length ic2, .slice i3 u.frm.length ic3, .int .u16 (u.flg : Int)] 27 (0, 0))) := by rw [hW9]; exact five_blk HBX9.out
  clear QD_76
  have L_z1_82 : Hid (z1.heap.size < Wz16.heap.size) := by show _ < Wz16.heap.size; rw [hW9]; simp only [World.size_setCell]; exact L_z1_76.out
  clear L_z1_76
  have L_z2_83 : Hid (z2.heap.size < Wz16.heap.size) := by show _ < Wz16.heap.size; rw [hW9]; simp only [World.size_setCell]; exact L_z2_76.out
  clear L_z2_76
  have L_z3_84 : Hid (z3.heap.size < Wz16.heap.size) := by show _ < Wz16.heap.size; rw [hW9]; simp only [World.size_setCell]; exact L_z3_76.out
  clear L_z3_76
  have L_z9_85 : Hid (z9.heap.size < Wz16.heap.size) := by show _ < Wz16.heap.size; rw [hW9]; simp only [World.size_setCell]; exact L_z9_76.out
  clear L_z9_76
  have PC_86 : Hid (Wz16.heap[z11.heap.size]? = some (.cells #[.slice f1 t.ind.length fc1, .int .i64 t.pen, .slice f2 t.que.length fc2, .slice f3 t.frm.length fc3, .int .u16 (t.flg : Int)] 27 (0, 0))) := by rw [hW9]; exact (five_far (by have := OL_z1_z11.out; omega)).trans PC_76.out
  clear PC_76
  have L_z11_87 : Hid (z11.heap.size < Wz16.heap.size) := by show _ < Wz16.heap.size; rw [hW9]; simp only [World.size_setCell]; exact L_z11_76.out
  clear L_z11_76
  have Xr_88 : Hid (Rmy W1.heap.size Wz16 (.slice (some ⟨g1, 0, none⟩) s.ind.length k1) (.slice (some ⟨g2, 0, none⟩) s.que.length k2) (.slice (some ⟨g3, 0, none⟩) s.frm.length k3) r) := by rw [hW9]; exact rmy_five HBX9.out Xr_76.out
  clear Xr_76
  have Nn_89 : Hid (Own z14.heap.size Wz16 (.slice n1 r.ind.length nc1) (.slice n2 r.que.length nc2) (.slice n3 r.frm.length nc3) r) := by rw [hW9]; exact own_five Nn_76.out HBX9.out
  clear Nn_76
  have PN_90 : Hid (Wz16.heap[z15.heap.size]? = some (.cells #[.slice n1 r.ind.length nc1, .int .i64 s.pen, .slice n2 r.que.length nc2, .slice n3 r.frm.length nc3, .int .u16 (s.flg : Int)] 27 (0, 0))) := by rw [hW9]; exact (five_far (by have := OL_z1_z15.out; omega)).trans PN_76.out
  clear PN_76
  have L_z15_91 : Hid (z15.heap.size < Wz16.heap.size) := by show _ < Wz16.heap.size; rw [hW9]; simp only [World.size_setCell]; exact L_z15_76.out
  clear L_z15_76
  have Dd_92 : Hid (Stl Wz15.heap.size Wz16 (.slice i1 u.ind.length ic1) (.slice i2 u.que.length ic2) (.slice i3 u.frm.length ic3) u) := by rw [hW9]; exact ho9.kab (kab_five (by have := LD9.out; omega))
  clear hW9 HBX9 ho9 hb9 hsz9
  obtain ⟨p0, p1, p2, p3, p4⟩ := box_cells PX_79.out
  have q0 := rcell PT_78.out 0 (.int .i64 k) rfl
  have q1 := rcell PT_78.out 1 (.int .i64 n) rfl
  have q2 := rcell PT_78.out 2 (.int .i64 mo) rfl
  have LC9 : Hid (z11.heap.size < Wz16.heap.size) := L_z11_87.out
  have LC8 : Hid (z11.heap.size < Wz15.heap.size) := by have h1 := OL_z11_z15.out; have h2 := LN9.out; show _ < _; omega
  go_wp2_with fail
  refine (PD2.out _ _ _ Wz16 Xr_88.out.stm).mono ?_
  rintro e z17 ⟨vi9, vq9, vf9, rfl, ho9, hb9⟩
  obtain ⟨j1, jc1, j2, jc2, j3, jc3, rfl, rfl, rfl⟩ := ho9.stm.form
  clear p0 p1 p2 p3 p4 q0 q1 q2
  have hsz9 := hb9.size
  have hb := hb9
  have BW_93 : Hid (Below w.heap.size w z17) := below_trans BW_77.out hb
  have PT_93 : Hid (z17.heap[w.heap.size + 1]? = some (.cells #[.int .i64 k, .int .i64 n, .int .i64 mo] 38 (0, 0))) := (hb.block _ (lt_of_heap PT_78.out)).trans PT_78.out
  have PX_93 : Hid (z17.heap[w2.heap.size]? = some (.cells #[.slice (some ⟨g1, 0, none⟩) s.ind.length k1, .int .i64 s.pen, .slice (some ⟨g2, 0, none⟩) s.que.length k2, .slice (some ⟨g3, 0, none⟩) s.frm.length k3, .int .u16 (s.flg : Int)] 27 (0, 0))) := (hb.block _ (lt_of_heap PX_79.out)).trans PX_79.out
  have L_w2_93 : Hid (w2.heap.size < z17.heap.size) := Nat.lt_of_lt_of_le L_w2_80.out hb.size
  have QD_93 : Hid (z17.heap[z1.heap.size]? = some (.cells #[.slice i1 u.ind.length ic1, .int .i64 u.pen, .slice i2 u.que.length ic2, .slice i3 u.frm.length ic3, .int .u16 (u.flg : Int)] 27 (0, 0))) := (hb.block _ (lt_of_heap QD_81.out)).trans QD_81.out
  have L_z1_93 : Hid (z1.heap.size < z17.heap.size) := Nat.lt_of_lt_of_le L_z1_82.out hb.size
  have L_z2_93 : Hid (z2.heap.size < z17.heap.size) := Nat.lt_of_lt_of_le L_z2_83.out hb.size
  have L_z3_93 : Hid (z3.heap.size < z17.heap.size) := Nat.lt_of_lt_of_le L_z3_84.out hb.size
  have L_z9_93 : Hid (z9.heap.size < z17.heap.size) := Nat.lt_of_lt_of_le L_z9_85.out hb.size
  have PC_93 : Hid (z17.heap[z11.heap.size]? = some (.cells #[.slice f1 t.ind.length fc1, .int .i64 t.pen, .slice f2 t.que.length fc2, .slice f3 t.frm.length fc3, .int .u16 (t.flg : Int)] 27 (0, 0))) := (hb.block _ (lt_of_heap PC_86.out)).trans PC_86.out
  have L_z11_93 : Hid (z11.heap.size < z17.heap.size) := Nat.lt_of_lt_of_le L_z11_87.out hb.size
  have Xr_93 : Hid (Rmy W1.heap.size z17 (.slice (some ⟨g1, 0, none⟩) s.ind.length k1) (.slice (some ⟨g2, 0, none⟩) s.que.length k2) (.slice (some ⟨g3, 0, none⟩) s.frm.length k3) r) := Xr_88.out.up hb
  have Nn_93 : Hid (Own z14.heap.size z17 (.slice n1 r.ind.length nc1) (.slice n2 r.que.length nc2) (.slice n3 r.frm.length nc3) r) := Nn_89.out.up hb
  have PN_93 : Hid (z17.heap[z15.heap.size]? = some (.cells #[.slice n1 r.ind.length nc1, .int .i64 s.pen, .slice n2 r.que.length nc2, .slice n3 r.frm.length nc3, .int .u16 (s.flg : Int)] 27 (0, 0))) := (hb.block _ (lt_of_heap PN_90.out)).trans PN_90.out
  have L_z15_93 : Hid (z15.heap.size < z17.heap.size) := Nat.lt_of_lt_of_le L_z15_91.out hb.size
  have Dd_93 : Hid (Stl Wz15.heap.size z17 (.slice i1 u.ind.length ic1) (.slice i2 u.que.length ic2) (.slice i3 u.frm.length ic3) u) := Dd_92.out.up hb
  clear hb BW_77 PT_78 PX_79 L_w2_80 QD_81 L_z1_82 L_z2_83 L_z3_84 L_z9_85 PC_86 L_z11_87 Xr_88 Nn_89 PN_90 L_z15_91 Dd_92
  obtain ⟨Wz17, hW9⟩ : ∃ Wz17, Wz17 = ((((z17.setCell ⟨z11.heap.size, 0, none⟩ (.slice j1 u.ind.length jc1)).setCell ⟨z11.heap.size, 1, none⟩ (.int .i64 u.pen)).setCell ⟨z11.heap.size, 2, none⟩ (.slice j2 u.que.length jc2)).setCell ⟨z11.heap.size, 3, none⟩ (.slice j3 u.frm.length jc3)).setCell ⟨z11.heap.size, 4, none⟩ (.int .u16 (u.flg : Int)) := ⟨_, rfl⟩
  have HWz17 : Hid (Wz17 = ((((z17.setCell ⟨z11.heap.size, 0, none⟩ (.slice j1 u.ind.length jc1)).setCell ⟨z11.heap.size, 1, none⟩ (.int .i64 u.pen)).setCell ⟨z11.heap.size, 2, none⟩ (.slice j2 u.que.length jc2)).setCell ⟨z11.heap.size, 3, none⟩ (.slice j3 u.frm.length jc3)).setCell ⟨z11.heap.size, 4, none⟩ (.int .u16 (u.flg : Int))) := hW9
  obtain ⟨c0, c1, c2, c3, c4⟩ := box_cells PC_93.out
  have fz : ∀ q, z17.frozen? ⟨z11.heap.size, q, none⟩ = false := Lib.frozen_of_heap PC_93.out
  go_upto_region 22 with fail
  rw [← HWz17.out]
  clear c0 c1 c2 c3 c4
  clear fz
  have HBX9 : Hid (z17.heap[z11.heap.size]? = some (.cells #[.slice f1 t.ind.length fc1, .int .i64 t.pen, .slice f2 t.que.length fc2, .slice f3 t.frm.length fc3, .int .u16 (t.flg : Int)] 27 (0, 0))) := PC_93.out
  have BW_94 : Hid (Below w.heap.size w Wz17) := by rw [hW9]; exact bel_five BW_93.out (by have := SW1.out; have := B12.out; have := OL_w2_z11.out; omega)
  clear BW_93
  have PT_95 : Hid (Wz17.heap[w.heap.size + 1]? = some (.cells #[.int .i64 k, .int .i64 n, .int .i64 mo] 38 (0, 0))) := by rw [hW9]; exact (five_far (by have := OL_w2_z11.out; have := B12.out; have := SW1.out; omega)).trans PT_93.out
  clear PT_93
  have PX_96 : Hid (Wz17.heap[w2.heap.size]? = some (.cells #[.slice (some ⟨g1, 0, none⟩) s.ind.length k1, .int .i64 s.pen, .slice (some ⟨g2, 0, none⟩) s.que.length k2, .slice (some ⟨g3, 0, none⟩) s.frm.length k3, .int .u16 (s.flg : Int)] 27 (0, 0))) := by rw [hW9]; exact (five_far (by have := OL_w2_z11.out; omega)).trans PX_93.out
  clear PX_93
  have L_w2_97 : Hid (w2.heap.size < Wz17.heap.size) := by show _ < Wz17.heap.size; rw [hW9]; simp only [World.size_setCell]; exact L_w2_93.out
  clear L_w2_93
  have QD_98 : Hid (Wz17.heap[z1.heap.size]? = some (.cells #[.slice i1 u.ind.length ic1, .int .i64 u.pen, .slice i2 u.que.length ic2, .slice i3 u.frm.length ic3, .int .u16 (u.flg : Int)] 27 (0, 0))) := by rw [hW9]; exact (five_far (by have := OL_z1_z11.out; omega)).trans QD_93.out
  clear QD_93
  have L_z1_99 : Hid (z1.heap.size < Wz17.heap.size) := by show _ < Wz17.heap.size; rw [hW9]; simp only [World.size_setCell]; exact L_z1_93.out
  clear L_z1_93
  have L_z2_100 : Hid (z2.heap.size < Wz17.heap.size) := by show _ < Wz17.heap.size; rw [hW9]; simp only [World.size_setCell]; exact L_z2_93.out
  clear L_z2_93
  have L_z3_101 : Hid (z3.heap.size < Wz17.heap.size) := by show _ < Wz17.heap.size; rw [hW9]; simp only [World.size_setCell]; exact L_z3_93.out
  clear L_z3_93
  have L_z9_102 : Hid (z9.heap.size < Wz17.heap.size) := by show _ < Wz17.heap.size; rw [hW9]; simp only [World.size_setCell]; exact L_z9_93.out
  clear L_z9_93
  have PC_103 : Hid (Wz17.heap[z11.heap.size]? = some (.cells #[.slice j1 u.ind.length jc1, .int .i64 u.pen, .slice j2 u.que.length jc2, .slice j3 u.frm.length jc3, .int .u16 (u.flg : Int)] 27 (0, 0))) := by rw [hW9]; exact five_blk HBX9.out
  clear PC_93
  have L_z11_104 : Hid (z11.heap.size < Wz17.heap.size) := by show _ < Wz17.heap.size; rw [hW9]; simp only [World.size_setCell]; exact L_z11_93.out
  clear L_z11_93
  have Xr_105 : Hid (Rmy W1.heap.size Wz17 (.slice (some ⟨g1, 0, none⟩) s.ind.length k1) (.slice (some ⟨g2, 0, none⟩) s.que.length k2) (.slice (some ⟨g3, 0, none⟩) s.frm.length k3) r) := by rw [hW9]; exact rmy_five HBX9.out Xr_93.out
  clear Xr_93
  have Nn_106 : Hid (Own z14.heap.size Wz17 (.slice n1 r.ind.length nc1) (.slice n2 r.que.length nc2) (.slice n3 r.frm.length nc3) r) := by rw [hW9]; exact own_five Nn_93.out HBX9.out
  clear Nn_93
  have PN_107 : Hid (Wz17.heap[z15.heap.size]? = some (.cells #[.slice n1 r.ind.length nc1, .int .i64 s.pen, .slice n2 r.que.length nc2, .slice n3 r.frm.length nc3, .int .u16 (s.flg : Int)] 27 (0, 0))) := by rw [hW9]; exact (five_far (by have := OL_z11_z15.out; omega)).trans PN_93.out
  clear PN_93
  have L_z15_108 : Hid (z15.heap.size < Wz17.heap.size) := by show _ < Wz17.heap.size; rw [hW9]; simp only [World.size_setCell]; exact L_z15_93.out
  clear L_z15_93
  have Dd_109 : Hid (Stl Wz15.heap.size Wz17 (.slice i1 u.ind.length ic1) (.slice i2 u.que.length ic2) (.slice i3 u.frm.length ic3) u) := by rw [hW9]; exact Dd_93.out.kab (kab_five (by have := LC8.out; omega))
  clear Dd_93
  have Cc_110 : Hid (Own Wz16.heap.size Wz17 (.slice j1 u.ind.length jc1) (.slice j2 u.que.length jc2) (.slice j3 u.frm.length jc3) u) := by rw [hW9]; exact own_five ho9 HBX9.out
  clear hW9 HBX9 ho9 hb9 hsz9
  obtain ⟨p0, p1, p2, p3, p4⟩ := box_cells PC_103.out
  obtain ⟨q0, q1, q2, q3, q4⟩ := box_cells QD_98.out
  go_wp2_with fail
  refine (rsame_as Wz17 Cc_110.out.stm Dd_109.out.stm rfl rfl (by have := HUL.out; omega) (by have := HUL.out; omega) (by have := HUL.out; omega)).mono ?_
  rintro e z18 ⟨rfl, hb9⟩
  clear p0 p1 p2 p3 p4 q0 q1 q2 q3 q4
  have hb := hb9
  have BW_111 : Hid (Below w.heap.size w z18) := below_trans BW_94.out hb
  have PT_111 : Hid (z18.heap[w.heap.size + 1]? = some (.cells #[.int .i64 k, .int .i64 n, .int .i64 mo] 38 (0, 0))) := (hb.block _ (lt_of_heap PT_95.out)).trans PT_95.out
  have PX_111 : Hid (z18.heap[w2.heap.size]? = some (.cells #[.slice (some ⟨g1, 0, none⟩) s.ind.length k1, .int .i64 s.pen, .slice (some ⟨g2, 0, none⟩) s.que.length k2, .slice (some ⟨g3, 0, none⟩) s.frm.length k3, .int .u16 (s.flg : Int)] 27 (0, 0))) := (hb.block _ (lt_of_heap PX_96.out)).trans PX_96.out
  have L_w2_111 : Hid (w2.heap.size < z18.heap.size) := Nat.lt_of_lt_of_le L_w2_97.out hb.size
  have QD_111 : Hid (z18.heap[z1.heap.size]? = some (.cells #[.slice i1 u.ind.length ic1, .int .i64 u.pen, .slice i2 u.que.length ic2, .slice i3 u.frm.length ic3, .int .u16 (u.flg : Int)] 27 (0, 0))) := (hb.block _ (lt_of_heap QD_98.out)).trans QD_98.out
  have L_z1_111 : Hid (z1.heap.size < z18.heap.size) := Nat.lt_of_lt_of_le L_z1_99.out hb.size
  have L_z2_111 : Hid (z2.heap.size < z18.heap.size) := Nat.lt_of_lt_of_le L_z2_100.out hb.size
  have L_z3_111 : Hid (z3.heap.size < z18.heap.size) := Nat.lt_of_lt_of_le L_z3_101.out hb.size
  have L_z9_111 : Hid (z9.heap.size < z18.heap.size) := Nat.lt_of_lt_of_le L_z9_102.out hb.size
  have PC_111 : Hid (z18.heap[z11.heap.size]? = some (.cells #[.slice j1 u.ind.length jc1, .int .i64 u.pen, .slice j2 u.que.length jc2, .slice j3 u.frm.length jc3, .int .u16 (u.flg : Int)] 27 (0, 0))) := (hb.block _ (lt_of_heap PC_103.out)).trans PC_103.out
  have L_z11_111 : Hid (z11.heap.size < z18.heap.size) := Nat.lt_of_lt_of_le L_z11_104.out hb.size
  have Xr_111 : Hid (Rmy W1.heap.size z18 (.slice (some ⟨g1, 0, none⟩) s.ind.length k1) (.slice (some ⟨g2, 0, none⟩) s.que.length k2) (.slice (some ⟨g3, 0, none⟩) s.frm.length k3) r) := Xr_105.out.up hb
  have Nn_111 : Hid (Own z14.heap.size z18 (.slice n1 r.ind.length nc1) (.slice n2 r.que.length nc2) (.slice n3 r.frm.length nc3) r) := Nn_106.out.up hb
  have PN_111 : Hid (z18.heap[z15.heap.size]? = some (.cells #[.slice n1 r.ind.length nc1, .int .i64 s.pen, .slice n2 r.que.length nc2, .slice n3 r.frm.length nc3, .int .u16 (s.flg : Int)] 27 (0, 0))) := (hb.block _ (lt_of_heap PN_107.out)).trans PN_107.out
  have L_z15_111 : Hid (z15.heap.size < z18.heap.size) := Nat.lt_of_lt_of_le L_z15_108.out hb.size
  have Dd_111 : Hid (Stl Wz15.heap.size z18 (.slice i1 u.ind.length ic1) (.slice i2 u.que.length ic2) (.slice i3 u.frm.length ic3) u) := Dd_109.out.up hb
  have Cc_111 : Hid (Own Wz16.heap.size z18 (.slice j1 u.ind.length jc1) (.slice j2 u.que.length jc2) (.slice j3 u.frm.length jc3) u) := Cc_110.out.up hb
  clear hb BW_94 PT_95 PX_96 L_w2_97 QD_98 L_z1_99 L_z2_100 L_z3_101 L_z9_102 PC_103 L_z11_104 Xr_105 Nn_106 PN_107 L_z15_108 Dd_109 Cc_110
  clear hb9
  obtain ⟨p0, p1, p2, p3, p4⟩ := box_cells PX_111.out
  obtain ⟨q0, q1, q2, q3, q4⟩ := box_cells PN_111.out
  go_wp2_with fail
  refine (rsame_as z18 Xr_111.out.stm Nn_111.out.stm HQ.out.2.2.2.1 HQ.out.2.2.2.2.1 (by have := ZS.out.i; have := HQ.out.1; omega) (by have := ZS.out.q; have := HQ.out.2.1; omega) (by have := ZS.out.f; have := HQ.out.2.2.1; omega)).mono ?_
  rintro e z19 ⟨rfl, hb9⟩
  clear p0 p1 p2 p3 p4 q0 q1 q2 q3 q4
  have hb := hb9
  have BW_112 : Hid (Below w.heap.size w z19) := below_trans BW_111.out hb
  have PT_112 : Hid (z19.heap[w.heap.size + 1]? = some (.cells #[.int .i64 k, .int .i64 n, .int .i64 mo] 38 (0, 0))) := (hb.block _ (lt_of_heap PT_111.out)).trans PT_111.out
  have PX_112 : Hid (z19.heap[w2.heap.size]? = some (.cells #[.slice (some ⟨g1, 0, none⟩) s.ind.length k1, .int .i64 s.pen, .slice (some ⟨g2, 0, none⟩) s.que.length k2, .slice (some ⟨g3, 0, none⟩) s.frm.length k3, .int .u16 (s.flg : Int)] 27 (0, 0))) := (hb.block _ (lt_of_heap PX_111.out)).trans PX_111.out
  have L_w2_112 : Hid (w2.heap.size < z19.heap.size) := Nat.lt_of_lt_of_le L_w2_111.out hb.size
  have QD_112 : Hid (z19.heap[z1.heap.size]? = some (.cells #[.slice i1 u.ind.length ic1, .int .i64 u.pen, .slice i2 u.que.length ic2, .slice i3 u.frm.length ic3, .int .u16 (u.flg : Int)] 27 (0, 0))) := (hb.block _ (lt_of_heap QD_111.out)).trans QD_111.out
  have L_z1_112 : Hid (z1.heap.size < z19.heap.size) := Nat.lt_of_lt_of_le L_z1_111.out hb.size
  have L_z2_112 : Hid (z2.heap.size < z19.heap.size) := Nat.lt_of_lt_of_le L_z2_111.out hb.size
  have L_z3_112 : Hid (z3.heap.size < z19.heap.size) := Nat.lt_of_lt_of_le L_z3_111.out hb.size
  have L_z9_112 : Hid (z9.heap.size < z19.heap.size) := Nat.lt_of_lt_of_le L_z9_111.out hb.size
  have PC_112 : Hid (z19.heap[z11.heap.size]? = some (.cells #[.slice j1 u.ind.length jc1, .int .i64 u.pen, .slice j2 u.que.length jc2, .slice j3 u.frm.length jc3, .int .u16 (u.flg : Int)] 27 (0, 0))) := (hb.block _ (lt_of_heap PC_111.out)).trans PC_111.out
  have L_z11_112 : Hid (z11.heap.size < z19.heap.size) := Nat.lt_of_lt_of_le L_z11_111.out hb.size
  have Xr_112 : Hid (Rmy W1.heap.size z19 (.slice (some ⟨g1, 0, none⟩) s.ind.length k1) (.slice (some ⟨g2, 0, none⟩) s.que.length k2) (.slice (some ⟨g3, 0, none⟩) s.frm.length k3) r) := Xr_111.out.up hb
  have Nn_112 : Hid (Own z14.heap.size z19 (.slice n1 r.ind.length nc1) (.slice n2 r.que.length nc2) (.slice n3 r.frm.length nc3) r) := Nn_111.out.up hb
  have PN_112 : Hid (z19.heap[z15.heap.size]? = some (.cells #[.slice n1 r.ind.length nc1, .int .i64 s.pen, .slice n2 r.que.length nc2, .slice n3 r.frm.length nc3, .int .u16 (s.flg : Int)] 27 (0, 0))) := (hb.block _ (lt_of_heap PN_111.out)).trans PN_111.out
  have L_z15_112 : Hid (z15.heap.size < z19.heap.size) := Nat.lt_of_lt_of_le L_z15_111.out hb.size
  have Dd_112 : Hid (Stl Wz15.heap.size z19 (.slice i1 u.ind.length ic1) (.slice i2 u.que.length ic2) (.slice i3 u.frm.length ic3) u) := Dd_111.out.up hb
  have Cc_112 : Hid (Own Wz16.heap.size z19 (.slice j1 u.ind.length jc1) (.slice j2 u.que.length jc2) (.slice j3 u.frm.length jc3) u) := Cc_111.out.up hb
  clear hb BW_111 PT_111 PX_111 L_w2_111 QD_111 L_z1_111 L_z2_111 L_z3_111 L_z9_111 PC_111 L_z11_111 Xr_111 Nn_111 PN_111 L_z15_111 Dd_111 Cc_111
  clear hb9
  obtain ⟨p0, p1, p2, p3, p4⟩ := box_cells PX_112.out
  go_wp2_with fail
  refine (rooms_as z19 Xr_112.out HQ.out.2.2.2.1 HQ.out.2.2.2.2.1 (by have := ZS.out.i; have := HQ.out.1; omega) (by have := ZS.out.q; have := HQ.out.2.1; omega) (by have := ZS.out.f; have := HQ.out.2.2.1; omega)).mono ?_
  rintro e z20 ⟨rfl, hb9⟩
  clear p0 p1 p2 p3 p4
  have hb := hb9
  have BW_113 : Hid (Below w.heap.size w z20) := below_trans BW_112.out hb
  have PT_113 : Hid (z20.heap[w.heap.size + 1]? = some (.cells #[.int .i64 k, .int .i64 n, .int .i64 mo] 38 (0, 0))) := (hb.block _ (lt_of_heap PT_112.out)).trans PT_112.out
  have PX_113 : Hid (z20.heap[w2.heap.size]? = some (.cells #[.slice (some ⟨g1, 0, none⟩) s.ind.length k1, .int .i64 s.pen, .slice (some ⟨g2, 0, none⟩) s.que.length k2, .slice (some ⟨g3, 0, none⟩) s.frm.length k3, .int .u16 (s.flg : Int)] 27 (0, 0))) := (hb.block _ (lt_of_heap PX_112.out)).trans PX_112.out
  have L_w2_113 : Hid (w2.heap.size < z20.heap.size) := Nat.lt_of_lt_of_le L_w2_112.out hb.size
  have QD_113 : Hid (z20.heap[z1.heap.size]? = some (.cells #[.slice i1 u.ind.length ic1, .int .i64 u.pen, .slice i2 u.que.length ic2, .slice i3 u.frm.length ic3, .int .u16 (u.flg : Int)] 27 (0, 0))) := (hb.block _ (lt_of_heap QD_112.out)).trans QD_112.out
  have L_z1_113 : Hid (z1.heap.size < z20.heap.size) := Nat.lt_of_lt_of_le L_z1_112.out hb.size
  have L_z2_113 : Hid (z2.heap.size < z20.heap.size) := Nat.lt_of_lt_of_le L_z2_112.out hb.size
  have L_z3_113 : Hid (z3.heap.size < z20.heap.size) := Nat.lt_of_lt_of_le L_z3_112.out hb.size
  have L_z9_113 : Hid (z9.heap.size < z20.heap.size) := Nat.lt_of_lt_of_le L_z9_112.out hb.size
  have PC_113 : Hid (z20.heap[z11.heap.size]? = some (.cells #[.slice j1 u.ind.length jc1, .int .i64 u.pen, .slice j2 u.que.length jc2, .slice j3 u.frm.length jc3, .int .u16 (u.flg : Int)] 27 (0, 0))) := (hb.block _ (lt_of_heap PC_112.out)).trans PC_112.out
  have L_z11_113 : Hid (z11.heap.size < z20.heap.size) := Nat.lt_of_lt_of_le L_z11_112.out hb.size
  have Xr_113 : Hid (Rmy W1.heap.size z20 (.slice (some ⟨g1, 0, none⟩) s.ind.length k1) (.slice (some ⟨g2, 0, none⟩) s.que.length k2) (.slice (some ⟨g3, 0, none⟩) s.frm.length k3) r) := Xr_112.out.up hb
  have Nn_113 : Hid (Own z14.heap.size z20 (.slice n1 r.ind.length nc1) (.slice n2 r.que.length nc2) (.slice n3 r.frm.length nc3) r) := Nn_112.out.up hb
  have PN_113 : Hid (z20.heap[z15.heap.size]? = some (.cells #[.slice n1 r.ind.length nc1, .int .i64 s.pen, .slice n2 r.que.length nc2, .slice n3 r.frm.length nc3, .int .u16 (s.flg : Int)] 27 (0, 0))) := (hb.block _ (lt_of_heap PN_112.out)).trans PN_112.out
  have L_z15_113 : Hid (z15.heap.size < z20.heap.size) := Nat.lt_of_lt_of_le L_z15_112.out hb.size
  have Dd_113 : Hid (Stl Wz15.heap.size z20 (.slice i1 u.ind.length ic1) (.slice i2 u.que.length ic2) (.slice i3 u.frm.length ic3) u) := Dd_112.out.up hb
  have Cc_113 : Hid (Own Wz16.heap.size z20 (.slice j1 u.ind.length jc1) (.slice j2 u.que.length jc2) (.slice j3 u.frm.length jc3) u) := Cc_112.out.up hb
  clear hb BW_112 PT_112 PX_112 L_w2_112 QD_112 L_z1_112 L_z2_112 L_z3_112 L_z9_112 PC_112 L_z11_112 Xr_112 Nn_112 PN_112 L_z15_112 Dd_112 Cc_112
  clear hb9
  go_wp2_with fail
  go_ret
  exact ⟨rfl, BW_113.out⟩
end Go.Proofs.Ytkaciochlemjiab
