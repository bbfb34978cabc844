import Derived.Test.YtkaciochlemjiabFrs
namespace Go.Proofs.Ytkaciochlemjiab
open Go.RowKit Go.Maps

theorem info38 : (Try.prog.info? 38).map (fun i => (i.zero, i.size, i.bytes)) = some (some (.agg #[.int .i64 0, .int .i64 0, .int .i64 0]), 3, 24) := by kernel_rfl
theorem aC_one (l : List (Int × Int × Int)) : ∀ u ∈ aC l, u.oneCell' = true := by
  induction l with
  | nil => intro u hu; cases hu
  | cons m l ih =>
    intro u hu
    rcases List.mem_append.1 hu with h | h
    · simp at h
      rcases h with rfl | rfl | rfl <;> rfl
    · exact ih u h
theorem alls_both {s : Stt} {l : List (Int × Int × Int)} (m : ByteArray) (hf : s.flg < 65536) (hq : ∀ d ∈ s.que, d.size ≤ 9223372036854775807) (hl : l.length ≤ 4611686018427387904) (hm : m.size ≤ 140737488355328) : ∃ (t : Stt) (E : Int), (t.ind.length ≤ 32 ∧ t.que.length ≤ 8 ∧ t.frm.length ≤ 16) ∧
    (∀ vi vq vf va W, Stm W vi vq vf s → Rw W va l.length (aC l) → Calls Try.prog 7 #[sv vi vq vf s, va, .string m] W fun e w' => ∃ ui uq uf, e = .returned (.tuple #[sv ui uq uf t, .int .i64 E]) ∧ Stl W.heap.size w' ui uq uf t ∧ Below W.heap.size W w') ∧
    (∀ vi vq vf va W, Stm W vi vq vf s → Rw W va l.length (aC l) → Calls Try.prog 6 #[sv vi vq vf s, va, .string m] W fun e w' => ∃ ui uq uf, e = .returned (.tuple #[sv ui uq uf t, .int .i64 E]) ∧ Own W.heap.size w' ui uq uf t ∧ Below W.heap.size W w') := by
  refine ⟨rsS (if s.shp then acts m s l else .error 65), rsE (if s.shp then acts m s l else .error 65), ?_, fun vi vq vf va W h ha => (rall_any m W h hf hq ha hl hm).mono fun e w' hh => ral_flat hh, fun vi vq vf va W h ha => (all_any m W h hf ha hl (by omega)).mono fun e w' hh => as_flat hh⟩
  cases hs : s.shp with
  | false => exact ⟨Nat.zero_le _, Nat.zero_le _, Nat.zero_le _⟩
  | true =>
    rw [if_pos rfl]
    cases ha : acts m s l with
    | ok t => exact shp_lim ((acts_ok m l s hs hf).1 t ha).1
    | error c => exact ⟨Nat.zero_le _, Nat.zero_le _, Nat.zero_le _⟩
set_option maxRecDepth 100000 in
set_option maxHeartbeats 16000000 in
theorem stateActs_any {vi vq vf va : Value} {s : Stt} {l : List (Int × Int × Int)} (m : ByteArray) (w : World) (h : Stm w vi vq vf s) (ha : Rw w va l.length (aC l)) (hf : s.flg < 65536) (hz : Sid s) (hl : l.length * 24 ≤ 140737488355328) (hm : m.size ≤ 140737488355328) :
    Calls Try.prog 3 #[sv vi vq vf s, va, .string m] w fun e w' => e = .returned (.bool true) ∧ Below w.heap.size w w' := by
  obtain ⟨a1, ac1, a2, ac2, a3, ac3, rfl, rfl, rfl⟩ := h.form
  obtain ⟨av_, cv_, hva⟩ : ∃ a c, va = .slice a l.length c := by obtain ⟨a, _, _, c, e, _⟩ := ha; exact ⟨a, c, e⟩
  subst hva
  obtain ⟨W1, hW1⟩ : ∃ W1, W1 = w.alloc (.cells #[.slice a1 s.ind.length ac1, .int .i64 s.pen, .slice a2 s.que.length ac2, .slice a3 s.frm.length ac3, .int .u16 (s.flg : Int)] 27) := ⟨_, rfl⟩
  have HW : Hid (W1 = w.alloc (.cells #[.slice a1 s.ind.length ac1, .int .i64 s.pen, .slice a2 s.que.length ac2, .slice a3 s.frm.length ac3, .int .u16 (s.flg : Int)] 27)) := hW1
  have BW_1 : Hid (Below w.heap.size w W1) := by rw [hW1]; exact bel_up _ _
  have PS_2 : Hid (W1.heap[w.heap.size]? = some (.cells #[.slice a1 s.ind.length ac1, .int .i64 s.pen, .slice a2 s.que.length ac2, .slice a3 s.frm.length ac3, .int .u16 (s.flg : Int)] 27 (0, 0))) := by rw [hW1]; exact heap_new w _
  have S_3 : Hid (Stm W1 (.slice a1 s.ind.length ac1) (.slice a2 s.que.length ac2) (.slice a3 s.frm.length ac3) s) := h.up BW_1.out
  have Ll_4 : Hid (Rw W1 (.slice av_ l.length cv_) l.length (aC l)) := ha.up BW_1.out
  have ZS : Hid (Sid s) := hz
  have HM : Hid (m.size ≤ 140737488355328 ∧ s.flg < 65536 ∧ l.length * 24 ≤ 140737488355328) := ⟨hm, hf, hl⟩
  obtain ⟨t, E, htl, hrd, hpd⟩ := alls_both (s := s) (l := l) m hf (fun d hd => by have := hz.t d hd; omega) (by omega) hm
  have HTL : Hid (t.ind.length ≤ 32 ∧ t.que.length ≤ 8 ∧ t.frm.length ≤ 16) := htl
  have RD : Hid (∀ vi vq vf va W, Stm W vi vq vf s → Rw W va l.length (aC l) → Calls Try.prog 7 #[sv vi vq vf s, va, .string m] W fun e w' => ∃ ui uq uf, e = .returned (.tuple #[sv ui uq uf t, .int .i64 E]) ∧ Stl W.heap.size w' ui uq uf t ∧ Below W.heap.size W w') := hrd
  have PD : Hid (∀ vi vq vf va W, Stm W vi vq vf s → Rw W va l.length (aC l) → Calls Try.prog 6 #[sv vi vq vf s, va, .string m] W fun e w' => ∃ ui uq uf, e = .returned (.tuple #[sv ui uq uf t, .int .i64 E]) ∧ Own W.heap.size w' ui uq uf t ∧ Below W.heap.size W w') := hpd
  have ne1 : (E != E) = false := by simp
  obtain ⟨i38, hi38, hy0, hy1, hy2⟩ := info_parts info38
  have HI : Hid (Try.prog.info? 38 = some i38 ∧ i38.zero = some (.agg #[.int .i64 0, .int .i64 0, .int .i64 0]) ∧ i38.size = 3 ∧ i38.bytes = 24) := ⟨hi38, hy0, hy1, hy2⟩
  clear h hz hf hm hl ha htl hrd hpd hW1 hi38 hy0 hy1 hy2
  go_enter Try.func3, Try.ntmps3
  go_upto_region 1 with fail
  rw [← HW.out]
  obtain ⟨p0, p1, p2, p3, p4⟩ := box_cells PS_2.out
  go_wp2_with fail
  refine (twin_any W1 S_3.out (by have := ZS.out.i; omega) (by have := ZS.out.q; omega) (by have := ZS.out.f; omega)).mono ?_
  rintro e z1 ⟨vi9, vq9, vf9, rfl, ho9, hb9⟩
  obtain ⟨x1, xc1, x2, xc2, x3, xc3, rfl, rfl, rfl⟩ := ho9.stm.form
  clear p0 p1 p2 p3 p4
  have hb := hb9
  have BW_5 : Hid (Below w.heap.size w z1) := below_trans BW_1.out hb
  have PS_5 : Hid (z1.heap[w.heap.size]? = some (.cells #[.slice a1 s.ind.length ac1, .int .i64 s.pen, .slice a2 s.que.length ac2, .slice a3 s.frm.length ac3, .int .u16 (s.flg : Int)] 27 (0, 0))) := (hb.block _ (lt_of_heap PS_2.out)).trans PS_2.out
  have S_5 : Hid (Stm z1 (.slice a1 s.ind.length ac1) (.slice a2 s.que.length ac2) (.slice a3 s.frm.length ac3) s) := S_3.out.up hb
  have Ll_5 : Hid (Rw z1 (.slice av_ l.length cv_) l.length (aC l)) := Ll_4.out.up hb
  clear hb BW_1 PS_2 S_3 Ll_4
  obtain ⟨Wz1, hW9⟩ : ∃ Wz1, Wz1 = z1.alloc (.cells #[.slice x1 s.ind.length xc1, .int .i64 s.pen, .slice x2 s.que.length xc2, .slice x3 s.frm.length xc3, .int .u16 (s.flg : Int)] 27) := ⟨_, rfl⟩
  have HWz1 : Hid (Wz1 = z1.alloc (.cells #[.slice x1 s.ind.length xc1, .int .i64 s.pen, .slice x2 s.que.length xc2, .slice x3 s.frm.length xc3, .int .u16 (s.flg : Int)] 27)) := hW9
  have Xx_6 : Hid (Own W1.heap.size z1 (.slice x1 s.ind.length xc1) (.slice x2 s.que.length xc2) (.slice x3 s.frm.length xc3) s) := ho9
  clear ho9 hb9
  have hba : Below z1.heap.size z1 Wz1 := by rw [hW9]; exact bel_up _ _
  have hb := hba
  have BW_7 : Hid (Below w.heap.size w Wz1) := below_trans BW_5.out hb
  have PS_7 : Hid (Wz1.heap[w.heap.size]? = some (.cells #[.slice a1 s.ind.length ac1, .int .i64 s.pen, .slice a2 s.que.length ac2, .slice a3 s.frm.length ac3, .int .u16 (s.flg : Int)] 27 (0, 0))) := (hb.block _ (lt_of_heap PS_5.out)).trans PS_5.out
  have S_7 : Hid (Stm Wz1 (.slice a1 s.ind.length ac1) (.slice a2 s.que.length ac2) (.slice a3 s.frm.length ac3) s) := S_5.out.up hb
  have Ll_7 : Hid (Rw Wz1 (.slice av_ l.length cv_) l.length (aC l)) := Ll_5.out.up hb
  have Xx_7 : Hid (Own W1.heap.size Wz1 (.slice x1 s.ind.length xc1) (.slice x2 s.que.length xc2) (.slice x3 s.frm.length xc3) s) := Xx_6.out.up hb
  clear hb BW_5 PS_5 S_5 Ll_5 Xx_6
  have PX_8 : Hid (Wz1.heap[z1.heap.size]? = some (.cells #[.slice x1 s.ind.length xc1, .int .i64 s.pen, .slice x2 s.que.length xc2, .slice x3 s.frm.length xc3, .int .u16 (s.flg : Int)] 27 (0, 0))) := by rw [hW9]; exact heap_new z1 _
  have L_z1_9 : Hid (z1.heap.size < Wz1.heap.size) := by rw [hW9, World.size_alloc]; exact Nat.lt_succ_self _
  clear hW9 hba
  go_upto_region 2 with fail
  rw [← HWz1.out]
  go_upto_region 4 with (at_builtin; refine wpList_copy _ rfl _ _ 28 rfl Wz1.heap.size 38 i38 (.agg #[.int .i64 0, .int .i64 0, .int .i64 0]) 3 24 Try.underlying28 HI.out.1 HI.out.2.1 HI.out.2.2.1 HI.out.2.2.2 rfl (by decide) _ l.length (aC l) rfl rfl Ll_7.out (aC_len _) (aC_one _) (by have := HM.out.2.2; unfold maxLen; omega) HM.out.2.2 (Nat.le_refl _) ?_; intro v8 u8 ho8 hg8; obtain ⟨ea8, ma8, rfl⟩ := row_shape ho8; have HO8 : Hid (Rw u8 (.slice ea8 l.length ma8) l.length (aC l)) := row_rw ho8 (by decide); have HG8 : Hid _ := below_of_grown hg8; clear ho8 hg8)
  have hb := HG8.out
  have BW_10 : Hid (Below w.heap.size w u8) := below_trans BW_7.out hb
  have PS_10 : Hid (u8.heap[w.heap.size]? = some (.cells #[.slice a1 s.ind.length ac1, .int .i64 s.pen, .slice a2 s.que.length ac2, .slice a3 s.frm.length ac3, .int .u16 (s.flg : Int)] 27 (0, 0))) := (hb.block _ (lt_of_heap PS_7.out)).trans PS_7.out
  have S_10 : Hid (Stm u8 (.slice a1 s.ind.length ac1) (.slice a2 s.que.length ac2) (.slice a3 s.frm.length ac3) s) := S_7.out.up hb
  have Ll_10 : Hid (Rw u8 (.slice av_ l.length cv_) l.length (aC l)) := Ll_7.out.up hb
  have Xx_10 : Hid (Own W1.heap.size u8 (.slice x1 s.ind.length xc1) (.slice x2 s.que.length xc2) (.slice x3 s.frm.length xc3) s) := Xx_7.out.up hb
  have PX_10 : Hid (u8.heap[z1.heap.size]? = some (.cells #[.slice x1 s.ind.length xc1, .int .i64 s.pen, .slice x2 s.que.length xc2, .slice x3 s.frm.length xc3, .int .u16 (s.flg : Int)] 27 (0, 0))) := (hb.block _ (lt_of_heap PX_8.out)).trans PX_8.out
  have L_z1_10 : Hid (z1.heap.size < u8.heap.size) := Nat.lt_of_lt_of_le L_z1_9.out hb.size
  clear hb BW_7 PS_7 S_7 Ll_7 Xx_7 PX_8 L_z1_9
  clear HG8
  have Kk_11 : Hid (Rw u8 (.slice ea8 l.length ma8) l.length (aC l)) := HO8.out
  clear HO8
  obtain ⟨p0, p1, p2, p3, p4⟩ := box_cells PX_10.out
  go_wp2_with fail
  refine (PD.out _ _ _ _ u8 Xx_10.out.stm Kk_11.out).mono ?_
  rintro e z2 ⟨vi9, vq9, vf9, rfl, ho9, hb9⟩
  obtain ⟨b1, bc1, b2, bc2, b3, bc3, rfl, rfl, rfl⟩ := ho9.stm.form
  clear p0 p1 p2 p3 p4
  have hb := hb9
  have BW_12 : Hid (Below w.heap.size w z2) := below_trans BW_10.out hb
  have PS_12 : Hid (z2.heap[w.heap.size]? = some (.cells #[.slice a1 s.ind.length ac1, .int .i64 s.pen, .slice a2 s.que.length ac2, .slice a3 s.frm.length ac3, .int .u16 (s.flg : Int)] 27 (0, 0))) := (hb.block _ (lt_of_heap PS_10.out)).trans PS_10.out
  have S_12 : Hid (Stm z2 (.slice a1 s.ind.length ac1) (.slice a2 s.que.length ac2) (.slice a3 s.frm.length ac3) s) := S_10.out.up hb
  have Ll_12 : Hid (Rw z2 (.slice av_ l.length cv_) l.length (aC l)) := Ll_10.out.up hb
  have Xx_12 : Hid (Own W1.heap.size z2 (.slice x1 s.ind.length xc1) (.slice x2 s.que.length xc2) (.slice x3 s.frm.length xc3) s) := Xx_10.out.up hb
  have PX_12 : Hid (z2.heap[z1.heap.size]? = some (.cells #[.slice x1 s.ind.length xc1, .int .i64 s.pen, .slice x2 s.que.length xc2, .slice x3 s.frm.length xc3, .int .u16 (s.flg : Int)] 27 (0, 0))) := (hb.block _ (lt_of_heap PX_10.out)).trans PX_10.out
  have L_z1_12 : Hid (z1.heap.size < z2.heap.size) := Nat.lt_of_lt_of_le L_z1_10.out hb.size
  have Kk_12 : Hid (Rw z2 (.slice ea8 l.length ma8) l.length (aC l)) := Kk_11.out.up hb
  clear hb BW_10 PS_10 S_10 Ll_10 Xx_10 PX_10 L_z1_10 Kk_11
  have OL_z1_z2 : Hid (z1.heap.size < z2.heap.size) := L_z1_12.out
  obtain ⟨Wz2, hW9⟩ : ∃ Wz2, Wz2 = z2.alloc (.cells #[.slice b1 t.ind.length bc1, .int .i64 t.pen, .slice b2 t.que.length bc2, .slice b3 t.frm.length bc3, .int .u16 (t.flg : Int)] 27) := ⟨_, rfl⟩
  have HWz2 : Hid (Wz2 = z2.alloc (.cells #[.slice b1 t.ind.length bc1, .int .i64 t.pen, .slice b2 t.que.length bc2, .slice b3 t.frm.length bc3, .int .u16 (t.flg : Int)] 27)) := hW9
  have Aa_13 : Hid (Own u8.heap.size z2 (.slice b1 t.ind.length bc1) (.slice b2 t.que.length bc2) (.slice b3 t.frm.length bc3) t) := ho9
  clear ho9 hb9
  have hba : Below z2.heap.size z2 Wz2 := by rw [hW9]; exact bel_up _ _
  have hb := hba
  have BW_14 : Hid (Below w.heap.size w Wz2) := below_trans BW_12.out hb
  have PS_14 : Hid (Wz2.heap[w.heap.size]? = some (.cells #[.slice a1 s.ind.length ac1, .int .i64 s.pen, .slice a2 s.que.length ac2, .slice a3 s.frm.length ac3, .int .u16 (s.flg : Int)] 27 (0, 0))) := (hb.block _ (lt_of_heap PS_12.out)).trans PS_12.out
  have S_14 : Hid (Stm Wz2 (.slice a1 s.ind.length ac1) (.slice a2 s.que.length ac2) (.slice a3 s.frm.length ac3) s) := S_12.out.up hb
  have Ll_14 : Hid (Rw Wz2 (.slice av_ l.length cv_) l.length (aC l)) := Ll_12.out.up hb
  have Xx_14 : Hid (Own W1.heap.size Wz2 (.slice x1 s.ind.length xc1) (.slice x2 s.que.length xc2) (.slice x3 s.frm.length xc3) s) := Xx_12.out.up hb
  have PX_14 : Hid (Wz2.heap[z1.heap.size]? = some (.cells #[.slice x1 s.ind.length xc1, .int .i64 s.pen, .slice x2 s.que.length xc2, .slice x3 s.frm.length xc3, .int .u16 (s.flg : Int)] 27 (0, 0))) := (hb.block _ (lt_of_heap PX_12.out)).trans PX_12.out
  have L_z1_14 : Hid (z1.heap.size < Wz2.heap.size) := Nat.lt_of_lt_of_le L_z1_12.out hb.size
  have Kk_14 : Hid (Rw Wz2 (.slice ea8 l.length ma8) l.length (aC l)) := Kk_12.out.up hb
  have Aa_14 : Hid (Own u8.heap.size Wz2 (.slice b1 t.ind.length bc1) (.slice b2 t.que.length bc2) (.slice b3 t.frm.length bc3) t) := Aa_13.out.up hb
  clear hb BW_12 PS_12 S_12 Ll_12 Xx_12 PX_12 L_z1_12 Kk_12 Aa_13
  have QA_15 : Hid (Wz2.heap[z2.heap.size]? = some (.cells #[.slice b1 t.ind.length bc1, .int .i64 t.pen, .slice b2 t.que.length bc2, .slice b3 t.frm.length bc3, .int .u16 (t.flg : Int)] 27 (0, 0))) := by rw [hW9]; exact heap_new z2 _
  have L_z2_16 : Hid (z2.heap.size < Wz2.heap.size) := by rw [hW9, World.size_alloc]; exact Nat.lt_succ_self _
  clear hW9 hba
  go_upto_region 5 with fail
  rw [← HWz2.out]
  obtain ⟨p0, p1, p2, p3, p4⟩ := box_cells PS_14.out
  go_wp2_with fail
  refine (RD.out _ _ _ _ Wz2 S_14.out Ll_14.out).mono ?_
  rintro e z3 ⟨vi9, vq9, vf9, rfl, ho9, hb9⟩
  obtain ⟨d1, dc1, d2, dc2, d3, dc3, rfl, rfl, rfl⟩ := ho9.stm.form
  clear p0 p1 p2 p3 p4
  have hb := hb9
  have BW_17 : Hid (Below w.heap.size w z3) := below_trans BW_14.out hb
  have PS_17 : Hid (z3.heap[w.heap.size]? = some (.cells #[.slice a1 s.ind.length ac1, .int .i64 s.pen, .slice a2 s.que.length ac2, .slice a3 s.frm.length ac3, .int .u16 (s.flg : Int)] 27 (0, 0))) := (hb.block _ (lt_of_heap PS_14.out)).trans PS_14.out
  have S_17 : Hid (Stm z3 (.slice a1 s.ind.length ac1) (.slice a2 s.que.length ac2) (.slice a3 s.frm.length ac3) s) := S_14.out.up hb
  have Ll_17 : Hid (Rw z3 (.slice av_ l.length cv_) l.length (aC l)) := Ll_14.out.up hb
  have Xx_17 : Hid (Own W1.heap.size z3 (.slice x1 s.ind.length xc1) (.slice x2 s.que.length xc2) (.slice x3 s.frm.length xc3) s) := Xx_14.out.up hb
  have PX_17 : Hid (z3.heap[z1.heap.size]? = some (.cells #[.slice x1 s.ind.length xc1, .int .i64 s.pen, .slice x2 s.que.length xc2, .slice x3 s.frm.length xc3, .int .u16 (s.flg : Int)] 27 (0, 0))) := (hb.block _ (lt_of_heap PX_14.out)).trans PX_14.out
  have L_z1_17 : Hid (z1.heap.size < z3.heap.size) := Nat.lt_of_lt_of_le L_z1_14.out hb.size
  have Kk_17 : Hid (Rw z3 (.slice ea8 l.length ma8) l.length (aC l)) := Kk_14.out.up hb
  have Aa_17 : Hid (Own u8.heap.size z3 (.slice b1 t.ind.length bc1) (.slice b2 t.que.length bc2) (.slice b3 t.frm.length bc3) t) := Aa_14.out.up hb
  have QA_17 : Hid (z3.heap[z2.heap.size]? = some (.cells #[.slice b1 t.ind.length bc1, .int .i64 t.pen, .slice b2 t.que.length bc2, .slice b3 t.frm.length bc3, .int .u16 (t.flg : Int)] 27 (0, 0))) := (hb.block _ (lt_of_heap QA_15.out)).trans QA_15.out
  have L_z2_17 : Hid (z2.heap.size < z3.heap.size) := Nat.lt_of_lt_of_le L_z2_16.out hb.size
  clear hb BW_14 PS_14 S_14 Ll_14 Xx_14 PX_14 L_z1_14 Kk_14 Aa_14 QA_15 L_z2_16
  have OL_z1_z3 : Hid (z1.heap.size < z3.heap.size) := L_z1_17.out
  have OL_z2_z3 : Hid (z2.heap.size < z3.heap.size) := L_z2_17.out
  obtain ⟨Wz3, hW9⟩ : ∃ Wz3, Wz3 = z3.alloc (.cells #[.slice d1 t.ind.length dc1, .int .i64 t.pen, .slice d2 t.que.length dc2, .slice d3 t.frm.length dc3, .int .u16 (t.flg : Int)] 27) := ⟨_, rfl⟩
  have HWz3 : Hid (Wz3 = z3.alloc (.cells #[.slice d1 t.ind.length dc1, .int .i64 t.pen, .slice d2 t.que.length dc2, .slice d3 t.frm.length dc3, .int .u16 (t.flg : Int)] 27)) := hW9
  have Bb_18 : Hid (Stl Wz2.heap.size z3 (.slice d1 t.ind.length dc1) (.slice d2 t.que.length dc2) (.slice d3 t.frm.length dc3) t) := ho9
  clear ho9 hb9
  have hba : Below z3.heap.size z3 Wz3 := by rw [hW9]; exact bel_up _ _
  have hb := hba
  have BW_19 : Hid (Below w.heap.size w Wz3) := below_trans BW_17.out hb
  have PS_19 : Hid (Wz3.heap[w.heap.size]? = some (.cells #[.slice a1 s.ind.length ac1, .int .i64 s.pen, .slice a2 s.que.length ac2, .slice a3 s.frm.length ac3, .int .u16 (s.flg : Int)] 27 (0, 0))) := (hb.block _ (lt_of_heap PS_17.out)).trans PS_17.out
  have S_19 : Hid (Stm Wz3 (.slice a1 s.ind.length ac1) (.slice a2 s.que.length ac2) (.slice a3 s.frm.length ac3) s) := S_17.out.up hb
  have Ll_19 : Hid (Rw Wz3 (.slice av_ l.length cv_) l.length (aC l)) := Ll_17.out.up hb
  have Xx_19 : Hid (Own W1.heap.size Wz3 (.slice x1 s.ind.length xc1) (.slice x2 s.que.length xc2) (.slice x3 s.frm.length xc3) s) := Xx_17.out.up hb
  have PX_19 : Hid (Wz3.heap[z1.heap.size]? = some (.cells #[.slice x1 s.ind.length xc1, .int .i64 s.pen, .slice x2 s.que.length xc2, .slice x3 s.frm.length xc3, .int .u16 (s.flg : Int)] 27 (0, 0))) := (hb.block _ (lt_of_heap PX_17.out)).trans PX_17.out
  have L_z1_19 : Hid (z1.heap.size < Wz3.heap.size) := Nat.lt_of_lt_of_le L_z1_17.out hb.size
  have Kk_19 : Hid (Rw Wz3 (.slice ea8 l.length ma8) l.length (aC l)) := Kk_17.out.up hb
  have Aa_19 : Hid (Own u8.heap.size Wz3 (.slice b1 t.ind.length bc1) (.slice b2 t.que.length bc2) (.slice b3 t.frm.length bc3) t) := Aa_17.out.up hb
  have QA_19 : Hid (Wz3.heap[z2.heap.size]? = some (.cells #[.slice b1 t.ind.length bc1, .int .i64 t.pen, .slice b2 t.que.length bc2, .slice b3 t.frm.length bc3, .int .u16 (t.flg : Int)] 27 (0, 0))) := (hb.block _ (lt_of_heap QA_17.out)).trans QA_17.out
  have L_z2_19 : Hid (z2.heap.size < Wz3.heap.size) := Nat.lt_of_lt_of_le L_z2_17.out hb.size
  have Bb_19 : Hid (Stl Wz2.heap.size Wz3 (.slice d1 t.ind.length dc1) (.slice d2 t.que.length dc2) (.slice d3 t.frm.length dc3) t) := Bb_18.out.up hb
  clear hb BW_17 PS_17 S_17 Ll_17 Xx_17 PX_17 L_z1_17 Kk_17 Aa_17 QA_17 L_z2_17 Bb_18
  have QB_20 : Hid (Wz3.heap[z3.heap.size]? = some (.cells #[.slice d1 t.ind.length dc1, .int .i64 t.pen, .slice d2 t.que.length dc2, .slice d3 t.frm.length dc3, .int .u16 (t.flg : Int)] 27 (0, 0))) := by rw [hW9]; exact heap_new z3 _
  have L_z3_21 : Hid (z3.heap.size < Wz3.heap.size) := by rw [hW9, World.size_alloc]; exact Nat.lt_succ_self _
  clear hW9 hba
  go_upto_region 6 with fail
  rw [← HWz3.out]
  obtain ⟨p0, p1, p2, p3, p4⟩ := box_cells QA_19.out
  obtain ⟨q0, q1, q2, q3, q4⟩ := box_cells QB_20.out
  go_wp2_with fail
  refine (rsame_as Wz3 Aa_19.out.stm Bb_19.out.stm rfl rfl (by have := HTL.out; omega) (by have := HTL.out; omega) (by have := HTL.out; omega)).mono ?_
  rintro e z4 ⟨rfl, hb9⟩
  clear p0 p1 p2 p3 p4 q0 q1 q2 q3 q4
  have hb := hb9
  have BW_22 : Hid (Below w.heap.size w z4) := below_trans BW_19.out hb
  have PS_22 : Hid (z4.heap[w.heap.size]? = some (.cells #[.slice a1 s.ind.length ac1, .int .i64 s.pen, .slice a2 s.que.length ac2, .slice a3 s.frm.length ac3, .int .u16 (s.flg : Int)] 27 (0, 0))) := (hb.block _ (lt_of_heap PS_19.out)).trans PS_19.out
  have S_22 : Hid (Stm z4 (.slice a1 s.ind.length ac1) (.slice a2 s.que.length ac2) (.slice a3 s.frm.length ac3) s) := S_19.out.up hb
  have Ll_22 : Hid (Rw z4 (.slice av_ l.length cv_) l.length (aC l)) := Ll_19.out.up hb
  have Xx_22 : Hid (Own W1.heap.size z4 (.slice x1 s.ind.length xc1) (.slice x2 s.que.length xc2) (.slice x3 s.frm.length xc3) s) := Xx_19.out.up hb
  have PX_22 : Hid (z4.heap[z1.heap.size]? = some (.cells #[.slice x1 s.ind.length xc1, .int .i64 s.pen, .slice x2 s.que.length xc2, .slice x3 s.frm.length xc3, .int .u16 (s.flg : Int)] 27 (0, 0))) := (hb.block _ (lt_of_heap PX_19.out)).trans PX_19.out
  have L_z1_22 : Hid (z1.heap.size < z4.heap.size) := Nat.lt_of_lt_of_le L_z1_19.out hb.size
  have Kk_22 : Hid (Rw z4 (.slice ea8 l.length ma8) l.length (aC l)) := Kk_19.out.up hb
  have Aa_22 : Hid (Own u8.heap.size z4 (.slice b1 t.ind.length bc1) (.slice b2 t.que.length bc2) (.slice b3 t.frm.length bc3) t) := Aa_19.out.up hb
  have QA_22 : Hid (z4.heap[z2.heap.size]? = some (.cells #[.slice b1 t.ind.length bc1, .int .i64 t.pen, .slice b2 t.que.length bc2, .slice b3 t.frm.length bc3, .int .u16 (t.flg : Int)] 27 (0, 0))) := (hb.block _ (lt_of_heap QA_19.out)).trans QA_19.out
  have L_z2_22 : Hid (z2.heap.size < z4.heap.size) := Nat.lt_of_lt_of_le L_z2_19.out hb.size
  have Bb_22 : Hid (Stl Wz2.heap.size z4 (.slice d1 t.ind.length dc1) (.slice d2 t.que.length dc2) (.slice d3 t.frm.length dc3) t) := Bb_19.out.up hb
  have QB_22 : Hid (z4.heap[z3.heap.size]? = some (.cells #[.slice d1 t.ind.length dc1, .int .i64 t.pen, .slice d2 t.que.length dc2, .slice d3 t.frm.length dc3, .int .u16 (t.flg : Int)] 27 (0, 0))) := (hb.block _ (lt_of_heap QB_20.out)).trans QB_20.out
  have L_z3_22 : Hid (z3.heap.size < z4.heap.size) := Nat.lt_of_lt_of_le L_z3_21.out hb.size
  clear hb BW_19 PS_19 S_19 Ll_19 Xx_19 PX_19 L_z1_19 Kk_19 Aa_19 QA_19 L_z2_19 Bb_19 QB_20 L_z3_21
  clear hb9
  obtain ⟨p0, p1, p2, p3, p4⟩ := box_cells PX_22.out
  obtain ⟨q0, q1, q2, q3, q4⟩ := box_cells PS_22.out
  go_wp2_with fail
  refine (rsame_as z4 Xx_22.out.stm S_22.out rfl rfl (by have := ZS.out.i; omega) (by have := ZS.out.q; omega) (by have := ZS.out.f; omega)).mono ?_
  rintro e z5 ⟨rfl, hb9⟩
  clear p0 p1 p2 p3 p4 q0 q1 q2 q3 q4
  have hb := hb9
  have BW_23 : Hid (Below w.heap.size w z5) := below_trans BW_22.out hb
  have PS_23 : Hid (z5.heap[w.heap.size]? = some (.cells #[.slice a1 s.ind.length ac1, .int .i64 s.pen, .slice a2 s.que.length ac2, .slice a3 s.frm.length ac3, .int .u16 (s.flg : Int)] 27 (0, 0))) := (hb.block _ (lt_of_heap PS_22.out)).trans PS_22.out
  have S_23 : Hid (Stm z5 (.slice a1 s.ind.length ac1) (.slice a2 s.que.length ac2) (.slice a3 s.frm.length ac3) s) := S_22.out.up hb
  have Ll_23 : Hid (Rw z5 (.slice av_ l.length cv_) l.length (aC l)) := Ll_22.out.up hb
  have Xx_23 : Hid (Own W1.heap.size z5 (.slice x1 s.ind.length xc1) (.slice x2 s.que.length xc2) (.slice x3 s.frm.length xc3) s) := Xx_22.out.up hb
  have PX_23 : Hid (z5.heap[z1.heap.size]? = some (.cells #[.slice x1 s.ind.length xc1, .int .i64 s.pen, .slice x2 s.que.length xc2, .slice x3 s.frm.length xc3, .int .u16 (s.flg : Int)] 27 (0, 0))) := (hb.block _ (lt_of_heap PX_22.out)).trans PX_22.out
  have L_z1_23 : Hid (z1.heap.size < z5.heap.size) := Nat.lt_of_lt_of_le L_z1_22.out hb.size
  have Kk_23 : Hid (Rw z5 (.slice ea8 l.length ma8) l.length (aC l)) := Kk_22.out.up hb
  have Aa_23 : Hid (Own u8.heap.size z5 (.slice b1 t.ind.length bc1) (.slice b2 t.que.length bc2) (.slice b3 t.frm.length bc3) t) := Aa_22.out.up hb
  have QA_23 : Hid (z5.heap[z2.heap.size]? = some (.cells #[.slice b1 t.ind.length bc1, .int .i64 t.pen, .slice b2 t.que.length bc2, .slice b3 t.frm.length bc3, .int .u16 (t.flg : Int)] 27 (0, 0))) := (hb.block _ (lt_of_heap QA_22.out)).trans QA_22.out
  have L_z2_23 : Hid (z2.heap.size < z5.heap.size) := Nat.lt_of_lt_of_le L_z2_22.out hb.size
  have Bb_23 : Hid (Stl Wz2.heap.size z5 (.slice d1 t.ind.length dc1) (.slice d2 t.que.length dc2) (.slice d3 t.frm.length dc3) t) := Bb_22.out.up hb
  have QB_23 : Hid (z5.heap[z3.heap.size]? = some (.cells #[.slice d1 t.ind.length dc1, .int .i64 t.pen, .slice d2 t.que.length dc2, .slice d3 t.frm.length dc3, .int .u16 (t.flg : Int)] 27 (0, 0))) := (hb.block _ (lt_of_heap QB_22.out)).trans QB_22.out
  have L_z3_23 : Hid (z3.heap.size < z5.heap.size) := Nat.lt_of_lt_of_le L_z3_22.out hb.size
  clear hb BW_22 PS_22 S_22 Ll_22 Xx_22 PX_22 L_z1_22 Kk_22 Aa_22 QA_22 L_z2_22 Bb_22 QB_22 L_z3_22
  clear hb9
  by_cases hn : l.length = 0
  · have f1 : decide (l.length = 0) = true := by rw [decide_eq_true_eq]; omega
    have f2 : ((l.length : Int) == 0) = true := by rw [beq_iff_eq]; omega
    clear hn
    go_wp2_with fail
    refine (sameacts_any z5 Kk_23.out Ll_23.out (by have := HM.out.2.2; omega)).mono ?_
    rintro e z6 ⟨rfl, hb9⟩
    have hb := hb9
    have BW_24 : Hid (Below w.heap.size w z6) := below_trans BW_23.out hb
    have PS_24 : Hid (z6.heap[w.heap.size]? = some (.cells #[.slice a1 s.ind.length ac1, .int .i64 s.pen, .slice a2 s.que.length ac2, .slice a3 s.frm.length ac3, .int .u16 (s.flg : Int)] 27 (0, 0))) := (hb.block _ (lt_of_heap PS_23.out)).trans PS_23.out
    have S_24 : Hid (Stm z6 (.slice a1 s.ind.length ac1) (.slice a2 s.que.length ac2) (.slice a3 s.frm.length ac3) s) := S_23.out.up hb
    have Ll_24 : Hid (Rw z6 (.slice av_ l.length cv_) l.length (aC l)) := Ll_23.out.up hb
    have Xx_24 : Hid (Own W1.heap.size z6 (.slice x1 s.ind.length xc1) (.slice x2 s.que.length xc2) (.slice x3 s.frm.length xc3) s) := Xx_23.out.up hb
    have PX_24 : Hid (z6.heap[z1.heap.size]? = some (.cells #[.slice x1 s.ind.length xc1, .int .i64 s.pen, .slice x2 s.que.length xc2, .slice x3 s.frm.length xc3, .int .u16 (s.flg : Int)] 27 (0, 0))) := (hb.block _ (lt_of_heap PX_23.out)).trans PX_23.out
    have L_z1_24 : Hid (z1.heap.size < z6.heap.size) := Nat.lt_of_lt_of_le L_z1_23.out hb.size
    have Kk_24 : Hid (Rw z6 (.slice ea8 l.length ma8) l.length (aC l)) := Kk_23.out.up hb
    have Aa_24 : Hid (Own u8.heap.size z6 (.slice b1 t.ind.length bc1) (.slice b2 t.que.length bc2) (.slice b3 t.frm.length bc3) t) := Aa_23.out.up hb
    have QA_24 : Hid (z6.heap[z2.heap.size]? = some (.cells #[.slice b1 t.ind.length bc1, .int .i64 t.pen, .slice b2 t.que.length bc2, .slice b3 t.frm.length bc3, .int .u16 (t.flg : Int)] 27 (0, 0))) := (hb.block _ (lt_of_heap QA_23.out)).trans QA_23.out
    have L_z2_24 : Hid (z2.heap.size < z6.heap.size) := Nat.lt_of_lt_of_le L_z2_23.out hb.size
    have Bb_24 : Hid (Stl Wz2.heap.size z6 (.slice d1 t.ind.length dc1) (.slice d2 t.que.length dc2) (.slice d3 t.frm.length dc3) t) := Bb_23.out.up hb
    have QB_24 : Hid (z6.heap[z3.heap.size]? = some (.cells #[.slice d1 t.ind.length dc1, .int .i64 t.pen, .slice d2 t.que.length dc2, .slice d3 t.frm.length dc3, .int .u16 (t.flg : Int)] 27 (0, 0))) := (hb.block _ (lt_of_heap QB_23.out)).trans QB_23.out
    have L_z3_24 : Hid (z3.heap.size < z6.heap.size) := Nat.lt_of_lt_of_le L_z3_23.out hb.size
    clear hb BW_23 PS_23 S_23 Ll_23 Xx_23 PX_23 L_z1_23 Kk_23 Aa_23 QA_23 L_z2_23 Bb_23 QB_23 L_z3_23
    clear hb9
    go_wp2_with fail
    go_ret
    exact ⟨rfl, BW_24.out⟩
  · have f1 : decide (l.length = 0) = false := by rw [decide_eq_false_iff_not]; omega
    have f2 : ((l.length : Int) == 0) = false := by rw [beq_eq_false_iff_ne]; omega
    have HLP : Hid (0 < l.length) := by show 0 < l.length; omega
    clear hn
    go_wp2_with fail
    refine (sameacts_any z5 Kk_23.out Ll_23.out (by have := HM.out.2.2; omega)).mono ?_
    rintro e z7 ⟨rfl, hb9⟩
    have hb := hb9
    have BW_25 : Hid (Below w.heap.size w z7) := below_trans BW_23.out hb
    have PS_25 : Hid (z7.heap[w.heap.size]? = some (.cells #[.slice a1 s.ind.length ac1, .int .i64 s.pen, .slice a2 s.que.length ac2, .slice a3 s.frm.length ac3, .int .u16 (s.flg : Int)] 27 (0, 0))) := (hb.block _ (lt_of_heap PS_23.out)).trans PS_23.out
    have S_25 : Hid (Stm z7 (.slice a1 s.ind.length ac1) (.slice a2 s.que.length ac2) (.slice a3 s.frm.length ac3) s) := S_23.out.up hb
    have Ll_25 : Hid (Rw z7 (.slice av_ l.length cv_) l.length (aC l)) := Ll_23.out.up hb
    have Xx_25 : Hid (Own W1.heap.size z7 (.slice x1 s.ind.length xc1) (.slice x2 s.que.length xc2) (.slice x3 s.frm.length xc3) s) := Xx_23.out.up hb
    have PX_25 : Hid (z7.heap[z1.heap.size]? = some (.cells #[.slice x1 s.ind.length xc1, .int .i64 s.pen, .slice x2 s.que.length xc2, .slice x3 s.frm.length xc3, .int .u16 (s.flg : Int)] 27 (0, 0))) := (hb.block _ (lt_of_heap PX_23.out)).trans PX_23.out
    have L_z1_25 : Hid (z1.heap.size < z7.heap.size) := Nat.lt_of_lt_of_le L_z1_23.out hb.size
    have Kk_25 : Hid (Rw z7 (.slice ea8 l.length ma8) l.length (aC l)) := Kk_23.out.up hb
    have Aa_25 : Hid (Own u8.heap.size z7 (.slice b1 t.ind.length bc1) (.slice b2 t.que.length bc2) (.slice b3 t.frm.length bc3) t) := Aa_23.out.up hb
    have QA_25 : Hid (z7.heap[z2.heap.size]? = some (.cells #[.slice b1 t.ind.length bc1, .int .i64 t.pen, .slice b2 t.que.length bc2, .slice b3 t.frm.length bc3, .int .u16 (t.flg : Int)] 27 (0, 0))) := (hb.block _ (lt_of_heap QA_23.out)).trans QA_23.out
    have L_z2_25 : Hid (z2.heap.size < z7.heap.size) := Nat.lt_of_lt_of_le L_z2_23.out hb.size
    have Bb_25 : Hid (Stl Wz2.heap.size z7 (.slice d1 t.ind.length dc1) (.slice d2 t.que.length dc2) (.slice d3 t.frm.length dc3) t) := Bb_23.out.up hb
    have QB_25 : Hid (z7.heap[z3.heap.size]? = some (.cells #[.slice d1 t.ind.length dc1, .int .i64 t.pen, .slice d2 t.que.length dc2, .slice d3 t.frm.length dc3, .int .u16 (t.flg : Int)] 27 (0, 0))) := (hb.block _ (lt_of_heap QB_23.out)).trans QB_23.out
    have L_z3_25 : Hid (z3.heap.size < z7.heap.size) := Nat.lt_of_lt_of_le L_z3_23.out hb.size
    clear hb BW_23 PS_23 S_23 Ll_23 Xx_23 PX_23 L_z1_23 Kk_23 Aa_23 QA_23 L_z2_23 Bb_23 QB_23 L_z3_23
    clear hb9
    obtain ⟨p0, p1, p2, p3, p4⟩ := box_cells PS_25.out
    obtain ⟨a9, g9, o9, c9, l1, -, -, l2, l3⟩ := Ll_25.out
    obtain ⟨rfl, -, rfl⟩ := Value.slice.inj l1
    obtain rfl := l2 HLP.out
    obtain ⟨m0, m1, m2⟩ := aC_get l 0 HLP.out
    have r0 := l3 _ _ m0
    have r1 := l3 _ _ m1
    have r2 := l3 _ _ m2
    obtain ⟨⟨kx, nx, mx⟩, hx⟩ : ∃ x, l.getD 0 (0, 0, 0) = x := ⟨_, rfl⟩
    rw [hx] at r0 r1 r2
    simp only [Nat.zero_mul, Nat.zero_add, Nat.add_zero] at r0 r1 r2
    have k5 : (0 : Int) < (l.length : Int) := by have := HLP.out; omega
    have k6 : decide ((0 : Int) < (l.length : Int)) = true := by rw [decide_eq_true_eq]; exact k5
    clear l1 l2 l3 m0 m1 m2 hx
    go_wp2_with fail
    go_region_with (go_at_call 10; refine (fresh_any kx nx mx m _ (Stm.up S_25.out (Below.drew (Below.refl _ _))) HM.out.2.1 ZS.out HM.out.1).mono ?_; rintro e y9 ⟨rfl, hb9⟩; have HB9 : Hid _ := hb9; clear hb9)
    all_goals go_wp2_with fail
    all_goals go_ret
    all_goals exact ⟨rfl, below_trans (Below.drew BW_25.out) HB9.out⟩
end Go.Proofs.Ytkaciochlemjiab
