import Derived.Test.YtdchopljojlcpaaRrb
namespace Go.Proofs.Ytdchopljojlcpaa
open Go.RowKit Go.Maps

/-- A state whose rows are the call's own. -/
structure Own (B : Nat) (W : World) (vi vq vf : Value) (s : Stt) : Prop where
  i : W.ownsRow B 3 1 vi s.ind.length (iC s.ind)
  q : W.ownsRow B 9 1 vq s.que.length (qC s.que)
  f : W.ownsRow B 58 2 vf s.frm.length (fC s.frm)
set_option maxRecDepth 100000 in
set_option maxHeartbeats 8000000 in
theorem twin_any {vi vq vf : Value} {s : Stt} (w : World) (h : Stm w vi vq vf s) (hl1 : s.ind.length * 8 ≤ 140737488355328) (hl2 : s.que.length * 16 ≤ 140737488355328) (hl3 : s.frm.length * 24 ≤ 140737488355328) :
    Calls Try.prog 14 #[sv vi vq vf s] w fun e w' => ∃ vi' vq' vf', e = .returned (sv vi' vq' vf' s) ∧ Own w.heap.size w' vi' vq' vf' s ∧ Below w.heap.size w w' := by
  obtain ⟨a1, c1, a2, c2, a3, c3, rfl, rfl, rfl⟩ := h.form
  obtain ⟨i3, hi3, hx0, hx1, hx2⟩ := info_parts info3
  obtain ⟨i9, hi9, hy0, hy1, hy2⟩ := info_parts info9
  obtain ⟨i58, hi58, hz0, hz1, hz2⟩ := info_parts info58
  have HL : Hid (s.ind.length * 8 ≤ 140737488355328 ∧ s.que.length * 16 ≤ 140737488355328 ∧ s.frm.length * 24 ≤ 140737488355328) := ⟨hl1, hl2, hl3⟩
  obtain ⟨W1, hW1⟩ : ∃ W1, W1 = ((w.alloc (.cells #[.slice a1 s.ind.length c1, .int .i64 s.pen, .slice a2 s.que.length c2, .slice a3 s.frm.length c3, .int .u16 (s.flg : Int)] 33)).alloc (.cells #[.slice none 0 0, .int .i64 0, .slice none 0 0, .slice none 0 0, .int .u16 0] 33)).alloc (.cells #[.slice none 0 0, .int .i64 s.pen, .slice none 0 0, .slice none 0 0, .int .u16 (s.flg : Int)] 33) := ⟨_, rfl⟩
  have HC1 : Hid (Tp w W1 (.slice a1 s.ind.length c1) (.slice a2 s.que.length c2) (.slice a3 s.frm.length c3) (.slice none 0 0) (.slice none 0 0) (.slice none 0 0) s) := by
    rw [hW1]
    refine ⟨?_, ?_, ?_, below_trans (below_trans (bel_up _ _) (bel_up _ _)) (bel_up _ _)⟩
    · rw [(bel_up _ _).block _ (by simp; omega), (bel_up _ _).block _ (by simp)]; exact heap_new w _
    · rw [(bel_up _ _).block _ (by simp)]
      have := heap_new (w.alloc (.cells #[.slice a1 s.ind.length c1, .int .i64 s.pen, .slice a2 s.que.length c2, .slice a3 s.frm.length c3, .int .u16 (s.flg : Int)] 33)) (.cells #[.slice none 0 0, .int .i64 0, .slice none 0 0, .slice none 0 0, .int .u16 0] 33)
      rw [World.size_alloc] at this
      exact this
    · have := heap_new ((w.alloc (.cells #[.slice a1 s.ind.length c1, .int .i64 s.pen, .slice a2 s.que.length c2, .slice a3 s.frm.length c3, .int .u16 (s.flg : Int)] 33)).alloc (.cells #[.slice none 0 0, .int .i64 0, .slice none 0 0, .slice none 0 0, .int .u16 0] 33)) (.cells #[.slice none 0 0, .int .i64 s.pen, .slice none 0 0, .slice none 0 0, .int .u16 (s.flg : Int)] 33)
      rw [World.size_alloc, World.size_alloc] at this
      exact this
  have HW : Hid (W1 = ((w.alloc (.cells #[.slice a1 s.ind.length c1, .int .i64 s.pen, .slice a2 s.que.length c2, .slice a3 s.frm.length c3, .int .u16 (s.flg : Int)] 33)).alloc (.cells #[.slice none 0 0, .int .i64 0, .slice none 0 0, .slice none 0 0, .int .u16 0] 33)).alloc (.cells #[.slice none 0 0, .int .i64 s.pen, .slice none 0 0, .slice none 0 0, .int .u16 (s.flg : Int)] 33)) := hW1
  have HS : Hid (Stm w (.slice a1 s.ind.length c1) (.slice a2 s.que.length c2) (.slice a3 s.frm.length c3) s) := h
  clear h hl1 hl2 hl3 hW1
  go_enter Try.func14, Try.ntmps14
  go_upto_region 2 with fail
  rw [← HW.out]
  have HR1 : Hid (Rw W1 (.slice a1 s.ind.length c1) s.ind.length (iC s.ind)) := HS.out.i.up HC1.out.bel
  have HLB1 : Hid (w.heap.size ≤ W1.heap.size) := HC1.out.bel.size
  have b1 := cell_up (.cells #[] 3) (HC1.out.pcell 0 _ rfl)
  have o1 := HC1.out.cell 0 _ rfl
  go_upto_region 3 with (at_builtin; refine wpList_twin W1 rfl (.tmp 9) (.tmp 11) 24 rfl 3 i3 (.int .i64 0) 1 8 Try.underlying24 hi3 hx0 hx1 hx2 rfl (by decide) (.slice a1 s.ind.length c1) s.ind.length (iC s.ind) rfl rfl HR1.out (iC_len _) (iC_one _) (by have := HL.out.1; unfold maxLen; omega) (by have := HL.out.1; omega) ?_; intro v1 u1 ho1 hg1; obtain ⟨ea1, ma1, rfl⟩ := row_shape ho1; have HO1 : Hid _ := row_base ho1 HLB1.out; have HG1 : Hid _ := hg1; have k1 := (HC1.out.up HG1.out).cell 0 _ rfl; have f1 := (HC1.out.up HG1.out).fr 0; clear ho1 hg1)
  obtain ⟨W2, hW2⟩ : ∃ W2, W2 = u1.setCell ⟨w.heap.size + 2, 0, none⟩ (.slice ea1 s.ind.length ma1) := ⟨_, rfl⟩
  rw [← hW2]
  have HC2 : Hid (Tp w W2 (.slice a1 s.ind.length c1) (.slice a2 s.que.length c2) (.slice a3 s.frm.length c3) (.slice ea1 s.ind.length ma1) (.slice none 0 0) (.slice none 0 0) s) := by rw [hW2]; exact (HC1.out.up HG1.out).set 0 _ rfl
  have HQ1 : Hid (W2.ownsRow w.heap.size 3 1 (.slice ea1 s.ind.length ma1) s.ind.length (iC s.ind)) := by rw [hW2]; exact (HC1.out.up HG1.out).row HO1.out (by decide) _ _
  clear hW2 HR1 HLB1 b1 o1 k1 f1 HO1 HG1 HC1
  have HR2 : Hid (Rw W2 (.slice a2 s.que.length c2) s.que.length (qC s.que)) := HS.out.q.up HC2.out.bel
  have HLB2 : Hid (w.heap.size ≤ W2.heap.size) := HC2.out.bel.size
  have b2 := cell_up (.cells #[] 9) (HC2.out.pcell 2 _ rfl)
  have o2 := HC2.out.cell 2 _ rfl
  go_upto_region 4 with (at_builtin; refine wpList_twin W2 rfl (.tmp 14) (.tmp 16) 29 rfl 9 i9 (.string ⟨#[]⟩) 1 16 Try.underlying29 hi9 hy0 hy1 hy2 rfl (by decide) (.slice a2 s.que.length c2) s.que.length (qC s.que) rfl rfl HR2.out (qC_len _) (qC_one _) (by have := HL.out.2.1; unfold maxLen; omega) (by have := HL.out.2.1; omega) ?_; intro v2 u2 ho2 hg2; obtain ⟨ea2, ma2, rfl⟩ := row_shape ho2; have HO2 : Hid _ := row_base ho2 HLB2.out; have HG2 : Hid _ := hg2; have k2 := (HC2.out.up HG2.out).cell 2 _ rfl; have f2 := (HC2.out.up HG2.out).fr 2; clear ho2 hg2)
  obtain ⟨W3, hW3⟩ : ∃ W3, W3 = u2.setCell ⟨w.heap.size + 2, 2, none⟩ (.slice ea2 s.que.length ma2) := ⟨_, rfl⟩
  rw [← hW3]
  have HC3 : Hid (Tp w W3 (.slice a1 s.ind.length c1) (.slice a2 s.que.length c2) (.slice a3 s.frm.length c3) (.slice ea1 s.ind.length ma1) (.slice ea2 s.que.length ma2) (.slice none 0 0) s) := by rw [hW3]; exact (HC2.out.up HG2.out).set 2 _ rfl
  have HQ2 : Hid (W3.ownsRow w.heap.size 9 1 (.slice ea2 s.que.length ma2) s.que.length (qC s.que)) := by rw [hW3]; exact (HC2.out.up HG2.out).row HO2.out (by decide) _ _
  have HQ1' : Hid (W3.ownsRow w.heap.size 3 1 (.slice ea1 s.ind.length ma1) s.ind.length (iC s.ind)) := by rw [hW3]; exact (HC2.out.up HG2.out).row (row_up HQ1.out HG2.out) (by decide) _ _
  clear HQ1
  have HQ1 : Hid _ := HQ1'.out
  clear HQ1'
  clear hW3 HR2 HLB2 b2 o2 k2 f2 HO2 HG2 HC2
  have HR3 : Hid (Rw W3 (.slice a3 s.frm.length c3) s.frm.length (fC s.frm)) := HS.out.f.up HC3.out.bel
  have HLB3 : Hid (w.heap.size ≤ W3.heap.size) := HC3.out.bel.size
  have b3 := cell_up (.cells #[] 58) (HC3.out.pcell 3 _ rfl)
  have o3 := HC3.out.cell 3 _ rfl
  go_upto_region 5 with (at_builtin; refine wpList_twin W3 rfl (.tmp 19) (.tmp 21) 30 rfl 58 i58 (.agg #[.int .i64 0, .string ⟨#[]⟩]) 2 24 Try.underlying30 hi58 hz0 hz1 hz2 rfl (by decide) (.slice a3 s.frm.length c3) s.frm.length (fC s.frm) rfl rfl HR3.out (fC_len _) (fC_one _) (by have := HL.out.2.2; unfold maxLen; omega) (by have := HL.out.2.2; omega) ?_; intro v3 u3 ho3 hg3; obtain ⟨ea3, ma3, rfl⟩ := row_shape ho3; have HO3 : Hid _ := row_base ho3 HLB3.out; have HG3 : Hid _ := hg3; have k3 := (HC3.out.up HG3.out).cell 3 _ rfl; have f3 := (HC3.out.up HG3.out).fr 3; clear ho3 hg3)
  obtain ⟨W4, hW4⟩ : ∃ W4, W4 = u3.setCell ⟨w.heap.size + 2, 3, none⟩ (.slice ea3 s.frm.length ma3) := ⟨_, rfl⟩
  rw [← hW4]
  have HC4 : Hid (Tp w W4 (.slice a1 s.ind.length c1) (.slice a2 s.que.length c2) (.slice a3 s.frm.length c3) (.slice ea1 s.ind.length ma1) (.slice ea2 s.que.length ma2) (.slice ea3 s.frm.length ma3) s) := by rw [hW4]; exact (HC3.out.up HG3.out).set 3 _ rfl
  have HQ3 : Hid (W4.ownsRow w.heap.size 58 2 (.slice ea3 s.frm.length ma3) s.frm.length (fC s.frm)) := by rw [hW4]; exact (HC3.out.up HG3.out).row HO3.out (by decide) _ _
  have HQ1' : Hid (W4.ownsRow w.heap.size 3 1 (.slice ea1 s.ind.length ma1) s.ind.length (iC s.ind)) := by rw [hW4]; exact (HC3.out.up HG3.out).row (row_up HQ1.out HG3.out) (by decide) _ _
  clear HQ1
  have HQ1 : Hid _ := HQ1'.out
  clear HQ1'
  have HQ2' : Hid (W4.ownsRow w.heap.size 9 1 (.slice ea2 s.que.length ma2) s.que.length (qC s.que)) := by rw [hW4]; exact (HC3.out.up HG3.out).row (row_up HQ2.out HG3.out) (by decide) _ _
  clear HQ2
  have HQ2 : Hid _ := HQ2'.out
  clear HQ2'
  clear hW4 HR3 HLB3 b3 o3 k3 f3 HO3 HG3 HC3
  have k0 := HC4.out.cell 0 _ rfl
  have k1 := HC4.out.cell 1 _ rfl
  have k2 := HC4.out.cell 2 _ rfl
  have k3 := HC4.out.cell 3 _ rfl
  have k4 := HC4.out.cell 4 _ rfl
  have z0 := HC4.out.zcell 0 _ rfl
  have z1 := HC4.out.zcell 1 _ rfl
  have z2 := HC4.out.zcell 2 _ rfl
  have z3 := HC4.out.zcell 3 _ rfl
  have z4 := HC4.out.zcell 4 _ rfl
  have zf := HC4.out.zfr
  go_wp2_with fail
  (try simp only [Exit.inBlock, Exit.then])
  refine bodyPost_ret (v := sv (.slice ea1 s.ind.length ma1) (.slice ea2 s.que.length ma2) (.slice ea3 s.frm.length ma3) s) ?_ rfl ⟨_, _, _, rfl, ⟨row_five HC4.out.b2 HQ1.out (by decide), row_five HC4.out.b2 HQ2.out (by decide), row_five HC4.out.b2 HQ3.out (by decide)⟩, ?_⟩
  · rw [results_cell1 rfl]; go_simp
  · exact bel_five HC4.out.bel (by omega)
end Go.Proofs.Ytdchopljojlcpaa
