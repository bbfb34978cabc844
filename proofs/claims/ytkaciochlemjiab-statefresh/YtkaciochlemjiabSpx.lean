import Derived.Test.YtkaciochlemjiabSpw
namespace Go.Proofs.Ytkaciochlemjiab
open Go.RowKit Go.Maps

set_option maxRecDepth 100000 in
set_option maxHeartbeats 16000000 in
theorem spoil_wide {B : Nat} {vi vq vf : Value} {s : Stt} (w : World) (h : Own B w vi vq vf s) (hB : B ≤ w.heap.size) (l1 : s.ind.length * 8 ≤ 140737488351232) (l2 : s.que.length * 16 ≤ 140737488351232) (l3 : s.frm.length * 24 ≤ 140737488351232) :
    Calls Try.prog 14 #[sv vi vq vf s] w fun e w' => (∃ v, e = .returned v) ∧ (∃ s' : Stt, s'.ind.length = s.ind.length ∧ s'.que.length = s.que.length ∧ s'.frm.length = s.frm.length ∧ s'.pen = s.pen ∧ s'.flg = s.flg ∧ Own B w' vi vq vf s') ∧ Cho w w' vi vq vf := by
  obtain ⟨a1, c1, a2, c2, a3, c3, rfl, rfl, rfl⟩ := h.stm.form
  obtain ⟨W1, hW1⟩ : ∃ W1, W1 = w.alloc (.cells #[.slice a1 s.ind.length c1, .int .i64 s.pen, .slice a2 s.que.length c2, .slice a3 s.frm.length c3, .int .u16 (s.flg : Int)] 27) := ⟨_, rfl⟩
  have HW : Hid (W1 = w.alloc (.cells #[.slice a1 s.ind.length c1, .int .i64 s.pen, .slice a2 s.que.length c2, .slice a3 s.frm.length c3, .int .u16 (s.flg : Int)] 27)) := hW1
  have HY1 : Hid (Ysp B w W1 (.slice a1 s.ind.length c1) (.slice a2 s.que.length c2) (.slice a3 s.frm.length c3) s #[.slice a1 s.ind.length c1, .int .i64 s.pen, .slice a2 s.que.length c2, .slice a3 s.frm.length c3, .int .u16 (s.flg : Int)]) := by rw [hW1]; exact ⟨⟨s, rfl, rfl, rfl, rfl, rfl, h.up (bel_up _ _)⟩, heap_new w _, (Cho.refl _ _ _ _).up (bel_up _ _)⟩
  have HL : Hid (s.ind.length * 8 ≤ 140737488351232 ∧ s.que.length * 16 ≤ 140737488351232 ∧ s.frm.length * 24 ≤ 140737488351232) := ⟨l1, l2, l3⟩
  have HB : Hid (B ≤ w.heap.size) := hB
  have HFM : Hid ((0 < s.ind.length → ∃ g, a1 = some ⟨g, 0, none⟩) ∧ (0 < s.que.length → ∃ g, a2 = some ⟨g, 0, none⟩) ∧ (0 < s.frm.length → ∃ g, a3 = some ⟨g, 0, none⟩)) := by
    refine ⟨fun hp => ?_, fun hp => ?_, fun hp => ?_⟩
    · obtain ⟨g, c, e, -⟩ := row_form h.i hp
      exact ⟨g, (Value.slice.inj e).1⟩
    · obtain ⟨g, c, e, -⟩ := row_form h.q hp
      exact ⟨g, (Value.slice.inj e).1⟩
    · obtain ⟨g, c, e, -⟩ := row_form h.f hp
      exact ⟨g, (Value.slice.inj e).1⟩
  obtain ⟨iE, hi3, hx0, hx1, hx2⟩ := info_parts info3
  have HI3 : Hid (Try.prog.info? 3 = some iE ∧ iE.zero = some (.int .i64 0) ∧ iE.size = 1 ∧ iE.bytes = 8) := ⟨hi3, hx0, hx1, hx2⟩
  obtain ⟨iQ, hq3, hy0, hy1, hy2⟩ := info_parts info9
  have HI9 : Hid (Try.prog.info? 9 = some iQ ∧ iQ.zero = some (.string ⟨#[]⟩) ∧ iQ.size = 1 ∧ iQ.bytes = 16) := ⟨hq3, hy0, hy1, hy2⟩
  obtain ⟨iF, hf3, hz0, hz1, hz2⟩ := info_parts info54
  have HI54 : Hid (Try.prog.info? 42 = some iF ∧ iF.zero = some (.agg #[.int .i64 0, .string ⟨#[]⟩]) ∧ iF.size = 2 ∧ iF.bytes = 24) := ⟨hf3, hz0, hz1, hz2⟩
  clear h hB hW1 l1 l2 l3 hi3 hx0 hx1 hx2 hq3 hy0 hy1 hy2 hf3 hz0 hz1 hz2
  go_enter Try.func14, Try.ntmps14
  go_upto_region 1 with fail
  rw [← HW.out]
  go_wp2_with fail
  go_loopg [2] s.ind.length (fun gm v wr => ∃ i : Nat, v = .int .i64 (i : Int) ∧ Hid (i ≤ s.ind.length ∧ gm = s.ind.length - i) ∧ Hid (Ysp B w wr (.slice a1 s.ind.length c1) (.slice a2 s.que.length c2) (.slice a3 s.frm.length c3) s #[.slice a1 s.ind.length c1, .int .i64 s.pen, .slice a2 s.que.length c2, .slice a3 s.frm.length c3, .int .u16 (s.flg : Int)]))
  case atStart => exact ⟨0, rfl, ⟨Nat.zero_le _, rfl⟩, HY1⟩
  case round =>
    clear HY1
    obtain ⟨i, rfl, HI, HY⟩ := hrel
    obtain ⟨p0, p1, p2, p3, p4⟩ := box_cells HY.out.2.1
    by_cases hi : i < s.ind.length
    · obtain ⟨g, rfl⟩ := HFM.out.1 (by omega)
      have e1 : decide ((i : Int) < (s.ind.length : Int)) = true := by rw [decide_eq_true_eq]; omega
      have e2 : decide (i < s.ind.length) = true := by rw [decide_eq_true_eq]; omega
      have e5 : (i : Int) < (s.ind.length : Int) := by omega
      have HIL : Hid (i < s.ind.length) := hi
      have hwr := w64n i (by have := HL.out; omega)
      obtain ⟨s9, q1, q2, q3, -, -, ho9⟩ := HY.out.1
      have c0 := row_at ho9.i i _ (iC_get s9.ind i (by omega))
      have fz : wr.frozen? ⟨g, i, none⟩ = false := by obtain ⟨_, cur, hh⟩ := row_tag ho9.i g rfl; exact Lib.frozen_of_heap hh i
      clear hi q1 q2 q3 ho9
      go_wp2_with fail
      go_roundg (s.ind.length - (i + 1))
      case measure => have := HI.out; have := HIL.out; omega
      case rel => exact ⟨i + 1, by first | rfl | (rw [show (i : Int) + 1 = ((i + 1 : Nat) : Int) by omega]), ⟨HIL.out, rfl⟩, HY.out.si i _ HIL.out⟩
    · have e1 : decide ((i : Int) < (s.ind.length : Int)) = false := by rw [decide_eq_false_iff_not]; omega
      have e2 : decide (i < s.ind.length) = false := by rw [decide_eq_false_iff_not]; omega
      clear hi HI
      go_wp2_with fail
      clear p0 p1 p2 p3 p4 e1 e2
      go_loopg [3] s.que.length (fun gm v wr => ∃ i : Nat, v = .int .i64 (i : Int) ∧ Hid (i ≤ s.que.length ∧ gm = s.que.length - i) ∧ Hid (Ysp B w wr (.slice a1 s.ind.length c1) (.slice a2 s.que.length c2) (.slice a3 s.frm.length c3) s #[.slice a1 s.ind.length c1, .int .i64 s.pen, .slice a2 s.que.length c2, .slice a3 s.frm.length c3, .int .u16 (s.flg : Int)]))
      case atStart => exact ⟨0, rfl, ⟨Nat.zero_le _, rfl⟩, HY⟩
      case round =>
        clear HY
        obtain ⟨i, rfl, HI, HY⟩ := hrel
        obtain ⟨p0, p1, p2, p3, p4⟩ := box_cells HY.out.2.1
        by_cases hi : i < s.que.length
        · obtain ⟨g, rfl⟩ := HFM.out.2.1 (by omega)
          have e1 : decide ((i : Int) < (s.que.length : Int)) = true := by rw [decide_eq_true_eq]; omega
          have e2 : decide (i < s.que.length) = true := by rw [decide_eq_true_eq]; omega
          have e5 : (i : Int) < (s.que.length : Int) := by omega
          have HIL : Hid (i < s.que.length) := hi
          have hwr := w64n i (by have := HL.out; omega)
          obtain ⟨s9, q1, q2, q3, -, -, ho9⟩ := HY.out.1
          have c0 := row_at ho9.q i _ (qC_get s9.que i (by omega))
          have fz : wr.frozen? ⟨g, i, none⟩ = false := by obtain ⟨_, cur, hh⟩ := row_tag ho9.q g rfl; exact Lib.frozen_of_heap hh i
          clear hi q1 q2 q3 ho9
          go_wp2_with fail
          go_roundg (s.que.length - (i + 1))
          case measure => have := HI.out; have := HIL.out; omega
          case rel => exact ⟨i + 1, by first | rfl | (rw [show (i : Int) + 1 = ((i + 1 : Nat) : Int) by omega]), ⟨HIL.out, rfl⟩, HY.out.sq i ⟨#[115, 112, 111, 105, 108, 116]⟩ HIL.out⟩
        · have e1 : decide ((i : Int) < (s.que.length : Int)) = false := by rw [decide_eq_false_iff_not]; omega
          have e2 : decide (i < s.que.length) = false := by rw [decide_eq_false_iff_not]; omega
          clear hi HI
          go_wp2_with fail
          clear p0 p1 p2 p3 p4 e1 e2
          go_loopg [4] s.frm.length (fun gm v wr => ∃ i : Nat, v = .int .i64 (i : Int) ∧ Hid (i ≤ s.frm.length ∧ gm = s.frm.length - i) ∧ Hid (Ysp B w wr (.slice a1 s.ind.length c1) (.slice a2 s.que.length c2) (.slice a3 s.frm.length c3) s #[.slice a1 s.ind.length c1, .int .i64 s.pen, .slice a2 s.que.length c2, .slice a3 s.frm.length c3, .int .u16 (s.flg : Int)]))
          case atStart => exact ⟨0, rfl, ⟨Nat.zero_le _, rfl⟩, HY⟩
          case round =>
            clear HY
            obtain ⟨i, rfl, HI, HY⟩ := hrel
            obtain ⟨p0, p1, p2, p3, p4⟩ := box_cells HY.out.2.1
            by_cases hi : i < s.frm.length
            · obtain ⟨g, rfl⟩ := HFM.out.2.2 (by omega)
              have e1 : decide ((i : Int) < (s.frm.length : Int)) = true := by rw [decide_eq_true_eq]; omega
              have e2 : decide (i < s.frm.length) = true := by rw [decide_eq_true_eq]; omega
              have e5 : (i : Int) < (s.frm.length : Int) := by omega
              have HIL : Hid (i < s.frm.length) := hi
              have hwr := w64n i (by have := HL.out; omega)
              obtain ⟨s9, q1, q2, q3, -, -, ho9⟩ := HY.out.1
              have c0 := row_at ho9.f (i * 2) _ (fC_get s9.frm i (by omega)).1
              have cc := row_at ho9.f (i * 2 + 1) _ (fC_get s9.frm i (by omega)).2
              have fz : ∀ q, wr.frozen? ⟨g, q, none⟩ = false := by obtain ⟨_, cur, hh⟩ := row_tag ho9.f g rfl; exact fun q => Lib.frozen_of_heap hh q
              clear hi q1 q2 q3 ho9
              go_wp2_with fail
              go_roundg (s.frm.length - (i + 1))
              case measure => have := HI.out; have := HIL.out; omega
              case rel => exact ⟨i + 1, by first | rfl | (rw [show (i : Int) + 1 = ((i + 1 : Nat) : Int) by omega]), ⟨HIL.out, rfl⟩, HY.out.sf i (77, ⟨#[115, 112, 111, 105, 108, 116]⟩) HIL.out⟩
            · have e1 : decide ((i : Int) < (s.frm.length : Int)) = false := by rw [decide_eq_false_iff_not]; omega
              have e2 : decide (i < s.frm.length) = false := by rw [decide_eq_false_iff_not]; omega
              clear hi HI
              go_wp2_with fail
              obtain ⟨⟨s9, q1, q2, q3, q4, q5, ho9⟩, -, hc9⟩ := HY.out
              have HQ9 : Hid (s9.ind.length = s.ind.length ∧ s9.que.length = s.que.length ∧ s9.frm.length = s.frm.length ∧ s9.pen = s.pen ∧ s9.flg = s.flg) := ⟨q1, q2, q3, q4, q5⟩
              have HOO : Hid (Own B wr (.slice a1 s.ind.length c1) (.slice a2 s.que.length c2) (.slice a3 s.frm.length c3) s9) := ho9
              have HC9 : Hid (Cho w wr (.slice a1 s.ind.length c1) (.slice a2 s.que.length c2) (.slice a3 s.frm.length c3)) := hc9
              clear q1 q2 q3 q4 q5 ho9 hc9 p0 p1 p2 p3 p4 e1 e2
              go_loopg [5, 6, 7, 8] 40 (fun gm v5 v6 v7 v8 wq => ∃ j : Nat, v8 = .int .i64 (j : Int) ∧ Hid (j ≤ 40 ∧ gm = 40 - j) ∧ Hid (Lcl B w wq 3 1 (.slice a1 s.ind.length c1) s9.ind.length (iC s9.ind) v5 (s9.ind.length + j)) ∧ Hid (Lcl B w wq 9 1 (.slice a2 s.que.length c2) s9.que.length (qC s9.que) v6 (s9.que.length + j)) ∧ Hid (Lcl B w wq 42 2 (.slice a3 s.frm.length c3) s9.frm.length (fC s9.frm) v7 (s9.frm.length + j)) ∧ Hid (Cho w wq (.slice a1 s.ind.length c1) (.slice a2 s.que.length c2) (.slice a3 s.frm.length c3)))
              case atStart => exact ⟨0, rfl, ⟨by omega, rfl⟩, Lcl.init HOO.out.i, Lcl.init HOO.out.q, Lcl.init HOO.out.f, HC9⟩
              case round =>
                obtain ⟨j, rfl, HJ, H5, H6, H7, HC⟩ := hrel
                have HLL : Hid (s9.ind.length * 8 ≤ 140737488351232 ∧ s9.que.length * 16 ≤ 140737488351232 ∧ s9.frm.length * 24 ≤ 140737488351232) := by obtain ⟨h1, h2, h3, -, -⟩ := HQ9.out; obtain ⟨h4, h5, h6⟩ := HL.out; refine ⟨?_, ?_, ?_⟩ <;> omega
                by_cases hj : j < 40
                · have e1 : decide ((j : Int) < 40) = true := by rw [decide_eq_true_eq]; omega
                  have e2 : decide (j < 40) = true := by rw [decide_eq_true_eq]; omega
                  have HJL : Hid (j < 40) := hj
                  have hwr := w64n j (by omega)
                  clear hj
                  have HA : Hid (Lcl B w (wr.alloc (.cells #[.int .i64 7] 3)) 3 1 (.slice a1 s.ind.length c1) s9.ind.length (iC s9.ind) u5 (s9.ind.length + j)) := H5.out.up (bel_up _ _)
                  have HSB : Hid (B ≤ (wr.alloc (.cells #[.int .i64 7] 3)).heap.size ∧ w.heap.size ≤ (wr.alloc (.cells #[.int .i64 7] 3)).heap.size) := by have h1 := HC.out.size; have h2 := HB.out; rw [World.size_alloc]; exact ⟨by omega, by omega⟩
                  go_upto_region 20 with (at_builtin; refine wpList_append_lcl _ rfl _ _ 22 rfl 3 iE (.int .i64 0) 1 8 Try.underlying22 HI3.out.1 HI3.out.2.1 HI3.out.2.2.1 HI3.out.2.2.2 rfl (by decide) B w (.slice a1 s.ind.length c1) _ s9.ind.length _ (iC s9.ind) rfl HA.out HSB.out.1 HSB.out.2 ⟨wr.heap.size, 0, none⟩ 1 [.int .i64 7] rfl rfl (cell_one_new _ _ _) (by simp [Value.oneCell']) (by have := HLL.out; have := HJL.out; unfold maxLen; omega) (by have := HLL.out; have := HJL.out; omega) ?_; intro x5 w5 hl hx hg; obtain ⟨xs9, hx9⟩ := hx; have H5' : Hid (Lcl B w w5 3 1 (.slice a1 s.ind.length c1) s9.ind.length (iC s9.ind) x5 (s9.ind.length + j + 1)) := hl; have HC' : Hid (Cho w w5 (.slice a1 s.ind.length c1) (.slice a2 s.que.length c2) (.slice a3 s.frm.length c3)) := (HC.out.up (bel_up _ _)).grown hg (fun g hg9 => (HA.out.nw g hg9).elim (fun h9 => Or.inl (Or.inl h9)) Or.inr); have H6' : Hid _ := ((H6.out.up (bel_up _ _)).kept hx9 (by decide) hg); have H7' : Hid _ := ((H7.out.up (bel_up _ _)).kept hx9 (by decide) hg); clear hl hg hx9)
                  clear HA HSB HC
                  have HC : Hid (Cho w w5 (.slice a1 s.ind.length c1) (.slice a2 s.que.length c2) (.slice a3 s.frm.length c3)) := HC'.out
                  clear HC'
                  clear H5 H6 H7
                  have H6 : Hid _ := H6'.out
                  have H7 : Hid _ := H7'.out
                  clear H6' H7'
                  have HA : Hid (Lcl B w (w5.alloc (.cells #[.string ⟨#[115, 101, 118, 101, 110]⟩] 9)) 9 1 (.slice a2 s.que.length c2) s9.que.length (qC s9.que) u6 (s9.que.length + j)) := H6.out.up (bel_up _ _)
                  have HSB : Hid (B ≤ (w5.alloc (.cells #[.string ⟨#[115, 101, 118, 101, 110]⟩] 9)).heap.size ∧ w.heap.size ≤ (w5.alloc (.cells #[.string ⟨#[115, 101, 118, 101, 110]⟩] 9)).heap.size) := by have h1 := HC.out.size; have h2 := HB.out; rw [World.size_alloc]; exact ⟨by omega, by omega⟩
                  go_upto_region 21 with (at_builtin; refine wpList_append_lcl _ rfl _ _ 23 rfl 9 iQ (.string ⟨#[]⟩) 1 16 Try.underlying23 HI9.out.1 HI9.out.2.1 HI9.out.2.2.1 HI9.out.2.2.2 rfl (by decide) B w (.slice a2 s.que.length c2) _ s9.que.length _ (qC s9.que) rfl HA.out HSB.out.1 HSB.out.2 ⟨w5.heap.size, 0, none⟩ 1 [.string ⟨#[115, 101, 118, 101, 110]⟩] rfl rfl (cell_one_new _ _ _) (by simp [Value.oneCell']) (by have := HLL.out; have := HJL.out; unfold maxLen; omega) (by have := HLL.out; have := HJL.out; omega) ?_; intro x6 w6 hl hx hg; obtain ⟨xs9, hx9⟩ := hx; have H6' : Hid (Lcl B w w6 9 1 (.slice a2 s.que.length c2) s9.que.length (qC s9.que) x6 (s9.que.length + j + 1)) := hl; have HC' : Hid (Cho w w6 (.slice a1 s.ind.length c1) (.slice a2 s.que.length c2) (.slice a3 s.frm.length c3)) := (HC.out.up (bel_up _ _)).grown hg (fun g hg9 => (HA.out.nw g hg9).elim (fun h9 => Or.inl (Or.inr (Or.inl h9))) Or.inr); have H5'' : Hid _ := ((H5'.out.up (bel_up _ _)).kept hx9 (by decide) hg); have H7' : Hid _ := ((H7.out.up (bel_up _ _)).kept hx9 (by decide) hg); clear hl hg hx9)
                  clear HA HSB HC
                  have HC : Hid (Cho w w6 (.slice a1 s.ind.length c1) (.slice a2 s.que.length c2) (.slice a3 s.frm.length c3)) := HC'.out
                  clear HC'
                  clear H5' H6 H7
                  have H7 : Hid _ := H7'.out
                  clear H7'
                  have HA : Hid (Lcl B w (w6.alloc (.cells #[.int .i64 7, .string ⟨#[]⟩] 42)) 42 2 (.slice a3 s.frm.length c3) s9.frm.length (fC s9.frm) u7 (s9.frm.length + j)) := H7.out.up (bel_up _ _)
                  have HSB : Hid (B ≤ (w6.alloc (.cells #[.int .i64 7, .string ⟨#[]⟩] 42)).heap.size ∧ w.heap.size ≤ (w6.alloc (.cells #[.int .i64 7, .string ⟨#[]⟩] 42)).heap.size) := by have h1 := HC.out.size; have h2 := HB.out; rw [World.size_alloc]; exact ⟨by omega, by omega⟩
                  go_upto_region 18 with (at_builtin; refine wpList_append_lcl _ rfl _ _ 24 rfl 42 iF (.agg #[.int .i64 0, .string ⟨#[]⟩]) 2 24 Try.underlying24 HI54.out.1 HI54.out.2.1 HI54.out.2.2.1 HI54.out.2.2.2 rfl (by decide) B w (.slice a3 s.frm.length c3) _ s9.frm.length _ (fC s9.frm) rfl HA.out HSB.out.1 HSB.out.2 ⟨w6.heap.size, 0, none⟩ 1 [.int .i64 7, .string ⟨#[]⟩] rfl rfl (cell_two_new _ _ _ _) (by simp [Value.oneCell']) (by have := HLL.out; have := HJL.out; unfold maxLen; omega) (by have := HLL.out; have := HJL.out; omega) ?_; intro x7 w7 hl hx hg; obtain ⟨xs9, hx9⟩ := hx; have H7' : Hid (Lcl B w w7 42 2 (.slice a3 s.frm.length c3) s9.frm.length (fC s9.frm) x7 (s9.frm.length + j + 1)) := hl; have HC' : Hid (Cho w w7 (.slice a1 s.ind.length c1) (.slice a2 s.que.length c2) (.slice a3 s.frm.length c3)) := (HC.out.up (bel_up _ _)).grown hg (fun g hg9 => (HA.out.nw g hg9).elim (fun h9 => Or.inl (Or.inr (Or.inr h9))) Or.inr); have H5''' : Hid _ := ((H5''.out.up (bel_up _ _)).kept hx9 (by decide) hg); have H6'' : Hid _ := ((H6'.out.up (bel_up _ _)).kept hx9 (by decide) hg); clear hl hg hx9)
                  clear HA HSB HC
                  have HC : Hid (Cho w w7 (.slice a1 s.ind.length c1) (.slice a2 s.que.length c2) (.slice a3 s.frm.length c3)) := HC'.out
                  clear HC'
                  go_wp2_with fail
                  go_roundg (40 - (j + 1))
                  case measure => have := HJ.out; have := HJL.out; omega
                  case rel => exact ⟨j + 1, by first | rfl | (rw [show (j : Int) + 1 = ((j + 1 : Nat) : Int) by omega]), ⟨HJL.out, rfl⟩, H5''', H6'', H7', HC⟩
                · have e1 : decide ((j : Int) < 40) = false := by rw [decide_eq_false_iff_not]; omega
                  have e2 : decide (j < 40) = false := by rw [decide_eq_false_iff_not]; omega
                  clear hj
                  go_wp2_with fail
                  (try simp only [Exit.inBlock, Exit.then])
                  refine bodyPost_end (results_none rfl _ _ _) rfl ?_
                  refine ⟨⟨_, rfl⟩, ⟨s9, HQ9.out.1, HQ9.out.2.1, HQ9.out.2.2.1, HQ9.out.2.2.2.1, HQ9.out.2.2.2.2, H5.out.orig, H6.out.orig, H7.out.orig⟩, HC.out⟩
end Go.Proofs.Ytkaciochlemjiab
