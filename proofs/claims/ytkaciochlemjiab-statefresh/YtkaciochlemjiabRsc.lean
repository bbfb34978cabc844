import Derived.Test.YtkaciochlemjiabRsb
namespace Go.Proofs.Ytkaciochlemjiab
open Go.RowKit Go.Maps

set_option maxRecDepth 100000 in
set_option maxHeartbeats 8000000 in
theorem rframed_any {B : Nat} {vi vq vf : Value} {s : Stt} (k n mo : Int) (m : ByteArray) (w : World) (h : Own B w vi vq vf s) (hB : B ≤ w.heap.size) (hl : s.frm.length ≤ 1000000) (hm : m.size ≤ 140737488355328) :
    Calls Try.prog 45 #[sv vi vq vf s, av k n mo, .string m] w fun e w' => Ras B w (aEnter s n mo m) e w' := by
  obtain ⟨a1, c1, a2, c2, a3, c3, rfl, rfl, rfl⟩ := h.stm.form
  obtain ⟨W1, hW1⟩ : ∃ W1, W1 = ((w.alloc (.cells #[.slice a1 s.ind.length c1, .int .i64 s.pen, .slice a2 s.que.length c2, .slice a3 s.frm.length c3, .int .u16 (s.flg : Int)] 27)).alloc (.cells #[.int .i64 k, .int .i64 n, .int .i64 mo] 38)).alloc (.cells #[.slice none 0 0, .int .i64 0, .slice none 0 0, .slice none 0 0, .int .u16 0] 27) := ⟨_, rfl⟩
  have HW : Hid (W1 = ((w.alloc (.cells #[.slice a1 s.ind.length c1, .int .i64 s.pen, .slice a2 s.que.length c2, .slice a3 s.frm.length c3, .int .u16 (s.flg : Int)] 27)).alloc (.cells #[.int .i64 k, .int .i64 n, .int .i64 mo] 38)).alloc (.cells #[.slice none 0 0, .int .i64 0, .slice none 0 0, .slice none 0 0, .int .u16 0] 27)) := hW1
  have B1 : Hid (Below w.heap.size w W1) := by rw [hW1]; exact below_trans (below_trans (bel_up _ _) (bel_up _ _)) (bel_up _ _)
  have s1 : (w.alloc (.cells #[.slice a1 s.ind.length c1, .int .i64 s.pen, .slice a2 s.que.length c2, .slice a3 s.frm.length c3, .int .u16 (s.flg : Int)] 27)).heap.size = w.heap.size + 1 := World.size_alloc _ _
  have s2 : ((w.alloc (.cells #[.slice a1 s.ind.length c1, .int .i64 s.pen, .slice a2 s.que.length c2, .slice a3 s.frm.length c3, .int .u16 (s.flg : Int)] 27)).alloc (.cells #[.int .i64 k, .int .i64 n, .int .i64 mo] 38)).heap.size = w.heap.size + 1 + 1 := by rw [World.size_alloc, s1]
  have HP1 : Hid (W1.heap[w.heap.size]? = some (.cells #[.slice a1 s.ind.length c1, .int .i64 s.pen, .slice a2 s.que.length c2, .slice a3 s.frm.length c3, .int .u16 (s.flg : Int)] 27 (0, 0))) := by
    rw [hW1, (bel_up _ _).block _ (by rw [s2]; omega), (bel_up _ _).block _ (by rw [s1]; omega)]; exact heap_new w _
  have HP2 : Hid (W1.heap[w.heap.size + 1]? = some (.cells #[.int .i64 k, .int .i64 n, .int .i64 mo] 38 (0, 0))) := by
    rw [hW1, (bel_up _ _).block _ (by rw [s2]; omega)]
    have := heap_new (w.alloc (.cells #[.slice a1 s.ind.length c1, .int .i64 s.pen, .slice a2 s.que.length c2, .slice a3 s.frm.length c3, .int .u16 (s.flg : Int)] 27)) (.cells #[.int .i64 k, .int .i64 n, .int .i64 mo] 38)
    rw [s1] at this
    exact this
  have HP3 : Hid (W1.heap[w.heap.size + 1 + 1]? = some (.cells zrC 27 (0, 0))) := by
    rw [hW1]
    have := heap_new ((w.alloc (.cells #[.slice a1 s.ind.length c1, .int .i64 s.pen, .slice a2 s.que.length c2, .slice a3 s.frm.length c3, .int .u16 (s.flg : Int)] 27)).alloc (.cells #[.int .i64 k, .int .i64 n, .int .i64 mo] 38)) (.cells #[.slice none 0 0, .int .i64 0, .slice none 0 0, .slice none 0 0, .int .u16 0] 27)
    rw [s2] at this
    exact this
  have HNX : Hid (Nx B W1 w.heap.size (.slice a1 s.ind.length c1) (.slice a2 s.que.length c2) (.slice a3 s.frm.length c3) s) := ⟨HP1.out, h.up B1.out, hB, Nat.le_trans hB B1.out.size⟩
  have HBB : Hid (Below B w W1) := B1.out.mono hB
  have HB : Hid (B ≤ w.heap.size) := hB
  have HL : Hid (s.frm.length ≤ 1000000) := hl
  have HM : Hid (m.size ≤ 140737488355328) := hm
  obtain ⟨iF, hf3, hz0, hz1, hz2⟩ := info_parts info54
  have HI54 : Hid (Try.prog.info? 42 = some iF ∧ iF.zero = some (.agg #[.int .i64 0, .string ⟨#[]⟩]) ∧ iF.size = 2 ∧ iF.bytes = 24) := ⟨hf3, hz0, hz1, hz2⟩
  clear h hB hl hm hW1 s1 s2 hf3 hz0 hz1 hz2
  obtain ⟨p0, p1, p2, p3, p4⟩ := box_cells HP1.out
  have q0 := rcell HP2.out 0 (.int .i64 k) rfl
  have q1 := rcell HP2.out 1 (.int .i64 n) rfl
  have q2 := rcell HP2.out 2 (.int .i64 mo) rfl
  have z0 := rcell HP3.out 0 (.slice none 0 0) rfl
  have z1 := rcell HP3.out 1 (.int .i64 0) rfl
  have z2 := rcell HP3.out 2 (.slice none 0 0) rfl
  have z3 := rcell HP3.out 3 (.slice none 0 0) rfl
  have z4 := rcell HP3.out 4 (.int .u16 0) rfl
  have pz : ∀ q, W1.frozen? ⟨w.heap.size, q, none⟩ = false := fun q => Lib.frozen_of_heap HP1.out q
  have rz : ∀ q, W1.frozen? ⟨w.heap.size + 1 + 1, q, none⟩ = false := fun q => Lib.frozen_of_heap HP3.out q
  go_enter Try.func45, Try.ntmps45
  go_upto_region 1 with fail
  rw [← HW.out]
  by_cases hn1 : n < -1
  · have d1 : decide (0 ≤ n) = false := by rw [decide_eq_false_iff_not]; omega
    have d2 : decide (n < -1) = true := by rw [decide_eq_true_eq]; exact hn1
    have HE : Hid (aEnter s n mo m = .error 66) := by show _ = _; unfold aEnter; rw [if_pos (Or.inl hn1)]
    clear hn1
    go_wp2_with fail
    (try simp only [Exit.inBlock, Exit.then])
    refine bodyPost_ret (v := .tuple #[.agg #[.slice none 0 0, .int .i64 0, .slice none 0 0, .slice none 0 0, .int .u16 0], .int .i64 66]) ?_ rfl ⟨?_, .inr ⟨66, HE.out, rfl⟩⟩
    · rw [results_cell_tmp rfl]; go_simp
    · exact HBB.out.trans (below5 (by have := HB.out; omega))
  have d2 : decide (n < -1) = false := by rw [decide_eq_false_iff_not]; omega
  by_cases hn0 : 0 ≤ n
  · have d1 : decide (0 ≤ n) = true := by rw [decide_eq_true_eq]; exact hn0
    have CBE : Hid (∀ W : World, Calls Try.prog 66 #[.string m, .int .i64 n] W fun e w' => e = .returned (.string (beh m n.toNat)) ∧ w' = W) := fun W => rbehind_any m n hn0 W
    obtain ⟨d, hd⟩ : ∃ d, beh m n.toNat = d := ⟨_, rfl⟩
    have hdl : dlm m n = d := by unfold dlm; rw [if_pos hn0]; exact hd
    rw [hd] at CBE
    clear hd
    by_cases hm0 : mo < 0
    · have f1 : decide (mo < 0) = true := decide_eq_true hm0
      have HE : Hid (aEnter s n mo m = .error 66) := by show _ = _; unfold aEnter; rw [if_pos (Or.inr (by unfold isM; rw [decide_eq_false (by omega)]; rfl))]
      clear hm0
      go_wp2_with (go_at_call 66; refine (CBE.out _).mono ?_; rintro e w9 ⟨rfl, hw9⟩; rw [hw9]; clear hw9 w9)
      (try simp only [Exit.inBlock, Exit.then])
      refine bodyPost_ret (v := .tuple #[.agg #[.slice none 0 0, .int .i64 0, .slice none 0 0, .slice none 0 0, .int .u16 0], .int .i64 66]) ?_ rfl ⟨?_, .inr ⟨66, HE.out, rfl⟩⟩
      · rw [results_cell_tmp rfl]; go_simp
      · exact HBB.out.trans (below5 (by have := HB.out; omega))
    have f1 : decide (mo < 0) = false := decide_eq_false hm0
    by_cases hm1 : 16 ≤ mo
    · have f2 : decide (16 ≤ mo) = true := decide_eq_true hm1
      have HE : Hid (aEnter s n mo m = .error 66) := by show _ = _; unfold aEnter; rw [if_pos (Or.inr (by unfold isM; rw [decide_eq_false (show ¬ (mo < 16) by omega), Bool.and_false]))]
      clear hm0 hm1
      go_wp2_with (go_at_call 66; refine (CBE.out _).mono ?_; rintro e w9 ⟨rfl, hw9⟩; rw [hw9]; clear hw9 w9)
      (try simp only [Exit.inBlock, Exit.then])
      refine bodyPost_ret (v := .tuple #[.agg #[.slice none 0 0, .int .i64 0, .slice none 0 0, .slice none 0 0, .int .u16 0], .int .i64 66]) ?_ rfl ⟨?_, .inr ⟨66, HE.out, rfl⟩⟩
      · rw [results_cell_tmp rfl]; go_simp
      · exact HBB.out.trans (below5 (by have := HB.out; omega))
    have f2 : decide (16 ≤ mo) = false := decide_eq_false hm1
    have hno : ¬ (n < -1 ∨ isM mo = false) := by
      rintro (h1 | h1)
      · omega
      · unfold isM at h1; rw [decide_eq_true (show 0 ≤ mo by omega), decide_eq_true (show mo < 16 by omega)] at h1; cases h1
    have HA : Hid (aEnter s n mo m = if 16 < (d : ByteArray).size then .error 63 else if s.frm.length = 16 then .error 62 else .ok { s with frm := s.frm ++ [(mo, d)] }) := by show _ = _; unfold aEnter; rw [if_neg hno, hdl]
    clear hno hm0 hm1 hdl
    by_cases hs1 : 16 < d.size
    · have f3 : decide ((16 : Int) < (d.size : Int)) = true := by rw [decide_eq_true_eq]; omega
      have f4 : decide (16 < d.size) = true := by rw [decide_eq_true_eq]; omega
      have HE : Hid (aEnter s n mo m = .error 63) := by rw [HA.out, if_pos hs1]; exact rfl
      clear hs1
      go_wp2_with (go_at_call 66; refine (CBE.out _).mono ?_; rintro e w9 ⟨rfl, hw9⟩; rw [hw9]; clear hw9 w9)
      (try simp only [Exit.inBlock, Exit.then])
      refine bodyPost_ret (v := .tuple #[.agg #[.slice none 0 0, .int .i64 0, .slice none 0 0, .slice none 0 0, .int .u16 0], .int .i64 63]) ?_ rfl ⟨?_, .inr ⟨63, HE.out, rfl⟩⟩
      · rw [results_cell_tmp rfl]; go_simp
      · exact HBB.out.trans (below5 (by have := HB.out; omega))
    have f3 : decide ((16 : Int) < (d.size : Int)) = false := by rw [decide_eq_false_iff_not]; omega
    have f4 : decide (16 < d.size) = false := by rw [decide_eq_false_iff_not]; omega
    have HA2 : Hid (aEnter s n mo m = if s.frm.length = 16 then .error 62 else .ok { s with frm := s.frm ++ [(mo, d)] }) := by rw [HA.out, if_neg hs1]; exact rfl
    clear hs1
    by_cases hq8 : s.frm.length = 16
    · have g1 : ((s.frm.length : Int) == 16) = true := by rw [beq_iff_eq]; omega
      have g2 : (s.frm.length == 16) = true := by rw [beq_iff_eq]; omega
      have HE : Hid (aEnter s n mo m = .error 62) := by rw [HA2.out, if_pos hq8]; exact rfl
      clear hq8
      go_wp2_with (go_at_call 66; refine (CBE.out _).mono ?_; rintro e w9 ⟨rfl, hw9⟩; rw [hw9]; clear hw9 w9)
      (try simp only [Exit.inBlock, Exit.then])
      refine bodyPost_ret (v := .tuple #[.agg #[.slice none 0 0, .int .i64 0, .slice none 0 0, .slice none 0 0, .int .u16 0], .int .i64 62]) ?_ rfl ⟨?_, .inr ⟨62, HE.out, rfl⟩⟩
      · rw [results_cell_tmp rfl]; go_simp
      · exact HBB.out.trans (below5 (by have := HB.out; omega))
    have g1 : ((s.frm.length : Int) == 16) = false := by rw [beq_eq_false_iff_ne]; omega
    have g2 : (s.frm.length == 16) = false := by rw [beq_eq_false_iff_ne]; omega
    have HE : Hid (aEnter s n mo m = .ok { s with frm := s.frm ++ [(mo, d)] }) := by rw [HA2.out, if_neg hq8]; exact rfl
    clear hq8
    have HNA : Hid (Nx B (W1.alloc (.cells #[.int .i64 mo, .string d] 42)) w.heap.size (.slice a1 s.ind.length c1) (.slice a2 s.que.length c2) (.slice a3 s.frm.length c3) s) := HNX.out.up (bel_up _ _)
    have HZA : Hid ((W1.alloc (.cells #[.int .i64 mo, .string d] 42)).heap[w.heap.size + 1 + 1]? = some (.cells zrC 27 (0, 0))) := ((bel_up W1 (.cells #[.int .i64 mo, .string d] 42)).block _ (lt_of_heap HP3.out)).trans HP3.out
    go_upto_region 10 with (go_at_call 66; refine (CBE.out _).mono ?_; rintro e w9 ⟨rfl, hw9⟩; rw [hw9]; clear hw9 w9)
    go_upto_region 11 with (at_builtin; refine wpList_append_own _ rfl _ _ 24 rfl B 42 iF (.agg #[.int .i64 0, .string ⟨#[]⟩]) 2 24 Try.underlying24 HI54.out.1 HI54.out.2.1 HI54.out.2.2.1 HI54.out.2.2.2 rfl (by decide) _ _ _ rfl HNA.out.own.f ⟨W1.heap.size, 0, none⟩ 1 1 [.int .i64 mo, .string d] rfl rfl (cell_two_new _ _ _ _) (by simp [Value.oneCell']) (by have := HL.out; unfold maxLen; omega) (by have := HL.out; omega) HNA.out.lB ?_; intro v6 w6 ho6 hg6 _; have hnn := HNA.out.appF (x := (mo, d)) hg6 (by rw [List.length_append, fC_app]; exact ho6); have HN6 : Hid _ := hnn.1; have HB6 : Hid _ := hnn.2; have HZ6 : Hid (w6.heap[w.heap.size + 1 + 1]? = some (.cells zrC 27 (0, 0))) := (hg6.block _ (lt_of_heap HZA.out) (fun e => tag_ne_blk HNA.out.own.f HZA.out (by decide) e.symm)).trans HZA.out; have hfz6 : w6.frozen? ⟨w.heap.size, 3, none⟩ = false := froz_of hg6 HNA.out.blk HNA.out.own.f (by decide); have hc6 : w6.cell? ⟨w.heap.size, 3, none⟩ = some (.slice a3 s.frm.length c3) := cel_of hg6 HNA.out.blk HNA.out.own.f (by decide) rfl; clear hnn; obtain ⟨qa, qc, rfl⟩ := row_shape ho6; clear ho6 hg6)
    clear p0 p1 p2 p3 p4 z0 z1 z2 z3 z4 q0 q1 q2 rz pz hfz6 hc6
    obtain ⟨W7, hW7⟩ : ∃ W7, W7 = w6.setCell ⟨w.heap.size, 3, none⟩ (.slice qa (s.frm.length + 1) qc) := ⟨_, rfl⟩
    rw [← hW7]
    rw [← hW7] at HN6 HB6
    have HZ7 : Hid (W7.heap[w.heap.size + 1 + 1]? = some (.cells zrC 27 (0, 0))) := by rw [hW7, Below.heap_setCell _ _ _ _ (by simp <;> omega)]; exact HZ6.out
    have HBF : Hid (Below B w W7) := HBB.out.trans (((bel_up W1 (.cells #[.int .i64 mo, .string d] 42)).mono (Nat.le_trans HB.out B1.out.size)).trans HB6.out)
    clear hW7
    obtain ⟨p0, p1, p2, p3, p4⟩ := box_cells (x0 := .slice a1 s.ind.length c1) (x1 := .int .i64 s.pen) (x2 := .slice a2 s.que.length c2) (x3 := .slice qa (s.frm.length + 1) qc) (x4 := .int .u16 (s.flg : Int)) HN6.out.blk
    have z0 := rcell HZ7.out 0 (.slice none 0 0) rfl
    have z1 := rcell HZ7.out 1 (.int .i64 0) rfl
    have z2 := rcell HZ7.out 2 (.slice none 0 0) rfl
    have z3 := rcell HZ7.out 3 (.slice none 0 0) rfl
    have z4 := rcell HZ7.out 4 (.int .u16 0) rfl
    have rz : ∀ q, W7.frozen? ⟨w.heap.size + 1 + 1, q, none⟩ = false := fun q => Lib.frozen_of_heap HZ7.out q
    go_wp2_with fail
    (try simp only [Exit.inBlock, Exit.then])
    refine bodyPost_ret (v := .tuple #[sv (.slice a1 s.ind.length c1) (.slice a2 s.que.length c2) (.slice qa (s.frm.length + 1) qc) { s with frm := s.frm ++ [(mo, d)] }, .int .i64 0]) ?_ rfl ⟨?_, .inl ⟨{ s with frm := s.frm ++ [(mo, d)] }, _, _, _, HE.out, rfl, own_five HN6.out.own HZ7.out⟩⟩
    · rw [results_cell_tmp rfl]; go_simp
    · exact HBF.out.trans (below5 (by have := HB.out; omega))
  · have d1 : decide (0 ≤ n) = false := by rw [decide_eq_false_iff_not]; exact hn0
    have hdl : dlm m n = ⟨#[]⟩ := by unfold dlm; rw [if_neg hn0]
    by_cases hm0 : mo < 0
    · have f1 : decide (mo < 0) = true := decide_eq_true hm0
      have HE : Hid (aEnter s n mo m = .error 66) := by show _ = _; unfold aEnter; rw [if_pos (Or.inr (by unfold isM; rw [decide_eq_false (by omega)]; rfl))]
      clear hm0
      go_wp2_with fail
      (try simp only [Exit.inBlock, Exit.then])
      refine bodyPost_ret (v := .tuple #[.agg #[.slice none 0 0, .int .i64 0, .slice none 0 0, .slice none 0 0, .int .u16 0], .int .i64 66]) ?_ rfl ⟨?_, .inr ⟨66, HE.out, rfl⟩⟩
      · rw [results_cell_tmp rfl]; go_simp
      · exact HBB.out.trans (below5 (by have := HB.out; omega))
    have f1 : decide (mo < 0) = false := decide_eq_false hm0
    by_cases hm1 : 16 ≤ mo
    · have f2 : decide (16 ≤ mo) = true := decide_eq_true hm1
      have HE : Hid (aEnter s n mo m = .error 66) := by show _ = _; unfold aEnter; rw [if_pos (Or.inr (by unfold isM; rw [decide_eq_false (show ¬ (mo < 16) by omega), Bool.and_false]))]
      clear hm0 hm1
      go_wp2_with fail
      (try simp only [Exit.inBlock, Exit.then])
      refine bodyPost_ret (v := .tuple #[.agg #[.slice none 0 0, .int .i64 0, .slice none 0 0, .slice none 0 0, .int .u16 0], .int .i64 66]) ?_ rfl ⟨?_, .inr ⟨66, HE.out, rfl⟩⟩
      · rw [results_cell_tmp rfl]; go_simp
      · exact HBB.out.trans (below5 (by have := HB.out; omega))
    have f2 : decide (16 ≤ mo) = false := decide_eq_false hm1
    have hno : ¬ (n < -1 ∨ isM mo = false) := by
      rintro (h1 | h1)
      · omega
      · unfold isM at h1; rw [decide_eq_true (show 0 ≤ mo by omega), decide_eq_true (show mo < 16 by omega)] at h1; cases h1
    have HA : Hid (aEnter s n mo m = if 16 < (⟨#[]⟩ : ByteArray).size then .error 63 else if s.frm.length = 16 then .error 62 else .ok { s with frm := s.frm ++ [(mo, ⟨#[]⟩)] }) := by show _ = _; unfold aEnter; rw [if_neg hno, hdl]
    clear hno hm0 hm1 hdl
    have HA2 : Hid (aEnter s n mo m = if s.frm.length = 16 then .error 62 else .ok { s with frm := s.frm ++ [(mo, ⟨#[]⟩)] }) := by rw [HA.out, if_neg (by decide)]; exact rfl
    by_cases hq8 : s.frm.length = 16
    · have g1 : ((s.frm.length : Int) == 16) = true := by rw [beq_iff_eq]; omega
      have g2 : (s.frm.length == 16) = true := by rw [beq_iff_eq]; omega
      have HE : Hid (aEnter s n mo m = .error 62) := by rw [HA2.out, if_pos hq8]; exact rfl
      clear hq8
      go_wp2_with fail
      (try simp only [Exit.inBlock, Exit.then])
      refine bodyPost_ret (v := .tuple #[.agg #[.slice none 0 0, .int .i64 0, .slice none 0 0, .slice none 0 0, .int .u16 0], .int .i64 62]) ?_ rfl ⟨?_, .inr ⟨62, HE.out, rfl⟩⟩
      · rw [results_cell_tmp rfl]; go_simp
      · exact HBB.out.trans (below5 (by have := HB.out; omega))
    have g1 : ((s.frm.length : Int) == 16) = false := by rw [beq_eq_false_iff_ne]; omega
    have g2 : (s.frm.length == 16) = false := by rw [beq_eq_false_iff_ne]; omega
    have HE : Hid (aEnter s n mo m = .ok { s with frm := s.frm ++ [(mo, ⟨#[]⟩)] }) := by rw [HA2.out, if_neg hq8]; exact rfl
    clear hq8
    have HNA : Hid (Nx B (W1.alloc (.cells #[.int .i64 mo, .string ⟨#[]⟩] 42)) w.heap.size (.slice a1 s.ind.length c1) (.slice a2 s.que.length c2) (.slice a3 s.frm.length c3) s) := HNX.out.up (bel_up _ _)
    have HZA : Hid ((W1.alloc (.cells #[.int .i64 mo, .string ⟨#[]⟩] 42)).heap[w.heap.size + 1 + 1]? = some (.cells zrC 27 (0, 0))) := ((bel_up W1 (.cells #[.int .i64 mo, .string ⟨#[]⟩] 42)).block _ (lt_of_heap HP3.out)).trans HP3.out
    go_upto_region 10 with fail
    go_upto_region 11 with (at_builtin; refine wpList_append_own _ rfl _ _ 24 rfl B 42 iF (.agg #[.int .i64 0, .string ⟨#[]⟩]) 2 24 Try.underlying24 HI54.out.1 HI54.out.2.1 HI54.out.2.2.1 HI54.out.2.2.2 rfl (by decide) _ _ _ rfl HNA.out.own.f ⟨W1.heap.size, 0, none⟩ 1 1 [.int .i64 mo, .string ⟨#[]⟩] rfl rfl (cell_two_new _ _ _ _) (by simp [Value.oneCell']) (by have := HL.out; unfold maxLen; omega) (by have := HL.out; omega) HNA.out.lB ?_; intro v6 w6 ho6 hg6 _; have hnn := HNA.out.appF (x := (mo, ⟨#[]⟩)) hg6 (by rw [List.length_append, fC_app]; exact ho6); have HN6 : Hid _ := hnn.1; have HB6 : Hid _ := hnn.2; have HZ6 : Hid (w6.heap[w.heap.size + 1 + 1]? = some (.cells zrC 27 (0, 0))) := (hg6.block _ (lt_of_heap HZA.out) (fun e => tag_ne_blk HNA.out.own.f HZA.out (by decide) e.symm)).trans HZA.out; have hfz6 : w6.frozen? ⟨w.heap.size, 3, none⟩ = false := froz_of hg6 HNA.out.blk HNA.out.own.f (by decide); have hc6 : w6.cell? ⟨w.heap.size, 3, none⟩ = some (.slice a3 s.frm.length c3) := cel_of hg6 HNA.out.blk HNA.out.own.f (by decide) rfl; clear hnn; obtain ⟨qa, qc, rfl⟩ := row_shape ho6; clear ho6 hg6)
    clear p0 p1 p2 p3 p4 z0 z1 z2 z3 z4 q0 q1 q2 rz pz hfz6 hc6
    obtain ⟨W7, hW7⟩ : ∃ W7, W7 = w6.setCell ⟨w.heap.size, 3, none⟩ (.slice qa (s.frm.length + 1) qc) := ⟨_, rfl⟩
    rw [← hW7]
    rw [← hW7] at HN6 HB6
    have HZ7 : Hid (W7.heap[w.heap.size + 1 + 1]? = some (.cells zrC 27 (0, 0))) := by rw [hW7, Below.heap_setCell _ _ _ _ (by simp <;> omega)]; exact HZ6.out
    have HBF : Hid (Below B w W7) := HBB.out.trans (((bel_up W1 (.cells #[.int .i64 mo, .string ⟨#[]⟩] 42)).mono (Nat.le_trans HB.out B1.out.size)).trans HB6.out)
    clear hW7
    obtain ⟨p0, p1, p2, p3, p4⟩ := box_cells (x0 := .slice a1 s.ind.length c1) (x1 := .int .i64 s.pen) (x2 := .slice a2 s.que.length c2) (x3 := .slice qa (s.frm.length + 1) qc) (x4 := .int .u16 (s.flg : Int)) HN6.out.blk
    have z0 := rcell HZ7.out 0 (.slice none 0 0) rfl
    have z1 := rcell HZ7.out 1 (.int .i64 0) rfl
    have z2 := rcell HZ7.out 2 (.slice none 0 0) rfl
    have z3 := rcell HZ7.out 3 (.slice none 0 0) rfl
    have z4 := rcell HZ7.out 4 (.int .u16 0) rfl
    have rz : ∀ q, W7.frozen? ⟨w.heap.size + 1 + 1, q, none⟩ = false := fun q => Lib.frozen_of_heap HZ7.out q
    go_wp2_with fail
    (try simp only [Exit.inBlock, Exit.then])
    refine bodyPost_ret (v := .tuple #[sv (.slice a1 s.ind.length c1) (.slice a2 s.que.length c2) (.slice qa (s.frm.length + 1) qc) { s with frm := s.frm ++ [(mo, ⟨#[]⟩)] }, .int .i64 0]) ?_ rfl ⟨?_, .inl ⟨{ s with frm := s.frm ++ [(mo, ⟨#[]⟩)] }, _, _, _, HE.out, rfl, own_five HN6.out.own HZ7.out⟩⟩
    · rw [results_cell_tmp rfl]; go_simp
    · exact HBF.out.trans (below5 (by have := HB.out; omega))

set_option maxRecDepth 100000 in
set_option maxHeartbeats 8000000 in
theorem rflagged_any {vi vq vf : Value} {s : Stt} (n : Int) (on : Bool) (w : World) (h : Stm w vi vq vf s) (hf : s.flg < 65536) (h0 : 0 ≤ n) (h16 : n < 16) :
    Calls Try.prog 46 #[sv vi vq vf s, .int .i64 n, .bool on] w fun e w' => e = .returned (sv vi vq vf { s with flg := if on then s.flg ||| 2 ^ n.toNat else s.flg &&& (65535 - 2 ^ n.toNat) }) ∧ Below w.heap.size w w' := by
  obtain ⟨a1, c1, a2, c2, a3, c3, rfl, rfl, rfl⟩ := h.form
  obtain ⟨W1, hW1⟩ : ∃ W1, W1 = (w.alloc (.cells #[.slice a1 s.ind.length c1, .int .i64 s.pen, .slice a2 s.que.length c2, .slice a3 s.frm.length c3, .int .u16 (s.flg : Int)] 27)).alloc (.cells #[.slice none 0 0, .int .i64 0, .slice none 0 0, .slice none 0 0, .int .u16 0] 27) := ⟨_, rfl⟩
  have HW : Hid (W1 = (w.alloc (.cells #[.slice a1 s.ind.length c1, .int .i64 s.pen, .slice a2 s.que.length c2, .slice a3 s.frm.length c3, .int .u16 (s.flg : Int)] 27)).alloc (.cells #[.slice none 0 0, .int .i64 0, .slice none 0 0, .slice none 0 0, .int .u16 0] 27)) := hW1
  have B1 : Hid (Below w.heap.size w W1) := by rw [hW1]; exact below_trans (bel_up _ _) (bel_up _ _)
  have HP1 : Hid (W1.heap[w.heap.size]? = some (.cells #[.slice a1 s.ind.length c1, .int .i64 s.pen, .slice a2 s.que.length c2, .slice a3 s.frm.length c3, .int .u16 (s.flg : Int)] 27 (0, 0))) := by
    rw [hW1, (bel_up _ _).block _ (by simp)]; exact heap_new w _
  have HP2 : Hid (W1.heap[w.heap.size + 1]? = some (.cells zrC 27 (0, 0))) := by
    rw [hW1]
    have := heap_new (w.alloc (.cells #[.slice a1 s.ind.length c1, .int .i64 s.pen, .slice a2 s.que.length c2, .slice a3 s.frm.length c3, .int .u16 (s.flg : Int)] 27)) (.cells #[.slice none 0 0, .int .i64 0, .slice none 0 0, .slice none 0 0, .int .u16 0] 27)
    rw [World.size_alloc] at this
    exact this
  have HS : Hid (Stm W1 (.slice a1 s.ind.length c1) (.slice a2 s.que.length c2) (.slice a3 s.frm.length c3) s) := h.up B1.out
  have HF : Hid (s.flg < 65536) := hf
  have HN : Hid (0 ≤ n ∧ n < 16) := ⟨h0, h16⟩
  obtain ⟨F, hF⟩ : ∃ F, (if on then s.flg ||| 2 ^ n.toNat else s.flg &&& (65535 - 2 ^ n.toNat)) = F := ⟨_, rfl⟩
  have HFF : Hid ((if on then s.flg ||| 2 ^ n.toNat else s.flg &&& (65535 - 2 ^ n.toNat)) = F) := hF
  rw [hF]
  clear h hf h0 h16 hW1 hF
  go_enter Try.func46, Try.ntmps46
  go_upto_region 1 with fail
  rw [← HW.out]
  obtain ⟨p0, p1, p2, p3, p4⟩ := box_cells HP1.out
  go_wp2_with fail
  refine (rbit_any n W1 HS.out HF.out HN.out.1 HN.out.2).mono ?_
  rintro e w2 ⟨rfl, hb⟩
  have B2 : Hid (Below W1.heap.size W1 w2) := hb
  have HQ1 : Hid (w2.heap[w.heap.size]? = some (.cells #[.slice a1 s.ind.length c1, .int .i64 s.pen, .slice a2 s.que.length c2, .slice a3 s.frm.length c3, .int .u16 (s.flg : Int)] 27 (0, 0))) := (hb.block _ (lt_of_heap HP1.out)).trans HP1.out
  have HQ2 : Hid (w2.heap[w.heap.size + 1]? = some (.cells zrC 27 (0, 0))) := (hb.block _ (lt_of_heap HP2.out)).trans HP2.out
  clear hb p0 p1 p2 p3 p4
  have HBW : Hid (Below w.heap.size w w2) := below_trans B1.out B2.out
  obtain ⟨p0, p1, p2, p3, p4⟩ := box_cells HQ1.out
  have z0 := rcell HQ2.out 0 (.slice none 0 0) rfl
  have z1 := rcell HQ2.out 1 (.int .i64 0) rfl
  have z2 := rcell HQ2.out 2 (.slice none 0 0) rfl
  have z3 := rcell HQ2.out 3 (.slice none 0 0) rfl
  have z4 := rcell HQ2.out 4 (.int .u16 0) rfl
  have pz : ∀ q, w2.frozen? ⟨w.heap.size, q, none⟩ = false := fun q => Lib.frozen_of_heap HQ1.out q
  have rz : ∀ q, w2.frozen? ⟨w.heap.size + 1, q, none⟩ = false := fun q => Lib.frozen_of_heap HQ2.out q
  cases hbt : s.flg.testBit n.toNat <;> cases on
  · have HE : Hid (F = s.flg) := by rw [← HFF.out]; exact by rw [if_neg (by decide)]; exact and_same _ _ (by have := HN.out; omega) HF.out hbt
    clear hbt
    go_wp2_with fail
    (try simp only [Exit.inBlock, Exit.then])
    refine bodyPost_ret (v := .agg #[.slice a1 s.ind.length c1, .int .i64 s.pen, .slice a2 s.que.length c2, .slice a3 s.frm.length c3, .int .u16 (s.flg : Int)]) ?_ rfl ⟨by rw [HE.out], ?_⟩
    · rw [results_cell1 rfl]; go_simp
    · exact bel_five HBW.out (by omega)
  · have HE : Hid (F = s.flg + 2 ^ n.toNat ∧ F < 65536) := by
      show _
      have hF := HFF.out
      rw [if_pos rfl, or_add _ _ hbt] at hF
      have hlt : s.flg ||| 2 ^ n.toNat < 2 ^ 16 := Nat.or_lt_two_pow (by have := HF.out; omega) (Nat.pow_lt_pow_right (by omega) (by have := HN.out; omega))
      rw [or_add _ _ hbt] at hlt
      exact ⟨hF.symm, by omega⟩
    have hfl : s.flg < 65536 := HF.out
    clear hbt
    go_wp2_with fail
    go_loopg [8, 9] n.toNat (fun gm v8 v9 wr => ∃ i p : Nat, v8 = .int .i64 (p : Int) ∧ v9 = .int .i64 (i : Int) ∧ wr = w2 ∧ Hid (i ≤ n.toNat ∧ gm = n.toNat - i) ∧ Hid (p = 2 ^ i))
    case atStart => exact ⟨0, 1, rfl, rfl, rfl, ⟨Nat.zero_le _, rfl⟩, rfl⟩
    case round =>
      obtain ⟨i, p, rfl, rfl, hwe, HI, HP⟩ := hrel
      subst hwe
      have hpb : p ≤ 65536 := by
        rw [HP.out, show 65536 = 2 ^ 16 by rfl]
        exact Nat.pow_le_pow_right (by omega) (by have := HI.out; have := HN.out; omega)
      by_cases hi : i < n.toNat
      · have e1 : decide ((i : Int) < n) = true := by rw [decide_eq_true_eq]; omega
        have HIL : Hid (i < n.toNat) := hi
        have hwr := w64n i (by have := HN.out; omega)
        have HSN : Hid (p * 2 = 2 ^ (i + 1)) := by show _ = _; rw [HP.out, Nat.pow_succ]
        clear hi
        go_wp2_with fail
        go_roundg (n.toNat - (i + 1))
        case measure => have := HI.out; have := HIL.out; omega
        case rel => exact ⟨i + 1, p * 2, by first | rfl | (congr 1; omega), by first | rfl | (rw [show (i : Int) + 1 = ((i + 1 : Nat) : Int) by omega]), rfl, ⟨HIL.out, rfl⟩, HSN⟩
      · have e1 : decide ((i : Int) < n) = false := by rw [decide_eq_false_iff_not]; omega
        have HPE : Hid (p = 2 ^ n.toNat) := by
          have hii : i = n.toNat := by have := HI.out; omega
          show _ = _
          rw [HP.out, hii]
        rw [← HPE.out] at HE
        have hfx : ((s.flg : Int) + (p : Int)) % 65536 = (F : Int) := by have := HE.out; omega
        have hfy : (s.flg : Int) + (p : Int) = (F : Int) := by have := HE.out; omega
        clear hi
        go_wp2_with fail
        (try simp only [Exit.inBlock, Exit.then])
        refine bodyPost_ret (v := .agg #[.slice a1 s.ind.length c1, .int .i64 s.pen, .slice a2 s.que.length c2, .slice a3 s.frm.length c3, .int .u16 (F : Int)]) ?_ rfl ⟨rfl, ?_⟩
        · rw [results_cell1 rfl]; go_simp
        · exact bel_five (HBW.out.trans ((Below.refl _ _).setCell (p := ⟨w.heap.size, 4, none⟩) (Nat.le_refl _) _)) (by omega)
  · have HE : Hid (F + 2 ^ n.toNat = s.flg ∧ F < 65536) := by
      show _
      have hF := HFF.out
      rw [if_neg (by decide), and_sub _ _ (by have := HN.out; omega) HF.out hbt] at hF
      have hle := (bit_sub _ _ hbt).1
      exact ⟨by rw [← hF]; exact Nat.sub_add_cancel hle, by have := HF.out; have := Nat.sub_le s.flg (2 ^ n.toNat); omega⟩
    have hfl : s.flg < 65536 := HF.out
    clear hbt
    go_wp2_with fail
    go_loopg [8, 9] n.toNat (fun gm v8 v9 wr => ∃ i p : Nat, v8 = .int .i64 (p : Int) ∧ v9 = .int .i64 (i : Int) ∧ wr = w2 ∧ Hid (i ≤ n.toNat ∧ gm = n.toNat - i) ∧ Hid (p = 2 ^ i))
    case atStart => exact ⟨0, 1, rfl, rfl, rfl, ⟨Nat.zero_le _, rfl⟩, rfl⟩
    case round =>
      obtain ⟨i, p, rfl, rfl, hwe, HI, HP⟩ := hrel
      subst hwe
      have hpb : p ≤ 65536 := by
        rw [HP.out, show 65536 = 2 ^ 16 by rfl]
        exact Nat.pow_le_pow_right (by omega) (by have := HI.out; have := HN.out; omega)
      by_cases hi : i < n.toNat
      · have e1 : decide ((i : Int) < n) = true := by rw [decide_eq_true_eq]; omega
        have HIL : Hid (i < n.toNat) := hi
        have hwr := w64n i (by have := HN.out; omega)
        have HSN : Hid (p * 2 = 2 ^ (i + 1)) := by show _ = _; rw [HP.out, Nat.pow_succ]
        clear hi
        go_wp2_with fail
        go_roundg (n.toNat - (i + 1))
        case measure => have := HI.out; have := HIL.out; omega
        case rel => exact ⟨i + 1, p * 2, by first | rfl | (congr 1; omega), by first | rfl | (rw [show (i : Int) + 1 = ((i + 1 : Nat) : Int) by omega]), rfl, ⟨HIL.out, rfl⟩, HSN⟩
      · have e1 : decide ((i : Int) < n) = false := by rw [decide_eq_false_iff_not]; omega
        have HPE : Hid (p = 2 ^ n.toNat) := by
          have hii : i = n.toNat := by have := HI.out; omega
          show _ = _
          rw [HP.out, hii]
        rw [← HPE.out] at HE
        have hfx : ((s.flg : Int) + -(p : Int)) % 65536 = (F : Int) := by have := HE.out; omega
        have hfy : (s.flg : Int) + -(p : Int) = (F : Int) := by have := HE.out; omega
        clear hi
        go_wp2_with fail
        (try simp only [Exit.inBlock, Exit.then])
        refine bodyPost_ret (v := .agg #[.slice a1 s.ind.length c1, .int .i64 s.pen, .slice a2 s.que.length c2, .slice a3 s.frm.length c3, .int .u16 (F : Int)]) ?_ rfl ⟨rfl, ?_⟩
        · rw [results_cell1 rfl]; go_simp
        · exact bel_five (HBW.out.trans ((Below.refl _ _).setCell (p := ⟨w.heap.size, 4, none⟩) (Nat.le_refl _) _)) (by omega)
  · have HE : Hid (F = s.flg) := by rw [← HFF.out]; exact by rw [if_pos rfl]; exact or_same _ _ hbt
    clear hbt
    go_wp2_with fail
    (try simp only [Exit.inBlock, Exit.then])
    refine bodyPost_ret (v := .agg #[.slice a1 s.ind.length c1, .int .i64 s.pen, .slice a2 s.que.length c2, .slice a3 s.frm.length c3, .int .u16 (s.flg : Int)]) ?_ rfl ⟨by rw [HE.out], ?_⟩
    · rw [results_cell1 rfl]; go_simp
    · exact bel_five HBW.out (by omega)
end Go.Proofs.Ytkaciochlemjiab
