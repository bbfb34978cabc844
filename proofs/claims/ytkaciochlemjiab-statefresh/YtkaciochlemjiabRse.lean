import Derived.Test.YtkaciochlemjiabRsd
namespace Go.Proofs.Ytkaciochlemjiab
open Go.RowKit Go.Maps

theorem shp_lim {s : Stt} (h : s.shp = true) : s.ind.length ≤ 32 ∧ s.que.length ≤ 8 ∧ s.frm.length ≤ 16 := by
  have := (shp_iff s).1 h
  exact ⟨this.1.1, this.2.2.1.1, this.2.2.2.1⟩
set_option maxRecDepth 100000 in
set_option maxHeartbeats 16000000 in
theorem rdo_any {vi vq vf : Value} {s : Stt} (k n mo : Int) (m : ByteArray) (w : World) (h : Stm w vi vq vf s) (hf : s.flg < 65536) (hq : ∀ d ∈ s.que, d.size ≤ 9223372036854775807) (hm : m.size ≤ 140737488355328) :
    Calls Try.prog 19 #[sv vi vq vf s, av k n mo, .string m] w fun e w' => Ral w (if s.shp then act s k n mo m else .error 65) e w' := by
  obtain ⟨a1, c1, a2, c2, a3, c3, rfl, rfl, rfl⟩ := h.form
  obtain ⟨W1, hW1⟩ : ∃ W1, W1 = ((w.alloc (.cells #[.slice a1 s.ind.length c1, .int .i64 s.pen, .slice a2 s.que.length c2, .slice a3 s.frm.length c3, .int .u16 (s.flg : Int)] 27)).alloc (.cells #[.int .i64 k, .int .i64 n, .int .i64 mo] 38)).alloc (.cells #[.slice none 0 0, .int .i64 0, .slice none 0 0, .slice none 0 0, .int .u16 0] 27) := ⟨_, rfl⟩
  have HW : Hid (W1 = ((w.alloc (.cells #[.slice a1 s.ind.length c1, .int .i64 s.pen, .slice a2 s.que.length c2, .slice a3 s.frm.length c3, .int .u16 (s.flg : Int)] 27)).alloc (.cells #[.int .i64 k, .int .i64 n, .int .i64 mo] 38)).alloc (.cells #[.slice none 0 0, .int .i64 0, .slice none 0 0, .slice none 0 0, .int .u16 0] 27)) := hW1
  have B1 : Hid (Below w.heap.size w W1) := by rw [hW1]; exact below_trans (below_trans (bel_up _ _) (bel_up _ _)) (bel_up _ _)
  have s1 : (w.alloc (.cells #[.slice a1 s.ind.length c1, .int .i64 s.pen, .slice a2 s.que.length c2, .slice a3 s.frm.length c3, .int .u16 (s.flg : Int)] 27)).heap.size = w.heap.size + 1 := World.size_alloc _ _
  have s2 : ((w.alloc (.cells #[.slice a1 s.ind.length c1, .int .i64 s.pen, .slice a2 s.que.length c2, .slice a3 s.frm.length c3, .int .u16 (s.flg : Int)] 27)).alloc (.cells #[.int .i64 k, .int .i64 n, .int .i64 mo] 38)).heap.size = w.heap.size + 1 + 1 := by rw [World.size_alloc, s1]
  have HSZ : Hid (W1.heap.size = w.heap.size + 1 + 1 + 1) := by rw [hW1, World.size_alloc, s2]; exact rfl
  have HP1 : Hid (W1.heap[w.heap.size]? = some (.cells #[.slice a1 s.ind.length c1, .int .i64 s.pen, .slice a2 s.que.length c2, .slice a3 s.frm.length c3, .int .u16 (s.flg : Int)] 27 (0, 0))) := by
    rw [hW1, (bel_up _ _).block _ (by rw [s2]; omega), (bel_up _ _).block _ (by rw [s1]; omega)]; exact heap_new w _
  have HP2 : Hid (W1.heap[w.heap.size + 1]? = some (.cells #[.int .i64 k, .int .i64 n, .int .i64 mo] 38 (0, 0))) := by
    rw [hW1, (bel_up _ _).block _ (by rw [s2]; omega)]
    have := heap_new (w.alloc (.cells #[.slice a1 s.ind.length c1, .int .i64 s.pen, .slice a2 s.que.length c2, .slice a3 s.frm.length c3, .int .u16 (s.flg : Int)] 27)) (.cells #[.int .i64 k, .int .i64 n, .int .i64 mo] 38)
    rw [s1] at this
    exact this
  have HP3 : Hid (W1.heap[w.heap.size + 1 + 1]? = some (.cells zrC 27 (0, 0))) := by
    rw [hW1]
    have := heap_new ((w.alloc (.cells #[.slice a1 s.ind.length c1, .int .i64 s.pen, .slice a2 s.que.length c2, .slice a3 s.frm.length c3, .int .u16 (s.flg : Int)] 27)).alloc (.cells #[.int .i64 k, .int .i64 n, .int .i64 mo] 38)) (.cells #[.slice none 0 0, .int .i64 0, .slice none 0 0, .slice none 0 0, .int .u16 0] 27)
    rw [s2] at this
    exact this
  have HS : Hid (Stm W1 (.slice a1 s.ind.length c1) (.slice a2 s.que.length c2) (.slice a3 s.frm.length c3) s) := h.up B1.out
  have HF : Hid (s.flg < 65536) := hf
  have HQ : Hid (∀ d ∈ s.que, d.size ≤ 9223372036854775807) := hq
  have HM : Hid (m.size ≤ 140737488355328) := hm
  obtain ⟨R, hR⟩ : ∃ R, (if s.shp then act s k n mo m else .error 65) = R := ⟨_, rfl⟩
  have HR : Hid ((if s.shp then act s k n mo m else .error 65) = R) := hR
  rw [hR]
  obtain ⟨iE, hi3, hx0, hx1, hx2⟩ := info_parts info3
  have HI3 : Hid (Try.prog.info? 3 = some iE ∧ iE.zero = some (.int .i64 0) ∧ iE.size = 1 ∧ iE.bytes = 8) := ⟨hi3, hx0, hx1, hx2⟩
  clear h hf hq hm hW1 s1 s2 hR hi3 hx0 hx1 hx2
  go_enter Try.func19, Try.ntmps19
  go_upto_region 1 with fail
  rw [← HW.out]
  obtain ⟨p0, p1, p2, p3, p4⟩ := box_cells HP1.out
  go_wp2_with fail
  refine (rshaped_any W1 HS.out HQ.out).mono ?_
  rintro e w2 ⟨rfl, hb2⟩
  have B2 : Hid (Below W1.heap.size W1 w2) := hb2
  have B2w : Hid (Below w.heap.size w w2) := below_trans B1.out hb2
  clear hb2 p0 p1 p2 p3 p4
  cases hsh : s.shp with
  | false =>
    have HE : Hid (R = .error 65) := by rw [← HR.out, hsh]; exact rfl
    have HZ : Hid (w2.heap[w.heap.size + 1 + 1]? = some (.cells zrC 27 (0, 0))) := (B2.out.block _ (lt_of_heap HP3.out)).trans HP3.out
    clear hsh
    have z0 := rcell HZ.out 0 (.slice none 0 0) rfl
    have z1 := rcell HZ.out 1 (.int .i64 0) rfl
    have z2 := rcell HZ.out 2 (.slice none 0 0) rfl
    have z3 := rcell HZ.out 3 (.slice none 0 0) rfl
    have z4 := rcell HZ.out 4 (.int .u16 0) rfl
    have rz : ∀ q, w2.frozen? ⟨w.heap.size + 1 + 1, q, none⟩ = false := fun q => Lib.frozen_of_heap HZ.out q
    go_wp2_with fail
    (try simp only [Exit.inBlock, Exit.then])
    refine bodyPost_ret (v := .tuple #[.agg #[.slice none 0 0, .int .i64 0, .slice none 0 0, .slice none 0 0, .int .u16 0], .int .i64 65]) ?_ rfl ⟨?_, .inr ⟨65, HE.out, rfl⟩⟩
    · rw [results_cell_tmp rfl]; go_simp
    · exact bel_five B2w.out (by omega)
  | true =>
    have HA : Hid (R = act s k n mo m) := by rw [← HR.out, hsh]; exact rfl
    have HSH : Hid (s.shp = true) := hsh
    have HLM : Hid _ := shp_lim hsh
    clear hsh
    obtain ⟨p0, p1, p2, p3, p4⟩ := box_cells (x0 := .slice a1 s.ind.length c1) (x1 := .int .i64 s.pen) (x2 := .slice a2 s.que.length c2) (x3 := .slice a3 s.frm.length c3) (x4 := .int .u16 (s.flg : Int)) ((B2.out.block _ (lt_of_heap HP1.out)).trans HP1.out)
    go_wp2_with fail
    refine (twin_any w2 (HS.out.up B2.out) (by have := HLM.out; omega) (by have := HLM.out; omega) (by have := HLM.out; omega)).mono ?_
    rintro e w3 ⟨ui, uq, uf, rfl, ho3, hb3⟩
    obtain ⟨x1, y1, x2, y2, x3, y3, rfl, rfl, rfl⟩ := ho3.stm.form
    obtain ⟨W3, hW3⟩ : ∃ W3, W3 = w3.alloc (.cells #[.slice x1 s.ind.length y1, .int .i64 s.pen, .slice x2 s.que.length y2, .slice x3 s.frm.length y3, .int .u16 (s.flg : Int)] 27) := ⟨_, rfl⟩
    have HW3 : Hid (W3 = w3.alloc (.cells #[.slice x1 s.ind.length y1, .int .i64 s.pen, .slice x2 s.que.length y2, .slice x3 s.frm.length y3, .int .u16 (s.flg : Int)] 27)) := hW3
    obtain ⟨O, hO⟩ : ∃ O, w3.heap.size = O := ⟨_, rfl⟩
    have HOO : Hid (w3.heap.size = O) := hO
    have B23 : Hid (Below w2.heap.size w2 W3) := by rw [hW3]; exact below_trans hb3 (bel_up _ _)
    have B13 : Hid (Below W1.heap.size W1 W3) := below_trans B2.out B23.out
    have HLO : Hid (w.heap.size + 1 + 1 + 1 ≤ O) := by show _ ≤ O; rw [← hO, ← HSZ.out]; exact Nat.le_trans B2.out.size hb3.size
    have HNX3 : Hid (Nx (w.heap.size + 1 + 1 + 1) W3 O (.slice x1 s.ind.length y1) (.slice x2 s.que.length y2) (.slice x3 s.frm.length y3) s) := by
      have hw := B2.out.size
      rw [HSZ.out] at hw
      refine ⟨?_, ?_, HLO.out, by have := B13.out.size; rw [HSZ.out] at this; exact this⟩
      · rw [hW3, ← hO]; exact heap_new w3 _
      · rw [hW3]; exact (ho3.low hw).up (bel_up _ _)
    clear hW3 hb3 ho3 p0 p1 p2 p3 p4 hO
    go_upto_region 5 with fail
    rw [HOO.out, ← HW3.out]
    obtain ⟨p0, p1, p2, p3, p4⟩ := box_cells (x0 := .slice a1 s.ind.length c1) (x1 := .int .i64 s.pen) (x2 := .slice a2 s.que.length c2) (x3 := .slice a3 s.frm.length c3) (x4 := .int .u16 (s.flg : Int)) ((B13.out.block _ (lt_of_heap HP1.out)).trans HP1.out)
    go_wp2_with fail
    refine (rtop_any W3 (HS.out.up B13.out) (by have := HLM.out; omega)).mono ?_
    rintro e w4 ⟨rfl, hb4⟩
    have B14 : Hid (Below W1.heap.size W1 w4) := below_trans B13.out hb4
    have B4 : Hid (Below w.heap.size w w4) := below_trans B1.out B14.out
    have HN4 : Hid (Nx (w.heap.size + 1 + 1 + 1) w4 O (.slice x1 s.ind.length y1) (.slice x2 s.que.length y2) (.slice x3 s.frm.length y3) s) := HNX3.out.up hb4
    have HQ1 : Hid (w4.heap[w.heap.size]? = some (.cells #[.slice a1 s.ind.length c1, .int .i64 s.pen, .slice a2 s.que.length c2, .slice a3 s.frm.length c3, .int .u16 (s.flg : Int)] 27 (0, 0))) := (B14.out.block _ (lt_of_heap HP1.out)).trans HP1.out
    have HQ2 : Hid (w4.heap[w.heap.size + 1]? = some (.cells #[.int .i64 k, .int .i64 n, .int .i64 mo] 38 (0, 0))) := (B14.out.block _ (lt_of_heap HP2.out)).trans HP2.out
    have HQ3 : Hid (w4.heap[w.heap.size + 1 + 1]? = some (.cells zrC 27 (0, 0))) := (B14.out.block _ (lt_of_heap HP3.out)).trans HP3.out
    clear hb4 p0 p1 p2 p3 p4 HNX3
    obtain ⟨p0, p1, p2, p3, p4⟩ := box_cells HQ1.out
    have q0 := rcell HQ2.out 0 (.int .i64 k) rfl
    have q1 := rcell HQ2.out 1 (.int .i64 n) rfl
    have q2 := rcell HQ2.out 2 (.int .i64 mo) rfl
    have z0 := rcell HQ3.out 0 (.slice none 0 0) rfl
    have z1 := rcell HQ3.out 1 (.int .i64 0) rfl
    have z2 := rcell HQ3.out 2 (.slice none 0 0) rfl
    have z3 := rcell HQ3.out 3 (.slice none 0 0) rfl
    have z4 := rcell HQ3.out 4 (.int .u16 0) rfl
    have rz : ∀ q, w4.frozen? ⟨w.heap.size + 1 + 1, q, none⟩ = false := fun q => Lib.frozen_of_heap HQ3.out q
    obtain ⟨u0, u1, u2, u3, u4⟩ := HN4.out.cells
    have uz : ∀ q, w4.frozen? ⟨O, q, none⟩ = false := fun q => HN4.out.frz q
    obtain ⟨tp, htp⟩ : ∃ tp, s.top = tp := ⟨_, rfl⟩
    rw [htp]
    have HTP : Hid (s.top = tp) := htp
    clear htp
    go_upto_region 7 with fail
    by_cases k1 : k = 1
    · subst k1
      obtain ⟨W, hWd⟩ : ∃ W, rwid 0 m.data.toList = W := ⟨_, rfl⟩
      have HAM : Hid (R = if 65536 < W then .error 64 else .ok ({ s with pen := (W : Int) } : Stt).settle) := by show _ = _; rw [HA.out, ← hWd, rwid_is]; rfl
      have CWI : Hid (∀ W0 : World, Calls Try.prog 42 #[.string m] W0 fun e w' => e = .returned (.int .i64 (W : Int)) ∧ w' = W0) := fun W0 => by rw [← hWd]; exact rwidth_any m HM.out W0
      clear hWd
      have HN5 : Hid _ := HN4.out.put 1 (.int .i64 (W : Int)) { s with pen := (W : Int) } rfl ⟨HN4.out.own.i, HN4.out.own.q, HN4.out.own.f⟩
      have B5 : Hid (Below w.heap.size w (w4.setCell ⟨O, 1, none⟩ (.int .i64 (W : Int)))) := B4.out.trans (HN5.out.2.mono (by omega))
      have HZ5 : Hid ((w4.setCell ⟨O, 1, none⟩ (.int .i64 (W : Int))).heap[w.heap.size + 1 + 1]? = some (.cells zrC 27 (0, 0))) := by rw [Below.heap_setCell _ _ _ _ (by show w.heap.size + 1 + 1 ≠ O; have := HLO.out; omega)]; exact HQ3.out
      go_upto_region 10 with (go_at_call 42; refine (CWI.out _).mono ?_; rintro e w9 ⟨rfl, hw9⟩; rw [hw9]; clear hw9 w9)
      obtain ⟨w5, hw5⟩ : ∃ w5, w5 = w4.setCell ⟨O, 1, none⟩ (.int .i64 (W : Int)) := ⟨_, rfl⟩
      rw [← hw5]
      rw [← hw5] at HN5 B5 HZ5
      clear hw5 p0 p1 p2 p3 p4 z0 z1 z2 z3 z4 q0 q1 q2 rz u0 u1 u2 u3 u4 uz
      have z0 := rcell HZ5.out 0 (.slice none 0 0) rfl
      have z1 := rcell HZ5.out 1 (.int .i64 0) rfl
      have z2 := rcell HZ5.out 2 (.slice none 0 0) rfl
      have z3 := rcell HZ5.out 3 (.slice none 0 0) rfl
      have z4 := rcell HZ5.out 4 (.int .u16 0) rfl
      have rz : ∀ q, w5.frozen? ⟨w.heap.size + 1 + 1, q, none⟩ = false := fun q => Lib.frozen_of_heap HZ5.out q
      obtain ⟨u0, u1, u2, u3, u4⟩ := HN5.out.1.cells
      by_cases hw6 : 65536 < W
      · have d1 : decide ((65536 : Int) < (W : Int)) = true := by rw [decide_eq_true_eq]; omega
        have d2 : decide (65536 < W) = true := by rw [decide_eq_true_eq]; omega
        have HE : Hid (R = .error 64) := by rw [HAM.out, if_pos hw6]; exact rfl
        clear hw6
        go_wp2_with fail
        (try simp only [Exit.inBlock, Exit.then])
        refine bodyPost_ret (v := .tuple #[.agg #[.slice none 0 0, .int .i64 0, .slice none 0 0, .slice none 0 0, .int .u16 0], .int .i64 64]) ?_ rfl ⟨?_, .inr ⟨64, HE.out, rfl⟩⟩
        · rw [results_cell_tmp rfl]; go_simp
        · exact bel_five B5.out (by omega)
      · have d1 : decide ((65536 : Int) < (W : Int)) = false := by rw [decide_eq_false_iff_not]; omega
        have d2 : decide (65536 < W) = false := by rw [decide_eq_false_iff_not]; omega
        have HE : Hid (R = .ok ({ s with pen := (W : Int) } : Stt).settle) := by rw [HAM.out, if_neg hw6]; exact rfl
        clear hw6
        have CSE : Hid _ := rsettled_any (s := { s with pen := (W : Int) }) w5 HN5.out.1.own.stm (by have := HLM.out.1; show s.ind.length ≤ _; omega)
        go_wp2_with fail
        refine Calls.mono CSE.out ?_
        rintro e w6 ⟨rfl, hb6⟩
        obtain ⟨st, hst⟩ : ∃ st, ({ s with pen := (W : Int) } : Stt).settle = st := ⟨_, rfl⟩
        have HST : Hid (st.ind = s.ind ∧ st.que = s.que ∧ st.frm = s.frm) := by rw [← hst]; unfold Stt.settle; split <;> exact ⟨rfl, rfl, rfl⟩
        rw [hst]
        rw [hst] at HE
        have B6 : Hid (Below w.heap.size w w6) := below_trans B5.out hb6
        have HO6 : Hid (Stl (w.heap.size + 1 + 1 + 1) w6 (.slice x1 s.ind.length y1) (.slice x2 s.que.length y2) (.slice x3 s.frm.length y3) st) := by have hu := (HN5.out.1.own.up hb6).stl; exact ⟨by rw [HST.out.1]; exact hu.i, by rw [HST.out.2.1]; exact hu.q, by rw [HST.out.2.2]; exact hu.f⟩
        have HZ6 : Hid (w6.heap[w.heap.size + 1 + 1]? = some (.cells zrC 27 (0, 0))) := (hb6.block _ (lt_of_heap HZ5.out)).trans HZ5.out
        clear hst hb6 z0 z1 z2 z3 z4 rz u0 u1 u2 u3 u4 CSE
        have z0 := rcell HZ6.out 0 (.slice none 0 0) rfl
        have z1 := rcell HZ6.out 1 (.int .i64 0) rfl
        have z2 := rcell HZ6.out 2 (.slice none 0 0) rfl
        have z3 := rcell HZ6.out 3 (.slice none 0 0) rfl
        have z4 := rcell HZ6.out 4 (.int .u16 0) rfl
        have rz : ∀ q, w6.frozen? ⟨w.heap.size + 1 + 1, q, none⟩ = false := fun q => Lib.frozen_of_heap HZ6.out q
        go_wp2_with fail
        (try simp only [Exit.inBlock, Exit.then])
        refine bodyPost_ret (v := .tuple #[sv (.slice x1 s.ind.length y1) (.slice x2 s.que.length y2) (.slice x3 s.frm.length y3) st, .int .i64 0]) ?_ rfl ⟨?_, .inl ⟨st, _, _, _, HE.out, rfl, ?_⟩⟩
        · rw [results_cell_tmp rfl]; go_simp
        · exact bel_five B6.out (by omega)
        · exact (HO6.out.kab (kab_five (by omega))).low (by omega)
    by_cases k2 : k = 2
    · subst k2
      have HAM : Hid (R = if s.pen ≤ tp then .error 66 else if s.ind.length = 32 then .error 60 else .ok { s with ind := s.ind ++ [s.pen], pen := -1 }) := by show _ = _; rw [HA.out, ← HTP.out]; rfl
      by_cases hp : s.pen ≤ tp
      · have d1 : decide (s.pen ≤ tp) = true := decide_eq_true hp
        have HE : Hid (R = .error 66) := by rw [HAM.out, if_pos hp]; exact rfl
        clear hp
        go_wp2_with fail
        (try simp only [Exit.inBlock, Exit.then])
        refine bodyPost_ret (v := .tuple #[.agg #[.slice none 0 0, .int .i64 0, .slice none 0 0, .slice none 0 0, .int .u16 0], .int .i64 66]) ?_ rfl ⟨?_, .inr ⟨66, HE.out, rfl⟩⟩
        · rw [results_cell_tmp rfl]; go_simp
        · exact bel_five B4.out (by omega)
      have d1 : decide (s.pen ≤ tp) = false := decide_eq_false hp
      by_cases h32 : s.ind.length = 32
      · have g1 : ((s.ind.length : Int) == 32) = true := by rw [beq_iff_eq]; omega
        have g2 : (s.ind.length == 32) = true := by rw [beq_iff_eq]; omega
        have HE : Hid (R = .error 60) := by rw [HAM.out, if_neg hp, if_pos h32]; exact rfl
        clear hp h32
        go_wp2_with fail
        (try simp only [Exit.inBlock, Exit.then])
        refine bodyPost_ret (v := .tuple #[.agg #[.slice none 0 0, .int .i64 0, .slice none 0 0, .slice none 0 0, .int .u16 0], .int .i64 60]) ?_ rfl ⟨?_, .inr ⟨60, HE.out, rfl⟩⟩
        · rw [results_cell_tmp rfl]; go_simp
        · exact bel_five B4.out (by omega)
      have g1 : ((s.ind.length : Int) == 32) = false := by rw [beq_eq_false_iff_ne]; omega
      have g2 : (s.ind.length == 32) = false := by rw [beq_eq_false_iff_ne]; omega
      have HE : Hid (R = .ok { s with ind := s.ind ++ [s.pen], pen := -1 }) := by rw [HAM.out, if_neg hp, if_neg h32]; exact rfl
      clear hp h32
      have HNA : Hid (Nx (w.heap.size + 1 + 1 + 1) (w4.alloc (.cells #[.int .i64 s.pen] 3)) O (.slice x1 s.ind.length y1) (.slice x2 s.que.length y2) (.slice x3 s.frm.length y3) s) := HN4.out.up (bel_up _ _)
      have HZA : Hid ((w4.alloc (.cells #[.int .i64 s.pen] 3)).heap[w.heap.size + 1 + 1]? = some (.cells zrC 27 (0, 0))) := ((bel_up w4 (.cells #[.int .i64 s.pen] 3)).block _ (lt_of_heap HQ3.out)).trans HQ3.out
      go_upto_region 19 with (at_builtin; refine wpList_append_own _ rfl _ _ 22 rfl (w.heap.size + 1 + 1 + 1) 3 iE (.int .i64 0) 1 8 Try.underlying22 HI3.out.1 HI3.out.2.1 HI3.out.2.2.1 HI3.out.2.2.2 rfl (by decide) _ _ _ rfl HNA.out.own.i ⟨w4.heap.size, 0, none⟩ 1 1 [.int .i64 s.pen] rfl rfl (cell_one_new _ _ _) (by simp [Value.oneCell']) (by have := HLM.out; unfold maxLen; omega) (by have := HLM.out; omega) HNA.out.lB ?_; intro v6 w6 ho6 hg6 _; have hnn := HNA.out.appI (x := s.pen) hg6 (by rw [List.length_append, iC_app]; exact ho6); have HN6 : Hid _ := hnn.1; have HB6 : Hid _ := hnn.2; have HZ6 : Hid (w6.heap[w.heap.size + 1 + 1]? = some (.cells zrC 27 (0, 0))) := (hg6.block _ (lt_of_heap HZA.out) (fun e => tag_ne_blk HNA.out.own.i HZA.out (by decide) e.symm)).trans HZA.out; have hfz6 : w6.frozen? ⟨O, 0, none⟩ = false := froz_of hg6 HNA.out.blk HNA.out.own.i (by decide); have hc6 : w6.cell? ⟨O, 0, none⟩ = some (.slice x1 s.ind.length y1) := cel_of hg6 HNA.out.blk HNA.out.own.i (by decide) rfl; clear hnn; obtain ⟨qa, qc, rfl⟩ := row_shape ho6; clear ho6 hg6)
      clear p0 p1 p2 p3 p4 z0 z1 z2 z3 z4 q0 q1 q2 rz u0 u1 u2 u3 u4 uz hfz6 hc6
      obtain ⟨W7, hW7⟩ : ∃ W7, W7 = w6.setCell ⟨O, 0, none⟩ (.slice qa (s.ind.length + 1) qc) := ⟨_, rfl⟩
      rw [← hW7]
      rw [← hW7] at HN6 HB6
      have HZ7 : Hid (W7.heap[w.heap.size + 1 + 1]? = some (.cells zrC 27 (0, 0))) := by rw [hW7, Below.heap_setCell _ _ _ _ (by show w.heap.size + 1 + 1 ≠ O; have := HLO.out; omega)]; exact HZ6.out
      have HBF : Hid (Below w.heap.size w W7) := B4.out.trans (((bel_up w4 (.cells #[.int .i64 s.pen] 3)).mono B4.out.size).trans (HB6.out.mono (by omega)))
      have HN8 : Hid _ := HN6.out.put 1 (.int .i64 (-1)) { s with ind := s.ind ++ [s.pen], pen := -1 } rfl ⟨HN6.out.own.i, HN6.out.own.q, HN6.out.own.f⟩
      have u1 := HN6.out.cell 1 _ rfl
      have uz := HN6.out.frz 1
      clear hW7
      go_upto_region 20 with fail
      obtain ⟨W8, hW8⟩ : ∃ W8, W8 = W7.setCell ⟨O, 1, none⟩ (.int .i64 (-1)) := ⟨_, rfl⟩
      rw [← hW8]
      rw [← hW8] at HN8
      have HZ8 : Hid (W8.heap[w.heap.size + 1 + 1]? = some (.cells zrC 27 (0, 0))) := by rw [hW8, Below.heap_setCell _ _ _ _ (by show w.heap.size + 1 + 1 ≠ O; have := HLO.out; omega)]; exact HZ7.out
      have HB8 : Hid (Below w.heap.size w W8) := HBF.out.trans (HN8.out.2.mono (by omega))
      clear hW8 u1 uz
      obtain ⟨u0, u1, u2, u3, u4⟩ := HN8.out.1.cells
      have z0 := rcell HZ8.out 0 (.slice none 0 0) rfl
      have z1 := rcell HZ8.out 1 (.int .i64 0) rfl
      have z2 := rcell HZ8.out 2 (.slice none 0 0) rfl
      have z3 := rcell HZ8.out 3 (.slice none 0 0) rfl
      have z4 := rcell HZ8.out 4 (.int .u16 0) rfl
      have rz : ∀ q, W8.frozen? ⟨w.heap.size + 1 + 1, q, none⟩ = false := fun q => Lib.frozen_of_heap HZ8.out q
      go_wp2_with fail
      (try simp only [Exit.inBlock, Exit.then])
      refine bodyPost_ret (v := .tuple #[sv (.slice qa (s.ind.length + 1) qc) (.slice x2 s.que.length y2) (.slice x3 s.frm.length y3) { s with ind := s.ind ++ [s.pen], pen := -1 }, .int .i64 0]) ?_ rfl ⟨?_, .inl ⟨{ s with ind := s.ind ++ [s.pen], pen := -1 }, _, _, _, HE.out, rfl, ?_⟩⟩
      · rw [results_cell_tmp rfl]; go_simp
      · exact bel_five HB8.out (by omega)
      · exact ((HN8.out.1.own.stl).kab (kab_five (by omega))).low (by omega)
    by_cases k3 : k = 3
    · subst k3
      have HAM : Hid (R = if s.ind.length = 0 then .error 66 else .ok ({ s with ind := s.ind.take (s.ind.length - 1) } : Stt).settle) := by show _ = _; rw [HA.out]; rfl
      by_cases h0 : s.ind.length = 0
      · have g1 : ((s.ind.length : Int) == 0) = true := by rw [beq_iff_eq]; omega
        have g2 : (s.ind.length == 0) = true := by rw [beq_iff_eq]; omega
        have HE : Hid (R = .error 66) := by rw [HAM.out, if_pos h0]; exact rfl
        clear h0
        go_wp2_with fail
        (try simp only [Exit.inBlock, Exit.then])
        refine bodyPost_ret (v := .tuple #[.agg #[.slice none 0 0, .int .i64 0, .slice none 0 0, .slice none 0 0, .int .u16 0], .int .i64 66]) ?_ rfl ⟨?_, .inr ⟨66, HE.out, rfl⟩⟩
        · rw [results_cell_tmp rfl]; go_simp
        · exact bel_five B4.out (by omega)
      have g1 : ((s.ind.length : Int) == 0) = false := by rw [beq_eq_false_iff_ne]; omega
      have g2 : (s.ind.length == 0) = false := by rw [beq_eq_false_iff_ne]; omega
      have HE : Hid (R = .ok ({ s with ind := s.ind.take (s.ind.length - 1) } : Stt).settle) := by rw [HAM.out, if_neg h0]; exact rfl
      obtain ⟨q, hqn⟩ : ∃ q, s.ind.length = q + 1 := ⟨s.ind.length - 1, by omega⟩
      have HQN : Hid (s.ind.length = q + 1) := hqn
      have hws : IntKind.i64.wrap ((s.ind.length : Int) - 1) = (q : Int) := by rw [IntKind.wrap_i64]; have := HLM.out; omega
      have hcq : (q : Int) ≤ (y1 : Int) ∧ q ≤ y1 := by obtain ⟨_, _, hxe, _, hle, _⟩ := row_form HN4.out.own.i (by omega); obtain ⟨-, -, rfl⟩ := Value.slice.inj hxe; omega
      obtain ⟨hc1, hc2⟩ := hcq
      have HRQ : Hid (({ s with ind := s.ind.take (s.ind.length - 1) } : Stt).ind.length = q) := by show (s.ind.take (s.ind.length - 1)).length = q; rw [List.length_take]; omega
      have HZ5 : Hid ((w4.setCell ⟨O, 0, none⟩ (.slice x1 q y1)).heap[w.heap.size + 1 + 1]? = some (.cells zrC 27 (0, 0))) := by rw [Below.heap_setCell _ _ _ _ (by show w.heap.size + 1 + 1 ≠ O; have := HLO.out; omega)]; exact HQ3.out
      have HO5 : Hid ((w4.setCell ⟨O, 0, none⟩ (.slice x1 q y1)).heap[O]? = some (.cells #[.slice x1 q y1, .int .i64 s.pen, .slice x2 s.que.length y2, .slice x3 s.frm.length y3, .int .u16 (s.flg : Int)] 27 (0, 0))) := by rw [blk_set _ HN4.out.blk]; exact rfl
      have B5 : Hid (Below w.heap.size w (w4.setCell ⟨O, 0, none⟩ (.slice x1 q y1))) := B4.out.trans ((Below.refl _ _).setCell (p := ⟨O, 0, none⟩) (by show w.heap.size ≤ O; have := HLO.out; omega) _)
      have HOW : Hid (Own (w.heap.size + 1 + 1 + 1) (w4.setCell ⟨O, 0, none⟩ (.slice x1 q y1)) (.slice x1 s.ind.length y1) (.slice x2 s.que.length y2) (.slice x3 s.frm.length y3) s) := HN4.out.own.off HN4.out.blk
      have HS5 : Hid (Stl (w.heap.size + 1 + 1 + 1) (w4.setCell ⟨O, 0, none⟩ (.slice x1 q y1)) (.slice x1 q y1) (.slice x2 s.que.length y2) (.slice x3 s.frm.length y3) ({ s with ind := s.ind.take (s.ind.length - 1) } : Stt)) := stl_takeI HOW.out hqn rfl rfl rfl
      clear h0 hqn
      go_upto_region 26 with fail
      obtain ⟨w5, hw5⟩ : ∃ w5, w5 = w4.setCell ⟨O, 0, none⟩ (.slice x1 q y1) := ⟨_, rfl⟩
      rw [← hw5]
      rw [← hw5] at HZ5 HO5 B5 HS5 HOW
      have HA5 : Hid (w5.heap[w.heap.size + 1]? = some (.cells #[.int .i64 3, .int .i64 n, .int .i64 mo] 38 (0, 0))) := by rw [hw5, Below.heap_setCell _ _ _ _ (by show w.heap.size + 1 ≠ O; have := HLO.out; omega)]; exact HQ2.out
      clear hw5 p0 p1 p2 p3 p4 z0 z1 z2 z3 z4 q0 q1 q2 rz u0 u1 u2 u3 u4 uz hws hc1 hc2
      have q0 := rcell HA5.out 0 (.int .i64 3) rfl
      obtain ⟨u0, u1, u2, u3, u4⟩ := box_cells HO5.out
      have z0 := rcell HZ5.out 0 (.slice none 0 0) rfl
      have z1 := rcell HZ5.out 1 (.int .i64 0) rfl
      have z2 := rcell HZ5.out 2 (.slice none 0 0) rfl
      have z3 := rcell HZ5.out 3 (.slice none 0 0) rfl
      have z4 := rcell HZ5.out 4 (.int .u16 0) rfl
      have rz : ∀ q, w5.frozen? ⟨w.heap.size + 1 + 1, q, none⟩ = false := fun q => Lib.frozen_of_heap HZ5.out q
      have uz : ∀ q, w5.frozen? ⟨O, q, none⟩ = false := fun q => Lib.frozen_of_heap HO5.out q
      have CSE : Hid _ := rsettled_any (s := ({ s with ind := s.ind.take (s.ind.length - 1) } : Stt)) w5 HS5.out.stm (by rw [HRQ.out]; have := HLM.out.1; have := HQN.out; omega)
      go_wp2_with fail
      refine Calls.mono CSE.out ?_
      rintro e w6 ⟨rfl, hb6⟩
      obtain ⟨st, hst⟩ : ∃ st, ({ s with ind := s.ind.take (s.ind.length - 1) } : Stt).settle = st := ⟨_, rfl⟩
      have HST : Hid (st.ind = ({ s with ind := s.ind.take (s.ind.length - 1) } : Stt).ind ∧ st.que = s.que ∧ st.frm = s.frm) := by rw [← hst]; unfold Stt.settle; split <;> exact ⟨rfl, rfl, rfl⟩
      rw [hst]
      rw [hst] at HE
      have B6 : Hid (Below w.heap.size w w6) := below_trans B5.out hb6
      have HO6 : Hid (w6.heap[O]? = some (.cells #[.slice x1 q y1, .int .i64 s.pen, .slice x2 s.que.length y2, .slice x3 s.frm.length y3, .int .u16 (s.flg : Int)] 27 (0, 0))) := (hb6.block _ (lt_of_heap HO5.out)).trans HO5.out
      have HZ6 : Hid (w6.heap[w.heap.size + 1 + 1]? = some (.cells zrC 27 (0, 0))) := (hb6.block _ (lt_of_heap HZ5.out)).trans HZ5.out
      have HS6 : Hid (Stl (w.heap.size + 1 + 1 + 1) w6 (.slice x1 q y1) (.slice x2 s.que.length y2) (.slice x3 s.frm.length y3) st) := by have hu := HS5.out.up hb6; exact ⟨by rw [HST.out.1]; exact hu.i, by rw [HST.out.2.1]; exact hu.q, by rw [HST.out.2.2]; exact hu.f⟩
      have HOW6 : Hid (Own (w.heap.size + 1 + 1 + 1) w6 (.slice x1 s.ind.length y1) (.slice x2 s.que.length y2) (.slice x3 s.frm.length y3) s) := HOW.out.up hb6
      clear hst hb6 z0 z1 z2 z3 z4 rz u0 u1 u2 u3 u4 uz CSE q0
      obtain ⟨u0, u1, u2, u3, u4⟩ := box_cells HO6.out
      have uz : ∀ q, w6.frozen? ⟨O, q, none⟩ = false := fun q => Lib.frozen_of_heap HO6.out q
      go_upto_region 28 with fail
      obtain ⟨W7, hW7⟩ : ∃ W7, W7 = ((((w6.setCell ⟨O, 0, none⟩ (.slice x1 q y1)).setCell ⟨O, 1, none⟩ (.int .i64 st.pen)).setCell ⟨O, 2, none⟩ (.slice x2 s.que.length y2)).setCell ⟨O, 3, none⟩ (.slice x3 s.frm.length y3)).setCell ⟨O, 4, none⟩ (.int .u16 (st.flg : Int)) := ⟨_, rfl⟩
      rw [← hW7]
      have HO7 : Hid (W7.heap[O]? = some (.cells #[.slice x1 q y1, .int .i64 st.pen, .slice x2 s.que.length y2, .slice x3 s.frm.length y3, .int .u16 (st.flg : Int)] 27 (0, 0))) := by rw [hW7]; show ((((w6.setCell ⟨O, 0, none⟩ _).setCell ⟨O, 1, none⟩ _).setCell ⟨O, 2, none⟩ _).setCell ⟨O, 3, none⟩ _ |>.setCell ⟨O, 4, none⟩ _).heap[O]? = _; rw [blk_set _ (blk_set _ (blk_set _ (blk_set _ (blk_set _ HO6.out))))]; exact rfl
      have hne : w.heap.size + 1 + 1 ≠ O := by have := HLO.out; omega
      have HZ7 : Hid (W7.heap[w.heap.size + 1 + 1]? = some (.cells zrC 27 (0, 0))) := by
        rw [hW7]
        show ((((w6.setCell ⟨O, 0, none⟩ _).setCell ⟨O, 1, none⟩ _).setCell ⟨O, 2, none⟩ _).setCell ⟨O, 3, none⟩ _ |>.setCell ⟨O, 4, none⟩ _).heap[w.heap.size + 1 + 1]? = _
        rw [Below.heap_setCell _ _ _ _ hne, Below.heap_setCell _ _ _ _ hne, Below.heap_setCell _ _ _ _ hne, Below.heap_setCell _ _ _ _ hne, Below.heap_setCell _ _ _ _ hne]
        exact HZ6.out
      have HS7 : Hid (Stl (w.heap.size + 1 + 1 + 1) W7 (.slice x1 q y1) (.slice x2 s.que.length y2) (.slice x3 s.frm.length y3) st) := by rw [hW7]; exact stl_takeI (own_five HOW6.out HO6.out) HQN.out HST.out.1 HST.out.2.1 HST.out.2.2
      have B7 : Hid (Below w.heap.size w W7) := by rw [hW7]; exact bel_five B6.out (by have := HLO.out; omega)
      clear hW7 hne u0 u1 u2 u3 u4 uz
      obtain ⟨u0, u1, u2, u3, u4⟩ := box_cells HO7.out
      have z0 := rcell HZ7.out 0 (.slice none 0 0) rfl
      have z1 := rcell HZ7.out 1 (.int .i64 0) rfl
      have z2 := rcell HZ7.out 2 (.slice none 0 0) rfl
      have z3 := rcell HZ7.out 3 (.slice none 0 0) rfl
      have z4 := rcell HZ7.out 4 (.int .u16 0) rfl
      have rz : ∀ q, W7.frozen? ⟨w.heap.size + 1 + 1, q, none⟩ = false := fun q => Lib.frozen_of_heap HZ7.out q
      go_wp2_with fail
      (try simp only [Exit.inBlock, Exit.then])
      refine bodyPost_ret (v := .tuple #[sv (.slice x1 q y1) (.slice x2 s.que.length y2) (.slice x3 s.frm.length y3) st, .int .i64 0]) ?_ rfl ⟨?_, .inl ⟨st, _, _, _, HE.out, rfl, ?_⟩⟩
      · rw [results_cell_tmp rfl]; go_simp
      · exact bel_five B7.out (by omega)
      · exact (HS7.out.kab (kab_five (by omega))).low (by omega)
    by_cases k4 : k = 4
    · subst k4
      have HAM : Hid (R = if s.ind.length = 0 then .error 66 else .ok ({ s with ind := s.ind.take (s.ind.length - 1) } : Stt)) := by show _ = _; rw [HA.out]; rfl
      by_cases h0 : s.ind.length = 0
      · have g1 : ((s.ind.length : Int) == 0) = true := by rw [beq_iff_eq]; omega
        have g2 : (s.ind.length == 0) = true := by rw [beq_iff_eq]; omega
        have HE : Hid (R = .error 66) := by rw [HAM.out, if_pos h0]; exact rfl
        clear h0
        go_wp2_with fail
        (try simp only [Exit.inBlock, Exit.then])
        refine bodyPost_ret (v := .tuple #[.agg #[.slice none 0 0, .int .i64 0, .slice none 0 0, .slice none 0 0, .int .u16 0], .int .i64 66]) ?_ rfl ⟨?_, .inr ⟨66, HE.out, rfl⟩⟩
        · rw [results_cell_tmp rfl]; go_simp
        · exact bel_five B4.out (by omega)
      have g1 : ((s.ind.length : Int) == 0) = false := by rw [beq_eq_false_iff_ne]; omega
      have g2 : (s.ind.length == 0) = false := by rw [beq_eq_false_iff_ne]; omega
      have HE : Hid (R = .ok ({ s with ind := s.ind.take (s.ind.length - 1) } : Stt)) := by rw [HAM.out, if_neg h0]; exact rfl
      obtain ⟨q, hqn⟩ : ∃ q, s.ind.length = q + 1 := ⟨s.ind.length - 1, by omega⟩
      have HQN : Hid (s.ind.length = q + 1) := hqn
      have hws : IntKind.i64.wrap ((s.ind.length : Int) - 1) = (q : Int) := by rw [IntKind.wrap_i64]; have := HLM.out; omega
      have hcq : (q : Int) ≤ (y1 : Int) ∧ q ≤ y1 := by obtain ⟨_, _, hxe, _, hle, _⟩ := row_form HN4.out.own.i (by omega); obtain ⟨-, -, rfl⟩ := Value.slice.inj hxe; omega
      obtain ⟨hc1, hc2⟩ := hcq
      have HRQ : Hid (({ s with ind := s.ind.take (s.ind.length - 1) } : Stt).ind.length = q) := by show (s.ind.take (s.ind.length - 1)).length = q; rw [List.length_take]; omega
      have HZ5 : Hid ((w4.setCell ⟨O, 0, none⟩ (.slice x1 q y1)).heap[w.heap.size + 1 + 1]? = some (.cells zrC 27 (0, 0))) := by rw [Below.heap_setCell _ _ _ _ (by show w.heap.size + 1 + 1 ≠ O; have := HLO.out; omega)]; exact HQ3.out
      have HO5 : Hid ((w4.setCell ⟨O, 0, none⟩ (.slice x1 q y1)).heap[O]? = some (.cells #[.slice x1 q y1, .int .i64 s.pen, .slice x2 s.que.length y2, .slice x3 s.frm.length y3, .int .u16 (s.flg : Int)] 27 (0, 0))) := by rw [blk_set _ HN4.out.blk]; exact rfl
      have B5 : Hid (Below w.heap.size w (w4.setCell ⟨O, 0, none⟩ (.slice x1 q y1))) := B4.out.trans ((Below.refl _ _).setCell (p := ⟨O, 0, none⟩) (by show w.heap.size ≤ O; have := HLO.out; omega) _)
      have HOW : Hid (Own (w.heap.size + 1 + 1 + 1) (w4.setCell ⟨O, 0, none⟩ (.slice x1 q y1)) (.slice x1 s.ind.length y1) (.slice x2 s.que.length y2) (.slice x3 s.frm.length y3) s) := HN4.out.own.off HN4.out.blk
      have HS5 : Hid (Stl (w.heap.size + 1 + 1 + 1) (w4.setCell ⟨O, 0, none⟩ (.slice x1 q y1)) (.slice x1 q y1) (.slice x2 s.que.length y2) (.slice x3 s.frm.length y3) ({ s with ind := s.ind.take (s.ind.length - 1) } : Stt)) := stl_takeI HOW.out hqn rfl rfl rfl
      clear h0 hqn
      go_upto_region 26 with fail
      obtain ⟨w5, hw5⟩ : ∃ w5, w5 = w4.setCell ⟨O, 0, none⟩ (.slice x1 q y1) := ⟨_, rfl⟩
      rw [← hw5]
      rw [← hw5] at HZ5 HO5 B5 HS5 HOW
      have HA5 : Hid (w5.heap[w.heap.size + 1]? = some (.cells #[.int .i64 4, .int .i64 n, .int .i64 mo] 38 (0, 0))) := by rw [hw5, Below.heap_setCell _ _ _ _ (by show w.heap.size + 1 ≠ O; have := HLO.out; omega)]; exact HQ2.out
      clear hw5 p0 p1 p2 p3 p4 z0 z1 z2 z3 z4 q0 q1 q2 rz u0 u1 u2 u3 u4 uz hws hc1 hc2
      have q0 := rcell HA5.out 0 (.int .i64 4) rfl
      obtain ⟨u0, u1, u2, u3, u4⟩ := box_cells HO5.out
      have z0 := rcell HZ5.out 0 (.slice none 0 0) rfl
      have z1 := rcell HZ5.out 1 (.int .i64 0) rfl
      have z2 := rcell HZ5.out 2 (.slice none 0 0) rfl
      have z3 := rcell HZ5.out 3 (.slice none 0 0) rfl
      have z4 := rcell HZ5.out 4 (.int .u16 0) rfl
      have rz : ∀ q, w5.frozen? ⟨w.heap.size + 1 + 1, q, none⟩ = false := fun q => Lib.frozen_of_heap HZ5.out q
      go_wp2_with fail
      (try simp only [Exit.inBlock, Exit.then])
      refine bodyPost_ret (v := .tuple #[sv (.slice x1 q y1) (.slice x2 s.que.length y2) (.slice x3 s.frm.length y3) ({ s with ind := s.ind.take (s.ind.length - 1) } : Stt), .int .i64 0]) ?_ rfl ⟨?_, .inl ⟨({ s with ind := s.ind.take (s.ind.length - 1) } : Stt), _, _, _, HE.out, rfl, ?_⟩⟩
      · rw [results_cell_tmp rfl]; go_simp
      · exact bel_five B5.out (by omega)
      · exact (HS5.out.kab (kab_five (by omega))).low (by omega)
    by_cases k5 : k = 5
    · subst k5
      go_wp2_with fail
      refine (rqueued_any 5 n mo m w4 HN4.out.own HN4.out.lB (by have := HLM.out; omega) HM.out).mono ?_
      rintro e w6 ⟨hb6, hr6⟩
      have B6 : Hid (Below w.heap.size w w6) := B4.out.trans (hb6.mono (by omega))
      have HZ6 : Hid (w6.heap[w.heap.size + 1 + 1]? = some (.cells zrC 27 (0, 0))) := (hb6.block _ (by omega)).trans HQ3.out
      clear hb6 p0 p1 p2 p3 p4 z0 z1 z2 z3 z4 q0 q1 q2 rz u0 u1 u2 u3 u4 uz
      have z0 := rcell HZ6.out 0 (.slice none 0 0) rfl
      have z1 := rcell HZ6.out 1 (.int .i64 0) rfl
      have z2 := rcell HZ6.out 2 (.slice none 0 0) rfl
      have z3 := rcell HZ6.out 3 (.slice none 0 0) rfl
      have z4 := rcell HZ6.out 4 (.int .u16 0) rfl
      have rz : ∀ q, w6.frozen? ⟨w.heap.size + 1 + 1, q, none⟩ = false := fun q => Lib.frozen_of_heap HZ6.out q
      rcases hr6 with ⟨t, vi, vq, vf, hr, rfl, ho⟩ | ⟨c, hr, rfl⟩
      · have HE : Hid (R = .ok t) := by rw [HA.out]; exact hr
        have HOT : Hid (Stl (w.heap.size + 1 + 1 + 1) w6 vi vq vf t) := ho.stl
        obtain ⟨e1, f1, e2, f2, e3, f3, rfl, rfl, rfl⟩ := ho.stm.form
        clear hr ho
        go_wp2_with fail
        (try simp only [Exit.inBlock, Exit.then])
        refine bodyPost_ret (v := .tuple #[sv (.slice e1 t.ind.length f1) (.slice e2 t.que.length f2) (.slice e3 t.frm.length f3) t, .int .i64 0]) ?_ rfl ⟨?_, .inl ⟨t, _, _, _, HE.out, rfl, ?_⟩⟩
        · rw [results_cell_tmp rfl]; go_simp
        · exact bel_five B6.out (by omega)
        · exact (HOT.out.kab (kab_five (by omega))).low (by omega)
      · have HE : Hid (R = .error c) := by rw [HA.out]; exact hr
        clear hr
        go_wp2_with fail
        (try simp only [Exit.inBlock, Exit.then])
        refine bodyPost_ret (v := .tuple #[.agg #[.slice none 0 0, .int .i64 0, .slice none 0 0, .slice none 0 0, .int .u16 0], .int .i64 c]) ?_ rfl ⟨?_, .inr ⟨c, HE.out, rfl⟩⟩
        · rw [results_cell_tmp rfl]; go_simp
        · exact bel_five B6.out (by omega)
    by_cases k6 : k = 6
    · subst k6
      have HAM : Hid (R = if s.que.length = 0 then .error 66 else .ok ({ s with que := s.que.drop 1 } : Stt)) := by show _ = _; rw [HA.out]; rfl
      by_cases h0 : s.que.length = 0
      · have g1 : ((s.que.length : Int) == 0) = true := by rw [beq_iff_eq]; omega
        have g2 : (s.que.length == 0) = true := by rw [beq_iff_eq]; omega
        have HE : Hid (R = .error 66) := by rw [HAM.out, if_pos h0]; exact rfl
        clear h0
        go_wp2_with fail
        (try simp only [Exit.inBlock, Exit.then])
        refine bodyPost_ret (v := .tuple #[.agg #[.slice none 0 0, .int .i64 0, .slice none 0 0, .slice none 0 0, .int .u16 0], .int .i64 66]) ?_ rfl ⟨?_, .inr ⟨66, HE.out, rfl⟩⟩
        · rw [results_cell_tmp rfl]; go_simp
        · exact bel_five B4.out (by omega)
      have g1 : ((s.que.length : Int) == 0) = false := by rw [beq_eq_false_iff_ne]; omega
      have g2 : (s.que.length == 0) = false := by rw [beq_eq_false_iff_ne]; omega
      have HE : Hid (R = .ok ({ s with que := s.que.drop 1 } : Stt)) := by rw [HAM.out, if_neg h0]; exact rfl
      obtain ⟨q, hqn⟩ : ∃ q, s.que.length = q + 1 := ⟨s.que.length - 1, by omega⟩
      have HQN : Hid (s.que.length = q + 1) := hqn
      obtain ⟨g, cg, hxe, hgl, hle, hml⟩ := row_form HN4.out.own.q (by omega)
      obtain ⟨rfl, -, rfl⟩ := Value.slice.inj hxe
      have e1 : (1 : Int) ≤ (s.que.length : Int) := by omega
      have e2 : 1 ≤ s.que.length := by omega
      have e3 : s.que.length - 1 = q := by omega
      have e4 : ((s.que.length : Int) - 1).toNat = q := by omega
      obtain ⟨yy, hyy⟩ : ∃ yy, y2 - 1 = yy := ⟨_, rfl⟩
      have hqy : q ≤ yy := by omega
      clear h0 hxe
      go_upto_region 35 with fail
      obtain ⟨pp, hpp⟩ : ∃ pp, (if y2 = 1 then some (⟨g, 0, none⟩ : Addr) else some ⟨g, 1, none⟩) = pp := ⟨_, rfl⟩
      rw [hpp]
      obtain ⟨w5, hw5⟩ : ∃ w5, w5 = w4.setCell ⟨O, 2, none⟩ (.slice pp q yy) := ⟨_, rfl⟩
      rw [← hw5]
      have HOW : Hid (Own (w.heap.size + 1 + 1 + 1) w5 (.slice x1 s.ind.length y1) (.slice (some ⟨g, 0, none⟩) s.que.length y2) (.slice x3 s.frm.length y3) s) := by rw [hw5]; exact HN4.out.own.off HN4.out.blk
      have HS5 : Hid (Stl (w.heap.size + 1 + 1 + 1) w5 (.slice x1 s.ind.length y1) (.slice pp q yy) (.slice x3 s.frm.length y3) ({ s with que := s.que.drop 1 } : Stt)) := by
        by_cases hy1 : y2 = 1
        · rw [if_pos hy1] at hpp
          have hq0 : q = 0 := by omega
          have hd : s.que.drop 1 = [] := List.length_eq_zero_iff.1 (by rw [List.length_drop]; omega)
          refine ⟨HOW.out.stl.i, ?_, HOW.out.stl.f⟩
          show Rwl _ _ _ (s.que.drop 1).length (qC (s.que.drop 1))
          rw [hd, hq0, ← hpp]
          exact ⟨_, g, 0, yy, rfl, Nat.zero_le _, fun h => (by cases h), fun h => absurd h (by decide), fun j u hu => (by cases hu)⟩
        · rw [if_neg hy1] at hpp
          rw [← hpp]
          exact stl_dropQ HOW.out HQN.out hqy rfl rfl rfl
      have HZ5 : Hid (w5.heap[w.heap.size + 1 + 1]? = some (.cells zrC 27 (0, 0))) := by rw [hw5, Below.heap_setCell _ _ _ _ (by show w.heap.size + 1 + 1 ≠ O; have := HLO.out; omega)]; exact HQ3.out
      have HO5 : Hid (w5.heap[O]? = some (.cells #[.slice x1 s.ind.length y1, .int .i64 s.pen, .slice pp q yy, .slice x3 s.frm.length y3, .int .u16 (s.flg : Int)] 27 (0, 0))) := by rw [hw5, blk_set _ HN4.out.blk]; exact rfl
      have B5 : Hid (Below w.heap.size w w5) := by rw [hw5]; exact B4.out.trans ((Below.refl _ _).setCell (p := ⟨O, 2, none⟩) (by show w.heap.size ≤ O; have := HLO.out; omega) _)
      clear hw5 hpp p0 p1 p2 p3 p4 z0 z1 z2 z3 z4 q0 q1 q2 rz u0 u1 u2 u3 u4 uz HOW e1 e2 e3 e4 hyy hqy hqn hgl hle hml
      obtain ⟨u0, u1, u2, u3, u4⟩ := box_cells HO5.out
      have z0 := rcell HZ5.out 0 (.slice none 0 0) rfl
      have z1 := rcell HZ5.out 1 (.int .i64 0) rfl
      have z2 := rcell HZ5.out 2 (.slice none 0 0) rfl
      have z3 := rcell HZ5.out 3 (.slice none 0 0) rfl
      have z4 := rcell HZ5.out 4 (.int .u16 0) rfl
      have rz : ∀ q, w5.frozen? ⟨w.heap.size + 1 + 1, q, none⟩ = false := fun q => Lib.frozen_of_heap HZ5.out q
      go_wp2_with fail
      (try simp only [Exit.inBlock, Exit.then])
      refine bodyPost_ret (v := .tuple #[sv (.slice x1 s.ind.length y1) (.slice pp q yy) (.slice x3 s.frm.length y3) ({ s with que := s.que.drop 1 } : Stt), .int .i64 0]) ?_ rfl ⟨?_, .inl ⟨({ s with que := s.que.drop 1 } : Stt), _, _, _, HE.out, rfl, ?_⟩⟩
      · rw [results_cell_tmp rfl]; go_simp
      · exact bel_five B5.out (by omega)
      · exact (HS5.out.kab (kab_five (by omega))).low (by omega)
    by_cases k7 : k = 7
    · subst k7
      go_wp2_with fail
      refine (rframed_any 7 n mo m w4 HN4.out.own HN4.out.lB (by have := HLM.out; omega) HM.out).mono ?_
      rintro e w6 ⟨hb6, hr6⟩
      have B6 : Hid (Below w.heap.size w w6) := B4.out.trans (hb6.mono (by omega))
      have HZ6 : Hid (w6.heap[w.heap.size + 1 + 1]? = some (.cells zrC 27 (0, 0))) := (hb6.block _ (by omega)).trans HQ3.out
      clear hb6 p0 p1 p2 p3 p4 z0 z1 z2 z3 z4 q0 q1 q2 rz u0 u1 u2 u3 u4 uz
      have z0 := rcell HZ6.out 0 (.slice none 0 0) rfl
      have z1 := rcell HZ6.out 1 (.int .i64 0) rfl
      have z2 := rcell HZ6.out 2 (.slice none 0 0) rfl
      have z3 := rcell HZ6.out 3 (.slice none 0 0) rfl
      have z4 := rcell HZ6.out 4 (.int .u16 0) rfl
      have rz : ∀ q, w6.frozen? ⟨w.heap.size + 1 + 1, q, none⟩ = false := fun q => Lib.frozen_of_heap HZ6.out q
      rcases hr6 with ⟨t, vi, vq, vf, hr, rfl, ho⟩ | ⟨c, hr, rfl⟩
      · have HE : Hid (R = .ok t) := by rw [HA.out]; exact hr
        have HOT : Hid (Stl (w.heap.size + 1 + 1 + 1) w6 vi vq vf t) := ho.stl
        obtain ⟨e1, f1, e2, f2, e3, f3, rfl, rfl, rfl⟩ := ho.stm.form
        clear hr ho
        go_wp2_with fail
        (try simp only [Exit.inBlock, Exit.then])
        refine bodyPost_ret (v := .tuple #[sv (.slice e1 t.ind.length f1) (.slice e2 t.que.length f2) (.slice e3 t.frm.length f3) t, .int .i64 0]) ?_ rfl ⟨?_, .inl ⟨t, _, _, _, HE.out, rfl, ?_⟩⟩
        · rw [results_cell_tmp rfl]; go_simp
        · exact bel_five B6.out (by omega)
        · exact (HOT.out.kab (kab_five (by omega))).low (by omega)
      · have HE : Hid (R = .error c) := by rw [HA.out]; exact hr
        clear hr
        go_wp2_with fail
        (try simp only [Exit.inBlock, Exit.then])
        refine bodyPost_ret (v := .tuple #[.agg #[.slice none 0 0, .int .i64 0, .slice none 0 0, .slice none 0 0, .int .u16 0], .int .i64 c]) ?_ rfl ⟨?_, .inr ⟨c, HE.out, rfl⟩⟩
        · rw [results_cell_tmp rfl]; go_simp
        · exact bel_five B6.out (by omega)
    by_cases k8 : k = 8
    · subst k8
      have HAM : Hid (R = if s.frm.length = 0 then .error 66 else .ok ({ s with frm := s.frm.take (s.frm.length - 1) } : Stt)) := by show _ = _; rw [HA.out]; rfl
      by_cases h0 : s.frm.length = 0
      · have g1 : ((s.frm.length : Int) == 0) = true := by rw [beq_iff_eq]; omega
        have g2 : (s.frm.length == 0) = true := by rw [beq_iff_eq]; omega
        have HE : Hid (R = .error 66) := by rw [HAM.out, if_pos h0]; exact rfl
        clear h0
        go_wp2_with fail
        (try simp only [Exit.inBlock, Exit.then])
        refine bodyPost_ret (v := .tuple #[.agg #[.slice none 0 0, .int .i64 0, .slice none 0 0, .slice none 0 0, .int .u16 0], .int .i64 66]) ?_ rfl ⟨?_, .inr ⟨66, HE.out, rfl⟩⟩
        · rw [results_cell_tmp rfl]; go_simp
        · exact bel_five B4.out (by omega)
      have g1 : ((s.frm.length : Int) == 0) = false := by rw [beq_eq_false_iff_ne]; omega
      have g2 : (s.frm.length == 0) = false := by rw [beq_eq_false_iff_ne]; omega
      have HE : Hid (R = .ok ({ s with frm := s.frm.take (s.frm.length - 1) } : Stt)) := by rw [HAM.out, if_neg h0]; exact rfl
      obtain ⟨q, hqn⟩ : ∃ q, s.frm.length = q + 1 := ⟨s.frm.length - 1, by omega⟩
      have hws : IntKind.i64.wrap ((s.frm.length : Int) - 1) = (q : Int) := by rw [IntKind.wrap_i64]; have := HLM.out; omega
      have hcq : (q : Int) ≤ (y3 : Int) ∧ q ≤ y3 := by obtain ⟨_, _, hxe, _, hle, _⟩ := row_form HN4.out.own.f (by omega); obtain ⟨-, -, rfl⟩ := Value.slice.inj hxe; omega
      obtain ⟨hc1, hc2⟩ := hcq
      have HOW : Hid (Own (w.heap.size + 1 + 1 + 1) (w4.setCell ⟨O, 3, none⟩ (.slice x3 q y3)) (.slice x1 s.ind.length y1) (.slice x2 s.que.length y2) (.slice x3 s.frm.length y3) s) := HN4.out.own.off HN4.out.blk
      have HS5 : Hid (Stl (w.heap.size + 1 + 1 + 1) (w4.setCell ⟨O, 3, none⟩ (.slice x3 q y3)) (.slice x1 s.ind.length y1) (.slice x2 s.que.length y2) (.slice x3 q y3) ({ s with frm := s.frm.take (s.frm.length - 1) } : Stt)) := stl_takeF HOW.out hqn rfl rfl rfl
      have HZ5 : Hid ((w4.setCell ⟨O, 3, none⟩ (.slice x3 q y3)).heap[w.heap.size + 1 + 1]? = some (.cells zrC 27 (0, 0))) := by rw [Below.heap_setCell _ _ _ _ (by show w.heap.size + 1 + 1 ≠ O; have := HLO.out; omega)]; exact HQ3.out
      have HO5 : Hid ((w4.setCell ⟨O, 3, none⟩ (.slice x3 q y3)).heap[O]? = some (.cells #[.slice x1 s.ind.length y1, .int .i64 s.pen, .slice x2 s.que.length y2, .slice x3 q y3, .int .u16 (s.flg : Int)] 27 (0, 0))) := by rw [blk_set _ HN4.out.blk]; exact rfl
      have B5 : Hid (Below w.heap.size w (w4.setCell ⟨O, 3, none⟩ (.slice x3 q y3))) := B4.out.trans ((Below.refl _ _).setCell (p := ⟨O, 3, none⟩) (by show w.heap.size ≤ O; have := HLO.out; omega) _)
      clear h0 hqn
      go_upto_region 42 with fail
      obtain ⟨w5, hw5⟩ : ∃ w5, w5 = w4.setCell ⟨O, 3, none⟩ (.slice x3 q y3) := ⟨_, rfl⟩
      rw [← hw5]
      rw [← hw5] at HZ5 HO5 B5 HS5
      clear hw5 p0 p1 p2 p3 p4 z0 z1 z2 z3 z4 q0 q1 q2 rz u0 u1 u2 u3 u4 uz hws hc1 hc2 HOW
      obtain ⟨u0, u1, u2, u3, u4⟩ := box_cells HO5.out
      have z0 := rcell HZ5.out 0 (.slice none 0 0) rfl
      have z1 := rcell HZ5.out 1 (.int .i64 0) rfl
      have z2 := rcell HZ5.out 2 (.slice none 0 0) rfl
      have z3 := rcell HZ5.out 3 (.slice none 0 0) rfl
      have z4 := rcell HZ5.out 4 (.int .u16 0) rfl
      have rz : ∀ q, w5.frozen? ⟨w.heap.size + 1 + 1, q, none⟩ = false := fun q => Lib.frozen_of_heap HZ5.out q
      go_wp2_with fail
      (try simp only [Exit.inBlock, Exit.then])
      refine bodyPost_ret (v := .tuple #[sv (.slice x1 s.ind.length y1) (.slice x2 s.que.length y2) (.slice x3 q y3) ({ s with frm := s.frm.take (s.frm.length - 1) } : Stt), .int .i64 0]) ?_ rfl ⟨?_, .inl ⟨({ s with frm := s.frm.take (s.frm.length - 1) } : Stt), _, _, _, HE.out, rfl, ?_⟩⟩
      · rw [results_cell_tmp rfl]; go_simp
      · exact bel_five B5.out (by omega)
      · exact (HS5.out.kab (kab_five (by omega))).low (by omega)
    by_cases k9 : k = 9
    · subst k9
      obtain ⟨F, hF⟩ : ∃ F, (if true then s.flg ||| 2 ^ n.toNat else s.flg &&& (65535 - 2 ^ n.toNat)) = F := ⟨_, rfl⟩
      have HAM : Hid (R = if n < 0 ∨ 16 ≤ n then .error 66 else .ok ({ s with flg := F } : Stt)) := by show _ = _; rw [HA.out, ← hF]; rfl
      by_cases h0 : n < 0
      · have g1 : decide (n < 0) = true := decide_eq_true h0
        have HE : Hid (R = .error 66) := by rw [HAM.out, if_pos (Or.inl h0)]; exact rfl
        clear h0 hF
        go_wp2_with fail
        (try simp only [Exit.inBlock, Exit.then])
        refine bodyPost_ret (v := .tuple #[.agg #[.slice none 0 0, .int .i64 0, .slice none 0 0, .slice none 0 0, .int .u16 0], .int .i64 66]) ?_ rfl ⟨?_, .inr ⟨66, HE.out, rfl⟩⟩
        · rw [results_cell_tmp rfl]; go_simp
        · exact bel_five B4.out (by omega)
      have g1 : decide (n < 0) = false := decide_eq_false h0
      by_cases h16 : 16 ≤ n
      · have g2 : decide (16 ≤ n) = true := decide_eq_true h16
        have HE : Hid (R = .error 66) := by rw [HAM.out, if_pos (Or.inr h16)]; exact rfl
        clear h0 h16 hF
        go_wp2_with fail
        (try simp only [Exit.inBlock, Exit.then])
        refine bodyPost_ret (v := .tuple #[.agg #[.slice none 0 0, .int .i64 0, .slice none 0 0, .slice none 0 0, .int .u16 0], .int .i64 66]) ?_ rfl ⟨?_, .inr ⟨66, HE.out, rfl⟩⟩
        · rw [results_cell_tmp rfl]; go_simp
        · exact bel_five B4.out (by omega)
      have g2 : decide (16 ≤ n) = false := decide_eq_false h16
      have HE : Hid (R = .ok ({ s with flg := F } : Stt)) := by rw [HAM.out, if_neg (by omega)]; exact rfl
      have cfl := rflagged_any n true w4 HN4.out.own.stm HF.out (by omega) (by omega)
      rw [hF] at cfl
      have CFL : Hid _ := cfl
      clear cfl hF
      clear h0 h16
      go_wp2_with fail
      refine Calls.mono CFL.out ?_
      rintro e w6 ⟨rfl, hb6⟩
      obtain ⟨st, hst⟩ : ∃ st, ({ s with flg := F } : Stt) = st := ⟨_, rfl⟩
      have HST : Hid (st.ind = s.ind ∧ st.que = s.que ∧ st.frm = s.frm) := by rw [← hst]; exact ⟨rfl, rfl, rfl⟩
      rw [hst]
      rw [hst] at HE
      have B6 : Hid (Below w.heap.size w w6) := below_trans B4.out hb6
      have HZ6 : Hid (w6.heap[w.heap.size + 1 + 1]? = some (.cells zrC 27 (0, 0))) := (hb6.block _ (lt_of_heap HQ3.out)).trans HQ3.out
      have HS6 : Hid (Stl (w.heap.size + 1 + 1 + 1) w6 (.slice x1 s.ind.length y1) (.slice x2 s.que.length y2) (.slice x3 s.frm.length y3) st) := by have hu := (HN4.out.own.up hb6).stl; exact ⟨by rw [HST.out.1]; exact hu.i, by rw [HST.out.2.1]; exact hu.q, by rw [HST.out.2.2]; exact hu.f⟩
      clear hst hb6 p0 p1 p2 p3 p4 z0 z1 z2 z3 z4 q0 q1 q2 rz u0 u1 u2 u3 u4 uz CFL
      have z0 := rcell HZ6.out 0 (.slice none 0 0) rfl
      have z1 := rcell HZ6.out 1 (.int .i64 0) rfl
      have z2 := rcell HZ6.out 2 (.slice none 0 0) rfl
      have z3 := rcell HZ6.out 3 (.slice none 0 0) rfl
      have z4 := rcell HZ6.out 4 (.int .u16 0) rfl
      have rz : ∀ q, w6.frozen? ⟨w.heap.size + 1 + 1, q, none⟩ = false := fun q => Lib.frozen_of_heap HZ6.out q
      go_wp2_with fail
      (try simp only [Exit.inBlock, Exit.then])
      refine bodyPost_ret (v := .tuple #[sv (.slice x1 s.ind.length y1) (.slice x2 s.que.length y2) (.slice x3 s.frm.length y3) st, .int .i64 0]) ?_ rfl ⟨?_, .inl ⟨st, _, _, _, HE.out, rfl, ?_⟩⟩
      · rw [results_cell_tmp rfl]; go_simp
      · exact bel_five B6.out (by omega)
      · exact (HS6.out.kab (kab_five (by omega))).low (by omega)
    by_cases k10 : k = 10
    · subst k10
      obtain ⟨F, hF⟩ : ∃ F, (if false then s.flg ||| 2 ^ n.toNat else s.flg &&& (65535 - 2 ^ n.toNat)) = F := ⟨_, rfl⟩
      have HAM : Hid (R = if n < 0 ∨ 16 ≤ n then .error 66 else .ok ({ s with flg := F } : Stt)) := by show _ = _; rw [HA.out, ← hF]; rfl
      by_cases h0 : n < 0
      · have g1 : decide (n < 0) = true := decide_eq_true h0
        have HE : Hid (R = .error 66) := by rw [HAM.out, if_pos (Or.inl h0)]; exact rfl
        clear h0 hF
        go_wp2_with fail
        (try simp only [Exit.inBlock, Exit.then])
        refine bodyPost_ret (v := .tuple #[.agg #[.slice none 0 0, .int .i64 0, .slice none 0 0, .slice none 0 0, .int .u16 0], .int .i64 66]) ?_ rfl ⟨?_, .inr ⟨66, HE.out, rfl⟩⟩
        · rw [results_cell_tmp rfl]; go_simp
        · exact bel_five B4.out (by omega)
      have g1 : decide (n < 0) = false := decide_eq_false h0
      by_cases h16 : 16 ≤ n
      · have g2 : decide (16 ≤ n) = true := decide_eq_true h16
        have HE : Hid (R = .error 66) := by rw [HAM.out, if_pos (Or.inr h16)]; exact rfl
        clear h0 h16 hF
        go_wp2_with fail
        (try simp only [Exit.inBlock, Exit.then])
        refine bodyPost_ret (v := .tuple #[.agg #[.slice none 0 0, .int .i64 0, .slice none 0 0, .slice none 0 0, .int .u16 0], .int .i64 66]) ?_ rfl ⟨?_, .inr ⟨66, HE.out, rfl⟩⟩
        · rw [results_cell_tmp rfl]; go_simp
        · exact bel_five B4.out (by omega)
      have g2 : decide (16 ≤ n) = false := decide_eq_false h16
      have HE : Hid (R = .ok ({ s with flg := F } : Stt)) := by rw [HAM.out, if_neg (by omega)]; exact rfl
      have cfl := rflagged_any n false w4 HN4.out.own.stm HF.out (by omega) (by omega)
      rw [hF] at cfl
      have CFL : Hid _ := cfl
      clear cfl hF
      clear h0 h16
      go_wp2_with fail
      refine Calls.mono CFL.out ?_
      rintro e w6 ⟨rfl, hb6⟩
      obtain ⟨st, hst⟩ : ∃ st, ({ s with flg := F } : Stt) = st := ⟨_, rfl⟩
      have HST : Hid (st.ind = s.ind ∧ st.que = s.que ∧ st.frm = s.frm) := by rw [← hst]; exact ⟨rfl, rfl, rfl⟩
      rw [hst]
      rw [hst] at HE
      have B6 : Hid (Below w.heap.size w w6) := below_trans B4.out hb6
      have HZ6 : Hid (w6.heap[w.heap.size + 1 + 1]? = some (.cells zrC 27 (0, 0))) := (hb6.block _ (lt_of_heap HQ3.out)).trans HQ3.out
      have HS6 : Hid (Stl (w.heap.size + 1 + 1 + 1) w6 (.slice x1 s.ind.length y1) (.slice x2 s.que.length y2) (.slice x3 s.frm.length y3) st) := by have hu := (HN4.out.own.up hb6).stl; exact ⟨by rw [HST.out.1]; exact hu.i, by rw [HST.out.2.1]; exact hu.q, by rw [HST.out.2.2]; exact hu.f⟩
      clear hst hb6 p0 p1 p2 p3 p4 z0 z1 z2 z3 z4 q0 q1 q2 rz u0 u1 u2 u3 u4 uz CFL
      have z0 := rcell HZ6.out 0 (.slice none 0 0) rfl
      have z1 := rcell HZ6.out 1 (.int .i64 0) rfl
      have z2 := rcell HZ6.out 2 (.slice none 0 0) rfl
      have z3 := rcell HZ6.out 3 (.slice none 0 0) rfl
      have z4 := rcell HZ6.out 4 (.int .u16 0) rfl
      have rz : ∀ q, w6.frozen? ⟨w.heap.size + 1 + 1, q, none⟩ = false := fun q => Lib.frozen_of_heap HZ6.out q
      go_wp2_with fail
      (try simp only [Exit.inBlock, Exit.then])
      refine bodyPost_ret (v := .tuple #[sv (.slice x1 s.ind.length y1) (.slice x2 s.que.length y2) (.slice x3 s.frm.length y3) st, .int .i64 0]) ?_ rfl ⟨?_, .inl ⟨st, _, _, _, HE.out, rfl, ?_⟩⟩
      · rw [results_cell_tmp rfl]; go_simp
      · exact bel_five B6.out (by omega)
      · exact (HS6.out.kab (kab_five (by omega))).low (by omega)
    have c1 : (k == 1) = false := by rw [beq_eq_false_iff_ne]; exact k1
    have c2 : (k == 2) = false := by rw [beq_eq_false_iff_ne]; exact k2
    have c3 : (k == 3) = false := by rw [beq_eq_false_iff_ne]; exact k3
    have c4 : (k == 4) = false := by rw [beq_eq_false_iff_ne]; exact k4
    have c5 : (k == 5) = false := by rw [beq_eq_false_iff_ne]; exact k5
    have c6 : (k == 6) = false := by rw [beq_eq_false_iff_ne]; exact k6
    have c7 : (k == 7) = false := by rw [beq_eq_false_iff_ne]; exact k7
    have c8 : (k == 8) = false := by rw [beq_eq_false_iff_ne]; exact k8
    have c9 : (k == 9) = false := by rw [beq_eq_false_iff_ne]; exact k9
    have c10 : (k == 10) = false := by rw [beq_eq_false_iff_ne]; exact k10
    have HE : Hid (R = .error 66) := by rw [HA.out]; show act s k n mo m = _; unfold act; rw [if_neg k1, if_neg k2, if_neg k3, if_neg k4, if_neg k5, if_neg k6, if_neg k7, if_neg k8, if_neg k9, if_neg k10]
    clear k1 k2 k3 k4 k5 k6 k7 k8 k9 k10
    go_wp2_with fail
    (try simp only [Exit.inBlock, Exit.then])
    refine bodyPost_ret (v := .tuple #[.agg #[.slice none 0 0, .int .i64 0, .slice none 0 0, .slice none 0 0, .int .u16 0], .int .i64 66]) ?_ rfl ⟨?_, .inr ⟨66, HE.out, rfl⟩⟩
    · rw [results_cell_tmp rfl]; go_simp
    · exact bel_five B4.out (by omega)
end Go.Proofs.Ytkaciochlemjiab
