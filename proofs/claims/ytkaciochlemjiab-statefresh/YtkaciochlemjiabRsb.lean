import Derived.Test.YtkaciochlemjiabRsa
namespace Go.Proofs.Ytkaciochlemjiab
open Go.RowKit Go.Maps

set_option maxRecDepth 100000 in
set_option maxHeartbeats 4000000 in
theorem rtop_any {vi vq vf : Value} {s : Stt} (w : World) (h : Stm w vi vq vf s) (hl : s.ind.length ≤ 4611686018427387904) : Calls Try.prog 41 #[sv vi vq vf s] w fun e w' => e = .returned (.int .i64 s.top) ∧ Below w.heap.size w w' := by
  obtain ⟨a1, c1, a2, c2, a3, c3, rfl, rfl, rfl⟩ := h.form
  obtain ⟨W1, hW1⟩ : ∃ W1, W1 = w.alloc (.cells #[.slice a1 s.ind.length c1, .int .i64 s.pen, .slice a2 s.que.length c2, .slice a3 s.frm.length c3, .int .u16 (s.flg : Int)] 27) := ⟨_, rfl⟩
  have HP1 : Hid (W1.heap[w.heap.size]? = some (.cells #[.slice a1 s.ind.length c1, .int .i64 s.pen, .slice a2 s.que.length c2, .slice a3 s.frm.length c3, .int .u16 (s.flg : Int)] 27 (0, 0))) := by rw [hW1]; exact heap_new w _
  have B1 : Hid (Below w.heap.size w W1) := by rw [hW1]; exact bel_up _ _
  have HW : Hid (W1 = w.alloc (.cells #[.slice a1 s.ind.length c1, .int .i64 s.pen, .slice a2 s.que.length c2, .slice a3 s.frm.length c3, .int .u16 (s.flg : Int)] 27)) := hW1
  have HS : Hid (Stm W1 (.slice a1 s.ind.length c1) (.slice a2 s.que.length c2) (.slice a3 s.frm.length c3) s) := h.up B1.out
  have HL : Hid (s.ind.length ≤ 4611686018427387904) := hl
  clear h hl hW1
  go_enter Try.func41, Try.ntmps41
  go_upto_region 1 with fail
  rw [← HW.out]
  obtain ⟨p0, p1, p2, p3, p4⟩ := box_cells HP1.out
  go_wp2_with fail
  go_loopg [3, 4] s.ind.length (fun gm v3 v4 wr => ∃ (i : Nat) (x : Int), v3 = .int .i64 x ∧ v4 = .int .i64 (i : Int) ∧ wr = W1 ∧ Hid (i ≤ s.ind.length ∧ gm = s.ind.length - i) ∧ Hid (x = topI (s.ind.take i)))
  case atStart => exact ⟨0, 0, rfl, rfl, rfl, ⟨Nat.zero_le _, rfl⟩, rfl⟩
  case round =>
    obtain ⟨i, x, rfl, rfl, hwe, HI, HX⟩ := hrel
    subst hwe
    by_cases hi : i < s.ind.length
    · obtain ⟨b1, g1, o1, d1, f1, -, -, f2, f3⟩ := HS.out.i
      obtain ⟨rfl, -, rfl⟩ := Value.slice.inj f1
      obtain rfl := f2 (by omega)
      have ci := f3 i _ (iC_get s.ind i hi)
      have e1 : decide ((i : Int) < (s.ind.length : Int)) = true := by rw [decide_eq_true_eq]; omega
      have e2 : decide (i < s.ind.length) = true := by rw [decide_eq_true_eq]; omega
      have e5 : (i : Int) < (s.ind.length : Int) := by omega
      have HIL : Hid (i < s.ind.length) := hi
      have hwr := w64n i (by have := HL.out; omega)
      have HSN : Hid (topI (s.ind.take (i + 1)) = s.ind.getD i 0) := last_snoc s.ind i hi
      obtain ⟨y, hy⟩ : ∃ y, s.ind.getD i 0 = y := ⟨_, rfl⟩
      rw [hy] at ci HSN
      clear f1 f2 f3 hy hi
      go_wp2_with fail
      go_roundg (s.ind.length - (i + 1))
      case measure => have := HI.out; have := HIL.out; omega
      case rel => exact ⟨i + 1, y, rfl, by first | rfl | (rw [show (i : Int) + 1 = ((i + 1 : Nat) : Int) by omega]), rfl, ⟨HIL.out, rfl⟩, HSN.out.symm⟩
    · have e1 : decide ((i : Int) < (s.ind.length : Int)) = false := by rw [decide_eq_false_iff_not]; omega
      have e2 : decide (i < s.ind.length) = false := by rw [decide_eq_false_iff_not]; omega
      have HT : Hid (x = s.top) := by
        show _ = _
        rw [HX.out, List.take_of_length_le (by omega)]
        rfl
      clear hi
      go_wp2_with fail
      go_ret
      exact ⟨by rw [← HT.out]; rfl, B1.out⟩

set_option maxRecDepth 100000 in
set_option maxHeartbeats 4000000 in
theorem rbit_any {vi vq vf : Value} {s : Stt} (n : Int) (w : World) (h : Stm w vi vq vf s) (hf : s.flg < 65536) (h0 : 0 ≤ n) (h16 : n < 16) : Calls Try.prog 67 #[sv vi vq vf s, .int .i64 n] w fun e w' => e = .returned (.bool (s.flg.testBit n.toNat)) ∧ Below w.heap.size w w' := by
  obtain ⟨a1, c1, a2, c2, a3, c3, rfl, rfl, rfl⟩ := h.form
  obtain ⟨W1, hW1⟩ : ∃ W1, W1 = w.alloc (.cells #[.slice a1 s.ind.length c1, .int .i64 s.pen, .slice a2 s.que.length c2, .slice a3 s.frm.length c3, .int .u16 (s.flg : Int)] 27) := ⟨_, rfl⟩
  have HP1 : Hid (W1.heap[w.heap.size]? = some (.cells #[.slice a1 s.ind.length c1, .int .i64 s.pen, .slice a2 s.que.length c2, .slice a3 s.frm.length c3, .int .u16 (s.flg : Int)] 27 (0, 0))) := by rw [hW1]; exact heap_new w _
  have B1 : Hid (Below w.heap.size w W1) := by rw [hW1]; exact bel_up _ _
  have HW : Hid (W1 = w.alloc (.cells #[.slice a1 s.ind.length c1, .int .i64 s.pen, .slice a2 s.que.length c2, .slice a3 s.frm.length c3, .int .u16 (s.flg : Int)] 27)) := hW1
  have HN : Hid (0 ≤ n ∧ n < 16) := ⟨h0, h16⟩
  have HF : Hid (s.flg < 65536) := hf
  have hfl : s.flg < 65536 := hf
  clear h hf hW1 h0 h16
  go_enter Try.func67, Try.ntmps67
  go_upto_region 1 with fail
  rw [← HW.out]
  obtain ⟨p0, p1, p2, p3, p4⟩ := box_cells HP1.out
  go_wp2_with fail
  clear hfl p0 p1 p2 p3 p4
  go_loopg [5, 6] n.toNat (fun gm v5 v6 wr => ∃ (i f : Nat), v5 = .int .i64 (f : Int) ∧ v6 = .int .i64 (i : Int) ∧ wr = W1 ∧ Hid (i ≤ n.toNat ∧ gm = n.toNat - i) ∧ Hid (f = s.flg / 2 ^ i))
  case atStart => exact ⟨0, s.flg, rfl, rfl, rfl, ⟨Nat.zero_le _, rfl⟩, by show _ = _; simp⟩
  case round =>
    obtain ⟨i, f, rfl, rfl, hwe, HI, HX⟩ := hrel
    subst hwe
    have hfb : f < 65536 := by rw [HX.out]; exact Nat.lt_of_le_of_lt (Nat.div_le_self _ _) HF.out
    by_cases hi : i < n.toNat
    · have e1 : decide ((i : Int) < n) = true := by rw [decide_eq_true_eq]; omega
      have HIL : Hid (i < n.toNat) := hi
      have hwr := w64n i (by have := HN.out; omega)
      have HSN : Hid (f / 2 = s.flg / 2 ^ (i + 1)) := by show _ = _; rw [HX.out, Nat.div_div_eq_div_mul, Nat.pow_succ]
      clear hi
      go_wp2_with fail
      go_roundg (n.toNat - (i + 1))
      case measure => have := HI.out; have := HIL.out; omega
      case rel => exact ⟨i + 1, f / 2, by first | rfl | (congr 1; omega), by first | rfl | (rw [show (i : Int) + 1 = ((i + 1 : Nat) : Int) by omega]), rfl, ⟨HIL.out, rfl⟩, HSN⟩
    · have e1 : decide ((i : Int) < n) = false := by rw [decide_eq_false_iff_not]; omega
      have HT : Hid (s.flg.testBit n.toNat = decide (f % 2 = 1)) := by
        have hii : i = n.toNat := by have := HI.out; omega
        show _ = _
        rw [HX.out, hii, Nat.testBit_eq_decide_div_mod_eq]
      clear hi
      by_cases hm : f % 2 = 1
      · have z0 : ((f : Int) % 2 == 1) = true := by rw [beq_iff_eq]; omega
        have z1 : decide (f % 2 = 1) = true := decide_eq_true hm
        have HZ1 : Hid _ := z1
        clear hm z1
        go_wp2_with fail
        go_ret
        exact ⟨by rw [HT.out, HZ1.out]; rfl, B1.out⟩
      · have z0 : ((f : Int) % 2 == 1) = false := by rw [beq_eq_false_iff_ne]; omega
        have z1 : decide (f % 2 = 1) = false := decide_eq_false hm
        have HZ1 : Hid _ := z1
        clear hm z1
        go_wp2_with fail
        go_ret
        exact ⟨by rw [HT.out, HZ1.out]; rfl, B1.out⟩


set_option maxRecDepth 100000 in
set_option maxHeartbeats 8000000 in
theorem rsettled_any {vi vq vf : Value} {s : Stt} (w : World) (h : Stm w vi vq vf s) (hl : s.ind.length ≤ 4611686018427387904) : Calls Try.prog 43 #[sv vi vq vf s] w fun e w' => e = .returned (sv vi vq vf s.settle) ∧ Below w.heap.size w w' := by
  obtain ⟨a1, c1, a2, c2, a3, c3, rfl, rfl, rfl⟩ := h.form
  obtain ⟨W1, hW1⟩ : ∃ W1, W1 = (w.alloc (.cells #[.slice a1 s.ind.length c1, .int .i64 s.pen, .slice a2 s.que.length c2, .slice a3 s.frm.length c3, .int .u16 (s.flg : Int)] 27)).alloc (.cells #[.slice none 0 0, .int .i64 0, .slice none 0 0, .slice none 0 0, .int .u16 0] 27) := ⟨_, rfl⟩
  have HW : Hid (W1 = (w.alloc (.cells #[.slice a1 s.ind.length c1, .int .i64 s.pen, .slice a2 s.que.length c2, .slice a3 s.frm.length c3, .int .u16 (s.flg : Int)] 27)).alloc (.cells #[.slice none 0 0, .int .i64 0, .slice none 0 0, .slice none 0 0, .int .u16 0] 27)) := hW1
  have B1 : Hid (Below w.heap.size w W1) := by rw [hW1]; exact below_trans (bel_up _ _) (bel_up _ _)
  have HP1 : Hid (W1.heap[w.heap.size]? = some (.cells #[.slice a1 s.ind.length c1, .int .i64 s.pen, .slice a2 s.que.length c2, .slice a3 s.frm.length c3, .int .u16 (s.flg : Int)] 27 (0, 0))) := by
    rw [hW1, (bel_up _ _).block _ (by simp)]; exact heap_new w _
  have HP2 : Hid (W1.heap[w.heap.size + 1]? = some (.cells zrC 27 (0, 0))) := by
    rw [hW1]
    have := heap_new (w.alloc (.cells #[.slice a1 s.ind.length c1, .int .i64 s.pen, .slice a2 s.que.length c2, .slice a3 s.frm.length c3, .int .u16 (s.flg : Int)] 27)) (.cells #[.slice none 0 0, .int .i64 0, .slice none 0 0, .slice none 0 0, .int .u16 0] 27)
    rw [World.size_alloc] at this
    exact this
  have HS : Hid (Stm W1 (.slice a1 s.ind.length c1) (.slice a2 s.que.length c2) (.slice a3 s.frm.length c3) s) := h.up B1.out
  have HL : Hid (s.ind.length ≤ 4611686018427387904) := hl
  clear h hl hW1
  go_enter Try.func43, Try.ntmps43
  go_upto_region 1 with fail
  rw [← HW.out]
  obtain ⟨p0, p1, p2, p3, p4⟩ := box_cells HP1.out
  go_wp2_with fail
  refine (rtop_any W1 HS.out HL.out).mono ?_
  rintro e w2 ⟨rfl, hb⟩
  have B2 : Hid (Below W1.heap.size W1 w2) := hb
  have HQ1 : Hid (w2.heap[w.heap.size]? = some (.cells #[.slice a1 s.ind.length c1, .int .i64 s.pen, .slice a2 s.que.length c2, .slice a3 s.frm.length c3, .int .u16 (s.flg : Int)] 27 (0, 0))) := (hb.block _ (lt_of_heap HP1.out)).trans HP1.out
  have HQ2 : Hid (w2.heap[w.heap.size + 1]? = some (.cells zrC 27 (0, 0))) := (hb.block _ (lt_of_heap HP2.out)).trans HP2.out
  clear hb p0 p1 p2 p3 p4
  obtain ⟨p0, p1, p2, p3, p4⟩ := box_cells HQ1.out
  have z0 := rcell HQ2.out 0 (.slice none 0 0) rfl
  have z1 := rcell HQ2.out 1 (.int .i64 0) rfl
  have z2 := rcell HQ2.out 2 (.slice none 0 0) rfl
  have z3 := rcell HQ2.out 3 (.slice none 0 0) rfl
  have z4 := rcell HQ2.out 4 (.int .u16 0) rfl
  have pz : ∀ q, w2.frozen? ⟨w.heap.size, q, none⟩ = false := fun q => Lib.frozen_of_heap HQ1.out q
  have rz : ∀ q, w2.frozen? ⟨w.heap.size + 1, q, none⟩ = false := fun q => Lib.frozen_of_heap HQ2.out q
  obtain ⟨tp, htp⟩ : ∃ tp, s.top = tp := ⟨_, rfl⟩
  rw [htp]
  have HBW : Hid (Below w.heap.size w w2) := below_trans B1.out B2.out
  by_cases hp : s.pen = tp
  · have d1 : (s.pen == tp) = true := by rw [beq_iff_eq]; exact hp
    have HE : Hid (sv (.slice a1 s.ind.length c1) (.slice a2 s.que.length c2) (.slice a3 s.frm.length c3) s.settle = .agg #[.slice a1 s.ind.length c1, .int .i64 (-1), .slice a2 s.que.length c2, .slice a3 s.frm.length c3, .int .u16 (s.flg : Int)]) := by
      show _ = _
      unfold Stt.settle
      rw [htp, if_pos hp]
    clear hp htp
    go_wp2_with fail
    (try simp only [Exit.inBlock, Exit.then])
    refine bodyPost_ret (v := .agg #[.slice a1 s.ind.length c1, .int .i64 (-1), .slice a2 s.que.length c2, .slice a3 s.frm.length c3, .int .u16 (s.flg : Int)]) ?_ rfl ⟨by rw [HE.out], ?_⟩
    · rw [results_cell1 rfl]; go_simp
    · exact bel_five (HBW.out.trans ((Below.refl _ _).setCell (p := ⟨w.heap.size, 1, none⟩) (Nat.le_refl _) _)) (by omega)
  · have d1 : (s.pen == tp) = false := by rw [beq_eq_false_iff_ne]; exact hp
    have HE : Hid (sv (.slice a1 s.ind.length c1) (.slice a2 s.que.length c2) (.slice a3 s.frm.length c3) s.settle = .agg #[.slice a1 s.ind.length c1, .int .i64 s.pen, .slice a2 s.que.length c2, .slice a3 s.frm.length c3, .int .u16 (s.flg : Int)]) := by
      show _ = _
      unfold Stt.settle
      rw [htp, if_neg hp]
    clear hp htp
    go_wp2_with fail
    (try simp only [Exit.inBlock, Exit.then])
    refine bodyPost_ret (v := .agg #[.slice a1 s.ind.length c1, .int .i64 s.pen, .slice a2 s.que.length c2, .slice a3 s.frm.length c3, .int .u16 (s.flg : Int)]) ?_ rfl ⟨by rw [HE.out], ?_⟩
    · rw [results_cell1 rfl]; go_simp
    · exact bel_five HBW.out (by omega)

/-- What a part of the reference's Do answers, with rows of its own. -/
def Ras (B : Nat) (w : World) (r : Except Int Stt) (e : Ending) (w' : World) : Prop :=
  Below B w w' ∧ ((∃ t vi vq vf, r = .ok t ∧ e = .returned (.tuple #[sv vi vq vf t, .int .i64 0]) ∧ Own B w' vi vq vf t) ∨ ∃ c, r = .error c ∧ e = .returned (.tuple #[zV, .int .i64 c]))
theorem below5 {B b : Nat} {W : World} {v0 v1 v2 v3 v4 : Value} (hb : B ≤ b) : Below B W (five W b v0 v1 v2 v3 v4) :=
  ((((Below.refl B W).setCell (p := ⟨b, 0, none⟩) hb _).setCell (p := ⟨b, 1, none⟩) hb _).setCell (p := ⟨b, 2, none⟩) hb _).setCell (p := ⟨b, 3, none⟩) hb _ |>.setCell (p := ⟨b, 4, none⟩) hb _

set_option maxRecDepth 100000 in
set_option maxHeartbeats 8000000 in
theorem rqueued_any {B : Nat} {vi vq vf : Value} {s : Stt} (k n mo : Int) (m : ByteArray) (w : World) (h : Own B w vi vq vf s) (hB : B ≤ w.heap.size) (hl : s.que.length ≤ 1000000) (hm : m.size ≤ 140737488355328) :
    Calls Try.prog 44 #[sv vi vq vf s, av k n mo, .string m] w fun e w' => Ras B w (aEnqueue s n m) e w' := by
  obtain ⟨a1, c1, a2, c2, a3, c3, rfl, rfl, rfl⟩ := h.stm.form
  obtain ⟨W1, hW1⟩ : ∃ W1, W1 = ((w.alloc (.cells #[.slice a1 s.ind.length c1, .int .i64 s.pen, .slice a2 s.que.length c2, .slice a3 s.frm.length c3, .int .u16 (s.flg : Int)] 27)).alloc (.cells #[.int .i64 k, .int .i64 n, .int .i64 mo] 38)).alloc (.cells #[.slice none 0 0, .int .i64 0, .slice none 0 0, .slice none 0 0, .int .u16 0] 27) := ⟨_, rfl⟩
  have HW : Hid (W1 = ((w.alloc (.cells #[.slice a1 s.ind.length c1, .int .i64 s.pen, .slice a2 s.que.length c2, .slice a3 s.frm.length c3, .int .u16 (s.flg : Int)] 27)).alloc (.cells #[.int .i64 k, .int .i64 n, .int .i64 mo] 38)).alloc (.cells #[.slice none 0 0, .int .i64 0, .slice none 0 0, .slice none 0 0, .int .u16 0] 27)) := hW1
  have B1 : Hid (Below w.heap.size w W1) := by rw [hW1]; exact below_trans (below_trans (bel_up _ _) (bel_up _ _)) (bel_up _ _)
  have s1 : (w.alloc (.cells #[.slice a1 s.ind.length c1, .int .i64 s.pen, .slice a2 s.que.length c2, .slice a3 s.frm.length c3, .int .u16 (s.flg : Int)] 27)).heap.size = w.heap.size + 1 := World.size_alloc _ _
  have s2 : ((w.alloc (.cells #[.slice a1 s.ind.length c1, .int .i64 s.pen, .slice a2 s.que.length c2, .slice a3 s.frm.length c3, .int .u16 (s.flg : Int)] 27)).alloc (.cells #[.int .i64 k, .int .i64 n, .int .i64 mo] 38)).heap.size = w.heap.size + 1 + 1 := by rw [World.size_alloc, s1]
  have HP1 : Hid (W1.heap[w.heap.size]? = some (.cells #[.slice a1 s.ind.length c1, .int .i64 s.pen, .slice a2 s.que.length c2, .slice a3 s.frm.length c3, .int .u16 (s.flg : Int)] 27 (0, 0))) := by
    rw [hW1, (bel_up _ _).block _ (by rw [s2]; omega), (bel_up _ _).block _ (by rw [s1]; omega)]; exact heap_new w _
  have HP2 : Hid (W1.heap[w.heap.size + 1]? = some (.cells #[.int .i64 k, .int .i64 n, .int .i64 mo] 38 (0, 0))) := by
    rw [hW1, (bel_up _ _).block _ (by rw [s2]; omega)]
    have := heap_new (w.alloc (.cells #[.slice a1 s.ind.length c1, .int .i64 s.pen, .slice a2 s.que.length c2, .slice a3 s.frm.length c3, .int .u16 (s.flg : Int)] 27)) (.cells #[.int .i64 k, .int .i64 n, .int .i64 mo] 38)
    rw [s1] at this
    exact this
  have HP3 : Hid (W1.heap[w.heap.size + 1 + 1]? = some (.cells zrC 27 (0, 0))) := by
    rw [hW1]
    have := heap_new ((w.alloc (.cells #[.slice a1 s.ind.length c1, .int .i64 s.pen, .slice a2 s.que.length c2, .slice a3 s.frm.length c3, .int .u16 (s.flg : Int)] 27)).alloc (.cells #[.int .i64 k, .int .i64 n, .int .i64 mo] 38)) (.cells #[.slice none 0 0, .int .i64 0, .slice none 0 0, .slice none 0 0, .int .u16 0] 27)
    rw [s2] at this
    exact this
  have HNX : Hid (Nx B W1 w.heap.size (.slice a1 s.ind.length c1) (.slice a2 s.que.length c2) (.slice a3 s.frm.length c3) s) := ⟨HP1.out, h.up B1.out, hB, Nat.le_trans hB B1.out.size⟩
  have HBB : Hid (Below B w W1) := B1.out.mono hB
  have HB : Hid (B ≤ w.heap.size) := hB
  have HL : Hid (s.que.length ≤ 1000000) := hl
  have HM : Hid (m.size ≤ 140737488355328) := hm
  obtain ⟨iQ, hq3, hy0, hy1, hy2⟩ := info_parts info9
  have HI9 : Hid (Try.prog.info? 9 = some iQ ∧ iQ.zero = some (.string ⟨#[]⟩) ∧ iQ.size = 1 ∧ iQ.bytes = 16) := ⟨hq3, hy0, hy1, hy2⟩
  clear h hB hl hm hW1 s1 s2 hq3 hy0 hy1 hy2
  obtain ⟨p0, p1, p2, p3, p4⟩ := box_cells HP1.out
  have q0 := rcell HP2.out 0 (.int .i64 k) rfl
  have q1 := rcell HP2.out 1 (.int .i64 n) rfl
  have q2 := rcell HP2.out 2 (.int .i64 mo) rfl
  have z0 := rcell HP3.out 0 (.slice none 0 0) rfl
  have z1 := rcell HP3.out 1 (.int .i64 0) rfl
  have z2 := rcell HP3.out 2 (.slice none 0 0) rfl
  have z3 := rcell HP3.out 3 (.slice none 0 0) rfl
  have z4 := rcell HP3.out 4 (.int .u16 0) rfl
  have pz : ∀ q, W1.frozen? ⟨w.heap.size, q, none⟩ = false := fun q => Lib.frozen_of_heap HP1.out q
  have rz : ∀ q, W1.frozen? ⟨w.heap.size + 1 + 1, q, none⟩ = false := fun q => Lib.frozen_of_heap HP3.out q
  go_enter Try.func44, Try.ntmps44
  go_upto_region 1 with fail
  rw [← HW.out]
  by_cases hn : n < 0
  · have d1 : decide (0 ≤ n) = false := by rw [decide_eq_false_iff_not]; omega
    have d2 : decide (n < 0) = true := by rw [decide_eq_true_eq]; exact hn
    have HE : Hid (aEnqueue s n m = .error 66) := by show _ = _; unfold aEnqueue; rw [if_pos hn]
    clear hn
    go_wp2_with (go_at_call 40; refine (rline_any _ (by decide) _).mono ?_; rintro e w9 ⟨rfl, hw9⟩; rw [hw9]; clear hw9 w9)
    (try simp only [Exit.inBlock, Exit.then])
    refine bodyPost_ret (v := .tuple #[.agg #[.slice none 0 0, .int .i64 0, .slice none 0 0, .slice none 0 0, .int .u16 0], .int .i64 66]) ?_ rfl ⟨?_, .inr ⟨66, HE.out, rfl⟩⟩
    · rw [results_cell_tmp rfl]; go_simp
    · exact HBB.out.trans (below5 (by have := HB.out; omega))
  have d1 : decide (0 ≤ n) = true := by rw [decide_eq_true_eq]; omega
  have d2 : decide (n < 0) = false := by rw [decide_eq_false_iff_not]; omega
  have HN : Hid (0 ≤ n) := by show 0 ≤ n; omega
  have HA : Hid (aEnqueue s n m = if wai (beh m n.toNat) = false then .error 63 else if s.que.length = 8 then .error 61 else .ok { s with que := s.que ++ [beh m n.toNat] }) := by show _ = _; unfold aEnqueue; rw [if_neg hn]
  have CBE : Hid (∀ W : World, Calls Try.prog 66 #[.string m, .int .i64 n] W fun e w' => e = .returned (.string (beh m n.toNat)) ∧ w' = W) := fun W => rbehind_any m n HN.out W
  have HDS : Hid ((beh m n.toNat).size ≤ 140737488355328) := by show _ ≤ _; unfold beh; rw [ByteArray.size_extract]; have := HM.out; omega
  obtain ⟨d, hd⟩ : ∃ d, beh m n.toNat = d := ⟨_, rfl⟩
  rw [hd] at HA CBE HDS
  have CLE : Hid (∀ W : World, Calls Try.prog 40 #[.string d] W fun e w' => e = .returned (.bool (hasNl d)) ∧ w' = W) := fun W => rline_any d (by have := HDS.out; omega) W
  clear hn hd
  by_cases hs0 : d.size = 0
  · have hde : d = ⟨#[]⟩ := bytes_ext (List.length_eq_zero_iff.1 (by rw [Array.length_toList]; exact hs0))
    have HE : Hid (aEnqueue s n m = .error 63) := by rw [HA.out, if_pos (wai_f0 (by omega))]; exact rfl
    subst hde
    clear hs0
    go_wp2_with (first | (go_at_call 66; refine (CBE.out _).mono ?_; rintro e w9 ⟨rfl, hw9⟩; rw [hw9]; clear hw9 w9) | (go_at_call 40; refine (CLE.out _).mono ?_; rintro e w9 ⟨rfl, hw9⟩; rw [hw9]; clear hw9 w9))
    (try simp only [Exit.inBlock, Exit.then])
    refine bodyPost_ret (v := .tuple #[.agg #[.slice none 0 0, .int .i64 0, .slice none 0 0, .slice none 0 0, .int .u16 0], .int .i64 63]) ?_ rfl ⟨?_, .inr ⟨63, HE.out, rfl⟩⟩
    · rw [results_cell_tmp rfl]; go_simp
    · exact HBB.out.trans (below5 (by have := HB.out; omega))
  have hem : d.toList.isEmpty = false := toL_emp d (by omega)
  have hem2 : (d.toList == []) = false := by cases hdl : d.toList with | nil => rw [hdl] at hem; cases hem | cons x l => rfl
  by_cases hs1 : 16 < d.size
  · have f1 : decide ((16 : Int) < (d.size : Int)) = true := by rw [decide_eq_true_eq]; omega
    have f2 : decide (16 < d.size) = true := by rw [decide_eq_true_eq]; omega
    have HE : Hid (aEnqueue s n m = .error 63) := by rw [HA.out, if_pos (wai_f1 (by omega))]; exact rfl
    clear hs0 hs1
    go_wp2_with (first | (go_at_call 66; refine (CBE.out _).mono ?_; rintro e w9 ⟨rfl, hw9⟩; rw [hw9]; clear hw9 w9) | (go_at_call 40; refine (CLE.out _).mono ?_; rintro e w9 ⟨rfl, hw9⟩; rw [hw9]; clear hw9 w9))
    (try simp only [Exit.inBlock, Exit.then])
    refine bodyPost_ret (v := .tuple #[.agg #[.slice none 0 0, .int .i64 0, .slice none 0 0, .slice none 0 0, .int .u16 0], .int .i64 63]) ?_ rfl ⟨?_, .inr ⟨63, HE.out, rfl⟩⟩
    · rw [results_cell_tmp rfl]; go_simp
    · exact HBB.out.trans (below5 (by have := HB.out; omega))
  have f1 : decide ((16 : Int) < (d.size : Int)) = false := by rw [decide_eq_false_iff_not]; omega
  have f2 : decide (16 < d.size) = false := by rw [decide_eq_false_iff_not]; omega
  cases hnl : hasNl d with
  | true =>
    have HE : Hid (aEnqueue s n m = .error 63) := by rw [HA.out, if_pos (wai_f2 hnl)]; exact rfl
    rw [hnl] at CLE
    clear hs0 hs1 hnl
    go_wp2_with (first | (go_at_call 66; refine (CBE.out _).mono ?_; rintro e w9 ⟨rfl, hw9⟩; rw [hw9]; clear hw9 w9) | (go_at_call 40; refine (CLE.out _).mono ?_; rintro e w9 ⟨rfl, hw9⟩; rw [hw9]; clear hw9 w9))
    (try simp only [Exit.inBlock, Exit.then])
    refine bodyPost_ret (v := .tuple #[.agg #[.slice none 0 0, .int .i64 0, .slice none 0 0, .slice none 0 0, .int .u16 0], .int .i64 63]) ?_ rfl ⟨?_, .inr ⟨63, HE.out, rfl⟩⟩
    · rw [results_cell_tmp rfl]; go_simp
    · exact HBB.out.trans (below5 (by have := HB.out; omega))
  | false =>
    have hwt : ¬ (wai d = false) := by unfold wai; rw [hnl]; simp; omega
    rw [hnl] at CLE
    by_cases hq8 : s.que.length = 8
    · have g1 : ((s.que.length : Int) == 8) = true := by rw [beq_iff_eq]; omega
      have g2 : (s.que.length == 8) = true := by rw [beq_iff_eq]; omega
      have HE : Hid (aEnqueue s n m = .error 61) := by rw [HA.out, if_neg hwt, if_pos hq8]; exact rfl
      clear hs0 hs1 hnl hq8 hwt
      go_wp2_with (first | (go_at_call 66; refine (CBE.out _).mono ?_; rintro e w9 ⟨rfl, hw9⟩; rw [hw9]; clear hw9 w9) | (go_at_call 40; refine (CLE.out _).mono ?_; rintro e w9 ⟨rfl, hw9⟩; rw [hw9]; clear hw9 w9))
      (try simp only [Exit.inBlock, Exit.then])
      refine bodyPost_ret (v := .tuple #[.agg #[.slice none 0 0, .int .i64 0, .slice none 0 0, .slice none 0 0, .int .u16 0], .int .i64 61]) ?_ rfl ⟨?_, .inr ⟨61, HE.out, rfl⟩⟩
      · rw [results_cell_tmp rfl]; go_simp
      · exact HBB.out.trans (below5 (by have := HB.out; omega))
    · have g1 : ((s.que.length : Int) == 8) = false := by rw [beq_eq_false_iff_ne]; omega
      have g2 : (s.que.length == 8) = false := by rw [beq_eq_false_iff_ne]; omega
      have HE : Hid (aEnqueue s n m = .ok { s with que := s.que ++ [d] }) := by rw [HA.out, if_neg hwt, if_neg hq8]; exact rfl
      clear hs0 hs1 hnl hq8 hwt
      have HNA : Hid (Nx B (W1.alloc (.cells #[.string d] 9)) w.heap.size (.slice a1 s.ind.length c1) (.slice a2 s.que.length c2) (.slice a3 s.frm.length c3) s) := HNX.out.up (bel_up _ _)
      have HZA : Hid ((W1.alloc (.cells #[.string d] 9)).heap[w.heap.size + 1 + 1]? = some (.cells zrC 27 (0, 0))) := ((bel_up W1 (.cells #[.string d] 9)).block _ (lt_of_heap HP3.out)).trans HP3.out
      go_upto_region 11 with (first | (go_at_call 66; refine (CBE.out _).mono ?_; rintro e w9 ⟨rfl, hw9⟩; rw [hw9]; clear hw9 w9) | (go_at_call 40; refine (CLE.out _).mono ?_; rintro e w9 ⟨rfl, hw9⟩; rw [hw9]; clear hw9 w9))
      go_upto_region 12 with (at_builtin; refine wpList_append_own _ rfl _ _ 23 rfl B 9 iQ (.string ⟨#[]⟩) 1 16 Try.underlying23 HI9.out.1 HI9.out.2.1 HI9.out.2.2.1 HI9.out.2.2.2 rfl (by decide) _ _ _ rfl HNA.out.own.q ⟨W1.heap.size, 0, none⟩ 1 1 [.string d] rfl rfl (cell_one_new _ _ _) (by simp [Value.oneCell']) (by have := HL.out; unfold maxLen; omega) (by have := HL.out; omega) HNA.out.lB ?_; intro v6 w6 ho6 hg6 _; have hnn := HNA.out.appQ (x := d) hg6 (by rw [List.length_append, qC_app]; exact ho6); have HN6 : Hid _ := hnn.1; have HB6 : Hid _ := hnn.2; have HZ6 : Hid (w6.heap[w.heap.size + 1 + 1]? = some (.cells zrC 27 (0, 0))) := (hg6.block _ (lt_of_heap HZA.out) (fun e => tag_ne_blk HNA.out.own.q HZA.out (by decide) e.symm)).trans HZA.out; have hfz6 : w6.frozen? ⟨w.heap.size, 2, none⟩ = false := froz_of hg6 HNA.out.blk HNA.out.own.q (by decide); have hc6 : w6.cell? ⟨w.heap.size, 2, none⟩ = some (.slice a2 s.que.length c2) := cel_of hg6 HNA.out.blk HNA.out.own.q (by decide) rfl; clear hnn; obtain ⟨qa, qc, rfl⟩ := row_shape ho6; clear ho6 hg6)
      clear p0 p1 p2 p3 p4 z0 z1 z2 z3 z4 q0 q1 q2 rz pz hfz6 hc6 d1 d2 f1 f2 g1 g2 hem hem2
      obtain ⟨W7, hW7⟩ : ∃ W7, W7 = w6.setCell ⟨w.heap.size, 2, none⟩ (.slice qa (s.que.length + 1) qc) := ⟨_, rfl⟩
      rw [← hW7]
      rw [← hW7] at HN6 HB6
      have HZ7 : Hid (W7.heap[w.heap.size + 1 + 1]? = some (.cells zrC 27 (0, 0))) := by rw [hW7, Below.heap_setCell _ _ _ _ (by simp <;> omega)]; exact HZ6.out
      have HBF : Hid (Below B w W7) := HBB.out.trans (((bel_up W1 (.cells #[.string d] 9)).mono (Nat.le_trans HB.out B1.out.size)).trans HB6.out)
      clear hW7
      obtain ⟨p0, p1, p2, p3, p4⟩ := box_cells (x0 := .slice a1 s.ind.length c1) (x1 := .int .i64 s.pen) (x2 := .slice qa (s.que.length + 1) qc) (x3 := .slice a3 s.frm.length c3) (x4 := .int .u16 (s.flg : Int)) HN6.out.blk
      have z0 := rcell HZ7.out 0 (.slice none 0 0) rfl
      have z1 := rcell HZ7.out 1 (.int .i64 0) rfl
      have z2 := rcell HZ7.out 2 (.slice none 0 0) rfl
      have z3 := rcell HZ7.out 3 (.slice none 0 0) rfl
      have z4 := rcell HZ7.out 4 (.int .u16 0) rfl
      have rz : ∀ q, W7.frozen? ⟨w.heap.size + 1 + 1, q, none⟩ = false := fun q => Lib.frozen_of_heap HZ7.out q
      go_wp2_with fail
      (try simp only [Exit.inBlock, Exit.then])
      refine bodyPost_ret (v := .tuple #[sv (.slice a1 s.ind.length c1) (.slice qa (s.que.length + 1) qc) (.slice a3 s.frm.length c3) { s with que := s.que ++ [d] }, .int .i64 0]) ?_ rfl ⟨?_, .inl ⟨{ s with que := s.que ++ [d] }, _, _, _, HE.out, rfl, own_five HN6.out.own HZ7.out⟩⟩
      · rw [results_cell_tmp rfl]; go_simp
      · exact HBF.out.trans (below5 (by have := HB.out; omega))
end Go.Proofs.Ytkaciochlemjiab
