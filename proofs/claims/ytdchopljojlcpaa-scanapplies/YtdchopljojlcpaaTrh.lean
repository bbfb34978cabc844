import Derived.Test.YtdchopljojlcpaaProg
import Derived.Test.YtdchopljojlcpaaShelf
import Derived.Test.YtdchopljojlcpaaLsh
namespace Go.Proofs.Ytdchopljojlcpaa
open Go.RowKit Go.Maps

set_option maxRecDepth 100000 in
set_option maxHeartbeats 4000000 in
theorem rtop_any {vi vq vf : Value} {s : Stt} (w : World) (h : Stm w vi vq vf s) (hl : s.ind.length ≤ 4611686018427387904) : Calls Try.prog 31 #[sv vi vq vf s] w fun e w' => e = .returned (.int .i64 s.top) ∧ Below w.heap.size w w' := by
  obtain ⟨a1, c1, a2, c2, a3, c3, rfl, rfl, rfl⟩ := h.form
  obtain ⟨W1, hW1⟩ : ∃ W1, W1 = w.alloc (.cells #[.slice a1 s.ind.length c1, .int .i64 s.pen, .slice a2 s.que.length c2, .slice a3 s.frm.length c3, .int .u16 (s.flg : Int)] 33) := ⟨_, rfl⟩
  have HP1 : Hid (W1.heap[w.heap.size]? = some (.cells #[.slice a1 s.ind.length c1, .int .i64 s.pen, .slice a2 s.que.length c2, .slice a3 s.frm.length c3, .int .u16 (s.flg : Int)] 33 (0, 0))) := by rw [hW1]; exact heap_new w _
  have B1 : Hid (Below w.heap.size w W1) := by rw [hW1]; exact bel_up _ _
  have HW : Hid (W1 = w.alloc (.cells #[.slice a1 s.ind.length c1, .int .i64 s.pen, .slice a2 s.que.length c2, .slice a3 s.frm.length c3, .int .u16 (s.flg : Int)] 33)) := hW1
  have HS : Hid (Stm W1 (.slice a1 s.ind.length c1) (.slice a2 s.que.length c2) (.slice a3 s.frm.length c3) s) := h.up B1.out
  have HL : Hid (s.ind.length ≤ 4611686018427387904) := hl
  clear h hl hW1
  go_enter Try.func31, Try.ntmps31
  go_upto_region 1 with fail
  rw [← HW.out]
  obtain ⟨p0, p1, p2, p3, p4⟩ := box_cells HP1.out
  go_wp2_with fail
  go_loopg [3, 4] s.ind.length (fun gm v3 v4 wr => ∃ (i : Nat) (x : Int), v3 = .int .i64 x ∧ v4 = .int .i64 (i : Int) ∧ wr = W1 ∧ Hid (i ≤ s.ind.length ∧ gm = s.ind.length - i) ∧ Hid (x = topI (s.ind.take i)))
  case atStart => exact ⟨0, 0, rfl, rfl, rfl, ⟨Nat.zero_le _, rfl⟩, rfl⟩
  case round =>
    obtain ⟨i, x, rfl, rfl, hwe, HI, HX⟩ := hrel
    subst hwe
    by_cases hi : i < s.ind.length
    · obtain ⟨b1, g1, o1, d1, f1, -, -, f2, f3⟩ := HS.out.i
      obtain ⟨rfl, -, rfl⟩ := Value.slice.inj f1
      obtain rfl := f2 (by omega)
      have ci := f3 i _ (iC_get s.ind i hi)
      have e1 : decide ((i : Int) < (s.ind.length : Int)) = true := by rw [decide_eq_true_eq]; omega
      have e2 : decide (i < s.ind.length) = true := by rw [decide_eq_true_eq]; omega
      have e5 : (i : Int) < (s.ind.length : Int) := by omega
      have HIL : Hid (i < s.ind.length) := hi
      have hwr := w64n i (by have := HL.out; omega)
      have HSN : Hid (topI (s.ind.take (i + 1)) = s.ind.getD i 0) := last_snoc s.ind i hi
      obtain ⟨y, hy⟩ : ∃ y, s.ind.getD i 0 = y := ⟨_, rfl⟩
      rw [hy] at ci HSN
      clear f1 f2 f3 hy hi
      go_wp2_with fail
      go_roundg (s.ind.length - (i + 1))
      case measure => have := HI.out; have := HIL.out; omega
      case rel => exact ⟨i + 1, y, rfl, by first | rfl | (rw [show (i : Int) + 1 = ((i + 1 : Nat) : Int) by omega]), rfl, ⟨HIL.out, rfl⟩, HSN.out.symm⟩
    · have e1 : decide ((i : Int) < (s.ind.length : Int)) = false := by rw [decide_eq_false_iff_not]; omega
      have e2 : decide (i < s.ind.length) = false := by rw [decide_eq_false_iff_not]; omega
      have HT : Hid (x = s.top) := by
        show _ = _
        rw [HX.out, List.take_of_length_le (by omega)]
        rfl
      clear hi
      go_wp2_with fail
      go_ret
      exact ⟨by rw [← HT.out]; rfl, B1.out⟩
set_option maxRecDepth 100000 in
set_option maxHeartbeats 4000000 in
theorem rbit_any {vi vq vf : Value} {s : Stt} (n : Int) (w : World) (h : Stm w vi vq vf s) (hf : s.flg < 65536) (h0 : 0 ≤ n) (h16 : n < 16) : Calls Try.prog 32 #[sv vi vq vf s, .int .i64 n] w fun e w' => e = .returned (.bool (s.flg.testBit n.toNat)) ∧ Below w.heap.size w w' := by
  obtain ⟨a1, c1, a2, c2, a3, c3, rfl, rfl, rfl⟩ := h.form
  obtain ⟨W1, hW1⟩ : ∃ W1, W1 = w.alloc (.cells #[.slice a1 s.ind.length c1, .int .i64 s.pen, .slice a2 s.que.length c2, .slice a3 s.frm.length c3, .int .u16 (s.flg : Int)] 33) := ⟨_, rfl⟩
  have HP1 : Hid (W1.heap[w.heap.size]? = some (.cells #[.slice a1 s.ind.length c1, .int .i64 s.pen, .slice a2 s.que.length c2, .slice a3 s.frm.length c3, .int .u16 (s.flg : Int)] 33 (0, 0))) := by rw [hW1]; exact heap_new w _
  have B1 : Hid (Below w.heap.size w W1) := by rw [hW1]; exact bel_up _ _
  have HW : Hid (W1 = w.alloc (.cells #[.slice a1 s.ind.length c1, .int .i64 s.pen, .slice a2 s.que.length c2, .slice a3 s.frm.length c3, .int .u16 (s.flg : Int)] 33)) := hW1
  have HN : Hid (0 ≤ n ∧ n < 16) := ⟨h0, h16⟩
  have HF : Hid (s.flg < 65536) := hf
  have hfl : s.flg < 65536 := hf
  clear h hf hW1 h0 h16
  go_enter Try.func32, Try.ntmps32
  go_upto_region 1 with fail
  rw [← HW.out]
  obtain ⟨p0, p1, p2, p3, p4⟩ := box_cells HP1.out
  go_wp2_with fail
  clear hfl p0 p1 p2 p3 p4
  go_loopg [5, 6] n.toNat (fun gm v5 v6 wr => ∃ (i f : Nat), v5 = .int .i64 (f : Int) ∧ v6 = .int .i64 (i : Int) ∧ wr = W1 ∧ Hid (i ≤ n.toNat ∧ gm = n.toNat - i) ∧ Hid (f = s.flg / 2 ^ i))
  case atStart => exact ⟨0, s.flg, rfl, rfl, rfl, ⟨Nat.zero_le _, rfl⟩, by show _ = _; simp⟩
  case round =>
    obtain ⟨i, f, rfl, rfl, hwe, HI, HX⟩ := hrel
    subst hwe
    have hfb : f < 65536 := by rw [HX.out]; exact Nat.lt_of_le_of_lt (Nat.div_le_self _ _) HF.out
    by_cases hi : i < n.toNat
    · have e1 : decide ((i : Int) < n) = true := by rw [decide_eq_true_eq]; omega
      have HIL : Hid (i < n.toNat) := hi
      have hwr := w64n i (by have := HN.out; omega)
      have HSN : Hid (f / 2 = s.flg / 2 ^ (i + 1)) := by show _ = _; rw [HX.out, Nat.div_div_eq_div_mul, Nat.pow_succ]
      clear hi
      go_wp2_with fail
      go_roundg (n.toNat - (i + 1))
      case measure => have := HI.out; have := HIL.out; omega
      case rel => exact ⟨i + 1, f / 2, by first | rfl | (congr 1; omega), by first | rfl | (rw [show (i : Int) + 1 = ((i + 1 : Nat) : Int) by omega]), rfl, ⟨HIL.out, rfl⟩, HSN⟩
    · have e1 : decide ((i : Int) < n) = false := by rw [decide_eq_false_iff_not]; omega
      have HT : Hid (s.flg.testBit n.toNat = decide (f % 2 = 1)) := by
        have hii : i = n.toNat := by have := HI.out; omega
        show _ = _
        rw [HX.out, hii, Nat.testBit_eq_decide_div_mod_eq]
      clear hi
      by_cases hm : f % 2 = 1
      · have z0 : ((f : Int) % 2 == 1) = true := by rw [beq_iff_eq]; omega
        have z1 : decide (f % 2 = 1) = true := decide_eq_true hm
        have HZ1 : Hid _ := z1
        clear hm z1
        go_wp2_with fail
        go_ret
        exact ⟨by rw [HT.out, HZ1.out]; rfl, B1.out⟩
      · have z0 : ((f : Int) % 2 == 1) = false := by rw [beq_eq_false_iff_ne]; omega
        have z1 : decide (f % 2 = 1) = false := decide_eq_false hm
        have HZ1 : Hid _ := z1
        clear hm z1
        go_wp2_with fail
        go_ret
        exact ⟨by rw [HT.out, HZ1.out]; rfl, B1.out⟩
set_option maxRecDepth 100000 in
set_option maxHeartbeats 16000000 in
theorem rholds_any {vi vq vf : Value} {s : Stt} (k n : Int) (ended : Bool) (w : World) (h : Stm w vi vq vf s) (hf : s.flg < 65536) (hl : s.ind.length ≤ 4611686018427387904) :
    Calls Try.prog 19 #[sv vi vq vf s, tv k n, .bool ended] w fun e w' => e = .returned (.bool (hld s k n ended)) ∧ Below w.heap.size w w' := by
  obtain ⟨a1, c1, a2, c2, a3, c3, rfl, rfl, rfl⟩ := h.form
  obtain ⟨W1, hW1⟩ : ∃ W1, W1 = (w.alloc (.cells #[.slice a1 s.ind.length c1, .int .i64 s.pen, .slice a2 s.que.length c2, .slice a3 s.frm.length c3, .int .u16 (s.flg : Int)] 33)).alloc (.cells #[.int .i64 k, .int .i64 n] 53) := ⟨_, rfl⟩
  have B1 : Hid (Below w.heap.size w W1) := by rw [hW1]; exact below_trans (bel_up _ _) (bel_up _ _)
  have HP1 : Hid (W1.heap[w.heap.size]? = some (.cells #[.slice a1 s.ind.length c1, .int .i64 s.pen, .slice a2 s.que.length c2, .slice a3 s.frm.length c3, .int .u16 (s.flg : Int)] 33 (0, 0))) := by
    rw [hW1, (bel_up _ _).block _ (by simp)]; exact heap_new w _
  have HP2 : Hid (W1.heap[w.heap.size + 1]? = some (.cells #[.int .i64 k, .int .i64 n] 53 (0, 0))) := by
    rw [hW1]
    have := heap_new (w.alloc (.cells #[.slice a1 s.ind.length c1, .int .i64 s.pen, .slice a2 s.que.length c2, .slice a3 s.frm.length c3, .int .u16 (s.flg : Int)] 33)) (.cells #[.int .i64 k, .int .i64 n] 53)
    rw [World.size_alloc] at this
    exact this
  have HPA : Hid (∀ W, Below W1.heap.size W1 W → W.heap[w.heap.size]? = some (.cells #[.slice a1 s.ind.length c1, .int .i64 s.pen, .slice a2 s.que.length c2, .slice a3 s.frm.length c3, .int .u16 (s.flg : Int)] 33 (0, 0)) ∧ W.cell? ⟨w.heap.size + 1, 0, none⟩ = some (.int .i64 k) ∧ W.cell? ⟨w.heap.size + 1, 1, none⟩ = some (.int .i64 n)) := fun W hW => by
    have h2 := (hW.block _ (lt_of_heap HP2.out)).trans HP2.out
    exact ⟨(hW.block _ (lt_of_heap HP1.out)).trans HP1.out, by rw [Lib.cell_of_heap h2]; rfl, by rw [Lib.cell_of_heap h2]; rfl⟩
  have HW : Hid (W1 = (w.alloc (.cells #[.slice a1 s.ind.length c1, .int .i64 s.pen, .slice a2 s.que.length c2, .slice a3 s.frm.length c3, .int .u16 (s.flg : Int)] 33)).alloc (.cells #[.int .i64 k, .int .i64 n] 53)) := hW1
  have HS : Hid (Stm W1 (.slice a1 s.ind.length c1) (.slice a2 s.que.length c2) (.slice a3 s.frm.length c3) s) := h.up B1.out
  have HF : Hid (s.flg < 65536) := hf
  have HL : Hid (s.ind.length ≤ 4611686018427387904) := hl
  clear h hf hl hW1
  go_enter Try.func19, Try.ntmps19
  go_upto_region 1 with fail
  rw [← HW.out]
  obtain ⟨p0, p1, p2, p3, p4⟩ := box_cells HP1.out
  go_wp2_with fail
  refine (rtop_any W1 HS.out HL.out).mono ?_
  rintro e w2 ⟨rfl, hb⟩
  have B2 : Hid (Below W1.heap.size W1 w2) := hb
  clear hb p0 p1 p2 p3 p4
  obtain ⟨hbx, q0, q1⟩ := HPA.out w2 B2.out
  obtain ⟨p0, p1, p2, p3, p4⟩ := box_cells hbx
  clear hbx
  obtain ⟨tp, htp⟩ : ∃ tp, s.top = tp := ⟨_, rfl⟩
  rw [htp]
  have HTP : Hid (s.top = tp) := htp
  clear htp
  by_cases hn0 : 0 ≤ n
  · have i1 : decide (0 ≤ n) = true := decide_eq_true hn0
    by_cases hn1 : n < 16
    · have i2 : decide (n < 16) = true := decide_eq_true hn1
      have HIS : Hid (0 ≤ n ∧ n < 16) := ⟨hn0, hn1⟩
      clear hn0 hn1
      by_cases k1 : k = 1
      · subst k1
        by_cases hp : 0 ≤ s.pen
        · have d1 : decide (0 ≤ s.pen) = true := decide_eq_true hp
          have HE : Hid (hld s 1 n ended = decide (tp < s.pen)) := by show (decide (0 ≤ s.pen) && decide (s.top < s.pen)) = _; rw [d1, HTP.out]; exact rfl
          clear hp
          go_wp2_with fail
          go_ret
          exact ⟨by rw [HE.out]; rfl, below_trans B1.out B2.out⟩
        · have d1 : decide (0 ≤ s.pen) = false := decide_eq_false hp
          have HE : Hid (hld s 1 n ended = false) := by show (decide (0 ≤ s.pen) && decide (s.top < s.pen)) = _; rw [d1]; exact rfl
          clear hp
          go_wp2_with fail
          go_ret
          exact ⟨by rw [HE.out]; rfl, below_trans B1.out B2.out⟩
      by_cases k2 : k = 2
      · subst k2
        by_cases hp : 0 ≤ s.pen
        · have d1 : decide (0 ≤ s.pen) = true := decide_eq_true hp
          have HE : Hid (hld s 2 n ended = decide (s.pen < tp)) := by show (decide (0 ≤ s.pen) && decide (s.pen < s.top)) = _; rw [d1, HTP.out]; exact rfl
          clear hp
          go_wp2_with fail
          go_ret
          exact ⟨by rw [HE.out]; rfl, below_trans B1.out B2.out⟩
        · have d1 : decide (0 ≤ s.pen) = false := decide_eq_false hp
          have HE : Hid (hld s 2 n ended = false) := by show (decide (0 ≤ s.pen) && decide (s.pen < s.top)) = _; rw [d1]; exact rfl
          clear hp
          go_wp2_with fail
          go_ret
          exact ⟨by rw [HE.out]; rfl, below_trans B1.out B2.out⟩
      by_cases k3 : k = 3
      · subst k3
        by_cases hq : s.que.length = 0
        · have d1 : decide ((0 : Int) < (s.que.length : Int)) = false := decide_eq_false (by omega)
          have d2 : decide (0 < s.que.length) = false := decide_eq_false (by omega)
          have HE : Hid (hld s 3 n ended = false) := decide_eq_false (by omega)
          clear hq
          go_wp2_with fail
          go_ret
          exact ⟨by rw [HE.out]; rfl, below_trans B1.out B2.out⟩
        · have d1 : decide ((0 : Int) < (s.que.length : Int)) = true := decide_eq_true (by omega)
          have d2 : decide (0 < s.que.length) = true := decide_eq_true (by omega)
          have HE : Hid (hld s 3 n ended = true) := decide_eq_true (by omega)
          clear hq
          go_wp2_with fail
          go_ret
          exact ⟨by rw [HE.out]; rfl, below_trans B1.out B2.out⟩
      by_cases k4 : k = 4
      · subst k4
        by_cases hq : s.que.length = 0
        · have d1 : ((s.que.length : Int) == 0) = true := by rw [beq_iff_eq]; omega
          have d2 : (s.que.length == 0) = true := by rw [beq_iff_eq]; omega
          have HE : Hid (hld s 4 n ended = true) := decide_eq_true (by omega)
          clear hq
          go_wp2_with fail
          go_ret
          exact ⟨by rw [HE.out]; rfl, below_trans B1.out B2.out⟩
        · have d1 : ((s.que.length : Int) == 0) = false := by rw [beq_eq_false_iff_ne]; omega
          have d2 : (s.que.length == 0) = false := by rw [beq_eq_false_iff_ne]; omega
          have HE : Hid (hld s 4 n ended = false) := decide_eq_false (by omega)
          clear hq
          go_wp2_with fail
          go_ret
          exact ⟨by rw [HE.out]; rfl, below_trans B1.out B2.out⟩
      by_cases k5 : k = 5
      · subst k5
        go_wp2_with fail
        refine (rbit_any n w2 (HS.out.up B2.out) HF.out HIS.out.1 HIS.out.2).mono ?_
        rintro e w3 ⟨rfl, hb⟩
        have B3 : Hid (Below W1.heap.size W1 w3) := below_trans B2.out hb
        have HE : Hid (hld s 5 n ended = (s.flg.testBit n.toNat)) := by show ((decide (0 ≤ n) && decide (n < 16)) && s.flg.testBit n.toNat) = _; rw [i1, i2]; exact rfl
        clear hb
        go_wp2_with fail
        go_ret
        exact ⟨by rw [HE.out]; rfl, below_trans B1.out B3.out⟩
      by_cases k6 : k = 6
      · subst k6
        go_wp2_with fail
        refine (rbit_any n w2 (HS.out.up B2.out) HF.out HIS.out.1 HIS.out.2).mono ?_
        rintro e w3 ⟨rfl, hb⟩
        have B3 : Hid (Below W1.heap.size W1 w3) := below_trans B2.out hb
        have HE : Hid (hld s 6 n ended = (!s.flg.testBit n.toNat)) := by show ((decide (0 ≤ n) && decide (n < 16)) && !s.flg.testBit n.toNat) = _; rw [i1, i2]; exact rfl
        clear hb
        go_wp2_with fail
        go_ret
        exact ⟨by rw [HE.out]; rfl, below_trans B1.out B3.out⟩
      by_cases k7 : k = 7
      · subst k7
        have HE : Hid (hld s 7 n ended = ended) := rfl
        go_wp2_with fail
        go_ret
        exact ⟨by rw [HE.out]; rfl, below_trans B1.out B2.out⟩
      by_cases k8 : k = 8
      · subst k8
        by_cases hq : s.ind.length = 0
        · have d1 : decide ((0 : Int) < (s.ind.length : Int)) = false := decide_eq_false (by omega)
          have d2 : decide (0 < s.ind.length) = false := decide_eq_false (by omega)
          have HE : Hid (hld s 8 n ended = false) := decide_eq_false (by omega)
          clear hq
          go_wp2_with fail
          go_ret
          exact ⟨by rw [HE.out]; rfl, below_trans B1.out B2.out⟩
        · have d1 : decide ((0 : Int) < (s.ind.length : Int)) = true := decide_eq_true (by omega)
          have d2 : decide (0 < s.ind.length) = true := decide_eq_true (by omega)
          have HE : Hid (hld s 8 n ended = true) := decide_eq_true (by omega)
          clear hq
          go_wp2_with fail
          go_ret
          exact ⟨by rw [HE.out]; rfl, below_trans B1.out B2.out⟩
      have z1 : (k == 1) = false := by rw [beq_eq_false_iff_ne]; exact k1
      have z2 : (k == 2) = false := by rw [beq_eq_false_iff_ne]; exact k2
      have z3 : (k == 3) = false := by rw [beq_eq_false_iff_ne]; exact k3
      have z4 : (k == 4) = false := by rw [beq_eq_false_iff_ne]; exact k4
      have z5 : (k == 5) = false := by rw [beq_eq_false_iff_ne]; exact k5
      have z6 : (k == 6) = false := by rw [beq_eq_false_iff_ne]; exact k6
      have z7 : (k == 7) = false := by rw [beq_eq_false_iff_ne]; exact k7
      have z8 : (k == 8) = false := by rw [beq_eq_false_iff_ne]; exact k8
      have HE : Hid (hld s k n ended = false) := by show _ = _; unfold hld; rw [if_neg k1, if_neg k2, if_neg k3, if_neg k4, if_neg k5, if_neg k6, if_neg k7, if_neg k8]
      clear k1 k2 k3 k4 k5 k6 k7 k8
      go_wp2_with fail
      go_ret
      exact ⟨by rw [HE.out]; rfl, below_trans B1.out B2.out⟩
    · have i2 : decide (n < 16) = false := decide_eq_false hn1
      have HIS : Hid ((decide (0 ≤ n) && decide (n < 16)) = false) := by rw [i1, i2]; exact rfl
      clear hn0 hn1
      by_cases k1 : k = 1
      · subst k1
        by_cases hp : 0 ≤ s.pen
        · have d1 : decide (0 ≤ s.pen) = true := decide_eq_true hp
          have HE : Hid (hld s 1 n ended = decide (tp < s.pen)) := by show (decide (0 ≤ s.pen) && decide (s.top < s.pen)) = _; rw [d1, HTP.out]; exact rfl
          clear hp
          go_wp2_with fail
          go_ret
          exact ⟨by rw [HE.out]; rfl, below_trans B1.out B2.out⟩
        · have d1 : decide (0 ≤ s.pen) = false := decide_eq_false hp
          have HE : Hid (hld s 1 n ended = false) := by show (decide (0 ≤ s.pen) && decide (s.top < s.pen)) = _; rw [d1]; exact rfl
          clear hp
          go_wp2_with fail
          go_ret
          exact ⟨by rw [HE.out]; rfl, below_trans B1.out B2.out⟩
      by_cases k2 : k = 2
      · subst k2
        by_cases hp : 0 ≤ s.pen
        · have d1 : decide (0 ≤ s.pen) = true := decide_eq_true hp
          have HE : Hid (hld s 2 n ended = decide (s.pen < tp)) := by show (decide (0 ≤ s.pen) && decide (s.pen < s.top)) = _; rw [d1, HTP.out]; exact rfl
          clear hp
          go_wp2_with fail
          go_ret
          exact ⟨by rw [HE.out]; rfl, below_trans B1.out B2.out⟩
        · have d1 : decide (0 ≤ s.pen) = false := decide_eq_false hp
          have HE : Hid (hld s 2 n ended = false) := by show (decide (0 ≤ s.pen) && decide (s.pen < s.top)) = _; rw [d1]; exact rfl
          clear hp
          go_wp2_with fail
          go_ret
          exact ⟨by rw [HE.out]; rfl, below_trans B1.out B2.out⟩
      by_cases k3 : k = 3
      · subst k3
        by_cases hq : s.que.length = 0
        · have d1 : decide ((0 : Int) < (s.que.length : Int)) = false := decide_eq_false (by omega)
          have d2 : decide (0 < s.que.length) = false := decide_eq_false (by omega)
          have HE : Hid (hld s 3 n ended = false) := decide_eq_false (by omega)
          clear hq
          go_wp2_with fail
          go_ret
          exact ⟨by rw [HE.out]; rfl, below_trans B1.out B2.out⟩
        · have d1 : decide ((0 : Int) < (s.que.length : Int)) = true := decide_eq_true (by omega)
          have d2 : decide (0 < s.que.length) = true := decide_eq_true (by omega)
          have HE : Hid (hld s 3 n ended = true) := decide_eq_true (by omega)
          clear hq
          go_wp2_with fail
          go_ret
          exact ⟨by rw [HE.out]; rfl, below_trans B1.out B2.out⟩
      by_cases k4 : k = 4
      · subst k4
        by_cases hq : s.que.length = 0
        · have d1 : ((s.que.length : Int) == 0) = true := by rw [beq_iff_eq]; omega
          have d2 : (s.que.length == 0) = true := by rw [beq_iff_eq]; omega
          have HE : Hid (hld s 4 n ended = true) := decide_eq_true (by omega)
          clear hq
          go_wp2_with fail
          go_ret
          exact ⟨by rw [HE.out]; rfl, below_trans B1.out B2.out⟩
        · have d1 : ((s.que.length : Int) == 0) = false := by rw [beq_eq_false_iff_ne]; omega
          have d2 : (s.que.length == 0) = false := by rw [beq_eq_false_iff_ne]; omega
          have HE : Hid (hld s 4 n ended = false) := decide_eq_false (by omega)
          clear hq
          go_wp2_with fail
          go_ret
          exact ⟨by rw [HE.out]; rfl, below_trans B1.out B2.out⟩
      by_cases k5 : k = 5
      · subst k5
        have HE : Hid (hld s 5 n ended = false) := by show ((decide (0 ≤ n) && decide (n < 16)) && s.flg.testBit n.toNat) = _; rw [HIS.out]; exact rfl
        go_wp2_with fail
        go_ret
        exact ⟨by rw [HE.out]; rfl, below_trans B1.out B2.out⟩
      by_cases k6 : k = 6
      · subst k6
        have HE : Hid (hld s 6 n ended = false) := by show ((decide (0 ≤ n) && decide (n < 16)) && !s.flg.testBit n.toNat) = _; rw [HIS.out]; exact rfl
        go_wp2_with fail
        go_ret
        exact ⟨by rw [HE.out]; rfl, below_trans B1.out B2.out⟩
      by_cases k7 : k = 7
      · subst k7
        have HE : Hid (hld s 7 n ended = ended) := rfl
        go_wp2_with fail
        go_ret
        exact ⟨by rw [HE.out]; rfl, below_trans B1.out B2.out⟩
      by_cases k8 : k = 8
      · subst k8
        by_cases hq : s.ind.length = 0
        · have d1 : decide ((0 : Int) < (s.ind.length : Int)) = false := decide_eq_false (by omega)
          have d2 : decide (0 < s.ind.length) = false := decide_eq_false (by omega)
          have HE : Hid (hld s 8 n ended = false) := decide_eq_false (by omega)
          clear hq
          go_wp2_with fail
          go_ret
          exact ⟨by rw [HE.out]; rfl, below_trans B1.out B2.out⟩
        · have d1 : decide ((0 : Int) < (s.ind.length : Int)) = true := decide_eq_true (by omega)
          have d2 : decide (0 < s.ind.length) = true := decide_eq_true (by omega)
          have HE : Hid (hld s 8 n ended = true) := decide_eq_true (by omega)
          clear hq
          go_wp2_with fail
          go_ret
          exact ⟨by rw [HE.out]; rfl, below_trans B1.out B2.out⟩
      have z1 : (k == 1) = false := by rw [beq_eq_false_iff_ne]; exact k1
      have z2 : (k == 2) = false := by rw [beq_eq_false_iff_ne]; exact k2
      have z3 : (k == 3) = false := by rw [beq_eq_false_iff_ne]; exact k3
      have z4 : (k == 4) = false := by rw [beq_eq_false_iff_ne]; exact k4
      have z5 : (k == 5) = false := by rw [beq_eq_false_iff_ne]; exact k5
      have z6 : (k == 6) = false := by rw [beq_eq_false_iff_ne]; exact k6
      have z7 : (k == 7) = false := by rw [beq_eq_false_iff_ne]; exact k7
      have z8 : (k == 8) = false := by rw [beq_eq_false_iff_ne]; exact k8
      have HE : Hid (hld s k n ended = false) := by show _ = _; unfold hld; rw [if_neg k1, if_neg k2, if_neg k3, if_neg k4, if_neg k5, if_neg k6, if_neg k7, if_neg k8]
      clear k1 k2 k3 k4 k5 k6 k7 k8
      go_wp2_with fail
      go_ret
      exact ⟨by rw [HE.out]; rfl, below_trans B1.out B2.out⟩
  · have i1 : decide (0 ≤ n) = false := decide_eq_false hn0
    have HIS : Hid ((decide (0 ≤ n) && decide (n < 16)) = false) := by rw [i1]; exact rfl
    clear hn0
    by_cases k1 : k = 1
    · subst k1
      by_cases hp : 0 ≤ s.pen
      · have d1 : decide (0 ≤ s.pen) = true := decide_eq_true hp
        have HE : Hid (hld s 1 n ended = decide (tp < s.pen)) := by show (decide (0 ≤ s.pen) && decide (s.top < s.pen)) = _; rw [d1, HTP.out]; exact rfl
        clear hp
        go_wp2_with fail
        go_ret
        exact ⟨by rw [HE.out]; rfl, below_trans B1.out B2.out⟩
      · have d1 : decide (0 ≤ s.pen) = false := decide_eq_false hp
        have HE : Hid (hld s 1 n ended = false) := by show (decide (0 ≤ s.pen) && decide (s.top < s.pen)) = _; rw [d1]; exact rfl
        clear hp
        go_wp2_with fail
        go_ret
        exact ⟨by rw [HE.out]; rfl, below_trans B1.out B2.out⟩
    by_cases k2 : k = 2
    · subst k2
      by_cases hp : 0 ≤ s.pen
      · have d1 : decide (0 ≤ s.pen) = true := decide_eq_true hp
        have HE : Hid (hld s 2 n ended = decide (s.pen < tp)) := by show (decide (0 ≤ s.pen) && decide (s.pen < s.top)) = _; rw [d1, HTP.out]; exact rfl
        clear hp
        go_wp2_with fail
        go_ret
        exact ⟨by rw [HE.out]; rfl, below_trans B1.out B2.out⟩
      · have d1 : decide (0 ≤ s.pen) = false := decide_eq_false hp
        have HE : Hid (hld s 2 n ended = false) := by show (decide (0 ≤ s.pen) && decide (s.pen < s.top)) = _; rw [d1]; exact rfl
        clear hp
        go_wp2_with fail
        go_ret
        exact ⟨by rw [HE.out]; rfl, below_trans B1.out B2.out⟩
    by_cases k3 : k = 3
    · subst k3
      by_cases hq : s.que.length = 0
      · have d1 : decide ((0 : Int) < (s.que.length : Int)) = false := decide_eq_false (by omega)
        have d2 : decide (0 < s.que.length) = false := decide_eq_false (by omega)
        have HE : Hid (hld s 3 n ended = false) := decide_eq_false (by omega)
        clear hq
        go_wp2_with fail
        go_ret
        exact ⟨by rw [HE.out]; rfl, below_trans B1.out B2.out⟩
      · have d1 : decide ((0 : Int) < (s.que.length : Int)) = true := decide_eq_true (by omega)
        have d2 : decide (0 < s.que.length) = true := decide_eq_true (by omega)
        have HE : Hid (hld s 3 n ended = true) := decide_eq_true (by omega)
        clear hq
        go_wp2_with fail
        go_ret
        exact ⟨by rw [HE.out]; rfl, below_trans B1.out B2.out⟩
    by_cases k4 : k = 4
    · subst k4
      by_cases hq : s.que.length = 0
      · have d1 : ((s.que.length : Int) == 0) = true := by rw [beq_iff_eq]; omega
        have d2 : (s.que.length == 0) = true := by rw [beq_iff_eq]; omega
        have HE : Hid (hld s 4 n ended = true) := decide_eq_true (by omega)
        clear hq
        go_wp2_with fail
        go_ret
        exact ⟨by rw [HE.out]; rfl, below_trans B1.out B2.out⟩
      · have d1 : ((s.que.length : Int) == 0) = false := by rw [beq_eq_false_iff_ne]; omega
        have d2 : (s.que.length == 0) = false := by rw [beq_eq_false_iff_ne]; omega
        have HE : Hid (hld s 4 n ended = false) := decide_eq_false (by omega)
        clear hq
        go_wp2_with fail
        go_ret
        exact ⟨by rw [HE.out]; rfl, below_trans B1.out B2.out⟩
    by_cases k5 : k = 5
    · subst k5
      have HE : Hid (hld s 5 n ended = false) := by show ((decide (0 ≤ n) && decide (n < 16)) && s.flg.testBit n.toNat) = _; rw [HIS.out]; exact rfl
      go_wp2_with fail
      go_ret
      exact ⟨by rw [HE.out]; rfl, below_trans B1.out B2.out⟩
    by_cases k6 : k = 6
    · subst k6
      have HE : Hid (hld s 6 n ended = false) := by show ((decide (0 ≤ n) && decide (n < 16)) && !s.flg.testBit n.toNat) = _; rw [HIS.out]; exact rfl
      go_wp2_with fail
      go_ret
      exact ⟨by rw [HE.out]; rfl, below_trans B1.out B2.out⟩
    by_cases k7 : k = 7
    · subst k7
      have HE : Hid (hld s 7 n ended = ended) := rfl
      go_wp2_with fail
      go_ret
      exact ⟨by rw [HE.out]; rfl, below_trans B1.out B2.out⟩
    by_cases k8 : k = 8
    · subst k8
      by_cases hq : s.ind.length = 0
      · have d1 : decide ((0 : Int) < (s.ind.length : Int)) = false := decide_eq_false (by omega)
        have d2 : decide (0 < s.ind.length) = false := decide_eq_false (by omega)
        have HE : Hid (hld s 8 n ended = false) := decide_eq_false (by omega)
        clear hq
        go_wp2_with fail
        go_ret
        exact ⟨by rw [HE.out]; rfl, below_trans B1.out B2.out⟩
      · have d1 : decide ((0 : Int) < (s.ind.length : Int)) = true := decide_eq_true (by omega)
        have d2 : decide (0 < s.ind.length) = true := decide_eq_true (by omega)
        have HE : Hid (hld s 8 n ended = true) := decide_eq_true (by omega)
        clear hq
        go_wp2_with fail
        go_ret
        exact ⟨by rw [HE.out]; rfl, below_trans B1.out B2.out⟩
    have z1 : (k == 1) = false := by rw [beq_eq_false_iff_ne]; exact k1
    have z2 : (k == 2) = false := by rw [beq_eq_false_iff_ne]; exact k2
    have z3 : (k == 3) = false := by rw [beq_eq_false_iff_ne]; exact k3
    have z4 : (k == 4) = false := by rw [beq_eq_false_iff_ne]; exact k4
    have z5 : (k == 5) = false := by rw [beq_eq_false_iff_ne]; exact k5
    have z6 : (k == 6) = false := by rw [beq_eq_false_iff_ne]; exact k6
    have z7 : (k == 7) = false := by rw [beq_eq_false_iff_ne]; exact k7
    have z8 : (k == 8) = false := by rw [beq_eq_false_iff_ne]; exact k8
    have HE : Hid (hld s k n ended = false) := by show _ = _; unfold hld; rw [if_neg k1, if_neg k2, if_neg k3, if_neg k4, if_neg k5, if_neg k6, if_neg k7, if_neg k8]
    clear k1 k2 k3 k4 k5 k6 k7 k8
    go_wp2_with fail
    go_ret
    exact ⟨by rw [HE.out]; rfl, below_trans B1.out B2.out⟩
end Go.Proofs.Ytdchopljojlcpaa
