import Derived.Test.YtkaciochlemjiaaPrt
namespace Go.Proofs.Ytkaciochlemjiaa
open Go.RowKit Go.Maps

set_option maxRecDepth 100000 in
set_option maxHeartbeats 4000000 in
theorem part2_any {B : Nat} {w0 w : World} {vi vq vf v : Value} {s : Stt} {l : List UInt8} (h : Stm w0 vi vq vf s) (hbel : Below w0.heap.size w0 w) (hw0 : w0.heap.size ≤ B) (hs : Lim s) (hv : Byt B w v l) (hB : B ≤ w.heap.size) (hl : l.length ≤ 1000000) :
    Calls Try.prog 30 #[v, sv vi vq vf s, .int .i64 2] w fun e w' => ∃ v', e = .returned v' ∧ Byt B w' v' (l ++ prt s 2) ∧ Below B w w' := by
  obtain ⟨a1, c1, a2, c2, a3, c3, rfl, rfl, rfl⟩ := h.form
  obtain ⟨W1, hW1⟩ : ∃ W1, W1 = w.alloc (.cells #[.slice a1 s.ind.length c1, .int .i64 s.pen, .slice a2 s.que.length c2, .slice a3 s.frm.length c3, .int .u16 (s.flg : Int)] 27) := ⟨_, rfl⟩
  have hhp : W1.heap[w.heap.size]? = some (.cells #[.slice a1 s.ind.length c1, .int .i64 s.pen, .slice a2 s.que.length c2, .slice a3 s.frm.length c3, .int .u16 (s.flg : Int)] 27 (0, 0)) := by rw [hW1]; exact heap_new w _
  have HB1 : Hid (Below B w W1) := by rw [hW1]; exact (Below.refl B w).alloc hB _
  have HS1 : Hid (B ≤ W1.heap.size) := Nat.le_trans hB HB1.out.size
  have HV1 : Hid (Byt B W1 v l) := by rw [hW1]; exact hv.alloc _
  have HLT : Hid (v.ownBlock ≠ some w.heap.size) := fun e => by have := (hv.lt _ e).2; omega
  have p0 : W1.cell? ⟨w.heap.size, 0, none⟩ = some (.slice a1 s.ind.length c1) := by rw [Lib.cell_of_heap hhp]; rfl
  have p1 : W1.cell? ⟨w.heap.size, 1, none⟩ = some (.int .i64 s.pen) := by rw [Lib.cell_of_heap hhp]; rfl
  have p2 : W1.cell? ⟨w.heap.size, 2, none⟩ = some (.slice a2 s.que.length c2) := by rw [Lib.cell_of_heap hhp]; rfl
  have p3 : W1.cell? ⟨w.heap.size, 3, none⟩ = some (.slice a3 s.frm.length c3) := by rw [Lib.cell_of_heap hhp]; rfl
  have p4 : W1.cell? ⟨w.heap.size, 4, none⟩ = some (.int .u16 (s.flg : Int)) := by rw [Lib.cell_of_heap hhp]; rfl
  have HW : Hid (W1 = w.alloc (.cells #[.slice a1 s.ind.length c1, .int .i64 s.pen, .slice a2 s.que.length c2, .slice a3 s.frm.length c3, .int .u16 (s.flg : Int)] 27)) := hW1
  have HS : Hid (Stm w0 (.slice a1 s.ind.length c1) (.slice a2 s.que.length c2) (.slice a3 s.frm.length c3) s) := h
  have H0 : Hid (Below w0.heap.size w0 w ∧ w0.heap.size ≤ B) := ⟨hbel, hw0⟩
  have HL : Hid (l.length ≤ 1000000) := hl
  have HM : Hid (Lim s) := hs
  obtain ⟨va, vc, hvs⟩ := row_shape hv
  subst hvs
  have HBX : Hid (B ≤ w.heap.size) := hB
  clear h hbel hw0 hl hs hv hB hW1 hhp
  have HPR : Hid (prt s 2 = nm s.que.length ++ s.que.flatMap tx) := rfl
  have HNB : Hid (s.que.length < 128 ^ 9) := n9 _ (by have := HM.out.q; omega)
  go_enter Try.func30, Try.ntmps30
  go_upto_region 1 with fail
  rw [← HW.out]
  go_wp2_with fail
  refine (number_any s.que.length HNB.out W1 HV1.out (by have := HL.out; omega) HS1.out).mono ?_
  rintro e w2 ⟨v2, rfl, h2, g2⟩
  have HR : Hid (Byt B w2 v2 (l ++ nm s.que.length)) := h2
  have HG : Hid (Below B w w2) := HB1.out.trans (g2.below HS1.out (fun r e => (HV1.out.lt r e).1))
  have pk := g2.cell p2 HLT.out
  have HQL : Hid ((l ++ nm s.que.length).length ≤ 1000003) := by
    have h3 := nm3 s.que.length (by have := HM.out.q; omega)
    have h4 := HL.out
    show (l ++ nm s.que.length).length ≤ 1000003
    rw [List.length_append]
    omega
  clear h2 g2 p0 p1 p2 p3 p4
  obtain ⟨q, hq⟩ : ∃ q, l ++ nm s.que.length = q := ⟨_, rfl⟩
  rw [hq] at HR HQL
  have HQ : Hid (l ++ nm s.que.length = q) := hq
  clear hq
  obtain ⟨ra, rc, rfl⟩ := row_shape HR.out
  go_upto_region 14 with fail
  clear pk
  go_loopg [0, 49] s.que.length (fun gm v0 vx wr => ∃ i : Nat, vx = .int .i64 (i : Int) ∧ Hid (i ≤ s.que.length ∧ gm = s.que.length - i) ∧ Hid (Byt B wr v0 (q ++ (s.que.take i).flatMap tx)) ∧ Hid (Below B w wr))
  case atStart => exact ⟨0, rfl, ⟨Nat.zero_le _, rfl⟩, by rw [List.take_zero, List.flatMap_nil, List.append_nil]; exact HR, HG⟩
  case round =>
    obtain ⟨i, rfl, HI, HRR, HBW⟩ := hrel
    clear HR HG
    have hBw : Below w0.heap.size w0 wr := H0.out.1.trans (HBW.out.mono H0.out.2)
    have HBB : Hid _ := hBw
    obtain ⟨t, ht⟩ : ∃ t, q ++ (s.que.take i).flatMap tx = t := ⟨_, rfl⟩
    rw [ht] at HRR
    obtain ⟨rb, rd, hrv⟩ := row_shape HRR.out
    subst hrv
    have HSB : Hid (B ≤ wr.heap.size) := by
      have := HS1.out
      have := HBW.out.size
      have h5 := H0.out
      show B ≤ wr.heap.size
      have h6 : B ≤ w.heap.size := HBX.out
      omega
    by_cases hi : i < s.que.length
    · have HTL : Hid (t.length ≤ 1010000) := by
        have h3 := fm_len tx 19 (s.que.take i) (mem_take _ _ _ (fun x hx => tx_len x (HM.out.qv x hx)))
        have h4 := HQL.out
        have h5 := HM.out.q
        rw [List.length_take] at h3
        show t.length ≤ 1010000
        rw [← ht, List.length_append]
        have h6 : min i s.que.length * 19 ≤ 32 * 19 := Nat.mul_le_mul_right _ (by omega)
        omega
      obtain ⟨x, hx⟩ : ∃ x, s.que.getD i ⟨#[]⟩ = x := ⟨_, rfl⟩
      obtain ⟨t5, ht5⟩ : ∃ t5, t ++ tx x = t5 := ⟨_, rfl⟩
      have HT5 : Hid (t ++ tx x = t5) := ht5
      have HFS : Hid (q ++ (s.que.take (i + 1)).flatMap tx = t5) := by rw [fm_snoc tx s.que ⟨#[]⟩ i hi, ← List.append_assoc, ht, hx]; exact ht5
      clear ht5
      have hmem : x ∈ s.que := by rw [← hx]; exact mem_getD s.que ⟨#[]⟩ i hi
      obtain ⟨ao, g, o, cp, f1, -, -, f2, f3⟩ := HS.out.q
      obtain ⟨rfl, -, rfl⟩ := Value.slice.inj f1
      obtain rfl := f2 (by omega)
      have e1 : decide ((i : Int) < (s.que.length : Int)) = true := by rw [decide_eq_true_eq]; omega
      have e2 : decide (i < s.que.length) = true := by rw [decide_eq_true_eq]; omega
      have e3 : (i : Int) < (s.que.length : Int) := by omega
      have HIL : Hid (i < s.que.length) := hi
      have hwr := w64n i (by have := HM.out.q; omega)
      have HXS : Hid (x.size ≤ 1000000) := by have := HM.out.qv x hmem; show x.size ≤ 1000000; omega
      have ci := below_cell hBw (f3 i _ (qC_get s.que i (by omega)))
      rw [hx] at ci
      clear hmem
      clear hi hx f1 f2 f3 ht hBw
      go_wp2_with fail
      refine (text_any x HXS.out wr HRR.out (by have := HTL.out; omega) HSB.out).mono ?_
      rintro e w5 ⟨v5, rfl, h5, g5⟩
      have HR5 : Hid (Byt B w5 v5 t5) := by rw [← HT5.out]; exact h5
      have HG5 : Hid (Below B w w5) := HBW.out.trans ((Below.refl B wr).grown g5 HSB.out (fun r e => (HRR.out.lt r e).1))
      clear h5 g5 ci
      obtain ⟨rx, ry, rfl⟩ := row_shape HR5.out
      go_wp2_with fail
      go_roundg (s.que.length - (i + 1))
      case measure => have := HI.out; have := HIL.out; omega
      case rel => exact ⟨i + 1, by first | rfl | (rw [show (i : Int) + 1 = ((i + 1 : Nat) : Int) by omega]), ⟨HIL.out, rfl⟩, by rw [HFS.out]; exact HR5, HG5⟩
    · have e1 : decide ((i : Int) < (s.que.length : Int)) = false := by rw [decide_eq_false_iff_not]; omega
      have e2 : decide (i < s.que.length) = false := by rw [decide_eq_false_iff_not]; omega
      have HFE : Hid (t = l ++ prt s 2) := by rw [← ht, List.take_of_length_le (by omega), ← HQ.out, List.append_assoc, HPR.out]; exact rfl
      clear hi ht hBw
      go_wp2_with fail
      go_ret
      exact ⟨_, rfl, by rw [← HFE.out]; exact HRR.out, HBW.out⟩
end Go.Proofs.Ytkaciochlemjiaa
