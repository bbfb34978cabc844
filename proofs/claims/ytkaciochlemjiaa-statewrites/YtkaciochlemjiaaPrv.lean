import Derived.Test.YtkaciochlemjiaaPrt
namespace Go.Proofs.Ytkaciochlemjiaa
open Go.RowKit Go.Maps

set_option maxRecDepth 100000 in
set_option maxHeartbeats 4000000 in
theorem part1_any {B : Nat} {w0 w : World} {vi vq vf v : Value} {s : Stt} {l : List UInt8} (h : Stm w0 vi vq vf s) (hbel : Below w0.heap.size w0 w) (hw0 : w0.heap.size ≤ B) (hs : Lim s) (hv : Byt B w v l) (hB : B ≤ w.heap.size) (hl : l.length ≤ 1000000) :
    Calls Try.prog 30 #[v, sv vi vq vf s, .int .i64 1] w fun e w' => ∃ v', e = .returned v' ∧ Byt B w' v' (l ++ prt s 1) ∧ Below B w w' := by
  obtain ⟨a1, c1, a2, c2, a3, c3, rfl, rfl, rfl⟩ := h.form
  obtain ⟨W1, hW1⟩ : ∃ W1, W1 = w.alloc (.cells #[.slice a1 s.ind.length c1, .int .i64 s.pen, .slice a2 s.que.length c2, .slice a3 s.frm.length c3, .int .u16 (s.flg : Int)] 27) := ⟨_, rfl⟩
  have hhp : W1.heap[w.heap.size]? = some (.cells #[.slice a1 s.ind.length c1, .int .i64 s.pen, .slice a2 s.que.length c2, .slice a3 s.frm.length c3, .int .u16 (s.flg : Int)] 27 (0, 0)) := by rw [hW1]; exact heap_new w _
  have HB1 : Hid (Below B w W1) := by rw [hW1]; exact (Below.refl B w).alloc hB _
  have HS1 : Hid (B ≤ W1.heap.size) := Nat.le_trans hB HB1.out.size
  have HV1 : Hid (Byt B W1 v l) := by rw [hW1]; exact hv.alloc _
  have HLT : Hid (v.ownBlock ≠ some w.heap.size) := fun e => by have := (hv.lt _ e).2; omega
  have p0 : W1.cell? ⟨w.heap.size, 0, none⟩ = some (.slice a1 s.ind.length c1) := by rw [Lib.cell_of_heap hhp]; rfl
  have p1 : W1.cell? ⟨w.heap.size, 1, none⟩ = some (.int .i64 s.pen) := by rw [Lib.cell_of_heap hhp]; rfl
  have p2 : W1.cell? ⟨w.heap.size, 2, none⟩ = some (.slice a2 s.que.length c2) := by rw [Lib.cell_of_heap hhp]; rfl
  have p3 : W1.cell? ⟨w.heap.size, 3, none⟩ = some (.slice a3 s.frm.length c3) := by rw [Lib.cell_of_heap hhp]; rfl
  have p4 : W1.cell? ⟨w.heap.size, 4, none⟩ = some (.int .u16 (s.flg : Int)) := by rw [Lib.cell_of_heap hhp]; rfl
  have HW : Hid (W1 = w.alloc (.cells #[.slice a1 s.ind.length c1, .int .i64 s.pen, .slice a2 s.que.length c2, .slice a3 s.frm.length c3, .int .u16 (s.flg : Int)] 27)) := hW1
  have HS : Hid (Stm w0 (.slice a1 s.ind.length c1) (.slice a2 s.que.length c2) (.slice a3 s.frm.length c3) s) := h
  have H0 : Hid (Below w0.heap.size w0 w ∧ w0.heap.size ≤ B) := ⟨hbel, hw0⟩
  have HL : Hid (l.length ≤ 1000000) := hl
  have HM : Hid (Lim s) := hs
  obtain ⟨va, vc, hvs⟩ := row_shape hv
  subst hvs
  clear h hbel hw0 hl hs hv hB hW1 hhp
  obtain ⟨pn, hpn⟩ : ∃ pn : Nat, (s.pen + 1).toNat = pn := ⟨_, rfl⟩
  have hwp : IntKind.i64.wrap (s.pen + 1) = (pn : Int) := by rw [IntKind.wrap_i64]; have := HM.out.p0; have := HM.out.p1; omega
  have HPR : Hid (prt s 1 = nm pn) := by rw [← hpn]; exact rfl
  have HNB : Hid (pn < 128 ^ 9) := n9 _ (by have := HM.out.p0; have := HM.out.p1; omega)
  clear hpn
  go_enter Try.func30, Try.ntmps30
  go_upto_region 1 with fail
  rw [← HW.out]
  go_wp2_with fail
  refine (number_any pn HNB.out W1 HV1.out (by have := HL.out; omega) HS1.out).mono ?_
  rintro e w2 ⟨v2, rfl, h2, g2⟩
  have HR : Hid (Byt B w2 v2 (l ++ prt s 1)) := by rw [HPR.out]; exact h2
  have HG : Hid (Below B w w2) := HB1.out.trans (g2.below HS1.out (fun r e => (HV1.out.lt r e).1))
  clear h2 g2 p0 p1 p2 p3 p4 hwp HPR
  obtain ⟨q, hq⟩ : ∃ q, l ++ prt s 1 = q := ⟨_, rfl⟩
  rw [hq] at HR
  have HQ : Hid (l ++ prt s 1 = q) := hq
  clear hq
  obtain ⟨ra, rc, rfl⟩ := row_shape HR.out
  go_wp2_with fail
  go_ret
  exact ⟨_, rfl, by rw [HQ.out]; exact HR.out, HG.out⟩

set_option maxRecDepth 100000 in
set_option maxHeartbeats 4000000 in
theorem part4_any {B : Nat} {w0 w : World} {vi vq vf v : Value} {s : Stt} {l : List UInt8} (h : Stm w0 vi vq vf s) (hbel : Below w0.heap.size w0 w) (hw0 : w0.heap.size ≤ B) (hs : Lim s) (hv : Byt B w v l) (hB : B ≤ w.heap.size) (hl : l.length ≤ 1000000) :
    Calls Try.prog 30 #[v, sv vi vq vf s, .int .i64 4] w fun e w' => ∃ v', e = .returned v' ∧ Byt B w' v' (l ++ prt s 4) ∧ Below B w w' := by
  obtain ⟨a1, c1, a2, c2, a3, c3, rfl, rfl, rfl⟩ := h.form
  obtain ⟨W1, hW1⟩ : ∃ W1, W1 = w.alloc (.cells #[.slice a1 s.ind.length c1, .int .i64 s.pen, .slice a2 s.que.length c2, .slice a3 s.frm.length c3, .int .u16 (s.flg : Int)] 27) := ⟨_, rfl⟩
  have hhp : W1.heap[w.heap.size]? = some (.cells #[.slice a1 s.ind.length c1, .int .i64 s.pen, .slice a2 s.que.length c2, .slice a3 s.frm.length c3, .int .u16 (s.flg : Int)] 27 (0, 0)) := by rw [hW1]; exact heap_new w _
  have HB1 : Hid (Below B w W1) := by rw [hW1]; exact (Below.refl B w).alloc hB _
  have HS1 : Hid (B ≤ W1.heap.size) := Nat.le_trans hB HB1.out.size
  have HV1 : Hid (Byt B W1 v l) := by rw [hW1]; exact hv.alloc _
  have HLT : Hid (v.ownBlock ≠ some w.heap.size) := fun e => by have := (hv.lt _ e).2; omega
  have p0 : W1.cell? ⟨w.heap.size, 0, none⟩ = some (.slice a1 s.ind.length c1) := by rw [Lib.cell_of_heap hhp]; rfl
  have p1 : W1.cell? ⟨w.heap.size, 1, none⟩ = some (.int .i64 s.pen) := by rw [Lib.cell_of_heap hhp]; rfl
  have p2 : W1.cell? ⟨w.heap.size, 2, none⟩ = some (.slice a2 s.que.length c2) := by rw [Lib.cell_of_heap hhp]; rfl
  have p3 : W1.cell? ⟨w.heap.size, 3, none⟩ = some (.slice a3 s.frm.length c3) := by rw [Lib.cell_of_heap hhp]; rfl
  have p4 : W1.cell? ⟨w.heap.size, 4, none⟩ = some (.int .u16 (s.flg : Int)) := by rw [Lib.cell_of_heap hhp]; rfl
  have HW : Hid (W1 = w.alloc (.cells #[.slice a1 s.ind.length c1, .int .i64 s.pen, .slice a2 s.que.length c2, .slice a3 s.frm.length c3, .int .u16 (s.flg : Int)] 27)) := hW1
  have HS : Hid (Stm w0 (.slice a1 s.ind.length c1) (.slice a2 s.que.length c2) (.slice a3 s.frm.length c3) s) := h
  have H0 : Hid (Below w0.heap.size w0 w ∧ w0.heap.size ≤ B) := ⟨hbel, hw0⟩
  have HL : Hid (l.length ≤ 1000000) := hl
  have HM : Hid (Lim s) := hs
  obtain ⟨va, vc, hvs⟩ := row_shape hv
  subst hvs
  clear h hbel hw0 hl hs hv hB hW1 hhp
  have hwp : IntKind.i64.wrap (s.flg : Int) = (s.flg : Int) := by rw [IntKind.wrap_i64]; have := HM.out.g; omega
  have HPR : Hid (prt s 4 = nm s.flg) := rfl
  have HNB : Hid (s.flg < 128 ^ 9) := n9 _ (by have := HM.out.g; omega)
  go_enter Try.func30, Try.ntmps30
  go_upto_region 1 with fail
  rw [← HW.out]
  go_wp2_with fail
  refine (number_any s.flg HNB.out W1 HV1.out (by have := HL.out; omega) HS1.out).mono ?_
  rintro e w2 ⟨v2, rfl, h2, g2⟩
  have HR : Hid (Byt B w2 v2 (l ++ prt s 4)) := by rw [HPR.out]; exact h2
  have HG : Hid (Below B w w2) := HB1.out.trans (g2.below HS1.out (fun r e => (HV1.out.lt r e).1))
  clear h2 g2 p0 p1 p2 p3 p4 hwp HPR
  obtain ⟨q, hq⟩ : ∃ q, l ++ prt s 4 = q := ⟨_, rfl⟩
  rw [hq] at HR
  have HQ : Hid (l ++ prt s 4 = q) := hq
  clear hq
  obtain ⟨ra, rc, rfl⟩ := row_shape HR.out
  go_wp2_with fail
  go_ret
  exact ⟨_, rfl, by rw [HQ.out]; exact HR.out, HG.out⟩
end Go.Proofs.Ytkaciochlemjiaa
