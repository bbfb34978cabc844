import Derived.Test.YtkaciochlemjiabNum
namespace Go.Proofs.Ytkaciochlemjiab
open Go.RowKit Go.Maps

def nmi (x : Int) : List UInt8 := nm x.toNat
/-- The five parts of a state's bytes. -/
def frb (f : Int × ByteArray) : List UInt8 := nm f.1.toNat ++ tx f.2
def prt (s : Stt) : Nat → List UInt8
  | 0 => nm s.ind.length ++ s.ind.flatMap nmi
  | 1 => nm (s.pen + 1).toNat
  | 2 => nm s.que.length ++ s.que.flatMap tx
  | 3 => nm s.frm.length ++ s.frm.flatMap frb
  | 4 => nm s.flg
  | _ => []
theorem fm_snoc {α : Type} (f : α → List UInt8) (l : List α) (d : α) (i : Nat) (h : i < l.length) : (l.take (i + 1)).flatMap f = (l.take i).flatMap f ++ f (l.getD i d) := by
  rw [take_snoc l d i h]; simp
theorem fm_len {α : Type} (f : α → List UInt8) (c : Nat) : ∀ l : List α, (∀ x ∈ l, (f x).length ≤ c) → (l.flatMap f).length ≤ l.length * c
  | [], _ => by simp
  | x :: l, h => by
    have h1 := h x (by simp)
    have h2 := fm_len f c l (fun y hy => h y (by simp [hy]))
    simp only [List.flatMap_cons, List.length_append, List.length_cons, Nat.add_mul, Nat.one_mul]
    omega
/-- What is within the limits, as numbers. -/
structure Lim (s : Stt) : Prop where
  i : s.ind.length ≤ 32
  iv : ∀ x ∈ s.ind, 0 ≤ x ∧ x ≤ 65536
  p0 : -1 ≤ s.pen
  p1 : s.pen ≤ 65536
  q : s.que.length ≤ 8
  qv : ∀ d ∈ s.que, d.size ≤ 16
  f : s.frm.length ≤ 16
  fv : ∀ f ∈ s.frm, 0 ≤ f.1 ∧ f.1 ≤ 15 ∧ f.2.size ≤ 16
  g : s.flg < 65536
theorem Lim.of {s : Stt} (h : s.shp = true) (hf : s.flg < 65536) : Lim s := by
  simp only [Stt.shp, Stt.oi, Stt.oq, Stt.of, Bool.and_eq_true, decide_eq_true_eq, List.all_eq_true, wai, okF1, isM] at h
  obtain ⟨⟨⟨⟨⟨h1, h1b⟩, h2⟩, h3⟩, h4, h4b⟩, h5, h5b⟩ := h
  exact ⟨h1, fun x hx => by have := ris_mem 0 _ h1b x hx; omega, h2, h3, h4, fun d hd => (h4b d hd).1.2, h5, fun f hf => by have := h5b f hf; omega, hf⟩
theorem nm3 (n : Nat) (h : n ≤ 70000) : (nm n).length ≤ 3 := nm_len n 3 (by omega) (by omega)
theorem n9 (n : Nat) (h : n ≤ 70000) : n < 128 ^ 9 := Nat.lt_of_le_of_lt h (by decide)
theorem tx_len (d : ByteArray) (h : d.size ≤ 16) : (tx d).length ≤ 19 := by
  have := nm3 d.size (by omega)
  have e : d.data.toList.length = d.size := Array.length_toList
  unfold tx
  rw [List.length_append]
  omega
theorem frb_len (f : Int × ByteArray) (h : 0 ≤ f.1 ∧ f.1 ≤ 15 ∧ f.2.size ≤ 16) : (frb f).length ≤ 22 := by
  have h1 := nm3 f.1.toNat (by omega)
  have h2 := tx_len f.2 h.2.2
  unfold frb
  rw [List.length_append]
  omega
theorem mem_getD {α : Type} (l : List α) (d : α) (i : Nat) (h : i < l.length) : l.getD i d ∈ l := by
  rw [List.getD_eq_getElem?_getD, List.getElem?_eq_getElem h]; exact List.getElem_mem h
theorem mem_take {α : Type} (P : α → Prop) (l : List α) (i : Nat) (h : ∀ x ∈ l, P x) : ∀ x ∈ l.take i, P x := fun x hx => h x (List.mem_of_mem_take hx)
end Go.Proofs.Ytkaciochlemjiab
namespace Go.Proofs.Ytkaciochlemjiab
open Go.RowKit Go.Maps

set_option maxRecDepth 100000 in
set_option maxHeartbeats 4000000 in
theorem part0_any {B : Nat} {w0 w : World} {vi vq vf v : Value} {s : Stt} {l : List UInt8} (h : Stm w0 vi vq vf s) (hbel : Below w0.heap.size w0 w) (hw0 : w0.heap.size ≤ B) (hs : Lim s) (hv : Byt B w v l) (hB : B ≤ w.heap.size) (hl : l.length ≤ 1000000) :
    Calls Try.prog 25 #[v, sv vi vq vf s, .int .i64 0] w fun e w' => ∃ v', e = .returned v' ∧ Byt B w' v' (l ++ prt s 0) ∧ Below B w w' := by
  obtain ⟨a1, c1, a2, c2, a3, c3, rfl, rfl, rfl⟩ := h.form
  obtain ⟨W1, hW1⟩ : ∃ W1, W1 = w.alloc (.cells #[.slice a1 s.ind.length c1, .int .i64 s.pen, .slice a2 s.que.length c2, .slice a3 s.frm.length c3, .int .u16 (s.flg : Int)] 27) := ⟨_, rfl⟩
  have hhp : W1.heap[w.heap.size]? = some (.cells #[.slice a1 s.ind.length c1, .int .i64 s.pen, .slice a2 s.que.length c2, .slice a3 s.frm.length c3, .int .u16 (s.flg : Int)] 27 (0, 0)) := by rw [hW1]; exact heap_new w _
  have HB1 : Hid (Below B w W1) := by rw [hW1]; exact (Below.refl B w).alloc hB _
  have HS1 : Hid (B ≤ W1.heap.size) := Nat.le_trans hB HB1.out.size
  have HV1 : Hid (Byt B W1 v l) := by rw [hW1]; exact hv.alloc _
  have HLT : Hid (v.ownBlock ≠ some w.heap.size) := fun e => by have := (hv.lt _ e).2; omega
  have p0 : W1.cell? ⟨w.heap.size, 0, none⟩ = some (.slice a1 s.ind.length c1) := by rw [Lib.cell_of_heap hhp]; rfl
  have p1 : W1.cell? ⟨w.heap.size, 1, none⟩ = some (.int .i64 s.pen) := by rw [Lib.cell_of_heap hhp]; rfl
  have p2 : W1.cell? ⟨w.heap.size, 2, none⟩ = some (.slice a2 s.que.length c2) := by rw [Lib.cell_of_heap hhp]; rfl
  have p3 : W1.cell? ⟨w.heap.size, 3, none⟩ = some (.slice a3 s.frm.length c3) := by rw [Lib.cell_of_heap hhp]; rfl
  have p4 : W1.cell? ⟨w.heap.size, 4, none⟩ = some (.int .u16 (s.flg : Int)) := by rw [Lib.cell_of_heap hhp]; rfl
  have HW : Hid (W1 = w.alloc (.cells #[.slice a1 s.ind.length c1, .int .i64 s.pen, .slice a2 s.que.length c2, .slice a3 s.frm.length c3, .int .u16 (s.flg : Int)] 27)) := hW1
  have HS : Hid (Stm w0 (.slice a1 s.ind.length c1) (.slice a2 s.que.length c2) (.slice a3 s.frm.length c3) s) := h
  have H0 : Hid (Below w0.heap.size w0 w ∧ w0.heap.size ≤ B) := ⟨hbel, hw0⟩
  have HL : Hid (l.length ≤ 1000000) := hl
  have HM : Hid (Lim s) := hs
  obtain ⟨va, vc, hvs⟩ := row_shape hv
  subst hvs
  have HBX : Hid (B ≤ w.heap.size) := hB
  clear h hbel hw0 hl hs hv hB hW1 hhp
  have HPR : Hid (prt s 0 = nm s.ind.length ++ s.ind.flatMap nmi) := rfl
  have HNB : Hid (s.ind.length < 128 ^ 9) := n9 _ (by have := HM.out.i; omega)
  go_enter Try.func25, Try.ntmps25
  go_upto_region 1 with fail
  rw [← HW.out]
  go_wp2_with fail
  refine (number_any s.ind.length HNB.out W1 HV1.out (by have := HL.out; omega) HS1.out).mono ?_
  rintro e w2 ⟨v2, rfl, h2, g2⟩
  have HR : Hid (Byt B w2 v2 (l ++ nm s.ind.length)) := h2
  have HG : Hid (Below B w w2) := HB1.out.trans (g2.below HS1.out (fun r e => (HV1.out.lt r e).1))
  have pk := g2.cell p0 HLT.out
  have HQL : Hid ((l ++ nm s.ind.length).length ≤ 1000003) := by
    have h3 := nm3 s.ind.length (by have := HM.out.i; omega)
    have h4 := HL.out
    show (l ++ nm s.ind.length).length ≤ 1000003
    rw [List.length_append]
    omega
  clear h2 g2 p0 p1 p2 p3 p4
  obtain ⟨q, hq⟩ : ∃ q, l ++ nm s.ind.length = q := ⟨_, rfl⟩
  rw [hq] at HR HQL
  have HQ : Hid (l ++ nm s.ind.length = q) := hq
  clear hq
  obtain ⟨ra, rc, rfl⟩ := row_shape HR.out
  go_upto_region 5 with fail
  clear pk
  go_loopg [0, 24] s.ind.length (fun gm v0 vx wr => ∃ i : Nat, vx = .int .i64 (i : Int) ∧ Hid (i ≤ s.ind.length ∧ gm = s.ind.length - i) ∧ Hid (Byt B wr v0 (q ++ (s.ind.take i).flatMap nmi)) ∧ Hid (Below B w wr))
  case atStart => exact ⟨0, rfl, ⟨Nat.zero_le _, rfl⟩, by rw [List.take_zero, List.flatMap_nil, List.append_nil]; exact HR, HG⟩
  case round =>
    obtain ⟨i, rfl, HI, HRR, HBW⟩ := hrel
    clear HR HG
    have hBw : Below w0.heap.size w0 wr := H0.out.1.trans (HBW.out.mono H0.out.2)
    have HBB : Hid _ := hBw
    obtain ⟨t, ht⟩ : ∃ t, q ++ (s.ind.take i).flatMap nmi = t := ⟨_, rfl⟩
    rw [ht] at HRR
    obtain ⟨rb, rd, hrv⟩ := row_shape HRR.out
    subst hrv
    have HSB : Hid (B ≤ wr.heap.size) := by
      have := HS1.out
      have := HBW.out.size
      have h5 := H0.out
      show B ≤ wr.heap.size
      have h6 : B ≤ w.heap.size := HBX.out
      omega
    by_cases hi : i < s.ind.length
    · have HTL : Hid (t.length ≤ 1010000) := by
        have h3 := fm_len nmi 3 (s.ind.take i) (mem_take _ _ _ (fun x hx => by have := HM.out.iv x hx; exact nm3 _ (by omega)))
        have h4 := HQL.out
        have h5 := HM.out.i
        rw [List.length_take] at h3
        show t.length ≤ 1010000
        rw [← ht, List.length_append]
        have h6 : min i s.ind.length * 3 ≤ 32 * 3 := Nat.mul_le_mul_right _ (by omega)
        omega
      obtain ⟨x, hx⟩ : ∃ x, s.ind.getD i 0 = x := ⟨_, rfl⟩
      obtain ⟨t5, ht5⟩ : ∃ t5, t ++ nmi x = t5 := ⟨_, rfl⟩
      have HT5 : Hid (t ++ nmi x = t5) := ht5
      have HFS : Hid (q ++ (s.ind.take (i + 1)).flatMap nmi = t5) := by rw [fm_snoc nmi s.ind 0 i hi, ← List.append_assoc, ht, hx]; exact ht5
      clear ht5
      have hmem : x ∈ s.ind := by rw [← hx]; exact mem_getD s.ind 0 i hi
      obtain ⟨ao, g, o, cp, f1, -, -, f2, f3⟩ := HS.out.i
      obtain ⟨rfl, -, rfl⟩ := Value.slice.inj f1
      obtain rfl := f2 (by omega)
      have e1 : decide ((i : Int) < (s.ind.length : Int)) = true := by rw [decide_eq_true_eq]; omega
      have e2 : decide (i < s.ind.length) = true := by rw [decide_eq_true_eq]; omega
      have e3 : (i : Int) < (s.ind.length : Int) := by omega
      have HIL : Hid (i < s.ind.length) := hi
      have hwr := w64n i (by have := HM.out.i; omega)
      have hxv := HM.out.iv x hmem
      have ci := below_cell hBw (f3 i _ (iC_get s.ind i (by omega)))
      obtain ⟨xn, rfl⟩ : ∃ xn : Nat, x = (xn : Int) := ⟨x.toNat, by omega⟩
      rw [hx] at ci
      have HNX : Hid (xn < 128 ^ 9) := n9 _ (by omega)
      clear hxv hmem
      clear hi hx f1 f2 f3 ht hBw
      go_wp2_with fail
      refine (number_any xn HNX.out wr HRR.out (by have := HTL.out; omega) HSB.out).mono ?_
      rintro e w5 ⟨v5, rfl, h5, g5⟩
      have HR5 : Hid (Byt B w5 v5 t5) := by rw [← HT5.out]; exact h5
      have HG5 : Hid (Below B w w5) := HBW.out.trans (g5.below HSB.out (fun r e => (HRR.out.lt r e).1))
      clear h5 g5 ci
      obtain ⟨rx, ry, rfl⟩ := row_shape HR5.out
      go_wp2_with fail
      go_roundg (s.ind.length - (i + 1))
      case measure => have := HI.out; have := HIL.out; omega
      case rel => exact ⟨i + 1, by first | rfl | (rw [show (i : Int) + 1 = ((i + 1 : Nat) : Int) by omega]), ⟨HIL.out, rfl⟩, by rw [HFS.out]; exact HR5, HG5⟩
    · have e1 : decide ((i : Int) < (s.ind.length : Int)) = false := by rw [decide_eq_false_iff_not]; omega
      have e2 : decide (i < s.ind.length) = false := by rw [decide_eq_false_iff_not]; omega
      have HFE : Hid (t = l ++ prt s 0) := by rw [← ht, List.take_of_length_le (by omega), ← HQ.out, List.append_assoc, HPR.out]; exact rfl
      clear hi ht hBw
      go_wp2_with fail
      go_ret
      exact ⟨_, rfl, by rw [← HFE.out]; exact HRR.out, HBW.out⟩
end Go.Proofs.Ytkaciochlemjiab
namespace Go.Proofs.Ytkaciochlemjiab
open Go.RowKit Go.Maps

set_option maxRecDepth 100000 in
set_option maxHeartbeats 4000000 in
theorem part1_any {B : Nat} {w0 w : World} {vi vq vf v : Value} {s : Stt} {l : List UInt8} (h : Stm w0 vi vq vf s) (hbel : Below w0.heap.size w0 w) (hw0 : w0.heap.size ≤ B) (hs : Lim s) (hv : Byt B w v l) (hB : B ≤ w.heap.size) (hl : l.length ≤ 1000000) :
    Calls Try.prog 25 #[v, sv vi vq vf s, .int .i64 1] w fun e w' => ∃ v', e = .returned v' ∧ Byt B w' v' (l ++ prt s 1) ∧ Below B w w' := by
  obtain ⟨a1, c1, a2, c2, a3, c3, rfl, rfl, rfl⟩ := h.form
  obtain ⟨W1, hW1⟩ : ∃ W1, W1 = w.alloc (.cells #[.slice a1 s.ind.length c1, .int .i64 s.pen, .slice a2 s.que.length c2, .slice a3 s.frm.length c3, .int .u16 (s.flg : Int)] 27) := ⟨_, rfl⟩
  have hhp : W1.heap[w.heap.size]? = some (.cells #[.slice a1 s.ind.length c1, .int .i64 s.pen, .slice a2 s.que.length c2, .slice a3 s.frm.length c3, .int .u16 (s.flg : Int)] 27 (0, 0)) := by rw [hW1]; exact heap_new w _
  have HB1 : Hid (Below B w W1) := by rw [hW1]; exact (Below.refl B w).alloc hB _
  have HS1 : Hid (B ≤ W1.heap.size) := Nat.le_trans hB HB1.out.size
  have HV1 : Hid (Byt B W1 v l) := by rw [hW1]; exact hv.alloc _
  have HLT : Hid (v.ownBlock ≠ some w.heap.size) := fun e => by have := (hv.lt _ e).2; omega
  have p0 : W1.cell? ⟨w.heap.size, 0, none⟩ = some (.slice a1 s.ind.length c1) := by rw [Lib.cell_of_heap hhp]; rfl
  have p1 : W1.cell? ⟨w.heap.size, 1, none⟩ = some (.int .i64 s.pen) := by rw [Lib.cell_of_heap hhp]; rfl
  have p2 : W1.cell? ⟨w.heap.size, 2, none⟩ = some (.slice a2 s.que.length c2) := by rw [Lib.cell_of_heap hhp]; rfl
  have p3 : W1.cell? ⟨w.heap.size, 3, none⟩ = some (.slice a3 s.frm.length c3) := by rw [Lib.cell_of_heap hhp]; rfl
  have p4 : W1.cell? ⟨w.heap.size, 4, none⟩ = some (.int .u16 (s.flg : Int)) := by rw [Lib.cell_of_heap hhp]; rfl
  have HW : Hid (W1 = w.alloc (.cells #[.slice a1 s.ind.length c1, .int .i64 s.pen, .slice a2 s.que.length c2, .slice a3 s.frm.length c3, .int .u16 (s.flg : Int)] 27)) := hW1
  have HS : Hid (Stm w0 (.slice a1 s.ind.length c1) (.slice a2 s.que.length c2) (.slice a3 s.frm.length c3) s) := h
  have H0 : Hid (Below w0.heap.size w0 w ∧ w0.heap.size ≤ B) := ⟨hbel, hw0⟩
  have HL : Hid (l.length ≤ 1000000) := hl
  have HM : Hid (Lim s) := hs
  obtain ⟨va, vc, hvs⟩ := row_shape hv
  subst hvs
  clear h hbel hw0 hl hs hv hB hW1 hhp
  obtain ⟨pn, hpn⟩ : ∃ pn : Nat, (s.pen + 1).toNat = pn := ⟨_, rfl⟩
  have hwp : IntKind.i64.wrap (s.pen + 1) = (pn : Int) := by rw [IntKind.wrap_i64]; have := HM.out.p0; have := HM.out.p1; omega
  have HPR : Hid (prt s 1 = nm pn) := by rw [← hpn]; exact rfl
  have HNB : Hid (pn < 128 ^ 9) := n9 _ (by have := HM.out.p0; have := HM.out.p1; omega)
  clear hpn
  go_enter Try.func25, Try.ntmps25
  go_upto_region 1 with fail
  rw [← HW.out]
  go_wp2_with fail
  refine (number_any pn HNB.out W1 HV1.out (by have := HL.out; omega) HS1.out).mono ?_
  rintro e w2 ⟨v2, rfl, h2, g2⟩
  have HR : Hid (Byt B w2 v2 (l ++ prt s 1)) := by rw [HPR.out]; exact h2
  have HG : Hid (Below B w w2) := HB1.out.trans (g2.below HS1.out (fun r e => (HV1.out.lt r e).1))
  clear h2 g2 p0 p1 p2 p3 p4 hwp HPR
  obtain ⟨q, hq⟩ : ∃ q, l ++ prt s 1 = q := ⟨_, rfl⟩
  rw [hq] at HR
  have HQ : Hid (l ++ prt s 1 = q) := hq
  clear hq
  obtain ⟨ra, rc, rfl⟩ := row_shape HR.out
  go_wp2_with fail
  go_ret
  exact ⟨_, rfl, by rw [HQ.out]; exact HR.out, HG.out⟩

set_option maxRecDepth 100000 in
set_option maxHeartbeats 4000000 in
theorem part4_any {B : Nat} {w0 w : World} {vi vq vf v : Value} {s : Stt} {l : List UInt8} (h : Stm w0 vi vq vf s) (hbel : Below w0.heap.size w0 w) (hw0 : w0.heap.size ≤ B) (hs : Lim s) (hv : Byt B w v l) (hB : B ≤ w.heap.size) (hl : l.length ≤ 1000000) :
    Calls Try.prog 25 #[v, sv vi vq vf s, .int .i64 4] w fun e w' => ∃ v', e = .returned v' ∧ Byt B w' v' (l ++ prt s 4) ∧ Below B w w' := by
  obtain ⟨a1, c1, a2, c2, a3, c3, rfl, rfl, rfl⟩ := h.form
  obtain ⟨W1, hW1⟩ : ∃ W1, W1 = w.alloc (.cells #[.slice a1 s.ind.length c1, .int .i64 s.pen, .slice a2 s.que.length c2, .slice a3 s.frm.length c3, .int .u16 (s.flg : Int)] 27) := ⟨_, rfl⟩
  have hhp : W1.heap[w.heap.size]? = some (.cells #[.slice a1 s.ind.length c1, .int .i64 s.pen, .slice a2 s.que.length c2, .slice a3 s.frm.length c3, .int .u16 (s.flg : Int)] 27 (0, 0)) := by rw [hW1]; exact heap_new w _
  have HB1 : Hid (Below B w W1) := by rw [hW1]; exact (Below.refl B w).alloc hB _
  have HS1 : Hid (B ≤ W1.heap.size) := Nat.le_trans hB HB1.out.size
  have HV1 : Hid (Byt B W1 v l) := by rw [hW1]; exact hv.alloc _
  have HLT : Hid (v.ownBlock ≠ some w.heap.size) := fun e => by have := (hv.lt _ e).2; omega
  have p0 : W1.cell? ⟨w.heap.size, 0, none⟩ = some (.slice a1 s.ind.length c1) := by rw [Lib.cell_of_heap hhp]; rfl
  have p1 : W1.cell? ⟨w.heap.size, 1, none⟩ = some (.int .i64 s.pen) := by rw [Lib.cell_of_heap hhp]; rfl
  have p2 : W1.cell? ⟨w.heap.size, 2, none⟩ = some (.slice a2 s.que.length c2) := by rw [Lib.cell_of_heap hhp]; rfl
  have p3 : W1.cell? ⟨w.heap.size, 3, none⟩ = some (.slice a3 s.frm.length c3) := by rw [Lib.cell_of_heap hhp]; rfl
  have p4 : W1.cell? ⟨w.heap.size, 4, none⟩ = some (.int .u16 (s.flg : Int)) := by rw [Lib.cell_of_heap hhp]; rfl
  have HW : Hid (W1 = w.alloc (.cells #[.slice a1 s.ind.length c1, .int .i64 s.pen, .slice a2 s.que.length c2, .slice a3 s.frm.length c3, .int .u16 (s.flg : Int)] 27)) := hW1
  have HS : Hid (Stm w0 (.slice a1 s.ind.length c1) (.slice a2 s.que.length c2) (.slice a3 s.frm.length c3) s) := h
  have H0 : Hid (Below w0.heap.size w0 w ∧ w0.heap.size ≤ B) := ⟨hbel, hw0⟩
  have HL : Hid (l.length ≤ 1000000) := hl
  have HM : Hid (Lim s) := hs
  obtain ⟨va, vc, hvs⟩ := row_shape hv
  subst hvs
  clear h hbel hw0 hl hs hv hB hW1 hhp
  have hwp : IntKind.i64.wrap (s.flg : Int) = (s.flg : Int) := by rw [IntKind.wrap_i64]; have := HM.out.g; omega
  have HPR : Hid (prt s 4 = nm s.flg) := rfl
  have HNB : Hid (s.flg < 128 ^ 9) := n9 _ (by have := HM.out.g; omega)
  go_enter Try.func25, Try.ntmps25
  go_upto_region 1 with fail
  rw [← HW.out]
  go_wp2_with fail
  refine (number_any s.flg HNB.out W1 HV1.out (by have := HL.out; omega) HS1.out).mono ?_
  rintro e w2 ⟨v2, rfl, h2, g2⟩
  have HR : Hid (Byt B w2 v2 (l ++ prt s 4)) := by rw [HPR.out]; exact h2
  have HG : Hid (Below B w w2) := HB1.out.trans (g2.below HS1.out (fun r e => (HV1.out.lt r e).1))
  clear h2 g2 p0 p1 p2 p3 p4 hwp HPR
  obtain ⟨q, hq⟩ : ∃ q, l ++ prt s 4 = q := ⟨_, rfl⟩
  rw [hq] at HR
  have HQ : Hid (l ++ prt s 4 = q) := hq
  clear hq
  obtain ⟨ra, rc, rfl⟩ := row_shape HR.out
  go_wp2_with fail
  go_ret
  exact ⟨_, rfl, by rw [HQ.out]; exact HR.out, HG.out⟩
end Go.Proofs.Ytkaciochlemjiab
namespace Go.Proofs.Ytkaciochlemjiab
open Go.RowKit Go.Maps

set_option maxRecDepth 100000 in
set_option maxHeartbeats 4000000 in
theorem part2_any {B : Nat} {w0 w : World} {vi vq vf v : Value} {s : Stt} {l : List UInt8} (h : Stm w0 vi vq vf s) (hbel : Below w0.heap.size w0 w) (hw0 : w0.heap.size ≤ B) (hs : Lim s) (hv : Byt B w v l) (hB : B ≤ w.heap.size) (hl : l.length ≤ 1000000) :
    Calls Try.prog 25 #[v, sv vi vq vf s, .int .i64 2] w fun e w' => ∃ v', e = .returned v' ∧ Byt B w' v' (l ++ prt s 2) ∧ Below B w w' := by
  obtain ⟨a1, c1, a2, c2, a3, c3, rfl, rfl, rfl⟩ := h.form
  obtain ⟨W1, hW1⟩ : ∃ W1, W1 = w.alloc (.cells #[.slice a1 s.ind.length c1, .int .i64 s.pen, .slice a2 s.que.length c2, .slice a3 s.frm.length c3, .int .u16 (s.flg : Int)] 27) := ⟨_, rfl⟩
  have hhp : W1.heap[w.heap.size]? = some (.cells #[.slice a1 s.ind.length c1, .int .i64 s.pen, .slice a2 s.que.length c2, .slice a3 s.frm.length c3, .int .u16 (s.flg : Int)] 27 (0, 0)) := by rw [hW1]; exact heap_new w _
  have HB1 : Hid (Below B w W1) := by rw [hW1]; exact (Below.refl B w).alloc hB _
  have HS1 : Hid (B ≤ W1.heap.size) := Nat.le_trans hB HB1.out.size
  have HV1 : Hid (Byt B W1 v l) := by rw [hW1]; exact hv.alloc _
  have HLT : Hid (v.ownBlock ≠ some w.heap.size) := fun e => by have := (hv.lt _ e).2; omega
  have p0 : W1.cell? ⟨w.heap.size, 0, none⟩ = some (.slice a1 s.ind.length c1) := by rw [Lib.cell_of_heap hhp]; rfl
  have p1 : W1.cell? ⟨w.heap.size, 1, none⟩ = some (.int .i64 s.pen) := by rw [Lib.cell_of_heap hhp]; rfl
  have p2 : W1.cell? ⟨w.heap.size, 2, none⟩ = some (.slice a2 s.que.length c2) := by rw [Lib.cell_of_heap hhp]; rfl
  have p3 : W1.cell? ⟨w.heap.size, 3, none⟩ = some (.slice a3 s.frm.length c3) := by rw [Lib.cell_of_heap hhp]; rfl
  have p4 : W1.cell? ⟨w.heap.size, 4, none⟩ = some (.int .u16 (s.flg : Int)) := by rw [Lib.cell_of_heap hhp]; rfl
  have HW : Hid (W1 = w.alloc (.cells #[.slice a1 s.ind.length c1, .int .i64 s.pen, .slice a2 s.que.length c2, .slice a3 s.frm.length c3, .int .u16 (s.flg : Int)] 27)) := hW1
  have HS : Hid (Stm w0 (.slice a1 s.ind.length c1) (.slice a2 s.que.length c2) (.slice a3 s.frm.length c3) s) := h
  have H0 : Hid (Below w0.heap.size w0 w ∧ w0.heap.size ≤ B) := ⟨hbel, hw0⟩
  have HL : Hid (l.length ≤ 1000000) := hl
  have HM : Hid (Lim s) := hs
  obtain ⟨va, vc, hvs⟩ := row_shape hv
  subst hvs
  have HBX : Hid (B ≤ w.heap.size) := hB
  clear h hbel hw0 hl hs hv hB hW1 hhp
  have HPR : Hid (prt s 2 = nm s.que.length ++ s.que.flatMap tx) := rfl
  have HNB : Hid (s.que.length < 128 ^ 9) := n9 _ (by have := HM.out.q; omega)
  go_enter Try.func25, Try.ntmps25
  go_upto_region 1 with fail
  rw [← HW.out]
  go_wp2_with fail
  refine (number_any s.que.length HNB.out W1 HV1.out (by have := HL.out; omega) HS1.out).mono ?_
  rintro e w2 ⟨v2, rfl, h2, g2⟩
  have HR : Hid (Byt B w2 v2 (l ++ nm s.que.length)) := h2
  have HG : Hid (Below B w w2) := HB1.out.trans (g2.below HS1.out (fun r e => (HV1.out.lt r e).1))
  have pk := g2.cell p2 HLT.out
  have HQL : Hid ((l ++ nm s.que.length).length ≤ 1000003) := by
    have h3 := nm3 s.que.length (by have := HM.out.q; omega)
    have h4 := HL.out
    show (l ++ nm s.que.length).length ≤ 1000003
    rw [List.length_append]
    omega
  clear h2 g2 p0 p1 p2 p3 p4
  obtain ⟨q, hq⟩ : ∃ q, l ++ nm s.que.length = q := ⟨_, rfl⟩
  rw [hq] at HR HQL
  have HQ : Hid (l ++ nm s.que.length = q) := hq
  clear hq
  obtain ⟨ra, rc, rfl⟩ := row_shape HR.out
  go_upto_region 14 with fail
  clear pk
  go_loopg [0, 49] s.que.length (fun gm v0 vx wr => ∃ i : Nat, vx = .int .i64 (i : Int) ∧ Hid (i ≤ s.que.length ∧ gm = s.que.length - i) ∧ Hid (Byt B wr v0 (q ++ (s.que.take i).flatMap tx)) ∧ Hid (Below B w wr))
  case atStart => exact ⟨0, rfl, ⟨Nat.zero_le _, rfl⟩, by rw [List.take_zero, List.flatMap_nil, List.append_nil]; exact HR, HG⟩
  case round =>
    obtain ⟨i, rfl, HI, HRR, HBW⟩ := hrel
    clear HR HG
    have hBw : Below w0.heap.size w0 wr := H0.out.1.trans (HBW.out.mono H0.out.2)
    have HBB : Hid _ := hBw
    obtain ⟨t, ht⟩ : ∃ t, q ++ (s.que.take i).flatMap tx = t := ⟨_, rfl⟩
    rw [ht] at HRR
    obtain ⟨rb, rd, hrv⟩ := row_shape HRR.out
    subst hrv
    have HSB : Hid (B ≤ wr.heap.size) := by
      have := HS1.out
      have := HBW.out.size
      have h5 := H0.out
      show B ≤ wr.heap.size
      have h6 : B ≤ w.heap.size := HBX.out
      omega
    by_cases hi : i < s.que.length
    · have HTL : Hid (t.length ≤ 1010000) := by
        have h3 := fm_len tx 19 (s.que.take i) (mem_take _ _ _ (fun x hx => tx_len x (HM.out.qv x hx)))
        have h4 := HQL.out
        have h5 := HM.out.q
        rw [List.length_take] at h3
        show t.length ≤ 1010000
        rw [← ht, List.length_append]
        have h6 : min i s.que.length * 19 ≤ 32 * 19 := Nat.mul_le_mul_right _ (by omega)
        omega
      obtain ⟨x, hx⟩ : ∃ x, s.que.getD i ⟨#[]⟩ = x := ⟨_, rfl⟩
      obtain ⟨t5, ht5⟩ : ∃ t5, t ++ tx x = t5 := ⟨_, rfl⟩
      have HT5 : Hid (t ++ tx x = t5) := ht5
      have HFS : Hid (q ++ (s.que.take (i + 1)).flatMap tx = t5) := by rw [fm_snoc tx s.que ⟨#[]⟩ i hi, ← List.append_assoc, ht, hx]; exact ht5
      clear ht5
      have hmem : x ∈ s.que := by rw [← hx]; exact mem_getD s.que ⟨#[]⟩ i hi
      obtain ⟨ao, g, o, cp, f1, -, -, f2, f3⟩ := HS.out.q
      obtain ⟨rfl, -, rfl⟩ := Value.slice.inj f1
      obtain rfl := f2 (by omega)
      have e1 : decide ((i : Int) < (s.que.length : Int)) = true := by rw [decide_eq_true_eq]; omega
      have e2 : decide (i < s.que.length) = true := by rw [decide_eq_true_eq]; omega
      have e3 : (i : Int) < (s.que.length : Int) := by omega
      have HIL : Hid (i < s.que.length) := hi
      have hwr := w64n i (by have := HM.out.q; omega)
      have HXS : Hid (x.size ≤ 1000000) := by have := HM.out.qv x hmem; show x.size ≤ 1000000; omega
      have ci := below_cell hBw (f3 i _ (qC_get s.que i (by omega)))
      rw [hx] at ci
      clear hmem
      clear hi hx f1 f2 f3 ht hBw
      go_wp2_with fail
      refine (text_any x HXS.out wr HRR.out (by have := HTL.out; omega) HSB.out).mono ?_
      rintro e w5 ⟨v5, rfl, h5, g5⟩
      have HR5 : Hid (Byt B w5 v5 t5) := by rw [← HT5.out]; exact h5
      have HG5 : Hid (Below B w w5) := HBW.out.trans ((Below.refl B wr).grown g5 HSB.out (fun r e => (HRR.out.lt r e).1))
      clear h5 g5 ci
      obtain ⟨rx, ry, rfl⟩ := row_shape HR5.out
      go_wp2_with fail
      go_roundg (s.que.length - (i + 1))
      case measure => have := HI.out; have := HIL.out; omega
      case rel => exact ⟨i + 1, by first | rfl | (rw [show (i : Int) + 1 = ((i + 1 : Nat) : Int) by omega]), ⟨HIL.out, rfl⟩, by rw [HFS.out]; exact HR5, HG5⟩
    · have e1 : decide ((i : Int) < (s.que.length : Int)) = false := by rw [decide_eq_false_iff_not]; omega
      have e2 : decide (i < s.que.length) = false := by rw [decide_eq_false_iff_not]; omega
      have HFE : Hid (t = l ++ prt s 2) := by rw [← ht, List.take_of_length_le (by omega), ← HQ.out, List.append_assoc, HPR.out]; exact rfl
      clear hi ht hBw
      go_wp2_with fail
      go_ret
      exact ⟨_, rfl, by rw [← HFE.out]; exact HRR.out, HBW.out⟩
end Go.Proofs.Ytkaciochlemjiab
namespace Go.Proofs.Ytkaciochlemjiab
open Go.RowKit Go.Maps

set_option maxRecDepth 100000 in
set_option maxHeartbeats 4000000 in
theorem part3_any {B : Nat} {w0 w : World} {vi vq vf v : Value} {s : Stt} {l : List UInt8} (h : Stm w0 vi vq vf s) (hbel : Below w0.heap.size w0 w) (hw0 : w0.heap.size ≤ B) (hs : Lim s) (hv : Byt B w v l) (hB : B ≤ w.heap.size) (hl : l.length ≤ 1000000) :
    Calls Try.prog 25 #[v, sv vi vq vf s, .int .i64 3] w fun e w' => ∃ v', e = .returned v' ∧ Byt B w' v' (l ++ prt s 3) ∧ Below B w w' := by
  obtain ⟨a1, c1, a2, c2, a3, c3, rfl, rfl, rfl⟩ := h.form
  obtain ⟨W1, hW1⟩ : ∃ W1, W1 = w.alloc (.cells #[.slice a1 s.ind.length c1, .int .i64 s.pen, .slice a2 s.que.length c2, .slice a3 s.frm.length c3, .int .u16 (s.flg : Int)] 27) := ⟨_, rfl⟩
  have hhp : W1.heap[w.heap.size]? = some (.cells #[.slice a1 s.ind.length c1, .int .i64 s.pen, .slice a2 s.que.length c2, .slice a3 s.frm.length c3, .int .u16 (s.flg : Int)] 27 (0, 0)) := by rw [hW1]; exact heap_new w _
  have HB1 : Hid (Below B w W1) := by rw [hW1]; exact (Below.refl B w).alloc hB _
  have HS1 : Hid (B ≤ W1.heap.size) := Nat.le_trans hB HB1.out.size
  have HV1 : Hid (Byt B W1 v l) := by rw [hW1]; exact hv.alloc _
  have HLT : Hid (v.ownBlock ≠ some w.heap.size) := fun e => by have := (hv.lt _ e).2; omega
  have p0 : W1.cell? ⟨w.heap.size, 0, none⟩ = some (.slice a1 s.ind.length c1) := by rw [Lib.cell_of_heap hhp]; rfl
  have p1 : W1.cell? ⟨w.heap.size, 1, none⟩ = some (.int .i64 s.pen) := by rw [Lib.cell_of_heap hhp]; rfl
  have p2 : W1.cell? ⟨w.heap.size, 2, none⟩ = some (.slice a2 s.que.length c2) := by rw [Lib.cell_of_heap hhp]; rfl
  have p3 : W1.cell? ⟨w.heap.size, 3, none⟩ = some (.slice a3 s.frm.length c3) := by rw [Lib.cell_of_heap hhp]; rfl
  have p4 : W1.cell? ⟨w.heap.size, 4, none⟩ = some (.int .u16 (s.flg : Int)) := by rw [Lib.cell_of_heap hhp]; rfl
  have HW : Hid (W1 = w.alloc (.cells #[.slice a1 s.ind.length c1, .int .i64 s.pen, .slice a2 s.que.length c2, .slice a3 s.frm.length c3, .int .u16 (s.flg : Int)] 27)) := hW1
  have HS : Hid (Stm w0 (.slice a1 s.ind.length c1) (.slice a2 s.que.length c2) (.slice a3 s.frm.length c3) s) := h
  have H0 : Hid (Below w0.heap.size w0 w ∧ w0.heap.size ≤ B) := ⟨hbel, hw0⟩
  have HL : Hid (l.length ≤ 1000000) := hl
  have HM : Hid (Lim s) := hs
  obtain ⟨va, vc, hvs⟩ := row_shape hv
  subst hvs
  have HBX : Hid (B ≤ w.heap.size) := hB
  clear h hbel hw0 hl hs hv hB hW1 hhp
  have HPR : Hid (prt s 3 = nm s.frm.length ++ s.frm.flatMap frb) := rfl
  have HNB : Hid (s.frm.length < 128 ^ 9) := n9 _ (by have := HM.out.f; omega)
  go_enter Try.func25, Try.ntmps25
  go_upto_region 1 with fail
  rw [← HW.out]
  go_wp2_with fail
  refine (number_any s.frm.length HNB.out W1 HV1.out (by have := HL.out; omega) HS1.out).mono ?_
  rintro e w2 ⟨v2, rfl, h2, g2⟩
  have HR : Hid (Byt B w2 v2 (l ++ nm s.frm.length)) := h2
  have HG : Hid (Below B w w2) := HB1.out.trans (g2.below HS1.out (fun r e => (HV1.out.lt r e).1))
  have pk := g2.cell p3 HLT.out
  have HQL : Hid ((l ++ nm s.frm.length).length ≤ 1000003) := by
    have h3 := nm3 s.frm.length (by have := HM.out.f; omega)
    have h4 := HL.out
    show (l ++ nm s.frm.length).length ≤ 1000003
    rw [List.length_append]
    omega
  clear h2 g2 p0 p1 p2 p3 p4
  obtain ⟨q, hq⟩ : ∃ q, l ++ nm s.frm.length = q := ⟨_, rfl⟩
  rw [hq] at HR HQL
  have HQ : Hid (l ++ nm s.frm.length = q) := hq
  clear hq
  obtain ⟨ra, rc, rfl⟩ := row_shape HR.out
  go_upto_region 21 with fail
  clear pk
  go_loopg [0, 67] s.frm.length (fun gm v0 vx wr => ∃ i : Nat, vx = .int .i64 (i : Int) ∧ Hid (i ≤ s.frm.length ∧ gm = s.frm.length - i) ∧ Hid (Byt B wr v0 (q ++ (s.frm.take i).flatMap frb)) ∧ Hid (Below B w wr))
  case atStart => exact ⟨0, rfl, ⟨Nat.zero_le _, rfl⟩, by rw [List.take_zero, List.flatMap_nil, List.append_nil]; exact HR, HG⟩
  case round =>
    obtain ⟨i, rfl, HI, HRR, HBW⟩ := hrel
    clear HR HG
    have hBw : Below w0.heap.size w0 wr := H0.out.1.trans (HBW.out.mono H0.out.2)
    have HBB : Hid _ := hBw
    obtain ⟨t, ht⟩ : ∃ t, q ++ (s.frm.take i).flatMap frb = t := ⟨_, rfl⟩
    rw [ht] at HRR
    obtain ⟨rb, rd, hrv⟩ := row_shape HRR.out
    subst hrv
    have HSB : Hid (B ≤ wr.heap.size) := by
      have := HS1.out
      have := HBW.out.size
      have h5 := H0.out
      show B ≤ wr.heap.size
      have h6 : B ≤ w.heap.size := HBX.out
      omega
    by_cases hi : i < s.frm.length
    · have HTL : Hid (t.length ≤ 1010000) := by
        have h3 := fm_len frb 22 (s.frm.take i) (mem_take _ _ _ (fun x hx => frb_len x (HM.out.fv x hx)))
        have h4 := HQL.out
        have h5 := HM.out.f
        rw [List.length_take] at h3
        show t.length ≤ 1010000
        rw [← ht, List.length_append]
        have h6 : min i s.frm.length * 22 ≤ 32 * 22 := Nat.mul_le_mul_right _ (by omega)
        omega
      obtain ⟨x, hx⟩ : ∃ x, s.frm.getD i (0, ⟨#[]⟩) = x := ⟨_, rfl⟩
      obtain ⟨t5, ht5⟩ : ∃ t5, t ++ frb x = t5 := ⟨_, rfl⟩
      have HT5 : Hid (t ++ frb x = t5) := ht5
      have HFS : Hid (q ++ (s.frm.take (i + 1)).flatMap frb = t5) := by rw [fm_snoc frb s.frm (0, ⟨#[]⟩) i hi, ← List.append_assoc, ht, hx]; exact ht5
      clear ht5
      have hmem : x ∈ s.frm := by rw [← hx]; exact mem_getD s.frm (0, ⟨#[]⟩) i hi
      obtain ⟨ao, g, o, cp, f1, -, -, f2, f3⟩ := HS.out.f
      obtain ⟨rfl, -, rfl⟩ := Value.slice.inj f1
      obtain rfl := f2 (by omega)
      have e1 : decide ((i : Int) < (s.frm.length : Int)) = true := by rw [decide_eq_true_eq]; omega
      have e2 : decide (i < s.frm.length) = true := by rw [decide_eq_true_eq]; omega
      have e3 : (i : Int) < (s.frm.length : Int) := by omega
      have HIL : Hid (i < s.frm.length) := hi
      have hwr := w64n i (by have := HM.out.f; omega)
      obtain ⟨x0, x2⟩ := x
      have hxv := HM.out.fv _ hmem
      simp only at hxv
      obtain ⟨x1, rfl⟩ : ∃ x1 : Nat, x0 = (x1 : Int) := ⟨x0.toNat, by omega⟩
      have HXS : Hid (x2.size ≤ 1000000) := by show x2.size ≤ 1000000; omega
      have HX1 : Hid (x1 ≤ 70000) := by show x1 ≤ 70000; omega
      have HNX : Hid (x1 < 128 ^ 9) := n9 _ (by omega)
      have ci := below_cell hBw (f3 (i * 2) _ (fC_get s.frm i (by omega)).1)
      have cj := below_cell hBw (f3 (i * 2 + 1) _ (fC_get s.frm i (by omega)).2)
      rw [hx] at ci cj
      rw [← Nat.add_assoc] at cj
      clear hxv hmem
      clear hi hx f1 f2 f3 ht hBw
      go_upto_region 23 with fail
      obtain ⟨wq, hwq⟩ : ∃ wq, wq = wr.alloc (.cells #[.int .i64 ((x1 : Nat) : Int), .string x2] 42) := ⟨_, rfl⟩
      rw [← hwq]
      have hBq : Below wr.heap.size wr wq := by rw [hwq]; exact bel_up _ _
      have hh1 : wq.heap[wr.heap.size]? = some (.cells #[.int .i64 ((x1 : Nat) : Int), .string x2] 42 (0, 0)) := by rw [hwq]; exact heap_new wr _
      have HRQ : Hid (Byt B wq.drew (.slice rb t.length rd) t) := row_up HRR.out (Below.drew hBq)
      have HGQ : Hid (Below B w wq.drew) := HBW.out.trans ((Below.drew hBq).mono HSB.out)
      have HSQ : Hid (B ≤ wq.drew.heap.size) := Nat.le_trans HSB.out hBq.size
      have HNE : Hid (Value.ownBlock (.slice rb t.length rd) ≠ some wr.heap.size) := fun e => by have := (HRR.out.lt _ e).2; omega
      have HQZ : Hid (wr.heap.size < wq.drew.heap.size) := lt_of_heap hh1
      have kx : wq.drew.cell? ⟨wr.heap.size, 0, none⟩ = some (.int .i64 ((x1 : Nat) : Int)) ∧ wq.drew.cell? ⟨wr.heap.size, 1, none⟩ = some (.string x2) := by
        constructor
        · show wq.cell? _ = _
          rw [Lib.cell_of_heap hh1]; rfl
        · show wq.cell? _ = _
          rw [Lib.cell_of_heap hh1]; rfl
      have HKX : Hid _ := kx
      clear ci cj hwq hBq hh1
      refine wp_region_noPanic ?_
      refine wp_region_held_drew (S := fun W => W.cell? ⟨wr.heap.size, 0, none⟩ = some (.int .i64 ((x1 : Nat) : Int)) ∧ W.cell? ⟨wr.heap.size, 1, none⟩ = some (.string x2)) (by kernel_rfl) kx (fun hHeld => ?_)
      clear kx
      refine wpAnyH_take (i := 0) (oi := { dst := _, op := _, type := _, pos := _, after := _, guard := _ }) (v := ?_) rfl (by kernel_rfl) (by kernel_rfl) (by kernel_rfl) (fun _ _ _ h => h) (Or.inl ⟨by rfl, ?_⟩) (by assumption) ?_
      rotate_left
      · intro W hSw
        obtain ⟨h1, h2⟩ := hSw
        go_simp
        (try with_reducible rfl)
      try simp only [Act.put, List.setIfInBounds_toArray, List.set_cons_zero, List.set_cons_succ]
      refine wpAnyH_take (i := 1) (oi := { dst := _, op := _, type := _, pos := _, after := _, guard := _ }) (v := ?_) rfl (by kernel_rfl) (by kernel_rfl) (by kernel_rfl) (fun _ _ _ h => h) (Or.inl ⟨by rfl, ?_⟩) (by assumption) ?_
      rotate_left
      · intro W hSw
        obtain ⟨h1, h2⟩ := hSw
        go_simp
        (try with_reducible rfl)
      try simp only [Act.put, List.setIfInBounds_toArray, List.set_cons_zero, List.set_cons_succ]
      refine wpAnyH_take (i := 2) (oi := { dst := _, op := _, type := _, pos := _, after := _, guard := _ }) (v := ?_) rfl (by kernel_rfl) (by kernel_rfl) (by kernel_rfl) (fun _ _ _ h => h) (Or.inl ⟨by rfl, ?_⟩) (by assumption) ?_
      rotate_left
      · intro W hSw
        obtain ⟨h1, h2⟩ := hSw
        go_simp
        (try with_reducible rfl)
      try simp only [Act.put, List.setIfInBounds_toArray, List.set_cons_zero, List.set_cons_succ]
      refine wpAnyH_take (i := 4) (oi := { dst := _, op := _, type := _, pos := _, after := _, guard := _ }) (v := ?_) rfl (by kernel_rfl) (by kernel_rfl) (by kernel_rfl) (fun _ _ _ h => h) (Or.inl ⟨by rfl, ?_⟩) (by assumption) ?_
      rotate_left
      · intro W hSw
        obtain ⟨h1, h2⟩ := hSw
        go_simp
        (try with_reducible rfl)
      try simp only [Act.put, List.setIfInBounds_toArray, List.set_cons_zero, List.set_cons_succ]
      refine wpAnyH_take (i := 5) (oi := { dst := _, op := _, type := _, pos := _, after := _, guard := _ }) (v := ?_) rfl (by kernel_rfl) (by kernel_rfl) (by kernel_rfl) (fun _ _ _ h => h) (Or.inl ⟨by rfl, ?_⟩) (by assumption) ?_
      rotate_left
      · intro W hSw
        obtain ⟨h1, h2⟩ := hSw
        go_simp
        (try with_reducible rfl)
      try simp only [Act.put, List.setIfInBounds_toArray, List.set_cons_zero, List.set_cons_succ]
      refine wpAnyH_ready (rs := [3]) (by kernel_rfl) (by simp) ?_
      refine AllReadyH.cons (o := { dst := _, op := _, type := _, pos := _, after := _, guard := _ }) rfl (fun K hK => ?_) AllReadyH.nil
      go_simp
      refine (number_any x1 HNX.out _ HRQ.out (by have := HTL.out; omega) HSQ.out).mono ?_
      rintro e w6 ⟨v6, rfl, h6, g6⟩
      have HR6 : Hid (Byt B w6 v6 (t ++ nm x1)) := h6
      have HG6 : Hid (Below B w w6) := HGQ.out.trans (g6.below HSQ.out (fun r e => (HRQ.out.lt r e).1))
      have HK6 : Hid (w6.cell? ⟨wr.heap.size, 0, none⟩ = some (.int .i64 ((x1 : Nat) : Int)) ∧ w6.cell? ⟨wr.heap.size, 1, none⟩ = some (.string x2)) := ⟨g6.cell HKX.out.1 HNE.out, g6.cell HKX.out.2 HNE.out⟩
      have HS6 : Hid (B ≤ w6.heap.size) := Nat.le_trans HSQ.out g6.1.size
      have HN6 : Hid (v6.ownBlock ≠ some wr.heap.size) := fun e => (g6.2 _ e).elim (fun h => by have := HQZ.out; omega) HNE.out
      have HT6 : Hid ((t ++ nm x1).length ≤ 1010003) := by have h1 := nm3 x1 HX1.out; have h2 := HTL.out; show (t ++ nm x1).length ≤ 1010003; rw [List.length_append]; omega
      clear h6 g6
      obtain ⟨t6, ht6⟩ : ∃ t6, t ++ nm x1 = t6 := ⟨_, rfl⟩
      rw [ht6] at HR6 HT6
      have HE6 : Hid (t ++ nm x1 = t6) := ht6
      clear ht6
      obtain ⟨rx, ry, hry⟩ := row_shape HR6.out
      subst hry
      go_wp2_with fail
      refine hK.out _ _ ?_ (fun hHeld => ?_)
      · (try dsimp only)
        exact HK6.out
      clear hK K
      try simp only [Act.put, List.setIfInBounds_toArray, List.set_cons_zero, List.set_cons_succ]
      refine wpAnyH_ready (rs := [6]) (by kernel_rfl) (by simp) ?_
      refine AllReadyH.cons (o := { dst := _, op := _, type := _, pos := _, after := _, guard := _ }) rfl (fun K hK => ?_) AllReadyH.nil
      go_simp
      refine (text_any x2 HXS.out _ HR6.out (by have := HT6.out; omega) HS6.out).mono ?_
      rintro e w5 ⟨v5, rfl, h5, g5⟩
      have HR5 : Hid (Byt B w5 v5 t5) := by rw [← HT5.out, show t ++ frb ((x1 : Int), x2) = t6 ++ tx x2 by rw [← HE6.out, List.append_assoc]; rfl]; exact h5
      have HG5 : Hid (Below B w w5) := HG6.out.trans ((Below.refl B w6).grown g5 HS6.out (fun r e => (HR6.out.lt r e).1))
      have HK5 : Hid (w5.cell? ⟨wr.heap.size, 0, none⟩ = some (.int .i64 ((x1 : Nat) : Int)) ∧ w5.cell? ⟨wr.heap.size, 1, none⟩ = some (.string x2)) := ⟨g5.cell HK6.out.1 (fun e => HN6.out e.symm), g5.cell HK6.out.2 (fun e => HN6.out e.symm)⟩
      clear h5 g5
      obtain ⟨rz, rw_, hrz⟩ := row_shape HR5.out
      subst hrz
      go_wp2_with fail
      refine hK.out _ _ ?_ (fun hHeld => ?_)
      · (try dsimp only)
        exact HK5.out
      clear hK K
      try simp only [Act.put, List.setIfInBounds_toArray, List.set_cons_zero, List.set_cons_succ]
      refine wpAnyH_take (i := 7) (oi := { dst := _, op := _, type := _, pos := _, after := _, guard := _ }) (v := ?_) rfl (by kernel_rfl) (by kernel_rfl) (by kernel_rfl) (fun _ _ _ h => h) (Or.inl ⟨by rfl, ?_⟩) (by assumption) ?_
      rotate_left
      · intro W hSw
        obtain ⟨h1, h2⟩ := hSw
        go_simp
        (try with_reducible rfl)
      try simp only [Act.put, List.setIfInBounds_toArray, List.set_cons_zero]
      refine wpAnyH_done (by kernel_rfl) ?_ _
      refine NoPanic.normal ?_
      clear hHeld
      go_wp2_with fail
      go_roundg (s.frm.length - (i + 1))
      case measure => have := HI.out; have := HIL.out; omega
      case rel => exact ⟨i + 1, by first | rfl | (rw [show (i : Int) + 1 = ((i + 1 : Nat) : Int) by omega]), ⟨HIL.out, rfl⟩, by rw [HFS.out]; exact HR5, HG5⟩
    · have e1 : decide ((i : Int) < (s.frm.length : Int)) = false := by rw [decide_eq_false_iff_not]; omega
      have e2 : decide (i < s.frm.length) = false := by rw [decide_eq_false_iff_not]; omega
      have HFE : Hid (t = l ++ prt s 3) := by rw [← ht, List.take_of_length_le (by omega), ← HQ.out, List.append_assoc, HPR.out]; exact rfl
      clear hi ht hBw
      go_wp2_with fail
      go_ret
      exact ⟨_, rfl, by rw [← HFE.out]; exact HRR.out, HBW.out⟩
end Go.Proofs.Ytkaciochlemjiab
namespace Go.Proofs.Ytkaciochlemjiab
open Go.RowKit Go.Maps

/-- A state's bytes. -/
def enc (s : Stt) : List UInt8 := 83 :: (prt s 0 ++ prt s 1 ++ prt s 2 ++ prt s 3 ++ prt s 4)
def pre (s : Stt) : Nat → List UInt8
  | 0 => [83]
  | n + 1 => pre s n ++ prt s n
theorem pre_five (s : Stt) : pre s 5 = enc s := by simp [pre, enc]
theorem part_any {B : Nat} {w0 w : World} {vi vq vf v : Value} {s : Stt} {l : List UInt8} (p : Nat) (hp : p < 5) (h : Stm w0 vi vq vf s) (hbel : Below w0.heap.size w0 w) (hw0 : w0.heap.size ≤ B) (hs : Lim s) (hv : Byt B w v l) (hB : B ≤ w.heap.size) (hl : l.length ≤ 1000000) :
    Calls Try.prog 25 #[v, sv vi vq vf s, .int .i64 (p : Int)] w fun e w' => ∃ v', e = .returned v' ∧ Byt B w' v' (l ++ prt s p) ∧ Below B w w' := by
  match p, hp with
  | 0, _ => exact part0_any h hbel hw0 hs hv hB hl
  | 1, _ => exact part1_any h hbel hw0 hs hv hB hl
  | 2, _ => exact part2_any h hbel hw0 hs hv hB hl
  | 3, _ => exact part3_any h hbel hw0 hs hv hB hl
  | 4, _ => exact part4_any h hbel hw0 hs hv hB hl
theorem prt_len (s : Stt) (h : Lim s) (p : Nat) : (prt s p).length ≤ 1000 := by
  have hi := nm3 s.ind.length (by have := h.i; omega)
  have hq := nm3 s.que.length (by have := h.q; omega)
  have hf := nm3 s.frm.length (by have := h.f; omega)
  have h1 := fm_len nmi 3 s.ind (fun x hx => by have := h.iv x hx; exact nm3 _ (by omega))
  have h2 := fm_len tx 19 s.que (fun x hx => tx_len x (h.qv x hx))
  have h3 := fm_len frb 22 s.frm (fun x hx => frb_len x (h.fv x hx))
  have k1 := h.i
  have k2 := h.q
  have k3 := h.f
  match p with
  | 0 => simp only [prt, List.length_append]; omega
  | 1 => have := nm3 (s.pen + 1).toNat (by have := h.p0; have := h.p1; omega) ; simp only [prt]; omega
  | 2 => simp only [prt, List.length_append]; omega
  | 3 => simp only [prt, List.length_append]; omega
  | 4 => have := nm3 s.flg (by have := h.g; omega); simp only [prt]; omega
  | _ + 5 => simp [prt]
theorem pre_len (s : Stt) (h : Lim s) : ∀ p, (pre s p).length ≤ 1 + p * 1000
  | 0 => by simp [pre]
  | p + 1 => by
    have h1 := pre_len s h p
    have h2 := prt_len s h p
    simp only [pre, List.length_append]
    omega

set_option maxRecDepth 100000 in
set_option maxHeartbeats 4000000 in
theorem encode_any {vi vq vf : Value} {s : Stt} (w : World) (h : Stm w vi vq vf s) (hf : s.flg < 65536) :
    Calls Try.prog 12 #[sv vi vq vf s] w fun e w' => e = .returned (if s.shp then .tuple #[.string ⟨(enc s).toArray⟩, .int .i64 0] else .tuple #[.string ⟨#[]⟩, .int .i64 65]) ∧ Below w.heap.size w w' := by
  obtain ⟨a1, c1, a2, c2, a3, c3, rfl, rfl, rfl⟩ := h.form
  obtain ⟨W1, hW1⟩ : ∃ W1, W1 = w.alloc (.cells #[.slice a1 s.ind.length c1, .int .i64 s.pen, .slice a2 s.que.length c2, .slice a3 s.frm.length c3, .int .u16 (s.flg : Int)] 27) := ⟨_, rfl⟩
  have hhp : W1.heap[w.heap.size]? = some (.cells #[.slice a1 s.ind.length c1, .int .i64 s.pen, .slice a2 s.que.length c2, .slice a3 s.frm.length c3, .int .u16 (s.flg : Int)] 27 (0, 0)) := by rw [hW1]; exact heap_new w _
  have HB1 : Hid (Below w.heap.size w W1) := by rw [hW1]; exact bel_up _ _
  have HSZ : Hid (W1.heap.size = w.heap.size + 1) := by rw [hW1]; exact World.size_alloc _ _
  have p0 : W1.cell? ⟨w.heap.size, 0, none⟩ = some (.slice a1 s.ind.length c1) := by rw [Lib.cell_of_heap hhp]; rfl
  have p1 : W1.cell? ⟨w.heap.size, 1, none⟩ = some (.int .i64 s.pen) := by rw [Lib.cell_of_heap hhp]; rfl
  have p2 : W1.cell? ⟨w.heap.size, 2, none⟩ = some (.slice a2 s.que.length c2) := by rw [Lib.cell_of_heap hhp]; rfl
  have p3 : W1.cell? ⟨w.heap.size, 3, none⟩ = some (.slice a3 s.frm.length c3) := by rw [Lib.cell_of_heap hhp]; rfl
  have p4 : W1.cell? ⟨w.heap.size, 4, none⟩ = some (.int .u16 (s.flg : Int)) := by rw [Lib.cell_of_heap hhp]; rfl
  have HP : Hid (∀ W, Below W1.heap.size W1 W → W.cell? ⟨w.heap.size, 0, none⟩ = some (.slice a1 s.ind.length c1) ∧ W.cell? ⟨w.heap.size, 1, none⟩ = some (.int .i64 s.pen) ∧ W.cell? ⟨w.heap.size, 2, none⟩ = some (.slice a2 s.que.length c2) ∧ W.cell? ⟨w.heap.size, 3, none⟩ = some (.slice a3 s.frm.length c3) ∧ W.cell? ⟨w.heap.size, 4, none⟩ = some (.int .u16 (s.flg : Int))) := fun W hW => ⟨below_cell hW p0, below_cell hW p1, below_cell hW p2, below_cell hW p3, below_cell hW p4⟩
  have HW : Hid (W1 = w.alloc (.cells #[.slice a1 s.ind.length c1, .int .i64 s.pen, .slice a2 s.que.length c2, .slice a3 s.frm.length c3, .int .u16 (s.flg : Int)] 27)) := hW1
  have HS : Hid (Stm W1 (.slice a1 s.ind.length c1) (.slice a2 s.que.length c2) (.slice a3 s.frm.length c3) s) := h.up HB1.out
  have HF : Hid (s.flg < 65536) := hf
  obtain ⟨R, hR⟩ : ∃ R, (if s.shp then Value.tuple #[.string ⟨(enc s).toArray⟩, .int .i64 0] else .tuple #[.string ⟨#[]⟩, .int .i64 65]) = R := ⟨_, rfl⟩
  have HR : Hid ((if s.shp then Value.tuple #[.string ⟨(enc s).toArray⟩, .int .i64 0] else .tuple #[.string ⟨#[]⟩, .int .i64 65]) = R) := hR
  rw [hR]
  clear hR h hf hW1 hhp
  go_enter Try.func12, Try.ntmps12
  go_upto_region 1 with fail
  rw [← HW.out]
  go_wp2_with fail
  refine (shaped_any W1 HS.out).mono ?_
  rintro e w2 ⟨rfl, hb2⟩
  have HB2 : Hid (Below W1.heap.size W1 w2) := hb2
  clear hb2 p0 p1 p2 p3 p4
  cases hs : s.shp with
  | false =>
    have HSF : Hid (s.shp = false) := hs
    clear hs
    go_wp2_with fail
    go_ret2
    exact ⟨by rw [← HR.out, HSF.out]; rfl, below_trans HB1.out HB2.out⟩
  | true =>
    have HSH : Hid (s.shp = true) := hs
    have HM : Hid (Lim s) := Lim.of hs HF.out
    clear hs
    go_upto_region 5 with fail
    obtain ⟨W3, hW3⟩ : ∃ W3, W3 = w2.alloc (.cells #[.int .u8 83] 5) := ⟨_, rfl⟩
    rw [← hW3]
    have HB3 : Hid (Below W1.heap.size W1 W3) := by rw [hW3]; exact below_trans HB2.out (bel_up _ _)
    have HV3 : Hid (Byt W1.heap.size W3 (.slice (some ⟨w2.heap.size, 0, none⟩) 1 1) (pre s 0)) := by
      rw [hW3]
      exact ⟨rfl, .inr ⟨_, _, _, rfl, HB2.out.size, heap_new w2 _, Nat.le_refl 1, by unfold maxLen; decide, rfl, rfl⟩⟩
    clear hW3
    go_loopg [4, 10] 5 (fun gm v4 v10 wr => ∃ p : Nat, v10 = .int .i64 (p : Int) ∧ Hid (p ≤ 5 ∧ gm = 5 - p) ∧ Hid (Byt W1.heap.size wr v4 (pre s p)) ∧ Hid (Below W1.heap.size W1 wr))
    case atStart => exact ⟨0, rfl, ⟨by omega, rfl⟩, HV3, HB3⟩
    case round =>
      obtain ⟨p, rfl, HI, HV, HB⟩ := hrel
      clear HV3 HB3
      obtain ⟨t, ht⟩ : ∃ t, pre s p = t := ⟨_, rfl⟩
      rw [ht] at HV
      obtain ⟨rb, rd, hrv⟩ := row_shape HV.out
      subst hrv
      by_cases hp : p < 5
      · have e1 : decide ((p : Int) < 5) = true := by rw [decide_eq_true_eq]; omega
        have e2 : decide (p < 5) = true := by rw [decide_eq_true_eq]; omega
        have HPL : Hid (p < 5) := hp
        have hwr := w64n p (by omega)
        obtain ⟨k0, k1, k2, k3, k4⟩ := HP.out _ HB.out
        have HTL : Hid (t.length ≤ 1000000) := by
          have := pre_len s HM.out p
          rw [ht] at this
          show t.length ≤ 1000000
          omega
        have HNX : Hid (pre s (p + 1) = t ++ prt s p) := by rw [← ht]; exact rfl
        clear hp ht
        go_wp2_with fail
        refine (part_any p HPL.out HS.out HB.out (Nat.le_refl _) HM.out HV.out HB.out.size HTL.out).mono ?_
        rintro e w5 ⟨v5, rfl, h5, g5⟩
        have HR5 : Hid (Byt W1.heap.size w5 v5 (pre s (p + 1))) := by rw [HNX.out]; exact h5
        have HG5 : Hid (Below W1.heap.size W1 w5) := HB.out.trans g5
        clear h5 g5 k0 k1 k2 k3 k4
        obtain ⟨t5, ht5⟩ : ∃ t5, pre s (p + 1) = t5 := ⟨_, rfl⟩
        have HT5 : Hid (pre s (p + 1) = t5) := ht5
        rw [ht5] at HR5
        clear ht5
        obtain ⟨rx, ry, hrx⟩ := row_shape HR5.out
        subst hrx
        go_wp2_with fail
        go_roundg (5 - (p + 1))
        case measure => have := HI.out; have := HPL.out; omega
        case rel => exact ⟨p + 1, by first | rfl | (rw [show (p : Int) + 1 = ((p + 1 : Nat) : Int) by omega]), ⟨HPL.out, rfl⟩, by rw [HT5.out]; exact HR5, HG5⟩
      · have e1 : decide ((p : Int) < 5) = false := by rw [decide_eq_false_iff_not]; omega
        have e2 : decide (p < 5) = false := by rw [decide_eq_false_iff_not]; omega
        have hp5 : p = 5 := by have := HI.out; omega
        have HTE : Hid (t = enc s) := by rw [← ht, hp5, pre_five]; exact rfl
        have htp : 0 < t.length := by rw [HTE.out]; simp [enc]
        obtain ⟨g, cp, hgf, -, -, -⟩ := row_form HV.out htp
        obtain ⟨rfl, -, rfl⟩ := Value.slice.inj hgf
        have hcv : ∀ W : World, W = wr → (convert 52 9 (.slice (some ⟨g, 0, none⟩) t.length rd)).run Try.prog W = .ok (.string ⟨t.toArray⟩) W := fun W hW => by
          subst hW
          refine run_convert_bytes_back W 52 9 5 ⟨g, 0, none⟩ rd t Try.underlying52 Try.underlying5 Try.underlying9 (fun j hj => ?_)
          rw [addPl, Nat.zero_add, HV.out.cellAt j (by omega)]
          simp [Lib.byteCells, List.getElem?_eq_getElem hj]
        have hcw := hcv wr rfl
        clear hp ht hp5 htp hgf hcv
        go_wp2_with fail
        go_ret2
        exact ⟨by rw [← HR.out, HSH.out, if_pos rfl, HTE.out]; rfl, below_trans HB1.out HB.out⟩
end Go.Proofs.Ytkaciochlemjiab
