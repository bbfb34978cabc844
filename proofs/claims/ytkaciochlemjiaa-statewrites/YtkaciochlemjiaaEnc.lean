import Derived.Test.YtkaciochlemjiaaPru
import Derived.Test.YtkaciochlemjiaaPrv
import Derived.Test.YtkaciochlemjiaaPrw
import Derived.Test.YtkaciochlemjiaaPrx
namespace Go.Proofs.Ytkaciochlemjiaa
open Go.RowKit Go.Maps

/-- A state's bytes. -/
def enc (s : Stt) : List UInt8 := 83 :: (prt s 0 ++ prt s 1 ++ prt s 2 ++ prt s 3 ++ prt s 4)
def pre (s : Stt) : Nat → List UInt8
  | 0 => [83]
  | n + 1 => pre s n ++ prt s n
theorem pre_five (s : Stt) : pre s 5 = enc s := by simp [pre, enc]
theorem part_any {B : Nat} {w0 w : World} {vi vq vf v : Value} {s : Stt} {l : List UInt8} (p : Nat) (hp : p < 5) (h : Stm w0 vi vq vf s) (hbel : Below w0.heap.size w0 w) (hw0 : w0.heap.size ≤ B) (hs : Lim s) (hv : Byt B w v l) (hB : B ≤ w.heap.size) (hl : l.length ≤ 1000000) :
    Calls Try.prog 30 #[v, sv vi vq vf s, .int .i64 (p : Int)] w fun e w' => ∃ v', e = .returned v' ∧ Byt B w' v' (l ++ prt s p) ∧ Below B w w' := by
  match p, hp with
  | 0, _ => exact part0_any h hbel hw0 hs hv hB hl
  | 1, _ => exact part1_any h hbel hw0 hs hv hB hl
  | 2, _ => exact part2_any h hbel hw0 hs hv hB hl
  | 3, _ => exact part3_any h hbel hw0 hs hv hB hl
  | 4, _ => exact part4_any h hbel hw0 hs hv hB hl
theorem prt_len (s : Stt) (h : Lim s) (p : Nat) : (prt s p).length ≤ 1000 := by
  have hi := nm3 s.ind.length (by have := h.i; omega)
  have hq := nm3 s.que.length (by have := h.q; omega)
  have hf := nm3 s.frm.length (by have := h.f; omega)
  have h1 := fm_len nmi 3 s.ind (fun x hx => by have := h.iv x hx; exact nm3 _ (by omega))
  have h2 := fm_len tx 19 s.que (fun x hx => tx_len x (h.qv x hx))
  have h3 := fm_len frb 22 s.frm (fun x hx => frb_len x (h.fv x hx))
  have k1 := h.i
  have k2 := h.q
  have k3 := h.f
  match p with
  | 0 => simp only [prt, List.length_append]; omega
  | 1 => have := nm3 (s.pen + 1).toNat (by have := h.p0; have := h.p1; omega) ; simp only [prt]; omega
  | 2 => simp only [prt, List.length_append]; omega
  | 3 => simp only [prt, List.length_append]; omega
  | 4 => have := nm3 s.flg (by have := h.g; omega); simp only [prt]; omega
  | _ + 5 => simp [prt]
theorem pre_len (s : Stt) (h : Lim s) : ∀ p, (pre s p).length ≤ 1 + p * 1000
  | 0 => by simp [pre]
  | p + 1 => by
    have h1 := pre_len s h p
    have h2 := prt_len s h p
    simp only [pre, List.length_append]
    omega

set_option maxRecDepth 100000 in
set_option maxHeartbeats 4000000 in
theorem encode_any {vi vq vf : Value} {s : Stt} (w : World) (h : Stm w vi vq vf s) (hf : s.flg < 65536) :
    Calls Try.prog 10 #[sv vi vq vf s] w fun e w' => e = .returned (if s.shp then .tuple #[.string ⟨(enc s).toArray⟩, .int .i64 0] else .tuple #[.string ⟨#[]⟩, .int .i64 65]) ∧ Below w.heap.size w w' := by
  obtain ⟨a1, c1, a2, c2, a3, c3, rfl, rfl, rfl⟩ := h.form
  obtain ⟨W1, hW1⟩ : ∃ W1, W1 = w.alloc (.cells #[.slice a1 s.ind.length c1, .int .i64 s.pen, .slice a2 s.que.length c2, .slice a3 s.frm.length c3, .int .u16 (s.flg : Int)] 27) := ⟨_, rfl⟩
  have hhp : W1.heap[w.heap.size]? = some (.cells #[.slice a1 s.ind.length c1, .int .i64 s.pen, .slice a2 s.que.length c2, .slice a3 s.frm.length c3, .int .u16 (s.flg : Int)] 27 (0, 0)) := by rw [hW1]; exact heap_new w _
  have HB1 : Hid (Below w.heap.size w W1) := by rw [hW1]; exact bel_up _ _
  have HSZ : Hid (W1.heap.size = w.heap.size + 1) := by rw [hW1]; exact World.size_alloc _ _
  have p0 : W1.cell? ⟨w.heap.size, 0, none⟩ = some (.slice a1 s.ind.length c1) := by rw [Lib.cell_of_heap hhp]; rfl
  have p1 : W1.cell? ⟨w.heap.size, 1, none⟩ = some (.int .i64 s.pen) := by rw [Lib.cell_of_heap hhp]; rfl
  have p2 : W1.cell? ⟨w.heap.size, 2, none⟩ = some (.slice a2 s.que.length c2) := by rw [Lib.cell_of_heap hhp]; rfl
  have p3 : W1.cell? ⟨w.heap.size, 3, none⟩ = some (.slice a3 s.frm.length c3) := by rw [Lib.cell_of_heap hhp]; rfl
  have p4 : W1.cell? ⟨w.heap.size, 4, none⟩ = some (.int .u16 (s.flg : Int)) := by rw [Lib.cell_of_heap hhp]; rfl
  have HP : Hid (∀ W, Below W1.heap.size W1 W → W.cell? ⟨w.heap.size, 0, none⟩ = some (.slice a1 s.ind.length c1) ∧ W.cell? ⟨w.heap.size, 1, none⟩ = some (.int .i64 s.pen) ∧ W.cell? ⟨w.heap.size, 2, none⟩ = some (.slice a2 s.que.length c2) ∧ W.cell? ⟨w.heap.size, 3, none⟩ = some (.slice a3 s.frm.length c3) ∧ W.cell? ⟨w.heap.size, 4, none⟩ = some (.int .u16 (s.flg : Int))) := fun W hW => ⟨below_cell hW p0, below_cell hW p1, below_cell hW p2, below_cell hW p3, below_cell hW p4⟩
  have HW : Hid (W1 = w.alloc (.cells #[.slice a1 s.ind.length c1, .int .i64 s.pen, .slice a2 s.que.length c2, .slice a3 s.frm.length c3, .int .u16 (s.flg : Int)] 27)) := hW1
  have HS : Hid (Stm W1 (.slice a1 s.ind.length c1) (.slice a2 s.que.length c2) (.slice a3 s.frm.length c3) s) := h.up HB1.out
  have HF : Hid (s.flg < 65536) := hf
  obtain ⟨R, hR⟩ : ∃ R, (if s.shp then Value.tuple #[.string ⟨(enc s).toArray⟩, .int .i64 0] else .tuple #[.string ⟨#[]⟩, .int .i64 65]) = R := ⟨_, rfl⟩
  have HR : Hid ((if s.shp then Value.tuple #[.string ⟨(enc s).toArray⟩, .int .i64 0] else .tuple #[.string ⟨#[]⟩, .int .i64 65]) = R) := hR
  rw [hR]
  clear hR h hf hW1 hhp
  go_enter Try.func10, Try.ntmps10
  go_upto_region 1 with fail
  rw [← HW.out]
  go_wp2_with fail
  refine (shaped_any W1 HS.out).mono ?_
  rintro e w2 ⟨rfl, hb2⟩
  have HB2 : Hid (Below W1.heap.size W1 w2) := hb2
  clear hb2 p0 p1 p2 p3 p4
  cases hs : s.shp with
  | false =>
    have HSF : Hid (s.shp = false) := hs
    clear hs
    go_wp2_with fail
    go_ret2
    exact ⟨by rw [← HR.out, HSF.out]; rfl, below_trans HB1.out HB2.out⟩
  | true =>
    have HSH : Hid (s.shp = true) := hs
    have HM : Hid (Lim s) := Lim.of hs HF.out
    clear hs
    go_upto_region 5 with fail
    obtain ⟨W3, hW3⟩ : ∃ W3, W3 = w2.alloc (.cells #[.int .u8 83] 5) := ⟨_, rfl⟩
    rw [← hW3]
    have HB3 : Hid (Below W1.heap.size W1 W3) := by rw [hW3]; exact below_trans HB2.out (bel_up _ _)
    have HV3 : Hid (Byt W1.heap.size W3 (.slice (some ⟨w2.heap.size, 0, none⟩) 1 1) (pre s 0)) := by
      rw [hW3]
      exact ⟨rfl, .inr ⟨_, _, _, rfl, HB2.out.size, heap_new w2 _, Nat.le_refl 1, by unfold maxLen; decide, rfl, rfl⟩⟩
    clear hW3
    go_loopg [4, 10] 5 (fun gm v4 v10 wr => ∃ p : Nat, v10 = .int .i64 (p : Int) ∧ Hid (p ≤ 5 ∧ gm = 5 - p) ∧ Hid (Byt W1.heap.size wr v4 (pre s p)) ∧ Hid (Below W1.heap.size W1 wr))
    case atStart => exact ⟨0, rfl, ⟨by omega, rfl⟩, HV3, HB3⟩
    case round =>
      obtain ⟨p, rfl, HI, HV, HB⟩ := hrel
      clear HV3 HB3
      obtain ⟨t, ht⟩ : ∃ t, pre s p = t := ⟨_, rfl⟩
      rw [ht] at HV
      obtain ⟨rb, rd, hrv⟩ := row_shape HV.out
      subst hrv
      by_cases hp : p < 5
      · have e1 : decide ((p : Int) < 5) = true := by rw [decide_eq_true_eq]; omega
        have e2 : decide (p < 5) = true := by rw [decide_eq_true_eq]; omega
        have HPL : Hid (p < 5) := hp
        have hwr := w64n p (by omega)
        obtain ⟨k0, k1, k2, k3, k4⟩ := HP.out _ HB.out
        have HTL : Hid (t.length ≤ 1000000) := by
          have := pre_len s HM.out p
          rw [ht] at this
          show t.length ≤ 1000000
          omega
        have HNX : Hid (pre s (p + 1) = t ++ prt s p) := by rw [← ht]; exact rfl
        clear hp ht
        go_wp2_with fail
        refine (part_any p HPL.out HS.out HB.out (Nat.le_refl _) HM.out HV.out HB.out.size HTL.out).mono ?_
        rintro e w5 ⟨v5, rfl, h5, g5⟩
        have HR5 : Hid (Byt W1.heap.size w5 v5 (pre s (p + 1))) := by rw [HNX.out]; exact h5
        have HG5 : Hid (Below W1.heap.size W1 w5) := HB.out.trans g5
        clear h5 g5 k0 k1 k2 k3 k4
        obtain ⟨t5, ht5⟩ : ∃ t5, pre s (p + 1) = t5 := ⟨_, rfl⟩
        have HT5 : Hid (pre s (p + 1) = t5) := ht5
        rw [ht5] at HR5
        clear ht5
        obtain ⟨rx, ry, hrx⟩ := row_shape HR5.out
        subst hrx
        go_wp2_with fail
        go_roundg (5 - (p + 1))
        case measure => have := HI.out; have := HPL.out; omega
        case rel => exact ⟨p + 1, by first | rfl | (rw [show (p : Int) + 1 = ((p + 1 : Nat) : Int) by omega]), ⟨HPL.out, rfl⟩, by rw [HT5.out]; exact HR5, HG5⟩
      · have e1 : decide ((p : Int) < 5) = false := by rw [decide_eq_false_iff_not]; omega
        have e2 : decide (p < 5) = false := by rw [decide_eq_false_iff_not]; omega
        have hp5 : p = 5 := by have := HI.out; omega
        have HTE : Hid (t = enc s) := by rw [← ht, hp5, pre_five]; exact rfl
        have htp : 0 < t.length := by rw [HTE.out]; simp [enc]
        obtain ⟨g, cp, hgf, -, -, -⟩ := row_form HV.out htp
        obtain ⟨rfl, -, rfl⟩ := Value.slice.inj hgf
        have hcv : ∀ W : World, W = wr → (convert 56 9 (.slice (some ⟨g, 0, none⟩) t.length rd)).run Try.prog W = .ok (.string ⟨t.toArray⟩) W := fun W hW => by
          subst hW
          refine run_convert_bytes_back W 56 9 5 ⟨g, 0, none⟩ rd t Try.underlying56 Try.underlying5 Try.underlying9 (fun j hj => ?_)
          rw [addPl, Nat.zero_add, HV.out.cellAt j (by omega)]
          simp [Lib.byteCells, List.getElem?_eq_getElem hj]
        have hcw := hcv wr rfl
        clear hp ht hp5 htp hgf hcv
        go_wp2_with fail
        go_ret2
        exact ⟨by rw [← HR.out, HSH.out, if_pos rfl, HTE.out]; rfl, below_trans HB1.out HB.out⟩
end Go.Proofs.Ytkaciochlemjiaa
