import Derived.Test.YtkaciochlemjiaaRdd
import Derived.Test.YtkaciochlemjiaaTwn
import Derived.Test.YtkaciochlemjiaaGop
import Derived.Test.YtkaciochlemjiaaLsh
namespace Go.Proofs.Ytkaciochlemjiaa
open Go.RowKit Go.Maps

set_option maxRecDepth 100000 in
set_option maxHeartbeats 4000000 in
theorem rencode_any {vi vq vf : Value} {s : Stt} (w : World) (h : Stm w vi vq vf s) (hf : s.flg < 65536) (hq : ∀ d ∈ s.que, d.size ≤ 9223372036854775807) :
    Calls Try.prog 11 #[sv vi vq vf s] w fun e w' => e = .returned (if s.shp then .tuple #[.string ⟨(enc s).toArray⟩, .int .i64 0] else .tuple #[.string ⟨#[]⟩, .int .i64 65]) ∧ Below w.heap.size w w' := by
  obtain ⟨a1, c1, a2, c2, a3, c3, rfl, rfl, rfl⟩ := h.form
  obtain ⟨W1, hW1⟩ : ∃ W1, W1 = w.alloc (.cells #[.slice a1 s.ind.length c1, .int .i64 s.pen, .slice a2 s.que.length c2, .slice a3 s.frm.length c3, .int .u16 (s.flg : Int)] 27) := ⟨_, rfl⟩
  have hhp : W1.heap[w.heap.size]? = some (.cells #[.slice a1 s.ind.length c1, .int .i64 s.pen, .slice a2 s.que.length c2, .slice a3 s.frm.length c3, .int .u16 (s.flg : Int)] 27 (0, 0)) := by rw [hW1]; exact heap_new w _
  have HB1 : Hid (Below w.heap.size w W1) := by rw [hW1]; exact bel_up _ _
  obtain ⟨p0, p1, p2, p3, p4⟩ := box_cells hhp
  have HH : Hid (W1.heap[w.heap.size]? = some (.cells #[.slice a1 s.ind.length c1, .int .i64 s.pen, .slice a2 s.que.length c2, .slice a3 s.frm.length c3, .int .u16 (s.flg : Int)] 27 (0, 0))) := hhp
  have HW : Hid (W1 = w.alloc (.cells #[.slice a1 s.ind.length c1, .int .i64 s.pen, .slice a2 s.que.length c2, .slice a3 s.frm.length c3, .int .u16 (s.flg : Int)] 27)) := hW1
  have HS : Hid (Stm W1 (.slice a1 s.ind.length c1) (.slice a2 s.que.length c2) (.slice a3 s.frm.length c3) s) := h.up HB1.out
  have HF : Hid (s.flg < 65536) := hf
  have HQ : Hid (∀ d ∈ s.que, d.size ≤ 9223372036854775807) := hq
  obtain ⟨R, hR⟩ : ∃ R, (if s.shp then Value.tuple #[.string ⟨(enc s).toArray⟩, .int .i64 0] else .tuple #[.string ⟨#[]⟩, .int .i64 65]) = R := ⟨_, rfl⟩
  have HR : Hid ((if s.shp then Value.tuple #[.string ⟨(enc s).toArray⟩, .int .i64 0] else .tuple #[.string ⟨#[]⟩, .int .i64 65]) = R) := hR
  rw [hR]
  clear h hf hW1 hhp hq hR
  go_enter Try.func11, Try.ntmps11
  go_upto_region 1 with fail
  rw [← HW.out]
  go_wp2_with fail
  refine (rshaped_any W1 HS.out HQ.out).mono ?_
  rintro e w2 ⟨rfl, hb2⟩
  have HB2 : Hid (Below W1.heap.size W1 w2) := hb2
  have HS2 : Hid (Stm w2 (.slice a1 s.ind.length c1) (.slice a2 s.que.length c2) (.slice a3 s.frm.length c3) s) := HS.out.up hb2
  clear p0 p1 p2 p3 p4
  obtain ⟨p0, p1, p2, p3, p4⟩ := box_cells (x0 := .slice a1 s.ind.length c1) (x1 := .int .i64 s.pen) (x2 := .slice a2 s.que.length c2) (x3 := .slice a3 s.frm.length c3) (x4 := .int .u16 (s.flg : Int)) ((hb2.block _ (lt_of_heap HH.out)).trans HH.out)
  clear hb2
  cases hs : s.shp with
  | false =>
    have HSF : Hid (s.shp = false) := hs
    clear hs
    go_wp2_with fail
    go_ret2
    exact ⟨by rw [← HR.out, HSF.out]; rfl, below_trans HB1.out HB2.out⟩
  | true =>
    have HSH : Hid (s.shp = true) := hs
    clear hs
    go_wp2_with fail
    refine (written_any w2 HS2.out (Lim.of HSH.out HF.out)).mono ?_
    rintro e w3 ⟨rfl, hb3⟩
    have HB3 : Hid (Below W1.heap.size W1 w3) := below_trans HB2.out hb3
    clear hb3 p0 p1 p2 p3 p4
    go_wp2_with fail
    go_ret2
    exact ⟨by rw [← HR.out, HSH.out]; rfl, below_trans HB1.out HB3.out⟩

def encX (s : Stt) : ByteArray := if s.shp then ⟨(enc s).toArray⟩ else ⟨#[]⟩
def encE (s : Stt) : Int := if s.shp then 0 else 65
theorem enc_tup (s : Stt) : (if s.shp then Value.tuple #[.string ⟨(enc s).toArray⟩, .int .i64 0] else .tuple #[.string ⟨#[]⟩, .int .i64 65]) = .tuple #[.string (encX s), .int .i64 (encE s)] := by
  unfold encX encE
  cases s.shp <;> rfl
set_option maxRecDepth 100000 in
set_option maxHeartbeats 8000000 in
theorem stateWrites_any {vi vq vf : Value} {s : Stt} (b : ByteArray) (w : World) (h : Stm w vi vq vf s) (hf : s.flg < 65536) (hz : Siz s) (hm : b.size ≤ 140737488355328) :
    Calls Try.prog 3 #[sv vi vq vf s, .string b] w fun e w' => e = .returned (.bool true) ∧ Below w.heap.size w w' := by
  obtain ⟨a1, c1, a2, c2, a3, c3, rfl, rfl, rfl⟩ := h.form
  obtain ⟨W1, hW1⟩ : ∃ W1, W1 = w.alloc (.cells #[.slice a1 s.ind.length c1, .int .i64 s.pen, .slice a2 s.que.length c2, .slice a3 s.frm.length c3, .int .u16 (s.flg : Int)] 27) := ⟨_, rfl⟩
  have HP1 : Hid (W1.heap[w.heap.size]? = some (.cells #[.slice a1 s.ind.length c1, .int .i64 s.pen, .slice a2 s.que.length c2, .slice a3 s.frm.length c3, .int .u16 (s.flg : Int)] 27 (0, 0))) := by rw [hW1]; exact heap_new w _
  have B1 : Hid (Below w.heap.size w W1) := by rw [hW1]; exact bel_up _ _
  have HW : Hid (W1 = w.alloc (.cells #[.slice a1 s.ind.length c1, .int .i64 s.pen, .slice a2 s.que.length c2, .slice a3 s.frm.length c3, .int .u16 (s.flg : Int)] 27)) := hW1
  have HS : Hid (Stm W1 (.slice a1 s.ind.length c1) (.slice a2 s.que.length c2) (.slice a3 s.frm.length c3) s) := h.up B1.out
  have HF : Hid (s.flg < 65536) := hf
  have HZ : Hid (Siz s) := hz
  have HM : Hid (b.size ≤ 140737488355328) := hm
  have HQ : Hid (∀ d ∈ s.que, d.size ≤ 9223372036854775807) := fun d hd => by have := hz.t d hd; unfold maxLen at this; omega
  have HPA : Hid (∀ W', Below W1.heap.size W1 W' → W'.heap[w.heap.size]? = some (.cells #[.slice a1 s.ind.length c1, .int .i64 s.pen, .slice a2 s.que.length c2, .slice a3 s.frm.length c3, .int .u16 (s.flg : Int)] 27 (0, 0))) := fun W' hb => (hb.block _ (lt_of_heap HP1.out)).trans HP1.out
  clear h hf hz hm hW1
  go_enter Try.func3, Try.ntmps3
  go_upto_region 1 with fail
  rw [← HW.out]
  obtain ⟨k0, k1, k2, k3, k4⟩ := box_cells HP1.out
  go_wp2_with fail
  refine (twin_any W1 HS.out HZ.out.i HZ.out.q HZ.out.f).mono ?_
  rintro e w2 ⟨ui, uq, uf, rfl, ho2, hb2⟩
  obtain ⟨x1, y1, x2, y2, x3, y3, rfl, rfl, rfl⟩ := ho2.stm.form
  obtain ⟨W2, hW2⟩ : ∃ W2, W2 = w2.alloc (.cells #[.slice x1 s.ind.length y1, .int .i64 s.pen, .slice x2 s.que.length y2, .slice x3 s.frm.length y3, .int .u16 (s.flg : Int)] 27) := ⟨_, rfl⟩
  have HW2 : Hid (W2 = w2.alloc (.cells #[.slice x1 s.ind.length y1, .int .i64 s.pen, .slice x2 s.que.length y2, .slice x3 s.frm.length y3, .int .u16 (s.flg : Int)] 27)) := hW2
  have B2 : Hid (Below W1.heap.size W1 W2) := by rw [hW2]; exact below_trans hb2 (bel_up _ _)
  have HP2 : Hid (W2.heap[w2.heap.size]? = some (.cells #[.slice x1 s.ind.length y1, .int .i64 s.pen, .slice x2 s.que.length y2, .slice x3 s.frm.length y3, .int .u16 (s.flg : Int)] 27 (0, 0))) := by rw [hW2]; exact heap_new w2 _
  have HX2 : Hid (Stm W2 (.slice x1 s.ind.length y1) (.slice x2 s.que.length y2) (.slice x3 s.frm.length y3) s) := by rw [hW2]; exact ho2.stm.up (bel_up _ _)
  have HPB : Hid (∀ W', Below W2.heap.size W2 W' → W'.heap[w2.heap.size]? = some (.cells #[.slice x1 s.ind.length y1, .int .i64 s.pen, .slice x2 s.que.length y2, .slice x3 s.frm.length y3, .int .u16 (s.flg : Int)] 27 (0, 0))) := fun W' hb => (hb.block _ (lt_of_heap HP2.out)).trans HP2.out
  clear hW2 hb2 ho2 k0 k1 k2 k3 k4
  go_upto_region 2 with fail
  rw [← HW2.out]
  obtain ⟨j0, j1, j2, j3, j4⟩ := box_cells HP2.out
  go_wp2_with fail
  refine (encode_any W2 HX2.out HF.out).mono ?_
  rintro e w3 ⟨rfl, hb3⟩
  rw [enc_tup]
  have EN : Hid (∀ W' : World, Stm W' (.slice a1 s.ind.length c1) (.slice a2 s.que.length c2) (.slice a3 s.frm.length c3) s → Calls Try.prog 11 #[sv (.slice a1 s.ind.length c1) (.slice a2 s.que.length c2) (.slice a3 s.frm.length c3) s] W' fun e w' => e = .returned (.tuple #[.string (encX s), .int .i64 (encE s)]) ∧ Below W'.heap.size W' w') := fun W' hs => by
    have := rencode_any W' hs HF.out HQ.out
    rw [enc_tup] at this
    exact this
  generalize encX s = X at EN
  generalize encE s = E at EN
  have B3 : Hid (Below W2.heap.size W2 w3) := hb3
  clear hb3 j0 j1 j2 j3 j4
  obtain ⟨k0, k1, k2, k3, k4⟩ := box_cells (HPA.out w3 (below_trans B2.out B3.out))
  go_wp2_with fail
  refine (EN.out w3 (HS.out.up (below_trans B2.out B3.out))).mono ?_
  rintro e w4 ⟨rfl, hb4⟩
  have B4 : Hid (Below W2.heap.size W2 w4) := below_trans B3.out hb4
  clear hb4 k0 k1 k2 k3 k4
  obtain ⟨k0, k1, k2, k3, k4⟩ := box_cells (HPA.out w4 (below_trans B2.out B4.out))
  obtain ⟨j0, j1, j2, j3, j4⟩ := box_cells (HPB.out w4 B4.out)
  go_wp2_with fail
  refine (rsame_any w4 (HX2.out.up B4.out) (HS.out.up (below_trans B2.out B4.out)) (by have := HZ.out.i; omega) (by have := HZ.out.q; omega) (by have := HZ.out.f; omega)).mono ?_
  rintro e w5 ⟨rfl, hb5⟩
  have ds : decide (s = s) = true := decide_eq_true rfl
  rw [ds]
  have B5 : Hid (Below w.heap.size w w5) := below_trans B1.out (below_trans B2.out (below_trans B4.out hb5))
  clear hb5 ds k0 k1 k2 k3 k4 j0 j1 j2 j3 j4
  go_wp2_with fail
  refine (decode_any b HM.out w5).mono ?_
  rintro e w6 ⟨hb6, hr6⟩
  rcases hr6 with ⟨d, di, dq, df, q1, q2, q3, rfl, ho6⟩ | ⟨hno, rfl⟩
  · obtain ⟨e1, f1, e2, f2, e3, f3, rfl, rfl, rfl⟩ := ho6.stm.form
    obtain ⟨W6, hW6⟩ : ∃ W6, W6 = w6.alloc (.cells #[.slice e1 d.ind.length f1, .int .i64 d.pen, .slice e2 d.que.length f2, .slice e3 d.frm.length f3, .int .u16 (d.flg : Int)] 27) := ⟨_, rfl⟩
    have HW6 : Hid (W6 = w6.alloc (.cells #[.slice e1 d.ind.length f1, .int .i64 d.pen, .slice e2 d.que.length f2, .slice e3 d.frm.length f3, .int .u16 (d.flg : Int)] 27)) := hW6
    have B6 : Hid (Below w.heap.size w W6) := by rw [hW6]; exact below_trans (below_trans B5.out hb6) (bel_up _ _)
    have HP6 : Hid (W6.heap[w6.heap.size]? = some (.cells #[.slice e1 d.ind.length f1, .int .i64 d.pen, .slice e2 d.que.length f2, .slice e3 d.frm.length f3, .int .u16 (d.flg : Int)] 27 (0, 0))) := by rw [hW6]; exact heap_new w6 _
    have HX6 : Hid (Stm W6 (.slice e1 d.ind.length f1) (.slice e2 d.que.length f2) (.slice e3 d.frm.length f3) d) := by rw [hW6]; exact ho6.stm.up (bel_up _ _)
    have HDD : Hid (d.shp = true ∧ d.flg < 65536 ∧ b.data.toList = enc d) := ⟨q1, q2, q3⟩
    clear hW6 hb6 ho6 q1 q2 q3
    go_upto_region 6 with fail
    rw [← HW6.out]
    go_wp2_with fail
    refine (rdecode_any b HM.out W6).mono ?_
    rintro e w7 ⟨hb7, hr7⟩
    rcases hr7 with ⟨d', di, dq, df, q1, q2, q3, rfl, ho7⟩ | ⟨hno, rfl⟩
    · have hde : d' = d := (enc_pfx (x := []) (y := []) q1 q2 HDD.out.1 HDD.out.2.1 (by rw [← q3, HDD.out.2.2])).1
      subst d'
      obtain ⟨g1, h1, g2, h2, g3, h3, rfl, rfl, rfl⟩ := ho7.stm.form
      obtain ⟨W7, hW7⟩ : ∃ W7, W7 = w7.alloc (.cells #[.slice g1 d.ind.length h1, .int .i64 d.pen, .slice g2 d.que.length h2, .slice g3 d.frm.length h3, .int .u16 (d.flg : Int)] 27) := ⟨_, rfl⟩
      have HW7 : Hid (W7 = w7.alloc (.cells #[.slice g1 d.ind.length h1, .int .i64 d.pen, .slice g2 d.que.length h2, .slice g3 d.frm.length h3, .int .u16 (d.flg : Int)] 27)) := hW7
      have B67 : Hid (Below W6.heap.size W6 W7) := by rw [hW7]; exact below_trans hb7 (bel_up _ _)
      have B7 : Hid (Below w.heap.size w W7) := below_trans B6.out B67.out
      have HP7 : Hid (W7.heap[w7.heap.size]? = some (.cells #[.slice g1 d.ind.length h1, .int .i64 d.pen, .slice g2 d.que.length h2, .slice g3 d.frm.length h3, .int .u16 (d.flg : Int)] 27 (0, 0))) := by rw [hW7]; exact heap_new w7 _
      have HP8 : Hid (W7.heap[w6.heap.size]? = some (.cells #[.slice e1 d.ind.length f1, .int .i64 d.pen, .slice e2 d.que.length f2, .slice e3 d.frm.length f3, .int .u16 (d.flg : Int)] 27 (0, 0))) := (B67.out.block _ (lt_of_heap HP6.out)).trans HP6.out
      have HX7 : Hid (Stm W7 (.slice g1 d.ind.length h1) (.slice g2 d.que.length h2) (.slice g3 d.frm.length h3) d) := by rw [hW7]; exact ho7.stm.up (bel_up _ _)
      clear hW7 hb7 ho7 q1 q2 q3
      go_upto_region 7 with fail
      rw [← HW7.out]
      obtain ⟨k0, k1, k2, k3, k4⟩ := box_cells HP7.out
      obtain ⟨j0, j1, j2, j3, j4⟩ := box_cells HP8.out
      go_wp2_with fail
      refine (rsame_any W7 (HX6.out.up B67.out) HX7.out (by have := (Lim.of HDD.out.1 HDD.out.2.1).i; omega) (by have := (Lim.of HDD.out.1 HDD.out.2.1).q; omega) (by have := (Lim.of HDD.out.1 HDD.out.2.1).f; omega)).mono ?_
      rintro e w8 ⟨rfl, hb8⟩
      have ds : decide (d = d) = true := decide_eq_true rfl
      rw [ds]
      have B8 : Hid (Below w.heap.size w w8) := below_trans B7.out hb8
      clear hb8 ds k0 k1 k2 k3 k4 j0 j1 j2 j3 j4
      go_wp2_with fail
      go_ret
      exact ⟨rfl, B8.out⟩
    · exact absurd HDD.out.2.2 (hno d HDD.out.1 HDD.out.2.1)
  · obtain ⟨W6, hW6⟩ : ∃ W6, W6 = w6.alloc (.cells #[.slice none 0 0, .int .i64 0, .slice none 0 0, .slice none 0 0, .int .u16 0] 27) := ⟨_, rfl⟩
    have HW6 : Hid (W6 = w6.alloc (.cells #[.slice none 0 0, .int .i64 0, .slice none 0 0, .slice none 0 0, .int .u16 0] 27)) := hW6
    have B6 : Hid (Below w.heap.size w W6) := by rw [hW6]; exact below_trans (below_trans B5.out hb6) (bel_up _ _)
    have HP6 : Hid (W6.heap[w6.heap.size]? = some (.cells #[.slice none 0 0, .int .i64 0, .slice none 0 0, .slice none 0 0, .int .u16 0] 27 (0, 0))) := by rw [hW6]; exact heap_new w6 _
    have HNO : Hid (∀ S : Stt, S.shp = true → S.flg < 65536 → b.data.toList ≠ enc S) := hno
    clear hW6 hb6 hno
    go_upto_region 6 with fail
    rw [← HW6.out]
    go_wp2_with fail
    refine (rdecode_any b HM.out W6).mono ?_
    rintro e w7 ⟨hb7, hr7⟩
    rcases hr7 with ⟨d', di, dq, df, q1, q2, q3, rfl, ho7⟩ | ⟨hno, rfl⟩
    · exact absurd q3 (HNO.out d' q1 q2)
    · obtain ⟨W7, hW7⟩ : ∃ W7, W7 = w7.alloc (.cells #[.slice none 0 0, .int .i64 0, .slice none 0 0, .slice none 0 0, .int .u16 0] 27) := ⟨_, rfl⟩
      have HW7 : Hid (W7 = w7.alloc (.cells #[.slice none 0 0, .int .i64 0, .slice none 0 0, .slice none 0 0, .int .u16 0] 27)) := hW7
      have B67 : Hid (Below W6.heap.size W6 W7) := by rw [hW7]; exact below_trans hb7 (bel_up _ _)
      have B7 : Hid (Below w.heap.size w W7) := below_trans B6.out B67.out
      have HP7 : Hid (W7.heap[w7.heap.size]? = some (.cells #[.slice none 0 0, .int .i64 0, .slice none 0 0, .slice none 0 0, .int .u16 0] 27 (0, 0))) := by rw [hW7]; exact heap_new w7 _
      have HP8 : Hid (W7.heap[w6.heap.size]? = some (.cells #[.slice none 0 0, .int .i64 0, .slice none 0 0, .slice none 0 0, .int .u16 0] 27 (0, 0))) := (B67.out.block _ (lt_of_heap HP6.out)).trans HP6.out
      clear hW7 hb7 hno
      go_upto_region 7 with fail
      rw [← HW7.out]
      obtain ⟨k0, k1, k2, k3, k4⟩ := box_cells HP7.out
      obtain ⟨j0, j1, j2, j3, j4⟩ := box_cells HP8.out
      go_wp2_with fail
      refine (rsame_zero W7).mono ?_
      rintro e w8 ⟨rfl, hb8⟩
      have B8 : Hid (Below w.heap.size w w8) := below_trans B7.out hb8
      clear hb8 k0 k1 k2 k3 k4 j0 j1 j2 j3 j4
      go_wp2_with fail
      go_ret
      exact ⟨rfl, B8.out⟩
end Go.Proofs.Ytkaciochlemjiaa
