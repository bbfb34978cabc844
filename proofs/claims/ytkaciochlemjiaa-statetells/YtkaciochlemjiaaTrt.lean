import Derived.Test.YtkaciochlemjiaaGtr
import Derived.Test.YtkaciochlemjiaaGte
import Derived.Test.YtkaciochlemjiaaTrh
import Derived.Test.YtkaciochlemjiaaWrl
namespace Go.Proofs.Ytkaciochlemjiaa
open Go.RowKit Go.Maps

/-- What is asked of a state's sizes. -/
structure Sza (s : Stt) : Prop where
  f : s.flg < 65536
  i : s.ind.length * 8 ≤ 140737488355328
  q : s.que.length * 16 ≤ 140737488355328
  r : s.frm.length * 24 ≤ 140737488355328
  t : ∀ d ∈ s.que, d.size ≤ 9223372036854775807
theorem rooms_sza {B : Nat} {vi vq vf : Value} {s : Stt} (w : World) (h : Rmy B w vi vq vf s) (hz : Sza s) : Calls Try.prog 23 #[sv vi vq vf s] w fun e w' => e = .returned (.bool true) ∧ Below w.heap.size w w' :=
  rooms_any w h (by have := hz.i; omega) (by have := hz.q; omega) (by have := hz.r; omega)

set_option maxRecDepth 100000 in
set_option maxHeartbeats 16000000 in
theorem retold_any {Bx By : Nat} {vi vq vf ui uq uf : Value} {s t : Stt} (k n : Int) (ended : Bool) (w : World) (h : Rmy Bx w vi vq vf s) (g : Rmy By w ui uq uf t) (hs : Sza s) (ht : Sza t) :
    Calls Try.prog 25 #[sv vi vq vf s, sv ui uq uf t, tv k n, .bool ended] w fun e w' => e = .returned (.bool true) ∧ Below w.heap.size w w' := by
  obtain ⟨a1, ac1, a2, ac2, a3, ac3, rfl, rfl, rfl⟩ := h.stm.form
  obtain ⟨b1, bc1, b2, bc2, b3, bc3, rfl, rfl, rfl⟩ := g.stm.form
  obtain ⟨W1, hW1⟩ : ∃ W1, W1 = ((w.alloc (.cells #[.slice a1 s.ind.length ac1, .int .i64 s.pen, .slice a2 s.que.length ac2, .slice a3 s.frm.length ac3, .int .u16 (s.flg : Int)] 27)).alloc (.cells #[.slice b1 t.ind.length bc1, .int .i64 t.pen, .slice b2 t.que.length bc2, .slice b3 t.frm.length bc3, .int .u16 (t.flg : Int)] 27)).alloc (.cells #[.int .i64 k, .int .i64 n] 38) := ⟨_, rfl⟩
  have HW : Hid (W1 = ((w.alloc (.cells #[.slice a1 s.ind.length ac1, .int .i64 s.pen, .slice a2 s.que.length ac2, .slice a3 s.frm.length ac3, .int .u16 (s.flg : Int)] 27)).alloc (.cells #[.slice b1 t.ind.length bc1, .int .i64 t.pen, .slice b2 t.que.length bc2, .slice b3 t.frm.length bc3, .int .u16 (t.flg : Int)] 27)).alloc (.cells #[.int .i64 k, .int .i64 n] 38)) := hW1
  have B1 : Hid (Below w.heap.size w W1) := by rw [hW1]; exact below_trans (below_trans (bel_up _ _) (bel_up _ _)) (bel_up _ _)
  have s1 : (w.alloc (.cells #[.slice a1 s.ind.length ac1, .int .i64 s.pen, .slice a2 s.que.length ac2, .slice a3 s.frm.length ac3, .int .u16 (s.flg : Int)] 27)).heap.size = w.heap.size + 1 := World.size_alloc _ _
  have s2 : ((w.alloc (.cells #[.slice a1 s.ind.length ac1, .int .i64 s.pen, .slice a2 s.que.length ac2, .slice a3 s.frm.length ac3, .int .u16 (s.flg : Int)] 27)).alloc (.cells #[.slice b1 t.ind.length bc1, .int .i64 t.pen, .slice b2 t.que.length bc2, .slice b3 t.frm.length bc3, .int .u16 (t.flg : Int)] 27)).heap.size = w.heap.size + 1 + 1 := by rw [World.size_alloc, s1]
  have HP1 : Hid (W1.heap[w.heap.size]? = some (.cells #[.slice a1 s.ind.length ac1, .int .i64 s.pen, .slice a2 s.que.length ac2, .slice a3 s.frm.length ac3, .int .u16 (s.flg : Int)] 27 (0, 0))) := by
    rw [hW1, (bel_up _ _).block _ (by rw [s2]; omega), (bel_up _ _).block _ (by rw [s1]; omega)]; exact heap_new w _
  have HP2 : Hid (W1.heap[w.heap.size + 1]? = some (.cells #[.slice b1 t.ind.length bc1, .int .i64 t.pen, .slice b2 t.que.length bc2, .slice b3 t.frm.length bc3, .int .u16 (t.flg : Int)] 27 (0, 0))) := by
    rw [hW1, (bel_up _ _).block _ (by rw [s2]; omega)]
    have := heap_new (w.alloc (.cells #[.slice a1 s.ind.length ac1, .int .i64 s.pen, .slice a2 s.que.length ac2, .slice a3 s.frm.length ac3, .int .u16 (s.flg : Int)] 27)) (.cells #[.slice b1 t.ind.length bc1, .int .i64 t.pen, .slice b2 t.que.length bc2, .slice b3 t.frm.length bc3, .int .u16 (t.flg : Int)] 27)
    rw [s1] at this
    exact this
  have HP3 : Hid (W1.heap[w.heap.size + 1 + 1]? = some (.cells #[.int .i64 k, .int .i64 n] 38 (0, 0))) := by
    rw [hW1]
    have := heap_new ((w.alloc (.cells #[.slice a1 s.ind.length ac1, .int .i64 s.pen, .slice a2 s.que.length ac2, .slice a3 s.frm.length ac3, .int .u16 (s.flg : Int)] 27)).alloc (.cells #[.slice b1 t.ind.length bc1, .int .i64 t.pen, .slice b2 t.que.length bc2, .slice b3 t.frm.length bc3, .int .u16 (t.flg : Int)] 27)) (.cells #[.int .i64 k, .int .i64 n] 38)
    rw [s2] at this
    exact this
  have HX : Hid (Rmy Bx W1 (.slice a1 s.ind.length ac1) (.slice a2 s.que.length ac2) (.slice a3 s.frm.length ac3) s) := h.up B1.out
  have HY : Hid (Rmy By W1 (.slice b1 t.ind.length bc1) (.slice b2 t.que.length bc2) (.slice b3 t.frm.length bc3) t) := g.up B1.out
  have HS : Hid (Sza s) := hs
  have HT : Hid (Sza t) := ht
  clear h g hs ht hW1 s1 s2
  go_enter Try.func25, Try.ntmps25
  go_upto_region 1 with fail
  rw [← HW.out]
  obtain ⟨p0, p1, p2, p3, p4⟩ := box_cells HP1.out
  go_wp2_with fail
  refine (twin_any W1 HX.out.stm HS.out.i HS.out.q HS.out.r).mono ?_
  rintro e w2 ⟨zi, zq, zf, rfl, ho2, hb2⟩
  obtain ⟨c1, cc1, c2, cc2, c3, cc3, rfl, rfl, rfl⟩ := ho2.stm.form
  obtain ⟨W2, hW2⟩ : ∃ W2, W2 = w2.alloc (.cells #[.slice c1 s.ind.length cc1, .int .i64 s.pen, .slice c2 s.que.length cc2, .slice c3 s.frm.length cc3, .int .u16 (s.flg : Int)] 27) := ⟨_, rfl⟩
  have HW2 : Hid (W2 = w2.alloc (.cells #[.slice c1 s.ind.length cc1, .int .i64 s.pen, .slice c2 s.que.length cc2, .slice c3 s.frm.length cc3, .int .u16 (s.flg : Int)] 27)) := hW2
  have B2 : Hid (Below W1.heap.size W1 W2) := by rw [hW2]; exact below_trans hb2 (bel_up _ _)
  have HPA : Hid (W2.heap[w2.heap.size]? = some (.cells #[.slice c1 s.ind.length cc1, .int .i64 s.pen, .slice c2 s.que.length cc2, .slice c3 s.frm.length cc3, .int .u16 (s.flg : Int)] 27 (0, 0))) := by rw [hW2]; exact heap_new w2 _
  have HA : Hid (Stm W2 (.slice c1 s.ind.length cc1) (.slice c2 s.que.length cc2) (.slice c3 s.frm.length cc3) s) := by rw [hW2]; exact ho2.stm.up (bel_up _ _)
  clear hW2 hb2 ho2 p0 p1 p2 p3 p4
  go_upto_region 2 with fail
  rw [← HW2.out]
  obtain ⟨q0, q1, q2, q3, q4⟩ := box_cells (x0 := .slice b1 t.ind.length bc1) (x1 := .int .i64 t.pen) (x2 := .slice b2 t.que.length bc2) (x3 := .slice b3 t.frm.length bc3) (x4 := .int .u16 (t.flg : Int)) ((B2.out.block _ (lt_of_heap HP2.out)).trans HP2.out)
  go_wp2_with fail
  refine (twin_any W2 (HY.out.up B2.out).stm HT.out.i HT.out.q HT.out.r).mono ?_
  rintro e w3 ⟨zi, zq, zf, rfl, ho3, hb3⟩
  obtain ⟨d1, dc1, d2, dc2, d3, dc3, rfl, rfl, rfl⟩ := ho3.stm.form
  obtain ⟨W3, hW3⟩ : ∃ W3, W3 = w3.alloc (.cells #[.slice d1 t.ind.length dc1, .int .i64 t.pen, .slice d2 t.que.length dc2, .slice d3 t.frm.length dc3, .int .u16 (t.flg : Int)] 27) := ⟨_, rfl⟩
  have HW3 : Hid (W3 = w3.alloc (.cells #[.slice d1 t.ind.length dc1, .int .i64 t.pen, .slice d2 t.que.length dc2, .slice d3 t.frm.length dc3, .int .u16 (t.flg : Int)] 27)) := hW3
  have B23 : Hid (Below W2.heap.size W2 W3) := by rw [hW3]; exact below_trans hb3 (bel_up _ _)
  have B13 : Hid (Below W1.heap.size W1 W3) := below_trans B2.out B23.out
  have HPB : Hid (W3.heap[w3.heap.size]? = some (.cells #[.slice d1 t.ind.length dc1, .int .i64 t.pen, .slice d2 t.que.length dc2, .slice d3 t.frm.length dc3, .int .u16 (t.flg : Int)] 27 (0, 0))) := by rw [hW3]; exact heap_new w3 _
  have HST : Hid (∀ W', Below W3.heap.size W3 W' → Rmy Bx W' (.slice a1 s.ind.length ac1) (.slice a2 s.que.length ac2) (.slice a3 s.frm.length ac3) s ∧ Rmy By W' (.slice b1 t.ind.length bc1) (.slice b2 t.que.length bc2) (.slice b3 t.frm.length bc3) t ∧ Stm W' (.slice c1 s.ind.length cc1) (.slice c2 s.que.length cc2) (.slice c3 s.frm.length cc3) s ∧ Stm W' (.slice d1 t.ind.length dc1) (.slice d2 t.que.length dc2) (.slice d3 t.frm.length dc3) t) := fun W' hb => by
    have hd : Stm W3 (.slice d1 t.ind.length dc1) (.slice d2 t.que.length dc2) (.slice d3 t.frm.length dc3) t := by rw [hW3]; exact ho3.stm.up (bel_up _ _)
    exact ⟨(HX.out.up B13.out).up hb, (HY.out.up B13.out).up hb, (HA.out.up B23.out).up hb, hd.up hb⟩
  have HBX : Hid (∀ W', Below W3.heap.size W3 W' → W'.heap[w.heap.size]? = some (.cells #[.slice a1 s.ind.length ac1, .int .i64 s.pen, .slice a2 s.que.length ac2, .slice a3 s.frm.length ac3, .int .u16 (s.flg : Int)] 27 (0, 0)) ∧ W'.heap[w.heap.size + 1]? = some (.cells #[.slice b1 t.ind.length bc1, .int .i64 t.pen, .slice b2 t.que.length bc2, .slice b3 t.frm.length bc3, .int .u16 (t.flg : Int)] 27 (0, 0)) ∧ W'.heap[w.heap.size + 1 + 1]? = some (.cells #[.int .i64 k, .int .i64 n] 38 (0, 0)) ∧ W'.heap[w2.heap.size]? = some (.cells #[.slice c1 s.ind.length cc1, .int .i64 s.pen, .slice c2 s.que.length cc2, .slice c3 s.frm.length cc3, .int .u16 (s.flg : Int)] 27 (0, 0)) ∧ W'.heap[w3.heap.size]? = some (.cells #[.slice d1 t.ind.length dc1, .int .i64 t.pen, .slice d2 t.que.length dc2, .slice d3 t.frm.length dc3, .int .u16 (t.flg : Int)] 27 (0, 0))) := fun W' hb => by
    have hb1 := below_trans B13.out hb
    have hb2 := below_trans B23.out hb
    exact ⟨(hb1.block _ (lt_of_heap HP1.out)).trans HP1.out, (hb1.block _ (lt_of_heap HP2.out)).trans HP2.out, (hb1.block _ (lt_of_heap HP3.out)).trans HP3.out, (hb2.block _ (lt_of_heap HPA.out)).trans HPA.out, (hb.block _ (lt_of_heap HPB.out)).trans HPB.out⟩
  have BW : Hid (∀ W', Below W3.heap.size W3 W' → Below w.heap.size w W') := fun W' hb => below_trans B1.out (below_trans B13.out hb)
  clear hW3 hb3 ho3 q0 q1 q2 q3 q4
  go_upto_region 3 with fail
  rw [← HW3.out]
  have B : Hid (Below W3.heap.size W3 W3) := Below.refl _ _
  obtain ⟨u0, u1, u2, u3, u4⟩ := box_cells (HBX.out W3 B.out).2.2.2.1
  go_wp2_with fail
  refine (rencode_any W3 (HST.out W3 B.out).2.2.1 HS.out.f HS.out.t).mono ?_
  rintro e z3 ⟨rfl, hb⟩
  have B' : Hid (Below W3.heap.size W3 z3) := below_trans B.out hb
  clear B hb u0 u1 u2 u3 u4
  have B : Hid (Below W3.heap.size W3 z3) := B'.out
  clear B'
  rw [enc_tup]
  have EN : Hid (∀ W' : World, Stm W' (.slice a1 s.ind.length ac1) (.slice a2 s.que.length ac2) (.slice a3 s.frm.length ac3) s → Calls Try.prog 10 #[sv (.slice a1 s.ind.length ac1) (.slice a2 s.que.length ac2) (.slice a3 s.frm.length ac3) s] W' fun e w' => e = .returned (.tuple #[.string (encX s), .int .i64 (encE s)]) ∧ Below W'.heap.size W' w') := fun W' hs => by
    have := encode_any W' hs HS.out.f
    rw [enc_tup] at this
    exact this
  generalize encX s = X at EN
  generalize encE s = E at EN
  obtain ⟨p0, p1, p2, p3, p4⟩ := box_cells (HBX.out z3 B.out).1
  go_wp2_with fail
  refine (EN.out z3 (HST.out z3 B.out).1.stm).mono ?_
  rintro e z4 ⟨rfl, hb⟩
  have B' : Hid (Below W3.heap.size W3 z4) := below_trans B.out hb
  clear B hb p0 p1 p2 p3 p4
  have B : Hid (Below W3.heap.size W3 z4) := B'.out
  clear B'
  obtain ⟨p0, p1, p2, p3, p4⟩ := box_cells (HBX.out z4 B.out).1
  go_wp2_with fail
  refine (shaped_any z4 (HST.out z4 B.out).1.stm).mono ?_
  rintro e z5 ⟨rfl, hb⟩
  have B' : Hid (Below W3.heap.size W3 z5) := below_trans B.out hb
  clear B hb p0 p1 p2 p3 p4
  have B : Hid (Below W3.heap.size W3 z5) := B'.out
  clear B'
  have RSH : Hid (∀ W' : World, Stm W' (.slice c1 s.ind.length cc1) (.slice c2 s.que.length cc2) (.slice c3 s.frm.length cc3) s → Calls Try.prog 21 #[sv (.slice c1 s.ind.length cc1) (.slice c2 s.que.length cc2) (.slice c3 s.frm.length cc3) s] W' fun e w' => e = .returned (.bool s.shp) ∧ Below W'.heap.size W' w') := fun W' hs => rshaped_any W' hs HS.out.t
  generalize s.shp = sp at RSH
  obtain ⟨p0, p1, p2, p3, p4⟩ := box_cells (HBX.out z5 B.out).1
  obtain ⟨q0, q1, q2, q3, q4⟩ := box_cells (HBX.out z5 B.out).2.1
  go_wp2_with fail
  refine (same_any z5 (HST.out z5 B.out).1.stm (HST.out z5 B.out).2.1.stm (by have := HS.out.i; omega) (by have := HS.out.q; omega) (by have := HS.out.r; omega)).mono ?_
  rintro e z6 ⟨rfl, hb⟩
  have B' : Hid (Below W3.heap.size W3 z6) := below_trans B.out hb
  clear B hb p0 p1 p2 p3 p4 q0 q1 q2 q3 q4
  have B : Hid (Below W3.heap.size W3 z6) := B'.out
  clear B'
  have RSA : Hid (∀ W' : World, Stm W' (.slice c1 s.ind.length cc1) (.slice c2 s.que.length cc2) (.slice c3 s.frm.length cc3) s → Stm W' (.slice d1 t.ind.length dc1) (.slice d2 t.que.length dc2) (.slice d3 t.frm.length dc3) t → Calls Try.prog 12 #[sv (.slice c1 s.ind.length cc1) (.slice c2 s.que.length cc2) (.slice c3 s.frm.length cc3) s, sv (.slice d1 t.ind.length dc1) (.slice d2 t.que.length dc2) (.slice d3 t.frm.length dc3) t] W' fun e w' => e = .returned (.bool (decide (s = t))) ∧ Below W'.heap.size W' w') := fun W' ha hb => rsame_any W' ha hb (by have := HS.out.i; omega) (by have := HS.out.q; omega) (by have := HS.out.r; omega)
  generalize decide (s = t) = sq at RSA
  obtain ⟨p0, p1, p2, p3, p4⟩ := box_cells (HBX.out z6 B.out).1
  have r0 := rcell (HBX.out z6 B.out).2.2.1 0 (.int .i64 k) rfl
  have r1 := rcell (HBX.out z6 B.out).2.2.1 1 (.int .i64 n) rfl
  go_wp2_with fail
  refine (holds2_any k n ended z6 (HST.out z6 B.out).1.stm HS.out.f (by have := HS.out.i; omega)).mono ?_
  rintro e z7 ⟨rfl, hb⟩
  have B' : Hid (Below W3.heap.size W3 z7) := below_trans B.out hb
  clear B hb p0 p1 p2 p3 p4 r0 r1
  have B : Hid (Below W3.heap.size W3 z7) := B'.out
  clear B'
  have RHO : Hid (∀ W' : World, Stm W' (.slice c1 s.ind.length cc1) (.slice c2 s.que.length cc2) (.slice c3 s.frm.length cc3) s → Calls Try.prog 22 #[sv (.slice c1 s.ind.length cc1) (.slice c2 s.que.length cc2) (.slice c3 s.frm.length cc3) s, tv k n, .bool ended] W' fun e w' => e = .returned (.bool (hld s k n ended)) ∧ Below W'.heap.size W' w') := fun W' ha => rholds_any k n ended W' ha HS.out.f (by have := HS.out.i; omega)
  generalize hld s k n ended = sh at RHO
  obtain ⟨p0, p1, p2, p3, p4⟩ := box_cells (HBX.out z7 B.out).1
  obtain ⟨u0, u1, u2, u3, u4⟩ := box_cells (HBX.out z7 B.out).2.2.2.1
  go_wp2_with fail
  refine (rsame_any z7 (HST.out z7 B.out).1.stm (HST.out z7 B.out).2.2.1 (by have := HS.out.i; omega) (by have := HS.out.q; omega) (by have := HS.out.r; omega)).mono ?_
  rintro e z8 ⟨rfl, hb⟩
  have B' : Hid (Below W3.heap.size W3 z8) := below_trans B.out hb
  clear B hb p0 p1 p2 p3 p4 u0 u1 u2 u3 u4
  have B : Hid (Below W3.heap.size W3 z8) := B'.out
  clear B'
  rw [decide_eq_true (rfl : s = s)]
  obtain ⟨q0, q1, q2, q3, q4⟩ := box_cells (HBX.out z8 B.out).2.1
  obtain ⟨v0, v1, v2, v3, v4⟩ := box_cells (HBX.out z8 B.out).2.2.2.2
  go_wp2_with fail
  refine (rsame_any z8 (HST.out z8 B.out).2.1.stm (HST.out z8 B.out).2.2.2 (by have := HT.out.i; omega) (by have := HT.out.q; omega) (by have := HT.out.r; omega)).mono ?_
  rintro e z9 ⟨rfl, hb⟩
  have B' : Hid (Below W3.heap.size W3 z9) := below_trans B.out hb
  clear B hb q0 q1 q2 q3 q4 v0 v1 v2 v3 v4
  have B : Hid (Below W3.heap.size W3 z9) := B'.out
  clear B'
  rw [decide_eq_true (rfl : t = t)]
  obtain ⟨u0, u1, u2, u3, u4⟩ := box_cells (HBX.out z9 B.out).2.2.2.1
  go_wp2_with fail
  refine (RSH.out z9 (HST.out z9 B.out).2.2.1).mono ?_
  rintro e z10 ⟨rfl, hb⟩
  have B' : Hid (Below W3.heap.size W3 z10) := below_trans B.out hb
  clear B hb u0 u1 u2 u3 u4
  have B : Hid (Below W3.heap.size W3 z10) := B'.out
  clear B'
  obtain ⟨u0, u1, u2, u3, u4⟩ := box_cells (HBX.out z10 B.out).2.2.2.1
  obtain ⟨v0, v1, v2, v3, v4⟩ := box_cells (HBX.out z10 B.out).2.2.2.2
  go_wp2_with fail
  refine (RSA.out z10 (HST.out z10 B.out).2.2.1 (HST.out z10 B.out).2.2.2).mono ?_
  rintro e z11 ⟨rfl, hb⟩
  have B' : Hid (Below W3.heap.size W3 z11) := below_trans B.out hb
  clear B hb u0 u1 u2 u3 u4 v0 v1 v2 v3 v4
  have B : Hid (Below W3.heap.size W3 z11) := B'.out
  clear B'
  obtain ⟨u0, u1, u2, u3, u4⟩ := box_cells (HBX.out z11 B.out).2.2.2.1
  have r0 := rcell (HBX.out z11 B.out).2.2.1 0 (.int .i64 k) rfl
  have r1 := rcell (HBX.out z11 B.out).2.2.1 1 (.int .i64 n) rfl
  go_wp2_with fail
  refine (RHO.out z11 (HST.out z11 B.out).2.2.1).mono ?_
  rintro e z12 ⟨rfl, hb⟩
  have B' : Hid (Below W3.heap.size W3 z12) := below_trans B.out hb
  clear B hb u0 u1 u2 u3 u4 r0 r1
  have B : Hid (Below W3.heap.size W3 z12) := B'.out
  clear B'
  obtain ⟨p0, p1, p2, p3, p4⟩ := box_cells (HBX.out z12 B.out).1
  go_wp2_with fail
  refine (rooms_sza z12 (HST.out z12 B.out).1 HS.out).mono ?_
  rintro e z13 ⟨rfl, hb⟩
  have B' : Hid (Below W3.heap.size W3 z13) := below_trans B.out hb
  clear B hb p0 p1 p2 p3 p4
  have B : Hid (Below W3.heap.size W3 z13) := B'.out
  clear B'
  obtain ⟨q0, q1, q2, q3, q4⟩ := box_cells (HBX.out z13 B.out).2.1
  go_wp2_with fail
  refine (rooms_sza z13 (HST.out z13 B.out).2.1 HT.out).mono ?_
  rintro e z14 ⟨rfl, hb⟩
  have B' : Hid (Below W3.heap.size W3 z14) := below_trans B.out hb
  clear B hb q0 q1 q2 q3 q4
  have B : Hid (Below W3.heap.size W3 z14) := B'.out
  clear B'
  go_wp2_with fail
  go_ret
  exact ⟨rfl, BW.out _ B.out⟩
end Go.Proofs.Ytkaciochlemjiaa
