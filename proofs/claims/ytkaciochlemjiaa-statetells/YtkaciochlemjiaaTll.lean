import Derived.Test.YtkaciochlemjiaaTrt
namespace Go.Proofs.Ytkaciochlemjiaa
open Go.RowKit Go.Maps

theorem row_chg {w W : World} {B : Nat} {e : TypeId} {size n m g cap g1 g2 g3 : Nat} {xs : List Value} (h : w.ownsRow B e size (.slice (some ⟨g, 0, none⟩) n cap) m xs) (hc : Chg w W g1 g2 g3) (h1 : g ≠ g1) (h2 : g ≠ g2) (h3 : g ≠ g3) : W.ownsRow B e size (.slice (some ⟨g, 0, none⟩) n cap) m xs := by
  refine ⟨h.1, ?_⟩
  rcases h.2 with h0 | ⟨g', cap', cur, e0, hb, hh, hr⟩
  · exact Or.inl h0
  · obtain ⟨e1, -, -⟩ := Value.slice.inj e0
    obtain rfl : g' = g := by simpa using (Option.some.inj e1).symm
    exact Or.inr ⟨g', cap', cur, e0, hb, (hc.block g' (lt_of_heap hh) h1 h2 h3).trans hh, hr⟩
theorem Rmy.chg {w W : World} {B g1 g2 g3 : Nat} {vi vq vf : Value} {s : Stt} (h : Rmy B w vi vq vf s) (hc : Chg w W g1 g2 g3) (h1 : g1 < B) (h2 : g2 < B) (h3 : g3 < B) : Rmy B W vi vq vf s := by
  obtain ⟨a, b, c, d, e, f, rfl, rfl, rfl, r1, r2, r3⟩ := h
  have l1 := (row_blk r1).1
  have l2 := (row_blk r2).1
  have l3 := (row_blk r3).1
  exact ⟨a, b, c, d, e, f, rfl, rfl, rfl, row_chg r1 hc (by omega) (by omega) (by omega), row_chg r2 hc (by omega) (by omega) (by omega), row_chg r3 hc (by omega) (by omega) (by omega)⟩
theorem rsame_start (W : World) : Calls Try.prog 12 #[.agg #[.slice none 0 0, .int .i64 (-1), .slice none 0 0, .slice none 0 0, .int .u16 0], .agg #[.slice none 0 0, .int .i64 (-1), .slice none 0 0, .slice none 0 0, .int .u16 0]] W fun e w' => e = .returned (.bool true) ∧ Below W.heap.size W w' := by
  have h : Stm W (.slice none 0 0) (.slice none 0 0) (.slice none 0 0) ⟨[], -1, [], [], 0⟩ := ⟨Rw.nil W, Rw.nil W, Rw.nil W⟩
  have := rsame_any W h h (by decide) (by decide) (by decide)
  rw [decide_eq_true rfl] at this
  exact this
/-- A state with room, as it is when its lists are to be written over. -/
theorem ty_of {B M : Nat} {W : World} {g1 k1 g2 k2 g3 k3 : Nat} {s : Stt} {sb : Array Value} (r1 : W.ownsRow B 3 1 (.slice (some ⟨g1, 0, none⟩) (s.ind.length + 2) k1) (s.ind.length + 2) (iC s.ind ++ mI)) (r2 : W.ownsRow B 9 1 (.slice (some ⟨g2, 0, none⟩) (s.que.length + 2) k2) (s.que.length + 2) (qC s.que ++ mQ)) (r3 : W.ownsRow B 54 2 (.slice (some ⟨g3, 0, none⟩) (s.frm.length + 2) k3) (s.frm.length + 2) (fC s.frm ++ mF)) (hq : ∀ d ∈ s.que, d.size ≤ M) (hf : ∀ f ∈ s.frm, f.2.size ≤ M) : Ty B W (W.alloc (.cells sb 27)) M s.ind.length s.que.length s.frm.length g1 k1 g2 k2 g3 k3 sb :=
  ⟨heap_new W _, ⟨s.ind, rfl, row_up r1 (bel_up _ _)⟩, ⟨s.que, rfl, hq, row_up r2 (bel_up _ _)⟩, ⟨s.frm, rfl, hf, row_up r3 (bel_up _ _)⟩, (Chg.refl _ _ _ _).up (bel_up _ _)⟩
/-- And once more. -/
theorem Ty.again {B M n1 n2 n3 g1 k1 g2 k2 g3 k3 : Nat} {w W : World} {sb sb' : Array Value} (h : Ty B w W M n1 n2 n3 g1 k1 g2 k2 g3 k3 sb') : Ty B W (W.alloc (.cells sb 27)) M n1 n2 n3 g1 k1 g2 k2 g3 k3 sb := by
  obtain ⟨l1, e1, r1⟩ := h.ri
  obtain ⟨l2, e2, s2, r2⟩ := h.rq
  obtain ⟨l3, e3, s3, r3⟩ := h.rf
  exact ⟨heap_new W _, ⟨l1, e1, row_up r1 (bel_up _ _)⟩, ⟨l2, e2, s2, row_up r2 (bel_up _ _)⟩, ⟨l3, e3, s3, row_up r3 (bel_up _ _)⟩, (Chg.refl _ _ _ _).up (bel_up _ _)⟩

set_option maxRecDepth 100000 in
set_option maxHeartbeats 16000000 in
theorem stateTells_any {vi vq vf ui uq uf : Value} {s t : Stt} (k n : Int) (ended : Bool) (w : World) (h : Stm w vi vq vf s) (g : Stm w ui uq uf t) (hs0 : s.flg < 65536) (ht0 : t.flg < 65536) (hs : Sid s) (ht : Sid t) :
    Calls Try.prog 4 #[sv vi vq vf s, sv ui uq uf t, tv k n, .bool ended] w fun e w' => e = .returned (.bool true) ∧ Below w.heap.size w w' := by
  obtain ⟨a1, ac1, a2, ac2, a3, ac3, rfl, rfl, rfl⟩ := h.form
  obtain ⟨b1, bc1, b2, bc2, b3, bc3, rfl, rfl, rfl⟩ := g.form
  obtain ⟨W1, hW1⟩ : ∃ W1, W1 = ((w.alloc (.cells #[.slice a1 s.ind.length ac1, .int .i64 s.pen, .slice a2 s.que.length ac2, .slice a3 s.frm.length ac3, .int .u16 (s.flg : Int)] 27)).alloc (.cells #[.slice b1 t.ind.length bc1, .int .i64 t.pen, .slice b2 t.que.length bc2, .slice b3 t.frm.length bc3, .int .u16 (t.flg : Int)] 27)).alloc (.cells #[.int .i64 k, .int .i64 n] 38) := ⟨_, rfl⟩
  have HW : Hid (W1 = ((w.alloc (.cells #[.slice a1 s.ind.length ac1, .int .i64 s.pen, .slice a2 s.que.length ac2, .slice a3 s.frm.length ac3, .int .u16 (s.flg : Int)] 27)).alloc (.cells #[.slice b1 t.ind.length bc1, .int .i64 t.pen, .slice b2 t.que.length bc2, .slice b3 t.frm.length bc3, .int .u16 (t.flg : Int)] 27)).alloc (.cells #[.int .i64 k, .int .i64 n] 38)) := hW1
  have B1 : Hid (Below w.heap.size w W1) := by rw [hW1]; exact below_trans (below_trans (bel_up _ _) (bel_up _ _)) (bel_up _ _)
  have s1 : (w.alloc (.cells #[.slice a1 s.ind.length ac1, .int .i64 s.pen, .slice a2 s.que.length ac2, .slice a3 s.frm.length ac3, .int .u16 (s.flg : Int)] 27)).heap.size = w.heap.size + 1 := World.size_alloc _ _
  have s2 : ((w.alloc (.cells #[.slice a1 s.ind.length ac1, .int .i64 s.pen, .slice a2 s.que.length ac2, .slice a3 s.frm.length ac3, .int .u16 (s.flg : Int)] 27)).alloc (.cells #[.slice b1 t.ind.length bc1, .int .i64 t.pen, .slice b2 t.que.length bc2, .slice b3 t.frm.length bc3, .int .u16 (t.flg : Int)] 27)).heap.size = w.heap.size + 1 + 1 := by rw [World.size_alloc, s1]
  have HP1 : Hid (W1.heap[w.heap.size]? = some (.cells #[.slice a1 s.ind.length ac1, .int .i64 s.pen, .slice a2 s.que.length ac2, .slice a3 s.frm.length ac3, .int .u16 (s.flg : Int)] 27 (0, 0))) := by
    rw [hW1, (bel_up _ _).block _ (by rw [s2]; omega), (bel_up _ _).block _ (by rw [s1]; omega)]; exact heap_new w _
  have HP2 : Hid (W1.heap[w.heap.size + 1]? = some (.cells #[.slice b1 t.ind.length bc1, .int .i64 t.pen, .slice b2 t.que.length bc2, .slice b3 t.frm.length bc3, .int .u16 (t.flg : Int)] 27 (0, 0))) := by
    rw [hW1, (bel_up _ _).block _ (by rw [s2]; omega)]
    have := heap_new (w.alloc (.cells #[.slice a1 s.ind.length ac1, .int .i64 s.pen, .slice a2 s.que.length ac2, .slice a3 s.frm.length ac3, .int .u16 (s.flg : Int)] 27)) (.cells #[.slice b1 t.ind.length bc1, .int .i64 t.pen, .slice b2 t.que.length bc2, .slice b3 t.frm.length bc3, .int .u16 (t.flg : Int)] 27)
    rw [s1] at this
    exact this
  have HP3 : Hid (W1.heap[w.heap.size + 1 + 1]? = some (.cells #[.int .i64 k, .int .i64 n] 38 (0, 0))) := by
    rw [hW1]
    have := heap_new ((w.alloc (.cells #[.slice a1 s.ind.length ac1, .int .i64 s.pen, .slice a2 s.que.length ac2, .slice a3 s.frm.length ac3, .int .u16 (s.flg : Int)] 27)).alloc (.cells #[.slice b1 t.ind.length bc1, .int .i64 t.pen, .slice b2 t.que.length bc2, .slice b3 t.frm.length bc3, .int .u16 (t.flg : Int)] 27)) (.cells #[.int .i64 k, .int .i64 n] 38)
    rw [s2] at this
    exact this
  have HA : Hid (Stm W1 (.slice a1 s.ind.length ac1) (.slice a2 s.que.length ac2) (.slice a3 s.frm.length ac3) s) := h.up B1.out
  have HB : Hid (Stm W1 (.slice b1 t.ind.length bc1) (.slice b2 t.que.length bc2) (.slice b3 t.frm.length bc3) t) := g.up B1.out
  have ZS : Hid (Sid s) := hs
  have ZT : Hid (Sid t) := ht
  have HS : Hid (Sza s) := ⟨hs0, by have := hs.i; omega, by have := hs.q; omega, by have := hs.f; omega, fun d hd => by have := hs.t d hd; omega⟩
  have HT : Hid (Sza t) := ⟨ht0, by have := ht.i; omega, by have := ht.q; omega, by have := ht.f; omega, fun d hd => by have := ht.t d hd; omega⟩
  clear h g hs ht hW1 s1 s2 hs0 ht0
  go_enter Try.func4, Try.ntmps4
  go_upto_region 1 with fail
  rw [← HW.out]
  obtain ⟨p0, p1, p2, p3, p4⟩ := box_cells HP1.out
  go_wp2_with fail
  refine (roomy_any W1 HA.out ZS.out).mono ?_
  rintro e w2 ⟨zi, zq, zf, rfl, ⟨g1, k1, g2, k2, g3, k3, rfl, rfl, rfl, r1, r2, r3⟩, hb2⟩
  have HR : Hid (w2.ownsRow W1.heap.size 3 1 (.slice (some ⟨g1, 0, none⟩) (s.ind.length + 2) k1) (s.ind.length + 2) (iC s.ind ++ mI) ∧ w2.ownsRow W1.heap.size 9 1 (.slice (some ⟨g2, 0, none⟩) (s.que.length + 2) k2) (s.que.length + 2) (qC s.que ++ mQ) ∧ w2.ownsRow W1.heap.size 54 2 (.slice (some ⟨g3, 0, none⟩) (s.frm.length + 2) k3) (s.frm.length + 2) (fC s.frm ++ mF)) := ⟨r1, r2, r3⟩
  have HGB : Hid ((W1.heap.size ≤ g1 ∧ g1 < w2.heap.size) ∧ (W1.heap.size ≤ g2 ∧ g2 < w2.heap.size) ∧ (W1.heap.size ≤ g3 ∧ g3 < w2.heap.size)) := by
    obtain ⟨l1, _, q1⟩ := row_blk r1
    obtain ⟨l2, _, q2⟩ := row_blk r2
    obtain ⟨l3, _, q3⟩ := row_blk r3
    exact ⟨⟨l1, lt_of_heap q1⟩, ⟨l2, lt_of_heap q2⟩, ⟨l3, lt_of_heap q3⟩⟩
  obtain ⟨W2, hW2⟩ : ∃ W2, W2 = w2.alloc (.cells #[.slice (some ⟨g1, 0, none⟩) s.ind.length k1, .int .i64 s.pen, .slice (some ⟨g2, 0, none⟩) s.que.length k2, .slice (some ⟨g3, 0, none⟩) s.frm.length k3, .int .u16 (s.flg : Int)] 27) := ⟨_, rfl⟩
  have HW2 : Hid (W2 = w2.alloc (.cells #[.slice (some ⟨g1, 0, none⟩) s.ind.length k1, .int .i64 s.pen, .slice (some ⟨g2, 0, none⟩) s.que.length k2, .slice (some ⟨g3, 0, none⟩) s.frm.length k3, .int .u16 (s.flg : Int)] 27)) := hW2
  have B2w : Hid (Below w2.heap.size w2 W2) := by rw [hW2]; exact bel_up _ _
  have B2 : Hid (Below W1.heap.size W1 W2) := below_trans hb2 B2w.out
  have HPX : Hid (W2.heap[w2.heap.size]? = some (.cells #[.slice (some ⟨g1, 0, none⟩) s.ind.length k1, .int .i64 s.pen, .slice (some ⟨g2, 0, none⟩) s.que.length k2, .slice (some ⟨g3, 0, none⟩) s.frm.length k3, .int .u16 (s.flg : Int)] 27 (0, 0))) := by rw [hW2]; exact heap_new w2 _
  clear hW2 hb2 r1 r2 r3 p0 p1 p2 p3 p4
  go_upto_region 2 with fail
  rw [← HW2.out]
  obtain ⟨q0, q1, q2, q3, q4⟩ := box_cells (x0 := .slice b1 t.ind.length bc1) (x1 := .int .i64 t.pen) (x2 := .slice b2 t.que.length bc2) (x3 := .slice b3 t.frm.length bc3) (x4 := .int .u16 (t.flg : Int)) ((B2.out.block _ (lt_of_heap HP2.out)).trans HP2.out)
  go_wp2_with fail
  refine (roomy_any W2 (HB.out.up B2.out) ZT.out).mono ?_
  rintro e w3 ⟨zi, zq, zf, rfl, hy, hb3⟩
  obtain ⟨d1, dc1, d2, dc2, d3, dc3, rfl, rfl, rfl⟩ := hy.stm.form
  obtain ⟨W3, hW3⟩ : ∃ W3, W3 = w3.alloc (.cells #[.slice d1 t.ind.length dc1, .int .i64 t.pen, .slice d2 t.que.length dc2, .slice d3 t.frm.length dc3, .int .u16 (t.flg : Int)] 27) := ⟨_, rfl⟩
  have HW3 : Hid (W3 = w3.alloc (.cells #[.slice d1 t.ind.length dc1, .int .i64 t.pen, .slice d2 t.que.length dc2, .slice d3 t.frm.length dc3, .int .u16 (t.flg : Int)] 27)) := hW3
  have B23 : Hid (Below W2.heap.size W2 W3) := by rw [hW3]; exact below_trans hb3 (bel_up _ _)
  have B13 : Hid (Below W1.heap.size W1 W3) := below_trans B2.out B23.out
  have HPY : Hid (W3.heap[w3.heap.size]? = some (.cells #[.slice d1 t.ind.length dc1, .int .i64 t.pen, .slice d2 t.que.length dc2, .slice d3 t.frm.length dc3, .int .u16 (t.flg : Int)] 27 (0, 0))) := by rw [hW3]; exact heap_new w3 _
  have HY3 : Hid (Rmy W2.heap.size W3 (.slice d1 t.ind.length dc1) (.slice d2 t.que.length dc2) (.slice d3 t.frm.length dc3) t) := by rw [hW3]; exact hy.up (bel_up _ _)
  have HST : Hid (∀ W', Below W3.heap.size W3 W' → Rmy W1.heap.size W' (.slice (some ⟨g1, 0, none⟩) s.ind.length k1) (.slice (some ⟨g2, 0, none⟩) s.que.length k2) (.slice (some ⟨g3, 0, none⟩) s.frm.length k3) s ∧ Rmy W2.heap.size W' (.slice d1 t.ind.length dc1) (.slice d2 t.que.length dc2) (.slice d3 t.frm.length dc3) t ∧ Stm W' (.slice a1 s.ind.length ac1) (.slice a2 s.que.length ac2) (.slice a3 s.frm.length ac3) s ∧ Stm W' (.slice b1 t.ind.length bc1) (.slice b2 t.que.length bc2) (.slice b3 t.frm.length bc3) t) := fun W' hb => by
    have hb23 := below_trans B23.out hb
    have hb2 := below_trans B2w.out hb23
    exact ⟨⟨g1, k1, g2, k2, g3, k3, rfl, rfl, rfl, row_up HR.out.1 hb2, row_up HR.out.2.1 hb2, row_up HR.out.2.2 hb2⟩, HY3.out.up hb, HA.out.up (below_trans B13.out hb), HB.out.up (below_trans B13.out hb)⟩
  have HBX : Hid (∀ W', Below W3.heap.size W3 W' → W'.heap[w.heap.size]? = some (.cells #[.slice a1 s.ind.length ac1, .int .i64 s.pen, .slice a2 s.que.length ac2, .slice a3 s.frm.length ac3, .int .u16 (s.flg : Int)] 27 (0, 0)) ∧ W'.heap[w.heap.size + 1]? = some (.cells #[.slice b1 t.ind.length bc1, .int .i64 t.pen, .slice b2 t.que.length bc2, .slice b3 t.frm.length bc3, .int .u16 (t.flg : Int)] 27 (0, 0)) ∧ W'.heap[w.heap.size + 1 + 1]? = some (.cells #[.int .i64 k, .int .i64 n] 38 (0, 0)) ∧ W'.heap[w2.heap.size]? = some (.cells #[.slice (some ⟨g1, 0, none⟩) s.ind.length k1, .int .i64 s.pen, .slice (some ⟨g2, 0, none⟩) s.que.length k2, .slice (some ⟨g3, 0, none⟩) s.frm.length k3, .int .u16 (s.flg : Int)] 27 (0, 0)) ∧ W'.heap[w3.heap.size]? = some (.cells #[.slice d1 t.ind.length dc1, .int .i64 t.pen, .slice d2 t.que.length dc2, .slice d3 t.frm.length dc3, .int .u16 (t.flg : Int)] 27 (0, 0))) := fun W' hb => by
    have hb1 := below_trans B13.out hb
    have hb2 := below_trans B23.out hb
    exact ⟨(hb1.block _ (lt_of_heap HP1.out)).trans HP1.out, (hb1.block _ (lt_of_heap HP2.out)).trans HP2.out, (hb1.block _ (lt_of_heap HP3.out)).trans HP3.out, (hb2.block _ (lt_of_heap HPX.out)).trans HPX.out, (hb.block _ (lt_of_heap HPY.out)).trans HPY.out⟩
  have BW : Hid (∀ W', Below W3.heap.size W3 W' → Below w.heap.size w W') := fun W' hb => below_trans B1.out (below_trans B13.out hb)
  clear hW3 hb3 hy q0 q1 q2 q3 q4
  go_upto_region 3 with fail
  rw [← HW3.out]
  have B : Hid (Below W3.heap.size W3 W3) := Below.refl _ _
  have EN : Hid (∀ W' : World, Stm W' (.slice (some ⟨g1, 0, none⟩) s.ind.length k1) (.slice (some ⟨g2, 0, none⟩) s.que.length k2) (.slice (some ⟨g3, 0, none⟩) s.frm.length k3) s → Calls Try.prog 10 #[sv (.slice (some ⟨g1, 0, none⟩) s.ind.length k1) (.slice (some ⟨g2, 0, none⟩) s.que.length k2) (.slice (some ⟨g3, 0, none⟩) s.frm.length k3) s] W' fun e w' => e = .returned (.tuple #[.string (encX s), .int .i64 (encE s)]) ∧ Below W'.heap.size W' w') := fun W' hs => by
    have := encode_any W' hs HS.out.f
    rw [enc_tup] at this
    exact this
  generalize encX s = X at EN
  generalize encE s = E at EN
  obtain ⟨u0, u1, u2, u3, u4⟩ := box_cells (HBX.out W3 B.out).2.2.2.1
  go_wp2_with fail
  refine (EN.out W3 (HST.out W3 B.out).1.stm).mono ?_
  rintro e z3 ⟨rfl, hb⟩
  have B' : Hid (Below W3.heap.size W3 z3) := below_trans B.out hb
  clear B hb u0 u1 u2 u3 u4
  have B : Hid (Below W3.heap.size W3 z3) := B'.out
  clear B'
  obtain ⟨u0, u1, u2, u3, u4⟩ := box_cells (HBX.out z3 B.out).2.2.2.1
  go_wp2_with fail
  refine (shaped_any z3 (HST.out z3 B.out).1.stm).mono ?_
  rintro e z4 ⟨rfl, hb⟩
  have B' : Hid (Below W3.heap.size W3 z4) := below_trans B.out hb
  clear B hb u0 u1 u2 u3 u4
  have B : Hid (Below W3.heap.size W3 z4) := B'.out
  clear B'
  have RSH : Hid (∀ W' : World, Stm W' (.slice a1 s.ind.length ac1) (.slice a2 s.que.length ac2) (.slice a3 s.frm.length ac3) s → Calls Try.prog 21 #[sv (.slice a1 s.ind.length ac1) (.slice a2 s.que.length ac2) (.slice a3 s.frm.length ac3) s] W' fun e w' => e = .returned (.bool s.shp) ∧ Below W'.heap.size W' w') := fun W' hs => rshaped_any W' hs HS.out.t
  generalize s.shp = sp at RSH
  obtain ⟨u0, u1, u2, u3, u4⟩ := box_cells (HBX.out z4 B.out).2.2.2.1
  obtain ⟨v0, v1, v2, v3, v4⟩ := box_cells (HBX.out z4 B.out).2.2.2.2
  go_wp2_with fail
  refine (same_any z4 (HST.out z4 B.out).1.stm (HST.out z4 B.out).2.1.stm (by have := HS.out.i; omega) (by have := HS.out.q; omega) (by have := HS.out.r; omega)).mono ?_
  rintro e z5 ⟨rfl, hb⟩
  have B' : Hid (Below W3.heap.size W3 z5) := below_trans B.out hb
  clear B hb u0 u1 u2 u3 u4 v0 v1 v2 v3 v4
  have B : Hid (Below W3.heap.size W3 z5) := B'.out
  clear B'
  have RSA : Hid (∀ W' : World, Stm W' (.slice a1 s.ind.length ac1) (.slice a2 s.que.length ac2) (.slice a3 s.frm.length ac3) s → Stm W' (.slice b1 t.ind.length bc1) (.slice b2 t.que.length bc2) (.slice b3 t.frm.length bc3) t → Calls Try.prog 12 #[sv (.slice a1 s.ind.length ac1) (.slice a2 s.que.length ac2) (.slice a3 s.frm.length ac3) s, sv (.slice b1 t.ind.length bc1) (.slice b2 t.que.length bc2) (.slice b3 t.frm.length bc3) t] W' fun e w' => e = .returned (.bool (decide (s = t))) ∧ Below W'.heap.size W' w') := fun W' ha hb => rsame_any W' ha hb (by have := HS.out.i; omega) (by have := HS.out.q; omega) (by have := HS.out.r; omega)
  generalize decide (s = t) = sq at RSA
  obtain ⟨u0, u1, u2, u3, u4⟩ := box_cells (HBX.out z5 B.out).2.2.2.1
  have r0 := rcell (HBX.out z5 B.out).2.2.1 0 (.int .i64 k) rfl
  have r1 := rcell (HBX.out z5 B.out).2.2.1 1 (.int .i64 n) rfl
  go_wp2_with fail
  refine (holds2_any k n ended z5 (HST.out z5 B.out).1.stm HS.out.f (by have := HS.out.i; omega)).mono ?_
  rintro e z6 ⟨rfl, hb⟩
  have B' : Hid (Below W3.heap.size W3 z6) := below_trans B.out hb
  clear B hb u0 u1 u2 u3 u4 r0 r1
  have B : Hid (Below W3.heap.size W3 z6) := B'.out
  clear B'
  have RHO : Hid (∀ W' : World, Stm W' (.slice a1 s.ind.length ac1) (.slice a2 s.que.length ac2) (.slice a3 s.frm.length ac3) s → Calls Try.prog 22 #[sv (.slice a1 s.ind.length ac1) (.slice a2 s.que.length ac2) (.slice a3 s.frm.length ac3) s, tv k n, .bool ended] W' fun e w' => e = .returned (.bool (hld s k n ended)) ∧ Below W'.heap.size W' w') := fun W' ha => rholds_any k n ended W' ha HS.out.f (by have := HS.out.i; omega)
  generalize hld s k n ended = sh at RHO
  go_wp2_with fail
  refine (start_any z6).mono ?_
  rintro e z7 ⟨rfl, hb⟩
  have B' : Hid (Below W3.heap.size W3 z7) := below_trans B.out hb
  clear B hb 
  have B : Hid (Below W3.heap.size W3 z7) := B'.out
  clear B'
  obtain ⟨W4, hW4⟩ : ∃ W4, W4 = z7.alloc (.cells #[.slice none 0 0, .int .i64 (-1), .slice none 0 0, .slice none 0 0, .int .u16 0] 27) := ⟨_, rfl⟩
  have HW4 : Hid (W4 = z7.alloc (.cells #[.slice none 0 0, .int .i64 (-1), .slice none 0 0, .slice none 0 0, .int .u16 0] 27)) := hW4
  have B' : Hid (Below W3.heap.size W3 W4) := by rw [hW4]; exact below_trans B.out (bel_up _ _)
  have HPS : Hid (W4.heap[z7.heap.size]? = some (.cells #[.slice none 0 0, .int .i64 (-1), .slice none 0 0, .slice none 0 0, .int .u16 0] 27 (0, 0))) := by rw [hW4]; exact heap_new _ _
  clear B hW4
  have B : Hid (Below W3.heap.size W3 W4) := B'.out
  clear B'
  go_upto_region 8 with fail
  rw [← HW4.out]
  go_cut [15] from 34 to 36 (fun v15 wx => v15 = .bool true ∧ Hid (Below W4.heap.size W4 wx))
  case first =>
    have HPD : Hid (∀ W', Below W4.heap.size W4 W' → W'.cell? ⟨z7.heap.size, 0, none⟩ = some (.slice none 0 0) ∧ W'.cell? ⟨z7.heap.size, 1, none⟩ = some (.int .i64 (-1)) ∧ W'.cell? ⟨z7.heap.size, 2, none⟩ = some (.slice none 0 0) ∧ W'.cell? ⟨z7.heap.size, 3, none⟩ = some (.slice none 0 0) ∧ W'.cell? ⟨z7.heap.size, 4, none⟩ = some (.int .u16 0)) := fun W' hb => box_cells ((hb.block _ (lt_of_heap HPS.out)).trans HPS.out)
    refine wp_region_noPanic ?_
    refine wp_region_held_drew (S := fun W => W.cell? ⟨z7.heap.size, 0, none⟩ = some (.slice none 0 0) ∧ W.cell? ⟨z7.heap.size, 1, none⟩ = some (.int .i64 (-1)) ∧ W.cell? ⟨z7.heap.size, 2, none⟩ = some (.slice none 0 0) ∧ W.cell? ⟨z7.heap.size, 3, none⟩ = some (.slice none 0 0) ∧ W.cell? ⟨z7.heap.size, 4, none⟩ = some (.int .u16 0)) (by kernel_rfl) (HPD.out _ (Below.drew (Below.refl _ _))) (fun hHeld => ?_)
    refine wpAnyH_take (i := 0) (oi := { dst := _, op := _, type := _, pos := _, after := _, guard := _ }) (v := ?_) rfl (by kernel_rfl) (by kernel_rfl) (by kernel_rfl) (fun _ _ _ h => h) (Or.inl ⟨by rfl, ?_⟩) (by assumption) ?_
    rotate_left
    · intro W hSw
      obtain ⟨h0, h1, h2, h3, h4⟩ := hSw
      go_simp
      (try with_reducible rfl)
    try simp only [Act.put, List.setIfInBounds_toArray, List.set_cons_zero, List.set_cons_succ]
    refine wpAnyH_ready (rs := [1]) (by kernel_rfl) (by simp) ?_
    refine AllReadyH.cons (o := { dst := _, op := _, type := _, pos := _, after := _, guard := _ }) rfl (fun K hK => ?_) AllReadyH.nil
    go_simp
    refine (rstart_any _).mono ?_
    rintro e y1 ⟨rfl, hb⟩
    have Y1 : Hid (Below W4.heap.size W4 y1) := below_trans (Below.drew (Below.refl _ _)) hb
    clear hb
    go_wp2_with fail
    refine hK.out _ _ ?_ (fun hHeld => ?_)
    · (try dsimp only)
      exact HPD.out _ Y1.out
    clear hK K
    try simp only [Act.put, List.setIfInBounds_toArray, List.set_cons_zero, List.set_cons_succ]
    refine wpAnyH_ready (rs := [2]) (by kernel_rfl) (by simp) ?_
    refine AllReadyH.cons (o := { dst := _, op := _, type := _, pos := _, after := _, guard := _ }) rfl (fun K hK => ?_) AllReadyH.nil
    go_simp
    refine (rsame_start _).mono ?_
    rintro e y2 ⟨rfl, hb⟩
    have Y2 : Hid (Below W4.heap.size W4 y2) := below_trans Y1.out hb
    clear hb
    go_wp2_with fail
    refine hK.out _ _ ?_ (fun hHeld => ?_)
    · (try dsimp only)
      exact HPD.out _ Y2.out
    clear hK K
    try simp only [Act.put, List.setIfInBounds_toArray, List.set_cons_zero, List.set_cons_succ]
    refine wpAnyH_take (i := 3) (oi := { dst := _, op := _, type := _, pos := _, after := _, guard := _ }) (v := ?_) rfl (by kernel_rfl) (by kernel_rfl) (by kernel_rfl) (fun _ _ _ h => h) (Or.inl ⟨by rfl, ?_⟩) (by assumption) ?_
    rotate_left
    · intro W hSw
      obtain ⟨h0, h1, h2, h3, h4⟩ := hSw
      go_simp
      (try with_reducible rfl)
    try simp only [Act.put, List.setIfInBounds_toArray, List.set_cons_zero, List.set_cons_succ]
    refine wpAnyH_done (by kernel_rfl) ?_ _
    refine NoPanic.normal ?_
    clear hHeld
    go_wp2_with fail
    go_meet
    exact ⟨rfl, Y2⟩
  case rest =>
  obtain ⟨rfl, hbc⟩ := hcut
  have B' : Hid (Below W3.heap.size W3 wc) := below_trans B.out hbc.out
  clear B hbc HPS
  have B : Hid (Below W3.heap.size W3 wc) := B'.out
  clear B'
  obtain ⟨u0, u1, u2, u3, u4⟩ := box_cells (HBX.out wc B.out).2.2.2.1
  obtain ⟨p0, p1, p2, p3, p4⟩ := box_cells (HBX.out wc B.out).1
  go_wp2_with fail
  refine (rsame_any wc (HST.out wc B.out).1.stm (HST.out wc B.out).2.2.1 (by have := HS.out.i; omega) (by have := HS.out.q; omega) (by have := HS.out.r; omega)).mono ?_
  rintro e z8 ⟨rfl, hb⟩
  have B' : Hid (Below W3.heap.size W3 z8) := below_trans B.out hb
  clear B hb u0 u1 u2 u3 u4 p0 p1 p2 p3 p4
  have B : Hid (Below W3.heap.size W3 z8) := B'.out
  clear B'
  rw [decide_eq_true (rfl : s = s)]
  obtain ⟨v0, v1, v2, v3, v4⟩ := box_cells (HBX.out z8 B.out).2.2.2.2
  obtain ⟨q0, q1, q2, q3, q4⟩ := box_cells (HBX.out z8 B.out).2.1
  go_wp2_with fail
  refine (rsame_any z8 (HST.out z8 B.out).2.1.stm (HST.out z8 B.out).2.2.2 (by have := HT.out.i; omega) (by have := HT.out.q; omega) (by have := HT.out.r; omega)).mono ?_
  rintro e z9 ⟨rfl, hb⟩
  have B' : Hid (Below W3.heap.size W3 z9) := below_trans B.out hb
  clear B hb v0 v1 v2 v3 v4 q0 q1 q2 q3 q4
  have B : Hid (Below W3.heap.size W3 z9) := B'.out
  clear B'
  rw [decide_eq_true (rfl : t = t)]
  obtain ⟨p0, p1, p2, p3, p4⟩ := box_cells (HBX.out z9 B.out).1
  go_wp2_with fail
  refine (RSH.out z9 (HST.out z9 B.out).2.2.1).mono ?_
  rintro e z10 ⟨rfl, hb⟩
  have B' : Hid (Below W3.heap.size W3 z10) := below_trans B.out hb
  clear B hb p0 p1 p2 p3 p4
  have B : Hid (Below W3.heap.size W3 z10) := B'.out
  clear B'
  obtain ⟨p0, p1, p2, p3, p4⟩ := box_cells (HBX.out z10 B.out).1
  obtain ⟨q0, q1, q2, q3, q4⟩ := box_cells (HBX.out z10 B.out).2.1
  go_wp2_with fail
  refine (RSA.out z10 (HST.out z10 B.out).2.2.1 (HST.out z10 B.out).2.2.2).mono ?_
  rintro e z11 ⟨rfl, hb⟩
  have B' : Hid (Below W3.heap.size W3 z11) := below_trans B.out hb
  clear B hb p0 p1 p2 p3 p4 q0 q1 q2 q3 q4
  have B : Hid (Below W3.heap.size W3 z11) := B'.out
  clear B'
  obtain ⟨p0, p1, p2, p3, p4⟩ := box_cells (HBX.out z11 B.out).1
  have r0 := rcell (HBX.out z11 B.out).2.2.1 0 (.int .i64 k) rfl
  have r1 := rcell (HBX.out z11 B.out).2.2.1 1 (.int .i64 n) rfl
  go_wp2_with fail
  refine (RHO.out z11 (HST.out z11 B.out).2.2.1).mono ?_
  rintro e z12 ⟨rfl, hb⟩
  have B' : Hid (Below W3.heap.size W3 z12) := below_trans B.out hb
  clear B hb p0 p1 p2 p3 p4 r0 r1
  have B : Hid (Below W3.heap.size W3 z12) := B'.out
  clear B'
  obtain ⟨u0, u1, u2, u3, u4⟩ := box_cells (HBX.out z12 B.out).2.2.2.1
  go_wp2_with fail
  refine (rooms_sza z12 (HST.out z12 B.out).1 HS.out).mono ?_
  rintro e z13 ⟨rfl, hb⟩
  have B' : Hid (Below W3.heap.size W3 z13) := below_trans B.out hb
  clear B hb u0 u1 u2 u3 u4
  have B : Hid (Below W3.heap.size W3 z13) := B'.out
  clear B'
  obtain ⟨v0, v1, v2, v3, v4⟩ := box_cells (HBX.out z13 B.out).2.2.2.2
  go_wp2_with fail
  refine (rooms_sza z13 (HST.out z13 B.out).2.1 HT.out).mono ?_
  rintro e z14 ⟨rfl, hb⟩
  have B' : Hid (Below W3.heap.size W3 z14) := below_trans B.out hb
  clear B hb v0 v1 v2 v3 v4
  have B : Hid (Below W3.heap.size W3 z14) := B'.out
  clear B'
  obtain ⟨u0, u1, u2, u3, u4⟩ := box_cells (HBX.out z14 B.out).2.2.2.1
  go_wp2_with fail
  have HTU : Hid _ := turnx_any (pn := s.pen) (fl := s.flg) z14 (ty_of (M := 140737488351232) (row_up HR.out.1 (below_trans B2w.out (below_trans B23.out B.out))) (row_up HR.out.2.1 (below_trans B2w.out (below_trans B23.out B.out))) (row_up HR.out.2.2 (below_trans B2w.out (below_trans B23.out B.out))) ZS.out.t ZS.out.u) HS.out.i HS.out.q HS.out.r (by
    have h1 := HGB.out
    have h2 := (below_trans B2w.out (below_trans B23.out B.out)).size
    omega)
  refine Calls.mono HTU.out ?_
  rintro e y5 ⟨⟨rv, rfl⟩, hty⟩
  have HTY : Hid (Ty W1.heap.size z14 y5 140737488351232 s.ind.length s.que.length s.frm.length g1 k1 g2 k2 g3 k3 #[.slice (some ⟨g1, 0, none⟩) s.ind.length k1, .int .i64 s.pen, .slice (some ⟨g2, 0, none⟩) s.que.length k2, .slice (some ⟨g3, 0, none⟩) s.frm.length k3, .int .u16 (s.flg : Int)]) := hty
  clear hty HTU u0 u1 u2 u3 u4
  have HBY : Hid (y5.heap[w.heap.size + 1 + 1]? = some (.cells #[.int .i64 k, .int .i64 n] 38 (0, 0)) ∧ y5.heap[w2.heap.size]? = some (.cells #[.slice (some ⟨g1, 0, none⟩) s.ind.length k1, .int .i64 s.pen, .slice (some ⟨g2, 0, none⟩) s.que.length k2, .slice (some ⟨g3, 0, none⟩) s.frm.length k3, .int .u16 (s.flg : Int)] 27 (0, 0)) ∧ y5.heap[w3.heap.size]? = some (.cells #[.slice d1 t.ind.length dc1, .int .i64 t.pen, .slice d2 t.que.length dc2, .slice d3 t.frm.length dc3, .int .u16 (t.flg : Int)] 27 (0, 0)) ∧ Rmy W2.heap.size y5 (.slice d1 t.ind.length dc1) (.slice d2 t.que.length dc2) (.slice d3 t.frm.length dc3) t ∧ Below w.heap.size w y5 ∧ w2.heap.size < y5.heap.size) := by
    have hb2 := below_trans B2w.out (below_trans B23.out B.out)
    have r1 := row_up HR.out.1 hb2
    have r2 := row_up HR.out.2.1 hb2
    have r3 := row_up HR.out.2.2 hb2
    obtain ⟨l1, c1, q1⟩ := row_blk r1
    obtain ⟨l2, c2, q2⟩ := row_blk r2
    obtain ⟨l3, c3, q3⟩ := row_blk r3
    have kp : ∀ (b : Nat) (cs : Array Value) (ty : TypeId), ty ≠ 3 → ty ≠ 9 → ty ≠ 54 → z14.heap[b]? = some (.cells cs ty (0, 0)) → y5.heap[b]? = some (.cells cs ty (0, 0)) := fun b cs ty t1 t2 t3 hb => by
      rw [HTY.out.ch.block b (lt_of_heap hb) (fun e => by subst e; rw [hb] at q1; cases q1; exact t1 rfl) (fun e => by subst e; rw [hb] at q2; cases q2; exact t2 rfl) (fun e => by subst e; rw [hb] at q3; cases q3; exact t3 rfl)]
      exact hb
    obtain ⟨-, -, b3, b4, b5⟩ := HBX.out z14 B.out
    have hsz := B2w.out.size
    refine ⟨kp _ _ _ (by decide) (by decide) (by decide) b3, kp _ _ _ (by decide) (by decide) (by decide) b4, kp _ _ _ (by decide) (by decide) (by decide) b5, (HST.out z14 B.out).2.1.chg HTY.out.ch (by have := HGB.out; omega) (by have := HGB.out; omega) (by have := HGB.out; omega), ?_, ?_⟩
    · exact (BW.out _ B.out).trans (HTY.out.ch.below (BW.out _ B.out).size (Nat.le_trans B1.out.size l1) (Nat.le_trans B1.out.size l2) (Nat.le_trans B1.out.size l3))
    · exact Nat.lt_of_lt_of_le (lt_of_heap b4) HTY.out.ch.size
  obtain ⟨s', t1, t2, t3, t4, t5, t6, t7, trm⟩ := HTY.out.stt s.pen s.flg
  have HS' : Hid (Sza s') := ⟨by rw [t5]; exact HS.out.f, by rw [t1]; exact HS.out.i, by rw [t2]; exact HS.out.q, by rw [t3]; exact HS.out.r, fun d hd => by have := t6 d hd; omega⟩
  have RT1 : Hid _ := retold_any k n ended y5 trm HBY.out.2.2.2.1 HS'.out HT.out
  simp only [sv, t4, t5] at RT1
  clear t1 t2 t3 t4 t5 t6 t7 trm
  have r0 := rcell HBY.out.1 0 (.int .i64 k) rfl
  have r1 := rcell HBY.out.1 1 (.int .i64 n) rfl
  obtain ⟨u0, u1, u2, u3, u4⟩ := box_cells HBY.out.2.1
  obtain ⟨v0, v1, v2, v3, v4⟩ := box_cells HBY.out.2.2.1
  go_wp2_with fail
  refine Calls.mono RT1.out ?_
  rintro e y6 ⟨rfl, hb⟩
  have B56 : Hid (Below y5.heap.size y5 y6) := hb
  clear hb r0 r1 u0 u1 u2 u3 u4 v0 v1 v2 v3 v4 RT1 HS'
  have HBZ : Hid (y6.heap[w.heap.size + 1 + 1]? = some (.cells #[.int .i64 k, .int .i64 n] 38 (0, 0)) ∧ y6.heap[w2.heap.size]? = some (.cells #[.slice (some ⟨g1, 0, none⟩) s.ind.length k1, .int .i64 s.pen, .slice (some ⟨g2, 0, none⟩) s.que.length k2, .slice (some ⟨g3, 0, none⟩) s.frm.length k3, .int .u16 (s.flg : Int)] 27 (0, 0)) ∧ y6.heap[w3.heap.size]? = some (.cells #[.slice d1 t.ind.length dc1, .int .i64 t.pen, .slice d2 t.que.length dc2, .slice d3 t.frm.length dc3, .int .u16 (t.flg : Int)] 27 (0, 0)) ∧ Rmy W2.heap.size y6 (.slice d1 t.ind.length dc1) (.slice d2 t.que.length dc2) (.slice d3 t.frm.length dc3) t ∧ Below w.heap.size w y6) := by
    obtain ⟨b1, b2, b3, b4, b5, -⟩ := HBY.out
    exact ⟨(B56.out.block _ (lt_of_heap b1)).trans b1, (B56.out.block _ (lt_of_heap b2)).trans b2, (B56.out.block _ (lt_of_heap b3)).trans b3, b4.up B56.out, below_trans b5 B56.out⟩
  obtain ⟨u0, u1, u2, u3, u4⟩ := box_cells HBZ.out.2.1
  go_wp2_with fail
  have HWI : Hid _ := wider_any (pn := s.pen) (fl := (s.flg : Int)) y6 (HTY.out.up B56.out).again (by have := HS.out.i; omega) (by have := HS.out.q; omega) (by have := HS.out.r; omega) (by omega)
  refine Calls.mono HWI.out ?_
  rintro e y7 ⟨⟨rv2, rfl⟩, hty⟩
  have HTZ : Hid (Ty W1.heap.size y6 y7 (140737488351232 + s.que.length + s.frm.length) s.ind.length s.que.length s.frm.length g1 k1 g2 k2 g3 k3 #[.slice (some ⟨g1, 0, none⟩) s.ind.length k1, .int .i64 s.pen, .slice (some ⟨g2, 0, none⟩) s.que.length k2, .slice (some ⟨g3, 0, none⟩) s.frm.length k3, .int .u16 (s.flg : Int)]) := hty
  clear hty HWI u0 u1 u2 u3 u4
  have HBV : Hid (y7.heap[w.heap.size + 1 + 1]? = some (.cells #[.int .i64 k, .int .i64 n] 38 (0, 0)) ∧ y7.heap[w2.heap.size]? = some (.cells #[.slice (some ⟨g1, 0, none⟩) s.ind.length k1, .int .i64 s.pen, .slice (some ⟨g2, 0, none⟩) s.que.length k2, .slice (some ⟨g3, 0, none⟩) s.frm.length k3, .int .u16 (s.flg : Int)] 27 (0, 0)) ∧ y7.heap[w3.heap.size]? = some (.cells #[.slice d1 t.ind.length dc1, .int .i64 t.pen, .slice d2 t.que.length dc2, .slice d3 t.frm.length dc3, .int .u16 (t.flg : Int)] 27 (0, 0)) ∧ Rmy W2.heap.size y7 (.slice d1 t.ind.length dc1) (.slice d2 t.que.length dc2) (.slice d3 t.frm.length dc3) t ∧ Below w.heap.size w y7) := by
    obtain ⟨_, _, r1⟩ := (HTY.out.up B56.out).ri
    obtain ⟨_, _, _, r2⟩ := (HTY.out.up B56.out).rq
    obtain ⟨_, _, _, r3⟩ := (HTY.out.up B56.out).rf
    obtain ⟨l1, c1, q1⟩ := row_blk r1
    obtain ⟨l2, c2, q2⟩ := row_blk r2
    obtain ⟨l3, c3, q3⟩ := row_blk r3
    have kp : ∀ (b : Nat) (cs : Array Value) (ty : TypeId), ty ≠ 3 → ty ≠ 9 → ty ≠ 54 → y6.heap[b]? = some (.cells cs ty (0, 0)) → y7.heap[b]? = some (.cells cs ty (0, 0)) := fun b cs ty t1 t2 t3 hb => by
      rw [HTZ.out.ch.block b (lt_of_heap hb) (fun e => by subst e; rw [hb] at q1; cases q1; exact t1 rfl) (fun e => by subst e; rw [hb] at q2; cases q2; exact t2 rfl) (fun e => by subst e; rw [hb] at q3; cases q3; exact t3 rfl)]
      exact hb
    obtain ⟨b3, b4, b5, b6, b7⟩ := HBZ.out
    have hsz := B2w.out.size
    refine ⟨kp _ _ _ (by decide) (by decide) (by decide) b3, kp _ _ _ (by decide) (by decide) (by decide) b4, kp _ _ _ (by decide) (by decide) (by decide) b5, b6.chg HTZ.out.ch (by have := HGB.out; omega) (by have := HGB.out; omega) (by have := HGB.out; omega), ?_⟩
    exact b7.trans (HTZ.out.ch.below b7.size (Nat.le_trans B1.out.size l1) (Nat.le_trans B1.out.size l2) (Nat.le_trans B1.out.size l3))
  obtain ⟨s', t1, t2, t3, t4, t5, t6, t7, trm⟩ := HTZ.out.stt s.pen s.flg
  have HS' : Hid (Sza s') := ⟨by rw [t5]; exact HS.out.f, by rw [t1]; exact HS.out.i, by rw [t2]; exact HS.out.q, by rw [t3]; exact HS.out.r, fun d hd => by have := t6 d hd; have := HS.out.q; have := HS.out.r; omega⟩
  have RT1 : Hid _ := retold_any k n ended y7 trm HBV.out.2.2.2.1 HS'.out HT.out
  simp only [sv, t4, t5] at RT1
  clear t1 t2 t3 t4 t5 t6 t7 trm
  have r0 := rcell HBV.out.1 0 (.int .i64 k) rfl
  have r1 := rcell HBV.out.1 1 (.int .i64 n) rfl
  obtain ⟨u0, u1, u2, u3, u4⟩ := box_cells HBV.out.2.1
  obtain ⟨v0, v1, v2, v3, v4⟩ := box_cells HBV.out.2.2.1
  go_wp2_with fail
  refine Calls.mono RT1.out ?_
  rintro e y8 ⟨rfl, hb⟩
  have B78 : Hid (Below y7.heap.size y7 y8) := hb
  clear hb r0 r1 u0 u1 u2 u3 u4 v0 v1 v2 v3 v4 RT1 HS'
  go_wp2_with fail
  go_ret
  exact ⟨rfl, below_trans HBV.out.2.2.2.2 B78.out⟩
end Go.Proofs.Ytkaciochlemjiaa
