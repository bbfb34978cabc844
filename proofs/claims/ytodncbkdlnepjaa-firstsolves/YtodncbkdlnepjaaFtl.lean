import Derived.Test.YtodncbkdlnepjaaFtd
namespace Go.Proofs.Ytodncbkdlnepjaa
open Go.RowKit Go.Maps

/-- A row of the call's own, with something behind it. -/
def Lh (B : Nat) (W : World) (v : Value) (l : List Rf) : Prop := ∃ g cap ext, v = .slice (some ⟨g, 0, none⟩) l.length cap ∧ W.ownsRow B 32 3 (.slice (some ⟨g, 0, none⟩) (l.length + List.length ext) cap) (l.length + List.length ext) (flat rf (l ++ ext))
theorem Lr.lh {B : Nat} {W : World} {v : Value} {l : List Rf} (h : Lr B W v l) : Lh B W v l := by
  obtain ⟨g, cap, e, ho⟩ := h
  exact ⟨g, cap, rmk 20, e, by rw [rmk_len]; exact ho⟩
theorem Lh.rw {B : Nat} {W : World} {v : Value} {l : List Rf} (h : Lh B W v l) : Rw W v l.length (flat rf l) := by
  obtain ⟨g, cap, ext, rfl, ho⟩ := h
  have := row_low ho (n := l.length) (by omega)
  rw [flat_take rf_len] at this
  exact row_rw this (by decide)
theorem Lh.up {B : Nat} {W W' : World} {v : Value} {l : List Rf} (h : Lh B W v l) (hb : Below W.heap.size W W') : Lh B W' v l := by
  obtain ⟨g, cap, ext, e, ho⟩ := h
  exact ⟨g, cap, ext, e, row_up ho hb⟩
theorem Lh.off {B b k : Nat} {W : World} {v u : Value} {l : List Rf} {cs : Array Value} {t : TypeId} (h : Lh B W v l) (hb : W.heap[b]? = some (.cells cs t (0, 0))) (ht : 32 ≠ t) : Lh B (W.setCell ⟨b, k, none⟩ u) v l := by
  obtain ⟨g, cap, ext, e, ho⟩ := h
  exact ⟨g, cap, ext, e, (row_off hb ho ht).1⟩
theorem Lh.half {B : Nat} {W : World} {g cap : Nat} {l : List Rf} (h : Lh B W (.slice (some ⟨g, 0, none⟩) l.length cap) l) : Lh B W (.slice (some ⟨g, 0, none⟩) (l.length / 2) cap) (l.take (l.length / 2)) := by
  obtain ⟨g', cap', ext, e, ho⟩ := h
  cases e
  have hl : (l.take (l.length / 2)).length = l.length / 2 := by rw [List.length_take]; omega
  have he : l.take (l.length / 2) ++ (l.drop (l.length / 2) ++ ext) = l ++ ext := by rw [← List.append_assoc, List.take_append_drop]
  have hs : (l.take (l.length / 2)).length + (l.drop (l.length / 2) ++ ext).length = l.length + ext.length := by rw [← List.length_append, he, List.length_append]
  exact ⟨g, cap, l.drop (l.length / 2) ++ ext, by rw [hl], by rw [hs, he]; exact ho⟩
theorem rf_set (x : Rf) : ∀ (L : List Rf) (i : Nat), i < L.length → (((flat rf L).set (i * 3) (.int .i64 x.1)).set (i * 3 + 1) (.string x.2.1)).set (i * 3 + 2) (.string x.2.2) = flat rf (L.set i x)
  | [], _, h => by cases h
  | y :: L, 0, _ => rfl
  | y :: L, i + 1, h => by
    have := rf_set x L i (by simpa using h)
    show (((_ :: _ :: _ :: flat rf L).set ((i + 1) * 3) _).set ((i + 1) * 3 + 1) _).set ((i + 1) * 3 + 2) _ = _ :: _ :: _ :: flat rf (L.set i x)
    rw [show (i + 1) * 3 = i * 3 + 1 + 1 + 1 from by omega, show i * 3 + 1 + 1 + 1 + 1 = (i * 3 + 1) + 1 + 1 + 1 from by omega, show i * 3 + 1 + 1 + 1 + 2 = (i * 3 + 2) + 1 + 1 + 1 from by omega]
    simp only [List.set_cons_succ]
    rw [this]
theorem Lr.put {B : Nat} {W : World} {g cap : Nat} {l : List Rf} (h : Lr B W (.slice (some ⟨g, 0, none⟩) l.length cap) l) (x : Rf) (i : Nat) (hi : i < l.length) : Lr B (((W.setCell ⟨g, i * 3, none⟩ (.int .i64 x.1)).setCell ⟨g, i * 3 + 1, none⟩ (.string x.2.1)).setCell ⟨g, i * 3 + 2, none⟩ (.string x.2.2)) (.slice (some ⟨g, 0, none⟩) l.length cap) (l.set i x) := by
  obtain ⟨g', cap', e, ho⟩ := h
  cases e
  have h1 := row_set (row_set (row_set ho (i * 3) (.int .i64 x.1)) (i * 3 + 1) (.string x.2.1)) (i * 3 + 2) (.string x.2.2)
  rw [rf_set x _ i (by rw [List.length_append]; omega), set_app_left _ _ _ _ hi] at h1
  exact ⟨g, cap, by rw [List.length_set], by rw [List.length_set]; exact h1⟩
theorem Lr.cells {B : Nat} {W : World} {g cap : Nat} {l : List Rf} (h : Lr B W (.slice (some ⟨g, 0, none⟩) l.length cap) l) : B ≤ g ∧ (∃ cur, W.heap[g]? = some (.cells cur 32 (0, 0))) ∧ ∀ i, i < l.length → W.cell? ⟨g, i * 3, none⟩ = some (.int .i64 (l.getD i rfd).1) ∧ W.cell? ⟨g, i * 3 + 1, none⟩ = some (.string (l.getD i rfd).2.1) ∧ W.cell? ⟨g, i * 3 + 2, none⟩ = some (.string (l.getD i rfd).2.2) := by
  obtain ⟨g', cap', e, ho⟩ := h
  cases e
  obtain ⟨h1, h2⟩ := row_tag ho g rfl
  refine ⟨h1, h2, fun i hi => ?_⟩
  obtain ⟨q0, q1, q2⟩ := rf_get (l ++ rmk 20) i (by rw [List.length_append]; omega)
  rw [getD_left _ _ _ _ hi] at q0 q1 q2
  exact ⟨row_at ho _ _ q0, row_at ho _ _ q1, row_at ho _ _ q2⟩
/-- A grammar whose productions are being cut. -/
structure Gh (B : Nat) (W : World) (g cap : Nat) (P : List Pd) : Prop where
  p : W.ownsRow B 53 2 (.slice (some ⟨g, 0, none⟩) (P.length + 20) cap) (P.length + 20) (flat pf (P ++ pmk 20))
  r : ∀ x ∈ P, Lh B W x.2.1 x.2.2
theorem Gh.up {B : Nat} {W W' : World} {g cap : Nat} {P : List Pd} (h : Gh B W g cap P) (hb : Below W.heap.size W W') : Gh B W' g cap P := ⟨row_up h.p hb, fun x hx => (h.r x hx).up hb⟩
theorem Gh.rw {B : Nat} {W : World} {g cap : Nat} {P : List Pd} (h : Gh B W g cap P) : Rw W (.slice (some ⟨g, 0, none⟩) P.length cap) P.length (flat pf P) := by
  have e2 := row_low h.p (n := P.length) (by omega)
  rw [flat_take pf_len] at e2
  exact row_rw e2 (by decide)
theorem Gh.cut {B : Nat} {W : World} {g cap : Nat} {P : List Pd} (h : Gh B W g cap P) (i : Nat) (hi : i < P.length) (v : Value) (l : List Rf) (hv : Lh B W v l) : Gh B (W.setCell ⟨g, i * 2 + 1, none⟩ v) g cap (P.set i ((P.getD i pfd).1, v, l)) := by
  obtain ⟨_, cur, hcur⟩ := row_tag h.p g rfl
  have h1 := row_set h.p (i * 2 + 1) v
  rw [pf_set v l _ i (by rw [List.length_append]; omega), getD_left _ _ _ _ hi, set_app_left _ _ _ _ hi] at h1
  refine ⟨by rw [List.length_set]; exact h1, fun x hx => ?_⟩
  rcases List.mem_or_eq_of_mem_set hx with hx | rfl
  · exact (h.r x hx).off hcur (by decide)
  · exact hv.off hcur (by decide)
theorem div2_wrap (n : Nat) (h : n ≤ 4611686018427387904) : IntKind.i64.wrap ((n : Int) / 2) = ((n / 2 : Nat) : Int) := by rw [IntKind.wrap_i64]; omega

set_option maxRecDepth 100000 in
set_option maxHeartbeats 16000000 in
theorem firstOf_any {v0 v1 v2 v : Value} {Te : List Td} {Sy : List Sd} {P : List Pd} {l : List Rf} {bh : Nat} (w : World) (h : Gx w v0 v1 v2 Te Sy P) (hs : Gs Te Sy P) (hr : Rw w v l.length (flat rf l)) (hl : l.length * 40 + 4096 ≤ 140737488355328) (hbh : bh < 2 ^ 64) :
    Calls Try.prog 6 #[.agg #[v0, v1, v2], v, .int .u64 (bh : Int)] w fun e w' => e = .returned (.bool true) ∧ Below w.heap.size w w' := by
  have HG : Hid (Gx w v0 v1 v2 Te Sy P) := h
  have HS : Hid (Gs Te Sy P) := hs
  have HV : Hid (Rw w v l.length (flat rf l)) := hr
  have HL : Hid (l.length * 40 + 4096 ≤ 140737488355328) := hl
  have HBH : Hid (bh < 2 ^ 64) := hbh
  obtain ⟨a0, c0, a1, c1, a2, c2, rfl, rfl, rfl⟩ := h.g.form
  obtain ⟨xa, ca, rfl⟩ := hr.form
  clear h hs hr hl hbh
  obtain ⟨nT, hnT⟩ : ∃ n, Te.length = n := ⟨_, rfl⟩
  have HNT : Hid (Te.length = nT) := hnT
  obtain ⟨nS, hnS⟩ : ∃ n, Sy.length = n := ⟨_, rfl⟩
  have HNS : Hid (Sy.length = nS) := hnS
  obtain ⟨n, hnn⟩ : ∃ n, P.length = n := ⟨_, rfl⟩
  have HNN : Hid (P.length = n) := hnn
  rw [hnT, hnS, hnn] at HG ⊢
  clear hnT hnS hnn
  obtain ⟨na, hna⟩ : ∃ n, l.length = n := ⟨_, rfl⟩
  have HNA : Hid (l.length = na) := hna
  rw [hna] at HV ⊢
  clear hna
  obtain ⟨W1, hW1⟩ : ∃ W1, W1 = w.alloc (.cells #[.slice a0 nT c0, .slice a1 nS c1, .slice a2 n c2] 26) := ⟨_, rfl⟩
  have HX1 : Hid (W1.heap[w.heap.size]? = some (.cells #[.slice a0 nT c0, .slice a1 nS c1, .slice a2 n c2] 26 (0, 0))) := by rw [hW1]; exact heap_new w _
  have B1 : Hid (Below w.heap.size w W1) := by rw [hW1]; exact bel_up _ _
  go_enter Try.func6, Try.ntmps6
  go_upto_region 1 with fail
  rw [← hW1]
  clear hW1
  obtain ⟨gb, hgb⟩ : ∃ gb, w.heap.size = gb := ⟨_, rfl⟩
  have HGB : Hid (w.heap.size = gb) := hgb
  rw [hgb] at HX1 ⊢
  clear hgb
  have HCC : Hid (∀ W, Below W1.heap.size W1 W → W.cell? ⟨gb, 0, none⟩ = some (.slice a0 nT c0) ∧ W.cell? ⟨gb, 1, none⟩ = some (.slice a1 nS c1) ∧ W.cell? ⟨gb, 2, none⟩ = some (.slice a2 n c2)) := fun W hW => ⟨below_cell hW (rcell HX1.out 0 _ rfl), below_cell hW (rcell HX1.out 1 _ rfl), below_cell hW (rcell HX1.out 2 _ rfl)⟩
  obtain ⟨p0, p1, p2⟩ := HCC.out W1 (Below.refl _ _)
  go_upto_region 2 with (go_at_call 16; refine (twin_any W1 (HG.out.up B1.out) HS.out).mono ?_; rintro e W2 ⟨u0, u1, u2, Q, rfl, hw2, hq2, hb2⟩; have B2 : Hid (Below W1.heap.size W1 W2) := hb2; have HQP : Hid (Q.map pd2 = P.map pd2) := hq2; have GQ : Hid (Gx W2 u0 u1 u2 Te Sy Q) := hw2.gx; obtain ⟨x0, s0, rfl⟩ := row_shape hw2.t; obtain ⟨x1, s1, rfl⟩ := row_shape hw2.s; obtain ⟨x2, s2, rfl⟩ := row_shape hw2.p; clear hw2 hq2 hb2)
  clear p0 p1 p2
  have hql : Q.length = n := by have h9 := congrArg List.length HQP.out; rw [List.length_map, List.length_map] at h9; rw [h9]; exact HNN.out
  rw [HNT.out, HNS.out, hql] at GQ ⊢
  clear hql
  obtain ⟨W3, hW3⟩ : ∃ W3, W3 = W2.alloc (.cells #[.slice x0 nT s0, .slice x1 nS s1, .slice x2 n s2] 26) := ⟨_, rfl⟩
  rw [← hW3]
  have B3 : Hid (Below W2.heap.size W2 W3) := by rw [hW3]; exact bel_up _ _
  have HX3 : Hid (W3.heap[W2.heap.size]? = some (.cells #[.slice x0 nT s0, .slice x1 nS s1, .slice x2 n s2] 26 (0, 0))) := by rw [hW3]; exact heap_new _ _
  clear hW3
  obtain ⟨ub, hub⟩ : ∃ ub, W2.heap.size = ub := ⟨_, rfl⟩
  rw [hub] at HX3 ⊢
  clear hub
  have HCU : Hid (∀ W, Below W3.heap.size W3 W → W.cell? ⟨ub, 0, none⟩ = some (.slice x0 nT s0) ∧ W.cell? ⟨ub, 1, none⟩ = some (.slice x1 nS s1) ∧ W.cell? ⟨ub, 2, none⟩ = some (.slice x2 n s2)) := fun W hW => ⟨below_cell hW (rcell HX3.out 0 _ rfl), below_cell hW (rcell HX3.out 1 _ rfl), below_cell hW (rcell HX3.out 2 _ rfl)⟩
  have GQ3 : Hid (Gx W3 (.slice x0 nT s0) (.slice x1 nS s1) (.slice x2 n s2) Te Sy Q) := GQ.out.up B3.out
  have B13 : Hid (Below W1.heap.size W1 W3) := below_trans B2.out B3.out
  have B03 : Hid (Below w.heap.size w W3) := below_trans B1.out B13.out
  clear B2 B3 GQ
  have HSQ : Hid (Gs Te Sy Q) := HS.out.pd2 HQP.out
  have HV3 : Hid (Rw W3 (.slice xa na ca) l.length (flat rf l)) := by rw [HNA.out]; exact HV.out.up B03.out
  go_upto_region 3 with (go_at_call 17; refine (twinRow_any W3 HV3.out (by have := HL.out; omega)).mono ?_; rintro e W4 ⟨rv, rfl, ho4, hb4⟩; have B4 : Hid (Below W3.heap.size W3 W4) := hb4; have HR4 : Hid (Rw W4 rv l.length (flat rf l)) := row_rw ho4 (by decide); obtain ⟨ra, rc, rfl⟩ := row_shape ho4; clear ho4 hb4)
  rw [HNA.out] at HR4 ⊢
  have HR4' : Hid (Rw W4 (.slice ra na rc) l.length (flat rf l)) := by rw [HNA.out]; exact HR4.out
  obtain ⟨p0, p1, p2⟩ := HCU.out W4 B4.out
  have GQ4 : Hid (Gm W4 (.slice x0 nT s0) (.slice x1 nS s1) (.slice x2 n s2) nT nS Q) := by have h9 := (GQ3.out.up B4.out).g; rw [HNT.out, HNS.out] at h9; exact h9
  have HZQ : Hid (Gz nT nS Q) := by have h9 := HSQ.out.gz; rw [HNT.out, HNS.out] at h9; exact h9
  go_upto_region 4 with (go_at_call 18; refine (rof_any W4 GQ4.out HZQ.out HR4'.out (by have := HL.out; omega) HBH.out).mono ?_; rintro e W5 ⟨rfl, hb5⟩; have B5 : Hid (Below W4.heap.size W4 W5) := hb5; clear hb5; rw [ofp_pd2 HQP.out])
  clear p0 p1 p2
  obtain ⟨t, ht⟩ : ∃ t, ofp nT nS P l bh = t := ⟨_, rfl⟩
  have HT : Hid (ofp nT nS P l bh = t) := ht
  rw [ht]
  clear ht
  have B35 : Hid (Below W3.heap.size W3 W5) := below_trans B4.out B5.out
  have B15 : Hid (Below W1.heap.size W1 W5) := below_trans B13.out B35.out
  have B05 : Hid (Below w.heap.size w W5) := below_trans B1.out B15.out
  have HR5 : Hid (Rw W5 (.slice ra na rc) l.length (flat rf l)) := HR4'.out.up B5.out
  have GQ5 : Hid (Gx W5 (.slice x0 nT s0) (.slice x1 nS s1) (.slice x2 n s2) Te Sy Q) := GQ3.out.up B35.out
  clear HR4 HR4' GQ4 B4 B5 GQ3 HV3
  obtain ⟨p0, p1, p2⟩ := HCC.out W5 B15.out
  go_upto_region 5 with (go_at_call 19; refine (lent_any W5 (HG.out.up B05.out) HS.out).mono ?_; rintro e W6 ⟨u0, u1, u2, R, rfl, hw6, hq6, hb6⟩; have B6 : Hid (Below W5.heap.size W5 W6) := hb6; have HRP : Hid (R.map pd2 = P.map pd2) := hq6; have GL6 : Hid (Gl W5.heap.size W6 u0 u1 u2 Te Sy R) := hw6; obtain ⟨j0, k0, e0, h0⟩ := hw6.t; obtain ⟨j1, k1, e1, h1⟩ := hw6.s; obtain ⟨j2, k2, e2, h2⟩ := hw6.p; subst e0 e1 e2; clear hw6 hq6 hb6 h0 h1 h2)
  clear p0 p1 p2
  have HRL : Hid (R.length = n) := by have h9 := congrArg List.length HRP.out; rw [List.length_map, List.length_map] at h9; show _ = _; rw [h9]; exact HNN.out
  rw [HNT.out, HNS.out, HRL.out] at GL6 ⊢
  obtain ⟨W7, hW7⟩ : ∃ W7, W7 = W6.alloc (.cells #[.slice (some ⟨j0, 0, none⟩) nT k0, .slice (some ⟨j1, 0, none⟩) nS k1, .slice (some ⟨j2, 0, none⟩) n k2] 26) := ⟨_, rfl⟩
  rw [← hW7]
  have B7 : Hid (Below W6.heap.size W6 W7) := by rw [hW7]; exact bel_up _ _
  have HX7 : Hid (W7.heap[W6.heap.size]? = some (.cells #[.slice (some ⟨j0, 0, none⟩) nT k0, .slice (some ⟨j1, 0, none⟩) nS k1, .slice (some ⟨j2, 0, none⟩) n k2] 26 (0, 0))) := by rw [hW7]; exact heap_new _ _
  clear hW7
  obtain ⟨ib, hib⟩ : ∃ ib, W6.heap.size = ib := ⟨_, rfl⟩
  rw [hib] at HX7 ⊢
  clear hib
  have GL7 : Hid (Gl W5.heap.size W7 (.slice (some ⟨j0, 0, none⟩) nT k0) (.slice (some ⟨j1, 0, none⟩) nS k1) (.slice (some ⟨j2, 0, none⟩) n k2) Te Sy R) := GL6.out.up B7.out
  have B57 : Hid (Below W5.heap.size W5 W7) := below_trans B6.out B7.out
  have B07 : Hid (Below w.heap.size w W7) := below_trans B05.out B57.out
  clear B6 B7 GL6
  have HSR : Hid (Gs Te Sy R) := HS.out.pd2 HRP.out
  have HZR : Hid (Gz nT nS R) := by have h9 := HSR.out.gz; rw [HNT.out, HNS.out] at h9; exact h9
  have HV7 : Hid (Rw W7 (.slice xa na ca) l.length (flat rf l)) := by rw [HNA.out]; exact HV.out.up B07.out
  have HCI : Hid (∀ W : World, W.heap[ib]? = some (.cells #[.slice (some ⟨j0, 0, none⟩) nT k0, .slice (some ⟨j1, 0, none⟩) nS k1, .slice (some ⟨j2, 0, none⟩) n k2] 26 (0, 0)) → W.cell? ⟨ib, 0, none⟩ = some (.slice (some ⟨j0, 0, none⟩) nT k0) ∧ W.cell? ⟨ib, 1, none⟩ = some (.slice (some ⟨j1, 0, none⟩) nS k1) ∧ W.cell? ⟨ib, 2, none⟩ = some (.slice (some ⟨j2, 0, none⟩) n k2)) := fun W hW => ⟨rcell hW 0 _ rfl, rcell hW 1 _ rfl, rcell hW 2 _ rfl⟩
  go_upto_region 6 with (go_at_call 20; refine (lentRow_any W7 HV7.out (by have := HL.out; omega)).mono ?_; rintro e W8 ⟨mv, rfl, ho8, hb8⟩; have B8 : Hid (Below W7.heap.size W7 W8) := hb8; have HM8 : Hid (Lr W7.heap.size W8 mv l) := ho8; obtain ⟨mg, mc, hmv, -⟩ := ho8; subst hmv; clear hb8)
  rw [HNA.out] at HM8 ⊢
  have HX8 : Hid (W8.heap[ib]? = some (.cells #[.slice (some ⟨j0, 0, none⟩) nT k0, .slice (some ⟨j1, 0, none⟩) nS k1, .slice (some ⟨j2, 0, none⟩) n k2] 26 (0, 0))) := (B8.out.block _ (lt_of_heap HX7.out)).trans HX7.out
  obtain ⟨i0, i1, i2⟩ := HCI.out W8 HX8.out
  have GL8 : Hid (Gl W5.heap.size W8 (.slice (some ⟨j0, 0, none⟩) nT k0) (.slice (some ⟨j1, 0, none⟩) nS k1) (.slice (some ⟨j2, 0, none⟩) n k2) Te Sy R) := GL7.out.up B8.out
  have GM8 : Hid (Gm W8 (.slice (some ⟨j0, 0, none⟩) nT k0) (.slice (some ⟨j1, 0, none⟩) nS k1) (.slice (some ⟨j2, 0, none⟩) n k2) nT nS R) := by have h9 := GL8.out.gx.g; rw [HNT.out, HNS.out] at h9; exact h9
  have HMR : Hid (Rw W8 (.slice (some ⟨mg, 0, none⟩) na mc) l.length (flat rf l)) := HM8.out.rw
  have tt : ((t : Int) == (t : Int)) = true := by rw [beq_iff_eq]
  have HQR : Hid (Q.map pd2 = R.map pd2) := HQP.out.trans HRP.out.symm
  go_upto_region 8 with (first | (go_at_call 9; refine (of_any W8 GM8.out HZR.out HMR.out (by have := HL.out; omega) HBH.out).mono ?_; rintro e Y1 ⟨rfl, -, hy1⟩; have BY1 : Hid (Below W8.heap.size W8 Y1) := hy1; obtain ⟨i0', i1', i2'⟩ := HCI.out Y1 ((hy1.block _ (lt_of_heap HX8.out)).trans HX8.out); obtain ⟨w0', w1', w2'⟩ := HCU.out Y1 (below_trans B35.out (below_trans B57.out (below_trans B8.out hy1))); clear hy1; rw [ofp_pd2 HRP.out, HT.out]) | (go_at_call 21; refine (still_any Y1 (GL8.out.up BY1.out) (GQ5.out.up (below_trans B57.out (below_trans B8.out BY1.out))) HQR.out HSR.out).mono ?_; rintro e Y2 ⟨rfl, hy2⟩; have BY2 : Hid (Below W8.heap.size W8 Y2) := below_trans BY1.out hy2; clear hy2) | (go_at_call 22; refine (stillRow_any Y2 (HM8.out.up BY2.out) (HR5.out.up (below_trans B57.out (below_trans B8.out BY2.out))) (by have := HL.out; omega)).mono ?_; rintro e Y3 ⟨rfl, hy3⟩; have BY3 : Hid (Below W8.heap.size W8 Y3) := below_trans BY2.out hy3; clear hy3))
  clear i0 i1 i2 i0' i1' i2' w0' w1' w2'
  have B7Y : Hid (Below W7.heap.size W7 Y3) := below_trans B8.out BY3.out
  have HMY : Hid (Lr W7.heap.size Y3 (.slice (some ⟨mg, 0, none⟩) na mc) l) := HM8.out.up BY3.out
  clear BY1 BY2 BY3 B8 HM8 HX8 GL8 GM8 HMR
  have HNB : Hid (na * 40 + 4096 ≤ 140737488355328) := by have := HL.out; have := HNA.out; show na * 40 + 4096 ≤ 140737488355328; omega
  have hone : IntKind.i64.wrap ((na : Int) - 1) = (na : Int) - 1 := by have := HNB.out; rw [IntKind.wrap_i64]; omega
  go_upto_region 9 with fail
  go_loopg [12] na (fun gm v12 wr => ∃ i : Nat, v12 = .int .i64 (i : Int) ∧ ∃ m : List Rf, Hid (m.length = na) ∧ Hid (Below W7.heap.size W7 wr) ∧ Hid (i ≤ na ∧ gm = na - i) ∧ Hid (Lr W7.heap.size wr (.slice (some ⟨mg, 0, none⟩) na mc) m))
  case atStart => exact ⟨0, rfl, l, HNA, B7Y, ⟨Nat.zero_le _, rfl⟩, HMY⟩
  case round =>
    clear B7Y HMY
    obtain ⟨i, rfl, m, HML, HBW, HI, HMW⟩ := hrel
    by_cases hi : i < na
    · have hcs := HMW.out
      rw [← HML.out] at hcs
      obtain ⟨hge, hcur, hcl⟩ := hcs.cells
      have HGE : Hid (W7.heap.size ≤ mg) := hge
      obtain ⟨cur, hcur⟩ := hcur
      obtain ⟨r0, r1, r2⟩ := hcl (na - 1 - i) (by rw [HML.out]; omega)
      obtain ⟨z0, z1, z2⟩ := hcl i (by rw [HML.out]; omega)
      have f0 : wr.frozen? ⟨mg, i * 3, none⟩ = false := Lib.frozen_of_heap hcur _
      have f1 : wr.frozen? ⟨mg, i * 3 + 1, none⟩ = false := Lib.frozen_of_heap hcur _
      have f2 : wr.frozen? ⟨mg, i * 3 + 2, none⟩ = false := Lib.frozen_of_heap hcur _
      obtain ⟨x, hx⟩ : ∃ x, m.getD (na - 1 - i) rfd = x := ⟨_, rfl⟩
      rw [hx] at r0 r1 r2
      obtain ⟨xs, xf, xz⟩ := x
      dsimp only at r0 r1 r2
      have e1 : decide ((i : Int) < (na : Int)) = true := by rw [decide_eq_true_eq]; omega
      have e2 : decide (i < na) = true := by rw [decide_eq_true_eq]; omega
      have e5 : (i : Int) < (na : Int) := by omega
      have e6 : i < na := hi
      have HIL : Hid (i < na) := hi
      have hwr := w64n i (by have := HNB.out; have := HIL.out; omega)
      have hsub : IntKind.i64.wrap ((na : Int) - 1 - (i : Int)) = ((na - 1 - i : Nat) : Int) := by have := HNB.out; have := HIL.out; rw [IntKind.wrap_i64]; omega
      obtain ⟨y, hy⟩ : ∃ y, na - 1 - i = y := ⟨_, rfl⟩
      rw [hy] at hsub r0 r1 r2
      have e7 : (y : Int) < (na : Int) := by omega
      have e8 : y < na := by omega
      clear hx hi hcl hcur hge hcs hy
      go_wp2_with fail
      have HM2 : Hid (Lr W7.heap.size (((wr.setCell ⟨mg, i * 3, none⟩ (.int .i64 xs)).setCell ⟨mg, i * 3 + 1, none⟩ (.string xf)).setCell ⟨mg, i * 3 + 2, none⟩ (.string xz)) (.slice (some ⟨mg, 0, none⟩) na mc) (m.set i (xs, xf, xz))) := by
        have h9 := HMW.out
        rw [← HML.out] at h9 ⊢
        exact h9.put (xs, xf, xz) i (by rw [HML.out]; exact HIL.out)
      go_roundg (na - (i + 1))
      case measure => have := HI.out; have := HIL.out; omega
      case rel => exact ⟨i + 1, by first | rfl | (rw [show (i : Int) + 1 = ((i + 1 : Nat) : Int) by omega]), m.set i (xs, xf, xz), by show _ = _; rw [List.length_set]; exact HML.out, ((HBW.out.setCell (p := ⟨mg, i * 3, none⟩) HGE.out _).setCell (p := ⟨mg, i * 3 + 1, none⟩) HGE.out _).setCell (p := ⟨mg, i * 3 + 2, none⟩) HGE.out _, ⟨HIL.out, rfl⟩, HM2⟩
    · have e1 : decide ((i : Int) < (na : Int)) = false := by rw [decide_eq_false_iff_not]; omega
      have e2 : decide (i < na) = false := by rw [decide_eq_false_iff_not]; omega
      clear hi
      go_upto_region 12 with fail
      clear e1 e2 HI hone tt
      obtain ⟨V, hV⟩ : ∃ V, V = wr := ⟨_, rfl⟩
      rw [← hV] at HBW HMW ⊢
      have B7V : Hid (Below W7.heap.size W7 V) := HBW.out
      have HMV : Hid (Lr W7.heap.size V (.slice (some ⟨mg, 0, none⟩) na mc) m) := HMW.out
      clear hV HBW HMW
      have B5V : Hid (Below W5.heap.size W5 V) := below_trans B57.out B7V.out
      have B3V : Hid (Below W3.heap.size W3 V) := below_trans B35.out B5V.out
      have GLV : Hid (Gl W5.heap.size V (.slice (some ⟨j0, 0, none⟩) nT k0) (.slice (some ⟨j1, 0, none⟩) nS k1) (.slice (some ⟨j2, 0, none⟩) n k2) Te Sy R) := GL7.out.up B7V.out
      have HXV : Hid (V.heap[ib]? = some (.cells #[.slice (some ⟨j0, 0, none⟩) nT k0, .slice (some ⟨j1, 0, none⟩) nS k1, .slice (some ⟨j2, 0, none⟩) n k2] 26 (0, 0))) := (B7V.out.block _ (lt_of_heap HX7.out)).trans HX7.out
      have HMB : Hid (m.length * 40 + 4096 ≤ 140737488355328) := by have := HML.out; have := HNB.out; show _ ≤ _; omega
      obtain ⟨WD, hWD⟩ : ∃ WD, V.drew = WD := ⟨_, rfl⟩
      have BD : Hid (Below V.heap.size V WD) := by rw [← hWD]; exact Below.drew (Below.refl _ _)
      have HMD : Hid (Rw WD (.slice (some ⟨mg, 0, none⟩) na mc) m.length (flat rf m)) := HMV.out.rw.up BD.out
      refine wp_region_noPanic ?_
      refine wp_region_held_drew (S := fun W => W.cell? ⟨ub, 0, none⟩ = some (.slice x0 nT s0) ∧ W.cell? ⟨ub, 1, none⟩ = some (.slice x1 nS s1) ∧ W.cell? ⟨ub, 2, none⟩ = some (.slice x2 n s2)) (by kernel_rfl) (by rw [hWD]; exact HCU.out _ (below_trans B3V.out BD.out)) (fun hHeld => ?_)
      rw [hWD] at hHeld ⊢
      clear hWD
      refine wpAnyH_take (i := 0) (oi := { dst := _, op := _, type := _, pos := _, after := _, guard := _ }) (v := ?_) rfl (by kernel_rfl) (by kernel_rfl) (by kernel_rfl) (fun _ _ _ h => h) (Or.inl ⟨by rfl, ?_⟩) (by assumption) ?_
      rotate_left
      · intro W hSw
        (try dsimp only at hSw)
        go_simp
        (try with_reducible rfl)
      try simp only [Act.put, List.setIfInBounds_toArray, List.set_cons_zero, List.set_cons_succ]
      refine wpAnyH_take (i := 1) (oi := { dst := _, op := _, type := _, pos := _, after := _, guard := _ }) (v := ?_) rfl (by kernel_rfl) (by kernel_rfl) (by kernel_rfl) (fun _ _ _ h => h) (Or.inl ⟨by rfl, ?_⟩) (by assumption) ?_
      rotate_left
      · intro W hSw
        (try dsimp only at hSw)
        go_simp
        (try with_reducible rfl)
      try simp only [Act.put, List.setIfInBounds_toArray, List.set_cons_zero, List.set_cons_succ]
      refine wpAnyH_take (i := 3) (oi := { dst := _, op := _, type := _, pos := _, after := _, guard := _ }) (v := ?_) rfl (by kernel_rfl) (by kernel_rfl) (by kernel_rfl) (fun _ _ _ h => h) (Or.inl ⟨by rfl, ?_⟩) (by assumption) ?_
      rotate_left
      · intro W hSw
        (try dsimp only at hSw)
        go_simp
        (try with_reducible rfl)
      try simp only [Act.put, List.setIfInBounds_toArray, List.set_cons_zero, List.set_cons_succ]
      refine wpAnyH_ready (rs := [2]) (by kernel_rfl) (by simp) ?_
      refine AllReadyH.cons (o := { dst := _, op := _, type := _, pos := _, after := _, guard := _ }) rfl (fun K hK => ?_) AllReadyH.nil
      go_simp
      go_at_call 17
      refine (twinRow_any WD HMD.out HMB.out).mono ?_
      rintro e Z1 ⟨rv2, rfl, ho, hz1⟩
      have BZ1 : Hid (Below V.heap.size V Z1) := below_trans BD.out hz1
      have HRZ : Hid (Rw Z1 rv2 m.length (flat rf m)) := row_rw ho (by decide)
      obtain ⟨ra2, rc2, rfl⟩ := row_shape ho
      clear hz1 ho
      refine hK.out _ _ ?_ (fun hHeld => ?_)
      · exact HCU.out _ (below_trans B3V.out BZ1.out)
      clear hK K
      try simp only [Act.put, List.setIfInBounds_toArray, List.set_cons_zero, List.set_cons_succ]
      have GQZ : Hid (Gm Z1 (.slice x0 nT s0) (.slice x1 nS s1) (.slice x2 n s2) nT nS Q) := by have h9 := (GQ5.out.up (below_trans B5V.out BZ1.out)).g; rw [HNT.out, HNS.out] at h9; exact h9
      refine wpAnyH_ready (rs := [4]) (by kernel_rfl) (by simp) ?_
      refine AllReadyH.cons (o := { dst := _, op := _, type := _, pos := _, after := _, guard := _ }) rfl (fun K hK => ?_) AllReadyH.nil
      go_simp
      go_at_call 18
      refine (rof_any Z1 GQZ.out HZQ.out HRZ.out (by have := HMB.out; omega) HBH.out).mono ?_
      rintro e Z2 ⟨rfl, hz2⟩
      have BZ2 : Hid (Below V.heap.size V Z2) := below_trans BZ1.out hz2
      clear hz2
      rw [ofp_pd2 HQP.out]
      refine hK.out _ _ ?_ (fun hHeld => ?_)
      · exact HCU.out _ (below_trans B3V.out BZ2.out)
      clear hK K
      try simp only [Act.put, List.setIfInBounds_toArray, List.set_cons_zero, List.set_cons_succ]
      refine wpAnyH_take (i := 5) (oi := { dst := _, op := _, type := _, pos := _, after := _, guard := _ }) (v := ?_) rfl (by kernel_rfl) (by kernel_rfl) (by kernel_rfl) (fun _ _ _ h => h) (Or.inl ⟨by rfl, ?_⟩) (by assumption) ?_
      rotate_left
      · intro W hSw
        (try dsimp only at hSw)
        go_simp
        (try with_reducible rfl)
      try simp only [Act.put, List.setIfInBounds_toArray, List.set_cons_zero, List.set_cons_succ]
      refine wpAnyH_done (by kernel_rfl) ?_ _
      refine NoPanic.normal ?_
      clear hHeld
      obtain ⟨t2, ht2⟩ : ∃ t, ofp nT nS P m bh = t := ⟨_, rfl⟩
      have HT2 : Hid (ofp nT nS P m bh = t2) := ht2
      rw [ht2]
      clear ht2
      have tt2 : ((t2 : Int) == (t2 : Int)) = true := by rw [beq_iff_eq]
      have HXZ : Hid (Z2.heap[ib]? = some (.cells #[.slice (some ⟨j0, 0, none⟩) nT k0, .slice (some ⟨j1, 0, none⟩) nS k1, .slice (some ⟨j2, 0, none⟩) n k2] 26 (0, 0))) := (BZ2.out.block _ (lt_of_heap HXV.out)).trans HXV.out
      obtain ⟨i0, i1, i2⟩ := HCI.out Z2 HXZ.out
      have GLZ : Hid (Gl W5.heap.size Z2 (.slice (some ⟨j0, 0, none⟩) nT k0) (.slice (some ⟨j1, 0, none⟩) nS k1) (.slice (some ⟨j2, 0, none⟩) n k2) Te Sy R) := GLV.out.up BZ2.out
      have GMZ : Hid (Gm Z2 (.slice (some ⟨j0, 0, none⟩) nT k0) (.slice (some ⟨j1, 0, none⟩) nS k1) (.slice (some ⟨j2, 0, none⟩) n k2) nT nS R) := by have h9 := GLZ.out.gx.g; rw [HNT.out, HNS.out] at h9; exact h9
      have HMZ : Hid (Rw Z2 (.slice (some ⟨mg, 0, none⟩) na mc) m.length (flat rf m)) := HMV.out.rw.up BZ2.out
      go_upto_region 15 with (go_at_call 9; refine (of_any Z2 GMZ.out HZR.out HMZ.out (by have := HMB.out; omega) HBH.out).mono ?_; rintro e Z3 ⟨rfl, -, hz3⟩; have BZ3 : Hid (Below V.heap.size V Z3) := below_trans BZ2.out hz3; clear hz3; rw [ofp_pd2 HRP.out, HT2.out])
      clear i0 i1 i2 tt2 HMZ GMZ GLZ HXZ GQZ HRZ
      have HXU : Hid (Z3.heap[ib]? = some (.cells #[.slice (some ⟨j0, 0, none⟩) nT k0, .slice (some ⟨j1, 0, none⟩) nS k1, .slice (some ⟨j2, 0, none⟩) n k2] 26 (0, 0))) := (BZ3.out.block _ (lt_of_heap HXV.out)).trans HXV.out
      have GLU : Hid (Gl W5.heap.size Z3 (.slice (some ⟨j0, 0, none⟩) nT k0) (.slice (some ⟨j1, 0, none⟩) nS k1) (.slice (some ⟨j2, 0, none⟩) n k2) Te Sy R) := GLV.out.up BZ3.out
      have B5U : Hid (Below W5.heap.size W5 Z3) := below_trans B5V.out BZ3.out
      have HMU : Hid (Lh W7.heap.size Z3 (.slice (some ⟨mg, 0, none⟩) na mc) m) := (HMV.out.up BZ3.out).lh
      have HTU : Hid (Rw Z3 (.slice (some ⟨j0, 0, none⟩) nT k0) Te.length (flat tdf Te)) := GLU.out.gx.t
      have HGT : Hid (Z3.ownsRow W5.heap.size 58 2 (.slice (some ⟨j0, 0, none⟩) (nT + 20) k0) (nT + 20) (flat tdf (Te ++ tmk 20))) := by obtain ⟨g', c', e', h'⟩ := GLU.out.t; rw [HNT.out] at e' h'; cases e'; exact h'
      have HGS : Hid (Z3.ownsRow W5.heap.size 61 2 (.slice (some ⟨j1, 0, none⟩) (nS + 20) k1) (nS + 20) (flat sdf (Sy ++ smk 20))) := by obtain ⟨g', c', e', h'⟩ := GLU.out.s; rw [HNS.out] at e' h'; cases e'; exact h'
      have HGP : Hid (Gh W5.heap.size Z3 j2 k2 R) := ⟨by obtain ⟨g', c', e', h'⟩ := GLU.out.p; rw [HRL.out] at e' h'; cases e'; rw [HRL.out]; exact h', fun x hx => (GLU.out.r x hx).lh⟩
      have HJ2 : Hid (W5.heap.size ≤ j2) := (row_tag HGP.out.p j2 rfl).1
      have HRB : Hid (∀ x ∈ R, x.2.2.length * 40 + 4096 ≤ 140737488355328) := HSR.out.r
      clear GLU BZ3 BZ2 BZ1 HTU HXV GLV HMV B3V B5V B7V BD HMD
      have HBT : Hid (nT * 24 + 4096 ≤ 140737488355328 ∧ nS * 24 + 4096 ≤ 140737488355328 ∧ n * 32 + 4096 ≤ 140737488355328) := by have := HS.out.t; have := HS.out.s; have := HS.out.p; have := HNT.out; have := HNS.out; have := HNN.out; show _ ∧ _; omega
      go_upto_region 16 with fail
      go_loopg [13] n (fun gm v13 wr => ∃ i : Nat, v13 = .int .i64 (i : Int) ∧ ∃ D : List Pd, Hid (D.length = n) ∧ Hid (Below W5.heap.size W5 wr) ∧ Hid (i ≤ n ∧ gm = n - i) ∧ Hid (wr.heap[ib]? = some (.cells #[.slice (some ⟨j0, 0, none⟩) nT k0, .slice (some ⟨j1, 0, none⟩) nS k1, .slice (some ⟨j2, 0, none⟩) n k2] 26 (0, 0))) ∧ Hid (wr.ownsRow W5.heap.size 58 2 (.slice (some ⟨j0, 0, none⟩) (nT + 20) k0) (nT + 20) (flat tdf (Te ++ tmk 20))) ∧ Hid (wr.ownsRow W5.heap.size 61 2 (.slice (some ⟨j1, 0, none⟩) (nS + 20) k1) (nS + 20) (flat sdf (Sy ++ smk 20))) ∧ Hid (Gh W5.heap.size wr j2 k2 D) ∧ Hid (∀ x ∈ D, x.2.2.length * 40 + 4096 ≤ 140737488355328) ∧ Hid (Lh W7.heap.size wr (.slice (some ⟨mg, 0, none⟩) na mc) m))
      case atStart => exact ⟨0, rfl, R, HRL, B5U, ⟨Nat.zero_le _, rfl⟩, HXU, HGT, HGS, HGP, HRB, HMU⟩
      case round =>
        clear HXU HGT HGS HGP HRB HMU B5U
        obtain ⟨i, rfl, D, HDL, HBW, HI, HX, HGT, HGS, HGP, HDB, HMU⟩ := hrel
        obtain ⟨i0, i1, i2⟩ := HCI.out wr HX.out
        by_cases hi : i < n
        · have hil : i < D.length := by rw [HDL.out]; exact hi
          obtain ⟨-, cur, hcur⟩ := row_tag HGP.out.p j2 rfl
          have HCR : Hid (wr.heap[j2]? = some (.cells cur 53 (0, 0))) := hcur
          obtain ⟨q0, q1⟩ := pf_get (D ++ pmk 20) i (by rw [List.length_append]; omega)
          rw [getD_left _ _ _ _ hil] at q0 q1
          have k1' := row_at HGP.out.p _ _ q1
          have HMEM : Hid (D.getD i pfd ∈ D) := mem_getD hil pfd
          have HLX : Hid (Lh W5.heap.size wr (D.getD i pfd).2.1 (D.getD i pfd).2.2) := HGP.out.r _ HMEM.out
          have HLB : Hid ((D.getD i pfd).2.2.length * 40 + 4096 ≤ 140737488355328) := HDB.out _ HMEM.out
          obtain ⟨x, hx⟩ : ∃ x, D.getD i pfd = x := ⟨_, rfl⟩
          have HXE : Hid (D.getD i pfd = x) := hx
          rw [hx] at k1' HLX HLB
          obtain ⟨xs, xv, xl⟩ := x
          dsimp only at k1' HLX HLB
          obtain ⟨xg, xc, xe, hxv, -⟩ := HLX.out
          subst hxv
          have e1 : decide ((i : Int) < (n : Int)) = true := by rw [decide_eq_true_eq]; omega
          have e2 : decide (i < n) = true := by rw [decide_eq_true_eq]; omega
          have e5 : (i : Int) < (n : Int) := by omega
          have e6 : i < n := hi
          have HIL : Hid (i < n) := hi
          have hwr := w64n i (by have := HBT.out; have := HIL.out; omega)
          have HHF : Hid (Lh W5.heap.size wr (.slice (some ⟨xg, 0, none⟩) (xl.length / 2) xc) (xl.take (xl.length / 2))) := HLX.out.half
          have HDC : Hid (∀ v l', Lh W5.heap.size wr v l' → Gh W5.heap.size (wr.setCell ⟨j2, i * 2 + 1, none⟩ v) j2 k2 (D.set i ((D.getD i pfd).1, v, l'))) := fun v l' hv => HGP.out.cut i (by rw [HDL.out]; exact HIL.out) v l' hv
          have hxcap : xl.length ≤ xc := by obtain ⟨g', c', e', h', ho'⟩ := HLX.out; cases h'; exact Nat.le_trans (Nat.le_add_right _ _) (row_cap ho').1
          have HXC : Hid (xl.length ≤ xc) := hxcap
          obtain ⟨xn, hxn⟩ : ∃ xn, xl.length = xn := ⟨_, rfl⟩
          have HXN : Hid (xl.length = xn) := hxn
          rw [hxn] at k1' HLB HHF HXC
          have hdiv := div2_wrap xn (by have := HLB.out; omega)
          have g1 : ((xn / 2 : Nat) : Int) ≤ (xc : Int) := by have := HXC.out; omega
          have g2 : xn / 2 ≤ xc := by have := HXC.out; omega
          have g0 : (0 : Int) ≤ (xn : Int) / 2 := by omega
          have g1' : (xn : Int) / 2 ≤ (xc : Int) := by have := HXC.out; omega
          have hto : ((xn : Int) / 2).toNat = xn / 2 := by omega
          have HFZ : Hid (wr.frozen? ⟨j2, i * 2 + 1, none⟩ = false) := Lib.frozen_of_heap hcur _
          clear hx hi q0 q1 hcur hil hxcap hxn
          go_upto_region 18 with fail
          clear i0 i1 i2
          obtain ⟨WD, hWD⟩ : ∃ WD, wr.drew = WD := ⟨_, rfl⟩
          have BD : Hid (Below wr.heap.size wr WD) := by rw [← hWD]; exact Below.drew (Below.refl _ _)
          have kD := below_cell BD.out k1'
          have fD : WD.frozen? ⟨j2, i * 2 + 1, none⟩ = false := by rw [← hWD]; exact HFZ.out
          have HXD : Hid (WD.heap[ib]? = some (.cells #[.slice (some ⟨j0, 0, none⟩) nT k0, .slice (some ⟨j1, 0, none⟩) nS k1, .slice (some ⟨j2, 0, none⟩) n k2] 26 (0, 0))) := (BD.out.block _ (lt_of_heap HX.out)).trans HX.out
          have HWE : Hid (wr.drew = WD) := hWD
          clear k1'
          refine wp_region_noPanic ?_
          refine wp_region_held_drew (S := fun W => W.cell? ⟨ib, 2, none⟩ = some (.slice (some ⟨j2, 0, none⟩) n k2)) (by kernel_rfl) (by rw [hWD]; exact (HCI.out _ HXD.out).2.2) (fun hHeld => ?_)
          rw [hWD] at hHeld ⊢
          clear hWD
          have HIJ : Hid (ib ≠ j2) := fun e => by have h1 := HX.out; rw [e, HCR.out] at h1; simp at h1
          refine wpAnyH_take (i := 0) (oi := { dst := _, op := _, type := _, pos := _, after := _, guard := _ }) (v := ?_) rfl (by kernel_rfl) (by kernel_rfl) (by kernel_rfl) (fun _ _ _ h => h) (Or.inl ⟨by rfl, ?_⟩) (by assumption) ?_
          rotate_left
          · intro W hSw
            (try dsimp only at hSw)
            go_simp
            (try with_reducible rfl)
          try simp only [Act.put, List.setIfInBounds_toArray, List.set_cons_zero, List.set_cons_succ]
          refine wpAnyH_take (i := 1) (oi := { dst := _, op := _, type := _, pos := _, after := _, guard := _ }) (v := ?_) rfl (by kernel_rfl) (by kernel_rfl) (by kernel_rfl) (fun _ _ _ h => h) (Or.inl ⟨by rfl, ?_⟩) (by assumption) ?_
          rotate_left
          · intro W hSw
            (try dsimp only at hSw)
            go_simp
            (try with_reducible rfl)
          try simp only [Act.put, List.setIfInBounds_toArray, List.set_cons_zero, List.set_cons_succ]
          refine wpAnyH_take (i := 2) (oi := { dst := _, op := _, type := _, pos := _, after := _, guard := _ }) (v := ?_) rfl (by kernel_rfl) (by kernel_rfl) (by kernel_rfl) (fun _ _ _ h => h) (Or.inl ⟨by rfl, ?_⟩) (by assumption) ?_
          rotate_left
          · intro W hSw
            (try dsimp only at hSw)
            go_simp
            (try with_reducible rfl)
          try simp only [Act.put, List.setIfInBounds_toArray, List.set_cons_zero, List.set_cons_succ]
          refine wpAnyH_take (i := 3) (oi := { dst := _, op := _, type := _, pos := _, after := _, guard := _ }) (v := ?_) rfl (by kernel_rfl) (by kernel_rfl) (by kernel_rfl) (fun _ _ _ h => h) (Or.inl ⟨by rfl, ?_⟩) (by assumption) ?_
          rotate_left
          · intro W hSw
            (try dsimp only at hSw)
            go_simp
            (try with_reducible rfl)
          try simp only [Act.put, List.setIfInBounds_toArray, List.set_cons_zero, List.set_cons_succ]
          refine wpAnyH_take (i := 4) (oi := { dst := _, op := _, type := _, pos := _, after := _, guard := _ }) (v := ?_) rfl (by kernel_rfl) (by kernel_rfl) (by kernel_rfl) (fun _ _ _ h => h) (Or.inl ⟨by rfl, ?_⟩) (by assumption) ?_
          rotate_left
          · intro W hSw
            (try dsimp only at hSw)
            go_simp
            (try with_reducible rfl)
          try simp only [Act.put, List.setIfInBounds_toArray, List.set_cons_zero, List.set_cons_succ]
          refine wpAnyH_take (i := 5) (oi := { dst := _, op := _, type := _, pos := _, after := _, guard := _ }) (v := ?_) rfl (by kernel_rfl) (by kernel_rfl) (by kernel_rfl) (fun _ _ _ h => h) (Or.inl ⟨by rfl, ?_⟩) (by assumption) ?_
          rotate_left
          · intro W hSw
            (try dsimp only at hSw)
            go_simp
            (try with_reducible rfl)
          try simp only [Act.put, List.setIfInBounds_toArray, List.set_cons_zero, List.set_cons_succ]
          refine wpAnyH_take (i := 6) (oi := { dst := _, op := _, type := _, pos := _, after := _, guard := _ }) (v := ?_) rfl (by kernel_rfl) (by kernel_rfl) (by kernel_rfl) (fun _ _ _ h => h) (Or.inl ⟨by rfl, ?_⟩) (by assumption) ?_
          rotate_left
          · intro W hSw
            (try dsimp only at hSw)
            go_simp
            (try with_reducible rfl)
          try simp only [Act.put, List.setIfInBounds_toArray, List.set_cons_zero, List.set_cons_succ]
          refine wpAnyH_take (i := 7) (oi := { dst := _, op := _, type := _, pos := _, after := _, guard := _ }) (v := ?_) rfl (by kernel_rfl) (by kernel_rfl) (by kernel_rfl) (fun _ _ _ h => h) (Or.inl ⟨by rfl, ?_⟩) (by assumption) ?_
          rotate_left
          · intro W hSw
            (try dsimp only at hSw)
            go_simp
            (try with_reducible rfl)
          try simp only [Act.put, List.setIfInBounds_toArray, List.set_cons_zero, List.set_cons_succ]
          refine wpAnyH_take (i := 9) (oi := { dst := _, op := _, type := _, pos := _, after := _, guard := _ }) (v := ?_) rfl (by kernel_rfl) (by kernel_rfl) (by kernel_rfl) (fun _ _ _ h => h) (Or.inl ⟨by rfl, ?_⟩) (by assumption) ?_
          rotate_left
          · intro W hSw
            (try dsimp only at hSw)
            go_simp
            (try with_reducible rfl)
          try simp only [Act.put, List.setIfInBounds_toArray, List.set_cons_zero, List.set_cons_succ]
          refine wpAnyH_take (i := 10) (oi := { dst := _, op := _, type := _, pos := _, after := _, guard := _ }) (v := ?_) rfl (by kernel_rfl) (by kernel_rfl) (by kernel_rfl) (fun _ _ _ h => h) (Or.inl ⟨by rfl, ?_⟩) (by assumption) ?_
          rotate_left
          · intro W hSw
            (try dsimp only at hSw)
            go_simp
            (try with_reducible rfl)
          try simp only [Act.put, List.setIfInBounds_toArray, List.set_cons_zero, List.set_cons_succ]
          refine wpAnyH_take (i := 11) (oi := { dst := _, op := _, type := _, pos := _, after := _, guard := _ }) (v := ?_) rfl (by kernel_rfl) (by kernel_rfl) (by kernel_rfl) (fun _ _ _ h => h) (Or.inl ⟨by rfl, ?_⟩) (by assumption) ?_
          rotate_left
          · intro W hSw
            (try dsimp only at hSw)
            go_simp
            (try with_reducible rfl)
          try simp only [Act.put, List.setIfInBounds_toArray, List.set_cons_zero, List.set_cons_succ]
          refine wpAnyH_take (i := 12) (oi := { dst := _, op := _, type := _, pos := _, after := _, guard := _ }) (v := ?_) rfl (by kernel_rfl) (by kernel_rfl) (by kernel_rfl) (fun _ _ _ h => h) (Or.inl ⟨by rfl, ?_⟩) (by assumption) ?_
          rotate_left
          · intro W hSw
            (try dsimp only at hSw)
            go_simp
            (try with_reducible rfl)
          try simp only [Act.put, List.setIfInBounds_toArray, List.set_cons_zero, List.set_cons_succ]
          refine wpAnyH_take (i := 13) (oi := { dst := _, op := _, type := _, pos := _, after := _, guard := _ }) (v := ?_) rfl (by kernel_rfl) (by kernel_rfl) (by kernel_rfl) (fun _ _ _ h => h) (Or.inl ⟨by rfl, ?_⟩) (by assumption) ?_
          rotate_left
          · intro W hSw
            (try dsimp only at hSw)
            go_simp
            (try with_reducible rfl)
          try simp only [Act.put, List.setIfInBounds_toArray, List.set_cons_zero, List.set_cons_succ]
          refine wpAnyH_ready (rs := [8, 14]) (by kernel_rfl) (by simp) ?_
          refine AllReadyH.cons (o := { dst := _, op := _, type := _, pos := _, after := _, guard := _ }) rfl (fun K hK => ?_) (AllReadyH.cons (o := { dst := _, op := _, type := _, pos := _, after := _, guard := _ }) rfl (fun K hK => ?_) (AllReadyH.nil))
          · go_simp
            refine hK.out _ _ ?_ (fun hHeld => ?_)
            · exact (HCI.out _ HXD.out).2.2
            clear hK K
            try simp only [Act.put, List.setIfInBounds_toArray, List.set_cons_zero, List.set_cons_succ]
            refine wpAnyH_ready (rs := [14]) (by kernel_rfl) (by simp) ?_
            refine AllReadyH.cons (o := { dst := _, op := _, type := _, pos := _, after := _, guard := _ }) rfl (fun K hK => ?_) AllReadyH.nil
            go_simp
            refine hK.out _ _ ?_ (fun hHeld => ?_)
            · exact (HCI.out _ HXD.out).2.2
            clear hK K
            try simp only [Act.put, List.setIfInBounds_toArray, List.set_cons_zero, List.set_cons_succ]
            refine wpAnyH_take (i := 15) (oi := { dst := _, op := _, type := _, pos := _, after := _, guard := _ }) (v := ?_) rfl (by kernel_rfl) (by kernel_rfl) (by kernel_rfl) (fun _ _ _ h => h) (Or.inl ⟨by rfl, ?_⟩) (by assumption) ?_
            rotate_left
            · intro W hSw
              (try dsimp only at hSw)
              go_simp
              (try with_reducible rfl)
            try simp only [Act.put, List.setIfInBounds_toArray, List.set_cons_zero, List.set_cons_succ]
            refine wpAnyH_take (i := 16) (oi := { dst := _, op := _, type := _, pos := _, after := _, guard := _ }) (v := ?_) rfl (by kernel_rfl) (by kernel_rfl) (by kernel_rfl) (fun _ _ _ h => h) (Or.inl ⟨by rfl, ?_⟩) (by assumption) ?_
            rotate_left
            · intro W hSw
              (try dsimp only at hSw)
              go_simp
              (try with_reducible rfl)
            try simp only [Act.put, List.setIfInBounds_toArray, List.set_cons_zero, List.set_cons_succ]
            refine wpAnyH_take (i := 17) (oi := { dst := _, op := _, type := _, pos := _, after := _, guard := _ }) (v := ?_) rfl (by kernel_rfl) (by kernel_rfl) (by kernel_rfl) (fun _ _ _ h => h) (Or.inl ⟨by rfl, ?_⟩) (by assumption) ?_
            rotate_left
            · intro W hSw
              (try dsimp only at hSw)
              go_simp
              (try with_reducible rfl)
            try simp only [Act.put, List.setIfInBounds_toArray, List.set_cons_zero, List.set_cons_succ]
            refine wpAnyH_take (i := 18) (oi := { dst := _, op := _, type := _, pos := _, after := _, guard := _ }) (v := ?_) rfl (by kernel_rfl) (by kernel_rfl) (by kernel_rfl) (fun _ _ _ h => h) (Or.inl ⟨by rfl, ?_⟩) (by assumption) ?_
            rotate_left
            · intro W hSw
              (try dsimp only at hSw)
              go_simp
              (try with_reducible rfl)
            try simp only [Act.put, List.setIfInBounds_toArray, List.set_cons_zero, List.set_cons_succ]
            refine wpAnyH_take (i := 19) (oi := { dst := _, op := _, type := _, pos := _, after := _, guard := _ }) (v := ?_) rfl (by kernel_rfl) (by kernel_rfl) (by kernel_rfl) (fun _ _ _ h => h) (Or.inl ⟨by rfl, ?_⟩) (by assumption) ?_
            rotate_left
            · intro W hSw
              (try dsimp only at hSw)
              go_simp
              (try with_reducible rfl)
            try simp only [Act.put, List.setIfInBounds_toArray, List.set_cons_zero, List.set_cons_succ]
            refine wpAnyH_ready (rs := [20]) (by kernel_rfl) (by simp) ?_
            refine AllReadyH.cons (o := { dst := _, op := _, type := _, pos := _, after := _, guard := _ }) rfl (fun K hK => ?_) AllReadyH.nil
            go_simp
            have HX7' : Hid ((WD.setCell ⟨j2, i * 2 + 1, none⟩ (.slice (some ⟨xg, 0, none⟩) (xn / 2) xc)).heap[ib]? = some (.cells #[.slice (some ⟨j0, 0, none⟩) nT k0, .slice (some ⟨j1, 0, none⟩) nS k1, .slice (some ⟨j2, 0, none⟩) n k2] 26 (0, 0))) := (Below.heap_setCell WD ⟨j2, i * 2 + 1, none⟩ _ ib HIJ.out).trans HXD.out
            refine hK.out _ _ ?_ (fun hHeld => ?_)
            · exact (HCI.out _ HX7'.out).2.2
            clear hK K
            try simp only [Act.put, List.setIfInBounds_toArray, List.set_cons_zero, List.set_cons_succ]
            refine wpAnyH_done (by kernel_rfl) ?_ _
            refine NoPanic.normal ?_
            clear hHeld
            have HCD : Hid (WD.heap[j2]? = some (.cells cur 53 (0, 0))) := (BD.out.block _ (lt_of_heap HCR.out)).trans HCR.out
            have GD7 : Hid (Gh W5.heap.size (WD.setCell ⟨j2, i * 2 + 1, none⟩ (.slice (some ⟨xg, 0, none⟩) (xn / 2) xc)) j2 k2 (D.set i ((D.getD i pfd).1, .slice (some ⟨xg, 0, none⟩) (xn / 2) xc, xl.take (xn / 2)))) := (HGP.out.up BD.out).cut i (by rw [HDL.out]; exact HIL.out) _ _ (HHF.out.up BD.out)
            have HT7 : Hid _ := (row_off (k := i * 2 + 1) (u := .slice (some ⟨xg, 0, none⟩) (xn / 2) xc) HCD.out (row_up HGT.out BD.out) (by decide)).1
            have HS7 : Hid _ := (row_off (k := i * 2 + 1) (u := .slice (some ⟨xg, 0, none⟩) (xn / 2) xc) HCD.out (row_up HGS.out BD.out) (by decide)).1
            have HM7 : Hid _ := (HMU.out.up BD.out).off (k := i * 2 + 1) (u := .slice (some ⟨xg, 0, none⟩) (xn / 2) xc) HCD.out (by decide)
            have B57' : Hid (Below W5.heap.size W5 (WD.setCell ⟨j2, i * 2 + 1, none⟩ (.slice (some ⟨xg, 0, none⟩) (xn / 2) xc))) := (below_trans HBW.out BD.out).setCell (p := ⟨j2, i * 2 + 1, none⟩) HJ2.out _
            have HDB7 : Hid (∀ x ∈ D.set i ((D.getD i pfd).1, .slice (some ⟨xg, 0, none⟩) (xn / 2) xc, xl.take (xn / 2)), x.2.2.length * 40 + 4096 ≤ 140737488355328) := fun x hx => by
              rcases List.mem_or_eq_of_mem_set hx with hx | rfl
              · exact HDB.out x hx
              · show (xl.take (xn / 2)).length * 40 + 4096 ≤ _; rw [List.length_take]; have := HLB.out; omega
            clear kD fD
            go_wp2_with fail
            go_roundg (n - (i + 1))
            case measure => have := HI.out; have := HIL.out; omega
            case rel => exact ⟨i + 1, by first | rfl | (rw [show (i : Int) + 1 = ((i + 1 : Nat) : Int) by omega]), _, by show _ = _; rw [List.length_set]; exact HDL.out, B57', ⟨HIL.out, rfl⟩, HX7', HT7, HS7, GD7, HDB7, HM7⟩
          · go_simp
            refine hK.out _ _ ?_ (fun hHeld => ?_)
            · exact (HCI.out _ HXD.out).2.2
            clear hK K
            try simp only [Act.put, List.setIfInBounds_toArray, List.set_cons_zero, List.set_cons_succ]
            refine wpAnyH_take (i := 15) (oi := { dst := _, op := _, type := _, pos := _, after := _, guard := _ }) (v := ?_) rfl (by kernel_rfl) (by kernel_rfl) (by kernel_rfl) (fun _ _ _ h => h) (Or.inl ⟨by rfl, ?_⟩) (by assumption) ?_
            rotate_left
            · intro W hSw
              (try dsimp only at hSw)
              go_simp
              (try with_reducible rfl)
            try simp only [Act.put, List.setIfInBounds_toArray, List.set_cons_zero, List.set_cons_succ]
            refine wpAnyH_take (i := 16) (oi := { dst := _, op := _, type := _, pos := _, after := _, guard := _ }) (v := ?_) rfl (by kernel_rfl) (by kernel_rfl) (by kernel_rfl) (fun _ _ _ h => h) (Or.inl ⟨by rfl, ?_⟩) (by assumption) ?_
            rotate_left
            · intro W hSw
              (try dsimp only at hSw)
              go_simp
              (try with_reducible rfl)
            try simp only [Act.put, List.setIfInBounds_toArray, List.set_cons_zero, List.set_cons_succ]
            refine wpAnyH_ready (rs := [8]) (by kernel_rfl) (by simp) ?_
            refine AllReadyH.cons (o := { dst := _, op := _, type := _, pos := _, after := _, guard := _ }) rfl (fun K hK => ?_) AllReadyH.nil
            go_simp
            refine hK.out _ _ ?_ (fun hHeld => ?_)
            · exact (HCI.out _ HXD.out).2.2
            clear hK K
            try simp only [Act.put, List.setIfInBounds_toArray, List.set_cons_zero, List.set_cons_succ]
            refine wpAnyH_take (i := 17) (oi := { dst := _, op := _, type := _, pos := _, after := _, guard := _ }) (v := ?_) rfl (by kernel_rfl) (by kernel_rfl) (by kernel_rfl) (fun _ _ _ h => h) (Or.inl ⟨by rfl, ?_⟩) (by assumption) ?_
            rotate_left
            · intro W hSw
              (try dsimp only at hSw)
              go_simp
              (try with_reducible rfl)
            try simp only [Act.put, List.setIfInBounds_toArray, List.set_cons_zero, List.set_cons_succ]
            refine wpAnyH_take (i := 18) (oi := { dst := _, op := _, type := _, pos := _, after := _, guard := _ }) (v := ?_) rfl (by kernel_rfl) (by kernel_rfl) (by kernel_rfl) (fun _ _ _ h => h) (Or.inl ⟨by rfl, ?_⟩) (by assumption) ?_
            rotate_left
            · intro W hSw
              (try dsimp only at hSw)
              go_simp
              (try with_reducible rfl)
            try simp only [Act.put, List.setIfInBounds_toArray, List.set_cons_zero, List.set_cons_succ]
            refine wpAnyH_take (i := 19) (oi := { dst := _, op := _, type := _, pos := _, after := _, guard := _ }) (v := ?_) rfl (by kernel_rfl) (by kernel_rfl) (by kernel_rfl) (fun _ _ _ h => h) (Or.inl ⟨by rfl, ?_⟩) (by assumption) ?_
            rotate_left
            · intro W hSw
              (try dsimp only at hSw)
              go_simp
              (try with_reducible rfl)
            try simp only [Act.put, List.setIfInBounds_toArray, List.set_cons_zero, List.set_cons_succ]
            refine wpAnyH_ready (rs := [20]) (by kernel_rfl) (by simp) ?_
            refine AllReadyH.cons (o := { dst := _, op := _, type := _, pos := _, after := _, guard := _ }) rfl (fun K hK => ?_) AllReadyH.nil
            go_simp
            have HX7' : Hid ((WD.setCell ⟨j2, i * 2 + 1, none⟩ (.slice (some ⟨xg, 0, none⟩) (xn / 2) xc)).heap[ib]? = some (.cells #[.slice (some ⟨j0, 0, none⟩) nT k0, .slice (some ⟨j1, 0, none⟩) nS k1, .slice (some ⟨j2, 0, none⟩) n k2] 26 (0, 0))) := (Below.heap_setCell WD ⟨j2, i * 2 + 1, none⟩ _ ib HIJ.out).trans HXD.out
            refine hK.out _ _ ?_ (fun hHeld => ?_)
            · exact (HCI.out _ HX7'.out).2.2
            clear hK K
            try simp only [Act.put, List.setIfInBounds_toArray, List.set_cons_zero, List.set_cons_succ]
            refine wpAnyH_done (by kernel_rfl) ?_ _
            refine NoPanic.normal ?_
            clear hHeld
            have HCD : Hid (WD.heap[j2]? = some (.cells cur 53 (0, 0))) := (BD.out.block _ (lt_of_heap HCR.out)).trans HCR.out
            have GD7 : Hid (Gh W5.heap.size (WD.setCell ⟨j2, i * 2 + 1, none⟩ (.slice (some ⟨xg, 0, none⟩) (xn / 2) xc)) j2 k2 (D.set i ((D.getD i pfd).1, .slice (some ⟨xg, 0, none⟩) (xn / 2) xc, xl.take (xn / 2)))) := (HGP.out.up BD.out).cut i (by rw [HDL.out]; exact HIL.out) _ _ (HHF.out.up BD.out)
            have HT7 : Hid _ := (row_off (k := i * 2 + 1) (u := .slice (some ⟨xg, 0, none⟩) (xn / 2) xc) HCD.out (row_up HGT.out BD.out) (by decide)).1
            have HS7 : Hid _ := (row_off (k := i * 2 + 1) (u := .slice (some ⟨xg, 0, none⟩) (xn / 2) xc) HCD.out (row_up HGS.out BD.out) (by decide)).1
            have HM7 : Hid _ := (HMU.out.up BD.out).off (k := i * 2 + 1) (u := .slice (some ⟨xg, 0, none⟩) (xn / 2) xc) HCD.out (by decide)
            have B57' : Hid (Below W5.heap.size W5 (WD.setCell ⟨j2, i * 2 + 1, none⟩ (.slice (some ⟨xg, 0, none⟩) (xn / 2) xc))) := (below_trans HBW.out BD.out).setCell (p := ⟨j2, i * 2 + 1, none⟩) HJ2.out _
            have HDB7 : Hid (∀ x ∈ D.set i ((D.getD i pfd).1, .slice (some ⟨xg, 0, none⟩) (xn / 2) xc, xl.take (xn / 2)), x.2.2.length * 40 + 4096 ≤ 140737488355328) := fun x hx => by
              rcases List.mem_or_eq_of_mem_set hx with hx | rfl
              · exact HDB.out x hx
              · show (xl.take (xn / 2)).length * 40 + 4096 ≤ _; rw [List.length_take]; have := HLB.out; omega
            clear kD fD
            go_wp2_with fail
            go_roundg (n - (i + 1))
            case measure => have := HI.out; have := HIL.out; omega
            case rel => exact ⟨i + 1, by first | rfl | (rw [show (i : Int) + 1 = ((i + 1 : Nat) : Int) by omega]), _, by show _ = _; rw [List.length_set]; exact HDL.out, B57', ⟨HIL.out, rfl⟩, HX7', HT7, HS7, GD7, HDB7, HM7⟩
        · have e1 : decide ((i : Int) < (n : Int)) = false := by rw [decide_eq_false_iff_not]; omega
          have e2 : decide (i < n) = false := by rw [decide_eq_false_iff_not]; omega
          clear hi
          have GXW : Hid (Gx wr (.slice (some ⟨j0, 0, none⟩) nT k0) (.slice (some ⟨j1, 0, none⟩) nS k1) (.slice (some ⟨j2, 0, none⟩) n k2) Te Sy D) := by
            have q0 := row_low HGT.out (n := Te.length) (by have := HNT.out; omega)
            have q1 := row_low HGS.out (n := Sy.length) (by have := HNS.out; omega)
            rw [flat_take tdf_len, HNT.out] at q0
            rw [flat_take sdf_len, HNS.out] at q1
            have q2 := HGP.out.rw
            rw [HDL.out] at q2
            exact ⟨by rw [HNT.out]; exact row_rw q0 (by decide), by rw [HNS.out]; exact row_rw q1 (by decide), ⟨⟨_, _, by rw [HNT.out]⟩, ⟨_, _, by rw [HNS.out]⟩, by rw [HDL.out]; exact q2, fun x hx => (HGP.out.r x hx).rw⟩⟩
          have GSD : Hid (Gs Te Sy D) := ⟨HS.out.t, HS.out.s, by rw [HDL.out]; exact HBT.out.2.2, HDB.out⟩
          have GZD : Hid (Gz nT nS D) := by have h9 := GSD.out.gz; rw [HNT.out, HNS.out] at h9; exact h9
          have HMW : Hid (Rw wr (.slice (some ⟨mg, 0, none⟩) na mc) m.length (flat rf m)) := HMU.out.rw
          have BWW : Hid (Below w.heap.size w wr) := below_trans B05.out HBW.out
          go_upto_region 19 with fail
          clear e1 e2 HI
          go_upto_region 20 with (first | (go_at_call 16; refine (twin_any wr GXW.out GSD.out).mono ?_; rintro e Z1 ⟨u0, u1, u2, E, rfl, hw1, hq1, hb1⟩; have BZ1 : Hid (Below wr.heap.size wr Z1) := hb1; have HED : Hid (E.map pd2 = D.map pd2) := hq1; have GE : Hid (Gm Z1 u0 u1 u2 nT nS E) := (by have h9 := hw1.gx.g; rw [HNT.out, HNS.out] at h9; exact h9); clear hw1 hq1 hb1) | (go_at_call 17; refine (twinRow_any Z1 (HMW.out.up BZ1.out) HMB.out).mono ?_; rintro e Z2 ⟨rv3, rfl, ho, hz2⟩; have BZ12 : Hid (Below Z1.heap.size Z1 Z2) := hz2; have HRZ : Hid (Rw Z2 rv3 m.length (flat rf m)) := row_rw ho (by decide); clear hz2 ho) | (go_at_call 18; refine (rof_any Z2 (GE.out.up BZ12.out) (by have h9 := (GSD.out.pd2 HED.out).gz; rw [HNT.out, HNS.out] at h9; exact h9) HRZ.out (by have := HMB.out; omega) HBH.out).mono ?_; rintro e Z3 ⟨rfl, hz3⟩; have BZ3 : Hid (Below wr.heap.size wr Z3) := below_trans BZ1.out (below_trans BZ12.out hz3); clear hz3; rw [ofp_pd2 HED.out]))
          obtain ⟨t3, ht3⟩ : ∃ t, ofp nT nS D m bh = t := ⟨_, rfl⟩
          have HT3 : Hid (ofp nT nS D m bh = t3) := ht3
          rw [ht3]
          clear ht3 i0 i1 i2
          have tt3 : ((t3 : Int) == (t3 : Int)) = true := by rw [beq_iff_eq]
          obtain ⟨i0, i1, i2⟩ := HCI.out Z3 ((BZ3.out.block _ (lt_of_heap HX.out)).trans HX.out)
          have GMD : Hid (Gm Z3 (.slice (some ⟨j0, 0, none⟩) nT k0) (.slice (some ⟨j1, 0, none⟩) nS k1) (.slice (some ⟨j2, 0, none⟩) n k2) nT nS D) := by have h9 := (GXW.out.up BZ3.out).g; rw [HNT.out, HNS.out] at h9; exact h9
          go_wp2_with (go_at_call 9; refine (of_any Z3 GMD.out GZD.out (HMW.out.up BZ3.out) (by have := HMB.out; omega) HBH.out).mono ?_; rintro e Z4 ⟨rfl, -, hz4⟩; have BZ4 : Hid (Below Z3.heap.size Z3 Z4) := hz4; clear hz4; rw [HT3.out])
          go_ret
          exact ⟨rfl, below_trans BWW.out (below_trans BZ3.out BZ4.out)⟩
end Go.Proofs.Ytodncbkdlnepjaa
