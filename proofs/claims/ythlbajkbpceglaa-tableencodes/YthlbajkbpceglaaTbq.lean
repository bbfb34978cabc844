import Derived.Test.YthlbajkbpceglaaTbi
import Derived.Test.YthlbajkbpceglaaTbm
namespace Go.Proofs.Ythlbajkbpceglaa
open Go.RowKit Go.Maps

/-- Two bytes laid in a new block are a row of the call's own. -/
theorem byt_two (w : World) (B : Nat) (hB : B ≤ w.heap.size) : Byt B (w.alloc (.cells #[.int .u8 84, .int .u8 1] 5)) (.slice (some ⟨w.heap.size, 0, none⟩) 2 2) [84, 1] :=
  ⟨rfl, Or.inr ⟨w.heap.size, 2, _, rfl, hB, heap_new _ _, Nat.le_refl _, by unfold maxLen; omega, rfl, rfl⟩⟩
theorem byt_cat {B : Nat} {W : World} {v : Value} {l k : List UInt8} (h : W.ownsRow B 5 1 v (l.length + k.length) (Lib.byteCells l ++ Lib.byteCells k)) : Byt B W v (l ++ k) := by
  unfold Byt
  have e : Lib.byteCells (l ++ k) = Lib.byteCells l ++ Lib.byteCells k := by simp [Lib.byteCells]
  rw [List.length_append, e]
  exact h
theorem gr_of {w w' : World} {v v' : Value} (h : w.grownBy w' v.ownBlock) (ha : v'.ownBlock = v.ownBlock ∨ v'.ownBlock = some w.heap.size) : Gr w w' v v' :=
  ⟨h, fun r hr => ha.elim (fun e => .inr (e ▸ hr)) (fun e => by rw [hr] at e; cases e; exact .inl (Nat.le_refl _))⟩
theorem bcells_len (l : List UInt8) : (Lib.byteCells l).length = l.length * 1 := by simp [Lib.byteCells]
theorem bcells_one (l : List UInt8) : ∀ u ∈ Lib.byteCells l, u.oneCell' = true := fun u hu => by
  simp only [Lib.byteCells, List.mem_map] at hu
  obtain ⟨x, _, rfl⟩ := hu
  rfl
/-- A row of counts that was made just now. -/
theorem cnt_row {B k : Nat} {W : World} {v : Value} (h : Byt B W v (nm k)) : ∃ g cap, v = .slice (some ⟨g, 0, none⟩) (nm k).length cap ∧ ∀ j u, (Lib.byteCells (nm k))[j]? = some u → W.cell? ((⟨g, 0, none⟩ : Addr).add j) = some u := by
  obtain ⟨g, cap, e, -, -, -⟩ := row_form h (nm_pos k)
  refine ⟨g, cap, e, fun j u hu => ?_⟩
  subst e
  rw [addPl, Nat.zero_add]
  exact row_at h j u hu
/-- The bytes of a table, nothing of one that is not well shaped. -/
def enc (A : List (Value × List Ak)) (G : List (Value × List Int)) : ByteArray := if shd (A.map Prod.snd) (G.map Prod.snd) = true then ⟨(img A.length (A.getD 0 nrd).2.length (G.getD 0 nrd).2.length (A.map Prod.snd) (G.map Prod.snd)).toArray⟩ else ⟨#[]⟩
theorem enc_same {A A' : List (Value × List Ak)} {G G' : List (Value × List Int)} (hA : A'.map Prod.snd = A.map Prod.snd) (hG : G'.map Prod.snd = G.map Prod.snd) : enc A' G' = enc A G := by
  have h1 : A'.length = A.length := by have := congrArg List.length hA; simpa using this
  have h2 : (A'.getD 0 nrd).2 = (A.getD 0 nrd).2 := by rw [← snd_getD, ← snd_getD, hA]
  have h3 : (G'.getD 0 nrd).2 = (G.getD 0 nrd).2 := by rw [← snd_getD, ← snd_getD, hG]
  unfold enc
  rw [hA, hG, h1, h2, h3]
theorem conv_row {B cap g : Nat} {W : World} {t : List UInt8} (h : Byt B W (.slice (some ⟨g, 0, none⟩) t.length cap) t) : (convert 41 9 (.slice (some ⟨g, 0, none⟩) t.length cap)).run Try.prog W = .ok (.string ⟨t.toArray⟩) W := by
  refine run_convert_bytes_back W 41 9 5 ⟨g, 0, none⟩ cap t Try.underlying41 Try.underlying5 Try.underlying9 (fun j hj => ?_)
  rw [addPl, Nat.zero_add]
  refine row_at h j _ ?_
  simp [Lib.byteCells, hj]
set_option maxRecDepth 100000 in
set_option maxHeartbeats 16000000 in
theorem encode_any {v0 v1 : Value} {A : List (Value × List Ak)} {G : List (Value × List Int)} (w : World) (h : Tb w v0 v1 A G) (hs : Ts A G) :
    Calls Try.prog 10 #[.agg #[v0, v1]] w fun e w' => e = .returned (.string (enc A G)) ∧ Below w.heap.size w w' := by
  have HT : Hid (Tb w v0 v1 A G) := h
  have HS : Hid (Ts A G) := hs
  obtain ⟨a0, c0, a1, c1, rfl, rfl⟩ := h.form
  clear h hs
  obtain ⟨E, hE⟩ : ∃ E, enc A G = E := ⟨_, rfl⟩
  have HE : Hid (enc A G = E) := hE
  rw [hE]
  clear hE
  obtain ⟨W1, hW1⟩ : ∃ W1, W1 = w.alloc (.cells #[.slice a0 A.length c0, .slice a1 G.length c1] 25) := ⟨_, rfl⟩
  have HB1 : Hid (Below w.heap.size w W1) := by rw [hW1]; exact bel_up _ _
  have HX1 : Hid (W1.heap[w.heap.size]? = some (.cells #[.slice a0 A.length c0, .slice a1 G.length c1] 25 (0, 0))) := by rw [hW1]; exact heap_new _ _
  have HT1 : Hid (Tb W1 (.slice a0 A.length c0) (.slice a1 G.length c1) A G) := HT.out.up HB1.out
  go_enter Try.func10, Try.ntmps10
  go_upto_region 1 with fail
  rw [← hW1]
  clear hW1
  obtain ⟨tb, htb⟩ : ∃ tb, w.heap.size = tb := ⟨_, rfl⟩
  rw [htb] at HX1 ⊢
  clear htb
  have x0 := rcell HX1.out 0 _ rfl
  have x1 := rcell HX1.out 1 _ rfl
  cases hf : shd (A.map Prod.snd) (G.map Prod.snd) with
  | false =>
    have HF : Hid (shd (A.map Prod.snd) (G.map Prod.snd) = false) := hf
    clear hf
    go_wp2_with (go_at_call 13; refine (shaped_any W1 HT1.out HS.out).mono ?_; rintro e W2 ⟨rfl, hb2⟩; have B2 : Hid (Below W1.heap.size W1 W2) := hb2; clear hb2; rw [HF.out])
    go_ret
    refine ⟨?_, below_trans HB1.out B2.out⟩
    rw [← HE.out, enc, if_neg (by rw [HF.out]; simp)]
    rfl
  | true =>
    have HF : Hid (shd (A.map Prod.snd) (G.map Prod.snd) = true) := hf
    clear hf
    have HEQ : Hid ((⟨(img A.length (A.getD 0 nrd).2.length (G.getD 0 nrd).2.length (A.map Prod.snd) (G.map Prod.snd)).toArray⟩ : ByteArray) = E) := by show _ = _; rw [← HE.out, enc, if_pos HF.out]
    have HSX : Hid (Sx A G A.length (A.getD 0 nrd).2.length (G.getD 0 nrd).2.length) := sx_of HF.out
    go_upto_region 3 with (go_at_call 13; refine (shaped_any W1 HT1.out HS.out).mono ?_; rintro e W2 ⟨rfl, hb2⟩; have B2 : Hid (Below W1.heap.size W1 W2) := hb2; clear hb2; rw [HF.out])
    clear x0 x1
    have x0 := below_cell B2.out (rcell HX1.out 0 _ rfl)
    have x1 := below_cell B2.out (rcell HX1.out 1 _ rfl)
    obtain ⟨t, ht⟩ : ∃ t, img A.length (A.getD 0 nrd).2.length (G.getD 0 nrd).2.length (A.map Prod.snd) (G.map Prod.snd) = t := ⟨_, rfl⟩
    have HTP : Hid (0 < t.length) := by show 0 < _; rw [← ht]; simp [img, hdr]
    have HIM : Hid (Calls Try.prog 14 #[.agg #[.slice a0 A.length c0, .slice a1 G.length c1]] W2 fun e w' => ∃ v', e = .returned v' ∧ Byt W2.heap.size w' v' t ∧ Below W2.heap.size W2 w') := by rw [← ht]; exact image_any W2 (HT1.out.up B2.out) HSX.out
    rw [ht] at HEQ
    clear ht
    go_wp2_with (go_at_call 14; refine Calls.mono HIM.out ?_; rintro e W3 ⟨v3, rfl, hy3, hb3⟩; have HY3 : Hid (Byt W2.heap.size W3 v3 t) := hy3; have B3 : Hid (Below W2.heap.size W2 W3) := hb3; obtain ⟨g3, k3, e3, -, -, -⟩ := row_form hy3 HTP.out; subst e3; have hcv := conv_row hy3; clear hy3 hb3)
    go_ret
    exact ⟨by rw [← HEQ.out]; rfl, below_trans HB1.out (below_trans B2.out B3.out)⟩

set_option maxRecDepth 100000 in
set_option maxHeartbeats 16000000 in
theorem rencode_yes {v0 v1 : Value} {A : List (Value × List Ak)} {G : List (Value × List Int)} {n tk sy : Nat} (w : World) (h : Tb w v0 v1 A G) (hs : Ts A G) (hx : Sx A G n tk sy) (hf : shd (A.map Prod.snd) (G.map Prod.snd) = true) :
    Calls Try.prog 11 #[.agg #[v0, v1]] w fun e w' => e = .returned (.string ⟨(img n tk sy (A.map Prod.snd) (G.map Prod.snd)).toArray⟩) ∧ Below w.heap.size w w' := by
  have HT : Hid (Tb w v0 v1 A G) := h
  have HTS : Hid (Ts A G) := hs
  have HF : Hid (shd (A.map Prod.snd) (G.map Prod.snd) = true) := hf
  have HS : Hid (Sx A G n tk sy) := hx
  obtain ⟨a0, c0, a1, c1, rfl, rfl⟩ := h.form
  clear h hx hs hf
  rw [HS.out.a, HS.out.g] at HT ⊢
  obtain ⟨RR, hRR⟩ : ∃ x, Ending.returned (.string ⟨(img n tk sy (A.map Prod.snd) (G.map Prod.snd)).toArray⟩) = x := ⟨_, rfl⟩
  have HRR : Hid (Ending.returned (.string ⟨(img n tk sy (A.map Prod.snd) (G.map Prod.snd)).toArray⟩) = RR) := hRR
  rw [hRR]
  clear hRR
  obtain ⟨i5, hi, h0, h1, h2⟩ := info_parts info5
  have HI5 : Hid (Try.prog.info? 5 = some i5 ∧ i5.zero = some (.int .u8 0) ∧ i5.size = 1 ∧ i5.bytes = 1) := ⟨hi, h0, h1, h2⟩
  clear hi h0 h1 h2
  obtain ⟨g, oo, cap, a, c, q0, q1, q2, q3⟩ := HT.out.a.at 0 (by rw [HS.out.a]; exact HS.out.n1)
  obtain ⟨rfl, -, rfl⟩ := Value.slice.inj q0
  obtain ⟨g', oo', cap', a', c', p0, p1, p2, p3⟩ := HT.out.g.at 0 (by rw [HS.out.g]; exact HS.out.n1)
  obtain ⟨rfl, -, rfl⟩ := Value.slice.inj p0
  rw [(HS.out.ra 0 HS.out.n1).1, Nat.add_zero] at q2
  rw [(HS.out.rg 0 HS.out.n1).1, Nat.add_zero] at p2
  have HC0 : Hid (w.cell? ⟨g, oo, none⟩ = some (.slice a tk c)) := q2
  have HC1 : Hid (w.cell? ⟨g', oo', none⟩ = some (.slice a' sy c')) := p2
  clear q0 q1 q2 q3 p0 p1 p2 p3
  obtain ⟨W0, hW0⟩ : ∃ W0, W0 = w.alloc (.cells #[.slice (some ⟨g, oo, none⟩) n c0, .slice (some ⟨g', oo', none⟩) n c1] 25) := ⟨_, rfl⟩
  have HB0 : Hid (Below w.heap.size w W0) := by rw [hW0]; exact bel_up _ _
  have HX0 : Hid (W0.heap[w.heap.size]? = some (.cells #[.slice (some ⟨g, oo, none⟩) n c0, .slice (some ⟨g', oo', none⟩) n c1] 25 (0, 0))) := by rw [hW0]; exact heap_new _ _
  have e5 : (0 : Int) < (n : Int) := by have := HS.out.n1; omega
  have e6 : 0 < n := HS.out.n1
  go_enter Try.func11, Try.ntmps11
  go_upto_region 1 with fail
  rw [← hW0]
  clear hW0
  obtain ⟨tb, htb⟩ : ∃ tb, w.heap.size = tb := ⟨_, rfl⟩
  rw [htb] at HX0 ⊢
  clear htb
  have x0 := rcell HX0.out 0 _ rfl
  have x1 := rcell HX0.out 1 _ rfl
  go_upto_region 4 with (go_at_call 15; refine (rshaped_any W0 (HT.out.up HB0.out) HTS.out).mono ?_; rintro e WS ⟨rfl, hbs⟩; have BS : Hid (Below W0.heap.size W0 WS) := hbs; clear hbs; rw [HF.out])
  clear x0 x1
  go_upto_region 5 with fail
  obtain ⟨W1, hW1⟩ : ∃ W1, W1 = WS.alloc (.cells #[.int .u8 84, .int .u8 1] 5) := ⟨_, rfl⟩
  rw [← hW1]
  have HBS : Hid (Below w.heap.size w WS) := below_trans HB0.out BS.out
  have HY1 : Hid (Byt w.heap.size W1 (.slice (some ⟨WS.heap.size, 0, none⟩) 2 2) [84, 1]) := by rw [hW1]; exact byt_two WS _ HBS.out.size
  have HU1 : Hid (Below WS.heap.size WS W1) := by rw [hW1]; exact bel_up _ _
  have HB1 : Hid (Below w.heap.size w W1) := below_trans HBS.out HU1.out
  have HX1 : Hid (W1.heap[tb]? = some (.cells #[.slice (some ⟨g, oo, none⟩) n c0, .slice (some ⟨g', oo', none⟩) n c1] 25 (0, 0))) := ((below_trans BS.out HU1.out).block _ (lt_of_heap HX0.out)).trans HX0.out
  clear hW1 HB0 HX0 HU1 BS HBS
  have HNL : Hid ((nm n).length ≤ 2 ∧ (nm tk).length ≤ 2 ∧ (nm sy).length ≤ 2) := ⟨nm_two n (by have := HS.out.n2; omega), nm_two tk (by have := HS.out.t2; omega), nm_two sy (by have := HS.out.s2; omega)⟩
  obtain ⟨l1, hl1⟩ : ∃ l : List UInt8, [84, 1] = l := ⟨_, rfl⟩
  have HL1 : Hid ([84, 1] = l1) := hl1
  rw [hl1] at HY1
  clear hl1
  have HZ1 : Hid (l1.length ≤ 4) := by show _ ≤ _; rw [← HL1.out]; decide
  have x0 := rcell HX1.out 0 _ rfl
  have x1 := rcell HX1.out 1 _ rfl
  have y0 := below_cell HB1.out HC0.out
  have y1 := below_cell HB1.out HC1.out
  go_upto_region 6 with (first | (go_at_call 16; refine (rcount_any n (by have := HS.out.n2; rw [pow9]; omega) _).mono ?_; rintro e W5 ⟨uc, rfl, hyc, hbc⟩; have B5 : Hid (Below W1.heap.size W1 W5) := hbc; obtain ⟨gc, cc, ec, hcells⟩ := cnt_row hyc; subst ec; have HNC : Hid (∀ j u, (Lib.byteCells (nm n))[j]? = some u → W5.cell? ((⟨gc, 0, none⟩ : Addr).add j) = some u) := hcells; clear hyc hbc hcells) | (at_builtin; refine wpList_append_own_at _ rfl _ _ 41 rfl w.heap.size 5 i5 (.int .u8 0) 1 1 Try.underlying41 HI5.out.1 HI5.out.2.1 HI5.out.2.2.1 HI5.out.2.2.2 rfl (by decide) _ _ _ rfl (row_up HY1.out B5.out) ⟨gc, 0, none⟩ (nm n).length cc (Lib.byteCells (nm n)) rfl (bcells_len _) HNC.out (bcells_one _) (by have := HNL.out; have := HZ1.out; unfold maxLen; omega) (by have := HNL.out; have := HZ1.out; omega) (below_trans HB1.out B5.out).size ?_; intro v9 W2 ho9 hg9 _ ha9; have HY2 : Hid (Byt w.heap.size W2 v9 (l1 ++ nm n)) := byt_cat ho9; have HG2 : Hid (Gr W5 W2 _ v9) := gr_of hg9 ha9; obtain ⟨z2, y2, hz⟩ := row_shape ho9; obtain ⟨m2, hm2⟩ : ∃ m, l1.length + (nm n).length = m := ⟨_, rfl⟩; rw [hm2] at hz; subst hz; clear ho9 hg9 ha9 hm2))
  clear x0 x1 y0 y1
  have HX2 : Hid (W2.heap[tb]? = some (.cells #[.slice (some ⟨g, oo, none⟩) n c0, .slice (some ⟨g', oo', none⟩) n c1] 25 (0, 0))) := box_gr HG2.out (row_up HY1.out B5.out) ((B5.out.block _ (lt_of_heap HX1.out)).trans HX1.out)
  have HB2 : Hid (Below w.heap.size w W2) := gr_bel HG2.out (row_up HY1.out B5.out) (below_trans HB1.out B5.out) (Nat.le_refl _)
  obtain ⟨l2, hl2⟩ : ∃ l, l1 ++ nm n = l := ⟨_, rfl⟩
  have HL2 : Hid (l1 ++ nm n = l2) := hl2
  rw [hl2] at HY2
  clear hl2
  have HZ2 : Hid (l2.length ≤ 6) := by have h2 := HNL.out; have h4 := HZ1.out; show _ ≤ _; rw [← HL2.out, List.length_append]; omega
  clear HX1 HB1 HY1 HG2 B5 HNC
  have x0 := rcell HX2.out 0 _ rfl
  have x1 := rcell HX2.out 1 _ rfl
  have y0 := below_cell HB2.out HC0.out
  have y1 := below_cell HB2.out HC1.out
  go_upto_region 7 with (first | (go_at_call 16; refine (rcount_any tk (by have := HS.out.t2; rw [pow9]; omega) _).mono ?_; rintro e W5 ⟨uc, rfl, hyc, hbc⟩; have B5 : Hid (Below W2.heap.size W2 W5) := hbc; obtain ⟨gc, cc, ec, hcells⟩ := cnt_row hyc; subst ec; have HNC : Hid (∀ j u, (Lib.byteCells (nm tk))[j]? = some u → W5.cell? ((⟨gc, 0, none⟩ : Addr).add j) = some u) := hcells; clear hyc hbc hcells) | (at_builtin; refine wpList_append_own_at _ rfl _ _ 41 rfl w.heap.size 5 i5 (.int .u8 0) 1 1 Try.underlying41 HI5.out.1 HI5.out.2.1 HI5.out.2.2.1 HI5.out.2.2.2 rfl (by decide) _ _ _ rfl (row_up HY2.out B5.out) ⟨gc, 0, none⟩ (nm tk).length cc (Lib.byteCells (nm tk)) rfl (bcells_len _) HNC.out (bcells_one _) (by have := HNL.out; have := HZ2.out; unfold maxLen; omega) (by have := HNL.out; have := HZ2.out; omega) (below_trans HB2.out B5.out).size ?_; intro v9 W3 ho9 hg9 _ ha9; have HY3 : Hid (Byt w.heap.size W3 v9 (l2 ++ nm tk)) := byt_cat ho9; have HG3 : Hid (Gr W5 W3 _ v9) := gr_of hg9 ha9; obtain ⟨z3, y3, hz⟩ := row_shape ho9; obtain ⟨m3, hm3⟩ : ∃ m, l2.length + (nm tk).length = m := ⟨_, rfl⟩; rw [hm3] at hz; subst hz; clear ho9 hg9 ha9 hm3))
  clear x0 x1 y0 y1
  have HX3 : Hid (W3.heap[tb]? = some (.cells #[.slice (some ⟨g, oo, none⟩) n c0, .slice (some ⟨g', oo', none⟩) n c1] 25 (0, 0))) := box_gr HG3.out (row_up HY2.out B5.out) ((B5.out.block _ (lt_of_heap HX2.out)).trans HX2.out)
  have HB3 : Hid (Below w.heap.size w W3) := gr_bel HG3.out (row_up HY2.out B5.out) (below_trans HB2.out B5.out) (Nat.le_refl _)
  obtain ⟨l3, hl3⟩ : ∃ l, l2 ++ nm tk = l := ⟨_, rfl⟩
  have HL3 : Hid (l2 ++ nm tk = l3) := hl3
  rw [hl3] at HY3
  clear hl3
  have HZ3 : Hid (l3.length ≤ 8) := by have h2 := HNL.out; have h4 := HZ2.out; show _ ≤ _; rw [← HL3.out, List.length_append]; omega
  clear HX2 HB2 HY2 HG3 B5 HNC
  have x0 := rcell HX3.out 0 _ rfl
  have x1 := rcell HX3.out 1 _ rfl
  have y0 := below_cell HB3.out HC0.out
  have y1 := below_cell HB3.out HC1.out
  go_upto_region 8 with (first | (go_at_call 16; refine (rcount_any sy (by have := HS.out.s2; rw [pow9]; omega) _).mono ?_; rintro e W5 ⟨uc, rfl, hyc, hbc⟩; have B5 : Hid (Below W3.heap.size W3 W5) := hbc; obtain ⟨gc, cc, ec, hcells⟩ := cnt_row hyc; subst ec; have HNC : Hid (∀ j u, (Lib.byteCells (nm sy))[j]? = some u → W5.cell? ((⟨gc, 0, none⟩ : Addr).add j) = some u) := hcells; clear hyc hbc hcells) | (at_builtin; refine wpList_append_own_at _ rfl _ _ 41 rfl w.heap.size 5 i5 (.int .u8 0) 1 1 Try.underlying41 HI5.out.1 HI5.out.2.1 HI5.out.2.2.1 HI5.out.2.2.2 rfl (by decide) _ _ _ rfl (row_up HY3.out B5.out) ⟨gc, 0, none⟩ (nm sy).length cc (Lib.byteCells (nm sy)) rfl (bcells_len _) HNC.out (bcells_one _) (by have := HNL.out; have := HZ3.out; unfold maxLen; omega) (by have := HNL.out; have := HZ3.out; omega) (below_trans HB3.out B5.out).size ?_; intro v9 W4 ho9 hg9 _ ha9; have HY4 : Hid (Byt w.heap.size W4 v9 (l3 ++ nm sy)) := byt_cat ho9; have HG4 : Hid (Gr W5 W4 _ v9) := gr_of hg9 ha9; obtain ⟨z4, y4, hz⟩ := row_shape ho9; obtain ⟨m4, hm4⟩ : ∃ m, l3.length + (nm sy).length = m := ⟨_, rfl⟩; rw [hm4] at hz; subst hz; clear ho9 hg9 ha9 hm4))
  clear x0 x1 y0 y1
  have HX4 : Hid (W4.heap[tb]? = some (.cells #[.slice (some ⟨g, oo, none⟩) n c0, .slice (some ⟨g', oo', none⟩) n c1] 25 (0, 0))) := box_gr HG4.out (row_up HY3.out B5.out) ((B5.out.block _ (lt_of_heap HX3.out)).trans HX3.out)
  have HB4 : Hid (Below w.heap.size w W4) := gr_bel HG4.out (row_up HY3.out B5.out) (below_trans HB3.out B5.out) (Nat.le_refl _)
  obtain ⟨l4, hl4⟩ : ∃ l, l3 ++ nm sy = l := ⟨_, rfl⟩
  have HL4 : Hid (l3 ++ nm sy = l4) := hl4
  rw [hl4] at HY4
  clear hl4
  have HZ4 : Hid (l4.length ≤ 10) := by have h2 := HNL.out; have h4 := HZ3.out; show _ ≤ _; rw [← HL4.out, List.length_append]; omega
  clear HX3 HB3 HY3 HG4 B5 HNC
  have HHD : Hid (hdr n tk sy = l4) := by show _ = _; rw [← HL4.out, ← HL3.out, ← HL2.out, ← HL1.out]; rfl
  obtain ⟨hd, hhd⟩ : ∃ x, l4 = x := ⟨_, rfl⟩
  have HY : Hid (Byt w.heap.size W4 (.slice z4 m4 y4) hd) := by rw [← hhd]; exact HY4.out
  have HHL : Hid (hd.length ≤ 10) := by rw [← hhd]; exact HZ4.out
  rw [hhd] at HHD
  clear hhd HY4
  go_upto_region 9 with fail
  go_loopg [4, 5] n (fun gm v4 v5 wr => ∃ i : Nat, v5 = .int .i64 (i : Int) ∧ ∃ (ra : Option Addr) (m rc : Nat), v4 = .slice ra m rc ∧ Hid (Below w.heap.size w wr) ∧ Hid (i ≤ n ∧ gm = n - i) ∧ Hid (wr.heap[tb]? = some (.cells #[.slice (some ⟨g, oo, none⟩) n c0, .slice (some ⟨g', oo', none⟩) n c1] 25 (0, 0))) ∧ ∃ q : List UInt8, Hid (q = hd ++ ((A.map Prod.snd).take i).flatMap aimg) ∧ Hid (q.length ≤ 10 + i * 128) ∧ Hid (Byt w.heap.size wr (.slice ra m rc) q))
  case atStart => exact ⟨0, rfl, _, _, _, rfl, HB4, ⟨Nat.zero_le _, rfl⟩, HX4, _, by show _ = _; rw [List.take_zero]; exact (List.append_nil _).symm, by have := HHL.out; show _ ≤ _; omega, HY⟩
  case round =>
    clear HY HB4 HX4
    obtain ⟨i, rfl, ra, m, rc, rfl, HBW, HI, HX, q, HQ, HQL, HY⟩ := hrel
    have x0 := rcell HX.out 0 _ rfl
    by_cases hi : i < n
    · obtain ⟨a2, c2, q2, q3⟩ := HT.out.a.row i (by rw [HS.out.a]; exact hi)
      obtain ⟨r1, r2⟩ := HS.out.ra i hi
      have HRS : Hid (((A.map Prod.snd).take (i + 1)).flatMap aimg = ((A.map Prod.snd).take i).flatMap aimg ++ aimg (A.getD i nrd).2) := by
        have h9 := rows_step aimg (A.map Prod.snd) i (by rw [List.length_map, HS.out.a]; exact hi)
        rw [snd_getD] at h9
        exact h9
      obtain ⟨l, hl⟩ : ∃ l, (A.getD i nrd).2 = l := ⟨_, rfl⟩
      rw [hl] at q2 q3 r1 r2 HRS
      rw [r1] at q2 q3
      have HLL : Hid (l.length = tk) := r1
      have HAL : Hid (∀ x ∈ l, fts n x = true) := r2
      have HR : Hid (Rw w (.slice a2 tk c2) tk (flat af l)) := q3
      have KW : Hid (∀ W, Below w.heap.size w W → W.cell? ⟨g, oo + i, none⟩ = some (.slice a2 tk c2)) := fun W hW => below_cell hW q2
      have e1 : decide ((i : Int) < (n : Int)) = true := by rw [decide_eq_true_eq]; omega
      have e2 : decide (i < n) = true := by rw [decide_eq_true_eq]; omega
      have e5 : (i : Int) < (n : Int) := by omega
      have e6 : i < n := hi
      have HIL : Hid (i < n) := hi
      have hwr := w64n i (by have := HS.out.n2; have := HIL.out; omega)
      clear hi hl r1 r2 q2 q3
      go_upto_region 12 with fail
      clear e1 e2 x0
      go_loopg [4, 6] tk (fun gm v4 v6 wr => ∃ j : Nat, v6 = .int .i64 (j : Int) ∧ ∃ (ra : Option Addr) (m rc : Nat), v4 = .slice ra m rc ∧ Hid (Below w.heap.size w wr) ∧ Hid (j ≤ tk ∧ gm = tk - j) ∧ Hid (wr.heap[tb]? = some (.cells #[.slice (some ⟨g, oo, none⟩) n c0, .slice (some ⟨g', oo', none⟩) n c1] 25 (0, 0))) ∧ ∃ p : List UInt8, Hid (p = q ++ aimg (l.take j)) ∧ Hid (p.length ≤ 10 + i * 128 + j * 2) ∧ Hid (Byt w.heap.size wr (.slice ra m rc) p))
      case atStart => exact ⟨0, rfl, _, _, _, rfl, HBW, ⟨Nat.zero_le _, rfl⟩, HX, q, (List.append_nil _).symm, HQL, HY⟩
      case round =>
        clear HBW HX HY
        obtain ⟨j, rfl, ra, m, rc, rfl, HBW, HJ, HX, p, HP, HPL, HY⟩ := hrel
        have x0 := rcell HX.out 0 _ rfl
        have w0 := KW.out _ HBW.out
        by_cases hj : j < tk
        · obtain ⟨g2, o2, cap2, e0, hc⟩ := HR.out.place (by omega)
          obtain ⟨rfl, -, rfl⟩ := Value.slice.inj e0
          have hjl : j < l.length := by rw [HLL.out]; exact hj
          obtain ⟨q0, q1⟩ := af_get l j hjl
          have k0 := below_cell HBW.out (hc _ _ q0)
          have k1 := below_cell HBW.out (hc _ _ q1)
          rw [← Nat.add_assoc] at k1
          have HST : Hid (aimg (l.take (j + 1)) = aimg (l.take j) ++ nm (cnt (l.getD j akd))) := aimg_step l j hjl
          have HFT : Hid (fts n (l.getD j akd) = true) := HAL.out _ (getD_mem l akd j hjl)
          obtain ⟨x, hx⟩ : ∃ x, l.getD j akd = x := ⟨_, rfl⟩
          rw [hx] at k0 k1 HST HFT
          clear hx hjl q0 q1 hc e0
          have HCL : Hid (cnt x < 4099) := cnt_lt HFT.out HS.out.n2
          have HNB : Hid (∀ y : Ak, y = x → (y.1 = 1 ∨ y.1 = 2) → 0 ≤ y.2 ∧ y.2 < 2048) := fun y e => by subst e; exact fts_num HFT.out HS.out.n2
          have HCN : Hid (cnt x = if x.1 = 3 then 1 else if x.1 = 1 then 2 + 2 * x.2.toNat else if x.1 = 2 then 3 + 2 * x.2.toNat else 0) := rfl
          obtain ⟨t, ht⟩ : ∃ t, cnt x = t := ⟨_, rfl⟩
          rw [ht] at HST HCL HCN
          clear ht
          obtain ⟨xa, xb⟩ := x
          dsimp only at k0 k1
          have HCM : Hid (t = if xa = 3 then 1 else if xa = 1 then 2 + 2 * xb.toNat else if xa = 2 then 3 + 2 * xb.toNat else 0) := HCN.out
          have HNM : Hid ((xa = 1 ∨ xa = 2) → 0 ≤ xb ∧ xb < 2048) := HNB.out (xa, xb) rfl
          clear HCN HNB
          have t1 : decide ((j : Int) < (tk : Int)) = true := by rw [decide_eq_true_eq]; omega
          have t2 : decide (j < tk) = true := by rw [decide_eq_true_eq]; omega
          have t5 : (j : Int) < (tk : Int) := by omega
          have t6 : j < tk := hj
          have HJL : Hid (j < tk) := hj
          have hwj := w64n j (by have := HS.out.t2; have := HJL.out; omega)
          have HPB : Hid (p.length ≤ 1000000000) := by have := HPL.out; have := HS.out.n2; have := HS.out.t2; have := HIL.out; have := HJL.out; show _ ≤ _; omega
          have HN2 : Hid ((nm t).length ≤ 2) := nm_two t (by have := HCL.out; omega)
          clear hj
          by_cases h3 : xa = 3
          · have HVT : Hid ((1 : Int) = ((t : Nat) : Int)) := by show _ = _; rw [HCM.out, if_pos h3]; rfl
            subst h3
            clear HCM HNM
            go_upto_region 23 with fail
            rw [show (1 : Int) = ((t : Nat) : Int) from HVT.out]
            go_wp2_with (first | (go_at_call 16; refine (rcount_any t (by have := HCL.out; rw [pow9]; omega) _).mono ?_; rintro e W5 ⟨uc, rfl, hyc, hbc⟩; have B5 : Hid (Below wr.heap.size wr W5) := (below_trans (bel_up _ _) hbc); obtain ⟨gc, cc, ec, hcells⟩ := cnt_row hyc; subst ec; have HNC : Hid (∀ j u, (Lib.byteCells (nm t))[j]? = some u → W5.cell? ((⟨gc, 0, none⟩ : Addr).add j) = some u) := hcells; clear hyc hbc hcells) | (at_builtin; refine wpList_append_own_at _ rfl _ _ 41 rfl w.heap.size 5 i5 (.int .u8 0) 1 1 Try.underlying41 HI5.out.1 HI5.out.2.1 HI5.out.2.2.1 HI5.out.2.2.2 rfl (by decide) _ _ _ rfl (row_up HY.out B5.out) ⟨gc, 0, none⟩ (nm t).length cc (Lib.byteCells (nm t)) rfl (bcells_len _) HNC.out (bcells_one _) (by have := HPB.out; have := HN2.out; unfold maxLen; omega) (by have := HPB.out; have := HN2.out; omega) (below_trans HBW.out B5.out).size ?_; intro v9 W6 ho9 hg9 _ ha9; have HY6 : Hid (Byt w.heap.size W6 v9 (p ++ nm t)) := byt_cat ho9; have HG6 : Hid (Gr W5 W6 _ v9) := gr_of hg9 ha9; obtain ⟨z6, y6, hz⟩ := row_shape ho9; obtain ⟨m6, hm6⟩ : ∃ m, p.length + (nm t).length = m := ⟨_, rfl⟩; rw [hm6] at hz; subst hz; clear ho9 hg9 ha9 hm6))
            have HX6 : Hid _ := box_gr HG6.out (row_up HY.out B5.out) ((B5.out.block _ (lt_of_heap HX.out)).trans HX.out)
            have HB6 : Hid (Below w.heap.size w W6) := gr_bel HG6.out (row_up HY.out B5.out) (below_trans HBW.out B5.out) (Nat.le_refl _)
            go_roundg (tk - (j + 1))
            case measure => have := HJ.out; have := HJL.out; omega
            case rel => exact ⟨j + 1, by first | rfl | (rw [show (j : Int) + 1 = ((j + 1 : Nat) : Int) by omega]), _, _, _, rfl, HB6, ⟨HJL.out, rfl⟩, HX6, p ++ nm t, by show _ = _; rw [HST.out, HP.out, List.append_assoc], by have h1 := HN2.out; have h2 := HPL.out; show _ ≤ _; rw [List.length_append]; omega, HY6⟩
          have e3 : (xa == 3) = false := by simpa using h3
          by_cases h1 : xa = 1
          · obtain ⟨b1, b2⟩ := HNM.out (Or.inl h1)
            have HVT : Hid (2 * xb + 2 = ((t : Nat) : Int)) := by show _ = _; rw [HCM.out, if_neg h3, if_pos h1]; omega
            have hw1 : IntKind.i64.wrap (2 * xb) = 2 * xb := by rw [IntKind.wrap_i64]; omega
            have hw2 : IntKind.i64.wrap (2 * xb + 2) = 2 * xb + 2 := by rw [IntKind.wrap_i64]; omega
            subst h1
            clear HCM HNM h3
            go_upto_region 23 with fail
            rw [show 2 * xb + 2 = ((t : Nat) : Int) from HVT.out]
            go_wp2_with (first | (go_at_call 16; refine (rcount_any t (by have := HCL.out; rw [pow9]; omega) _).mono ?_; rintro e W5 ⟨uc, rfl, hyc, hbc⟩; have B5 : Hid (Below wr.heap.size wr W5) := (below_trans (bel_up _ _) hbc); obtain ⟨gc, cc, ec, hcells⟩ := cnt_row hyc; subst ec; have HNC : Hid (∀ j u, (Lib.byteCells (nm t))[j]? = some u → W5.cell? ((⟨gc, 0, none⟩ : Addr).add j) = some u) := hcells; clear hyc hbc hcells) | (at_builtin; refine wpList_append_own_at _ rfl _ _ 41 rfl w.heap.size 5 i5 (.int .u8 0) 1 1 Try.underlying41 HI5.out.1 HI5.out.2.1 HI5.out.2.2.1 HI5.out.2.2.2 rfl (by decide) _ _ _ rfl (row_up HY.out B5.out) ⟨gc, 0, none⟩ (nm t).length cc (Lib.byteCells (nm t)) rfl (bcells_len _) HNC.out (bcells_one _) (by have := HPB.out; have := HN2.out; unfold maxLen; omega) (by have := HPB.out; have := HN2.out; omega) (below_trans HBW.out B5.out).size ?_; intro v9 W6 ho9 hg9 _ ha9; have HY6 : Hid (Byt w.heap.size W6 v9 (p ++ nm t)) := byt_cat ho9; have HG6 : Hid (Gr W5 W6 _ v9) := gr_of hg9 ha9; obtain ⟨z6, y6, hz⟩ := row_shape ho9; obtain ⟨m6, hm6⟩ : ∃ m, p.length + (nm t).length = m := ⟨_, rfl⟩; rw [hm6] at hz; subst hz; clear ho9 hg9 ha9 hm6))
            have HX6 : Hid _ := box_gr HG6.out (row_up HY.out B5.out) ((B5.out.block _ (lt_of_heap HX.out)).trans HX.out)
            have HB6 : Hid (Below w.heap.size w W6) := gr_bel HG6.out (row_up HY.out B5.out) (below_trans HBW.out B5.out) (Nat.le_refl _)
            go_roundg (tk - (j + 1))
            case measure => have := HJ.out; have := HJL.out; omega
            case rel => exact ⟨j + 1, by first | rfl | (rw [show (j : Int) + 1 = ((j + 1 : Nat) : Int) by omega]), _, _, _, rfl, HB6, ⟨HJL.out, rfl⟩, HX6, p ++ nm t, by show _ = _; rw [HST.out, HP.out, List.append_assoc], by have h1 := HN2.out; have h2 := HPL.out; show _ ≤ _; rw [List.length_append]; omega, HY6⟩
          have e1 : (xa == 1) = false := by simpa using h1
          by_cases h2 : xa = 2
          · obtain ⟨b1, b2⟩ := HNM.out (Or.inr h2)
            have HVT : Hid (2 * xb + 3 = ((t : Nat) : Int)) := by show _ = _; rw [HCM.out, if_neg h3, if_neg h1, if_pos h2]; omega
            have hw1 : IntKind.i64.wrap (2 * xb) = 2 * xb := by rw [IntKind.wrap_i64]; omega
            have hw2 : IntKind.i64.wrap (2 * xb + 3) = 2 * xb + 3 := by rw [IntKind.wrap_i64]; omega
            subst h2
            clear HCM HNM h3 h1
            go_upto_region 23 with fail
            rw [show 2 * xb + 3 = ((t : Nat) : Int) from HVT.out]
            go_wp2_with (first | (go_at_call 16; refine (rcount_any t (by have := HCL.out; rw [pow9]; omega) _).mono ?_; rintro e W5 ⟨uc, rfl, hyc, hbc⟩; have B5 : Hid (Below wr.heap.size wr W5) := (below_trans (bel_up _ _) hbc); obtain ⟨gc, cc, ec, hcells⟩ := cnt_row hyc; subst ec; have HNC : Hid (∀ j u, (Lib.byteCells (nm t))[j]? = some u → W5.cell? ((⟨gc, 0, none⟩ : Addr).add j) = some u) := hcells; clear hyc hbc hcells) | (at_builtin; refine wpList_append_own_at _ rfl _ _ 41 rfl w.heap.size 5 i5 (.int .u8 0) 1 1 Try.underlying41 HI5.out.1 HI5.out.2.1 HI5.out.2.2.1 HI5.out.2.2.2 rfl (by decide) _ _ _ rfl (row_up HY.out B5.out) ⟨gc, 0, none⟩ (nm t).length cc (Lib.byteCells (nm t)) rfl (bcells_len _) HNC.out (bcells_one _) (by have := HPB.out; have := HN2.out; unfold maxLen; omega) (by have := HPB.out; have := HN2.out; omega) (below_trans HBW.out B5.out).size ?_; intro v9 W6 ho9 hg9 _ ha9; have HY6 : Hid (Byt w.heap.size W6 v9 (p ++ nm t)) := byt_cat ho9; have HG6 : Hid (Gr W5 W6 _ v9) := gr_of hg9 ha9; obtain ⟨z6, y6, hz⟩ := row_shape ho9; obtain ⟨m6, hm6⟩ : ∃ m, p.length + (nm t).length = m := ⟨_, rfl⟩; rw [hm6] at hz; subst hz; clear ho9 hg9 ha9 hm6))
            have HX6 : Hid _ := box_gr HG6.out (row_up HY.out B5.out) ((B5.out.block _ (lt_of_heap HX.out)).trans HX.out)
            have HB6 : Hid (Below w.heap.size w W6) := gr_bel HG6.out (row_up HY.out B5.out) (below_trans HBW.out B5.out) (Nat.le_refl _)
            go_roundg (tk - (j + 1))
            case measure => have := HJ.out; have := HJL.out; omega
            case rel => exact ⟨j + 1, by first | rfl | (rw [show (j : Int) + 1 = ((j + 1 : Nat) : Int) by omega]), _, _, _, rfl, HB6, ⟨HJL.out, rfl⟩, HX6, p ++ nm t, by show _ = _; rw [HST.out, HP.out, List.append_assoc], by have h1 := HN2.out; have h2 := HPL.out; show _ ≤ _; rw [List.length_append]; omega, HY6⟩
          have e2 : (xa == 2) = false := by simpa using h2
          have HVT : Hid ((0 : Int) = ((t : Nat) : Int)) := by show _ = _; rw [HCM.out, if_neg h3, if_neg h1, if_neg h2]; rfl
          clear HCM HNM h3 h1 h2
          go_upto_region 23 with fail
          rw [show (0 : Int) = ((t : Nat) : Int) from HVT.out]
          go_wp2_with (first | (go_at_call 16; refine (rcount_any t (by have := HCL.out; rw [pow9]; omega) _).mono ?_; rintro e W5 ⟨uc, rfl, hyc, hbc⟩; have B5 : Hid (Below wr.heap.size wr W5) := (below_trans (bel_up _ _) hbc); obtain ⟨gc, cc, ec, hcells⟩ := cnt_row hyc; subst ec; have HNC : Hid (∀ j u, (Lib.byteCells (nm t))[j]? = some u → W5.cell? ((⟨gc, 0, none⟩ : Addr).add j) = some u) := hcells; clear hyc hbc hcells) | (at_builtin; refine wpList_append_own_at _ rfl _ _ 41 rfl w.heap.size 5 i5 (.int .u8 0) 1 1 Try.underlying41 HI5.out.1 HI5.out.2.1 HI5.out.2.2.1 HI5.out.2.2.2 rfl (by decide) _ _ _ rfl (row_up HY.out B5.out) ⟨gc, 0, none⟩ (nm t).length cc (Lib.byteCells (nm t)) rfl (bcells_len _) HNC.out (bcells_one _) (by have := HPB.out; have := HN2.out; unfold maxLen; omega) (by have := HPB.out; have := HN2.out; omega) (below_trans HBW.out B5.out).size ?_; intro v9 W6 ho9 hg9 _ ha9; have HY6 : Hid (Byt w.heap.size W6 v9 (p ++ nm t)) := byt_cat ho9; have HG6 : Hid (Gr W5 W6 _ v9) := gr_of hg9 ha9; obtain ⟨z6, y6, hz⟩ := row_shape ho9; obtain ⟨m6, hm6⟩ : ∃ m, p.length + (nm t).length = m := ⟨_, rfl⟩; rw [hm6] at hz; subst hz; clear ho9 hg9 ha9 hm6))
          have HX6 : Hid _ := box_gr HG6.out (row_up HY.out B5.out) ((B5.out.block _ (lt_of_heap HX.out)).trans HX.out)
          have HB6 : Hid (Below w.heap.size w W6) := gr_bel HG6.out (row_up HY.out B5.out) (below_trans HBW.out B5.out) (Nat.le_refl _)
          go_roundg (tk - (j + 1))
          case measure => have := HJ.out; have := HJL.out; omega
          case rel => exact ⟨j + 1, by first | rfl | (rw [show (j : Int) + 1 = ((j + 1 : Nat) : Int) by omega]), _, _, _, rfl, HB6, ⟨HJL.out, rfl⟩, HX6, p ++ nm t, by show _ = _; rw [HST.out, HP.out, List.append_assoc], by have h1 := HN2.out; have h2 := HPL.out; show _ ≤ _; rw [List.length_append]; omega, HY6⟩
        · have t1 : decide ((j : Int) < (tk : Int)) = false := by rw [decide_eq_false_iff_not]; omega
          have t2 : decide (j < tk) = false := by rw [decide_eq_false_iff_not]; omega
          have HJM : Hid (j = tk) := by have := HJ.out; show _ = _; omega
          have HPQ : Hid (p = hd ++ ((A.map Prod.snd).take (i + 1)).flatMap aimg) := by
            show _ = _
            rw [HRS.out, HP.out, HQ.out, HJM.out, ← HLL.out, List.take_length, List.append_assoc]
          have HPN : Hid (p.length ≤ 10 + (i + 1) * 128) := by have := HPL.out; have := HJM.out; have := HS.out.t2; show _ ≤ _; omega
          clear hj
          go_wp2_with fail
          go_roundg (n - (i + 1))
          case measure => have := HI.out; have := HIL.out; omega
          case rel => exact ⟨i + 1, by first | rfl | (rw [show (i : Int) + 1 = ((i + 1 : Nat) : Int) by omega]), _, _, _, rfl, HBW, ⟨HIL.out, rfl⟩, HX, p, HPQ, HPN, HY⟩
    · have e1 : decide ((i : Int) < (n : Int)) = false := by rw [decide_eq_false_iff_not]; omega
      have e2 : decide (i < n) = false := by rw [decide_eq_false_iff_not]; omega
      have HIN : Hid (i = n) := by have := HI.out; show _ = _; omega
      clear hi
      have HQF : Hid (q = hd ++ (A.map Prod.snd).flatMap aimg) := by
        show _ = _
        rw [HQ.out, HIN.out, ← HS.out.a, take_snds]
      have HQB : Hid (q.length ≤ 300000) := by have := HQL.out; have := HIN.out; have := HS.out.n2; show _ ≤ _; omega
      go_upto_region 24 with fail
      clear e1 e2 HI HQ HQL HIN x0
      obtain ⟨V, hV⟩ : ∃ V, V = wr := ⟨_, rfl⟩
      rw [← hV] at HBW HX HY ⊢
      have HBV : Hid (Below w.heap.size w V) := HBW.out
      have HXV : Hid _ := HX.out
      have HYV : Hid (Byt w.heap.size V (.slice ra m rc) (hd ++ (A.map Prod.snd).flatMap aimg)) := by have h9 := HY.out; rw [HQF.out] at h9; exact h9
      have HQC : Hid ((hd ++ (A.map Prod.snd).flatMap aimg).length ≤ 300000) := by have h9 := HQB.out; rw [HQF.out] at h9; exact h9
      clear hV HBW HX HY HQF HQB q
      go_upto_region 25 with fail
      go_loopg [4, 9] n (fun gm v4 v9 wr => ∃ i : Nat, v9 = .int .i64 (i : Int) ∧ ∃ (ra : Option Addr) (m rc : Nat), v4 = .slice ra m rc ∧ Hid (Below w.heap.size w wr) ∧ Hid (i ≤ n ∧ gm = n - i) ∧ Hid (wr.heap[tb]? = some (.cells #[.slice (some ⟨g, oo, none⟩) n c0, .slice (some ⟨g', oo', none⟩) n c1] 25 (0, 0))) ∧ ∃ q : List UInt8, Hid (q = (hd ++ (A.map Prod.snd).flatMap aimg) ++ ((G.map Prod.snd).take i).flatMap gimg) ∧ Hid (q.length ≤ 300000 + i * 256) ∧ Hid (Byt w.heap.size wr (.slice ra m rc) q))
      case atStart => exact ⟨0, rfl, _, _, _, rfl, HBV, ⟨Nat.zero_le _, rfl⟩, HXV, _, by show _ = _; rw [List.take_zero]; exact (List.append_nil _).symm, by have := HQC.out; show _ ≤ _; omega, HYV⟩
      case round =>
        clear HYV HBV HXV
        obtain ⟨i, rfl, ra, m, rc, rfl, HBW, HI, HX, q, HQ, HQL, HY⟩ := hrel
        have x1 := rcell HX.out 1 _ rfl
        by_cases hi : i < n
        · obtain ⟨a2, c2, q2, q3⟩ := HT.out.g.row i (by rw [HS.out.g]; exact hi)
          obtain ⟨r1, r2⟩ := HS.out.rg i hi
          have HRS : Hid (((G.map Prod.snd).take (i + 1)).flatMap gimg = ((G.map Prod.snd).take i).flatMap gimg ++ gimg (G.getD i nrd).2) := by
            have h9 := rows_step gimg (G.map Prod.snd) i (by rw [List.length_map, HS.out.g]; exact hi)
            rw [snd_getD] at h9
            exact h9
          obtain ⟨l, hl⟩ : ∃ l, (G.getD i nrd).2 = l := ⟨_, rfl⟩
          rw [hl] at q2 q3 r1 r2 HRS
          rw [r1] at q2 q3
          have HLL : Hid (l.length = sy) := r1
          have HAL : Hid (∀ x ∈ l, gok n x = true) := r2
          have HR : Hid (Rw w (.slice a2 sy c2) sy (flat gf l)) := q3
          have KW : Hid (∀ W, Below w.heap.size w W → W.cell? ⟨g', oo' + i, none⟩ = some (.slice a2 sy c2)) := fun W hW => below_cell hW q2
          have e1 : decide ((i : Int) < (n : Int)) = true := by rw [decide_eq_true_eq]; omega
          have e2 : decide (i < n) = true := by rw [decide_eq_true_eq]; omega
          have e5 : (i : Int) < (n : Int) := by omega
          have e6 : i < n := hi
          have HIL : Hid (i < n) := hi
          have hwr := w64n i (by have := HS.out.n2; have := HIL.out; omega)
          clear hi hl r1 r2 q2 q3
          go_upto_region 28 with fail
          clear e1 e2 x1
          go_loopg [4, 10] sy (fun gm v4 v10 wr => ∃ j : Nat, v10 = .int .i64 (j : Int) ∧ ∃ (ra : Option Addr) (m rc : Nat), v4 = .slice ra m rc ∧ Hid (Below w.heap.size w wr) ∧ Hid (j ≤ sy ∧ gm = sy - j) ∧ Hid (wr.heap[tb]? = some (.cells #[.slice (some ⟨g, oo, none⟩) n c0, .slice (some ⟨g', oo', none⟩) n c1] 25 (0, 0))) ∧ ∃ p : List UInt8, Hid (p = q ++ gimg (l.take j)) ∧ Hid (p.length ≤ 300000 + i * 256 + j * 2) ∧ Hid (Byt w.heap.size wr (.slice ra m rc) p))
          case atStart => exact ⟨0, rfl, _, _, _, rfl, HBW, ⟨Nat.zero_le _, rfl⟩, HX, q, (List.append_nil _).symm, HQL, HY⟩
          case round =>
            clear HBW HX HY
            obtain ⟨j, rfl, ra, m, rc, rfl, HBW, HJ, HX, p, HP, HPL, HY⟩ := hrel
            have x1 := rcell HX.out 1 _ rfl
            have w0 := KW.out _ HBW.out
            by_cases hj : j < sy
            · obtain ⟨g2, o2, cap2, e0, hc⟩ := HR.out.place (by omega)
              obtain ⟨rfl, -, rfl⟩ := Value.slice.inj e0
              have hjl : j < l.length := by rw [HLL.out]; exact hj
              have q0 := gf_get l j hjl
              have k0 := below_cell HBW.out (hc _ _ q0)
              have HST : Hid (gimg (l.take (j + 1)) = gimg (l.take j) ++ nm (l.getD j 0 + 1).toNat) := gimg_step l j hjl
              have HFT : Hid (gok n (l.getD j 0) = true) := HAL.out _ (getD_mem l 0 j hjl)
              obtain ⟨x, hx⟩ : ∃ x, l.getD j 0 = x := ⟨_, rfl⟩
              rw [hx] at k0 HST HFT
              clear hx hjl q0 hc e0
              have hgx : -1 ≤ x ∧ x < (n : Int) := by have h9 := HFT.out; unfold gok at h9; simpa using h9
              obtain ⟨t, ht⟩ : ∃ t : Nat, x + 1 = (t : Int) := ⟨(x + 1).toNat, by omega⟩
              have HTT : Hid ((x + 1).toNat = t ∧ t < 4099) := by have := HS.out.n2; show _ ∧ _; omega
              have HCL : Hid (t < 4099) := HTT.out.2
              rw [HTT.out.1] at HST
              have hwx : IntKind.i64.wrap (x + 1) = (t : Int) := by have := HS.out.n2; rw [IntKind.wrap_i64]; omega
              clear hgx ht
              have t1 : decide ((j : Int) < (sy : Int)) = true := by rw [decide_eq_true_eq]; omega
              have t2 : decide (j < sy) = true := by rw [decide_eq_true_eq]; omega
              have t5 : (j : Int) < (sy : Int) := by omega
              have t6 : j < sy := hj
              have HJL : Hid (j < sy) := hj
              have hwj := w64n j (by have := HS.out.s2; have := HJL.out; omega)
              have HPB : Hid (p.length ≤ 1000000000) := by have := HPL.out; have := HS.out.n2; have := HS.out.s2; have := HIL.out; have := HJL.out; show _ ≤ _; omega
              have HN2 : Hid ((nm t).length ≤ 2) := nm_two t (by have := HCL.out; omega)
              clear hj
              go_wp2_with (first | (go_at_call 16; refine (rcount_any t (by have := HCL.out; rw [pow9]; omega) _).mono ?_; rintro e W5 ⟨uc, rfl, hyc, hbc⟩; have B5 : Hid (Below wr.heap.size wr W5) := hbc; obtain ⟨gc, cc, ec, hcells⟩ := cnt_row hyc; subst ec; have HNC : Hid (∀ j u, (Lib.byteCells (nm t))[j]? = some u → W5.cell? ((⟨gc, 0, none⟩ : Addr).add j) = some u) := hcells; clear hyc hbc hcells) | (at_builtin; refine wpList_append_own_at _ rfl _ _ 41 rfl w.heap.size 5 i5 (.int .u8 0) 1 1 Try.underlying41 HI5.out.1 HI5.out.2.1 HI5.out.2.2.1 HI5.out.2.2.2 rfl (by decide) _ _ _ rfl (row_up HY.out B5.out) ⟨gc, 0, none⟩ (nm t).length cc (Lib.byteCells (nm t)) rfl (bcells_len _) HNC.out (bcells_one _) (by have := HPB.out; have := HN2.out; unfold maxLen; omega) (by have := HPB.out; have := HN2.out; omega) (below_trans HBW.out B5.out).size ?_; intro v9 W6 ho9 hg9 _ ha9; have HY6 : Hid (Byt w.heap.size W6 v9 (p ++ nm t)) := byt_cat ho9; have HG6 : Hid (Gr W5 W6 _ v9) := gr_of hg9 ha9; obtain ⟨z6, y6, hz⟩ := row_shape ho9; obtain ⟨m6, hm6⟩ : ∃ m, p.length + (nm t).length = m := ⟨_, rfl⟩; rw [hm6] at hz; subst hz; clear ho9 hg9 ha9 hm6))
              have HX6 : Hid _ := box_gr HG6.out (row_up HY.out B5.out) ((B5.out.block _ (lt_of_heap HX.out)).trans HX.out)
              have HB6 : Hid (Below w.heap.size w W6) := gr_bel HG6.out (row_up HY.out B5.out) (below_trans HBW.out B5.out) (Nat.le_refl _)
              go_roundg (sy - (j + 1))
              case measure => have := HJ.out; have := HJL.out; omega
              case rel => exact ⟨j + 1, by first | rfl | (rw [show (j : Int) + 1 = ((j + 1 : Nat) : Int) by omega]), _, _, _, rfl, HB6, ⟨HJL.out, rfl⟩, HX6, p ++ nm t, by show _ = _; rw [HST.out, HP.out, List.append_assoc], by have h1 := HN2.out; have h2 := HPL.out; show _ ≤ _; rw [List.length_append]; omega, HY6⟩
            · have t1 : decide ((j : Int) < (sy : Int)) = false := by rw [decide_eq_false_iff_not]; omega
              have t2 : decide (j < sy) = false := by rw [decide_eq_false_iff_not]; omega
              have HJM : Hid (j = sy) := by have := HJ.out; show _ = _; omega
              have HPQ : Hid (p = (hd ++ (A.map Prod.snd).flatMap aimg) ++ ((G.map Prod.snd).take (i + 1)).flatMap gimg) := by
                show _ = _
                rw [HRS.out, HP.out, HQ.out, HJM.out, ← HLL.out, List.take_length, List.append_assoc]
              have HPN : Hid (p.length ≤ 300000 + (i + 1) * 256) := by have := HPL.out; have := HJM.out; have := HS.out.s2; show _ ≤ _; omega
              clear hj
              go_wp2_with fail
              go_roundg (n - (i + 1))
              case measure => have := HI.out; have := HIL.out; omega
              case rel => exact ⟨i + 1, by first | rfl | (rw [show (i : Int) + 1 = ((i + 1 : Nat) : Int) by omega]), _, _, _, rfl, HBW, ⟨HIL.out, rfl⟩, HX, p, HPQ, HPN, HY⟩
        · have e1 : decide ((i : Int) < (n : Int)) = false := by rw [decide_eq_false_iff_not]; omega
          have e2 : decide (i < n) = false := by rw [decide_eq_false_iff_not]; omega
          have HIN : Hid (i = n) := by have := HI.out; show _ = _; omega
          clear hi
          have HQF : Hid (q = (hd ++ (A.map Prod.snd).flatMap aimg) ++ (G.map Prod.snd).flatMap gimg) := by
            show _ = _
            rw [HQ.out, HIN.out, ← HS.out.g, take_snds]
          have HQT : Hid (0 < q.length) := by show 0 < _; rw [HQF.out, ← HHD.out]; simp [hdr]
          have HMQ : Hid (m = q.length) := by obtain ⟨_, _, e9⟩ := row_shape HY.out; exact (Value.slice.inj e9).2.1
          obtain ⟨g3, k3, e3, -, -, -⟩ := row_form HY.out HQT.out
          obtain ⟨rfl, -, rfl⟩ := Value.slice.inj e3
          have hcv := conv_row (by have h9 := HY.out; rw [HMQ.out] at h9; exact h9 : Byt w.heap.size wr (.slice (some ⟨g3, 0, none⟩) q.length rc) q)
          rw [← HMQ.out] at hcv
          go_wp2_with fail
          go_ret
          refine ⟨?_, HBW.out⟩
          rw [← HRR.out, HQF.out, ← HHD.out]
          rfl
end Go.Proofs.Ythlbajkbpceglaa
