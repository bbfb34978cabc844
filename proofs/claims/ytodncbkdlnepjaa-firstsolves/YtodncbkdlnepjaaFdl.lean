import Derived.Test.YtodncbkdlnepjaaFdp
namespace Go.Proofs.Ytodncbkdlnepjaa
open Go.RowKit Go.Maps

/-- A step in memory. -/
def stf (x : Int × Int) : List Value := [.int .i64 x.1, .int .i64 x.2]
theorem stf_len (x : Int × Int) : (stf x).length = 2 := rfl
theorem stf_get (l : List (Int × Int)) (i : Nat) (h : i < l.length) : (flat stf l)[i * 2]? = some (.int .i64 (l.getD i (0, 0)).1) ∧ (flat stf l)[i * 2 + 1]? = some (.int .i64 (l.getD i (0, 0)).2) :=
  ⟨flat_get stf_len (0, 0) l i 0 h (by decide), flat_get stf_len (0, 0) l i 1 h (by decide)⟩
theorem le2_nil {S : Ss} {l : List Nat} {bh : Nat} (h : le2 (alg S []) (alg S l)) : bh ||| ofS S l bh = ofS S l bh := by
  unfold ofS
  rw [if_pos (h.2 rfl), Nat.or_comm, Nat.or_assoc, Nat.or_self]
theorem le2_tok {nT : Nat} {P : List (Int × List Nat)} {S : Ss} (hk : Fk nT P S) {l r : List Nat} {x bh : Nat} (hx : x < nT) (h : le2 (alg S (x :: r)) (alg S l)) : (ofS S l bh).testBit x = true := by
  have e := hk.tok x hx
  rw [alg_no S x r (by rw [e]), e] at h
  have h1 := h.1
  (try dsimp only at h1)
  have h2 := congrArg (fun m => Nat.testBit m x) h1
  (try dsimp only at h2)
  rw [Nat.testBit_or, Nat.testBit_two_pow_self, Bool.true_or] at h2
  unfold ofS
  rw [Nat.testBit_or, ← h2, Bool.true_or]

set_option maxRecDepth 100000 in
set_option maxHeartbeats 16000000 in
theorem firstDerives_any {v0 v1 v2 v vs : Value} {nT nS : Nat} {P : List Pd} {l : List Rf} {E : List (Int × Int)} {bh : Nat} (w : World) (h : Gm w v0 v1 v2 nT nS P) (hz : Gz nT nS P) (hr : Rw w v l.length (flat rf l)) (hl : l.length * 40 + 4096 ≤ 140737488355328) (hbh : bh < 2 ^ 64) (he : Rw w vs E.length (flat stf E)) (hel : E.length ≤ 140737488355328) :
    Calls Try.prog 5 #[.agg #[v0, v1, v2], v, .int .u64 (bh : Int), vs] w fun e w' => e = .returned (.bool true) ∧ Below w.heap.size w w' := by
  have HG : Hid (Gm w v0 v1 v2 nT nS P) := h
  have HZ : Hid _ := hz
  have HV : Hid (Rw w v l.length (flat rf l)) := hr
  have HE : Hid (Rw w vs E.length (flat stf E)) := he
  have HL : Hid _ := hl
  have HEL : Hid _ := hel
  have HBH : Hid _ := hbh
  obtain ⟨a0, c0, a1, c1, a2, c2, rfl, rfl, rfl⟩ := h.form
  obtain ⟨xa, ca, rfl⟩ := hr.form
  obtain ⟨xe, ce, rfl⟩ := he.form
  clear h hz hr hl hbh he hel
  obtain ⟨n, hn⟩ : ∃ n, P.length = n := ⟨_, rfl⟩
  rw [hn] at HG ⊢
  clear hn
  obtain ⟨na, hna⟩ : ∃ n, l.length = n := ⟨_, rfl⟩
  have HNA : Hid (l.length = na) := hna
  rw [hna] at HV ⊢
  clear hna
  obtain ⟨ne, hne⟩ : ∃ n, E.length = n := ⟨_, rfl⟩
  have HNE : Hid (E.length = ne) := hne
  rw [hne] at HE HEL ⊢
  clear hne
  obtain ⟨W1, hW1⟩ : ∃ W1, W1 = w.alloc (.cells #[.slice a0 nT c0, .slice a1 nS c1, .slice a2 n c2] 26) := ⟨_, rfl⟩
  have HX : Hid (W1.heap[w.heap.size]? = some (.cells #[.slice a0 nT c0, .slice a1 nS c1, .slice a2 n c2] 26 (0, 0))) := by rw [hW1]; exact heap_new w _
  have HB1 : Hid (Below w.heap.size w W1) := by rw [hW1]; exact bel_up _ _
  go_enter Try.func5, Try.ntmps5
  go_upto_region 1 with fail
  rw [← hW1]
  clear hW1
  obtain ⟨gb, hgb⟩ : ∃ gb, w.heap.size = gb := ⟨_, rfl⟩
  have HGB : Hid (w.heap.size = gb) := hgb
  rw [hgb] at HX ⊢
  clear hgb
  go_upto_region 3 with (go_at_call 8; refine (started_any W1).mono ?_; rintro e W2 ⟨rfl, hb2⟩; have B2 : Hid (Below W1.heap.size W1 W2) := hb2; clear hb2)
  have BW2 : Hid (Below w.heap.size w W2) := below_trans HB1.out B2.out
  have HX2 : Hid (W2.heap[gb]? = some (.cells #[.slice a0 nT c0, .slice a1 nS c1, .slice a2 n c2] 26 (0, 0))) := (B2.out.block _ (lt_of_heap HX.out)).trans HX.out
  clear B2 HX HB1
  have HGN : Hid (Gm W2 (.slice a0 nT c0) (.slice a1 nS c1) (.slice a2 n c2) nT nS P) := HG.out.up BW2.out
  have HRW : Hid (Rw W2 (.slice xa na ca) l.length (flat rf l)) := by rw [HNA.out]; exact HV.out.up BW2.out
  have HCC : Hid (∀ W, Below W2.heap.size W2 W → W.cell? ⟨gb, 0, none⟩ = some (.slice a0 nT c0) ∧ W.cell? ⟨gb, 1, none⟩ = some (.slice a1 nS c1) ∧ W.cell? ⟨gb, 2, none⟩ = some (.slice a2 n c2)) := fun W hW => ⟨below_cell hW (rcell HX2.out 0 _ rfl), below_cell hW (rcell HX2.out 1 _ rfl), below_cell hW (rcell HX2.out 2 _ rfl)⟩
  obtain ⟨p0, p1, p2⟩ := HCC.out W2 (Below.refl _ _)
  go_upto_region 4 with (go_at_call 9; refine (of_any W2 HGN.out HZ.out HRW.out HL.out HBH.out).mono ?_; rintro e Y1 ⟨rfl, hfk, hy1⟩; have BY1 : Hid (Below W2.heap.size W2 Y1) := hy1; have HFF : Hid _ := hfk; clear hy1 hfk)
  clear p0 p1 p2
  obtain ⟨p0, p1, p2⟩ := HCC.out Y1 BY1.out
  obtain ⟨t, ht⟩ : ∃ t, ofp nT nS P l bh = t := ⟨_, rfl⟩
  have HT : Hid (ofp nT nS P l bh = t) := ht
  rw [ht]
  clear ht
  by_cases hs : snd nT nS P = true
  rotate_left
  · have HSN : Hid (snd nT nS P = false) := by rw [Bool.not_eq_true] at hs; exact hs
    have HT0 : Hid (t = 0) := by rw [← HT.out]; exact ofp_bad (fun h => hs h.1)
    rw [HT0.out]
    clear hs
    go_wp2_with (go_at_call 10; refine (lsound_any Y1 (HGN.out.up BY1.out) HZ.out).mono ?_; rintro e Y2 ⟨rfl, hy2⟩; have BY2 : Hid (Below W2.heap.size W2 Y2) := below_trans BY1.out hy2; clear hy2; rw [HSN.out])
    go_ret
    exact ⟨rfl, below_trans BW2.out BY2.out⟩
  have HSN : Hid (snd nT nS P = true) := hs
  clear hs
  by_cases hw : wth (nT + nS) l = true
  rotate_left
  · have HWT : Hid (wth (nT + nS) l = false) := by rw [Bool.not_eq_true] at hw; exact hw
    have HT0 : Hid (t = 0) := by rw [← HT.out]; exact ofp_bad (fun h => hw h.2)
    rw [HT0.out]
    clear hw
    go_wp2_with (first | (go_at_call 10; refine (lsound_any Y1 (HGN.out.up BY1.out) HZ.out).mono ?_; rintro e Y2 ⟨rfl, hy2⟩; have BY2 : Hid (Below W2.heap.size W2 Y2) := below_trans BY1.out hy2; obtain ⟨p0', p1', p2'⟩ := HCC.out Y2 BY2.out; clear hy2; rw [HSN.out]) | (go_at_call 11; refine (lsymbols_any Y2 (HGN.out.up BY2.out) HZ.out (HRW.out.up BY2.out) (by have := HL.out; omega)).mono ?_; rintro e Y3 ⟨rfl, hy3⟩; have BY3 : Hid (Below W2.heap.size W2 Y3) := below_trans BY2.out hy3; clear hy3; rw [HWT.out]))
    go_ret
    exact ⟨rfl, below_trans BW2.out BY3.out⟩
  have HWT : Hid (wth (nT + nS) l = true) := hw
  clear hw
  have HFK : Hid (Fk nT (P.map pq) (fin nT (P.map pq))) := by
    rcases HFF.out HSN.out with h | h
    · exact h
    · rw [HWT.out] at h; cases h
  clear HFF
  obtain ⟨S, hS⟩ : ∃ S, fin nT (P.map pq) = S := ⟨_, rfl⟩
  have HOF : Hid (∀ r : List Rf, wth (nT + nS) r = true → ofp nT nS P r bh = ofS S (syl r) bh) := fun r hr => by unfold ofp; rw [if_pos ⟨HSN.out, hr⟩, hS]
  rw [hS] at HFK
  clear hS
  have HTS : Hid (ofS S (syl l) bh = t) := (HOF.out l HWT.out).symm.trans HT.out
  have HTL : Hid (t < 2 ^ 64) := by rw [← HTS.out]; exact ofS_lt HFK.out _ _ HBH.out
  have HNT : Hid (nT ≤ 64 ∧ nS ≤ 128) := (snd_mem HSN.out).1.2
  go_upto_region 8 with (first | (go_at_call 10; refine (lsound_any Y1 (HGN.out.up BY1.out) HZ.out).mono ?_; rintro e Y2 ⟨rfl, hy2⟩; have BY2 : Hid (Below W2.heap.size W2 Y2) := below_trans BY1.out hy2; obtain ⟨p0', p1', p2'⟩ := HCC.out Y2 BY2.out; clear hy2; rw [HSN.out]) | (go_at_call 11; refine (lsymbols_any Y2 (HGN.out.up BY2.out) HZ.out (HRW.out.up BY2.out) (by have := HL.out; omega)).mono ?_; rintro e Y3 ⟨rfl, hy3⟩; have BY3 : Hid (Below W2.heap.size W2 Y3) := below_trans BY2.out hy3; clear hy3; rw [HWT.out]))
  clear p0 p1 p2 p0' p1' p2'
  go_loopg [10, 11] ne (fun gm v10 v11 wr => ∃ i : Nat, v11 = .int .i64 (i : Int) ∧ ∃ (ra : Option Addr) (m rc : Nat), v10 = .slice ra m rc ∧ ∃ r : List Rf, Hid (r.length = m) ∧ Hid (Below W2.heap.size W2 wr) ∧ Hid (i ≤ ne ∧ gm = ne - i) ∧ Hid (Rw wr (.slice ra m rc) r.length (flat rf r)) ∧ Hid (r.length * 40 + 4096 ≤ 140737488355328) ∧ Hid (wth (nT + nS) r = true ∧ le2 (alg S (syl r)) (alg S (syl l))))
  case atStart => exact ⟨0, rfl, xa, na, ca, rfl, l, HNA, BY3, ⟨Nat.zero_le _, rfl⟩, HRW.out.up BY3.out, HL, ⟨HWT.out, le2.refl _⟩⟩
  case round =>
    clear BY1 BY2 BY3 HRW
    obtain ⟨i, rfl, ra, m, rc, rfl, r, HM, HBW, HI, HRR, HRL, HRP⟩ := hrel
    by_cases hi : i < ne
    · have HEW : Hid (Rw wr (.slice xe ne ce) ne (flat stf E)) := (HE.out.up BW2.out).up HBW.out
      obtain ⟨g, o, cap, e0, hc⟩ := HEW.out.place (by omega)
      obtain ⟨rfl, -, rfl⟩ := Value.slice.inj e0
      have hil : i < E.length := by have := HNE.out; omega
      obtain ⟨q0, q1⟩ := stf_get E i hil
      have k0 := hc _ _ q0
      have k1 := hc _ _ q1
      obtain ⟨x, hx⟩ : ∃ x, E.getD i (0, 0) = x := ⟨_, rfl⟩
      rw [hx] at k0 k1
      obtain ⟨st, sp⟩ := x
      dsimp only at k0 k1
      rw [← Nat.add_assoc] at k1
      have e1 : decide ((i : Int) < (ne : Int)) = true := by rw [decide_eq_true_eq]; omega
      have e2 : decide (i < ne) = true := by rw [decide_eq_true_eq]; omega
      have e5 : (i : Int) < (ne : Int) := by omega
      have e6 : i < ne := hi
      have HIL : Hid (i < ne) := hi
      have hwr := w64n i (by have := HEL.out; have := HIL.out; omega)
      clear e0 hc hx q0 q1 hil hi
      go_upto_region 10 with fail
      obtain ⟨WD, hWD⟩ : ∃ WD, wr.drew = WD := ⟨_, rfl⟩
      have BD : Hid (Below wr.heap.size wr WD) := by rw [← hWD]; exact Below.drew (Below.refl _ _)
      have HBD : Hid (Below W2.heap.size W2 WD) := below_trans HBW.out BD.out
      have HS : Hid (∀ W, Below WD.heap.size WD W → W.cell? ⟨g, o + i * 2, none⟩ = some (.int .i64 st) ∧ W.cell? ⟨g, o + i * 2 + 1, none⟩ = some (.int .i64 sp) ∧ W.cell? ⟨gb, 0, none⟩ = some (.slice a0 nT c0) ∧ W.cell? ⟨gb, 1, none⟩ = some (.slice a1 nS c1) ∧ W.cell? ⟨gb, 2, none⟩ = some (.slice a2 n c2)) := fun W hW => ⟨below_cell (below_trans BD.out hW) k0, below_cell (below_trans BD.out hW) k1, HCC.out W (below_trans HBD.out hW)⟩
      clear k0 k1
      have HGD : Hid (Gm WD (.slice a0 nT c0) (.slice a1 nS c1) (.slice a2 n c2) nT nS P) := HGN.out.up HBD.out
      have HRD : Hid (Rw WD (.slice ra m rc) r.length (flat rf r)) := HRR.out.up BD.out
      refine wp_region_noPanic ?_
      refine wp_region_held_drew (S := fun W => W.cell? ⟨g, o + i * 2, none⟩ = some (.int .i64 st) ∧ W.cell? ⟨g, o + i * 2 + 1, none⟩ = some (.int .i64 sp) ∧ W.cell? ⟨gb, 0, none⟩ = some (.slice a0 nT c0) ∧ W.cell? ⟨gb, 1, none⟩ = some (.slice a1 nS c1) ∧ W.cell? ⟨gb, 2, none⟩ = some (.slice a2 n c2)) (by kernel_rfl) (by rw [hWD]; exact HS.out _ (Below.refl _ _)) (fun hHeld => ?_)
      rw [hWD] at hHeld ⊢
      clear hWD
      refine wpAnyH_take (i := 0) (oi := { dst := _, op := _, type := _, pos := _, after := _, guard := _ }) (v := ?_) rfl (by kernel_rfl) (by kernel_rfl) (by kernel_rfl) (fun _ _ _ h => h) (Or.inl ⟨by rfl, ?_⟩) (by assumption) ?_
      rotate_left
      · intro W hSw
        (try dsimp only at hSw)
        go_simp
        (try with_reducible rfl)
      try simp only [Act.put, List.setIfInBounds_toArray, List.set_cons_zero, List.set_cons_succ]
      refine wpAnyH_take (i := 1) (oi := { dst := _, op := _, type := _, pos := _, after := _, guard := _ }) (v := ?_) rfl (by kernel_rfl) (by kernel_rfl) (by kernel_rfl) (fun _ _ _ h => h) (Or.inl ⟨by rfl, ?_⟩) (by assumption) ?_
      rotate_left
      · intro W hSw
        (try dsimp only at hSw)
        go_simp
        (try with_reducible rfl)
      try simp only [Act.put, List.setIfInBounds_toArray, List.set_cons_zero, List.set_cons_succ]
      refine wpAnyH_take (i := 2) (oi := { dst := _, op := _, type := _, pos := _, after := _, guard := _ }) (v := ?_) rfl (by kernel_rfl) (by kernel_rfl) (by kernel_rfl) (fun _ _ _ h => h) (Or.inl ⟨by rfl, ?_⟩) (by assumption) ?_
      rotate_left
      · intro W hSw
        (try dsimp only at hSw)
        go_simp
        (try with_reducible rfl)
      try simp only [Act.put, List.setIfInBounds_toArray, List.set_cons_zero, List.set_cons_succ]
      refine wpAnyH_take (i := 3) (oi := { dst := _, op := _, type := _, pos := _, after := _, guard := _ }) (v := ?_) rfl (by kernel_rfl) (by kernel_rfl) (by kernel_rfl) (fun _ _ _ h => h) (Or.inl ⟨by rfl, ?_⟩) (by assumption) ?_
      rotate_left
      · intro W hSw
        (try dsimp only at hSw)
        go_simp
        (try with_reducible rfl)
      try simp only [Act.put, List.setIfInBounds_toArray, List.set_cons_zero, List.set_cons_succ]
      refine wpAnyH_take (i := 4) (oi := { dst := _, op := _, type := _, pos := _, after := _, guard := _ }) (v := ?_) rfl (by kernel_rfl) (by kernel_rfl) (by kernel_rfl) (fun _ _ _ h => h) (Or.inl ⟨by rfl, ?_⟩) (by assumption) ?_
      rotate_left
      · intro W hSw
        (try dsimp only at hSw)
        go_simp
        (try with_reducible rfl)
      try simp only [Act.put, List.setIfInBounds_toArray, List.set_cons_zero, List.set_cons_succ]
      refine wpAnyH_take (i := 5) (oi := { dst := _, op := _, type := _, pos := _, after := _, guard := _ }) (v := ?_) rfl (by kernel_rfl) (by kernel_rfl) (by kernel_rfl) (fun _ _ _ h => h) (Or.inl ⟨by rfl, ?_⟩) (by assumption) ?_
      rotate_left
      · intro W hSw
        (try dsimp only at hSw)
        go_simp
        (try with_reducible rfl)
      try simp only [Act.put, List.setIfInBounds_toArray, List.set_cons_zero, List.set_cons_succ]
      refine wpAnyH_ready (rs := [6]) (by kernel_rfl) (by simp) ?_
      refine AllReadyH.cons (o := { dst := _, op := _, type := _, pos := _, after := _, guard := _ }) rfl (fun K hK => ?_) AllReadyH.nil
      go_simp
      go_at_call 15
      refine (replaced_any st sp WD HGD.out HZ.out HSN.out HRD.out HRL.out).mono ?_
      rintro e Z1 ⟨u, r2, rfl, hu1, hu2, hu3, hz1⟩
      have BZ1 : Hid (Below WD.heap.size WD Z1) := hz1
      have HR2 : Hid (Rw Z1 u r2.length (flat rf r2)) := hu1
      have HP2 : Hid (Rpl nT P r r2) := hu2
      have HL2 : Hid _ := hu3
      obtain ⟨qa, qc, rfl⟩ := hu1.form
      clear hu1 hu2 hu3 hz1
      refine hK.out _ _ ?_ (fun hHeld => ?_)
      · exact HS.out _ BZ1.out
      clear hK K
      try simp only [Act.put, List.setIfInBounds_toArray, List.set_cons_zero, List.set_cons_succ]
      refine wpAnyH_take (i := 7) (oi := { dst := _, op := _, type := _, pos := _, after := _, guard := _ }) (v := ?_) rfl (by kernel_rfl) (by kernel_rfl) (by kernel_rfl) (fun _ _ _ h => h) (Or.inl ⟨by rfl, ?_⟩) (by assumption) ?_
      rotate_left
      · intro W hSw
        (try dsimp only at hSw)
        go_simp
        (try with_reducible rfl)
      try simp only [Act.put, List.setIfInBounds_toArray, List.set_cons_zero, List.set_cons_succ]
      refine wpAnyH_done (by kernel_rfl) ?_ _
      refine NoPanic.normal ?_
      clear hHeld
      have HRQ : Hid (wth (nT + nS) r2 = true ∧ le2 (alg S (syl r2)) (alg S (syl l))) := ⟨rpl_wth HSN.out HRP.out.1 HP2.out, (rpl_step HFK.out HP2.out).trans HRP.out.2⟩
      obtain ⟨m2, hm2⟩ : ∃ m2, r2.length = m2 := ⟨_, rfl⟩
      have HM2 : Hid (r2.length = m2) := hm2
      rw [hm2]
      clear hm2 HP2 HRR HRD HRP HRL HM
      have BZZ : Hid (Below W2.heap.size W2 Z1) := below_trans HBD.out BZ1.out
      by_cases hz0 : m2 = 0
      · have HNL : Hid (r2 = []) := List.length_eq_zero_iff.1 (HM2.out.trans hz0)
        have HQ2 : Hid (Rw Z1 (.slice qa 0 qc) r2.length (flat rf r2)) := by have h9 := HR2.out; rw [HM2.out, hz0] at h9; rw [HM2.out, hz0]; exact h9
        have HM0 : Hid (r2.length = 0) := HM2.out.trans hz0
        subst hz0
        have hno : bits .andNot .u64 (bh : Int) (t : Int) = 0 := u64_none HBH.out HTL.out (by
          rw [← HTS.out]
          have h9 := HRQ.out.2
          rw [HNL.out] at h9
          exact le2_nil h9)
        go_upto_region 13 with fail
        clear hno
        obtain ⟨WE, hWE⟩ : ∃ WE, Z1.drew = WE := ⟨_, rfl⟩
        have BE : Hid (Below Z1.heap.size Z1 WE) := by rw [← hWE]; exact Below.drew (Below.refl _ _)
        refine wp_region_noPanic ?_
        refine wp_region_held_drew (S := fun _ => True) (by kernel_rfl) trivial (fun hHeld => ?_)
        rw [hWE]
        clear hWE
        refine wpAnyH_take (i := 0) (oi := { dst := _, op := _, type := _, pos := _, after := _, guard := _ }) (v := ?_) rfl (by kernel_rfl) (by kernel_rfl) (by kernel_rfl) (fun _ _ _ h => h) (Or.inl ⟨by rfl, ?_⟩) (by assumption) ?_
        rotate_left
        · intro W hSw
          (try dsimp only at hSw)
          go_simp
          (try with_reducible rfl)
        try simp only [Act.put, List.setIfInBounds_toArray, List.set_cons_zero, List.set_cons_succ]
        refine wpAnyH_take (i := 1) (oi := { dst := _, op := _, type := _, pos := _, after := _, guard := _ }) (v := ?_) rfl (by kernel_rfl) (by kernel_rfl) (by kernel_rfl) (fun _ _ _ h => h) (Or.inl ⟨by rfl, ?_⟩) (by assumption) ?_
        rotate_left
        · intro W hSw
          (try dsimp only at hSw)
          go_simp
          (try with_reducible rfl)
        try simp only [Act.put, List.setIfInBounds_toArray, List.set_cons_zero, List.set_cons_succ]
        refine wpAnyH_take (i := 2) (oi := { dst := _, op := _, type := _, pos := _, after := _, guard := _ }) (v := ?_) rfl (by kernel_rfl) (by kernel_rfl) (by kernel_rfl) (fun _ _ _ h => h) (Or.inl ⟨by rfl, ?_⟩) (by assumption) ?_
        rotate_left
        · intro W hSw
          (try dsimp only at hSw)
          go_simp
          (try with_reducible rfl)
        try simp only [Act.put, List.setIfInBounds_toArray, List.set_cons_zero, List.set_cons_succ]
        refine wpAnyH_take (i := 3) (oi := { dst := _, op := _, type := _, pos := _, after := _, guard := _ }) (v := ?_) rfl (by kernel_rfl) (by kernel_rfl) (by kernel_rfl) (fun _ _ _ h => h) (Or.inl ⟨by rfl, ?_⟩) (by assumption) ?_
        rotate_left
        · intro W hSw
          (try dsimp only at hSw)
          go_simp
          (try with_reducible rfl)
        try simp only [Act.put, List.setIfInBounds_toArray, List.set_cons_zero, List.set_cons_succ]
        refine wpAnyH_take (i := 4) (oi := { dst := _, op := _, type := _, pos := _, after := _, guard := _ }) rfl (by kernel_rfl) (by kernel_rfl) (by kernel_rfl) (fun _ _ _ h => h) (Or.inr ⟨by rfl, rfl⟩) (by assumption) ?_
        try simp only [Act.put, List.setIfInBounds_toArray, List.set_cons_zero, List.set_cons_succ]
        refine wpAnyH_take (i := 5) (oi := { dst := _, op := _, type := _, pos := _, after := _, guard := _ }) rfl (by kernel_rfl) (by kernel_rfl) (by kernel_rfl) (fun _ _ _ h => h) (Or.inr ⟨by rfl, rfl⟩) (by assumption) ?_
        try simp only [Act.put, List.setIfInBounds_toArray, List.set_cons_zero, List.set_cons_succ]
        refine wpAnyH_take (i := 6) (oi := { dst := _, op := _, type := _, pos := _, after := _, guard := _ }) rfl (by kernel_rfl) (by kernel_rfl) (by kernel_rfl) (fun _ _ _ h => h) (Or.inr ⟨by rfl, rfl⟩) (by assumption) ?_
        try simp only [Act.put, List.setIfInBounds_toArray, List.set_cons_zero, List.set_cons_succ]
        refine wpAnyH_take (i := 7) (oi := { dst := _, op := _, type := _, pos := _, after := _, guard := _ }) rfl (by kernel_rfl) (by kernel_rfl) (by kernel_rfl) (fun _ _ _ h => h) (Or.inr ⟨by rfl, rfl⟩) (by assumption) ?_
        try simp only [Act.put, List.setIfInBounds_toArray, List.set_cons_zero, List.set_cons_succ]
        refine wpAnyH_take (i := 8) (oi := { dst := _, op := _, type := _, pos := _, after := _, guard := _ }) rfl (by kernel_rfl) (by kernel_rfl) (by kernel_rfl) (fun _ _ _ h => h) (Or.inr ⟨by rfl, rfl⟩) (by assumption) ?_
        try simp only [Act.put, List.setIfInBounds_toArray, List.set_cons_zero, List.set_cons_succ]
        refine wpAnyH_take (i := 9) (oi := { dst := _, op := _, type := _, pos := _, after := _, guard := _ }) rfl (by kernel_rfl) (by kernel_rfl) (by kernel_rfl) (fun _ _ _ h => h) (Or.inr ⟨by rfl, rfl⟩) (by assumption) ?_
        try simp only [Act.put, List.setIfInBounds_toArray, List.set_cons_zero, List.set_cons_succ]
        refine wpAnyH_take (i := 10) (oi := { dst := _, op := _, type := _, pos := _, after := _, guard := _ }) rfl (by kernel_rfl) (by kernel_rfl) (by kernel_rfl) (fun _ _ _ h => h) (Or.inr ⟨by rfl, rfl⟩) (by assumption) ?_
        try simp only [Act.put, List.setIfInBounds_toArray, List.set_cons_zero, List.set_cons_succ]
        refine wpAnyH_take (i := 11) (oi := { dst := _, op := _, type := _, pos := _, after := _, guard := _ }) rfl (by kernel_rfl) (by kernel_rfl) (by kernel_rfl) (fun _ _ _ h => h) (Or.inr ⟨by rfl, rfl⟩) (by assumption) ?_
        try simp only [Act.put, List.setIfInBounds_toArray, List.set_cons_zero, List.set_cons_succ]
        refine wpAnyH_take (i := 12) (oi := { dst := _, op := _, type := _, pos := _, after := _, guard := _ }) (v := ?_) rfl (by kernel_rfl) (by kernel_rfl) (by kernel_rfl) (fun _ _ _ h => h) (Or.inl ⟨by rfl, ?_⟩) (by assumption) ?_
        rotate_left
        · intro W hSw
          (try dsimp only at hSw)
          go_simp
          (try with_reducible rfl)
        try simp only [Act.put, List.setIfInBounds_toArray, List.set_cons_zero, List.set_cons_succ]
        refine wpAnyH_take (i := 13) (oi := { dst := _, op := _, type := _, pos := _, after := _, guard := _ }) (v := ?_) rfl (by kernel_rfl) (by kernel_rfl) (by kernel_rfl) (fun _ _ _ h => h) (Or.inl ⟨by rfl, ?_⟩) (by assumption) ?_
        rotate_left
        · intro W hSw
          (try dsimp only at hSw)
          go_simp
          (try with_reducible rfl)
        try simp only [Act.put, List.setIfInBounds_toArray, List.set_cons_zero, List.set_cons_succ]
        refine wpAnyH_take (i := 14) (oi := { dst := _, op := _, type := _, pos := _, after := _, guard := _ }) rfl (by kernel_rfl) (by kernel_rfl) (by kernel_rfl) (fun _ _ _ h => h) (Or.inr ⟨by rfl, rfl⟩) (by assumption) ?_
        try simp only [Act.put, List.setIfInBounds_toArray, List.set_cons_zero, List.set_cons_succ]
        refine wpAnyH_take (i := 15) (oi := { dst := _, op := _, type := _, pos := _, after := _, guard := _ }) rfl (by kernel_rfl) (by kernel_rfl) (by kernel_rfl) (fun _ _ _ h => h) (Or.inr ⟨by rfl, rfl⟩) (by assumption) ?_
        try simp only [Act.put, List.setIfInBounds_toArray, List.set_cons_zero, List.set_cons_succ]
        refine wpAnyH_take (i := 16) (oi := { dst := _, op := _, type := _, pos := _, after := _, guard := _ }) rfl (by kernel_rfl) (by kernel_rfl) (by kernel_rfl) (fun _ _ _ h => h) (Or.inr ⟨by rfl, rfl⟩) (by assumption) ?_
        try simp only [Act.put, List.setIfInBounds_toArray, List.set_cons_zero, List.set_cons_succ]
        refine wpAnyH_take (i := 17) (oi := { dst := _, op := _, type := _, pos := _, after := _, guard := _ }) rfl (by kernel_rfl) (by kernel_rfl) (by kernel_rfl) (fun _ _ _ h => h) (Or.inr ⟨by rfl, rfl⟩) (by assumption) ?_
        try simp only [Act.put, List.setIfInBounds_toArray, List.set_cons_zero, List.set_cons_succ]
        refine wpAnyH_take (i := 18) (oi := { dst := _, op := _, type := _, pos := _, after := _, guard := _ }) rfl (by kernel_rfl) (by kernel_rfl) (by kernel_rfl) (fun _ _ _ h => h) (Or.inr ⟨by rfl, rfl⟩) (by assumption) ?_
        try simp only [Act.put, List.setIfInBounds_toArray, List.set_cons_zero, List.set_cons_succ]
        refine wpAnyH_take (i := 19) (oi := { dst := _, op := _, type := _, pos := _, after := _, guard := _ }) rfl (by kernel_rfl) (by kernel_rfl) (by kernel_rfl) (fun _ _ _ h => h) (Or.inr ⟨by rfl, rfl⟩) (by assumption) ?_
        try simp only [Act.put, List.setIfInBounds_toArray, List.set_cons_zero, List.set_cons_succ]
        refine wpAnyH_take (i := 20) (oi := { dst := _, op := _, type := _, pos := _, after := _, guard := _ }) rfl (by kernel_rfl) (by kernel_rfl) (by kernel_rfl) (fun _ _ _ h => h) (Or.inr ⟨by rfl, rfl⟩) (by assumption) ?_
        try simp only [Act.put, List.setIfInBounds_toArray, List.set_cons_zero, List.set_cons_succ]
        refine wpAnyH_take (i := 21) (oi := { dst := _, op := _, type := _, pos := _, after := _, guard := _ }) rfl (by kernel_rfl) (by kernel_rfl) (by kernel_rfl) (fun _ _ _ h => h) (Or.inr ⟨by rfl, rfl⟩) (by assumption) ?_
        try simp only [Act.put, List.setIfInBounds_toArray, List.set_cons_zero, List.set_cons_succ]
        refine wpAnyH_take (i := 22) (oi := { dst := _, op := _, type := _, pos := _, after := _, guard := _ }) rfl (by kernel_rfl) (by kernel_rfl) (by kernel_rfl) (fun _ _ _ h => h) (Or.inr ⟨by rfl, rfl⟩) (by assumption) ?_
        try simp only [Act.put, List.setIfInBounds_toArray, List.set_cons_zero, List.set_cons_succ]
        refine wpAnyH_take (i := 23) (oi := { dst := _, op := _, type := _, pos := _, after := _, guard := _ }) (v := ?_) rfl (by kernel_rfl) (by kernel_rfl) (by kernel_rfl) (fun _ _ _ h => h) (Or.inl ⟨by rfl, ?_⟩) (by assumption) ?_
        rotate_left
        · intro W hSw
          (try dsimp only at hSw)
          go_simp
          (try with_reducible rfl)
        try simp only [Act.put, List.setIfInBounds_toArray, List.set_cons_zero, List.set_cons_succ]
        refine wpAnyH_done (by kernel_rfl) ?_ _
        refine NoPanic.normal ?_
        clear hHeld
        go_wp2_with fail
        go_roundg (ne - (i + 1))
        case measure => have := HI.out; have := HIL.out; omega
        case rel => exact ⟨i + 1, by first | rfl | (rw [show (i : Int) + 1 = ((i + 1 : Nat) : Int) by omega]), qa, 0, qc, rfl, r2, HM0, below_trans BZZ.out BE.out, ⟨HIL.out, rfl⟩, HQ2.out.up BE.out, HL2, HRQ⟩
      · have d1 : ((m2 : Int) == 0) = false := by rw [beq_eq_false_iff_ne]; omega
        have d1' : (m2 == 0) = false := by rw [beq_eq_false_iff_ne]; omega
        have d2 : decide (0 < (m2 : Int)) = true := by rw [decide_eq_true_eq]; omega
        have d2' : decide (0 < m2) = true := by rw [decide_eq_true_eq]; omega
        have d3 : 0 < m2 := by omega
        have HQ2 : Hid (Rw Z1 (.slice qa m2 qc) r2.length (flat rf r2)) := by have h9 := HR2.out; rw [HM2.out] at h9; rw [HM2.out]; exact h9
        have nz : ¬ m2 = 0 := hz0
        clear hz0
        go_upto_region 13 with fail
        obtain ⟨WE, hWE⟩ : ∃ WE, Z1.drew = WE := ⟨_, rfl⟩
        have BE : Hid (Below Z1.heap.size Z1 WE) := by rw [← hWE]; exact Below.drew (Below.refl _ _)
        have HQE : Hid (Rw WE (.slice qa m2 qc) r2.length (flat rf r2)) := HQ2.out.up BE.out
        obtain ⟨g2, o2, cap2, e0, hc⟩ := HQE.out.place (by have := HM2.out; omega)
        obtain ⟨rfl, -, rfl⟩ := Value.slice.inj e0
        obtain ⟨q0, -, -⟩ := rf_get r2 0 (by have := HM2.out; omega)
        have k0 := hc _ _ q0
        rw [show 0 * 3 = 0 from rfl, Nat.add_zero] at k0
        have HXW : Hid _ := wth_mem HRQ.out.1 _ (mem_getD (l := r2) (i := 0) (by have := HM2.out; omega) rfd)
        obtain ⟨x, hx⟩ : ∃ x, r2.getD 0 rfd = x := ⟨_, rfl⟩
        have HXE : Hid (r2.getD 0 rfd = x) := hx
        rw [hx] at k0 HXW
        obtain ⟨xs, xf, xz⟩ := x
        dsimp only at k0 HXW
        obtain ⟨xn, hxn⟩ : ∃ xn : Nat, xs = (xn : Int) := ⟨xs.toNat, by have := HXW.out.1; omega⟩
        subst hxn
        have HSE : Hid (WE.cell? ⟨g2, o2, none⟩ = some (.int .i64 (xn : Int)) ∧ WE.cell? ⟨gb, 0, none⟩ = some (.slice a0 nT c0)) := ⟨k0, (HCC.out _ (below_trans BZZ.out BE.out)).1⟩
        clear e0 hc hx q0 k0
        by_cases hlt : xn < nT
        · have e7 : decide ((xn : Int) < (nT : Int)) = true := by rw [decide_eq_true_eq]; omega
          have e7' : decide (xn < nT) = true := by rw [decide_eq_true_eq]; omega
          have HXL : Hid (xn < nT) := hlt
          clear hlt
          have hcv : IntKind.u64.wrap (xn : Int) = (xn : Int) := u64_wrap _ (by omega) (by have := HXL.out; have := HNT.out; omega)
          have hbt : bits .and .u64 ((t : Int) / 2 ^ xn) 1 = 1 := by
            rw [u64_bit t xn HTL.out, if_pos]
            rw [← HTS.out]
            refine le2_tok HFK.out HXL.out (r := syl (r2.drop 1)) ?_
            have h9 := HRQ.out.2
            rw [syl_split r2 0 (by have := HM2.out; omega), HXE.out] at h9
            exact h9
          have hxl : xn < 64 := by have := HXL.out; have := HNT.out; omega
          refine wp_region_noPanic ?_
          refine wp_region_held_drew (S := fun W => W.cell? ⟨g2, o2, none⟩ = some (.int .i64 (xn : Int)) ∧ W.cell? ⟨gb, 0, none⟩ = some (.slice a0 nT c0)) (by kernel_rfl) (by rw [hWE]; exact HSE.out) (fun hHeld => ?_)
          rw [hWE] at hHeld ⊢
          clear hWE
          refine wpAnyH_take (i := 0) (oi := { dst := _, op := _, type := _, pos := _, after := _, guard := _ }) (v := ?_) rfl (by kernel_rfl) (by kernel_rfl) (by kernel_rfl) (fun _ _ _ h => h) (Or.inl ⟨by rfl, ?_⟩) (by assumption) ?_
          rotate_left
          · intro W hSw
            (try dsimp only at hSw)
            go_simp
            (try with_reducible rfl)
          try simp only [Act.put, List.setIfInBounds_toArray, List.set_cons_zero, List.set_cons_succ]
          refine wpAnyH_take (i := 1) (oi := { dst := _, op := _, type := _, pos := _, after := _, guard := _ }) (v := ?_) rfl (by kernel_rfl) (by kernel_rfl) (by kernel_rfl) (fun _ _ _ h => h) (Or.inl ⟨by rfl, ?_⟩) (by assumption) ?_
          rotate_left
          · intro W hSw
            (try dsimp only at hSw)
            go_simp
            (try with_reducible rfl)
          try simp only [Act.put, List.setIfInBounds_toArray, List.set_cons_zero, List.set_cons_succ]
          refine wpAnyH_take (i := 2) (oi := { dst := _, op := _, type := _, pos := _, after := _, guard := _ }) (v := ?_) rfl (by kernel_rfl) (by kernel_rfl) (by kernel_rfl) (fun _ _ _ h => h) (Or.inl ⟨by rfl, ?_⟩) (by assumption) ?_
          rotate_left
          · intro W hSw
            (try dsimp only at hSw)
            go_simp
            (try with_reducible rfl)
          try simp only [Act.put, List.setIfInBounds_toArray, List.set_cons_zero, List.set_cons_succ]
          refine wpAnyH_take (i := 3) (oi := { dst := _, op := _, type := _, pos := _, after := _, guard := _ }) (v := ?_) rfl (by kernel_rfl) (by kernel_rfl) (by kernel_rfl) (fun _ _ _ h => h) (Or.inl ⟨by rfl, ?_⟩) (by assumption) ?_
          rotate_left
          · intro W hSw
            (try dsimp only at hSw)
            go_simp
            (try with_reducible rfl)
          try simp only [Act.put, List.setIfInBounds_toArray, List.set_cons_zero, List.set_cons_succ]
          refine wpAnyH_take (i := 4) (oi := { dst := _, op := _, type := _, pos := _, after := _, guard := _ }) (v := ?_) rfl (by kernel_rfl) (by kernel_rfl) (by kernel_rfl) (fun _ _ _ h => h) (Or.inl ⟨by rfl, ?_⟩) (by assumption) ?_
          rotate_left
          · intro W hSw
            (try dsimp only at hSw)
            go_simp
            (try with_reducible rfl)
          try simp only [Act.put, List.setIfInBounds_toArray, List.set_cons_zero, List.set_cons_succ]
          refine wpAnyH_take (i := 5) (oi := { dst := _, op := _, type := _, pos := _, after := _, guard := _ }) (v := ?_) rfl (by kernel_rfl) (by kernel_rfl) (by kernel_rfl) (fun _ _ _ h => h) (Or.inl ⟨by rfl, ?_⟩) (by assumption) ?_
          rotate_left
          · intro W hSw
            (try dsimp only at hSw)
            go_simp
            (try with_reducible rfl)
          try simp only [Act.put, List.setIfInBounds_toArray, List.set_cons_zero, List.set_cons_succ]
          refine wpAnyH_take (i := 6) (oi := { dst := _, op := _, type := _, pos := _, after := _, guard := _ }) (v := ?_) rfl (by kernel_rfl) (by kernel_rfl) (by kernel_rfl) (fun _ _ _ h => h) (Or.inl ⟨by rfl, ?_⟩) (by assumption) ?_
          rotate_left
          · intro W hSw
            (try dsimp only at hSw)
            go_simp
            (try with_reducible rfl)
          try simp only [Act.put, List.setIfInBounds_toArray, List.set_cons_zero, List.set_cons_succ]
          refine wpAnyH_take (i := 7) (oi := { dst := _, op := _, type := _, pos := _, after := _, guard := _ }) (v := ?_) rfl (by kernel_rfl) (by kernel_rfl) (by kernel_rfl) (fun _ _ _ h => h) (Or.inl ⟨by rfl, ?_⟩) (by assumption) ?_
          rotate_left
          · intro W hSw
            (try dsimp only at hSw)
            go_simp
            (try with_reducible rfl)
          try simp only [Act.put, List.setIfInBounds_toArray, List.set_cons_zero, List.set_cons_succ]
          refine wpAnyH_take (i := 8) (oi := { dst := _, op := _, type := _, pos := _, after := _, guard := _ }) (v := ?_) rfl (by kernel_rfl) (by kernel_rfl) (by kernel_rfl) (fun _ _ _ h => h) (Or.inl ⟨by rfl, ?_⟩) (by assumption) ?_
          rotate_left
          · intro W hSw
            (try dsimp only at hSw)
            go_simp
            (try with_reducible rfl)
          try simp only [Act.put, List.setIfInBounds_toArray, List.set_cons_zero, List.set_cons_succ]
          refine wpAnyH_take (i := 9) (oi := { dst := _, op := _, type := _, pos := _, after := _, guard := _ }) (v := ?_) rfl (by kernel_rfl) (by kernel_rfl) (by kernel_rfl) (fun _ _ _ h => h) (Or.inl ⟨by rfl, ?_⟩) (by assumption) ?_
          rotate_left
          · intro W hSw
            (try dsimp only at hSw)
            go_simp
            (try with_reducible rfl)
          try simp only [Act.put, List.setIfInBounds_toArray, List.set_cons_zero, List.set_cons_succ]
          refine wpAnyH_take (i := 10) (oi := { dst := _, op := _, type := _, pos := _, after := _, guard := _ }) (v := ?_) rfl (by kernel_rfl) (by kernel_rfl) (by kernel_rfl) (fun _ _ _ h => h) (Or.inl ⟨by rfl, ?_⟩) (by assumption) ?_
          rotate_left
          · intro W hSw
            (try dsimp only at hSw)
            go_simp
            (try with_reducible rfl)
          try simp only [Act.put, List.setIfInBounds_toArray, List.set_cons_zero, List.set_cons_succ]
          refine wpAnyH_take (i := 11) (oi := { dst := _, op := _, type := _, pos := _, after := _, guard := _ }) (v := ?_) rfl (by kernel_rfl) (by kernel_rfl) (by kernel_rfl) (fun _ _ _ h => h) (Or.inl ⟨by rfl, ?_⟩) (by assumption) ?_
          rotate_left
          · intro W hSw
            (try dsimp only at hSw)
            go_simp
            (try with_reducible rfl)
          try simp only [Act.put, List.setIfInBounds_toArray, List.set_cons_zero, List.set_cons_succ]
          refine wpAnyH_take (i := 12) (oi := { dst := _, op := _, type := _, pos := _, after := _, guard := _ }) (v := ?_) rfl (by kernel_rfl) (by kernel_rfl) (by kernel_rfl) (fun _ _ _ h => h) (Or.inl ⟨by rfl, ?_⟩) (by assumption) ?_
          rotate_left
          · intro W hSw
            (try dsimp only at hSw)
            go_simp
            (try with_reducible rfl)
          try simp only [Act.put, List.setIfInBounds_toArray, List.set_cons_zero, List.set_cons_succ]
          refine wpAnyH_take (i := 13) (oi := { dst := _, op := _, type := _, pos := _, after := _, guard := _ }) (v := ?_) rfl (by kernel_rfl) (by kernel_rfl) (by kernel_rfl) (fun _ _ _ h => h) (Or.inl ⟨by rfl, ?_⟩) (by assumption) ?_
          rotate_left
          · intro W hSw
            (try dsimp only at hSw)
            go_simp
            (try with_reducible rfl)
          try simp only [Act.put, List.setIfInBounds_toArray, List.set_cons_zero, List.set_cons_succ]
          refine wpAnyH_take (i := 14) (oi := { dst := _, op := _, type := _, pos := _, after := _, guard := _ }) (v := ?_) rfl (by kernel_rfl) (by kernel_rfl) (by kernel_rfl) (fun _ _ _ h => h) (Or.inl ⟨by rfl, ?_⟩) (by assumption) ?_
          rotate_left
          · intro W hSw
            (try dsimp only at hSw)
            go_simp
            (try with_reducible rfl)
          try simp only [Act.put, List.setIfInBounds_toArray, List.set_cons_zero, List.set_cons_succ]
          refine wpAnyH_take (i := 15) (oi := { dst := _, op := _, type := _, pos := _, after := _, guard := _ }) (v := ?_) rfl (by kernel_rfl) (by kernel_rfl) (by kernel_rfl) (fun _ _ _ h => h) (Or.inl ⟨by rfl, ?_⟩) (by assumption) ?_
          rotate_left
          · intro W hSw
            (try dsimp only at hSw)
            go_simp
            (try with_reducible rfl)
          try simp only [Act.put, List.setIfInBounds_toArray, List.set_cons_zero, List.set_cons_succ]
          refine wpAnyH_take (i := 16) (oi := { dst := _, op := _, type := _, pos := _, after := _, guard := _ }) (v := ?_) rfl (by kernel_rfl) (by kernel_rfl) (by kernel_rfl) (fun _ _ _ h => h) (Or.inl ⟨by rfl, ?_⟩) (by assumption) ?_
          rotate_left
          · intro W hSw
            (try dsimp only at hSw)
            go_simp
            (try with_reducible rfl)
          try simp only [Act.put, List.setIfInBounds_toArray, List.set_cons_zero, List.set_cons_succ]
          refine wpAnyH_take (i := 17) (oi := { dst := _, op := _, type := _, pos := _, after := _, guard := _ }) (v := ?_) rfl (by kernel_rfl) (by kernel_rfl) (by kernel_rfl) (fun _ _ _ h => h) (Or.inl ⟨by rfl, ?_⟩) (by assumption) ?_
          rotate_left
          · intro W hSw
            (try dsimp only at hSw)
            go_simp
            (try with_reducible rfl)
          try simp only [Act.put, List.setIfInBounds_toArray, List.set_cons_zero, List.set_cons_succ]
          refine wpAnyH_take (i := 18) (oi := { dst := _, op := _, type := _, pos := _, after := _, guard := _ }) (v := ?_) rfl (by kernel_rfl) (by kernel_rfl) (by kernel_rfl) (fun _ _ _ h => h) (Or.inl ⟨by rfl, ?_⟩) (by assumption) ?_
          rotate_left
          · intro W hSw
            (try dsimp only at hSw)
            go_simp
            (try with_reducible rfl)
          try simp only [Act.put, List.setIfInBounds_toArray, List.set_cons_zero, List.set_cons_succ]
          refine wpAnyH_take (i := 19) (oi := { dst := _, op := _, type := _, pos := _, after := _, guard := _ }) (v := ?_) rfl (by kernel_rfl) (by kernel_rfl) (by kernel_rfl) (fun _ _ _ h => h) (Or.inl ⟨by rfl, ?_⟩) (by assumption) ?_
          rotate_left
          · intro W hSw
            (try dsimp only at hSw)
            go_simp
            (try with_reducible rfl)
          try simp only [Act.put, List.setIfInBounds_toArray, List.set_cons_zero, List.set_cons_succ]
          refine wpAnyH_take (i := 20) (oi := { dst := _, op := _, type := _, pos := _, after := _, guard := _ }) (v := ?_) rfl (by kernel_rfl) (by kernel_rfl) (by kernel_rfl) (fun _ _ _ h => h) (Or.inl ⟨by rfl, ?_⟩) (by assumption) ?_
          rotate_left
          · intro W hSw
            (try dsimp only at hSw)
            go_simp
            (try with_reducible rfl)
          try simp only [Act.put, List.setIfInBounds_toArray, List.set_cons_zero, List.set_cons_succ]
          refine wpAnyH_take (i := 21) (oi := { dst := _, op := _, type := _, pos := _, after := _, guard := _ }) (v := ?_) rfl (by kernel_rfl) (by kernel_rfl) (by kernel_rfl) (fun _ _ _ h => h) (Or.inl ⟨by rfl, ?_⟩) (by assumption) ?_
          rotate_left
          · intro W hSw
            (try dsimp only at hSw)
            go_simp
            (try with_reducible rfl)
          try simp only [Act.put, List.setIfInBounds_toArray, List.set_cons_zero, List.set_cons_succ]
          refine wpAnyH_take (i := 22) (oi := { dst := _, op := _, type := _, pos := _, after := _, guard := _ }) (v := ?_) rfl (by kernel_rfl) (by kernel_rfl) (by kernel_rfl) (fun _ _ _ h => h) (Or.inl ⟨by rfl, ?_⟩) (by assumption) ?_
          rotate_left
          · intro W hSw
            (try dsimp only at hSw)
            go_simp
            (try with_reducible rfl)
          try simp only [Act.put, List.setIfInBounds_toArray, List.set_cons_zero, List.set_cons_succ]
          refine wpAnyH_take (i := 23) (oi := { dst := _, op := _, type := _, pos := _, after := _, guard := _ }) (v := ?_) rfl (by kernel_rfl) (by kernel_rfl) (by kernel_rfl) (fun _ _ _ h => h) (Or.inl ⟨by rfl, ?_⟩) (by assumption) ?_
          rotate_left
          · intro W hSw
            (try dsimp only at hSw)
            go_simp
            (try with_reducible rfl)
          try simp only [Act.put, List.setIfInBounds_toArray, List.set_cons_zero, List.set_cons_succ]
          refine wpAnyH_done (by kernel_rfl) ?_ _
          refine NoPanic.normal ?_
          clear hHeld
          go_wp2_with fail
          go_roundg (ne - (i + 1))
          case measure => have := HI.out; have := HIL.out; omega
          case rel => exact ⟨i + 1, by first | rfl | (rw [show (i : Int) + 1 = ((i + 1 : Nat) : Int) by omega]), _, m2, _, rfl, r2, HM2, below_trans BZZ.out BE.out, ⟨HIL.out, rfl⟩, HQE, HL2, HRQ⟩
        · have e7 : decide ((xn : Int) < (nT : Int)) = false := by rw [decide_eq_false_iff_not]; omega
          have e7' : decide (xn < nT) = false := by rw [decide_eq_false_iff_not]; omega
          clear hlt
          refine wp_region_noPanic ?_
          refine wp_region_held_drew (S := fun W => W.cell? ⟨g2, o2, none⟩ = some (.int .i64 (xn : Int)) ∧ W.cell? ⟨gb, 0, none⟩ = some (.slice a0 nT c0)) (by kernel_rfl) (by rw [hWE]; exact HSE.out) (fun hHeld => ?_)
          rw [hWE] at hHeld ⊢
          clear hWE
          refine wpAnyH_take (i := 0) (oi := { dst := _, op := _, type := _, pos := _, after := _, guard := _ }) (v := ?_) rfl (by kernel_rfl) (by kernel_rfl) (by kernel_rfl) (fun _ _ _ h => h) (Or.inl ⟨by rfl, ?_⟩) (by assumption) ?_
          rotate_left
          · intro W hSw
            (try dsimp only at hSw)
            go_simp
            (try with_reducible rfl)
          try simp only [Act.put, List.setIfInBounds_toArray, List.set_cons_zero, List.set_cons_succ]
          refine wpAnyH_take (i := 1) (oi := { dst := _, op := _, type := _, pos := _, after := _, guard := _ }) (v := ?_) rfl (by kernel_rfl) (by kernel_rfl) (by kernel_rfl) (fun _ _ _ h => h) (Or.inl ⟨by rfl, ?_⟩) (by assumption) ?_
          rotate_left
          · intro W hSw
            (try dsimp only at hSw)
            go_simp
            (try with_reducible rfl)
          try simp only [Act.put, List.setIfInBounds_toArray, List.set_cons_zero, List.set_cons_succ]
          refine wpAnyH_take (i := 2) (oi := { dst := _, op := _, type := _, pos := _, after := _, guard := _ }) (v := ?_) rfl (by kernel_rfl) (by kernel_rfl) (by kernel_rfl) (fun _ _ _ h => h) (Or.inl ⟨by rfl, ?_⟩) (by assumption) ?_
          rotate_left
          · intro W hSw
            (try dsimp only at hSw)
            go_simp
            (try with_reducible rfl)
          try simp only [Act.put, List.setIfInBounds_toArray, List.set_cons_zero, List.set_cons_succ]
          refine wpAnyH_take (i := 3) (oi := { dst := _, op := _, type := _, pos := _, after := _, guard := _ }) (v := ?_) rfl (by kernel_rfl) (by kernel_rfl) (by kernel_rfl) (fun _ _ _ h => h) (Or.inl ⟨by rfl, ?_⟩) (by assumption) ?_
          rotate_left
          · intro W hSw
            (try dsimp only at hSw)
            go_simp
            (try with_reducible rfl)
          try simp only [Act.put, List.setIfInBounds_toArray, List.set_cons_zero, List.set_cons_succ]
          refine wpAnyH_take (i := 4) (oi := { dst := _, op := _, type := _, pos := _, after := _, guard := _ }) (v := ?_) rfl (by kernel_rfl) (by kernel_rfl) (by kernel_rfl) (fun _ _ _ h => h) (Or.inl ⟨by rfl, ?_⟩) (by assumption) ?_
          rotate_left
          · intro W hSw
            (try dsimp only at hSw)
            go_simp
            (try with_reducible rfl)
          try simp only [Act.put, List.setIfInBounds_toArray, List.set_cons_zero, List.set_cons_succ]
          refine wpAnyH_take (i := 5) (oi := { dst := _, op := _, type := _, pos := _, after := _, guard := _ }) (v := ?_) rfl (by kernel_rfl) (by kernel_rfl) (by kernel_rfl) (fun _ _ _ h => h) (Or.inl ⟨by rfl, ?_⟩) (by assumption) ?_
          rotate_left
          · intro W hSw
            (try dsimp only at hSw)
            go_simp
            (try with_reducible rfl)
          try simp only [Act.put, List.setIfInBounds_toArray, List.set_cons_zero, List.set_cons_succ]
          refine wpAnyH_take (i := 6) (oi := { dst := _, op := _, type := _, pos := _, after := _, guard := _ }) (v := ?_) rfl (by kernel_rfl) (by kernel_rfl) (by kernel_rfl) (fun _ _ _ h => h) (Or.inl ⟨by rfl, ?_⟩) (by assumption) ?_
          rotate_left
          · intro W hSw
            (try dsimp only at hSw)
            go_simp
            (try with_reducible rfl)
          try simp only [Act.put, List.setIfInBounds_toArray, List.set_cons_zero, List.set_cons_succ]
          refine wpAnyH_take (i := 7) (oi := { dst := _, op := _, type := _, pos := _, after := _, guard := _ }) (v := ?_) rfl (by kernel_rfl) (by kernel_rfl) (by kernel_rfl) (fun _ _ _ h => h) (Or.inl ⟨by rfl, ?_⟩) (by assumption) ?_
          rotate_left
          · intro W hSw
            (try dsimp only at hSw)
            go_simp
            (try with_reducible rfl)
          try simp only [Act.put, List.setIfInBounds_toArray, List.set_cons_zero, List.set_cons_succ]
          refine wpAnyH_take (i := 8) (oi := { dst := _, op := _, type := _, pos := _, after := _, guard := _ }) (v := ?_) rfl (by kernel_rfl) (by kernel_rfl) (by kernel_rfl) (fun _ _ _ h => h) (Or.inl ⟨by rfl, ?_⟩) (by assumption) ?_
          rotate_left
          · intro W hSw
            (try dsimp only at hSw)
            go_simp
            (try with_reducible rfl)
          try simp only [Act.put, List.setIfInBounds_toArray, List.set_cons_zero, List.set_cons_succ]
          refine wpAnyH_take (i := 9) (oi := { dst := _, op := _, type := _, pos := _, after := _, guard := _ }) (v := ?_) rfl (by kernel_rfl) (by kernel_rfl) (by kernel_rfl) (fun _ _ _ h => h) (Or.inl ⟨by rfl, ?_⟩) (by assumption) ?_
          rotate_left
          · intro W hSw
            (try dsimp only at hSw)
            go_simp
            (try with_reducible rfl)
          try simp only [Act.put, List.setIfInBounds_toArray, List.set_cons_zero, List.set_cons_succ]
          refine wpAnyH_take (i := 10) (oi := { dst := _, op := _, type := _, pos := _, after := _, guard := _ }) (v := ?_) rfl (by kernel_rfl) (by kernel_rfl) (by kernel_rfl) (fun _ _ _ h => h) (Or.inl ⟨by rfl, ?_⟩) (by assumption) ?_
          rotate_left
          · intro W hSw
            (try dsimp only at hSw)
            go_simp
            (try with_reducible rfl)
          try simp only [Act.put, List.setIfInBounds_toArray, List.set_cons_zero, List.set_cons_succ]
          refine wpAnyH_take (i := 11) (oi := { dst := _, op := _, type := _, pos := _, after := _, guard := _ }) (v := ?_) rfl (by kernel_rfl) (by kernel_rfl) (by kernel_rfl) (fun _ _ _ h => h) (Or.inl ⟨by rfl, ?_⟩) (by assumption) ?_
          rotate_left
          · intro W hSw
            (try dsimp only at hSw)
            go_simp
            (try with_reducible rfl)
          try simp only [Act.put, List.setIfInBounds_toArray, List.set_cons_zero, List.set_cons_succ]
          refine wpAnyH_take (i := 12) (oi := { dst := _, op := _, type := _, pos := _, after := _, guard := _ }) (v := ?_) rfl (by kernel_rfl) (by kernel_rfl) (by kernel_rfl) (fun _ _ _ h => h) (Or.inl ⟨by rfl, ?_⟩) (by assumption) ?_
          rotate_left
          · intro W hSw
            (try dsimp only at hSw)
            go_simp
            (try with_reducible rfl)
          try simp only [Act.put, List.setIfInBounds_toArray, List.set_cons_zero, List.set_cons_succ]
          refine wpAnyH_take (i := 13) (oi := { dst := _, op := _, type := _, pos := _, after := _, guard := _ }) (v := ?_) rfl (by kernel_rfl) (by kernel_rfl) (by kernel_rfl) (fun _ _ _ h => h) (Or.inl ⟨by rfl, ?_⟩) (by assumption) ?_
          rotate_left
          · intro W hSw
            (try dsimp only at hSw)
            go_simp
            (try with_reducible rfl)
          try simp only [Act.put, List.setIfInBounds_toArray, List.set_cons_zero, List.set_cons_succ]
          refine wpAnyH_take (i := 14) (oi := { dst := _, op := _, type := _, pos := _, after := _, guard := _ }) rfl (by kernel_rfl) (by kernel_rfl) (by kernel_rfl) (fun _ _ _ h => h) (Or.inr ⟨by rfl, rfl⟩) (by assumption) ?_
          try simp only [Act.put, List.setIfInBounds_toArray, List.set_cons_zero, List.set_cons_succ]
          refine wpAnyH_take (i := 15) (oi := { dst := _, op := _, type := _, pos := _, after := _, guard := _ }) rfl (by kernel_rfl) (by kernel_rfl) (by kernel_rfl) (fun _ _ _ h => h) (Or.inr ⟨by rfl, rfl⟩) (by assumption) ?_
          try simp only [Act.put, List.setIfInBounds_toArray, List.set_cons_zero, List.set_cons_succ]
          refine wpAnyH_take (i := 16) (oi := { dst := _, op := _, type := _, pos := _, after := _, guard := _ }) rfl (by kernel_rfl) (by kernel_rfl) (by kernel_rfl) (fun _ _ _ h => h) (Or.inr ⟨by rfl, rfl⟩) (by assumption) ?_
          try simp only [Act.put, List.setIfInBounds_toArray, List.set_cons_zero, List.set_cons_succ]
          refine wpAnyH_take (i := 17) (oi := { dst := _, op := _, type := _, pos := _, after := _, guard := _ }) rfl (by kernel_rfl) (by kernel_rfl) (by kernel_rfl) (fun _ _ _ h => h) (Or.inr ⟨by rfl, rfl⟩) (by assumption) ?_
          try simp only [Act.put, List.setIfInBounds_toArray, List.set_cons_zero, List.set_cons_succ]
          refine wpAnyH_take (i := 18) (oi := { dst := _, op := _, type := _, pos := _, after := _, guard := _ }) rfl (by kernel_rfl) (by kernel_rfl) (by kernel_rfl) (fun _ _ _ h => h) (Or.inr ⟨by rfl, rfl⟩) (by assumption) ?_
          try simp only [Act.put, List.setIfInBounds_toArray, List.set_cons_zero, List.set_cons_succ]
          refine wpAnyH_take (i := 19) (oi := { dst := _, op := _, type := _, pos := _, after := _, guard := _ }) rfl (by kernel_rfl) (by kernel_rfl) (by kernel_rfl) (fun _ _ _ h => h) (Or.inr ⟨by rfl, rfl⟩) (by assumption) ?_
          try simp only [Act.put, List.setIfInBounds_toArray, List.set_cons_zero, List.set_cons_succ]
          refine wpAnyH_take (i := 20) (oi := { dst := _, op := _, type := _, pos := _, after := _, guard := _ }) rfl (by kernel_rfl) (by kernel_rfl) (by kernel_rfl) (fun _ _ _ h => h) (Or.inr ⟨by rfl, rfl⟩) (by assumption) ?_
          try simp only [Act.put, List.setIfInBounds_toArray, List.set_cons_zero, List.set_cons_succ]
          refine wpAnyH_take (i := 21) (oi := { dst := _, op := _, type := _, pos := _, after := _, guard := _ }) rfl (by kernel_rfl) (by kernel_rfl) (by kernel_rfl) (fun _ _ _ h => h) (Or.inr ⟨by rfl, rfl⟩) (by assumption) ?_
          try simp only [Act.put, List.setIfInBounds_toArray, List.set_cons_zero, List.set_cons_succ]
          refine wpAnyH_take (i := 22) (oi := { dst := _, op := _, type := _, pos := _, after := _, guard := _ }) rfl (by kernel_rfl) (by kernel_rfl) (by kernel_rfl) (fun _ _ _ h => h) (Or.inr ⟨by rfl, rfl⟩) (by assumption) ?_
          try simp only [Act.put, List.setIfInBounds_toArray, List.set_cons_zero, List.set_cons_succ]
          refine wpAnyH_take (i := 23) (oi := { dst := _, op := _, type := _, pos := _, after := _, guard := _ }) (v := ?_) rfl (by kernel_rfl) (by kernel_rfl) (by kernel_rfl) (fun _ _ _ h => h) (Or.inl ⟨by rfl, ?_⟩) (by assumption) ?_
          rotate_left
          · intro W hSw
            (try dsimp only at hSw)
            go_simp
            (try with_reducible rfl)
          try simp only [Act.put, List.setIfInBounds_toArray, List.set_cons_zero, List.set_cons_succ]
          refine wpAnyH_done (by kernel_rfl) ?_ _
          refine NoPanic.normal ?_
          clear hHeld
          go_wp2_with fail
          go_roundg (ne - (i + 1))
          case measure => have := HI.out; have := HIL.out; omega
          case rel => exact ⟨i + 1, by first | rfl | (rw [show (i : Int) + 1 = ((i + 1 : Nat) : Int) by omega]), _, m2, _, rfl, r2, HM2, below_trans BZZ.out BE.out, ⟨HIL.out, rfl⟩, HQE, HL2, HRQ⟩
    · have e1 : decide ((i : Int) < (ne : Int)) = false := by rw [decide_eq_false_iff_not]; omega
      have e2 : decide (i < ne) = false := by rw [decide_eq_false_iff_not]; omega
      clear hi
      obtain ⟨p0, p1, p2⟩ := HCC.out wr HBW.out
      have HGZ : Hid (Gm wr (.slice a0 nT c0) (.slice a1 nS c1) (.slice a2 n c2) nT nS P) := HGN.out.up HBW.out
      have HUR : Hid (ofp nT nS P r bh = ofS S (syl r) bh) := HOF.out r HRP.out.1
      obtain ⟨u, hu⟩ : ∃ u, ofS S (syl r) bh = u := ⟨_, rfl⟩
      have HU : Hid (ofS S (syl r) bh = u) := hu
      clear hu
      have hno : bits .andNot .u64 (u : Int) (t : Int) = 0 := u64_none (by rw [← HU.out]; exact ofS_lt HFK.out _ _ HBH.out) HTL.out (by
        rw [← HTS.out, ← HU.out]
        exact ofS_mono HRP.out.2)
      go_wp2_with (go_at_call 9; refine (of_any wr HGZ.out HZ.out HRR.out HRL.out HBH.out).mono ?_; rintro e Y9 ⟨rfl, -, hy9⟩; have BY9 : Hid (Below wr.heap.size wr Y9) := hy9; clear hy9; rw [HUR.out, HU.out])
      go_ret
      exact ⟨rfl, below_trans BW2.out (below_trans HBW.out BY9.out)⟩
end Go.Proofs.Ytodncbkdlnepjaa
