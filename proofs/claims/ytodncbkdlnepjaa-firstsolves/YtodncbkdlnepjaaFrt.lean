import Derived.Test.YtodncbkdlnepjaaFrs
namespace Go.Proofs.Ytodncbkdlnepjaa
open Go.RowKit Go.Maps

theorem fk_pure {nT nS : Nat} {P : List Pd} (hs : snd nT nS P = true) : Fk nT (P.map pq) (fin nT (P.map pq)) := by
  obtain ⟨⟨_, h64, h128⟩, hP⟩ := snd_mem hs
  obtain ⟨l, hl⟩ : ∃ l, prd nT (P.map pq) = l := ⟨_, rfl⟩
  have hout : ∀ i, 192 ≤ i → ∀ p ∈ l, i ≠ p.1 := fun i hi p hp => by
    rw [← hl] at hp
    obtain ⟨q, hq, h0, rfl⟩ := prd_mem.1 hp
    obtain ⟨r, hr, rfl⟩ := List.mem_map.1 hq
    have := (hP r hr).2.1
    have h0' : 0 ≤ r.1 := h0
    show i ≠ nT + r.1.toNat
    omega
  have hex : ∃ k, anw l (its l (bar nT) k) = its l (bar nT) k := by
    refine Classical.byContradiction fun hn => ?_
    have hk : ∀ k, k ≤ mu (its l (bar nT) k) := by
      intro k
      induction k with
      | zero => exact Nat.zero_le _
      | succ k ih =>
        have h1 : ((List.range 192).all fun i => decide (anw l (its l (bar nT) k) i = its l (bar nT) k i)) = false := by
          cases e : (List.range 192).all fun i => decide (anw l (its l (bar nT) k) i = its l (bar nT) k i) with
          | false => rfl
          | true => exact absurd ⟨k, all_eq e (fun i hi => anw_out l i (hout i hi) _)⟩ hn
        have := mu_lt (anw_up l (its l (bar nT) k)) h1
        show k + 1 ≤ mu (anw l (its l (bar nT) k))
        omega
    have h1 := hk 3541774862152233910273
    have h2 := mu_bound (its_lt l (bar nT) (bar_lt nT h64) 3541774862152233910273)
    omega
  obtain ⟨k, hk⟩ := hex
  have hf : fin nT (P.map pq) = its l (bar nT) k := by unfold fin; rw [hl]; exact stl_eq l _ k hk
  exact fk_of h64 ⟨k, by rw [hl]; exact hf⟩ (by rw [hf, hl]; exact hk)

set_option maxRecDepth 100000 in
set_option maxHeartbeats 16000000 in
theorem begins_any {v0 v1 v2 vn v : Value} {nT nS : Nat} {P : List Pd} {S : Ss} {l : List Rf} (w : World) (hg : Gm w v0 v1 v2 nT nS P) (hz : Gz nT nS P) (hs : snd nT nS P = true) (hfk : Fk nT (P.map pq) S) (hn : Bq w vn (nT + nS) (fun x => (S x).2)) (hr : Rw w v l.length (flat rf l)) (hl : l.length * 40 + 4096 ≤ 140737488355328) (hw : wth (nT + nS) l = true) :
    Calls Try.prog 37 #[.agg #[v0, v1, v2], vn, v] w fun e w' => e = .returned (.int .u64 ((alg S (syl l)).1 : Int)) ∧ Below w.heap.size w w' := by
  have HG : Hid (Gm w v0 v1 v2 nT nS P) := hg
  have HZ : Hid (Gz nT nS P) := hz
  have HSN : Hid (snd nT nS P = true) := hs
  have HSM : Hid _ := snd_mem hs
  have HFK : Hid (Fk nT (P.map pq) S) := hfk
  have HNB : Hid (Bq w vn (nT + nS) (fun x => (S x).2)) := hn
  have HV : Hid (Rw w v l.length (flat rf l)) := hr
  have HL : Hid (l.length * 40 + 4096 ≤ 140737488355328) := hl
  have HWT : Hid (wth (nT + nS) l = true) := hw
  obtain ⟨a0, c0, a1, c1, a2, c2, rfl, rfl, rfl⟩ := hg.form
  obtain ⟨an, cn, rfl⟩ := hn.form
  obtain ⟨a, c, rfl⟩ := hr.form
  clear hg hz hs hfk hn hr hl hw
  obtain ⟨n, hnn⟩ : ∃ n, P.length = n := ⟨_, rfl⟩
  rw [hnn] at HG ⊢
  clear hnn
  obtain ⟨na, hna⟩ : ∃ na, l.length = na := ⟨_, rfl⟩
  have HNA : Hid (l.length = na) := hna
  rw [hna] at HV ⊢
  clear hna
  obtain ⟨N, hN⟩ : ∃ N, nT + nS = N := ⟨_, rfl⟩
  have HN : Hid (nT + nS = N) := hN
  have HNL : Hid (N ≤ 192) := by have := HSM.out.1; show N ≤ 192; omega
  rw [hN] at HNB HWT ⊢
  clear hN
  obtain ⟨W1, hW1⟩ : ∃ W1, W1 = w.alloc (.cells #[.slice a0 nT c0, .slice a1 nS c1, .slice a2 n c2] 26) := ⟨_, rfl⟩
  have HX : Hid (W1.heap[w.heap.size]? = some (.cells #[.slice a0 nT c0, .slice a1 nS c1, .slice a2 n c2] 26 (0, 0))) := by rw [hW1]; exact heap_new w _
  have HB1 : Hid (Below w.heap.size w W1) := by rw [hW1]; exact bel_up _ _
  go_enter Try.func37, Try.ntmps37
  go_upto_region 1 with fail
  rw [← hW1]
  clear hW1
  obtain ⟨gb, hgb⟩ : ∃ gb, w.heap.size = gb := ⟨_, rfl⟩
  have HGB : Hid (w.heap.size = gb) := hgb
  rw [hgb] at HX ⊢
  clear hgb
  have HCC : Hid (∀ W : World, W.heap[gb]? = some (.cells #[.slice a0 nT c0, .slice a1 nS c1, .slice a2 n c2] 26 (0, 0)) → W.cell? ⟨gb, 0, none⟩ = some (.slice a0 nT c0) ∧ W.cell? ⟨gb, 1, none⟩ = some (.slice a1 nS c1) ∧ W.cell? ⟨gb, 2, none⟩ = some (.slice a2 n c2)) := fun W hW => ⟨rcell hW 0 _ rfl, rcell hW 1 _ rfl, rcell hW 2 _ rfl⟩
  obtain ⟨p0, p1, p2⟩ := HCC.out W1 HX.out
  have hadd : IntKind.i64.wrap ((nT : Int) + (nS : Int)) = (N : Int) := by have := HNL.out; have := HN.out; rw [IntKind.wrap_i64]; omega
  have hmk : ∀ W : World, (Instr.makeSlice 37 (.int .i64 (N : Int)) (.int .i64 (N : Int))).run Try.prog W = .ok (.slice (some ⟨W.heap.size, 0, none⟩) N N) (W.alloc (.cells ((List.range N).map fun _ => (.bool false : Value)).toArray 4)) := fun W => by
    obtain ⟨i0, hi, hz0, hz1, hz2⟩ := info_parts info4
    have h := run_make W 37 4 i0 (.bool false) Try.underlying37 hi hz0 .i64 .i64 (N : Int) (N : Int) (by omega) (Int.le_refl _) (by rw [hz2]; have := HNL.out; omega) (by have := HNL.out; omega)
    rw [hz1] at h
    simp only [Int.toNat_natCast, Nat.mul_one] at h
    rw [← made_list]
    exact h
  go_upto_region 2 with fail
  clear hmk hadd p0 p1 p2
  obtain ⟨W2, hW2⟩ : ∃ W2, W2 = W1.alloc (.cells ((List.range N).map fun _ => (.bool false : Value)).toArray 4) := ⟨_, rfl⟩
  rw [← hW2]
  have B2 : Hid (Below W1.heap.size W1 W2) := by rw [hW2]; exact bel_up _ _
  have HO2 : Hid (W2.heap[W1.heap.size]? = some (.cells (qC N (fun _ => false)).toArray 4 (0, 0))) := by rw [hW2, qC_zero]; exact heap_new _ _
  clear hW2
  have HBB : Hid (W1.heap.size ≤ W1.heap.size ∧ gb ≠ W1.heap.size ∧ w.heap.size ≤ W1.heap.size) := ⟨Nat.le_refl _, Nat.ne_of_lt (lt_of_heap HX.out), HB1.out.size⟩
  obtain ⟨b, hb⟩ : ∃ b, W1.heap.size = b := ⟨_, rfl⟩
  have HBE : Hid (W1.heap.size = b) := hb
  have HB : Hid (W1.heap.size ≤ b ∧ gb ≠ b ∧ w.heap.size ≤ b) := by have h9 := HBB.out; rw [hb] at h9; exact ⟨Nat.le_of_eq hb, h9.2.1, h9.2.2⟩
  rw [hb] at HO2 ⊢
  clear hb HBB
  have HX2 : Hid (W2.heap[gb]? = some (.cells #[.slice a0 nT c0, .slice a1 nS c1, .slice a2 n c2] 26 (0, 0))) := (B2.out.block _ (lt_of_heap HX.out)).trans HX.out
  obtain ⟨p0, p1, p2⟩ := HCC.out W2 HX2.out
  have HG1 : Hid (Gm W1 (.slice a0 nT c0) (.slice a1 nS c1) (.slice a2 n c2) nT nS P) := HG.out.up HB1.out
  have HN1 : Hid (Bq W1 (.slice an N cn) N (fun x => (S x).2)) := HNB.out.up HB1.out
  have HV1 : Hid (Rw W1 (.slice a na c) l.length (flat rf l)) := by rw [HNA.out]; exact HV.out.up HB1.out
  go_upto_region 5 with (go_at_call 44; refine (leads_any W1 HG1.out HZ.out HSN.out HN1.out HN.out b HB.out.1 (un N (fun _ => false) + 1) W2 _ l (fun _ => false) B2.out HO2.out HV1.out HL.out HWT.out (Nat.lt_succ_self _)).mono ?_; rintro e Z1 ⟨R, rfl, hu1, hu2, hz1⟩; have HGZ : Hid (W2.grownBy Z1 (some b)) := hz1; have HRZ : Hid (Z1.heap[b]? = some (.cells (qC N R).toArray 4 (0, 0))) := hu1; have HLD : Hid (Ld (fun x => (S x).2) nT P (syl l) (fun _ => false) R) := hu2; clear hu1 hu2 hz1)
  clear p0 p1 p2
  have HXZ : Hid (Z1.heap[gb]? = some (.cells #[.slice a0 nT c0, .slice a1 nS c1, .slice a2 n c2] 26 (0, 0))) := (HGZ.out.block _ (lt_of_heap HX2.out) (fun e => HB.out.2.1 (by cases e; rfl))).trans HX2.out
  have HBZ : Hid (Below w.heap.size w Z1) := below_grown (below_trans HB1.out B2.out) HB.out.2.2 HGZ.out
  have HMK : Hid (mk R nT = (alg S (syl l)).1) := ld_alg HSM.out.1.2.1 HFK.out HLD.out
  go_loopg [8, 9] nT (fun gm v8 v9 wr => ∃ i : Nat, v9 = .int .i64 (i : Int) ∧ v8 = .int .u64 ((mk R i : Nat) : Int) ∧ Hid (Below Z1.heap.size Z1 wr) ∧ Hid (i ≤ nT ∧ gm = nT - i))
  case atStart => exact ⟨0, rfl, rfl, Below.refl _ _, ⟨Nat.zero_le _, rfl⟩⟩
  case round =>
    obtain ⟨i, rfl, rfl, HBW, HI⟩ := hrel
    obtain ⟨p0, p1, p2⟩ := HCC.out wr ((HBW.out.block _ (lt_of_heap HXZ.out)).trans HXZ.out)
    by_cases hi : i < nT
    · have HIL : Hid (i < nT) := hi
      have HIK : Hid (i < N ∧ i < 64) := by have := HN.out; have := HSM.out.1; show _ ∧ _; omega
      have s1 := below_cell HBW.out (rcell HRZ.out i _ (by rw [List.getElem?_toArray]; exact qC_get R HIK.out.1))
      have hwr := w64n i (by have := HIK.out; omega)
      have hcv : IntKind.u64.wrap (i : Int) = (i : Int) := u64_wrap _ (by omega) (by have := HIK.out; omega)
      have hsh2 : IntKind.u64.wrap (2 ^ i) = ((2 ^ i : Nat) : Int) := by
        rw [u64_wrap _ (by have : (0 : Int) < 2 ^ i := Int.pow_pos (by decide); omega) (by
          have h2 : (2 : Nat) ^ i < 2 ^ 64 := Nat.pow_lt_pow_right (by decide) HIK.out.2
          have h3 : ((2 ^ i : Nat) : Int) < ((2 ^ 64 : Nat) : Int) := by exact_mod_cast h2
          simpa using h3)]
        simp
      have HP2 : Hid (2 ^ i < 2 ^ 64) := Nat.pow_lt_pow_right (by decide) HIK.out.2
      have HME : Hid (mk R (i + 1) = mk R i ||| (if R i = true then 2 ^ i else 0)) := rfl
      have HML : Hid (mk R i < 2 ^ 64) := mk_lt R i (by have := HIK.out; omega)
      have e1 : decide ((i : Int) < (nT : Int)) = true := by rw [decide_eq_true_eq]; omega
      have e2 : decide (i < nT) = true := by rw [decide_eq_true_eq]; omega
      have e5 : (i : Int) < (nT : Int) := by omega
      have e6 : i < nT := hi
      have e7 : (i : Int) < (N : Int) := by have := HIK.out; omega
      have e8 : i < N := HIK.out.1
      have e9 : i < 64 := HIK.out.2
      clear hi
      obtain ⟨m, hm⟩ : ∃ m, mk R i = m := ⟨_, rfl⟩
      rw [hm] at HME HML ⊢
      clear hm
      obtain ⟨pw, hpw⟩ : ∃ pw : Nat, 2 ^ i = pw := ⟨_, rfl⟩
      rw [hpw] at hsh2 HME HP2
      have hsh3 : IntKind.u64.wrap (2 ^ min i 64) = (pw : Int) := by rw [Nat.min_eq_left (by omega)]; exact hsh2
      clear hpw
      have hor := u64_or m pw HML.out HP2.out
      cases hv : R i with
      | false =>
        rw [hv] at s1
        rw [hv, if_neg (by decide), Nat.or_zero] at HME
        clear hv
        go_wp2_with fail
        go_roundg (nT - (i + 1))
        case measure => have := HI.out; have := HIL.out; omega
        case rel => exact ⟨i + 1, by first | rfl | (rw [show (i : Int) + 1 = ((i + 1 : Nat) : Int) by omega]), by rw [HME.out], HBW, ⟨HIL.out, rfl⟩⟩
      | true =>
        rw [hv] at s1
        rw [hv, if_pos rfl] at HME
        clear hv
        go_wp2_with fail
        go_roundg (nT - (i + 1))
        case measure => have := HI.out; have := HIL.out; omega
        case rel => exact ⟨i + 1, by first | rfl | (rw [show (i : Int) + 1 = ((i + 1 : Nat) : Int) by omega]), by rw [HME.out], HBW, ⟨HIL.out, rfl⟩⟩
    · have e1 : decide ((i : Int) < (nT : Int)) = false := by rw [decide_eq_false_iff_not]; omega
      have e2 : decide (i < nT) = false := by rw [decide_eq_false_iff_not]; omega
      have HIN : Hid (i = nT) := by have := HI.out; show i = nT; omega
      clear hi
      go_wp2_with fail
      go_ret
      exact ⟨by rw [← HMK.out, ← HIN.out]; rfl, below_trans HBZ.out HBW.out⟩

set_option maxRecDepth 100000 in
set_option maxHeartbeats 8000000 in
theorem rof_any {v0 v1 v2 v : Value} {nT nS : Nat} {P : List Pd} {l : List Rf} {bh : Nat} (w : World) (h : Gm w v0 v1 v2 nT nS P) (hz : Gz nT nS P) (hr : Rw w v l.length (flat rf l)) (hl : l.length * 40 + 4096 ≤ 140737488355328) (hb : bh < 2 ^ 64) :
    Calls Try.prog 18 #[.agg #[v0, v1, v2], v, .int .u64 (bh : Int)] w fun e w' => e = .returned (.int .u64 (ofp nT nS P l bh : Int)) ∧ Below w.heap.size w w' := by
  have HG : Hid (Gm w v0 v1 v2 nT nS P) := h
  have HZ : Hid (Gz nT nS P) := hz
  have HV : Hid (Rw w v l.length (flat rf l)) := hr
  have HL : Hid (l.length * 40 + 4096 ≤ 140737488355328) := hl
  have HBH : Hid _ := hb
  obtain ⟨a0, c0, a1, c1, a2, c2, rfl, rfl, rfl⟩ := h.form
  obtain ⟨a, c, rfl⟩ := hr.form
  clear h hz hr hl hb
  obtain ⟨n, hn⟩ : ∃ n, P.length = n := ⟨_, rfl⟩
  rw [hn] at HG ⊢
  clear hn
  obtain ⟨rn, hrn⟩ : ∃ n, l.length = n := ⟨_, rfl⟩
  have HRN : Hid (l.length = rn) := hrn
  rw [hrn] at HV ⊢
  clear hrn
  obtain ⟨W1, hW1⟩ : ∃ W1, W1 = w.alloc (.cells #[.slice a0 nT c0, .slice a1 nS c1, .slice a2 n c2] 26) := ⟨_, rfl⟩
  have HX : Hid (W1.heap[w.heap.size]? = some (.cells #[.slice a0 nT c0, .slice a1 nS c1, .slice a2 n c2] 26 (0, 0))) := by rw [hW1]; exact heap_new w _
  have HB1 : Hid (Below w.heap.size w W1) := by rw [hW1]; exact bel_up _ _
  go_enter Try.func18, Try.ntmps18
  go_upto_region 1 with fail
  rw [← hW1]
  clear hW1
  obtain ⟨gb, hgb⟩ : ∃ gb, w.heap.size = gb := ⟨_, rfl⟩
  have HGB : Hid (w.heap.size = gb) := hgb
  rw [hgb] at HX ⊢
  clear hgb
  have HG1 : Hid (Gm W1 (.slice a0 nT c0) (.slice a1 nS c1) (.slice a2 n c2) nT nS P) := HG.out.up HB1.out
  have HV1 : Hid (Rw W1 (.slice a rn c) l.length (flat rf l)) := by rw [HRN.out]; exact HV.out.up HB1.out
  have HCC : Hid (∀ W, Below W1.heap.size W1 W → W.cell? ⟨gb, 0, none⟩ = some (.slice a0 nT c0) ∧ W.cell? ⟨gb, 1, none⟩ = some (.slice a1 nS c1) ∧ W.cell? ⟨gb, 2, none⟩ = some (.slice a2 n c2)) := fun W hW => ⟨below_cell hW (rcell HX.out 0 _ rfl), below_cell hW (rcell HX.out 1 _ rfl), below_cell hW (rcell HX.out 2 _ rfl)⟩
  obtain ⟨p0, p1, p2⟩ := HCC.out W1 (Below.refl _ _)
  cases hs : snd nT nS P with
  | false =>
    have HSN : Hid _ := hs
    have HO0 : Hid (ofp nT nS P l bh = 0) := ofp_bad (fun h => by rw [hs] at h; cases h.1)
    clear hs
    go_wp2_with (go_at_call 35; refine (rsound_any W1 HG1.out HZ.out).mono ?_; rintro e w2 ⟨rfl, hb2⟩; have B2 : Hid (Below W1.heap.size W1 w2) := hb2; clear hb2; rw [HSN.out])
    go_ret
    exact ⟨by rw [HO0.out]; rfl, below_trans HB1.out B2.out⟩
  | true =>
  have HSN : Hid (snd nT nS P = true) := hs
  clear hs
  cases hw : wth (nT + nS) l with
  | false =>
    have HWT : Hid _ := hw
    have HO0 : Hid (ofp nT nS P l bh = 0) := ofp_bad (fun h => by rw [hw] at h; cases h.2)
    clear hw
    go_wp2_with (first | (go_at_call 35; refine (rsound_any W1 HG1.out HZ.out).mono ?_; rintro e w2 ⟨rfl, hb2⟩; have B2 : Hid (Below W1.heap.size W1 w2) := hb2; obtain ⟨p0', p1', p2'⟩ := HCC.out w2 hb2; clear hb2; rw [HSN.out]) | (go_at_call 36; refine (rrow_any w2 (HG1.out.up B2.out) HZ.out (HV1.out.up B2.out) (by have := HL.out; omega)).mono ?_; rintro e w3 ⟨rfl, hb3⟩; have B3 : Hid (Below w2.heap.size w2 w3) := hb3; clear hb3; rw [HWT.out]))
    go_ret
    exact ⟨by rw [HO0.out]; rfl, below_trans HB1.out (below_trans B2.out B3.out)⟩
  | true =>
  have HWT : Hid (wth (nT + nS) l = true) := hw
  clear hw
  have HFK : Hid (Fk nT (P.map pq) (fin nT (P.map pq))) := fk_pure HSN.out
  have HNI : Hid (nit nT P nS = fun x => (fin nT (P.map pq) x).2) := nit_fin HFK.out (fun p hp => ((snd_mem HSN.out).2 p hp).2.1)
  go_upto_region 3 with (first | (go_at_call 35; refine (rsound_any W1 HG1.out HZ.out).mono ?_; rintro e w2 ⟨rfl, hb2⟩; have B2 : Hid (Below W1.heap.size W1 w2) := hb2; obtain ⟨p0', p1', p2'⟩ := HCC.out w2 hb2; clear hb2; rw [HSN.out]) | (go_at_call 36; refine (rrow_any w2 (HG1.out.up B2.out) HZ.out (HV1.out.up B2.out) (by have := HL.out; omega)).mono ?_; rintro e w3 ⟨rfl, hb3⟩; have B3 : Hid (Below W1.heap.size W1 w3) := below_trans B2.out hb3; clear hb3; rw [HWT.out]))
  clear p0 p1 p2 p0' p1' p2'
  obtain ⟨p0, p1, p2⟩ := HCC.out w3 B3.out
  go_upto_region 4 with (go_at_call 23; refine (rnull_any w3 (HG1.out.up B3.out) HZ.out).mono ?_; rintro e w4 ⟨-, he, hb4⟩; have B4 : Hid (Below W1.heap.size W1 w4) := below_trans B3.out hb4; obtain ⟨ob, rfl, -, ho⟩ := he HSN.out; have HQ : Hid (Bq w4 (.slice (some ⟨ob, 0, none⟩) (nT + nS) (nT + nS)) (nT + nS) (nit nT P nS)) := bq_block ho; clear hb4 he ho)
  clear p0 p1 p2
  obtain ⟨S, hS⟩ : ∃ S, fin nT (P.map pq) = S := ⟨_, rfl⟩
  rw [HNI.out, hS] at HQ
  rw [hS] at HFK
  have HOF : Hid (ofp nT nS P l bh = ofS S (syl l) bh) := by show _ = _; unfold ofp; rw [if_pos ⟨HSN.out, HWT.out⟩, hS]
  clear hS HNI
  obtain ⟨p0, p1, p2⟩ := HCC.out w4 B4.out
  go_upto_region 5 with (go_at_call 37; refine (begins_any w4 (HG1.out.up B4.out) HZ.out HSN.out HFK.out HQ.out (HV1.out.up B4.out) HL.out HWT.out).mono ?_; rintro e w5 ⟨rfl, hb5⟩; have B5 : Hid (Below w4.heap.size w4 w5) := hb5; clear hb5)
  clear p0 p1 p2
  obtain ⟨m, hm⟩ : ∃ m, (alg S (syl l)).1 = m := ⟨_, rfl⟩
  have HM : Hid (m < 2 ^ 64) := by rw [← hm]; exact alg_lt S HFK.out.lt _
  have HMM : Hid ((alg S (syl l)).1 = m) := hm
  rw [hm]
  clear hm
  have hor := u64_or m bh HM.out HBH.out
  have HGO : Hid ((alg S (syl l)).2 = (syl l).all fun x => (S x).2) := alg_snd S (syl l)
  cases hv : (alg S (syl l)).2 with
  | true =>
    have HVV : Hid (ofp nT nS P l bh = m ||| bh) := by show _ = _; rw [HOF.out]; unfold ofS; rw [HMM.out, hv, if_pos rfl]
    rw [hv] at HGO
    clear hv
    go_wp2_with (go_at_call 38; refine (goes_any w5 (HQ.out.up B5.out) (HV1.out.up (below_trans B4.out B5.out)) (by have := HL.out; omega) HWT.out).mono ?_; rintro e w6 ⟨rfl, hb6⟩; have B6 : Hid (Below w5.heap.size w5 w6) := hb6; clear hb6; rw [← HGO.out])
    go_ret
    exact ⟨by rw [HVV.out]; rfl, below_trans HB1.out (below_trans B4.out (below_trans B5.out B6.out))⟩
  | false =>
    have HVV : Hid (ofp nT nS P l bh = m) := by show _ = _; rw [HOF.out]; unfold ofS; rw [HMM.out, hv, if_neg (by decide), Nat.or_zero]
    rw [hv] at HGO
    clear hv
    go_wp2_with (go_at_call 38; refine (goes_any w5 (HQ.out.up B5.out) (HV1.out.up (below_trans B4.out B5.out)) (by have := HL.out; omega) HWT.out).mono ?_; rintro e w6 ⟨rfl, hb6⟩; have B6 : Hid (Below w5.heap.size w5 w6) := hb6; clear hb6; rw [← HGO.out])
    go_ret
    exact ⟨by rw [HVV.out]; rfl, below_trans HB1.out (below_trans B4.out (below_trans B5.out B6.out))⟩
end Go.Proofs.Ytodncbkdlnepjaa
