import Derived.Test.YtodncbkdlnepjaaFlc
namespace Go.Proofs.Ytodncbkdlnepjaa
open Go.RowKit Go.Maps

theorem rw_block {W : World} {b K : Nat} {cs : List Value} {t : TypeId} (h : W.heap[b]? = some (.cells cs.toArray t (0, 0))) : Rw W (.slice (some ⟨b, 0, none⟩) K K) K cs :=
  ⟨some ⟨b, 0, none⟩, b, 0, K, rfl, Nat.le_refl _, fun h => (by cases h), fun _ => rfl, fun j u hu => by
    rw [Nat.zero_add, Lib.cell_of_heap h]
    simpa using hu⟩
theorem pow_cell (i : Nat) (h : i < 64) : IntKind.u64.wrap (2 ^ min i 64) = ((2 ^ i : Nat) : Int) := by
  rw [Nat.min_eq_left (by omega), u64_wrap _ (by have : (0 : Int) < 2 ^ i := Int.pow_pos (by decide); omega) (by
    have h2 : (2 : Nat) ^ i < 2 ^ 64 := Nat.pow_lt_pow_right (by decide) h
    have h3 : ((2 ^ i : Nat) : Int) < ((2 ^ 64 : Nat) : Int) := by exact_mod_cast h2
    simpa using h3)]
  simp

set_option maxRecDepth 100000 in
set_option maxHeartbeats 16000000 in
theorem firstLeast_any {v0 v1 v2 vn vf : Value} {nT nS kn kf : Nat} {P : List Pd} {T : Ss} (w : World) (h : Gm w v0 v1 v2 nT nS P) (hz : Gz nT nS P) (hn : Bl w vn kn T) (hf : Tl w vf kf T) (hT : ∀ x, (T x).1 < 2 ^ 64) :
    Calls Try.prog 4 #[.agg #[v0, v1, v2], vn, vf] w fun e w' => e = .returned (.bool true) ∧ Below w.heap.size w w' := by
  have HG : Hid (Gm w v0 v1 v2 nT nS P) := h
  have HZ : Hid (Gz nT nS P) := hz
  have HN : Hid (Bl w vn kn T) := hn
  have HF : Hid (Tl w vf kf T) := hf
  have HT : Hid (∀ x, (T x).1 < 2 ^ 64) := hT
  obtain ⟨a0, c0, a1, c1, a2, c2, rfl, rfl, rfl⟩ := h.form
  obtain ⟨an, cn, rfl⟩ := hn.form
  obtain ⟨af, cf, rfl⟩ := hf.form
  clear h hz hn hf hT
  obtain ⟨n, hnn⟩ : ∃ n, P.length = n := ⟨_, rfl⟩
  rw [hnn] at HG ⊢
  clear hnn
  obtain ⟨K, hK⟩ : ∃ K, nT + nS = K := ⟨_, rfl⟩
  have HK : Hid (nT + nS = K) := hK
  clear hK
  obtain ⟨W1, hW1⟩ : ∃ W1, W1 = w.alloc (.cells #[.slice a0 nT c0, .slice a1 nS c1, .slice a2 n c2] 26) := ⟨_, rfl⟩
  have HX : Hid (W1.heap[w.heap.size]? = some (.cells #[.slice a0 nT c0, .slice a1 nS c1, .slice a2 n c2] 26 (0, 0))) := by rw [hW1]; exact heap_new w _
  have HB1 : Hid (Below w.heap.size w W1) := by rw [hW1]; exact bel_up _ _
  go_enter Try.func4, Try.ntmps4
  go_upto_region 1 with fail
  rw [← hW1]
  clear hW1
  obtain ⟨gb, hgb⟩ : ∃ gb, w.heap.size = gb := ⟨_, rfl⟩
  have HGB : Hid (w.heap.size = gb) := hgb
  rw [hgb] at HX ⊢
  clear hgb
  go_upto_region 3 with (go_at_call 8; refine (started_any W1).mono ?_; rintro e W2 ⟨rfl, hb2⟩; have B2 : Hid (Below W1.heap.size W1 W2) := hb2; clear hb2)
  have BW2 : Hid (Below w.heap.size w W2) := below_trans HB1.out B2.out
  have HX2 : Hid (W2.heap[gb]? = some (.cells #[.slice a0 nT c0, .slice a1 nS c1, .slice a2 n c2] 26 (0, 0))) := (B2.out.block _ (lt_of_heap HX.out)).trans HX.out
  clear B2 HX HB1
  have HGN : Hid (Gm W2 (.slice a0 nT c0) (.slice a1 nS c1) (.slice a2 n c2) nT nS P) := HG.out.up BW2.out
  have HCC : Hid (∀ W, Below W2.heap.size W2 W → W.cell? ⟨gb, 0, none⟩ = some (.slice a0 nT c0) ∧ W.cell? ⟨gb, 1, none⟩ = some (.slice a1 nS c1) ∧ W.cell? ⟨gb, 2, none⟩ = some (.slice a2 n c2)) := fun W hW => ⟨below_cell hW (rcell HX2.out 0 _ rfl), below_cell hW (rcell HX2.out 1 _ rfl), below_cell hW (rcell HX2.out 2 _ rfl)⟩
  obtain ⟨p0, p1, p2⟩ := HCC.out W2 (Below.refl _ _)
  by_cases hs : snd nT nS P = true
  rotate_left
  · have HSN : Hid (snd nT nS P = false) := by rw [Bool.not_eq_true] at hs; exact hs
    clear hs
    go_wp2_with (first | (go_at_call 12; refine (nullable_any W2 HGN.out HZ.out).mono ?_; rintro e Y1 ⟨he, -, hy1⟩; have BY1 : Hid (Below W2.heap.size W2 Y1) := hy1; obtain rfl := he HSN.out; obtain ⟨q0, q1, q2⟩ := HCC.out Y1 hy1; clear hy1 he) | (go_at_call 13; refine (first_any Y1 (HGN.out.up BY1.out) HZ.out).mono ?_; rintro e Y2 ⟨he, -, hy2⟩; have BY2 : Hid (Below W2.heap.size W2 Y2) := below_trans BY1.out hy2; obtain rfl := he HSN.out; obtain ⟨r0, r1, r2⟩ := HCC.out Y2 BY2.out; clear hy2 he) | (go_at_call 10; refine (lsound_any Y2 (HGN.out.up BY2.out) HZ.out).mono ?_; rintro e Y3 ⟨rfl, hy3⟩; have BY3 : Hid (Below W2.heap.size W2 Y3) := below_trans BY2.out hy3; clear hy3; rw [HSN.out]))
    go_ret
    exact ⟨rfl, below_trans BW2.out BY3.out⟩
  have HSN : Hid (snd nT nS P = true) := hs
  clear hs
  have HNT : Hid (1 ≤ nT ∧ nT ≤ 64 ∧ nS ≤ 128) := (snd_mem HSN.out).1
  have hadd : IntKind.i64.wrap ((nT : Int) + (nS : Int)) = (K : Int) := by have := HNT.out; have := HK.out; rw [IntKind.wrap_i64]; omega
  go_upto_region 4 with (go_at_call 12; refine (nullable_any W2 HGN.out HZ.out).mono ?_; rintro e Y1 ⟨-, he, hy1⟩; have BY1 : Hid (Below W2.heap.size W2 Y1) := hy1; obtain ⟨hfk, ob, rfl, hob⟩ := he HSN.out; have HFK : Hid (Fk nT (P.map pq) (fin nT (P.map pq))) := hfk; have HOB : Hid _ := hob; clear hy1 he hfk hob)
  clear p0 p1 p2
  obtain ⟨S, hS⟩ : ∃ S, fin nT (P.map pq) = S := ⟨_, rfl⟩
  rw [hS] at HFK HOB
  have HSS : Hid (fin nT (P.map pq) = S) := hS
  clear hS
  rw [HK.out] at HOB ⊢
  have HBA : Hid (Bl Y1 (.slice (some ⟨ob, 0, none⟩) K K) K S) := rw_block HOB.out
  clear HOB
  obtain ⟨p0, p1, p2⟩ := HCC.out Y1 BY1.out
  go_upto_region 5 with (go_at_call 13; refine (first_any Y1 (HGN.out.up BY1.out) HZ.out).mono ?_; rintro e Y2 ⟨-, he, hy2⟩; have BY12 : Hid (Below Y1.heap.size Y1 Y2) := hy2; obtain ⟨-, pb, rfl, hob⟩ := he HSN.out; have HOB : Hid _ := hob; clear hy2 he hob)
  clear p0 p1 p2
  rw [HSS.out] at HOB
  rw [HK.out] at HOB ⊢
  have HTA : Hid (Tl Y2 (.slice (some ⟨pb, 0, none⟩) K K) K S) := rw_block HOB.out
  have HBB : Hid (Bl Y2 (.slice (some ⟨ob, 0, none⟩) K K) K S) := HBA.out.up BY12.out
  have BY2 : Hid (Below W2.heap.size W2 Y2) := below_trans BY1.out BY12.out
  clear HOB HBA BY12 BY1
  have HKP : Hid (0 < K ∧ K ≤ 192) := by have := HNT.out; have := HK.out; show _ ∧ _; omega
  obtain ⟨p0, p1, p2⟩ := HCC.out Y2 BY2.out
  have kk1 : ((K : Int) == (K : Int)) = true := by rw [beq_iff_eq]
  go_upto_region 8 with (go_at_call 10; refine (lsound_any Y2 (HGN.out.up BY2.out) HZ.out).mono ?_; rintro e Y3 ⟨rfl, hy3⟩; have BY23 : Hid (Below Y2.heap.size Y2 Y3) := hy3; obtain ⟨p0', p1', p2'⟩ := HCC.out Y3 (below_trans BY2.out hy3); clear hy3; rw [HSN.out])
  clear p0 p1 p2 p0' p1' p2'
  have BY3 : Hid (Below W2.heap.size W2 Y3) := below_trans BY2.out BY23.out
  have HT3 : Hid (Tl Y3 (.slice (some ⟨pb, 0, none⟩) K K) K S) := HTA.out.up BY23.out
  have HB3 : Hid (Bl Y3 (.slice (some ⟨ob, 0, none⟩) K K) K S) := HBB.out.up BY23.out
  clear HTA HBB BY2 BY23
  obtain ⟨p0, p1, p2⟩ := HCC.out Y3 BY3.out
  go_upto_region 10 with (go_at_call 14; refine (closed_any Y3 (HGN.out.up BY3.out) HZ.out HSN.out (by rw [HK.out]; exact HB3.out) (by rw [HK.out]; exact HT3.out) HFK.out.lt).mono ?_; rintro e Y4 ⟨bb, rfl, hbb, hy4⟩; have BY34 : Hid (Below Y3.heap.size Y3 Y4) := hy4; obtain rfl : bb = true := hbb.2 (fk_cl HFK.out); clear hy4 hbb)
  clear p0 p1 p2
  have BY4 : Hid (Below W2.heap.size W2 Y4) := below_trans BY3.out BY34.out
  have HT4 : Hid (Tl Y4 (.slice (some ⟨pb, 0, none⟩) K K) K S) := HT3.out.up BY34.out
  have HB4 : Hid (Bl Y4 (.slice (some ⟨ob, 0, none⟩) K K) K S) := HB3.out.up BY34.out
  clear HT3 HB3 BY3 BY34
  have HCT : Hid (∀ W, Below Y4.heap.size Y4 W → ∀ j, j < K → W.cell? ⟨pb, j, none⟩ = some (.int .u64 ((S j).1 : Int)) ∧ W.cell? ⟨ob, j, none⟩ = some (.bool (S j).2)) := fun W hW j hj => by
    obtain ⟨g1, o1, e1, h1⟩ := HT4.out.get HKP.out.1
    obtain ⟨g2, o2, e2, h2⟩ := HB4.out.get HKP.out.1
    cases e1
    cases e2
    have h3 := below_cell hW (h1 j hj)
    have h4 := below_cell hW (h2 j hj)
    rw [Nat.zero_add] at h3 h4
    exact ⟨h3, h4⟩
  go_upto_region 11 with fail
  go_loopg [10] nT (fun gm v10 wr => ∃ i : Nat, v10 = .int .i64 (i : Int) ∧ Hid (Below Y4.heap.size Y4 wr) ∧ Hid (i ≤ nT ∧ gm = nT - i))
  case atStart => exact ⟨0, rfl, Below.refl _ _, ⟨Nat.zero_le _, rfl⟩⟩
  case round =>
    obtain ⟨i, rfl, HBW, HI⟩ := hrel
    obtain ⟨p0, p1, p2⟩ := HCC.out wr (below_trans BY4.out HBW.out)
    by_cases hi : i < nT
    · have HIL : Hid (i < nT) := hi
      have HIK : Hid (i < K ∧ i < 64) := by have := HK.out; have := HNT.out; show _ ∧ _; omega
      obtain ⟨k1, k2⟩ := HCT.out wr HBW.out i HIK.out.1
      rw [HFK.out.tok i hi] at k1 k2
      dsimp only at k1 k2
      have hwr := w64n i (by have := HIK.out; omega)
      have hcv : IntKind.u64.wrap (i : Int) = (i : Int) := u64_wrap _ (by omega) (by have := HIK.out; omega)
      have HSH : Hid (IntKind.u64.wrap (2 ^ min i 64) = ((2 ^ i : Nat) : Int)) := pow_cell i HIK.out.2
      have e1 : decide ((i : Int) < (nT : Int)) = true := by rw [decide_eq_true_eq]; omega
      have e2 : decide (i < nT) = true := by rw [decide_eq_true_eq]; omega
      have e5 : (i : Int) < (nT : Int) := by omega
      have e6 : i < nT := hi
      have e7 : (i : Int) < (K : Int) := by have := HIK.out; omega
      have e8 : i < K := HIK.out.1
      have e9 : i < 64 := HIK.out.2
      obtain ⟨pw, hpw⟩ : ∃ pw : Nat, 2 ^ i = pw := ⟨_, rfl⟩
      have hsh2 : IntKind.u64.wrap (2 ^ i) = ((2 ^ i : Nat) : Int) := by have h9 := HSH.out; rw [Nat.min_eq_left (by have := HIK.out; omega)] at h9; exact h9
      rw [hpw] at HSH k1 hsh2
      have hsh := HSH.out
      have hpp : ((pw : Int) == (pw : Int)) = true := by rw [beq_iff_eq]
      clear hi hpw
      go_wp2_with fail
      go_roundg (nT - (i + 1))
      case measure => have := HI.out; have := HIL.out; omega
      case rel => exact ⟨i + 1, by first | rfl | (rw [show (i : Int) + 1 = ((i + 1 : Nat) : Int) by omega]), HBW, ⟨HIL.out, rfl⟩⟩
    · have e1 : decide ((i : Int) < (nT : Int)) = false := by rw [decide_eq_false_iff_not]; omega
      have e2 : decide (i < nT) = false := by rw [decide_eq_false_iff_not]; omega
      clear hi
      have BW : Hid (Below w.heap.size w wr) := below_trans BW2.out (below_trans BY4.out HBW.out)
      by_cases hkn : kn = K
      rotate_left
      · have d1 : ((kn : Int) == (K : Int)) = false := by rw [beq_eq_false_iff_ne]; omega
        have d1' : ¬ ((kn : Int) = (K : Int)) := by omega
        go_wp2_with fail
        go_ret
        exact ⟨rfl, BW.out⟩
      by_cases hkf : kf = K
      rotate_left
      · have d1 : ((kf : Int) == (K : Int)) = false := by rw [beq_eq_false_iff_ne]; omega
        have d1' : ¬ ((kf : Int) = (K : Int)) := by omega
        subst hkn
        go_wp2_with fail
        go_ret
        exact ⟨rfl, BW.out⟩
      rw [hkn] at HN ⊢
      rw [hkf] at HF ⊢
      clear hkn hkf
      have HNW : Hid (Bl wr (.slice an K cn) (nT + nS) T) := by rw [HK.out]; exact HN.out.up BW.out
      have HFW : Hid (Tl wr (.slice af K cf) (nT + nS) T) := by rw [HK.out]; exact HF.out.up BW.out
      have HGW : Hid (Gm wr (.slice a0 nT c0) (.slice a1 nS c1) (.slice a2 n c2) nT nS P) := HGN.out.up (below_trans BY4.out HBW.out)
      go_upto_region 15 with fail
      obtain ⟨Z, hZ⟩ : ∃ Z, Z = wr := ⟨_, rfl⟩
      rw [← hZ] at HBW HNW HFW HGW BW p0 p1 p2 ⊢
      have HBZ : Hid (Below Y4.heap.size Y4 Z) := HBW.out
      clear hZ HBW e1 e2 HI
      by_cases hcl : Cl nT P T
      rotate_left
      · have HCL : Hid (¬ Cl nT P T) := hcl
        clear hcl
        go_wp2_with (go_at_call 14; refine (closed_any Z HGW.out HZ.out HSN.out HNW.out HFW.out HT.out).mono ?_; rintro e Z1 ⟨bb, rfl, hbb, hz1⟩; have BZ1 : Hid (Below Z.heap.size Z Z1) := hz1; obtain rfl : bb = false := (by cases bb with | false => rfl | true => exact absurd (hbb.1 rfl) HCL.out); clear hz1 hbb)
        go_ret
        exact ⟨rfl, below_trans BW.out BZ1.out⟩
      have HCL : Hid (Cl nT P T) := hcl
      clear hcl
      have HLE : Hid (Leq S T) := fk_least HFK.out HCL.out
      go_upto_region 18 with (go_at_call 14; refine (closed_any Z HGW.out HZ.out HSN.out HNW.out HFW.out HT.out).mono ?_; rintro e Z1 ⟨bb, rfl, hbb, hz1⟩; have BZ1 : Hid (Below Z.heap.size Z Z1) := hz1; obtain rfl : bb = true := hbb.2 HCL.out; clear hz1 hbb)
      clear p0 p1 p2
      obtain ⟨gn, on, rfl, hcn⟩ := (HN.out.up BW.out).get HKP.out.1
      obtain ⟨gf, off, rfl, hcf⟩ := (HF.out.up BW.out).get HKP.out.1
      have HCN : Hid (∀ W, Below Z.heap.size Z W → ∀ j, j < K → W.cell? ⟨gn, on + j, none⟩ = some (.bool (T j).2) ∧ W.cell? ⟨gf, off + j, none⟩ = some (.int .u64 ((T j).1 : Int)) ∧ W.cell? ⟨pb, j, none⟩ = some (.int .u64 ((S j).1 : Int)) ∧ W.cell? ⟨ob, j, none⟩ = some (.bool (S j).2)) := fun W hW j hj => ⟨below_cell hW (hcn j hj), below_cell hW (hcf j hj), HCT.out W (below_trans HBZ.out hW) j hj⟩
      clear hcn hcf
      go_loopg [11] K (fun gm v11 wr => ∃ j : Nat, v11 = .int .i64 (j : Int) ∧ Hid (Below Z.heap.size Z wr) ∧ Hid (j ≤ K ∧ gm = K - j))
      case atStart => exact ⟨0, rfl, BZ1, ⟨Nat.zero_le _, rfl⟩⟩
      case round =>
        clear BZ1
        obtain ⟨j, rfl, HBW, HJ⟩ := hrel
        by_cases hj : j < K
        · have HJL : Hid (j < K) := hj
          have hwr := w64n j (by have := HKP.out; have := HJL.out; omega)
          have e1 : decide ((j : Int) < (K : Int)) = true := by rw [decide_eq_true_eq]; omega
          have e2 : decide (j < K) = true := by rw [decide_eq_true_eq]; omega
          have e5 : (j : Int) < (K : Int) := by omega
          have e6 : j < K := hj
          clear hj
          go_upto_region 20 with fail
          obtain ⟨WD, hWD⟩ : ∃ WD, wr.drew = WD := ⟨_, rfl⟩
          have BD : Hid (Below wr.heap.size wr WD) := by rw [← hWD]; exact Below.drew (Below.refl _ _)
          have HBD : Hid (Below Z.heap.size Z WD) := below_trans HBW.out BD.out
          have HSE : Hid (WD.cell? ⟨gn, on + j, none⟩ = some (.bool (T j).2) ∧ WD.cell? ⟨gf, off + j, none⟩ = some (.int .u64 ((T j).1 : Int)) ∧ WD.cell? ⟨pb, j, none⟩ = some (.int .u64 ((S j).1 : Int)) ∧ WD.cell? ⟨ob, j, none⟩ = some (.bool (S j).2)) := HCN.out WD HBD.out j HJL.out
          have hno := u64_none (HFK.out.lt j) (HT.out j) (HLE.out j).1
          obtain ⟨s1, hs1⟩ : ∃ s1, (S j).1 = s1 := ⟨_, rfl⟩
          obtain ⟨t1, ht1⟩ : ∃ t1, (T j).1 = t1 := ⟨_, rfl⟩
          rw [hs1, ht1] at HSE hno
          clear hs1 ht1
          cases hv : (S j).2 with
          | false =>
            rw [hv] at HSE
            clear hv
            obtain ⟨t2, ht2⟩ : ∃ t2, (T j).2 = t2 := ⟨_, rfl⟩
            rw [ht2] at HSE
            clear ht2
            refine wp_region_noPanic ?_
            refine wp_region_held_drew (S := fun W => W.cell? ⟨gn, on + j, none⟩ = some (.bool t2) ∧ W.cell? ⟨gf, off + j, none⟩ = some (.int .u64 (t1 : Int)) ∧ W.cell? ⟨pb, j, none⟩ = some (.int .u64 (s1 : Int)) ∧ W.cell? ⟨ob, j, none⟩ = some (.bool false)) (by kernel_rfl) (by rw [hWD]; exact HSE.out) (fun hHeld => ?_)
            rw [hWD] at hHeld ⊢
            clear hWD
            refine wpAnyH_take (i := 0) (oi := { dst := _, op := _, type := _, pos := _, after := _, guard := _ }) (v := ?_) rfl (by kernel_rfl) (by kernel_rfl) (by kernel_rfl) (fun _ _ _ h => h) (Or.inl ⟨by rfl, ?_⟩) (by assumption) ?_
            rotate_left
            · intro W hSw
              (try dsimp only at hSw)
              go_simp
              (try with_reducible rfl)
            try simp only [Act.put, List.setIfInBounds_toArray, List.set_cons_zero, List.set_cons_succ]
            refine wpAnyH_take (i := 1) (oi := { dst := _, op := _, type := _, pos := _, after := _, guard := _ }) (v := ?_) rfl (by kernel_rfl) (by kernel_rfl) (by kernel_rfl) (fun _ _ _ h => h) (Or.inl ⟨by rfl, ?_⟩) (by assumption) ?_
            rotate_left
            · intro W hSw
              (try dsimp only at hSw)
              go_simp
              (try with_reducible rfl)
            try simp only [Act.put, List.setIfInBounds_toArray, List.set_cons_zero, List.set_cons_succ]
            refine wpAnyH_take (i := 2) (oi := { dst := _, op := _, type := _, pos := _, after := _, guard := _ }) (v := ?_) rfl (by kernel_rfl) (by kernel_rfl) (by kernel_rfl) (fun _ _ _ h => h) (Or.inl ⟨by rfl, ?_⟩) (by assumption) ?_
            rotate_left
            · intro W hSw
              (try dsimp only at hSw)
              go_simp
              (try with_reducible rfl)
            try simp only [Act.put, List.setIfInBounds_toArray, List.set_cons_zero, List.set_cons_succ]
            refine wpAnyH_take (i := 3) (oi := { dst := _, op := _, type := _, pos := _, after := _, guard := _ }) (v := ?_) rfl (by kernel_rfl) (by kernel_rfl) (by kernel_rfl) (fun _ _ _ h => h) (Or.inl ⟨by rfl, ?_⟩) (by assumption) ?_
            rotate_left
            · intro W hSw
              (try dsimp only at hSw)
              go_simp
              (try with_reducible rfl)
            try simp only [Act.put, List.setIfInBounds_toArray, List.set_cons_zero, List.set_cons_succ]
            refine wpAnyH_take (i := 4) (oi := { dst := _, op := _, type := _, pos := _, after := _, guard := _ }) (v := ?_) rfl (by kernel_rfl) (by kernel_rfl) (by kernel_rfl) (fun _ _ _ h => h) (Or.inl ⟨by rfl, ?_⟩) (by assumption) ?_
            rotate_left
            · intro W hSw
              (try dsimp only at hSw)
              go_simp
              (try with_reducible rfl)
            try simp only [Act.put, List.setIfInBounds_toArray, List.set_cons_zero, List.set_cons_succ]
            refine wpAnyH_take (i := 5) (oi := { dst := _, op := _, type := _, pos := _, after := _, guard := _ }) rfl (by kernel_rfl) (by kernel_rfl) (by kernel_rfl) (fun _ _ _ h => h) (Or.inr ⟨by rfl, rfl⟩) (by assumption) ?_
            try simp only [Act.put, List.setIfInBounds_toArray, List.set_cons_zero, List.set_cons_succ]
            refine wpAnyH_take (i := 6) (oi := { dst := _, op := _, type := _, pos := _, after := _, guard := _ }) rfl (by kernel_rfl) (by kernel_rfl) (by kernel_rfl) (fun _ _ _ h => h) (Or.inr ⟨by rfl, rfl⟩) (by assumption) ?_
            try simp only [Act.put, List.setIfInBounds_toArray, List.set_cons_zero, List.set_cons_succ]
            refine wpAnyH_take (i := 7) (oi := { dst := _, op := _, type := _, pos := _, after := _, guard := _ }) rfl (by kernel_rfl) (by kernel_rfl) (by kernel_rfl) (fun _ _ _ h => h) (Or.inr ⟨by rfl, rfl⟩) (by assumption) ?_
            try simp only [Act.put, List.setIfInBounds_toArray, List.set_cons_zero, List.set_cons_succ]
            refine wpAnyH_take (i := 8) (oi := { dst := _, op := _, type := _, pos := _, after := _, guard := _ }) rfl (by kernel_rfl) (by kernel_rfl) (by kernel_rfl) (fun _ _ _ h => h) (Or.inr ⟨by rfl, rfl⟩) (by assumption) ?_
            try simp only [Act.put, List.setIfInBounds_toArray, List.set_cons_zero, List.set_cons_succ]
            refine wpAnyH_take (i := 9) (oi := { dst := _, op := _, type := _, pos := _, after := _, guard := _ }) rfl (by kernel_rfl) (by kernel_rfl) (by kernel_rfl) (fun _ _ _ h => h) (Or.inr ⟨by rfl, rfl⟩) (by assumption) ?_
            try simp only [Act.put, List.setIfInBounds_toArray, List.set_cons_zero, List.set_cons_succ]
            refine wpAnyH_take (i := 10) (oi := { dst := _, op := _, type := _, pos := _, after := _, guard := _ }) (v := ?_) rfl (by kernel_rfl) (by kernel_rfl) (by kernel_rfl) (fun _ _ _ h => h) (Or.inl ⟨by rfl, ?_⟩) (by assumption) ?_
            rotate_left
            · intro W hSw
              (try dsimp only at hSw)
              go_simp
              (try with_reducible rfl)
            try simp only [Act.put, List.setIfInBounds_toArray, List.set_cons_zero, List.set_cons_succ]
            refine wpAnyH_take (i := 11) (oi := { dst := _, op := _, type := _, pos := _, after := _, guard := _ }) (v := ?_) rfl (by kernel_rfl) (by kernel_rfl) (by kernel_rfl) (fun _ _ _ h => h) (Or.inl ⟨by rfl, ?_⟩) (by assumption) ?_
            rotate_left
            · intro W hSw
              (try dsimp only at hSw)
              go_simp
              (try with_reducible rfl)
            try simp only [Act.put, List.setIfInBounds_toArray, List.set_cons_zero, List.set_cons_succ]
            refine wpAnyH_take (i := 12) (oi := { dst := _, op := _, type := _, pos := _, after := _, guard := _ }) (v := ?_) rfl (by kernel_rfl) (by kernel_rfl) (by kernel_rfl) (fun _ _ _ h => h) (Or.inl ⟨by rfl, ?_⟩) (by assumption) ?_
            rotate_left
            · intro W hSw
              (try dsimp only at hSw)
              go_simp
              (try with_reducible rfl)
            try simp only [Act.put, List.setIfInBounds_toArray, List.set_cons_zero, List.set_cons_succ]
            refine wpAnyH_take (i := 13) (oi := { dst := _, op := _, type := _, pos := _, after := _, guard := _ }) (v := ?_) rfl (by kernel_rfl) (by kernel_rfl) (by kernel_rfl) (fun _ _ _ h => h) (Or.inl ⟨by rfl, ?_⟩) (by assumption) ?_
            rotate_left
            · intro W hSw
              (try dsimp only at hSw)
              go_simp
              (try with_reducible rfl)
            try simp only [Act.put, List.setIfInBounds_toArray, List.set_cons_zero, List.set_cons_succ]
            refine wpAnyH_take (i := 14) (oi := { dst := _, op := _, type := _, pos := _, after := _, guard := _ }) (v := ?_) rfl (by kernel_rfl) (by kernel_rfl) (by kernel_rfl) (fun _ _ _ h => h) (Or.inl ⟨by rfl, ?_⟩) (by assumption) ?_
            rotate_left
            · intro W hSw
              (try dsimp only at hSw)
              go_simp
              (try with_reducible rfl)
            try simp only [Act.put, List.setIfInBounds_toArray, List.set_cons_zero, List.set_cons_succ]
            refine wpAnyH_take (i := 15) (oi := { dst := _, op := _, type := _, pos := _, after := _, guard := _ }) (v := ?_) rfl (by kernel_rfl) (by kernel_rfl) (by kernel_rfl) (fun _ _ _ h => h) (Or.inl ⟨by rfl, ?_⟩) (by assumption) ?_
            rotate_left
            · intro W hSw
              (try dsimp only at hSw)
              go_simp
              (try with_reducible rfl)
            try simp only [Act.put, List.setIfInBounds_toArray, List.set_cons_zero, List.set_cons_succ]
            refine wpAnyH_take (i := 16) (oi := { dst := _, op := _, type := _, pos := _, after := _, guard := _ }) (v := ?_) rfl (by kernel_rfl) (by kernel_rfl) (by kernel_rfl) (fun _ _ _ h => h) (Or.inl ⟨by rfl, ?_⟩) (by assumption) ?_
            rotate_left
            · intro W hSw
              (try dsimp only at hSw)
              go_simp
              (try with_reducible rfl)
            try simp only [Act.put, List.setIfInBounds_toArray, List.set_cons_zero, List.set_cons_succ]
            refine wpAnyH_take (i := 17) (oi := { dst := _, op := _, type := _, pos := _, after := _, guard := _ }) (v := ?_) rfl (by kernel_rfl) (by kernel_rfl) (by kernel_rfl) (fun _ _ _ h => h) (Or.inl ⟨by rfl, ?_⟩) (by assumption) ?_
            rotate_left
            · intro W hSw
              (try dsimp only at hSw)
              go_simp
              (try with_reducible rfl)
            try simp only [Act.put, List.setIfInBounds_toArray, List.set_cons_zero, List.set_cons_succ]
            refine wpAnyH_take (i := 18) (oi := { dst := _, op := _, type := _, pos := _, after := _, guard := _ }) (v := ?_) rfl (by kernel_rfl) (by kernel_rfl) (by kernel_rfl) (fun _ _ _ h => h) (Or.inl ⟨by rfl, ?_⟩) (by assumption) ?_
            rotate_left
            · intro W hSw
              (try dsimp only at hSw)
              go_simp
              (try with_reducible rfl)
            try simp only [Act.put, List.setIfInBounds_toArray, List.set_cons_zero, List.set_cons_succ]
            refine wpAnyH_take (i := 19) (oi := { dst := _, op := _, type := _, pos := _, after := _, guard := _ }) (v := ?_) rfl (by kernel_rfl) (by kernel_rfl) (by kernel_rfl) (fun _ _ _ h => h) (Or.inl ⟨by rfl, ?_⟩) (by assumption) ?_
            rotate_left
            · intro W hSw
              (try dsimp only at hSw)
              go_simp
              (try with_reducible rfl)
            try simp only [Act.put, List.setIfInBounds_toArray, List.set_cons_zero, List.set_cons_succ]
            refine wpAnyH_take (i := 20) (oi := { dst := _, op := _, type := _, pos := _, after := _, guard := _ }) (v := ?_) rfl (by kernel_rfl) (by kernel_rfl) (by kernel_rfl) (fun _ _ _ h => h) (Or.inl ⟨by rfl, ?_⟩) (by assumption) ?_
            rotate_left
            · intro W hSw
              (try dsimp only at hSw)
              go_simp
              (try with_reducible rfl)
            try simp only [Act.put, List.setIfInBounds_toArray, List.set_cons_zero, List.set_cons_succ]
            refine wpAnyH_take (i := 21) (oi := { dst := _, op := _, type := _, pos := _, after := _, guard := _ }) (v := ?_) rfl (by kernel_rfl) (by kernel_rfl) (by kernel_rfl) (fun _ _ _ h => h) (Or.inl ⟨by rfl, ?_⟩) (by assumption) ?_
            rotate_left
            · intro W hSw
              (try dsimp only at hSw)
              go_simp
              (try with_reducible rfl)
            try simp only [Act.put, List.setIfInBounds_toArray, List.set_cons_zero, List.set_cons_succ]
            refine wpAnyH_take (i := 22) (oi := { dst := _, op := _, type := _, pos := _, after := _, guard := _ }) (v := ?_) rfl (by kernel_rfl) (by kernel_rfl) (by kernel_rfl) (fun _ _ _ h => h) (Or.inl ⟨by rfl, ?_⟩) (by assumption) ?_
            rotate_left
            · intro W hSw
              (try dsimp only at hSw)
              go_simp
              (try with_reducible rfl)
            try simp only [Act.put, List.setIfInBounds_toArray, List.set_cons_zero, List.set_cons_succ]
            refine wpAnyH_done (by kernel_rfl) ?_ _
            refine NoPanic.normal ?_
            clear hHeld
            go_wp2_with fail
            go_roundg (K - (j + 1))
            case measure => have := HJ.out; have := HJL.out; omega
            case rel => exact ⟨j + 1, by first | rfl | (rw [show (j : Int) + 1 = ((j + 1 : Nat) : Int) by omega]), HBD, ⟨HJL.out, rfl⟩⟩
          | true =>
            have hv2 := (HLE.out j).2 hv
            rw [hv, hv2] at HSE
            clear hv hv2
            refine wp_region_noPanic ?_
            refine wp_region_held_drew (S := fun W => W.cell? ⟨gn, on + j, none⟩ = some (.bool true) ∧ W.cell? ⟨gf, off + j, none⟩ = some (.int .u64 (t1 : Int)) ∧ W.cell? ⟨pb, j, none⟩ = some (.int .u64 (s1 : Int)) ∧ W.cell? ⟨ob, j, none⟩ = some (.bool true)) (by kernel_rfl) (by rw [hWD]; exact HSE.out) (fun hHeld => ?_)
            rw [hWD] at hHeld ⊢
            clear hWD
            refine wpAnyH_take (i := 0) (oi := { dst := _, op := _, type := _, pos := _, after := _, guard := _ }) (v := ?_) rfl (by kernel_rfl) (by kernel_rfl) (by kernel_rfl) (fun _ _ _ h => h) (Or.inl ⟨by rfl, ?_⟩) (by assumption) ?_
            rotate_left
            · intro W hSw
              (try dsimp only at hSw)
              go_simp
              (try with_reducible rfl)
            try simp only [Act.put, List.setIfInBounds_toArray, List.set_cons_zero, List.set_cons_succ]
            refine wpAnyH_take (i := 1) (oi := { dst := _, op := _, type := _, pos := _, after := _, guard := _ }) (v := ?_) rfl (by kernel_rfl) (by kernel_rfl) (by kernel_rfl) (fun _ _ _ h => h) (Or.inl ⟨by rfl, ?_⟩) (by assumption) ?_
            rotate_left
            · intro W hSw
              (try dsimp only at hSw)
              go_simp
              (try with_reducible rfl)
            try simp only [Act.put, List.setIfInBounds_toArray, List.set_cons_zero, List.set_cons_succ]
            refine wpAnyH_take (i := 2) (oi := { dst := _, op := _, type := _, pos := _, after := _, guard := _ }) (v := ?_) rfl (by kernel_rfl) (by kernel_rfl) (by kernel_rfl) (fun _ _ _ h => h) (Or.inl ⟨by rfl, ?_⟩) (by assumption) ?_
            rotate_left
            · intro W hSw
              (try dsimp only at hSw)
              go_simp
              (try with_reducible rfl)
            try simp only [Act.put, List.setIfInBounds_toArray, List.set_cons_zero, List.set_cons_succ]
            refine wpAnyH_take (i := 3) (oi := { dst := _, op := _, type := _, pos := _, after := _, guard := _ }) (v := ?_) rfl (by kernel_rfl) (by kernel_rfl) (by kernel_rfl) (fun _ _ _ h => h) (Or.inl ⟨by rfl, ?_⟩) (by assumption) ?_
            rotate_left
            · intro W hSw
              (try dsimp only at hSw)
              go_simp
              (try with_reducible rfl)
            try simp only [Act.put, List.setIfInBounds_toArray, List.set_cons_zero, List.set_cons_succ]
            refine wpAnyH_take (i := 4) (oi := { dst := _, op := _, type := _, pos := _, after := _, guard := _ }) (v := ?_) rfl (by kernel_rfl) (by kernel_rfl) (by kernel_rfl) (fun _ _ _ h => h) (Or.inl ⟨by rfl, ?_⟩) (by assumption) ?_
            rotate_left
            · intro W hSw
              (try dsimp only at hSw)
              go_simp
              (try with_reducible rfl)
            try simp only [Act.put, List.setIfInBounds_toArray, List.set_cons_zero, List.set_cons_succ]
            refine wpAnyH_take (i := 5) (oi := { dst := _, op := _, type := _, pos := _, after := _, guard := _ }) (v := ?_) rfl (by kernel_rfl) (by kernel_rfl) (by kernel_rfl) (fun _ _ _ h => h) (Or.inl ⟨by rfl, ?_⟩) (by assumption) ?_
            rotate_left
            · intro W hSw
              (try dsimp only at hSw)
              go_simp
              (try with_reducible rfl)
            try simp only [Act.put, List.setIfInBounds_toArray, List.set_cons_zero, List.set_cons_succ]
            refine wpAnyH_take (i := 6) (oi := { dst := _, op := _, type := _, pos := _, after := _, guard := _ }) (v := ?_) rfl (by kernel_rfl) (by kernel_rfl) (by kernel_rfl) (fun _ _ _ h => h) (Or.inl ⟨by rfl, ?_⟩) (by assumption) ?_
            rotate_left
            · intro W hSw
              (try dsimp only at hSw)
              go_simp
              (try with_reducible rfl)
            try simp only [Act.put, List.setIfInBounds_toArray, List.set_cons_zero, List.set_cons_succ]
            refine wpAnyH_take (i := 7) (oi := { dst := _, op := _, type := _, pos := _, after := _, guard := _ }) (v := ?_) rfl (by kernel_rfl) (by kernel_rfl) (by kernel_rfl) (fun _ _ _ h => h) (Or.inl ⟨by rfl, ?_⟩) (by assumption) ?_
            rotate_left
            · intro W hSw
              (try dsimp only at hSw)
              go_simp
              (try with_reducible rfl)
            try simp only [Act.put, List.setIfInBounds_toArray, List.set_cons_zero, List.set_cons_succ]
            refine wpAnyH_take (i := 8) (oi := { dst := _, op := _, type := _, pos := _, after := _, guard := _ }) (v := ?_) rfl (by kernel_rfl) (by kernel_rfl) (by kernel_rfl) (fun _ _ _ h => h) (Or.inl ⟨by rfl, ?_⟩) (by assumption) ?_
            rotate_left
            · intro W hSw
              (try dsimp only at hSw)
              go_simp
              (try with_reducible rfl)
            try simp only [Act.put, List.setIfInBounds_toArray, List.set_cons_zero, List.set_cons_succ]
            refine wpAnyH_take (i := 9) (oi := { dst := _, op := _, type := _, pos := _, after := _, guard := _ }) (v := ?_) rfl (by kernel_rfl) (by kernel_rfl) (by kernel_rfl) (fun _ _ _ h => h) (Or.inl ⟨by rfl, ?_⟩) (by assumption) ?_
            rotate_left
            · intro W hSw
              (try dsimp only at hSw)
              go_simp
              (try with_reducible rfl)
            try simp only [Act.put, List.setIfInBounds_toArray, List.set_cons_zero, List.set_cons_succ]
            refine wpAnyH_take (i := 10) (oi := { dst := _, op := _, type := _, pos := _, after := _, guard := _ }) (v := ?_) rfl (by kernel_rfl) (by kernel_rfl) (by kernel_rfl) (fun _ _ _ h => h) (Or.inl ⟨by rfl, ?_⟩) (by assumption) ?_
            rotate_left
            · intro W hSw
              (try dsimp only at hSw)
              go_simp
              (try with_reducible rfl)
            try simp only [Act.put, List.setIfInBounds_toArray, List.set_cons_zero, List.set_cons_succ]
            refine wpAnyH_take (i := 11) (oi := { dst := _, op := _, type := _, pos := _, after := _, guard := _ }) (v := ?_) rfl (by kernel_rfl) (by kernel_rfl) (by kernel_rfl) (fun _ _ _ h => h) (Or.inl ⟨by rfl, ?_⟩) (by assumption) ?_
            rotate_left
            · intro W hSw
              (try dsimp only at hSw)
              go_simp
              (try with_reducible rfl)
            try simp only [Act.put, List.setIfInBounds_toArray, List.set_cons_zero, List.set_cons_succ]
            refine wpAnyH_take (i := 12) (oi := { dst := _, op := _, type := _, pos := _, after := _, guard := _ }) (v := ?_) rfl (by kernel_rfl) (by kernel_rfl) (by kernel_rfl) (fun _ _ _ h => h) (Or.inl ⟨by rfl, ?_⟩) (by assumption) ?_
            rotate_left
            · intro W hSw
              (try dsimp only at hSw)
              go_simp
              (try with_reducible rfl)
            try simp only [Act.put, List.setIfInBounds_toArray, List.set_cons_zero, List.set_cons_succ]
            refine wpAnyH_take (i := 13) (oi := { dst := _, op := _, type := _, pos := _, after := _, guard := _ }) (v := ?_) rfl (by kernel_rfl) (by kernel_rfl) (by kernel_rfl) (fun _ _ _ h => h) (Or.inl ⟨by rfl, ?_⟩) (by assumption) ?_
            rotate_left
            · intro W hSw
              (try dsimp only at hSw)
              go_simp
              (try with_reducible rfl)
            try simp only [Act.put, List.setIfInBounds_toArray, List.set_cons_zero, List.set_cons_succ]
            refine wpAnyH_take (i := 14) (oi := { dst := _, op := _, type := _, pos := _, after := _, guard := _ }) (v := ?_) rfl (by kernel_rfl) (by kernel_rfl) (by kernel_rfl) (fun _ _ _ h => h) (Or.inl ⟨by rfl, ?_⟩) (by assumption) ?_
            rotate_left
            · intro W hSw
              (try dsimp only at hSw)
              go_simp
              (try with_reducible rfl)
            try simp only [Act.put, List.setIfInBounds_toArray, List.set_cons_zero, List.set_cons_succ]
            refine wpAnyH_take (i := 15) (oi := { dst := _, op := _, type := _, pos := _, after := _, guard := _ }) (v := ?_) rfl (by kernel_rfl) (by kernel_rfl) (by kernel_rfl) (fun _ _ _ h => h) (Or.inl ⟨by rfl, ?_⟩) (by assumption) ?_
            rotate_left
            · intro W hSw
              (try dsimp only at hSw)
              go_simp
              (try with_reducible rfl)
            try simp only [Act.put, List.setIfInBounds_toArray, List.set_cons_zero, List.set_cons_succ]
            refine wpAnyH_take (i := 16) (oi := { dst := _, op := _, type := _, pos := _, after := _, guard := _ }) (v := ?_) rfl (by kernel_rfl) (by kernel_rfl) (by kernel_rfl) (fun _ _ _ h => h) (Or.inl ⟨by rfl, ?_⟩) (by assumption) ?_
            rotate_left
            · intro W hSw
              (try dsimp only at hSw)
              go_simp
              (try with_reducible rfl)
            try simp only [Act.put, List.setIfInBounds_toArray, List.set_cons_zero, List.set_cons_succ]
            refine wpAnyH_take (i := 17) (oi := { dst := _, op := _, type := _, pos := _, after := _, guard := _ }) (v := ?_) rfl (by kernel_rfl) (by kernel_rfl) (by kernel_rfl) (fun _ _ _ h => h) (Or.inl ⟨by rfl, ?_⟩) (by assumption) ?_
            rotate_left
            · intro W hSw
              (try dsimp only at hSw)
              go_simp
              (try with_reducible rfl)
            try simp only [Act.put, List.setIfInBounds_toArray, List.set_cons_zero, List.set_cons_succ]
            refine wpAnyH_take (i := 18) (oi := { dst := _, op := _, type := _, pos := _, after := _, guard := _ }) (v := ?_) rfl (by kernel_rfl) (by kernel_rfl) (by kernel_rfl) (fun _ _ _ h => h) (Or.inl ⟨by rfl, ?_⟩) (by assumption) ?_
            rotate_left
            · intro W hSw
              (try dsimp only at hSw)
              go_simp
              (try with_reducible rfl)
            try simp only [Act.put, List.setIfInBounds_toArray, List.set_cons_zero, List.set_cons_succ]
            refine wpAnyH_take (i := 19) (oi := { dst := _, op := _, type := _, pos := _, after := _, guard := _ }) (v := ?_) rfl (by kernel_rfl) (by kernel_rfl) (by kernel_rfl) (fun _ _ _ h => h) (Or.inl ⟨by rfl, ?_⟩) (by assumption) ?_
            rotate_left
            · intro W hSw
              (try dsimp only at hSw)
              go_simp
              (try with_reducible rfl)
            try simp only [Act.put, List.setIfInBounds_toArray, List.set_cons_zero, List.set_cons_succ]
            refine wpAnyH_take (i := 20) (oi := { dst := _, op := _, type := _, pos := _, after := _, guard := _ }) (v := ?_) rfl (by kernel_rfl) (by kernel_rfl) (by kernel_rfl) (fun _ _ _ h => h) (Or.inl ⟨by rfl, ?_⟩) (by assumption) ?_
            rotate_left
            · intro W hSw
              (try dsimp only at hSw)
              go_simp
              (try with_reducible rfl)
            try simp only [Act.put, List.setIfInBounds_toArray, List.set_cons_zero, List.set_cons_succ]
            refine wpAnyH_take (i := 21) (oi := { dst := _, op := _, type := _, pos := _, after := _, guard := _ }) (v := ?_) rfl (by kernel_rfl) (by kernel_rfl) (by kernel_rfl) (fun _ _ _ h => h) (Or.inl ⟨by rfl, ?_⟩) (by assumption) ?_
            rotate_left
            · intro W hSw
              (try dsimp only at hSw)
              go_simp
              (try with_reducible rfl)
            try simp only [Act.put, List.setIfInBounds_toArray, List.set_cons_zero, List.set_cons_succ]
            refine wpAnyH_take (i := 22) (oi := { dst := _, op := _, type := _, pos := _, after := _, guard := _ }) (v := ?_) rfl (by kernel_rfl) (by kernel_rfl) (by kernel_rfl) (fun _ _ _ h => h) (Or.inl ⟨by rfl, ?_⟩) (by assumption) ?_
            rotate_left
            · intro W hSw
              (try dsimp only at hSw)
              go_simp
              (try with_reducible rfl)
            try simp only [Act.put, List.setIfInBounds_toArray, List.set_cons_zero, List.set_cons_succ]
            refine wpAnyH_done (by kernel_rfl) ?_ _
            refine NoPanic.normal ?_
            clear hHeld
            go_wp2_with fail
            go_roundg (K - (j + 1))
            case measure => have := HJ.out; have := HJL.out; omega
            case rel => exact ⟨j + 1, by first | rfl | (rw [show (j : Int) + 1 = ((j + 1 : Nat) : Int) by omega]), HBD, ⟨HJL.out, rfl⟩⟩
        · have e1 : decide ((j : Int) < (K : Int)) = false := by rw [decide_eq_false_iff_not]; omega
          have e2 : decide (j < K) = false := by rw [decide_eq_false_iff_not]; omega
          clear hj
          go_wp2_with fail
          go_ret
          exact ⟨rfl, below_trans BW.out HBW.out⟩
end Go.Proofs.Ytodncbkdlnepjaa
