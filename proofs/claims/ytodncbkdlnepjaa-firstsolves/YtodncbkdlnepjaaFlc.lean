import Derived.Test.YtodncbkdlnepjaaFln
namespace Go.Proofs.Ytodncbkdlnepjaa
open Go.RowKit Go.Maps

theorem u64_rest {a b : Nat} (ha : a < 2 ^ 64) (hb : b < 2 ^ 64) (h : ¬ a ||| b = b) : ∃ q : Nat, bits .andNot .u64 (a : Int) (b : Int) = (q : Int) ∧ q ≠ 0 :=
  ⟨_, u64_andNot_nat a b ha hb, fun e => h ((and_not_zero a b ha hb).1 e)⟩
/-- The productions that have been looked at. -/
def Cp (nT : Nat) (P : List Pd) (T : Ss) (j : Nat) : Prop := ∀ p ∈ P.take j, 0 ≤ p.1 → le2 (alg T (syl p.2.2)) (T (nT + p.1.toNat))
theorem cp_step {nT : Nat} {P : List Pd} {T : Ss} {j : Nat} (h : Cp nT P T j) (hj : j < P.length) (hx : 0 ≤ (P.getD j pfd).1 → le2 (alg T (syl (P.getD j pfd).2.2)) (T (nT + (P.getD j pfd).1.toNat))) : Cp nT P T (j + 1) := fun p hp h0 => by
  rw [take_getD P pfd j hj, List.mem_append, List.mem_singleton] at hp
  rcases hp with hp | rfl
  · exact h p hp h0
  · exact hx h0

set_option maxRecDepth 100000 in
set_option maxHeartbeats 16000000 in
theorem closed_any {v0 v1 v2 vn vf : Value} {nT nS : Nat} {P : List Pd} {T : Ss} (w : World) (h : Gm w v0 v1 v2 nT nS P) (hz : Gz nT nS P) (hs : snd nT nS P = true) (hn : Bl w vn (nT + nS) T) (hf : Tl w vf (nT + nS) T) (hT : ∀ x, (T x).1 < 2 ^ 64) :
    Calls Try.prog 14 #[.agg #[v0, v1, v2], vn, vf] w fun e w' => ∃ b : Bool, e = .returned (.bool b) ∧ (b = true ↔ Cl nT P T) ∧ Below w.heap.size w w' := by
  have HG : Hid (Gm w v0 v1 v2 nT nS P) := h
  have HZ : Hid (Gz nT nS P) := hz
  have HSN : Hid _ := snd_mem hs
  have HN : Hid (Bl w vn (nT + nS) T) := hn
  have HF : Hid (Tl w vf (nT + nS) T) := hf
  have HT : Hid (∀ x, (T x).1 < 2 ^ 64) := hT
  obtain ⟨a0, c0, a1, c1, a2, c2, rfl, rfl, rfl⟩ := h.form
  obtain ⟨an, cn, rfl⟩ := hn.form
  obtain ⟨af, cf, rfl⟩ := hf.form
  have hkk : 0 < nT + nS := by have := (snd_mem hs).1; omega
  obtain ⟨gn, on, rfl, hcn⟩ := hn.get hkk
  obtain ⟨gf, off, rfl, hcf⟩ := hf.get hkk
  have HCN : Hid (∀ W, Below w.heap.size w W → ∀ j, j < nT + nS → W.cell? ⟨gn, on + j, none⟩ = some (.bool (T j).2)) := fun W hW j hj => below_cell hW (hcn j hj)
  have HCF : Hid (∀ W, Below w.heap.size w W → ∀ j, j < nT + nS → W.cell? ⟨gf, off + j, none⟩ = some (.int .u64 ((T j).1 : Int))) := fun W hW j hj => below_cell hW (hcf j hj)
  clear h hz hs hn hf hT hkk hcn hcf
  obtain ⟨n, hnn⟩ : ∃ n, P.length = n := ⟨_, rfl⟩
  have HNN : Hid (P.length = n) := hnn
  rw [hnn] at HG ⊢
  clear hnn
  obtain ⟨K, hK⟩ : ∃ K, nT + nS = K := ⟨_, rfl⟩
  have HK : Hid (nT + nS = K) := hK
  rw [hK] at HN HF HCN HCF ⊢
  clear hK
  obtain ⟨W1, hW1⟩ : ∃ W1, W1 = w.alloc (.cells #[.slice a0 nT c0, .slice a1 nS c1, .slice a2 n c2] 26) := ⟨_, rfl⟩
  have HX : Hid (W1.heap[w.heap.size]? = some (.cells #[.slice a0 nT c0, .slice a1 nS c1, .slice a2 n c2] 26 (0, 0))) := by rw [hW1]; exact heap_new w _
  have HB1 : Hid (Below w.heap.size w W1) := by rw [hW1]; exact bel_up _ _
  go_enter Try.func14, Try.ntmps14
  go_upto_region 1 with fail
  rw [← hW1]
  clear hW1
  obtain ⟨gb, hgb⟩ : ∃ gb, w.heap.size = gb := ⟨_, rfl⟩
  have HGB : Hid (w.heap.size = gb) := hgb
  rw [hgb] at HX ⊢
  clear hgb
  go_upto_region 2 with fail
  have HCC : Hid (∀ W, Below W1.heap.size W1 W → W.cell? ⟨gb, 0, none⟩ = some (.slice a0 nT c0) ∧ W.cell? ⟨gb, 1, none⟩ = some (.slice a1 nS c1) ∧ W.cell? ⟨gb, 2, none⟩ = some (.slice a2 n c2)) := fun W hW => ⟨below_cell hW (rcell HX.out 0 _ rfl), below_cell hW (rcell HX.out 1 _ rfl), below_cell hW (rcell HX.out 2 _ rfl)⟩
  go_loopg [7] nT (fun gm v7 wr => ∃ i : Nat, v7 = .int .i64 (i : Int) ∧ Hid (Below W1.heap.size W1 wr) ∧ Hid (i ≤ nT ∧ gm = nT - i) ∧ Hid (∀ t, t < i → (T t).1.testBit t = true))
  case atStart => exact ⟨0, rfl, Below.refl _ _, ⟨Nat.zero_le _, rfl⟩, fun t ht => absurd ht (Nat.not_lt_zero t)⟩
  case round =>
    obtain ⟨i, rfl, HBW, HI, HA⟩ := hrel
    obtain ⟨p0, p1, p2⟩ := HCC.out wr HBW.out
    by_cases hi : i < nT
    · have HIL : Hid (i < nT) := hi
      have HIK : Hid (i < K ∧ i < 64) := by have := HK.out; have := HSN.out.1; show _ ∧ _; omega
      have k2 := HCF.out wr (below_trans HB1.out HBW.out) i HIK.out.1
      have hwr := w64n i (by have := HIK.out; omega)
      have hcv : IntKind.u64.wrap (i : Int) = (i : Int) := u64_wrap _ (by omega) (by have := HIK.out; omega)
      have hbt := u64_bit (T i).1 i (HT.out i)
      have e1 : decide ((i : Int) < (nT : Int)) = true := by rw [decide_eq_true_eq]; omega
      have e2 : decide (i < nT) = true := by rw [decide_eq_true_eq]; omega
      have e5 : (i : Int) < (nT : Int) := by omega
      have e6 : i < nT := hi
      have e7 : (i : Int) < (K : Int) := by have := HIK.out; omega
      have e8 : i < K := HIK.out.1
      have e9 : i < 64 := HIK.out.2
      clear hi
      cases hb : (T i).1.testBit i with
      | false =>
        rw [hb, if_neg (by decide)] at hbt
        have HBB : Hid ((T i).1.testBit i = false) := hb
        clear hb
        go_wp2_with fail
        go_ret
        exact ⟨false, rfl, ⟨fun h => (by cases h), fun h => absurd (h.1 i HIL.out) (by rw [HBB.out]; decide)⟩, below_trans HB1.out HBW.out⟩
      | true =>
        rw [hb, if_pos rfl] at hbt
        have HBB : Hid ((T i).1.testBit i = true) := hb
        clear hb
        go_wp2_with fail
        go_roundg (nT - (i + 1))
        case measure => have := HI.out; have := HIL.out; omega
        case rel => exact ⟨i + 1, by first | rfl | (rw [show (i : Int) + 1 = ((i + 1 : Nat) : Int) by omega]), HBW, ⟨HIL.out, rfl⟩, fun t ht => (Nat.lt_succ_iff_lt_or_eq.1 ht).elim (HA.out t) (fun e => e ▸ HBB.out)⟩
    · have e1 : decide ((i : Int) < (nT : Int)) = false := by rw [decide_eq_false_iff_not]; omega
      have e2 : decide (i < nT) = false := by rw [decide_eq_false_iff_not]; omega
      have HTK : Hid (∀ t, t < nT → (T t).1.testBit t = true) := fun t ht => HA.out t (by have := HI.out; omega)
      clear hi
      go_upto_region 7 with fail
      clear p0 p1 p2 e1 e2 HI HA
      obtain ⟨V, hV⟩ : ∃ V, V = wr := ⟨_, rfl⟩
      rw [← hV] at HBW ⊢
      have HBV : Hid (Below W1.heap.size W1 V) := HBW.out
      clear hV HBW
      go_loopg [8] n (fun gm v8 wr => ∃ j : Nat, v8 = .int .i64 (j : Int) ∧ Hid (Below W1.heap.size W1 wr) ∧ Hid (j ≤ n ∧ gm = n - j) ∧ Hid (Cp nT P T j))
      case atStart => exact ⟨0, rfl, HBV, ⟨Nat.zero_le _, rfl⟩, fun p hp => by cases hp⟩
      case round =>
        clear HBV
        obtain ⟨j, rfl, HBW, HJ, HC⟩ := hrel
        obtain ⟨p0, p1, p2⟩ := HCC.out wr HBW.out
        by_cases hj : j < n
        · have HJL : Hid (j < n) := hj
          have HJP : Hid (j < P.length) := by have := HNN.out; show j < P.length; omega
          have HGW : Hid (Gm wr (.slice a0 nT c0) (.slice a1 nS c1) (.slice a2 n c2) nT nS P) := HG.out.up (below_trans HB1.out HBW.out)
          have HMP : Hid _ := mem_getD HJP.out pfd
          have HRX : Hid (Rw wr (P.getD j pfd).2.1 (P.getD j pfd).2.2.length (flat rf (P.getD j pfd).2.2)) := HGW.out.r _ HMP.out
          have HPW : Hid _ := HSN.out.2 _ HMP.out
          have HPZ : Hid _ := HZ.out.r _ HMP.out
          obtain ⟨g, o, cap, e0, hc⟩ := HGW.out.p.place (by have := HNN.out; omega)
          obtain ⟨rfl, -, rfl⟩ := Value.slice.inj e0
          obtain ⟨q0, q1⟩ := pf_get P j HJP.out
          have k0 := hc _ _ q0
          have k1 := hc _ _ q1
          have HXC : Hid (Cp nT P T (j + 1) ↔ (0 ≤ (P.getD j pfd).1 → le2 (alg T (syl (P.getD j pfd).2.2)) (T (nT + (P.getD j pfd).1.toNat)))) := ⟨fun h => h _ (by rw [take_getD P pfd j HJP.out]; simp), cp_step HC.out HJP.out⟩
          have HXP : Hid (Cl nT P T → (0 ≤ (P.getD j pfd).1 → le2 (alg T (syl (P.getD j pfd).2.2)) (T (nT + (P.getD j pfd).1.toNat)))) := fun h => h.2 _ HMP.out
          clear HMP
          obtain ⟨x, hx⟩ : ∃ x, P.getD j pfd = x := ⟨_, rfl⟩
          rw [hx] at k0 k1 HRX HPW HPZ HXC HXP
          obtain ⟨xs, xv, xl⟩ := x
          dsimp only at k0 k1 HRX HPW HPZ HXC HXP
          rw [← Nat.add_assoc] at k1
          obtain ⟨ax, cx, rfl⟩ := HRX.out.form
          have e1 : decide ((j : Int) < (n : Int)) = true := by rw [decide_eq_true_eq]; omega
          have e2 : decide (j < n) = true := by rw [decide_eq_true_eq]; omega
          have e5 : (j : Int) < (n : Int) := by omega
          have e6 : j < n := hj
          have hwr := w64n j (by have := HZ.out.p; have := HNN.out; have := HJL.out; omega)
          clear e0 hc hx q0 q1 hj
          by_cases hneg : xs < 0
          · have d1 : decide (xs < 0) = true := decide_eq_true hneg
            have HNE : Hid (xs < 0) := hneg
            clear hneg
            go_wp2_with fail
            go_roundg (n - (j + 1))
            case measure => have := HJ.out; have := HJL.out; omega
            case rel => exact ⟨j + 1, by first | rfl | (rw [show (j : Int) + 1 = ((j + 1 : Nat) : Int) by omega]), HBW, ⟨HJL.out, rfl⟩, HXC.out.2 (fun h => by have := HNE.out; omega)⟩
          · have d1 : decide (xs < 0) = false := decide_eq_false hneg
            obtain ⟨y, hy⟩ : ∃ y : Nat, xs = (y : Int) := ⟨xs.toNat, by omega⟩
            subst hy
            clear hneg
            rw [Int.toNat_natCast] at HXC HXP
            have HY : Hid (nT + y < K) := by have := HPW.out; have := HK.out; show _ < _; omega
            have HKL : Hid (K ≤ 192) := by have := HSN.out.1; have := HK.out; show _ ≤ _; omega
            have hadd : IntKind.i64.wrap ((nT : Int) + (y : Int)) = ((nT + y : Nat) : Int) := by rw [IntKind.wrap_i64]; have := HY.out; have := HKL.out; omega
            go_upto_region 10 with fail
            go_region
            obtain ⟨WD, hWD⟩ : ∃ WD, wr.drew = WD := ⟨_, rfl⟩
            rw [hWD]
            have BD : Hid (Below wr.heap.size wr WD) := by rw [← hWD]; exact Below.drew (Below.refl _ _)
            clear hWD
            have B2 : Hid (Below W1.heap.size W1 WD) := below_trans HBW.out BD.out
            have B0 : Hid (Below w.heap.size w WD) := below_trans HB1.out B2.out
            clear k0 p0 p1 p2
            obtain ⟨p0, p1, p2⟩ := HCC.out WD B2.out
            have k1' := below_cell BD.out k1
            have HNW : Hid (Bl WD (.slice (some ⟨gn, on, none⟩) K cn) K T) := HN.out.up B0.out
            have HFW : Hid (Tl WD (.slice (some ⟨gf, off, none⟩) K cf) K T) := HF.out.up B0.out
            have HWX : Hid (wth K xl = true) := by have := HPW.out.2.2; rw [HK.out] at this; exact this
            go_upto_region 12 with (go_at_call 33; refine (lalong_any WD HNW.out HFW.out HT.out (HRX.out.up BD.out) (by have := HPZ.out; omega) HWX.out).mono ?_; rintro e Y1 ⟨rfl, hy1⟩; have BY1 : Hid (Below WD.heap.size WD Y1) := hy1; clear hy1)
            have B3 : Hid (Below W1.heap.size W1 Y1) := below_trans B2.out BY1.out
            have B4 : Hid (Below w.heap.size w Y1) := below_trans HB1.out B3.out
            obtain ⟨m, hm⟩ : ∃ m, (alg T (syl xl)).1 = m := ⟨_, rfl⟩
            have HM : Hid (m < 2 ^ 64) := by rw [← hm]; exact alg_lt T HT.out _
            have HMM : Hid ((alg T (syl xl)).1 = m) := hm
            rw [hm]
            clear hm k1 k1' p0 p1 p2
            have f1 := HCF.out Y1 B4.out (nT + y) HY.out
            have f2 := HCN.out Y1 B4.out (nT + y) HY.out
            have e7 : ((nT + y : Nat) : Int) < (K : Int) := by have := HY.out; omega
            have e8 : nT + y < K := HY.out
            obtain ⟨z, hz⟩ : ∃ z, nT + y = z := ⟨_, rfl⟩
            have hpc : (nT : Int) + (y : Int) = ((nT + y : Nat) : Int) := by omega
            rw [hpc]
            clear hpc
            rw [hz] at f1 f2 e7 e8 HXC HXP ⊢
            clear hz hadd
            by_cases hle : m ||| (T z).1 = (T z).1
            rotate_left
            · obtain ⟨q, hno, hq0⟩ := u64_rest HM.out (HT.out z) hle
              have d4 : ((q : Int) == 0) = false := by rw [beq_eq_false_iff_ne]; omega
              have d4' : (q == 0) = false := by rw [beq_eq_false_iff_ne]; exact hq0
              have d5 : ¬ ((q : Int) = 0) := by omega
              have HLE : Hid (¬ m ||| (T z).1 = (T z).1) := hle
              clear hle
              go_wp2_with fail
              go_ret
              exact ⟨false, rfl, ⟨fun h => (by cases h), fun h => absurd (by have := (HXP.out h (by omega)).1; rw [HMM.out] at this; exact this) HLE.out⟩, B4.out⟩
            have hno := u64_none HM.out (HT.out z) hle
            have HLE : Hid (m ||| (T z).1 = (T z).1) := hle
            clear hle
            cases hv : (alg T (syl xl)).2 with
            | false =>
              have HVV : Hid ((alg T (syl xl)).2 = false) := hv
              clear hv
              go_wp2_with fail
              go_roundg (n - (j + 1))
              case measure => have := HJ.out; have := HJL.out; omega
              case rel => exact ⟨j + 1, by first | rfl | (rw [show (j : Int) + 1 = ((j + 1 : Nat) : Int) by omega]), B3, ⟨HJL.out, rfl⟩, HXC.out.2 (fun _ => ⟨by rw [HMM.out]; exact HLE.out, fun h => by rw [HVV.out] at h; cases h⟩)⟩
            | true =>
              have HVV : Hid ((alg T (syl xl)).2 = true) := hv
              clear hv
              cases hv2 : (T z).2 with
              | false =>
                rw [hv2] at f2
                have HV2 : Hid ((T z).2 = false) := hv2
                clear hv2
                go_wp2_with fail
                go_ret
                exact ⟨false, rfl, ⟨fun h => (by cases h), fun h => absurd ((HXP.out h (by omega)).2 HVV.out) (by rw [HV2.out]; decide)⟩, B4.out⟩
              | true =>
                rw [hv2] at f2
                have HV2 : Hid ((T z).2 = true) := hv2
                clear hv2
                go_wp2_with fail
                go_roundg (n - (j + 1))
                case measure => have := HJ.out; have := HJL.out; omega
                case rel => exact ⟨j + 1, by first | rfl | (rw [show (j : Int) + 1 = ((j + 1 : Nat) : Int) by omega]), B3, ⟨HJL.out, rfl⟩, HXC.out.2 (fun _ => ⟨by rw [HMM.out]; exact HLE.out, fun _ => HV2.out⟩)⟩
        · have e1 : decide ((j : Int) < (n : Int)) = false := by rw [decide_eq_false_iff_not]; omega
          have e2 : decide (j < n) = false := by rw [decide_eq_false_iff_not]; omega
          have HJN : Hid (j = P.length) := by have := HJ.out; have := HNN.out; show j = P.length; omega
          clear hj
          go_wp2_with fail
          go_ret
          refine ⟨true, rfl, ⟨fun _ => ⟨HTK.out, ?_⟩, fun _ => rfl⟩, below_trans HB1.out HBW.out⟩
          have h9 := HC.out
          rw [HJN.out] at h9
          unfold Cp at h9
          rw [List.take_length] at h9
          exact h9
end Go.Proofs.Ytodncbkdlnepjaa
