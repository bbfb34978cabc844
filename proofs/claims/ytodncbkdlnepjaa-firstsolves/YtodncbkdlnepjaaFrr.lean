import Derived.Test.YtodncbkdlnepjaaFrq
namespace Go.Proofs.Ytodncbkdlnepjaa
open Go.RowKit Go.Maps

/-- Truths as cells. -/
def qC (K : Nat) (Q : Nat → Bool) : List Value := (List.range K).map fun j => .bool (Q j)
def mrk (Q : Nat → Bool) (i : Nat) : Nat → Bool := fun x => Q x || decide (x = i)
theorem qC_len (K : Nat) (Q : Nat → Bool) : (qC K Q).length = K := by unfold qC; rw [List.length_map, List.length_range]
theorem qC_get {K : Nat} (Q : Nat → Bool) {j : Nat} (h : j < K) : (qC K Q)[j]? = some (.bool (Q j)) := rng_get _ _ _ h
theorem qC_set {K : Nat} (Q : Nat → Bool) {i : Nat} (h : i < K) : (qC K Q).set i (.bool true) = qC K (mrk Q i) := by
  refine List.ext_getElem? fun k => ?_
  by_cases hk : k < K
  · rw [qC_get _ hk]
    by_cases e : i = k
    · subst e
      rw [List.getElem?_set_self (by rw [qC_len]; exact h)]
      unfold mrk
      rw [decide_eq_true rfl, Bool.or_true]
    · rw [List.getElem?_set_ne e, qC_get _ hk]
      unfold mrk
      rw [decide_eq_false (p := k = i) (fun h => e h.symm), Bool.or_false]
  · rw [List.getElem?_eq_none (by rw [List.length_set, qC_len]; omega), List.getElem?_eq_none (by rw [qC_len]; omega)]
theorem qC_zero (K : Nat) : qC K (fun _ => false) = (List.range K).map fun _ => (.bool false : Value) := rfl
theorem bq_block {W : World} {b K : Nat} {Q : Nat → Bool} {t : TypeId} (h : W.heap[b]? = some (.cells (qC K Q).toArray t (0, 0))) : Bq W (.slice (some ⟨b, 0, none⟩) K K) K Q :=
  ⟨some ⟨b, 0, none⟩, b, 0, K, rfl, Nat.le_refl _, fun h => (by cases h), fun _ => rfl, fun j u hu => by
    rw [Nat.zero_add, Lib.cell_of_heap h, List.getElem?_toArray]
    exact hu⟩
theorem nrd_step (nT : Nat) (P : List Pd) (k : Nat → Bool) (j : Nat) (h : j < P.length) : nrd nT (P.take (j + 1)) k = nst nT (nrd nT (P.take j) k) (P.getD j pfd) := by
  rw [take_getD P pfd j h]
  unfold nrd
  rw [List.foldl_append]
  rfl
theorem nst_no (nT : Nat) (k : Nat → Bool) (p : Pd) (h : ¬ (0 ≤ p.1 ∧ (syl p.2.2).all k = true)) : nst nT k p = k := funext fun x => by
  unfold nst
  cases e : k x with
  | true => rfl
  | false =>
    rw [Bool.false_or]
    by_cases h0 : 0 ≤ p.1
    · have : (syl p.2.2).all k = false := by
        cases e2 : (syl p.2.2).all k with
        | false => rfl
        | true => exact absurd ⟨h0, e2⟩ h
      rw [this, Bool.false_and, Bool.and_false]
    · rw [decide_eq_false h0, Bool.false_and]
theorem nst_yes (nT : Nat) (k : Nat → Bool) (p : Pd) (h0 : 0 ≤ p.1) (h1 : (syl p.2.2).all k = true) : nst nT k p = mrk k (nT + p.1.toNat) := funext fun x => by
  unfold nst mrk
  rw [decide_eq_true h0, h1, Bool.true_and, Bool.true_and]

set_option maxRecDepth 100000 in
set_option maxHeartbeats 8000000 in
theorem rnull_any {v0 v1 v2 : Value} {nT nS : Nat} {P : List Pd} (w : World) (h : Gm w v0 v1 v2 nT nS P) (hz : Gz nT nS P) :
    Calls Try.prog 23 #[.agg #[v0, v1, v2]] w fun e w' => (snd nT nS P = false → e = .returned (.slice none 0 0)) ∧ (snd nT nS P = true → ∃ ob, e = .returned (.slice (some ⟨ob, 0, none⟩) (nT + nS) (nT + nS)) ∧ w.heap.size ≤ ob ∧ w'.heap[ob]? = some (.cells (qC (nT + nS) (nit nT P nS)).toArray 4 (0, 0))) ∧ Below w.heap.size w w' := by
  have HG : Hid (Gm w v0 v1 v2 nT nS P) := h
  have HZ : Hid (Gz nT nS P) := hz
  obtain ⟨a0, c0, a1, c1, a2, c2, rfl, rfl, rfl⟩ := h.form
  clear h hz
  obtain ⟨n, hnn⟩ : ∃ n, P.length = n := ⟨_, rfl⟩
  have HNN : Hid (P.length = n) := hnn
  rw [hnn] at HG ⊢
  clear hnn
  obtain ⟨W1, hW1⟩ : ∃ W1, W1 = w.alloc (.cells #[.slice a0 nT c0, .slice a1 nS c1, .slice a2 n c2] 26) := ⟨_, rfl⟩
  have HX : Hid (W1.heap[w.heap.size]? = some (.cells #[.slice a0 nT c0, .slice a1 nS c1, .slice a2 n c2] 26 (0, 0))) := by rw [hW1]; exact heap_new w _
  have HB1 : Hid (Below w.heap.size w W1) := by rw [hW1]; exact bel_up _ _
  go_enter Try.func23, Try.ntmps23
  go_upto_region 1 with fail
  rw [← hW1]
  clear hW1
  obtain ⟨gb, hgb⟩ : ∃ gb, w.heap.size = gb := ⟨_, rfl⟩
  have HGB : Hid (w.heap.size = gb) := hgb
  rw [hgb] at HX ⊢
  clear hgb
  have HGN : Hid (Gm W1 (.slice a0 nT c0) (.slice a1 nS c1) (.slice a2 n c2) nT nS P) := HG.out.up HB1.out
  have HCC : Hid (∀ W : World, W.heap[gb]? = some (.cells #[.slice a0 nT c0, .slice a1 nS c1, .slice a2 n c2] 26 (0, 0)) → W.cell? ⟨gb, 0, none⟩ = some (.slice a0 nT c0) ∧ W.cell? ⟨gb, 1, none⟩ = some (.slice a1 nS c1) ∧ W.cell? ⟨gb, 2, none⟩ = some (.slice a2 n c2)) := fun W hW => ⟨rcell hW 0 _ rfl, rcell hW 1 _ rfl, rcell hW 2 _ rfl⟩
  obtain ⟨p0, p1, p2⟩ := HCC.out W1 HX.out
  by_cases hs : snd nT nS P = true
  rotate_left
  · have HSN : Hid (snd nT nS P = false) := by rw [Bool.not_eq_true] at hs; exact hs
    clear hs
    go_wp2_with (go_at_call 35; refine (rsound_any W1 HGN.out HZ.out).mono ?_; rintro e Y3 ⟨rfl, hy3⟩; have BY3 : Hid (Below W1.heap.size W1 Y3) := hy3; clear hy3; rw [HSN.out])
    go_ret
    exact ⟨fun _ => rfl, fun h => (by rw [HSN.out] at h; cases h), below_trans HB1.out BY3.out⟩
  have HSN : Hid (snd nT nS P = true) := hs
  clear hs
  have HSM : Hid _ := snd_mem HSN.out
  obtain ⟨N, hN⟩ : ∃ N, nT + nS = N := ⟨_, rfl⟩
  have HN : Hid (nT + nS = N) := hN
  have HNL : Hid (N ≤ 192) := by have := HSM.out.1; show N ≤ 192; omega
  clear hN
  have hadd : IntKind.i64.wrap ((nT : Int) + (nS : Int)) = (N : Int) := by have := HNL.out; have := HN.out; rw [IntKind.wrap_i64]; omega
  have hmk : ∀ W : World, (Instr.makeSlice 37 (.int .i64 (N : Int)) (.int .i64 (N : Int))).run Try.prog W = .ok (.slice (some ⟨W.heap.size, 0, none⟩) N N) (W.alloc (.cells ((List.range N).map fun _ => (.bool false : Value)).toArray 4)) := fun W => by
    obtain ⟨i0, hi, hz0, hz1, hz2⟩ := info_parts info4
    have h := run_make W 37 4 i0 (.bool false) Try.underlying37 hi hz0 .i64 .i64 (N : Int) (N : Int) (by omega) (Int.le_refl _) (by rw [hz2]; have := HNL.out; omega) (by have := HNL.out; omega)
    rw [hz1] at h
    simp only [Int.toNat_natCast, Nat.mul_one] at h
    rw [← made_list]
    exact h
  go_upto_region 3 with (go_at_call 35; refine (rsound_any W1 HGN.out HZ.out).mono ?_; rintro e Y3 ⟨rfl, hy3⟩; have BY3 : Hid (Below W1.heap.size W1 Y3) := hy3; clear hy3; rw [HSN.out])
  clear p0 p1 p2
  have HX3 : Hid (Y3.heap[gb]? = some (.cells #[.slice a0 nT c0, .slice a1 nS c1, .slice a2 n c2] 26 (0, 0))) := (BY3.out.block _ (lt_of_heap HX.out)).trans HX.out
  obtain ⟨p0, p1, p2⟩ := HCC.out Y3 HX3.out
  go_upto_region 4 with fail
  clear p0 p1 p2 hmk hadd
  obtain ⟨W7, hW7⟩ : ∃ W7, W7 = Y3.alloc (.cells ((List.range N).map fun _ => (.bool false : Value)).toArray 4) := ⟨_, rfl⟩
  rw [← hW7]
  have B7 : Hid (Below w.heap.size w W7) := by rw [hW7]; exact below_trans HB1.out (below_trans BY3.out (bel_up _ _))
  have HO7 : Hid (W7.heap[Y3.heap.size]? = some (.cells (qC N (fun _ => false)).toArray 4 (0, 0))) := by rw [hW7, qC_zero]; exact heap_new _ _
  have HX7 : Hid (W7.heap[gb]? = some (.cells #[.slice a0 nT c0, .slice a1 nS c1, .slice a2 n c2] 26 (0, 0))) := by rw [hW7]; exact ((bel_up _ _).block _ (lt_of_heap HX3.out)).trans HX3.out
  obtain ⟨o0, ho0⟩ : ∃ g, Y3.heap.size = g := ⟨_, rfl⟩
  have HWO : Hid (w.heap.size ≤ o0 ∧ gb < o0) := by
    have h1 := HB1.out.size
    have h2 := BY3.out.size
    have h3 := lt_of_heap HX3.out
    show _ ∧ _
    omega
  rw [ho0] at HO7 ⊢
  clear ho0 hW7 HX3 BY3 HX HGN HB1
  go_upto_region 5 with fail
  go_loopg [4] nS (fun gm v4 wr => ∃ i : Nat, v4 = .int .i64 (i : Int) ∧ Hid (Below w.heap.size w wr) ∧ Hid (i ≤ nS ∧ gm = nS - i) ∧ Hid (wr.heap[gb]? = some (.cells #[.slice a0 nT c0, .slice a1 nS c1, .slice a2 n c2] 26 (0, 0))) ∧ Hid (wr.heap[o0]? = some (.cells (qC N (nit nT P i)).toArray 4 (0, 0))))
  case atStart => exact ⟨0, rfl, B7, ⟨Nat.zero_le _, rfl⟩, HX7, HO7⟩
  case round =>
    clear B7 HX7 HO7
    obtain ⟨i, rfl, HBW, HI, HX, HO⟩ := hrel
    obtain ⟨p0, p1, p2⟩ := HCC.out wr HX.out
    by_cases hi : i < nS
    · have e1 : decide ((i : Int) < (nS : Int)) = true := by rw [decide_eq_true_eq]; omega
      have e2 : decide (i < nS) = true := by rw [decide_eq_true_eq]; omega
      have e5 : (i : Int) < (nS : Int) := by omega
      have e6 : i < nS := hi
      have HIL : Hid (i < nS) := hi
      have hwr := w64n i (by have := HSM.out.1; omega)
      clear hi
      go_upto_region 8 with fail
      clear p0 p1 p2
      obtain ⟨k, hk⟩ : ∃ k, nit nT P i = k := ⟨_, rfl⟩
      have HKE : Hid (nit nT P i = k) := hk
      rw [hk] at HO
      clear hk
      obtain ⟨V, hV⟩ : ∃ V, V = wr := ⟨_, rfl⟩
      rw [← hV] at HBW HX HO ⊢
      have HBV : Hid (Below w.heap.size w V) := HBW.out
      have HXV : Hid (V.heap[gb]? = some (.cells #[.slice a0 nT c0, .slice a1 nS c1, .slice a2 n c2] 26 (0, 0))) := HX.out
      have HOV : Hid (V.heap[o0]? = some (.cells (qC N k).toArray 4 (0, 0))) := HO.out
      clear hV HBW HX HO e1 e2 e5 e6
      go_loopg [5] n (fun gm v5 wr => ∃ j : Nat, v5 = .int .i64 (j : Int) ∧ Hid (Below w.heap.size w wr) ∧ Hid (j ≤ n ∧ gm = n - j) ∧ Hid (wr.heap[gb]? = some (.cells #[.slice a0 nT c0, .slice a1 nS c1, .slice a2 n c2] 26 (0, 0))) ∧ Hid (wr.heap[o0]? = some (.cells (qC N (nrd nT (P.take j) k)).toArray 4 (0, 0))))
      case atStart => exact ⟨0, rfl, HBV, ⟨Nat.zero_le _, rfl⟩, HXV, HOV⟩
      case round =>
        clear HBV HXV HOV
        obtain ⟨j, rfl, HBW, HJ, HX, HO⟩ := hrel
        obtain ⟨p0, p1, p2⟩ := HCC.out wr HX.out
        by_cases hj : j < n
        · have HJL : Hid (j < n) := hj
          have HJP : Hid (j < P.length) := by have := HNN.out; show j < P.length; omega
          have HGW : Hid (Gm wr (.slice a0 nT c0) (.slice a1 nS c1) (.slice a2 n c2) nT nS P) := HG.out.up HBW.out
          have HMP : Hid (P.getD j pfd ∈ P) := mem_getD HJP.out pfd
          have HRX : Hid (Rw wr (P.getD j pfd).2.1 (P.getD j pfd).2.2.length (flat rf (P.getD j pfd).2.2)) := HGW.out.r _ HMP.out
          have HPW : Hid _ := HSM.out.2 _ HMP.out
          have HPZ : Hid _ := HZ.out.r _ HMP.out
          obtain ⟨g, o, cap, e0, hc⟩ := HGW.out.p.place (by have := HNN.out; omega)
          obtain ⟨rfl, -, rfl⟩ := Value.slice.inj e0
          obtain ⟨q0, q1⟩ := pf_get P j HJP.out
          have k0 := hc _ _ q0
          have k1 := hc _ _ q1
          have HST : Hid (nrd nT (P.take (j + 1)) k = nst nT (nrd nT (P.take j) k) (P.getD j pfd)) := nrd_step nT P k j HJP.out
          obtain ⟨Q, hQ⟩ : ∃ Q, nrd nT (P.take j) k = Q := ⟨_, rfl⟩
          rw [hQ] at HST HO
          clear HMP hQ
          obtain ⟨x, hx⟩ : ∃ x, P.getD j pfd = x := ⟨_, rfl⟩
          rw [hx] at k0 k1 HRX HPW HPZ HST
          obtain ⟨xs, xv, xl⟩ := x
          dsimp only at k0 k1 HRX HPW HPZ
          rw [← Nat.add_assoc] at k1
          obtain ⟨ax, cx, rfl⟩ := HRX.out.form
          have e1 : decide ((j : Int) < (n : Int)) = true := by rw [decide_eq_true_eq]; omega
          have e2 : decide (j < n) = true := by rw [decide_eq_true_eq]; omega
          have e5 : (j : Int) < (n : Int) := by omega
          have e6 : j < n := hj
          have hwr := w64n j (by have := HZ.out.p; have := HNN.out; have := HJL.out; omega)
          clear e0 hc hx q0 q1 hj
          go_upto_region 11 with fail
          obtain ⟨W5, hW5⟩ : ∃ W5, W5 = wr.alloc (.cells #[.int .i64 xs, .slice ax xl.length cx] 53) := ⟨_, rfl⟩
          rw [← hW5]
          have BD : Hid (Below wr.heap.size wr W5) := by rw [hW5]; exact bel_up _ _
          have HP5 : Hid (W5.heap[wr.heap.size]? = some (.cells #[.int .i64 xs, .slice ax xl.length cx] 53 (0, 0))) := by rw [hW5]; exact heap_new _ _
          obtain ⟨pb, hpb⟩ : ∃ pb, wr.heap.size = pb := ⟨_, rfl⟩
          rw [hpb] at HP5 ⊢
          clear hW5 hpb k0 k1 p0 p1 p2
          have HX5 : Hid (W5.heap[gb]? = some (.cells #[.slice a0 nT c0, .slice a1 nS c1, .slice (some ⟨g, o, none⟩) n c2] 26 (0, 0))) := (BD.out.block _ (lt_of_heap HX.out)).trans HX.out
          have HO5 : Hid (W5.heap[o0]? = some (.cells (qC N Q).toArray 4 (0, 0))) := (BD.out.block _ (lt_of_heap HO.out)).trans HO.out
          have B5 : Hid (Below w.heap.size w W5) := below_trans HBW.out BD.out
          have k0 := rcell HP5.out 0 (.int .i64 xs) rfl
          have k1 := rcell HP5.out 1 (.slice ax xl.length cx) rfl
          by_cases hneg : xs < 0
          · have d1 : decide (0 ≤ xs) = false := decide_eq_false (by omega)
            have HNE : Hid (xs < 0) := hneg
            clear hneg
            go_wp2_with fail
            go_roundg (n - (j + 1))
            case measure => have := HJ.out; have := HJL.out; omega
            case rel => exact ⟨j + 1, by first | rfl | (rw [show (j : Int) + 1 = ((j + 1 : Nat) : Int) by omega]), B5, ⟨HJL.out, rfl⟩, HX5, by
              show _ = _
              rw [HST.out, nst_no nT Q _ (fun h => by have := HNE.out; have := h.1; dsimp only at this; omega)]
              exact HO5.out⟩
          · have d1 : decide (0 ≤ xs) = true := decide_eq_true (by omega)
            obtain ⟨y, hy⟩ : ∃ y : Nat, xs = (y : Int) := ⟨xs.toNat, by omega⟩
            subst hy
            clear hneg
            have HY : Hid (nT + y < N) := by have := HPW.out; have := HN.out; show _ < _; omega
            have HWX : Hid (wth N xl = true) := by have := HPW.out.2.2; rw [HN.out] at this; exact this
            have HR5 : Hid (Rw W5 (.slice ax xl.length cx) xl.length (flat rf xl)) := HRX.out.up BD.out
            have HQ5 : Hid (Bq W5 (.slice (some ⟨o0, 0, none⟩) N N) N Q) := bq_block HO5.out
            cases hgo : (syl xl).all Q with
            | false =>
              have HGO : Hid ((syl xl).all Q = false) := hgo
              clear hgo
              go_wp2_with (go_at_call 38; refine (goes_any W5 HQ5.out HR5.out (by have := HPZ.out; omega) HWX.out).mono ?_; rintro e w2 ⟨rfl, hb2⟩; have B2 : Hid (Below W5.heap.size W5 w2) := hb2; clear hb2; rw [HGO.out])
              go_roundg (n - (j + 1))
              case measure => have := HJ.out; have := HJL.out; omega
              case rel => exact ⟨j + 1, by first | rfl | (rw [show (j : Int) + 1 = ((j + 1 : Nat) : Int) by omega]), below_trans B5.out B2.out, ⟨HJL.out, rfl⟩, (B2.out.block _ (lt_of_heap HX5.out)).trans HX5.out, by
                show _ = _
                rw [HST.out, nst_no nT Q _ (fun h => by have := h.2; dsimp only at this; rw [HGO.out] at this; cases this)]
                exact (B2.out.block _ (lt_of_heap HO5.out)).trans HO5.out⟩
            | true =>
              have HGO : Hid ((syl xl).all Q = true) := hgo
              clear hgo
              have hadd : IntKind.i64.wrap ((nT : Int) + (y : Int)) = ((nT + y : Nat) : Int) := by rw [IntKind.wrap_i64]; have := HY.out; have := HNL.out; omega
              go_upto_region 12 with (go_at_call 38; refine (goes_any W5 HQ5.out HR5.out (by have := HPZ.out; omega) HWX.out).mono ?_; rintro e w2 ⟨rfl, hb2⟩; have B2 : Hid (Below W5.heap.size W5 w2) := hb2; clear hb2; rw [HGO.out])
              have HXZ : Hid (w2.heap[gb]? = some (.cells #[.slice a0 nT c0, .slice a1 nS c1, .slice (some ⟨g, o, none⟩) n c2] 26 (0, 0))) := (B2.out.block _ (lt_of_heap HX5.out)).trans HX5.out
              have HOZ : Hid (w2.heap[o0]? = some (.cells (qC N Q).toArray 4 (0, 0))) := (B2.out.block _ (lt_of_heap HO5.out)).trans HO5.out
              have HPB : Hid (w2.heap[pb]? = some (.cells #[.int .i64 (y : Int), .slice ax xl.length cx] 53 (0, 0))) := (B2.out.block _ (lt_of_heap HP5.out)).trans HP5.out
              clear k0 k1
              have k0 := rcell HPB.out 0 (.int .i64 (y : Int)) rfl
              obtain ⟨p0, p1, p2⟩ := HCC.out w2 HXZ.out
              have e7 : ((nT + y : Nat) : Int) < (N : Int) := by have := HY.out; omega
              have e7b : (nT : Int) + (y : Int) < (N : Int) := by have := HY.out; omega
              have e8 : nT + y < N := HY.out
              have f1 : w2.frozen? ⟨o0, nT + y, none⟩ = false := Lib.frozen_of_heap HOZ.out (nT + y)
              have c1 := rcell HOZ.out (nT + y) _ (by rw [List.getElem?_toArray]; exact qC_get Q HY.out)
              go_wp2_with fail
              have HO2 : Hid ((w2.setCell ⟨o0, nT + y, none⟩ (.bool true)).heap[o0]? = some (.cells (qC N (mrk Q (nT + y))).toArray 4 (0, 0))) := by
                show _ = _
                rw [blk_set _ HOZ.out, List.setIfInBounds_toArray, qC_set Q HY.out]
              go_roundg (n - (j + 1))
              case measure => have := HJ.out; have := HJL.out; omega
              case rel => exact ⟨j + 1, by first | rfl | (rw [show (j : Int) + 1 = ((j + 1 : Nat) : Int) by omega]), (below_trans B5.out B2.out).setCell (p := ⟨o0, nT + y, none⟩) HWO.out.1 _, ⟨HJL.out, rfl⟩, (Below.heap_setCell w2 ⟨o0, nT + y, none⟩ _ gb (by have := HWO.out; show gb ≠ o0; omega)).trans HXZ.out, by
                show _ = _
                rw [HST.out, nst_yes nT Q _ (by show (0 : Int) ≤ (y : Int); omega) HGO.out]
                exact HO2.out⟩
        · have e1 : decide ((j : Int) < (n : Int)) = false := by rw [decide_eq_false_iff_not]; omega
          have e2 : decide (j < n) = false := by rw [decide_eq_false_iff_not]; omega
          have HJN : Hid (j = n) := by have := HJ.out; show j = n; omega
          clear hj
          go_wp2_with fail
          go_roundg (nS - (i + 1))
          case measure => have := HI.out; have := HIL.out; omega
          case rel => exact ⟨i + 1, by first | rfl | (rw [show (i : Int) + 1 = ((i + 1 : Nat) : Int) by omega]), HBW, ⟨HIL.out, rfl⟩, HX, by
            show _ = _
            have h9 := HO.out
            rw [HJN.out, ← HNN.out, List.take_length, ← HKE.out] at h9
            exact h9⟩
    · have e1 : decide ((i : Int) < (nS : Int)) = false := by rw [decide_eq_false_iff_not]; omega
      have e2 : decide (i < nS) = false := by rw [decide_eq_false_iff_not]; omega
      have HIN : Hid (i = nS) := by have := HI.out; show i = nS; omega
      clear hi
      go_wp2_with fail
      go_ret
      refine ⟨fun h => (by rw [HSN.out] at h; cases h), fun _ => ⟨o0, by rw [HN.out]; rfl, HWO.out.1, ?_⟩, HBW.out⟩
      rw [HN.out, ← HIN.out]
      exact HO.out
end Go.Proofs.Ytodncbkdlnepjaa
