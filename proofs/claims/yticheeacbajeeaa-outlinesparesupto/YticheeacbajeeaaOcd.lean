import Derived.Test.YticheeacbajeeaaOrf
namespace Go.Proofs.Yticheeacbajeeaa
open Go.RowKit Go.Maps

theorem fs_first {M : List Pa} {t : ByteArray} (i : Nat) (hi : i < M.length) (h : (M.getD i paz).nm = t) (hn : ∀ j, j < i → (M.getD j paz).nm ≠ t) : fs M t = some i := by
  unfold fs
  rw [List.findIdx?_eq_some_iff_getElem]
  have e : ∀ j (hj : j < M.length), M.getD j paz = M[j] := fun j hj => by rw [List.getD_eq_getElem?_getD, List.getElem?_eq_getElem hj]; rfl
  refine ⟨hi, by rw [← e i hi]; exact decide_eq_true h, fun j hj => ?_⟩
  rw [← e j (by omega)]
  simpa using hn j hj
theorem fs_nope {M : List Pa} {t : ByteArray} (hn : ∀ j, j < M.length → (M.getD j paz).nm ≠ t) : fs M t = none := by
  unfold fs
  rw [List.findIdx?_eq_none_iff]
  intro x hx
  obtain ⟨j, hj, rfl⟩ := List.mem_iff_getElem.1 hx
  have := hn j hj
  rw [List.getD_eq_getElem?_getD, List.getElem?_eq_getElem hj] at this
  simpa using this
theorem kl_lenx (l : List Int) (a i : Nat) : (kl l a i).length = i := by unfold kl; simp
theorem kl_getx (l : List Int) (a i j : Nat) (h : j < i) : (kl l a i).getD j 0 = ((wA l (a + 1) j : Nat) : Int) := by
  unfold kl
  simp [List.getD_eq_getElem?_getD, List.getElem?_map, List.getElem?_range h]
theorem kls_at {T : List Nd} (hF : Fo (kds T)) {a : Nat} (ha : a < T.length) : kls T (a : Int) = kl (kds T) a (kA (kds T) a) := by
  unfold kls
  rw [std_of ha hF, if_pos rfl, Int.toNat_natCast]
set_option maxRecDepth 100000 in
set_option maxHeartbeats 8000000 in
theorem called_any {vf vm u : Value} {F : List ByteArray} {M : List Pa} {T : List Nd} (w : World) (hFF : Ss w vf F) (hm : Pl w vm M) (ht : Ns w u T) (hml : M.length * 32 ≤ 140737488355328) (hs : Sm T) (hf : Fo (kds T)) (a : Nat) (ha : a < T.length) : Calls Try.prog 25 #[.agg (lgO vf vm), u, .int .i64 (a : Int)] w fun e w' => e = .returned (.int .i64 (opi (cal M T a))) ∧ Below w.heap.size w w' := by
  have HM : Hid (Pl w vm M) := hm
  have HT : Hid (Ns w u T) := ht
  have HF : Hid (Fo (kds T) ∧ Sm T) := ⟨hf, hs⟩
  have HA : Hid (a < T.length ∧ a < (kds T).length) := ⟨ha, by rw [kds_len]; exact ha⟩
  obtain ⟨fa, fc, rfl⟩ := hFF.form
  obtain ⟨ma, mc, rfl⟩ := hm.form
  obtain ⟨na, nc, rfl⟩ := ht.form
  obtain ⟨W1, hW1⟩ : ∃ W1, W1 = w.alloc (.cells (lgO (.slice fa F.length fc) (.slice ma M.length mc)) 45) := ⟨_, rfl⟩
  have HB1 : Hid (Below w.heap.size w W1) := by rw [hW1]; exact bel_up _ _
  have HH1 : Hid (W1.heap[w.heap.size]? = some (.cells (lgO (.slice fa F.length fc) (.slice ma M.length mc)) 45 (0, 0))) := by rw [hW1]; exact heap_new w _
  have hkey : (lgO (.slice fa F.length fc) (.slice ma M.length mc))[10]? = some (.slice ma M.length mc) := rfl
  have HC10 : Hid (∀ W, Below W1.heap.size W1 W → W.cell? ⟨w.heap.size, 10, none⟩ = some (.slice ma M.length mc)) := fun W hW => below_cell hW (rcell HH1.out 10 _ hkey)
  unfold lgO at hW1 ⊢
  obtain ⟨m, hmm⟩ : ∃ m, M.length = m := ⟨_, rfl⟩
  obtain ⟨nf, hnf⟩ : ∃ nf, F.length = nf := ⟨_, rfl⟩
  obtain ⟨n, hnn⟩ : ∃ n, T.length = n := ⟨_, rfl⟩
  have HN : Hid (M.length = m ∧ T.length = n ∧ m * 32 ≤ 140737488355328 ∧ n * 72 + 4096 ≤ 140737488355328) := ⟨hmm, hnn, by rw [← hmm]; exact hml, by have h9 := hs; unfold Sm at h9; rw [hnn] at h9; exact h9⟩
  rw [hmm] at hW1 HC10 HM ⊢
  rw [hnf] at hW1 ⊢
  rw [hnn] at HT ⊢
  obtain ⟨lb, hlb⟩ : ∃ lb, w.heap.size = lb := ⟨_, rfl⟩
  have HLB : Hid (w.heap.size = lb) := hlb
  rw [hlb] at HC10
  have HKD : Hid (∀ W, Below w.heap.size w W → Calls Try.prog 39 #[.slice na n nc, .int .i64 (a : Int)] W fun e w' => ∃ v', e = .returned v' ∧ w'.ownsRow W.heap.size 3 1 v' (kls T (a : Int)).length (iC (kls T (a : Int))) ∧ Below W.heap.size W w') := fun W hW => rkids_any HF.out.2 W (HT.out.up hW) (a : Int)
  obtain ⟨ng, no, hna, hq⟩ := HT.out.seven a HA.out.1
  subst hna
  have HQ : Hid (∀ W, Below w.heap.size w W → W.cell? ⟨ng, no + a * 7, none⟩ = some (.string (T.getD a ndd).nm) ∧ W.cell? ⟨ng, no + a * 7 + 1, none⟩ = some (.bool (T.getD a ndd).nd)) := fun W hW => by
    obtain ⟨q0, q1, _⟩ := hq W hW
    exact ⟨q0, q1⟩
  have HFD : Hid (∀ W, Below w.heap.size w W → ∀ j, j < T.length → W.cell? ⟨ng, no + j * 7 + 2, none⟩ = some (.string (T.getD j ndd).fd)) := fun W hW j hj => by
    obtain ⟨g', o', e', hq'⟩ := HT.out.seven j hj
    obtain ⟨e6, e7, -⟩ := Addr.mk.inj (Option.some.inj e')
    obtain ⟨_, _, q2, _⟩ := hq' W hW
    rw [e6, e7]
    exact q2
  have HCD : Hid (cal M T a = if (T.getD a ndd).nd then match fs M (T.getD a ndd).nm with | some k => kdf T a (M.getD k paz).cl | none => none else none) := rfl
  obtain ⟨y, hy⟩ : ∃ y, T.getD a ndd = y := ⟨_, rfl⟩
  rw [hy] at HQ HCD
  obtain ⟨-, q1⟩ := HQ.out W1 HB1.out
  have d1 : (a : Int) < (n : Int) := by omega
  have d2 : a < n := by omega
  have d3 : (0 : Int) ≤ (a : Int) := by omega
  clear hFF hm ht hml hs hf ha hkey hmm hnf hnn HH1 hq hy
  obtain ⟨nd, hnd⟩ : ∃ nd, y.nd = nd := ⟨_, rfl⟩
  rw [hnd] at q1 HCD
  clear hnd
  go_enter Try.func25, Try.ntmps25
  go_upto_region 1 with fail
  rw [← hW1]
  try rw [hlb]
  clear hW1 hlb
  cases nd with
  | false =>
    have HE : Hid (cal M T a = none) := HCD.out
    go_wp2_with fail
    go_ret
    exact ⟨by rw [HE.out]; rfl, HB1.out⟩
  | true =>
    have HCE : Hid (cal M T a = match fs M y.nm with | some k => kdf T a (M.getD k paz).cl | none => none) := HCD.out
    clear HCD
    go_upto_region 4 with fail
    clear q1
    go_loopg [7] m (fun gm v7 wr => ∃ i : Nat, v7 = .int .i64 (i : Int) ∧ Hid (i ≤ m ∧ gm = m - i) ∧ Hid (∀ j, j < i → (M.getD j paz).nm ≠ y.nm) ∧ Hid (Below W1.heap.size W1 wr))
    case atStart => exact ⟨0, rfl, ⟨Nat.zero_le _, rfl⟩, (fun j hj => by omega), Below.refl _ _⟩
    case round =>
      obtain ⟨i, rfl, HI, HJ, HB⟩ := hrel
      obtain ⟨w2, hw2⟩ : ∃ w2, w2 = wr := ⟨_, rfl⟩
      rw [← hw2] at HB ⊢
      clear hw2
      have c10 := HC10.out w2 HB.out
      have HBW : Hid (Below w.heap.size w w2) := below_trans HB1.out HB.out
      by_cases hi : i < m
      · have e1 : decide ((i : Int) < (m : Int)) = true := by rw [decide_eq_true_eq]; omega
        have e2 : decide (i < m) = true := by rw [decide_eq_true_eq]; omega
        have b1 : (i : Int) < (m : Int) := by omega
        have b2 : i < m := hi
        have b3 : (0 : Int) ≤ (i : Int) := by omega
        have HIL : Hid (i < m ∧ i < M.length) := ⟨hi, by rw [HN.out.1]; exact hi⟩
        have hwi := w64n i (by have := HN.out; omega)
        have HWI : Hid (IntKind.i64.wrap ((i : Int) + 1) = (i : Int) + 1) := by rw [hwi]; rfl
        obtain ⟨mg, mo, rfl, hmc⟩ := HM.out.two i HIL.out.2
        have HMC : Hid (∀ W, Below w.heap.size w W → W.cell? ⟨mg, mo + i * 2, none⟩ = some (.string (M.getD i paz).nm) ∧ W.cell? ⟨mg, mo + i * 2 + 1, none⟩ = some (.string (M.getD i paz).cl)) := hmc
        obtain ⟨x, hx⟩ : ∃ x, M.getD i paz = x := ⟨_, rfl⟩
        have HXX : Hid (M.getD i paz = x) := hx
        rw [hx] at HMC
        obtain ⟨m0, -⟩ := HMC.out w2 HBW.out
        obtain ⟨q0, -⟩ := HQ.out w2 HBW.out
        clear hi hmc hx
        by_cases hnm : x.nm = y.nm
        · have HFS : Hid (fs M y.nm = some i) := fs_first i HIL.out.2 (by rw [HXX.out]; exact hnm) HJ.out
          have HCK : Hid (cal M T a = kdf T a x.cl) := by show _ = _; rw [HCE.out, HFS.out]; show kdf T a (M.getD i paz).cl = _; rw [HXX.out]
          have f1 : (x.nm.toList == y.nm.toList) = true := by rw [str_eq]; exact decide_eq_true hnm
          have f2 : (x.nm.toList != y.nm.toList) = false := by unfold bne; rw [f1]; rfl
          rw [hnm] at m0
          clear hnm HFS
          go_upto_region 6 with fail
          go_quiet (fail)
          have HB9 : Hid (Below w2.heap.size w2 (w2.drewN nq)) := below_drewN (Below.refl _ _) _
          generalize w2.drewN nq = w3 at HB9 ⊢
          clear f1 f2 m0 q0 c10
          have HBW3 : Hid (Below w.heap.size w w3) := below_trans HBW.out HB9.out
          have HKI : Hid _ := HKD.out w3 HBW3.out
          rw [kls_at HF.out.1 HA.out.1] at HKI
          obtain ⟨K, hK⟩ : ∃ K, kA (kds T) a = K := ⟨_, rfl⟩
          have HK : Hid (kA (kds T) a = K ∧ K ≤ n) := ⟨hK, by
            have h1 := HF.out.1.step a HA.out.2
            have h2 := HF.out.1.le (a + 1)
            rw [kds_len, HN.out.2.1] at h2
            have h3 : K ≤ rA (kds T) (a + 1) := by rw [← hK]; exact h1.2.2.1
            omega⟩
          rw [hK, kl_lenx] at HKI
          clear hK
          go_upto_region 9 with (go_at_call 39; refine Calls.mono HKI.out ?_; rintro e w4 ⟨kv, rfl, hkv, hb4⟩; obtain ⟨ka, kc, rfl⟩ := row_shape hkv; have HKO : Hid (Rw w4 (.slice ka K kc) K (iC (kl (kds T) a K))) := row_rw hkv (by decide); have HB4 : Hid (Below w3.heap.size w3 w4) := hb4; clear hkv hb4)
          have HBW4 : Hid (Below w.heap.size w w4) := below_trans HBW3.out HB4.out
          have HB14 : Hid (Below W1.heap.size W1 w4) := below_trans HB.out (below_trans HB9.out HB4.out)
          go_loopg [9] K (fun gm v9 wr => ∃ j : Nat, v9 = .int .i64 (j : Int) ∧ Hid (j ≤ K ∧ gm = K - j) ∧ Hid (∀ k, k < j → (T.getD (wA (kds T) (a + 1) k) ndd).fd ≠ x.cl) ∧ Hid (Below w4.heap.size w4 wr))
          case atStart => exact ⟨0, rfl, ⟨Nat.zero_le _, rfl⟩, (fun k hk => by omega), Below.refl _ _⟩
          case round =>
            obtain ⟨j, rfl, HJ2, HJN, HB5⟩ := hrel
            obtain ⟨w5, hw5⟩ : ∃ w5, w5 = wr := ⟨_, rfl⟩
            rw [← hw5] at HB5 ⊢
            clear hw5
            have HBW5 : Hid (Below w.heap.size w w5) := below_trans HBW4.out HB5.out
            have HB15 : Hid (Below W1.heap.size W1 w5) := below_trans HB14.out HB5.out
            by_cases hj : j < K
            · have g1 : decide ((j : Int) < (K : Int)) = true := by rw [decide_eq_true_eq]; omega
              have g2 : decide (j < K) = true := by rw [decide_eq_true_eq]; omega
              have g3 : (j : Int) < (K : Int) := by omega
              have g4 : j < K := hj
              have g5 : (0 : Int) ≤ (j : Int) := by omega
              have HJL : Hid (j < K) := hj
              have hwj := w64n j (by have := HK.out; have := HN.out; omega)
              have HWJ : Hid (IntKind.i64.wrap ((j : Int) + 1) = (j : Int) + 1) := by rw [hwj]; rfl
              obtain ⟨kg, ko, kcap, ek, hkc⟩ := HKO.out.place (by omega)
              obtain ⟨ek4, -, -⟩ := Value.slice.inj ek
              subst ek4
              have hch := Ch.in HF.out.1 (show Ch (kds T) a j _ from ⟨HA.out.2, by rw [HK.out.1]; exact hj, rfl⟩)
              rw [kds_len] at hch
              have hkj := hkc j _ (iC_get _ j (by rw [kl_lenx]; exact hj))
              rw [kl_getx _ _ _ _ hj] at hkj
              obtain ⟨z, hz⟩ : ∃ z, wA (kds T) (a + 1) j = z := ⟨_, rfl⟩
              have HZZ : Hid (wA (kds T) (a + 1) j = z) := hz
              rw [hz] at hkj hch
              have HKC : Hid (∀ W, Below w4.heap.size w4 W → W.cell? ⟨kg, ko + j, none⟩ = some (.int .i64 (z : Int))) := fun W hW => below_cell hW hkj
              have HZL : Hid (z < T.length ∧ z < n) := ⟨hch.2.1, by have := HN.out.2.1; have := hch.2.1; omega⟩
              have k0 := HKC.out w5 HB5.out
              have t2 := HFD.out w5 HBW5.out z HZL.out.1
              obtain ⟨-, m1⟩ := HMC.out w5 HBW5.out
              have c10 := HC10.out w5 HB15.out
              obtain ⟨fd, hfd⟩ : ∃ fd, (T.getD z ndd).fd = fd := ⟨_, rfl⟩
              rw [hfd] at t2
              have h1z : (z : Int) < (n : Int) := by have := HZL.out; omega
              have h2z : z < n := HZL.out.2
              have h3z : (0 : Int) ≤ (z : Int) := by omega
              have HFE : Hid ((T.getD (wA (kds T) (a + 1) j) ndd).fd = fd) := by show _ = _; rw [HZZ.out]; exact hfd
              clear hj ek hkc hch hkj hz hfd
              by_cases hc : fd = x.cl
              · have f1 : (fd.toList == x.cl.toList) = true := by rw [str_eq]; exact decide_eq_true hc
                have HE : Hid (cal M T a = some z) := by
                  show _ = _
                  rw [HCK.out, ← HZZ.out]
                  exact kdf_hit j (by rw [HK.out.1]; exact HJL.out) (by rw [HFE.out]; exact hc) HJN.out
                clear hc
                go_upto_region 11 with fail
                go_quiet (fail)
                have HBA : Hid (Below w5.heap.size w5 (w5.drewN nq)) := below_drewN (Below.refl _ _) _
                generalize w5.drewN nq = w6 at HBA ⊢
                clear f1 k0 t2 m1 c10
                have k0 := HKC.out w6 (below_trans HB5.out HBA.out)
                go_wp2_with fail
                go_ret
                exact ⟨by rw [HE.out]; rfl, below_trans HBW5.out HBA.out⟩
              · have f1 : (fd.toList == x.cl.toList) = false := by rw [str_eq]; exact decide_eq_false hc
                have HNX : Hid (∀ k, k < j + 1 → (T.getD (wA (kds T) (a + 1) k) ndd).fd ≠ x.cl) := fun k hk => by
                  rcases Nat.lt_or_ge k j with h9 | h9
                  · exact HJN.out k h9
                  · have : k = j := by omega
                    rw [this, HFE.out]; exact hc
                clear hc
                go_upto_region 11 with fail
                go_quiet (fail)
                have HBA : Hid (Below w5.heap.size w5 (w5.drewN nq)) := below_drewN (Below.refl _ _) _
                generalize w5.drewN nq = w6 at HBA ⊢
                clear f1 k0 t2 m1 c10
                have hwj2 := HWJ.out
                go_wp2_with fail
                go_roundg (K - (j + 1))
                case measure => have := HJ2.out; have := HJL.out; omega
                case rel => exact ⟨j + 1, by simp, ⟨HJL.out, rfl⟩, HNX, below_trans HB5.out HBA.out⟩
            · have g1 : decide ((j : Int) < (K : Int)) = false := by rw [decide_eq_false_iff_not]; omega
              have g2 : decide (j < K) = false := by rw [decide_eq_false_iff_not]; omega
              have HE : Hid (cal M T a = none) := by
                show _ = _
                rw [HCK.out]
                exact kdf_none (fun k hk => HJN.out k (by rw [HK.out.1] at hk; omega))
              clear hj
              go_wp2_with fail
              go_ret
              exact ⟨by rw [HE.out]; rfl, HBW5.out⟩
        · have f1 : (x.nm.toList == y.nm.toList) = false := by rw [str_eq]; exact decide_eq_false hnm
          have f2 : (x.nm.toList != y.nm.toList) = true := by unfold bne; rw [f1]; rfl
          have HNX : Hid (∀ k, k < i + 1 → (M.getD k paz).nm ≠ y.nm) := fun k hk => by
            rcases Nat.lt_or_ge k i with h9 | h9
            · exact HJ.out k h9
            · have : k = i := by omega
              rw [this, HXX.out]; exact hnm
          clear hnm
          go_upto_region 6 with fail
          go_quiet (fail)
          have HB9 : Hid (Below w2.heap.size w2 (w2.drewN nq)) := below_drewN (Below.refl _ _) _
          generalize w2.drewN nq = w3 at HB9 ⊢
          clear f1 f2 m0 q0 c10
          have hwi2 := HWI.out
          go_wp2_with fail
          go_roundg (m - (i + 1))
          case measure => have := HI.out; have := HIL.out; omega
          case rel => exact ⟨i + 1, by simp, ⟨HIL.out.1, rfl⟩, HNX, below_trans HB.out HB9.out⟩
      · have e1 : decide ((i : Int) < (m : Int)) = false := by rw [decide_eq_false_iff_not]; omega
        have e2 : decide (i < m) = false := by rw [decide_eq_false_iff_not]; omega
        have HE : Hid (cal M T a = none) := by
          show _ = _
          rw [HCE.out, fs_nope (fun j hj => HJ.out j (by rw [HN.out.1] at hj; omega))]
        clear hi
        go_wp2_with fail
        go_ret
        exact ⟨by rw [HE.out]; rfl, HBW.out⟩
end Go.Proofs.Yticheeacbajeeaa
