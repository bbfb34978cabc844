import Derived.Test.YtcfmpmhdjkchjabThf
namespace Go.Proofs.Ytcfmpmhdjkchjab
open Go.RowKit Go.Maps

theorem flat_one_mem (xs : List It) (h : ∀ x ∈ xs, x.v.oneCell' = true) : ∀ u ∈ flat itf xs, u.oneCell' = true := by
  induction xs with
  | nil => intro u hu; cases hu
  | cons x xs ih =>
    intro u hu
    rcases List.mem_append.1 (show u ∈ itf x ++ flat itf xs from hu) with h1 | h1
    · exact itf_one x (h x (List.mem_cons_self ..)) u h1
    · exact ih (fun y hy => h y (List.mem_cons_of_mem _ hy)) u h1
theorem rforest_any0 {v : Value} {t : List Nd} (hs : t.length * 72 + 4096 ≤ 140737488355328) (w : World) (h : Ns w v t) :
    Calls Try.prog 21 #[v] w fun e w' => ∃ ad k cp bb, e = .returned (.tuple #[.slice ad k cp, .bool bb]) ∧ ((rt (kds t) = some k ∧ FrM (fun q => w.heap.size ≤ q) w' t (.slice ad k cp) 0 k) ∨ (rt (kds t) = none ∧ ad = none ∧ k = 0 ∧ cp = 0)) ∧ bb = (rt (kds t)).isSome ∧ Below w.heap.size w w' := by
  refine (forest_any hs w h).mono ?_
  rintro e w' ⟨r, rfl, hr, hb⟩
  unfold Fkr at hr
  split at hr
  · next k hk =>
    obtain ⟨ad, cp, fs, rfl, h1, h2, h3⟩ := hr
    exact ⟨ad, k, cp, true, rfl, Or.inl ⟨hk, fs, h1, h2, h3⟩, by rw [hk]; rfl, hb⟩
  · next hk =>
    subst hr
    exact ⟨none, 0, 0, false, rfl, Or.inr ⟨hk, rfl, rfl, rfl⟩, by rw [hk]; rfl, hb⟩
set_option maxRecDepth 100000 in
set_option maxHeartbeats 16000000 in
theorem rreduce_any {v0 v1 v2 vk ve : Value} {Te : List Td} {Sy : List Sd} {P : List Pd} {L : List (Value × List Nd)} {es : List Int} (u : Nat → Value) (z : Int) (w : World) (hg : Gx w v0 v1 v2 Te Sy P) (hgs : Gs Te Sy P) (hri : ∀ x ∈ P, ∀ r ∈ x.2.2, r.1 ≤ 9223372036854775807) (hk : Kr w vk L) (he : Is w ve es) (hsz0 : rom (L.map Prod.snd) ≤ 1073741824) (hsq : ∀ x ∈ L, x.2.length ≤ 1048576) :
    Calls Try.prog 12 #[lgv u v0 v1 v2, .int .i64 z, vk, ve] w fun e w' => ∃ v', e = .returned v' ∧ w'.ownsRow w.heap.size 65 7 v' (rdc Te Sy P z (L.map Prod.snd) es).length (flat nf (rdc Te Sy P z (L.map Prod.snd) es)) ∧ Below w.heap.size w w' := by
  obtain ⟨iT, hiT, hx0, hx1, hx2⟩ := info_parts infoTr
  have hsz : rom (L.map Prod.snd) * 72 + 4096 ≤ 140737488355328 := by omega
  have HSR : Hid (rom (L.map Prod.snd) ≤ 1073741824) := hsz0
  have HSQ : Hid (∀ x ∈ L, x.2.length ≤ 1048576) := hsq
  have HG : Hid (Gx w v0 v1 v2 Te Sy P) := hg
  have HGS : Hid (Gs Te Sy P) := hgs
  have HRI : Hid (∀ x ∈ P, ∀ r ∈ x.2.2, r.1 ≤ 9223372036854775807) := hri
  have HSZ : Hid (rom (L.map Prod.snd) * 72 + 4096 ≤ 140737488355328) := hsz
  have HK : Hid (Kr w vk L) := hk
  have HE : Hid (Is w ve es) := he
  obtain ⟨a0, c0, a1, c1, a2, c2, rfl, rfl, rfl⟩ := hg.form
  obtain ⟨ka, kc, rfl⟩ := hk.t.form
  obtain ⟨ea, ec, rfl⟩ := Rw.form he
  clear hg hgs hri hk he hsz hsz0 hsq
  have HSM : Hid (∀ x ∈ L, Sm x.2) := fun x hx => by
    have h1 := rom_mem (L.map Prod.snd) x.2 (List.mem_map_of_mem hx)
    have h2 := HSZ.out
    show _ ≤ _
    omega
  obtain ⟨ks, hks⟩ : ∃ ks, L.map Prod.snd = ks := ⟨_, rfl⟩
  have HKS : Hid (L.map Prod.snd = ks) := hks
  rw [hks] at HSZ HSR ⊢
  clear hks
  obtain ⟨n0, hn0⟩ : ∃ n, Te.length = n := ⟨_, rfl⟩
  obtain ⟨n1, hn1⟩ : ∃ n, Sy.length = n := ⟨_, rfl⟩
  obtain ⟨n2, hn2⟩ : ∃ n, P.length = n := ⟨_, rfl⟩
  obtain ⟨nk, hnk⟩ : ∃ n, L.length = n := ⟨_, rfl⟩
  obtain ⟨ne, hne⟩ : ∃ ne, es.length = ne := ⟨_, rfl⟩
  have HN2 : Hid (P.length = n2) := hn2
  have HNK : Hid (L.length = nk ∧ ks.length = nk) := ⟨hnk, by rw [← HKS.out, List.length_map]; exact hnk⟩
  have HNE : Hid (es.length = ne) := hne
  have HNL0 : Hid (Te.length = n0 ∧ Sy.length = n1) := ⟨hn0, hn1⟩
  have HG0 : Hid (Gx w (.slice a0 n0 c0) (.slice a1 n1 c1) (.slice a2 n2 c2) Te Sy P) := by have h7 := HG.out; rw [hn0, hn1, hn2] at h7; exact h7
  rw [hn0, hn1, hn2] at HG ⊢
  rw [hnk] at HK ⊢
  rw [hne] at HE ⊢
  clear hn0 hn1 hn2 hnk hne
  unfold lgv
  by_cases h0 : z < 0
  · have e1 : decide (z < 0) = true := by rw [decide_eq_true_eq]; exact h0
    have HR : Hid (rdc Te Sy P z ks es = []) := rdc_no (by unfold rok; rw [show decide (0 ≤ z) = false by rw [decide_eq_false_iff_not]; omega]; rfl)
    clear h0
    go_enter Try.func12, Try.ntmps12
    go_wp2_with fail
    go_ret
    rw [HR.out]
    exact ⟨_, rfl, World.ownsRow_nil _ _ _ _, bel_up _ _⟩
  · obtain ⟨p, rfl⟩ : ∃ p : Nat, z = (p : Int) := ⟨z.toNat, by omega⟩
    have e1 : decide ((p : Int) < 0) = false := by rw [decide_eq_false_iff_not]; omega
    clear h0
    by_cases h1 : p < n2
    · have e2 : decide ((n2 : Int) ≤ (p : Int)) = false := by rw [decide_eq_false_iff_not]; omega
      have e3 : decide (n2 ≤ p) = false := by rw [decide_eq_false_iff_not]; omega
      have e4 : (p : Int) < (n2 : Int) := by omega
      have hpl : p < P.length := by rw [HN2.out]; exact h1
      obtain ⟨g, o, rfl, q0, q1⟩ := HG.out.prod p hpl
      have hmem := getD_mem P pfd p hpl
      have hrw := HG.out.r _ hmem
      have HRS : Hid (∀ r ∈ (P.getD p pfd).2.2, r.1 ≤ 9223372036854775807) := HRI.out _ hmem
      have HRK : Hid (rok P (p : Int) ks es = ((decide (nk = (P.getD p pfd).2.2.length) && decide (ne = (P.getD p pfd).2.2.length + 1)) && afo ks)) := by
        show _ = _
        unfold rok
        rw [show decide ((0 : Int) ≤ (p : Int)) = true by rw [decide_eq_true_eq]; omega, show decide ((p : Int) < (P.length : Int)) = true by rw [decide_eq_true_eq]; omega, HNK.out.2, HNE.out]; rfl
      have HRD : Hid (rok P (p : Int) ks es = true → rdc Te Sy P (p : Int) ks es = red Te Sy (P.getD p pfd).1 (P.getD p pfd).2.2 ks es) := fun h => by unfold rdc; rw [if_pos h]; rfl
      have HPR : Hid ((P.getD p pfd).2.2.length * 40 + 4096 ≤ 140737488355328) := HGS.out.r _ hmem
      obtain ⟨px, hpx⟩ : ∃ px, P.getD p pfd = px := ⟨_, rfl⟩
      rw [hpx] at q0 q1 hrw HRS HRK HRD HPR
      obtain ⟨lhs, vr, rs⟩ := px
      dsimp only at q0 q1
      have HRR : Hid (Rw w vr rs.length (flat rf rs)) := hrw
      obtain ⟨ra, rc, hvr⟩ := HRR.out.form
      subst hvr
      have HRS2 : Hid (∀ r ∈ rs, r.1 ≤ 9223372036854775807) := HRS.out
      have HRK2 : Hid (rok P (p : Int) ks es = ((decide (nk = rs.length) && decide (ne = rs.length + 1)) && afo ks)) := HRK.out
      have HRD2 : Hid (rok P (p : Int) ks es = true → rdc Te Sy P (p : Int) ks es = red Te Sy lhs rs ks es) := HRD.out
      have HPR2 : Hid (rs.length * 40 + 4096 ≤ 140737488355328) := HPR.out
      clear hpx hmem hrw HRS HRK HRD HPR hpl h1
      obtain ⟨nr, hnr⟩ : ∃ n, rs.length = n := ⟨_, rfl⟩
      have HNR : Hid (rs.length = nr) := hnr
      have HRR2 : Hid (Rw w (.slice ra nr rc) rs.length (flat rf rs)) := by have h7 := HRR.out; rw [hnr] at h7 ⊢; exact h7
      rw [hnr] at HRR HRK2 HPR2 q1
      clear hnr
      have hwr := w64n nr (by have := HPR2.out; omega)
      obtain ⟨W1, hW1⟩ : ∃ W1, W1 = w.alloc (.cells #[u 0, u 1, .slice a0 n0 c0, .slice a1 n1 c1, .slice (some ⟨g, o, none⟩) n2 c2, u 5, u 6, u 7, u 8, u 9, u 10, u 11] 38) := ⟨_, rfl⟩
      have HB1 : Hid (Below w.heap.size w W1) := by rw [hW1]; exact bel_up _ _
      have HX1 : Hid (W1.heap[w.heap.size]? = some (.cells #[u 0, u 1, .slice a0 n0 c0, .slice a1 n1 c1, .slice (some ⟨g, o, none⟩) n2 c2, u 5, u 6, u 7, u 8, u 9, u 10, u 11] 38 (0, 0))) := by rw [hW1]; exact heap_new _ _
      have x2 := rcell HX1.out 4 _ rfl
      have q0 := below_cell HB1.out q0
      have q1 := below_cell HB1.out q1
      go_enter Try.func12, Try.ntmps12
      go_upto_region 1 with fail
      rw [← hW1]
      clear hW1
      obtain ⟨lb, hlb⟩ : ∃ lb, w.heap.size = lb := ⟨_, rfl⟩
      rw [hlb] at HX1 x2 ⊢
      clear hlb
      obtain ⟨W2, hW2⟩ : ∃ W2, W2 = W1.alloc (.cells #[.int .i64 lhs, .slice ra nr rc] 60) := ⟨_, rfl⟩
      have HB2 : Hid (Below w.heap.size w W2) := by rw [hW2]; exact below_trans HB1.out (bel_up _ _)
      have HY2 : Hid (W2.heap[W1.heap.size]? = some (.cells #[.int .i64 lhs, .slice ra nr rc] 60 (0, 0))) := by rw [hW2]; exact heap_new _ _
      have HX2 : Hid (W2.heap[lb]? = some (.cells #[u 0, u 1, .slice a0 n0 c0, .slice a1 n1 c1, .slice (some ⟨g, o, none⟩) n2 c2, u 5, u 6, u 7, u 8, u 9, u 10, u 11] 38 (0, 0))) := by rw [hW2]; exact ((bel_up W1 _).block lb (lt_of_heap HX1.out)).trans HX1.out
      go_upto_region 4 with fail
      rw [← hW2]
      clear hW2 x2 q0 q1
      obtain ⟨pb, hpb⟩ : ∃ pb, W1.heap.size = pb := ⟨_, rfl⟩
      rw [hpb] at HY2 ⊢
      clear hpb
      have y0 := rcell HY2.out 0 _ rfl
      have y1 := rcell HY2.out 1 _ rfl
      have l0 := rcell HX2.out 2 _ rfl
      have l1 := rcell HX2.out 3 _ rfl
      have l2 := rcell HX2.out 4 _ rfl
      obtain ⟨nr1, hnr1⟩ : ∃ n, nr + 1 = n := ⟨_, rfl⟩
      rw [hnr1] at hwr HRK2
      have HN1 : Hid (nr + 1 = nr1) := hnr1
      clear hnr1
      by_cases hA : nk = nr
      · have f1 : ((nk : Int) != (nr : Int)) = false := by rw [hA]; simp
        by_cases hB : ne = nr1
        · have f2 : ((ne : Int) != (nr1 : Int)) = false := by rw [hB]; simp
          have HNN : Hid (nk = nr ∧ ne = nr + 1) := ⟨hA, by rw [hB]; exact HN1.out.symm⟩
          clear hA hB
          go_upto_region 8 with fail
          clear f1 f2 y0 y1 l0 l1 l2
          obtain ⟨B2, hB2⟩ : ∃ B2, W2.heap.size = B2 := ⟨_, rfl⟩
          have HBB : Hid (W2.heap.size = B2) := hB2
          clear hB2
          have HGL : Hid (Te.length = n0 ∧ Sy.length = n1) := HNL0
          go_loopg [10, 11] nr (fun gm v10 v11 wr => ∃ (i m : Nat) (xs : List It), v11 = .int .i64 (i : Int) ∧ Hid (i ≤ nr ∧ gm = nr - i) ∧ Hid (xs.length = m) ∧ Hid (wr.ownsRow B2 75 9 v10 m (flat itf xs)) ∧ Hid (∀ x ∈ xs, LM (fun q => some q ≠ v10.ownBlock) wr x.v x.n x.L) ∧ Hid (xs.flatMap itl = pts Te Sy rs ks es i ∧ ∀ j, j < i → Fo (kds (ks.getD j []))) ∧ Hid (Below W2.heap.size W2 wr))
          case atStart => exact ⟨0, 0, [], rfl, ⟨Nat.zero_le _, rfl⟩, rfl, World.ownsRow_nil _ _ _ _, (fun x hx => by cases hx), ⟨rfl, fun j hj => by omega⟩, Below.refl _ _⟩
          case round =>
            obtain ⟨i, m, xs, rfl, HI, HXL, HO, HLM, HPT, HBW⟩ := hrel
            obtain ⟨oa, oc, hov⟩ := row_shape HO.out
            subst hov
            have HWW : Hid (Below w.heap.size w wr) := below_trans HB2.out HBW.out
            have HXW : Hid (wr.heap[lb]? = some (.cells #[u 0, u 1, .slice a0 n0 c0, .slice a1 n1 c1, .slice (some ⟨g, o, none⟩) n2 c2, u 5, u 6, u 7, u 8, u 9, u 10, u 11] 38 (0, 0))) := by rw [HBW.out.block lb (lt_of_heap HX2.out)]; exact HX2.out
            have HYW : Hid (wr.heap[pb]? = some (.cells #[.int .i64 lhs, .slice ra nr rc] 60 (0, 0))) := by rw [HBW.out.block pb (lt_of_heap HY2.out)]; exact HY2.out
            have HML : Hid (m ≤ 1073741824) := by
              have h1 := it_le xs
              rw [HPT.out.1] at h1
              have h2 := pts_len Te Sy rs ks es i (by have := HI.out; have := HNN.out; have := HNK.out; omega)
              have h3 := rom_take ks i
              have h4 := HSR.out; have h5 := HXL.out
              show _ ≤ _; omega
            have y1 := rcell HYW.out 1 _ rfl
            by_cases hi : i < nr
            · have e1' : decide ((i : Int) < (nr : Int)) = true := by rw [decide_eq_true_eq]; omega
              have e2' : decide (i < nr) = true := by rw [decide_eq_true_eq]; omega
              have HIM : Hid (i < nr) := hi
              have b1 : (i : Int) < (nk : Int) := by have := HNN.out; omega
              have b2 : i < nk := by have := HNN.out; omega
              have hwi := w64n i (by have := HPR2.out; omega)
              obtain ⟨kg, ko, kb, kcc, rfl, hkv, hkc, hkn⟩ := (HK.out.up HWW.out).at i (by rw [HNK.out.1]; exact b2)
              have hmemL := getD_mem L krd i (by rw [HNK.out.1]; exact b2)
              have hksg : ks.getD i [] = (L.getD i krd).2 := by rw [← HKS.out]; exact snd_getD L i
              have hsm1 := HSM.out _ hmemL
              have hsq1 := HSQ.out _ hmemL
              obtain ⟨t, ht⟩ : ∃ t, (L.getD i krd).2 = t := ⟨_, rfl⟩
              rw [ht] at hkc hkn hksg hsm1 hsq1
              have HTG : Hid (ks.getD i [] = t ∧ i < ks.length) := ⟨hksg, by rw [HNK.out.2]; exact b2⟩
              have HTS : Hid (t.length ≤ 1048576) := hsq1
              have HFO := rforest_any0 hsm1 wr hkn
              have HFF : Hid _ := HFO
              clear hkv hkn hmemL hksg hsm1 hsq1 ht HFO hi
              go_upto_region 11 with (go_at_call 21; refine Calls.mono HFF.out ?_; rintro ee W4 ⟨ad, k, cp, bb, rfl, hmf, hbb, hb4⟩; have HMF : Hid ((rt (kds t) = some k ∧ FrM (fun q => wr.heap.size ≤ q) W4 t (.slice ad k cp) 0 k) ∨ (rt (kds t) = none ∧ ad = none ∧ k = 0 ∧ cp = 0)) := hmf; have HBT : Hid (bb = (rt (kds t)).isSome) := hbb; have HB4 : Hid (Below wr.heap.size wr W4) := hb4; clear hmf hbb hb4)
              clear hkc
              cases bb with
              | false =>
                have HRT : Hid (rdc Te Sy P (p : Int) ks es = []) := by
                  refine rdc_no ?_
                  have h7 : afo ks = false := all_no [] HTG.out.2 (by rw [HTG.out.1]; exact HBT.out.symm)
                  rw [HRK2.out, h7]; simp
                go_wp2_with fail
                go_ret
                rw [HRT.out]
                exact ⟨_, rfl, World.ownsRow_nil _ _ _ _, below_trans HWW.out HB4.out⟩
              | true =>
                obtain ⟨hrt, hfr⟩ : rt (kds t) = some k ∧ FrM (fun q => wr.heap.size ≤ q) W4 t (.slice ad k cp) 0 k := by
                  rcases HMF.out with h7 | ⟨h7, _⟩
                  · exact h7
                  · have h8 := HBT.out; rw [h7] at h8; cases h8
                have HFt : Hid (Fo (kds t)) := ⟨k, hrt⟩
                have HFM : Hid (FrM (fun q => wr.heap.size ≤ q) W4 t (.slice ad k cp) 0 (rA (kds t) 0)) := by rw [Fo.top hrt]; exact hfr
                clear hrt hfr HMF
                have HW4 : Hid (Below w.heap.size w W4) := below_trans HWW.out HB4.out
                have HX4 : Hid (W4.heap[lb]? = some (.cells #[u 0, u 1, .slice a0 n0 c0, .slice a1 n1 c1, .slice (some ⟨g, o, none⟩) n2 c2, u 5, u 6, u 7, u 8, u 9, u 10, u 11] 38 (0, 0))) := by rw [HB4.out.block lb (lt_of_heap HXW.out)]; exact HXW.out
                have HY4 : Hid (W4.heap[pb]? = some (.cells #[.int .i64 lhs, .slice ra nr rc] 60 (0, 0))) := by rw [HB4.out.block pb (lt_of_heap HYW.out)]; exact HYW.out
                obtain ⟨rg, ro, rfl, _⟩ := (HRR2.out).ref i (by rw [HNR.out]; exact HIM.out)
                obtain ⟨eg, eo, rfl, _⟩ := Is.at HE.out (i + 1) (by rw [HNE.out]; have := HNN.out; have := HIM.out; omega)
                have HRC : Hid (∀ W, Below w.heap.size w W → W.cell? ⟨rg, ro + i * 3, none⟩ = some (.int .i64 (rs.getD i rfd).1) ∧ W.cell? ⟨rg, ro + i * 3 + 1, none⟩ = some (.string (rs.getD i rfd).2.1) ∧ W.cell? ⟨rg, ro + i * 3 + 2, none⟩ = some (.string (rs.getD i rfd).2.2)) := fun W hb => by
                  obtain ⟨g', o', e9, h9⟩ := (Rw.up HRR2.out hb).ref i (by rw [HNR.out]; exact HIM.out)
                  cases e9; exact h9
                have HEC : Hid (∀ W, Below w.heap.size w W → W.cell? ⟨eg, eo + (i + 1), none⟩ = some (.int .i64 (es.getD (i + 1) 0))) := fun W hb => by
                  obtain ⟨g', o', e9, h9⟩ := Is.at (l := es) (Rw.up HE.out hb) (i + 1) (by rw [HNE.out]; have := HNN.out; have := HIM.out; omega)
                  cases e9; exact h9
                have HPS : Hid (pts Te Sy rs ks es (i + 1) = pts Te Sy rs ks es i ++ part Te Sy (rs.getD i rfd) t (es.getD (i + 1) 0)) := by show _ = _; rw [← HTG.out.1]; rfl
                obtain ⟨r, hr⟩ : ∃ r, rs.getD i rfd = r := ⟨_, rfl⟩
                obtain ⟨en, hen⟩ : ∃ en, es.getD (i + 1) 0 = en := ⟨_, rfl⟩
                rw [hr] at HRC HPS
                rw [hen] at HEC HPS
                clear hr hen y1
                have c1 : (i : Int) < (nr : Int) := by have := HIM.out; omega
                have c2 : ((i + 1 : Nat) : Int) < (ne : Int) := by have := HIM.out; have := HNN.out; omega
                have c3 : (i : Int) + 1 < (ne : Int) := by omega
                have c4 : (0 : Int) ≤ (i : Int) + 1 := by omega
                go_upto_region 13 with fail
                refine wp_region_noPanic ?_
                refine wp_region_held_drew (S := fun W => Below W4.heap.size W4 W) (by kernel_rfl) (Below.drew (Below.refl _ _)) (fun hHeld => ?_)
                obtain ⟨WD, hWD⟩ : ∃ WD, W4.drew = WD := ⟨_, rfl⟩
                have HD : Hid (Below W4.heap.size W4 WD) := by rw [← hWD]; exact Below.drew (Below.refl _ _)
                rw [hWD] at hHeld ⊢
                clear hWD
                refine wpAnyH_take (i := 0) (oi := { dst := _, op := _, type := _, pos := _, after := _, guard := _ }) (v := ?_) rfl (by kernel_rfl) (by kernel_rfl) (by kernel_rfl) (fun _ _ _ h => h) (Or.inl ⟨by rfl, ?_⟩) (by assumption) ?_
                rotate_left
                · intro W hSw
                  (try dsimp only at hSw)
                  go_simp
                  (try with_reducible rfl)
                try simp only [Act.put, List.setIfInBounds_toArray, List.set_cons_zero, List.set_cons_succ]
                refine wpAnyH_take (i := 1) (oi := { dst := _, op := _, type := _, pos := _, after := _, guard := _ }) (v := ?_) rfl (by kernel_rfl) (by kernel_rfl) (by kernel_rfl) (fun _ _ _ h => h) (Or.inl ⟨by rfl, ?_⟩) (by assumption) ?_
                rotate_left
                · intro W hSw
                  (try dsimp only at hSw)
                  have z0 := below_cell hSw (rcell HX4.out 2 _ rfl)
                  have z1 := below_cell hSw (rcell HX4.out 3 _ rfl)
                  have z2 := below_cell hSw (rcell HX4.out 4 _ rfl)
                  go_simp
                  (try with_reducible rfl)
                try simp only [Act.put, List.setIfInBounds_toArray, List.set_cons_zero, List.set_cons_succ]
                refine wpAnyH_take (i := 2) (oi := { dst := _, op := _, type := _, pos := _, after := _, guard := _ }) (v := ?_) rfl (by kernel_rfl) (by kernel_rfl) (by kernel_rfl) (fun _ _ _ h => h) (Or.inl ⟨by rfl, ?_⟩) (by assumption) ?_
                rotate_left
                · intro W hSw
                  (try dsimp only at hSw)
                  go_simp
                  (try with_reducible rfl)
                try simp only [Act.put, List.setIfInBounds_toArray, List.set_cons_zero, List.set_cons_succ]
                refine wpAnyH_take (i := 3) (oi := { dst := _, op := _, type := _, pos := _, after := _, guard := _ }) (v := ?_) rfl (by kernel_rfl) (by kernel_rfl) (by kernel_rfl) (fun _ _ _ h => h) (Or.inl ⟨by rfl, ?_⟩) (by assumption) ?_
                rotate_left
                · intro W hSw
                  (try dsimp only at hSw)
                  have z0 := below_cell hSw (rcell HY4.out 1 _ rfl)
                  go_simp
                  (try with_reducible rfl)
                try simp only [Act.put, List.setIfInBounds_toArray, List.set_cons_zero, List.set_cons_succ]
                refine wpAnyH_take (i := 4) (oi := { dst := _, op := _, type := _, pos := _, after := _, guard := _ }) (v := ?_) rfl (by kernel_rfl) (by kernel_rfl) (by kernel_rfl) (fun _ _ _ h => h) (Or.inl ⟨by rfl, ?_⟩) (by assumption) ?_
                rotate_left
                · intro W hSw
                  (try dsimp only at hSw)
                  go_simp
                  (try with_reducible rfl)
                try simp only [Act.put, List.setIfInBounds_toArray, List.set_cons_zero, List.set_cons_succ]
                refine wpAnyH_take (i := 5) (oi := { dst := _, op := _, type := _, pos := _, after := _, guard := _ }) (v := ?_) rfl (by kernel_rfl) (by kernel_rfl) (by kernel_rfl) (fun _ _ _ h => h) (Or.inl ⟨by rfl, ?_⟩) (by assumption) ?_
                rotate_left
                · intro W hSw
                  (try dsimp only at hSw)
                  go_simp
                  (try with_reducible rfl)
                try simp only [Act.put, List.setIfInBounds_toArray, List.set_cons_zero, List.set_cons_succ]
                refine wpAnyH_take (i := 6) (oi := { dst := _, op := _, type := _, pos := _, after := _, guard := _ }) (v := ?_) rfl (by kernel_rfl) (by kernel_rfl) (by kernel_rfl) (fun _ _ _ h => h) (Or.inl ⟨by rfl, ?_⟩) (by assumption) ?_
                rotate_left
                · intro W hSw
                  (try dsimp only at hSw)
                  obtain ⟨z0, z1, z2⟩ := HRC.out W (below_trans HW4.out hSw)
                  go_simp
                  (try with_reducible rfl)
                try simp only [Act.put, List.setIfInBounds_toArray, List.set_cons_zero, List.set_cons_succ]
                refine wpAnyH_take (i := 7) (oi := { dst := _, op := _, type := _, pos := _, after := _, guard := _ }) (v := ?_) rfl (by kernel_rfl) (by kernel_rfl) (by kernel_rfl) (fun _ _ _ h => h) (Or.inl ⟨by rfl, ?_⟩) (by assumption) ?_
                rotate_left
                · intro W hSw
                  (try dsimp only at hSw)
                  go_simp
                  (try with_reducible rfl)
                try simp only [Act.put, List.setIfInBounds_toArray, List.set_cons_zero, List.set_cons_succ]
                refine wpAnyH_take (i := 8) (oi := { dst := _, op := _, type := _, pos := _, after := _, guard := _ }) (v := ?_) rfl (by kernel_rfl) (by kernel_rfl) (by kernel_rfl) (fun _ _ _ h => h) (Or.inl ⟨by rfl, ?_⟩) (by assumption) ?_
                rotate_left
                · intro W hSw
                  (try dsimp only at hSw)
                  go_simp
                  (try with_reducible rfl)
                try simp only [Act.put, List.setIfInBounds_toArray, List.set_cons_zero, List.set_cons_succ]
                refine wpAnyH_take (i := 9) (oi := { dst := _, op := _, type := _, pos := _, after := _, guard := _ }) (v := ?_) rfl (by kernel_rfl) (by kernel_rfl) (by kernel_rfl) (fun _ _ _ h => h) (Or.inl ⟨by rfl, ?_⟩) (by assumption) ?_
                rotate_left
                · intro W hSw
                  (try dsimp only at hSw)
                  go_simp
                  (try with_reducible rfl)
                try simp only [Act.put, List.setIfInBounds_toArray, List.set_cons_zero, List.set_cons_succ]
                refine wpAnyH_take (i := 10) (oi := { dst := _, op := _, type := _, pos := _, after := _, guard := _ }) (v := ?_) rfl (by kernel_rfl) (by kernel_rfl) (by kernel_rfl) (fun _ _ _ h => h) (Or.inl ⟨by rfl, ?_⟩) (by assumption) ?_
                rotate_left
                · intro W hSw
                  (try dsimp only at hSw)
                  go_simp
                  (try with_reducible rfl)
                try simp only [Act.put, List.setIfInBounds_toArray, List.set_cons_zero, List.set_cons_succ]
                refine wpAnyH_take (i := 11) (oi := { dst := _, op := _, type := _, pos := _, after := _, guard := _ }) (v := ?_) rfl (by kernel_rfl) (by kernel_rfl) (by kernel_rfl) (fun _ _ _ h => h) (Or.inl ⟨by rfl, ?_⟩) (by assumption) ?_
                rotate_left
                · intro W hSw
                  (try dsimp only at hSw)
                  go_simp
                  (try with_reducible rfl)
                try simp only [Act.put, List.setIfInBounds_toArray, List.set_cons_zero, List.set_cons_succ]
                refine wpAnyH_take (i := 12) (oi := { dst := _, op := _, type := _, pos := _, after := _, guard := _ }) (v := ?_) rfl (by kernel_rfl) (by kernel_rfl) (by kernel_rfl) (fun _ _ _ h => h) (Or.inl ⟨by rfl, ?_⟩) (by assumption) ?_
                rotate_left
                · intro W hSw
                  (try dsimp only at hSw)
                  have z0 := HEC.out W (below_trans HW4.out hSw)
                  go_simp
                  (try with_reducible rfl)
                try simp only [Act.put, List.setIfInBounds_toArray, List.set_cons_zero, List.set_cons_succ]
                refine wpAnyH_ready (rs := [13]) (by kernel_rfl) (by simp) ?_
                refine AllReadyH.cons (o := { dst := _, op := _, type := _, pos := _, after := _, guard := _ }) rfl (fun K hK => ?_) AllReadyH.nil
                go_simp
                refine Calls.mono (rshown_any (Te := Te) (Sy := Sy) (P := P) r WD (by have h7 := (HG.out.up (below_trans HW4.out HD.out)); exact h7) HGS.out HFt.out HTS.out (HFM.out.keep HD.out.size (fun q hp hq => ⟨HD.out.block q hq, hp⟩)) en) ?_
                rintro ee W5 ⟨sv, ys, rfl, ho5, hl5, hp5, hb5⟩
                have HO5 : Hid (W5.ownsRow WD.heap.size 75 9 sv ys.length (flat itf ys)) := ho5
                have HL5 : Hid (∀ x ∈ ys, LM (fun q => wr.heap.size ≤ q) WD x.v x.n x.L) := hl5
                have HP5 : Hid (ys.flatMap itl = part Te Sy r t en) := hp5
                have HB5 : Hid (Below WD.heap.size WD W5) := hb5
                have HB45 : Hid (Below W4.heap.size W4 W5) := below_trans HD.out hb5
                obtain ⟨sa, sc, rfl⟩ := row_shape ho5
                clear ho5 hl5 hp5 hb5
                go_wp2_with fail
                refine hK.out _ _ ?_ (fun hHeld => ?_)
                · exact HB45.out
                clear hK K
                try simp only [Act.put, List.setIfInBounds_toArray, List.set_cons_zero, List.set_cons_succ]
                refine wpAnyH_take (i := 14) (oi := { dst := _, op := _, type := _, pos := _, after := _, guard := _ }) (v := ?_) rfl (by kernel_rfl) (by kernel_rfl) (by kernel_rfl) (fun _ _ _ h => h) (Or.inl ⟨by rfl, ?_⟩) (by assumption) ?_
                rotate_left
                · intro W hSw
                  (try dsimp only at hSw)
                  go_simp
                  (try with_reducible rfl)
                try simp only [Act.put, List.setIfInBounds_toArray, List.set_cons_zero, List.set_cons_succ]
                refine wpAnyH_done (by kernel_rfl) ?_ _
                clear hHeld
                refine NoPanic.normal ?_
                have HW5 : Hid (Below wr.heap.size wr W5) := below_trans HB4.out HB45.out
                have HOW : Hid (W5.ownsRow B2 75 9 (.slice oa m oc) m (flat itf xs)) := row_up HO.out HW5.out
                have HRY : Hid (Rw W5 (.slice sa ys.length sc) ys.length (flat itf ys)) := row_rw HO5.out (by decide)
                have HYO : Hid (∀ q ∈ flat itf ys, q.oneCell' = true) := flat_one_mem ys (fun x hx => by obtain ⟨a9, c9, e9⟩ := (HL5.out x hx).form; rw [e9]; rfl)
                have HYL : Hid (m + ys.length ≤ 1073741825 + 1048577) := by
                  have h1 := it_le ys
                  rw [HP5.out] at h1
                  have h2 := part_len Te Sy r t en
                  have h3 := HTS.out; have h4 := HML.out
                  show _ ≤ _; omega
                have HBZ : Hid (B2 ≤ W5.heap.size) := by have h7 := HBW.out.size; have h8 := HW5.out.size; have h9 := HBB.out; show _ ≤ _; omega
                go_wp2_with (at_builtin; refine wpList_join _ rfl _ _ 70 rfl B2 75 iT _ 9 104 Try.underlying70 hiT hx0 hx1 hx2 rfl (by decide) _ m (flat itf xs) rfl HOW.out _ ys.length (flat itf ys) rfl HRY.out (flat_len itf_len ys) HYO.out (by have := HYL.out; unfold maxLen; omega) (by have := HYL.out; omega) HBZ.out ?_; intro v6 w6 ho6 hg6 hn6; have HO6 : Hid (w6.ownsRow B2 75 9 v6 (m + ys.length) (flat itf (xs ++ ys))) := (by rw [flat_app]; exact ho6); have HG6 : Hid (W5.grownBy w6 (Value.ownBlock (.slice oa m oc))) := hg6; have HN6 : Hid (∀ q, v6.ownBlock = some q → Value.ownBlock (.slice oa m oc) = some q ∨ W5.heap.size ≤ q) := hn6; obtain ⟨qa, qc, rfl⟩ := row_shape ho6; clear ho6 hg6 hn6)
                have HLM6 : Hid (∀ x ∈ xs ++ ys, LM (fun q => some q ≠ Value.ownBlock (.slice qa (m + ys.length) qc)) w6 x.v x.n x.L) := fun x hx => by
                  have hnew : ∀ q, some q ≠ Value.ownBlock (.slice oa m oc) → q < W5.heap.size → some q ≠ Value.ownBlock (.slice qa (m + ys.length) qc) := fun q h1 h2 e => by
                    rcases HN6.out q e.symm with h3 | h3
                    · exact h1 h3.symm
                    · omega
                  rcases List.mem_append.1 hx with hx | hx
                  · refine ((HLM.out x hx).up HW5.out).keep HG6.out.size fun q hp hq => ⟨HG6.out.block q hq hp, hnew q hp hq⟩
                  · refine ((HL5.out x hx).up HB5.out).keep HG6.out.size fun q hp hq => ?_
                    have h1 : some q ≠ Value.ownBlock (.slice oa m oc) := fun e => by obtain ⟨_, cur9, hh9⟩ := row_tag HO.out q e.symm; have := lt_of_heap hh9; omega
                    exact ⟨HG6.out.block q hq h1, hnew q h1 hq⟩
                have HBW6 : Hid (Below W2.heap.size W2 w6) := (below_trans HBW.out HW5.out).grown HG6.out (by have := HBW.out.size; have := HW5.out.size; omega) (fun q hq => by have h7 := (row_tag HO.out q hq).1; have := HBB.out; omega)
                have HPT6 : Hid ((xs ++ ys).flatMap itl = pts Te Sy rs ks es (i + 1) ∧ ∀ j, j < i + 1 → Fo (kds (ks.getD j []))) := ⟨by rw [List.flatMap_append, HPT.out.1, HP5.out, HPS.out], fun j hj => by
                  rcases Nat.lt_or_ge j i with h7 | h7
                  · exact HPT.out.2 j h7
                  · have : j = i := by omega
                    subst this; rw [HTG.out.1]; exact HFt.out⟩
                go_roundg (nr - (i + 1))
                case measure => have := HI.out; have := HIM.out; omega
                case rel => exact ⟨i + 1, m + ys.length, xs ++ ys, by first | rfl | (rw [show (i : Int) + 1 = ((i + 1 : Nat) : Int) by omega]), ⟨HIM.out, rfl⟩, by rw [List.length_append, HXL.out]; exact rfl, HO6, HLM6, HPT6, HBW6⟩
            · have e1' : decide ((i : Int) < (nr : Int)) = false := by rw [decide_eq_false_iff_not]; omega
              have e2' : decide (i < nr) = false := by rw [decide_eq_false_iff_not]; omega
              have e3' : i = nr := by have := HI.out; omega
              subst e3'
              clear hi
              have HAF : Hid (afo ks = true) := by
                show List.all _ _ = true
                rw [List.all_eq_true]
                intro t ht
                obtain ⟨j, hj, e9⟩ := List.mem_iff_getElem.1 ht
                have h7 := HPT.out.2 j (by have := HNN.out; have := HNK.out; omega)
                rw [List.getD_eq_getElem?_getD, List.getElem?_eq_getElem hj, Option.getD_some, e9] at h7
                exact Option.isSome_iff_exists.2 h7
              have HRT : Hid (rdc Te Sy P (p : Int) ks es = red Te Sy lhs rs ks es) := HRD2.out (by rw [HRK2.out, HAF.out, HNN.out.1, HNN.out.2, HN1.out]; simp)
              have HRTs : Hid (∀ x ∈ xs, rt (kds x.L) = some x.n) := fun x hx => (HLM.out x hx).rt
              have HALL : Hid (LM (fun _ => True) wr (.slice oa m oc) m (pts Te Sy rs ks es i)) := by
                have h7 := LM.mk (P := fun _ => True) (W := wr) (.slice oa m oc) xs (by rw [HXL.out]; exact (row_rwp HO.out (by decide)).keep (s := 9) (by rw [flat_len itf_len, HXL.out]) (Nat.le_refl _) (fun q _ _ => ⟨rfl, trivial⟩)) (fun x hx => (HLM.out x hx).keep (Nat.le_refl _) (fun q _ _ => ⟨rfl, trivial⟩))
                rw [HXL.out, HPT.out.1] at h7
                exact h7
              have HPL : Hid ((pts Te Sy rs ks es i).length + 1 ≤ 1073741824) := by
                have h2 := pts_len Te Sy rs ks es i (by have := HNN.out; have := HNK.out; omega)
                have h3 := rom_take ks i
                have h4 := HSR.out
                show _ ≤ _; omega
              have HNRI : Hid (rs.length = i) := HNR.out
              have l1 := rcell HXW.out 3 _ rfl
              have y0 := rcell HYW.out 0 _ rfl
              have HNS : Hid (ish Sy lhs = false → rdc Te Sy P (p : Int) ks es = pts Te Sy rs ks es i) := fun hh => by rw [HRT.out]; unfold red; rw [HNRI.out, if_neg (by rw [hh]; decide)]
              have HYS : Hid (ish Sy lhs = true → rdc Te Sy P (p : Int) ks es = hed (Sy.getD lhs.toNat sdd).1 (pts Te Sy rs ks es i) (es.getD i 0) :: pts Te Sy rs ks es i) := fun hh => by rw [HRT.out]; unfold red; rw [HNRI.out, if_pos hh]
              have HLI : Hid (Calls Try.prog 24 #[.slice oa m oc] wr fun e w' => LgE (pts Te Sy rs ks es i) wr w' e) := list_gen HALL.out (by have := HPL.out; omega) wr (Below.refl _ _)
              by_cases h0 : lhs < 0
              · have g1 : decide (lhs ≥ 0) = false := by rw [decide_eq_false_iff_not]; omega
                have g2 : decide (0 ≤ lhs) = false := g1
                have HRE := HNS.out (by unfold ish; rw [show decide (0 ≤ lhs) = false from g1]; rfl)
                have HRQ : Hid _ := HRE
                clear HRE h0
                go_wp2_with (go_at_call 24; refine Calls.mono HLI.out ?_; rintro ee W7 ⟨v7, rfl, ho7, hb7⟩; have HO7 : Hid (W7.ownsRow wr.heap.size 65 7 v7 (pts Te Sy rs ks es i).length (flat nf (pts Te Sy rs ks es i))) := ho7; have HB7 : Hid (Below wr.heap.size wr W7) := hb7; obtain ⟨qa, qc, rfl⟩ := row_shape ho7; clear ho7 hb7)
                go_ret
                rw [HRQ.out]
                exact ⟨_, rfl, row_base HO7.out HWW.out.size, below_trans HWW.out HB7.out⟩
              · have g1 : decide (lhs ≥ 0) = true := by rw [decide_eq_true_eq]; omega
                have g2 : decide (0 ≤ lhs) = true := g1
                obtain ⟨j, rfl⟩ : ∃ j : Nat, lhs = (j : Int) := ⟨lhs.toNat, by omega⟩
                by_cases h1 : j < n1
                · have g3 : decide ((j : Int) < (n1 : Int)) = true := by rw [decide_eq_true_eq]; omega
                  have g4 : decide (j < n1) = true := by rw [decide_eq_true_eq]; omega
                  have g5 : (j : Int) < (n1 : Int) := by omega
                  have g6 : j < n1 := h1
                  obtain ⟨sg, so, rfl, _, _⟩ := HG0.out.sym j (by rw [HGL.out.2]; exact h1)
                  have HSC : Hid (∀ W, Below w.heap.size w W → W.cell? ⟨sg, so + j * 2, none⟩ = some (.string (Sy.getD j sdd).1) ∧ W.cell? ⟨sg, so + j * 2 + 1, none⟩ = some (.int .i64 (Sy.getD j sdd).2)) := fun W hb => by
                    obtain ⟨g', o', e9, h9⟩ := (HG0.out.up hb).sym j (by rw [HGL.out.2]; exact h1)
                    cases e9; exact h9
                  have hish : ish Sy (j : Int) = ((Sy.getD j sdd).2 == 1) := by
                    unfold ish
                    rw [HGL.out.2, show decide ((0 : Int) ≤ (j : Int)) = true by rw [decide_eq_true_eq]; omega, g3]
                    rfl
                  have HYS2 : Hid (ish Sy (j : Int) = true → rdc Te Sy P (p : Int) ks es = hed (Sy.getD j sdd).1 (pts Te Sy rs ks es i) (es.getD i 0) :: pts Te Sy rs ks es i) := HYS.out
                  obtain ⟨XN, hXN⟩ : ∃ XN, (Sy.getD j sdd).1 = XN := ⟨_, rfl⟩
                  obtain ⟨sk', hsk⟩ : ∃ sk', (Sy.getD j sdd).2 = sk' := ⟨_, rfl⟩
                  rw [hXN, hsk] at HSC
                  rw [hXN] at HYS2
                  rw [hsk] at hish
                  have HIS : Hid (ish Sy (j : Int) = (sk' == 1)) := hish
                  have s1 := (HSC.out wr HWW.out).2
                  clear hXN hsk hish h0 h1 HYS
                  by_cases h3 : sk' = 1
                  · subst h3
                    have HRQ : Hid (rdc Te Sy P (p : Int) ks es = hed XN (pts Te Sy rs ks es i) (es.getD i 0) :: pts Te Sy rs ks es i) := HYS2.out (by rw [HIS.out]; rfl)
                    have HEC : Hid (∃ eg eo, ea = some ⟨eg, eo, none⟩ ∧ ∀ W, Below w.heap.size w W → W.cell? ⟨eg, eo + i, none⟩ = some (.int .i64 (es.getD i 0))) := by
                      obtain ⟨eg, eo, e9, _⟩ := Is.at HE.out i (by rw [HNE.out]; have := HNN.out; omega)
                      refine ⟨eg, eo, e9, fun W hb => ?_⟩
                      obtain ⟨g', o', e8, h8⟩ := Is.at (l := es) (Rw.up HE.out hb) i (by rw [HNE.out]; have := HNN.out; omega)
                      rw [e9] at e8; cases e8; exact h8
                    obtain ⟨eg, eo, rfl, hec⟩ := HEC.out
                    obtain ⟨en, hen⟩ : ∃ en, es.getD i 0 = en := ⟨_, rfl⟩
                    rw [hen] at hec HRQ
                    have HEN : Hid (∀ W, Below w.heap.size w W → W.cell? ⟨eg, eo + i, none⟩ = some (.int .i64 en)) := hec
                    clear hen hec HEC HYS2 HIS HLI HNS
                    have c5 : (i : Int) < (ne : Int) := by have := HNN.out; omega
                    have c6 : (0 : Int) ≤ (i : Int) := by omega
                    have HXR : Hid (Rw wr (.slice oa m oc) xs.length (flat itf xs)) := by rw [HXL.out]; exact row_rw HO.out (by decide)
                    go_upto_region 16 with fail
                    clear l1 y0 y1 s1
                    refine wp_region_noPanic ?_
                    refine wp_region_held_drew (S := fun W => Below wr.heap.size wr W) (by kernel_rfl) (Below.drew (Below.refl _ _)) (fun hHeld => ?_)
                    obtain ⟨WD, hWD⟩ : ∃ WD, wr.drew = WD := ⟨_, rfl⟩
                    have HD : Hid (Below wr.heap.size wr WD) := by rw [← hWD]; exact Below.drew (Below.refl _ _)
                    rw [hWD] at hHeld ⊢
                    clear hWD
                    refine wpAnyH_take (i := 0) (oi := { dst := _, op := _, type := _, pos := _, after := _, guard := _ }) (v := ?_) rfl (by kernel_rfl) (by kernel_rfl) (by kernel_rfl) (fun _ _ _ h => h) (Or.inl ⟨by rfl, ?_⟩) (by assumption) ?_
                    rotate_left
                    · intro W hSw
                      (try dsimp only at hSw)
                      go_simp
                      (try with_reducible rfl)
                    try simp only [Act.put, List.setIfInBounds_toArray, List.set_cons_zero, List.set_cons_succ]
                    refine wpAnyH_take (i := 1) (oi := { dst := _, op := _, type := _, pos := _, after := _, guard := _ }) (v := ?_) rfl (by kernel_rfl) (by kernel_rfl) (by kernel_rfl) (fun _ _ _ h => h) (Or.inl ⟨by rfl, ?_⟩) (by assumption) ?_
                    rotate_left
                    · intro W hSw
                      (try dsimp only at hSw)
                      go_simp
                      (try with_reducible rfl)
                    try simp only [Act.put, List.setIfInBounds_toArray, List.set_cons_zero, List.set_cons_succ]
                    refine wpAnyH_take (i := 2) (oi := { dst := _, op := _, type := _, pos := _, after := _, guard := _ }) (v := ?_) rfl (by kernel_rfl) (by kernel_rfl) (by kernel_rfl) (fun _ _ _ h => h) (Or.inl ⟨by rfl, ?_⟩) (by assumption) ?_
                    rotate_left
                    · intro W hSw
                      (try dsimp only at hSw)
                      have z0 := below_cell hSw (rcell HXW.out 3 _ rfl)
                      go_simp
                      (try with_reducible rfl)
                    try simp only [Act.put, List.setIfInBounds_toArray, List.set_cons_zero, List.set_cons_succ]
                    refine wpAnyH_take (i := 3) (oi := { dst := _, op := _, type := _, pos := _, after := _, guard := _ }) (v := ?_) rfl (by kernel_rfl) (by kernel_rfl) (by kernel_rfl) (fun _ _ _ h => h) (Or.inl ⟨by rfl, ?_⟩) (by assumption) ?_
                    rotate_left
                    · intro W hSw
                      (try dsimp only at hSw)
                      go_simp
                      (try with_reducible rfl)
                    try simp only [Act.put, List.setIfInBounds_toArray, List.set_cons_zero, List.set_cons_succ]
                    refine wpAnyH_take (i := 4) (oi := { dst := _, op := _, type := _, pos := _, after := _, guard := _ }) (v := ?_) rfl (by kernel_rfl) (by kernel_rfl) (by kernel_rfl) (fun _ _ _ h => h) (Or.inl ⟨by rfl, ?_⟩) (by assumption) ?_
                    rotate_left
                    · intro W hSw
                      (try dsimp only at hSw)
                      have z0 := below_cell hSw (rcell HYW.out 0 _ rfl)
                      go_simp
                      (try with_reducible rfl)
                    try simp only [Act.put, List.setIfInBounds_toArray, List.set_cons_zero, List.set_cons_succ]
                    refine wpAnyH_take (i := 5) (oi := { dst := _, op := _, type := _, pos := _, after := _, guard := _ }) (v := ?_) rfl (by kernel_rfl) (by kernel_rfl) (by kernel_rfl) (fun _ _ _ h => h) (Or.inl ⟨by rfl, ?_⟩) (by assumption) ?_
                    rotate_left
                    · intro W hSw
                      (try dsimp only at hSw)
                      go_simp
                      (try with_reducible rfl)
                    try simp only [Act.put, List.setIfInBounds_toArray, List.set_cons_zero, List.set_cons_succ]
                    refine wpAnyH_take (i := 6) (oi := { dst := _, op := _, type := _, pos := _, after := _, guard := _ }) (v := ?_) rfl (by kernel_rfl) (by kernel_rfl) (by kernel_rfl) (fun _ _ _ h => h) (Or.inl ⟨by rfl, ?_⟩) (by assumption) ?_
                    rotate_left
                    · intro W hSw
                      (try dsimp only at hSw)
                      go_simp
                      (try with_reducible rfl)
                    try simp only [Act.put, List.setIfInBounds_toArray, List.set_cons_zero, List.set_cons_succ]
                    refine wpAnyH_take (i := 7) (oi := { dst := _, op := _, type := _, pos := _, after := _, guard := _ }) (v := ?_) rfl (by kernel_rfl) (by kernel_rfl) (by kernel_rfl) (fun _ _ _ h => h) (Or.inl ⟨by rfl, ?_⟩) (by assumption) ?_
                    rotate_left
                    · intro W hSw
                      (try dsimp only at hSw)
                      have z0 := (HSC.out W (below_trans HWW.out hSw)).1
                      go_simp
                      (try with_reducible rfl)
                    try simp only [Act.put, List.setIfInBounds_toArray, List.set_cons_zero, List.set_cons_succ]
                    refine wpAnyH_take (i := 8) (oi := { dst := _, op := _, type := _, pos := _, after := _, guard := _ }) (v := ?_) rfl (by kernel_rfl) (by kernel_rfl) (by kernel_rfl) (fun _ _ _ h => h) (Or.inl ⟨by rfl, ?_⟩) (by assumption) ?_
                    rotate_left
                    · intro W hSw
                      (try dsimp only at hSw)
                      go_simp
                      (try with_reducible rfl)
                    try simp only [Act.put, List.setIfInBounds_toArray, List.set_cons_zero, List.set_cons_succ]
                    refine wpAnyH_take (i := 9) (oi := { dst := _, op := _, type := _, pos := _, after := _, guard := _ }) (v := ?_) rfl (by kernel_rfl) (by kernel_rfl) (by kernel_rfl) (fun _ _ _ h => h) (Or.inl ⟨by rfl, ?_⟩) (by assumption) ?_
                    rotate_left
                    · intro W hSw
                      (try dsimp only at hSw)
                      go_simp
                      (try with_reducible rfl)
                    try simp only [Act.put, List.setIfInBounds_toArray, List.set_cons_zero, List.set_cons_succ]
                    refine wpAnyH_take (i := 10) (oi := { dst := _, op := _, type := _, pos := _, after := _, guard := _ }) (v := ?_) rfl (by kernel_rfl) (by kernel_rfl) (by kernel_rfl) (fun _ _ _ h => h) (Or.inl ⟨by rfl, ?_⟩) (by assumption) ?_
                    rotate_left
                    · intro W hSw
                      (try dsimp only at hSw)
                      go_simp
                      (try with_reducible rfl)
                    try simp only [Act.put, List.setIfInBounds_toArray, List.set_cons_zero, List.set_cons_succ]
                    refine wpAnyH_take (i := 11) (oi := { dst := _, op := _, type := _, pos := _, after := _, guard := _ }) (v := ?_) rfl (by kernel_rfl) (by kernel_rfl) (by kernel_rfl) (fun _ _ _ h => h) (Or.inl ⟨by rfl, ?_⟩) (by assumption) ?_
                    rotate_left
                    · intro W hSw
                      (try dsimp only at hSw)
                      have z0 := below_cell hSw (rcell HYW.out 1 _ rfl)
                      go_simp
                      (try with_reducible rfl)
                    try simp only [Act.put, List.setIfInBounds_toArray, List.set_cons_zero, List.set_cons_succ]
                    refine wpAnyH_take (i := 12) (oi := { dst := _, op := _, type := _, pos := _, after := _, guard := _ }) (v := ?_) rfl (by kernel_rfl) (by kernel_rfl) (by kernel_rfl) (fun _ _ _ h => h) (Or.inl ⟨by rfl, ?_⟩) (by assumption) ?_
                    rotate_left
                    · intro W hSw
                      (try dsimp only at hSw)
                      go_simp
                      (try with_reducible rfl)
                    try simp only [Act.put, List.setIfInBounds_toArray, List.set_cons_zero, List.set_cons_succ]
                    refine wpAnyH_take (i := 13) (oi := { dst := _, op := _, type := _, pos := _, after := _, guard := _ }) (v := ?_) rfl (by kernel_rfl) (by kernel_rfl) (by kernel_rfl) (fun _ _ _ h => h) (Or.inl ⟨by rfl, ?_⟩) (by assumption) ?_
                    rotate_left
                    · intro W hSw
                      (try dsimp only at hSw)
                      go_simp
                      (try with_reducible rfl)
                    try simp only [Act.put, List.setIfInBounds_toArray, List.set_cons_zero, List.set_cons_succ]
                    refine wpAnyH_take (i := 14) (oi := { dst := _, op := _, type := _, pos := _, after := _, guard := _ }) (v := ?_) rfl (by kernel_rfl) (by kernel_rfl) (by kernel_rfl) (fun _ _ _ h => h) (Or.inl ⟨by rfl, ?_⟩) (by assumption) ?_
                    rotate_left
                    · intro W hSw
                      (try dsimp only at hSw)
                      have z0 := HEN.out W (below_trans HWW.out hSw)
                      go_simp
                      (try with_reducible rfl)
                    try simp only [Act.put, List.setIfInBounds_toArray, List.set_cons_zero, List.set_cons_succ]
                    refine wpAnyH_ready (rs := [15, 16]) (by kernel_rfl) (by simp) ?_
                    refine AllReadyH.cons (o := { dst := _, op := _, type := _, pos := _, after := _, guard := _ }) rfl (fun K hK => ?_) (AllReadyH.cons (o := { dst := _, op := _, type := _, pos := _, after := _, guard := _ }) rfl (fun K hK => ?_) AllReadyH.nil)
                    · go_simp
                      refine Calls.mono (by have h7 := runder_any (xs := xs) (by rw [HXL.out]; have := HML.out; omega) XN en _ (HXR.out.up HD.out); unfold tA und at h7; exact h7) ?_
                      rintro ee W4 ⟨rfl, hb4⟩
                      have HB4 : Hid (Below wr.heap.size wr W4) := below_trans HD.out hb4
                      clear hb4
                      go_wp2_with fail
                      refine hK.out _ _ ?_ (fun hHeld => ?_)
                      · exact HB4.out
                      clear hK K
                      try simp only [Act.put, List.setIfInBounds_toArray, List.set_cons_zero, List.set_cons_succ]
                      refine wpAnyH_ready (rs := [16]) (by kernel_rfl) (by simp) ?_
                      refine AllReadyH.cons (o := { dst := _, op := _, type := _, pos := _, after := _, guard := _ }) rfl (fun K hK => ?_) AllReadyH.nil
                      go_simp
                      refine hK.out _ _ ?_ (fun hHeld => ?_)
                      · exact below_trans HB4.out (bel_up _ _)
                      clear hK K
                      try simp only [Act.put, List.setIfInBounds_toArray, List.set_cons_zero, List.set_cons_succ]
                      obtain ⟨W5, hW5⟩ : ∃ W5, W5 = (W4).alloc (.cells #[.string ⟨#[]⟩, .bool false, .string ⟨#[]⟩, .int .i64 0, .int .i64 0, .int .i64 0, .int .i64 0, .slice none 0 0, .int .i64 0] 75) := ⟨_, rfl⟩
                      have HB5 : Hid (Below wr.heap.size wr W5) := by rw [hW5]; exact below_trans HB4.out (bel_up _ _)
                      have HK5 : Hid (W5.heap[(W4).heap.size]? = some (.cells #[.string ⟨#[]⟩, .bool false, .string ⟨#[]⟩, .int .i64 0, .int .i64 0, .int .i64 0, .int .i64 0, .slice none 0 0, .int .i64 0] 75 (0, 0))) := by rw [hW5]; exact heap_new _ _
                      have HKB : Hid (wr.heap.size ≤ (W4).heap.size) := (HB4.out).size
                      rw [← hW5] at hHeld ⊢
                      clear hW5
                      obtain ⟨kb, hkb⟩ : ∃ kb, (W4).heap.size = kb := ⟨_, rfl⟩
                      rw [hkb] at HK5 HKB ⊢
                      clear hkb
                      refine wpAnyH_ready (rs := [17]) (by kernel_rfl) (by simp) ?_
                      refine AllReadyH.cons (o := { dst := _, op := _, type := _, pos := _, after := _, guard := _ }) rfl (fun K hK => ?_) AllReadyH.nil
                      have k0 := rcell HK5.out 0 _ rfl
                      have k1 := rcell HK5.out 1 _ rfl
                      have k2 := rcell HK5.out 2 _ rfl
                      have k3 := rcell HK5.out 3 _ rfl
                      have k4 := rcell HK5.out 4 _ rfl
                      have k5 := rcell HK5.out 5 _ rfl
                      have k6 := rcell HK5.out 6 _ rfl
                      have k7 := rcell HK5.out 7 _ rfl
                      have k8 := rcell HK5.out 8 _ rfl
                      have fk := fun j => Lib.frozen_of_heap HK5.out j
                      go_simp
                      clear k0 k1 k2 k3 k4 k5 k6 k7 k8
                      clear fk
                      refine hK.out _ _ ?_ (fun hHeld => ?_)
                      · exact (bel_put (bel_put (bel_put (bel_put (bel_put (bel_put (bel_put (bel_put (bel_put HB5.out HKB.out) HKB.out) HKB.out) HKB.out) HKB.out) HKB.out) HKB.out) HKB.out) HKB.out)
                      clear hK K
                      try simp only [Act.put, List.setIfInBounds_toArray, List.set_cons_zero, List.set_cons_succ]
                      obtain ⟨W7, hW7⟩ : ∃ W7, W7 = (((((((((W5.setCell ⟨kb, 0, none⟩ (.string XN)).setCell ⟨kb, 1, none⟩ (.bool true)).setCell ⟨kb, 2, none⟩ (.string ⟨#[]⟩)).setCell ⟨kb, 3, none⟩ (.int .i64 (ufr xs en))).setCell ⟨kb, 4, none⟩ (.int .i64 (uto xs en))).setCell ⟨kb, 5, none⟩ (.int .i64 0)).setCell ⟨kb, 6, none⟩ (.int .i64 (-1))).setCell ⟨kb, 7, none⟩ (.slice oa m oc)).setCell ⟨kb, 8, none⟩ (.int .i64 0)) := ⟨_, rfl⟩
                      have HB7 : Hid (Below wr.heap.size wr W7) := by rw [hW7]; exact (bel_put (bel_put (bel_put (bel_put (bel_put (bel_put (bel_put (bel_put (bel_put HB5.out HKB.out) HKB.out) HKB.out) HKB.out) HKB.out) HKB.out) HKB.out) HKB.out) HKB.out)
                      have HK7 : Hid (W7.heap[kb]? = some (.cells #[.string XN, .bool true, .string ⟨#[]⟩, .int .i64 (ufr xs en), .int .i64 (uto xs en), .int .i64 0, .int .i64 (-1), .slice oa m oc, .int .i64 0] 75 (0, 0))) := by rw [hW7]; exact put9_heap HK5.out
                      rw [← hW7] at hHeld ⊢
                      clear hW7
                      refine wpAnyH_done (by kernel_rfl) ?_ _
                      clear hHeld
                      refine NoPanic.normal ?_
                      have k0 := rcell HK7.out 0 _ rfl
                      have k1 := rcell HK7.out 1 _ rfl
                      have k2 := rcell HK7.out 2 _ rfl
                      have k3 := rcell HK7.out 3 _ rfl
                      have k4 := rcell HK7.out 4 _ rfl
                      have k5 := rcell HK7.out 5 _ rfl
                      have k6 := rcell HK7.out 6 _ rfl
                      have k7 := rcell HK7.out 7 _ rfl
                      have k8 := rcell HK7.out 8 _ rfl
                      have HLIT : Hid ((W7.alloc (.cells #[.string XN, .bool true, .string ⟨#[]⟩, .int .i64 (ufr xs en), .int .i64 (uto xs en), .int .i64 0, .int .i64 (-1), .slice oa m oc, .int .i64 0] 75)).ownsRow W7.heap.size 75 9 (.slice (some ⟨W7.heap.size, 0, none⟩) 1 1) 1 (#[.string XN, .bool true, .string ⟨#[]⟩, .int .i64 (ufr xs en), .int .i64 (uto xs en), .int .i64 0, .int .i64 (-1), .slice oa m oc, .int .i64 0] : Array Value).toList) := World.ownsRow_lit (base := W7.heap.size) (e := 75) (size := 9) W7 #[.string XN, .bool true, .string ⟨#[]⟩, .int .i64 (ufr xs en), .int .i64 (uto xs en), .int .i64 0, .int .i64 (-1), .slice oa m oc, .int .i64 0] 1 (Nat.le_refl _) (by decide) rfl
                      have HLST : Hid (LM (fun _ => True) (W7.alloc (.cells #[.string XN, .bool true, .string ⟨#[]⟩, .int .i64 (ufr xs en), .int .i64 (uto xs en), .int .i64 0, .int .i64 (-1), .slice oa m oc, .int .i64 0] 75)) (.slice (some ⟨W7.heap.size, 0, none⟩) 1 1) 1 (hed XN (pts Te Sy rs ks es i) en :: pts Te Sy rs ks es i)) := by
                        have h7 := LM.mk (P := fun _ => True) (W := W7.alloc (.cells #[.string XN, .bool true, .string ⟨#[]⟩, .int .i64 (ufr xs en), .int .i64 (uto xs en), .int .i64 0, .int .i64 (-1), .slice oa m oc, .int .i64 0] 75)) (.slice (some ⟨W7.heap.size, 0, none⟩) 1 1) [⟨und XN xs en, .slice oa m oc, 0, m, pts Te Sy rs ks es i⟩] ((row_rwp HLIT.out (by decide)).keep (s := 9) rfl (Nat.le_refl _) (fun q _ _ => ⟨rfl, trivial⟩)) (fun x hx => by cases List.mem_singleton.1 hx; exact (HALL.out.up HB7.out).up (bel_up _ _))
                        have h8 := und_items xs HRTs.out XN en
                        rw [HPT.out.1, HXL.out] at h8
                        rw [← h8]
                        have h9 : ([⟨und XN xs en, .slice oa m oc, 0, m, pts Te Sy rs ks es i⟩] : List It).flatMap itl = ⟨XN, true, ⟨#[]⟩, ufr xs en, uto xs en, (m : Int), -1⟩ :: pts Te Sy rs ks es i := by
                          rw [List.flatMap_cons, List.flatMap_nil, List.append_nil]
                          rfl
                        rw [h9] at h7
                        exact h7
                      have HLJ : Hid _ := list_gen HLST.out (by rw [List.length_cons]; have := HPL.out; omega) _ (Below.refl _ _)
                      go_wp2_with (go_at_call 24; refine Calls.mono HLJ.out ?_; rintro ee W8 ⟨v8, rfl, ho8, hb8⟩; have HO8 : Hid _ := ho8; have HB8 : Hid (Below wr.heap.size wr W8) := below_trans (below_trans HB7.out (bel_up _ _)) hb8; obtain ⟨qa, qc, rfl⟩ := row_shape ho8; clear ho8 hb8)
                      go_ret
                      rw [HRQ.out]
                      exact ⟨_, rfl, row_base HO8.out (Nat.le_trans HWW.out.size (Nat.le_trans HB7.out.size (bel_up _ _).size)), below_trans HWW.out HB8.out⟩
                    · go_simp
                      refine hK.out _ _ ?_ (fun hHeld => ?_)
                      · exact below_trans HD.out (bel_up _ _)
                      clear hK K
                      try simp only [Act.put, List.setIfInBounds_toArray, List.set_cons_zero, List.set_cons_succ]
                      obtain ⟨W5, hW5⟩ : ∃ W5, W5 = (WD).alloc (.cells #[.string ⟨#[]⟩, .bool false, .string ⟨#[]⟩, .int .i64 0, .int .i64 0, .int .i64 0, .int .i64 0, .slice none 0 0, .int .i64 0] 75) := ⟨_, rfl⟩
                      have HB5 : Hid (Below wr.heap.size wr W5) := by rw [hW5]; exact below_trans HD.out (bel_up _ _)
                      have HK5 : Hid (W5.heap[(WD).heap.size]? = some (.cells #[.string ⟨#[]⟩, .bool false, .string ⟨#[]⟩, .int .i64 0, .int .i64 0, .int .i64 0, .int .i64 0, .slice none 0 0, .int .i64 0] 75 (0, 0))) := by rw [hW5]; exact heap_new _ _
                      have HKB : Hid (wr.heap.size ≤ (WD).heap.size) := (HD.out).size
                      rw [← hW5] at hHeld ⊢
                      clear hW5
                      obtain ⟨kb, hkb⟩ : ∃ kb, (WD).heap.size = kb := ⟨_, rfl⟩
                      rw [hkb] at HK5 HKB ⊢
                      clear hkb
                      refine wpAnyH_ready (rs := [15]) (by kernel_rfl) (by simp) ?_
                      refine AllReadyH.cons (o := { dst := _, op := _, type := _, pos := _, after := _, guard := _ }) rfl (fun K hK => ?_) AllReadyH.nil
                      go_simp
                      refine Calls.mono (by have h7 := runder_any (xs := xs) (by rw [HXL.out]; have := HML.out; omega) XN en _ (HXR.out.up HB5.out); unfold tA und at h7; exact h7) ?_
                      rintro ee W4 ⟨rfl, hb4⟩
                      have HB4 : Hid (Below wr.heap.size wr W4) := below_trans HB5.out hb4
                      have HK4 : Hid (W4.heap[kb]? = some (.cells #[.string ⟨#[]⟩, .bool false, .string ⟨#[]⟩, .int .i64 0, .int .i64 0, .int .i64 0, .int .i64 0, .slice none 0 0, .int .i64 0] 75 (0, 0))) := by rw [hb4.block kb (lt_of_heap HK5.out)]; exact HK5.out
                      clear hb4
                      go_wp2_with fail
                      refine hK.out _ _ ?_ (fun hHeld => ?_)
                      · exact HB4.out
                      clear hK K
                      try simp only [Act.put, List.setIfInBounds_toArray, List.set_cons_zero, List.set_cons_succ]
                      refine wpAnyH_ready (rs := [17]) (by kernel_rfl) (by simp) ?_
                      refine AllReadyH.cons (o := { dst := _, op := _, type := _, pos := _, after := _, guard := _ }) rfl (fun K hK => ?_) AllReadyH.nil
                      have k0 := rcell HK4.out 0 _ rfl
                      have k1 := rcell HK4.out 1 _ rfl
                      have k2 := rcell HK4.out 2 _ rfl
                      have k3 := rcell HK4.out 3 _ rfl
                      have k4 := rcell HK4.out 4 _ rfl
                      have k5 := rcell HK4.out 5 _ rfl
                      have k6 := rcell HK4.out 6 _ rfl
                      have k7 := rcell HK4.out 7 _ rfl
                      have k8 := rcell HK4.out 8 _ rfl
                      have fk := fun j => Lib.frozen_of_heap HK4.out j
                      go_simp
                      clear k0 k1 k2 k3 k4 k5 k6 k7 k8
                      clear fk
                      refine hK.out _ _ ?_ (fun hHeld => ?_)
                      · exact (bel_put (bel_put (bel_put (bel_put (bel_put (bel_put (bel_put (bel_put (bel_put HB4.out HKB.out) HKB.out) HKB.out) HKB.out) HKB.out) HKB.out) HKB.out) HKB.out) HKB.out)
                      clear hK K
                      try simp only [Act.put, List.setIfInBounds_toArray, List.set_cons_zero, List.set_cons_succ]
                      obtain ⟨W7, hW7⟩ : ∃ W7, W7 = (((((((((W4.setCell ⟨kb, 0, none⟩ (.string XN)).setCell ⟨kb, 1, none⟩ (.bool true)).setCell ⟨kb, 2, none⟩ (.string ⟨#[]⟩)).setCell ⟨kb, 3, none⟩ (.int .i64 (ufr xs en))).setCell ⟨kb, 4, none⟩ (.int .i64 (uto xs en))).setCell ⟨kb, 5, none⟩ (.int .i64 0)).setCell ⟨kb, 6, none⟩ (.int .i64 (-1))).setCell ⟨kb, 7, none⟩ (.slice oa m oc)).setCell ⟨kb, 8, none⟩ (.int .i64 0)) := ⟨_, rfl⟩
                      have HB7 : Hid (Below wr.heap.size wr W7) := by rw [hW7]; exact (bel_put (bel_put (bel_put (bel_put (bel_put (bel_put (bel_put (bel_put (bel_put HB4.out HKB.out) HKB.out) HKB.out) HKB.out) HKB.out) HKB.out) HKB.out) HKB.out) HKB.out)
                      have HK7 : Hid (W7.heap[kb]? = some (.cells #[.string XN, .bool true, .string ⟨#[]⟩, .int .i64 (ufr xs en), .int .i64 (uto xs en), .int .i64 0, .int .i64 (-1), .slice oa m oc, .int .i64 0] 75 (0, 0))) := by rw [hW7]; exact put9_heap HK4.out
                      rw [← hW7] at hHeld ⊢
                      clear hW7
                      refine wpAnyH_done (by kernel_rfl) ?_ _
                      clear hHeld
                      refine NoPanic.normal ?_
                      have k0 := rcell HK7.out 0 _ rfl
                      have k1 := rcell HK7.out 1 _ rfl
                      have k2 := rcell HK7.out 2 _ rfl
                      have k3 := rcell HK7.out 3 _ rfl
                      have k4 := rcell HK7.out 4 _ rfl
                      have k5 := rcell HK7.out 5 _ rfl
                      have k6 := rcell HK7.out 6 _ rfl
                      have k7 := rcell HK7.out 7 _ rfl
                      have k8 := rcell HK7.out 8 _ rfl
                      have HLIT : Hid ((W7.alloc (.cells #[.string XN, .bool true, .string ⟨#[]⟩, .int .i64 (ufr xs en), .int .i64 (uto xs en), .int .i64 0, .int .i64 (-1), .slice oa m oc, .int .i64 0] 75)).ownsRow W7.heap.size 75 9 (.slice (some ⟨W7.heap.size, 0, none⟩) 1 1) 1 (#[.string XN, .bool true, .string ⟨#[]⟩, .int .i64 (ufr xs en), .int .i64 (uto xs en), .int .i64 0, .int .i64 (-1), .slice oa m oc, .int .i64 0] : Array Value).toList) := World.ownsRow_lit (base := W7.heap.size) (e := 75) (size := 9) W7 #[.string XN, .bool true, .string ⟨#[]⟩, .int .i64 (ufr xs en), .int .i64 (uto xs en), .int .i64 0, .int .i64 (-1), .slice oa m oc, .int .i64 0] 1 (Nat.le_refl _) (by decide) rfl
                      have HLST : Hid (LM (fun _ => True) (W7.alloc (.cells #[.string XN, .bool true, .string ⟨#[]⟩, .int .i64 (ufr xs en), .int .i64 (uto xs en), .int .i64 0, .int .i64 (-1), .slice oa m oc, .int .i64 0] 75)) (.slice (some ⟨W7.heap.size, 0, none⟩) 1 1) 1 (hed XN (pts Te Sy rs ks es i) en :: pts Te Sy rs ks es i)) := by
                        have h7 := LM.mk (P := fun _ => True) (W := W7.alloc (.cells #[.string XN, .bool true, .string ⟨#[]⟩, .int .i64 (ufr xs en), .int .i64 (uto xs en), .int .i64 0, .int .i64 (-1), .slice oa m oc, .int .i64 0] 75)) (.slice (some ⟨W7.heap.size, 0, none⟩) 1 1) [⟨und XN xs en, .slice oa m oc, 0, m, pts Te Sy rs ks es i⟩] ((row_rwp HLIT.out (by decide)).keep (s := 9) rfl (Nat.le_refl _) (fun q _ _ => ⟨rfl, trivial⟩)) (fun x hx => by cases List.mem_singleton.1 hx; exact (HALL.out.up HB7.out).up (bel_up _ _))
                        have h8 := und_items xs HRTs.out XN en
                        rw [HPT.out.1, HXL.out] at h8
                        rw [← h8]
                        have h9 : ([⟨und XN xs en, .slice oa m oc, 0, m, pts Te Sy rs ks es i⟩] : List It).flatMap itl = ⟨XN, true, ⟨#[]⟩, ufr xs en, uto xs en, (m : Int), -1⟩ :: pts Te Sy rs ks es i := by
                          rw [List.flatMap_cons, List.flatMap_nil, List.append_nil]
                          rfl
                        rw [h9] at h7
                        exact h7
                      have HLJ : Hid _ := list_gen HLST.out (by rw [List.length_cons]; have := HPL.out; omega) _ (Below.refl _ _)
                      go_wp2_with (go_at_call 24; refine Calls.mono HLJ.out ?_; rintro ee W8 ⟨v8, rfl, ho8, hb8⟩; have HO8 : Hid _ := ho8; have HB8 : Hid (Below wr.heap.size wr W8) := below_trans (below_trans HB7.out (bel_up _ _)) hb8; obtain ⟨qa, qc, rfl⟩ := row_shape ho8; clear ho8 hb8)
                      go_ret
                      rw [HRQ.out]
                      exact ⟨_, rfl, row_base HO8.out (Nat.le_trans HWW.out.size (Nat.le_trans HB7.out.size (bel_up _ _).size)), below_trans HWW.out HB8.out⟩
                  · have k1 : (sk' == 1) = false := by rw [beq_eq_false_iff_ne]; exact h3
                    have HRQ : Hid _ := HNS.out (by rw [HIS.out, k1])
                    clear h3
                    go_wp2_with (go_at_call 24; refine Calls.mono HLI.out ?_; rintro ee W7 ⟨v7, rfl, ho7, hb7⟩; have HO7 : Hid (W7.ownsRow wr.heap.size 65 7 v7 (pts Te Sy rs ks es i).length (flat nf (pts Te Sy rs ks es i))) := ho7; have HB7 : Hid (Below wr.heap.size wr W7) := hb7; obtain ⟨qa, qc, rfl⟩ := row_shape ho7; clear ho7 hb7)
                    go_ret
                    rw [HRQ.out]
                    exact ⟨_, rfl, row_base HO7.out HWW.out.size, below_trans HWW.out HB7.out⟩
                · have g3 : decide ((j : Int) < (n1 : Int)) = false := by rw [decide_eq_false_iff_not]; omega
                  have g4 : decide (j < n1) = false := by rw [decide_eq_false_iff_not]; omega
                  have HRQ : Hid _ := HNS.out (by unfold ish; rw [HGL.out.2, g3, Bool.and_false]; rfl)
                  clear h0 h1
                  go_wp2_with (go_at_call 24; refine Calls.mono HLI.out ?_; rintro ee W7 ⟨v7, rfl, ho7, hb7⟩; have HO7 : Hid (W7.ownsRow wr.heap.size 65 7 v7 (pts Te Sy rs ks es i).length (flat nf (pts Te Sy rs ks es i))) := ho7; have HB7 : Hid (Below wr.heap.size wr W7) := hb7; obtain ⟨qa, qc, rfl⟩ := row_shape ho7; clear ho7 hb7)
                  go_ret
                  rw [HRQ.out]
                  exact ⟨_, rfl, row_base HO7.out HWW.out.size, below_trans HWW.out HB7.out⟩
        · have f2 : ((ne : Int) != (nr1 : Int)) = true := by rw [bne_iff_ne]; omega
          have HRT : Hid (rdc Te Sy P (p : Int) ks es = []) := rdc_no (by rw [HRK2.out, decide_eq_false hB]; simp)
          clear hA hB
          go_wp2_with fail
          go_ret
          rw [HRT.out]
          exact ⟨_, rfl, World.ownsRow_nil _ _ _ _, HB2.out⟩
      · have f1 : ((nk : Int) != (nr : Int)) = true := by rw [bne_iff_ne]; omega
        have HRT : Hid (rdc Te Sy P (p : Int) ks es = []) := rdc_no (by rw [HRK2.out, decide_eq_false hA]; simp)
        clear hA
        go_wp2_with fail
        go_ret
        rw [HRT.out]
        exact ⟨_, rfl, World.ownsRow_nil _ _ _ _, HB2.out⟩
    · have e2 : decide ((n2 : Int) ≤ (p : Int)) = true := by rw [decide_eq_true_eq]; omega
      have e3 : decide (n2 ≤ p) = true := by rw [decide_eq_true_eq]; omega
      have HR : Hid (rdc Te Sy P (p : Int) ks es = []) := rdc_no (by unfold rok; rw [show decide ((p : Int) < (P.length : Int)) = false by rw [decide_eq_false_iff_not, HN2.out]; omega]; simp)
      clear h1
      go_enter Try.func12, Try.ntmps12
      go_wp2_with fail
      go_ret
      rw [HR.out]
      exact ⟨_, rfl, World.ownsRow_nil _ _ _ _, bel_up _ _⟩
end Go.Proofs.Ytcfmpmhdjkchjab
