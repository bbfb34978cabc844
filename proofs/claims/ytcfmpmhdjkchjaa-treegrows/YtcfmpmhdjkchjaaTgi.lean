import Derived.Test.YtcfmpmhdjkchjaaTgh
namespace Go.Proofs.Ytcfmpmhdjkchjaa
open Go.RowKit Go.Maps

/-- What Reduce answers. -/
def rok (P : List Pd) (z : Int) (ks : List (List Nd)) (es : List Int) : Bool := (decide (0 ≤ z) && decide (z < (P.length : Int))) && ((decide (ks.length = (P.getD z.toNat pfd).2.2.length) && decide (es.length = (P.getD z.toNat pfd).2.2.length + 1)) && afo ks)
def rdc (Te : List Td) (Sy : List Sd) (P : List Pd) (z : Int) (ks : List (List Nd)) (es : List Int) : List Nd :=
  if rok P z ks es = true then red Te Sy (P.getD z.toNat pfd).1 (P.getD z.toNat pfd).2.2 ks es else []
theorem afo_mem {ks : List (List Nd)} (h : afo ks = true) : ∀ t ∈ ks, Fo (kds t) := fun t ht => by
  have := List.all_eq_true.1 h t ht
  exact Option.isSome_iff_exists.1 this
theorem rom_mem : ∀ (ks : List (List Nd)) (t : List Nd), t ∈ ks → t.length + 2 ≤ rom ks
  | [], t, h => by cases h
  | x :: l, t, h => by
    rcases List.mem_cons.1 h with rfl | h
    · have := rom_ge l; show _ ≤ rom l + (t.length + 1); omega
    · have := rom_mem l t h; show _ ≤ rom l + (x.length + 1); omega
theorem rdc_no {Te : List Td} {Sy : List Sd} {P : List Pd} {z : Int} {ks : List (List Nd)} {es : List Int} (h : rok P z ks es = false) : rdc Te Sy P z ks es = [] := by unfold rdc; rw [if_neg (by rw [h]; decide)]
set_option maxRecDepth 100000 in
set_option maxHeartbeats 16000000 in
theorem reduce_any {v0 v1 v2 vk ve : Value} {Te : List Td} {Sy : List Sd} {P : List Pd} {L : List (Value × List Nd)} {es : List Int} (u : Nat → Value) (z : Int) (w : World) (hg : Gx w v0 v1 v2 Te Sy P) (hgs : Gs Te Sy P) (hri : ∀ x ∈ P, ∀ r ∈ x.2.2, r.1 ≤ 9223372036854775807) (hk : Kr w vk L) (he : Is w ve es) (hsz : rom (L.map Prod.snd) * 72 + 4096 ≤ 140737488355328) :
    Calls Try.prog 47 #[lgv u v0 v1 v2, .int .i64 z, vk, ve] w fun e w' => ∃ v', e = .returned v' ∧ w'.ownsRow w.heap.size 33 7 v' (rdc Te Sy P z (L.map Prod.snd) es).length (flat nf (rdc Te Sy P z (L.map Prod.snd) es)) ∧ Below w.heap.size w w' := by
  have HG : Hid (Gx w v0 v1 v2 Te Sy P) := hg
  have HGS : Hid (Gs Te Sy P) := hgs
  have HRI : Hid (∀ x ∈ P, ∀ r ∈ x.2.2, r.1 ≤ 9223372036854775807) := hri
  have HSZ : Hid (rom (L.map Prod.snd) * 72 + 4096 ≤ 140737488355328) := hsz
  have HK : Hid (Kr w vk L) := hk
  have HE : Hid (Is w ve es) := he
  obtain ⟨a0, c0, a1, c1, a2, c2, rfl, rfl, rfl⟩ := hg.form
  obtain ⟨ka, kc, rfl⟩ := hk.t.form
  obtain ⟨ea, ec, rfl⟩ := Rw.form he
  clear hg hgs hri hk he hsz
  have HSM : Hid (∀ x ∈ L, Sm x.2) := fun x hx => by
    have h1 := rom_mem (L.map Prod.snd) x.2 (List.mem_map_of_mem hx)
    have h2 := HSZ.out
    show _ ≤ _
    omega
  obtain ⟨ks, hks⟩ : ∃ ks, L.map Prod.snd = ks := ⟨_, rfl⟩
  have HKS : Hid (L.map Prod.snd = ks) := hks
  rw [hks] at HSZ ⊢
  clear hks
  obtain ⟨n0, hn0⟩ : ∃ n, Te.length = n := ⟨_, rfl⟩
  obtain ⟨n1, hn1⟩ : ∃ n, Sy.length = n := ⟨_, rfl⟩
  obtain ⟨n2, hn2⟩ : ∃ n, P.length = n := ⟨_, rfl⟩
  obtain ⟨nk, hnk⟩ : ∃ n, L.length = n := ⟨_, rfl⟩
  obtain ⟨ne, hne⟩ : ∃ ne, es.length = ne := ⟨_, rfl⟩
  have HN2 : Hid (P.length = n2) := hn2
  have HNK : Hid (L.length = nk ∧ ks.length = nk) := ⟨hnk, by rw [← HKS.out, List.length_map]; exact hnk⟩
  have HNE : Hid (es.length = ne) := hne
  rw [hn0, hn1, hn2] at HG ⊢
  rw [hnk] at HK ⊢
  rw [hne] at HE ⊢
  clear hn0 hn1 hn2 hnk hne
  unfold lgv
  by_cases h0 : z < 0
  · have e1 : decide (z < 0) = true := by rw [decide_eq_true_eq]; exact h0
    have HR : Hid (rdc Te Sy P z ks es = []) := rdc_no (by unfold rok; rw [show decide (0 ≤ z) = false by rw [decide_eq_false_iff_not]; omega]; rfl)
    clear h0
    go_enter Try.func47, Try.ntmps47
    go_wp2_with fail
    go_ret
    rw [HR.out]
    exact ⟨_, rfl, World.ownsRow_nil _ _ _ _, bel_up _ _⟩
  · obtain ⟨p, rfl⟩ : ∃ p : Nat, z = (p : Int) := ⟨z.toNat, by omega⟩
    have e1 : decide ((p : Int) < 0) = false := by rw [decide_eq_false_iff_not]; omega
    clear h0
    by_cases h1 : p < n2
    · have e2 : decide ((n2 : Int) ≤ (p : Int)) = false := by rw [decide_eq_false_iff_not]; omega
      have e3 : decide (n2 ≤ p) = false := by rw [decide_eq_false_iff_not]; omega
      have e4 : (p : Int) < (n2 : Int) := by omega
      have hpl : p < P.length := by rw [HN2.out]; exact h1
      obtain ⟨g, o, rfl, q0, q1⟩ := HG.out.prod p hpl
      have hmem := getD_mem P pfd p hpl
      have hrw := HG.out.r _ hmem
      have HRS : Hid (∀ r ∈ (P.getD p pfd).2.2, r.1 ≤ 9223372036854775807) := HRI.out _ hmem
      have HRK : Hid (rok P (p : Int) ks es = ((decide (nk = (P.getD p pfd).2.2.length) && decide (ne = (P.getD p pfd).2.2.length + 1)) && afo ks)) := by
        show _ = _
        unfold rok
        rw [show decide ((0 : Int) ≤ (p : Int)) = true by rw [decide_eq_true_eq]; omega, show decide ((p : Int) < (P.length : Int)) = true by rw [decide_eq_true_eq]; omega, HNK.out.2, HNE.out]; rfl
      have HRD : Hid (rok P (p : Int) ks es = true → rdc Te Sy P (p : Int) ks es = red Te Sy (P.getD p pfd).1 (P.getD p pfd).2.2 ks es) := fun h => by unfold rdc; rw [if_pos h]; rfl
      have HPR : Hid ((P.getD p pfd).2.2.length * 40 + 4096 ≤ 140737488355328) := HGS.out.r _ hmem
      obtain ⟨px, hpx⟩ : ∃ px, P.getD p pfd = px := ⟨_, rfl⟩
      rw [hpx] at q0 q1 hrw HRS HRK HRD HPR
      obtain ⟨lhs, vr, rs⟩ := px
      dsimp only at q0 q1
      have HRR : Hid (Rw w vr rs.length (flat rf rs)) := hrw
      obtain ⟨ra, rc, hvr⟩ := HRR.out.form
      subst hvr
      have HRS2 : Hid (∀ r ∈ rs, r.1 ≤ 9223372036854775807) := HRS.out
      have HRK2 : Hid (rok P (p : Int) ks es = ((decide (nk = rs.length) && decide (ne = rs.length + 1)) && afo ks)) := HRK.out
      have HRD2 : Hid (rok P (p : Int) ks es = true → rdc Te Sy P (p : Int) ks es = red Te Sy lhs rs ks es) := HRD.out
      have HPR2 : Hid (rs.length * 40 + 4096 ≤ 140737488355328) := HPR.out
      clear hpx hmem hrw HRS HRK HRD HPR hpl h1
      obtain ⟨nr, hnr⟩ : ∃ n, rs.length = n := ⟨_, rfl⟩
      have HNR : Hid (rs.length = nr) := hnr
      rw [hnr] at HRR HRK2 HPR2 q1
      clear hnr
      have hwr := w64n nr (by have := HPR2.out; omega)
      obtain ⟨W1, hW1⟩ : ∃ W1, W1 = w.alloc (.cells #[u 0, u 1, .slice a0 n0 c0, .slice a1 n1 c1, .slice (some ⟨g, o, none⟩) n2 c2, u 5, u 6, u 7, u 8, u 9, u 10, u 11] 52) := ⟨_, rfl⟩
      have HB1 : Hid (Below w.heap.size w W1) := by rw [hW1]; exact bel_up _ _
      have HX1 : Hid (W1.heap[w.heap.size]? = some (.cells #[u 0, u 1, .slice a0 n0 c0, .slice a1 n1 c1, .slice (some ⟨g, o, none⟩) n2 c2, u 5, u 6, u 7, u 8, u 9, u 10, u 11] 52 (0, 0))) := by rw [hW1]; exact heap_new _ _
      have x2 := rcell HX1.out 4 _ rfl
      have q0 := below_cell HB1.out q0
      have q1 := below_cell HB1.out q1
      go_enter Try.func47, Try.ntmps47
      go_upto_region 1 with fail
      rw [← hW1]
      clear hW1
      obtain ⟨lb, hlb⟩ : ∃ lb, w.heap.size = lb := ⟨_, rfl⟩
      rw [hlb] at HX1 x2 ⊢
      clear hlb
      obtain ⟨W2, hW2⟩ : ∃ W2, W2 = W1.alloc (.cells #[.int .i64 lhs, .slice ra nr rc] 100) := ⟨_, rfl⟩
      have HB2 : Hid (Below w.heap.size w W2) := by rw [hW2]; exact below_trans HB1.out (bel_up _ _)
      have HY2 : Hid (W2.heap[W1.heap.size]? = some (.cells #[.int .i64 lhs, .slice ra nr rc] 100 (0, 0))) := by rw [hW2]; exact heap_new _ _
      have HX2 : Hid (W2.heap[lb]? = some (.cells #[u 0, u 1, .slice a0 n0 c0, .slice a1 n1 c1, .slice (some ⟨g, o, none⟩) n2 c2, u 5, u 6, u 7, u 8, u 9, u 10, u 11] 52 (0, 0))) := by rw [hW2]; exact ((bel_up W1 _).block lb (lt_of_heap HX1.out)).trans HX1.out
      go_upto_region 4 with fail
      rw [← hW2]
      clear hW2 x2 q0 q1
      obtain ⟨pb, hpb⟩ : ∃ pb, W1.heap.size = pb := ⟨_, rfl⟩
      rw [hpb] at HY2 ⊢
      clear hpb
      have y0 := rcell HY2.out 0 _ rfl
      have y1 := rcell HY2.out 1 _ rfl
      have l0 := rcell HX2.out 2 _ rfl
      have l1 := rcell HX2.out 3 _ rfl
      have l2 := rcell HX2.out 4 _ rfl
      obtain ⟨nr1, hnr1⟩ : ∃ n, nr + 1 = n := ⟨_, rfl⟩
      rw [hnr1] at hwr HRK2
      have HN1 : Hid (nr + 1 = nr1) := hnr1
      clear hnr1
      by_cases hA : nk = nr
      · have f1 : ((nk : Int) != (nr : Int)) = false := by rw [hA]; simp
        by_cases hB : ne = nr1
        · have f2 : ((ne : Int) != (nr1 : Int)) = false := by rw [hB]; simp
          have HAF : Hid (∀ W, Below w.heap.size w W → Calls Try.prog 65 #[.slice ka nk kc] W fun e w' => e = .returned (.bool (afo ks)) ∧ W = w') := fun W hb => by
            have h7 := allForests_any W (HK.out.up hb) (by have h1 := rom_ge ks; have h2 := HSZ.out; have h3 := HNK.out; omega) HSM.out
            rw [HKS.out] at h7
            exact h7
          cases hC : afo ks with
          | true =>
            have HRT : Hid (rdc Te Sy P (p : Int) ks es = red Te Sy lhs rs ks es) := HRD2.out (by rw [HRK2.out, hA, hB, hC]; simp)
            have HFO : Hid (∀ x ∈ L, Fo (kds x.2)) := fun x hx => afo_mem hC x.2 (by rw [← HKS.out]; exact List.mem_map_of_mem hx)
            rw [hC] at HAF
            have HRE : Hid (∀ W, Below w.heap.size w W → Calls Try.prog 66 #[.agg #[.slice a0 n0 c0, .slice a1 n1 c1, .slice (some ⟨g, o, none⟩) n2 c2], .agg #[.int .i64 lhs, .slice ra nr rc], .slice ka nk kc, .slice ea ne ec] W fun e w' => ∃ g cap, e = .returned (.slice (some ⟨g, 0, none⟩) (red Te Sy lhs rs ks es).length cap) ∧ Og W.heap.size w' g cap (red Te Sy lhs rs ks es) ∧ Below W.heap.size W w') := fun W hb => by
              have h7 := reduced_any lhs W (HG.out.up hb) HGS.out (by rw [HNR.out]; exact HRR.out.up hb) HRS2.out (HK.out.up hb) (Rw.up HE.out hb) (by rw [HNK.out.1, HNR.out]; exact hA) (by rw [HNE.out, HNR.out, hB]; exact HN1.out.symm) HFO.out (by rw [HKS.out]; exact HSZ.out)
              rw [HKS.out] at h7
              exact h7
            clear hA hB hC
            go_wp2_with first | (go_at_call 65; refine Calls.mono (HAF.out _ HB2.out) ?_; rintro ee ww ⟨rfl, rfl⟩) | (go_at_call 66; refine Calls.mono (HRE.out _ HB2.out) ?_; rintro ee W3 ⟨g3, cap3, rfl, ho3, hb3⟩; have HO3 : Hid (W3.ownsRow w.heap.size 33 7 (.slice (some ⟨g3, 0, none⟩) (red Te Sy lhs rs ks es).length cap3) (red Te Sy lhs rs ks es).length (flat nf (red Te Sy lhs rs ks es))) := row_base ho3 HB2.out.size; have HB3 : Hid (Below w.heap.size w W3) := below_trans HB2.out hb3; clear ho3 hb3)
            go_ret
            rw [HRT.out]
            exact ⟨_, rfl, HO3.out, HB3.out⟩
          | false =>
            have HRT : Hid (rdc Te Sy P (p : Int) ks es = []) := rdc_no (by rw [HRK2.out, hC]; simp)
            rw [hC] at HAF
            clear hA hB hC
            go_wp2_with (go_at_call 65; refine Calls.mono (HAF.out _ HB2.out) ?_; rintro ee ww ⟨rfl, rfl⟩)
            go_ret
            rw [HRT.out]
            exact ⟨_, rfl, World.ownsRow_nil _ _ _ _, HB2.out⟩
        · have f2 : ((ne : Int) != (nr1 : Int)) = true := by rw [bne_iff_ne]; omega
          have HRT : Hid (rdc Te Sy P (p : Int) ks es = []) := rdc_no (by rw [HRK2.out, decide_eq_false hB]; simp)
          clear hA hB
          go_wp2_with fail
          go_ret
          rw [HRT.out]
          exact ⟨_, rfl, World.ownsRow_nil _ _ _ _, HB2.out⟩
      · have f1 : ((nk : Int) != (nr : Int)) = true := by rw [bne_iff_ne]; omega
        have HRT : Hid (rdc Te Sy P (p : Int) ks es = []) := rdc_no (by rw [HRK2.out, decide_eq_false hA]; simp)
        clear hA
        go_wp2_with fail
        go_ret
        rw [HRT.out]
        exact ⟨_, rfl, World.ownsRow_nil _ _ _ _, HB2.out⟩
    · have e2 : decide ((n2 : Int) ≤ (p : Int)) = true := by rw [decide_eq_true_eq]; omega
      have e3 : decide (n2 ≤ p) = true := by rw [decide_eq_true_eq]; omega
      have HR : Hid (rdc Te Sy P (p : Int) ks es = []) := rdc_no (by unfold rok; rw [show decide ((p : Int) < (P.length : Int)) = false by rw [decide_eq_false_iff_not, HN2.out]; omega]; simp)
      clear h1
      go_enter Try.func47, Try.ntmps47
      go_wp2_with fail
      go_ret
      rw [HR.out]
      exact ⟨_, rfl, World.ownsRow_nil _ _ _ _, bel_up _ _⟩
end Go.Proofs.Ytcfmpmhdjkchjaa
