import Derived.Test.YtbkhhegmmkcbbaaSsq
import Derived.Test.YtbkhhegmmkcbbaaSrw
namespace Go.Proofs.Ytbkhhegmmkcbbaa
open Go.RowKit Go.Maps

set_option maxRecDepth 100000 in
set_option maxHeartbeats 32000000 in
/-- PaintSpares. -/
theorem paintSpares_any {v u : Value} {L : List Pa} {T : List Nd} (w : World) (h : Pl w v L) (hT : Ns w u T) (hz : Zp L T) (hI : ∀ x ∈ T, inI x.fr ∧ inI x.tt) : Calls Try.prog 4 #[v, u] w fun e w' => e = .returned (.bool true) ∧ Below w.heap.size w w' := by
  obtain ⟨iN, hiN, hn0, hn1, hn2⟩ := info_parts infoNd
  obtain ⟨iS, hiS, hs0, hs1, hs2⟩ := info_parts infoSn
  have HP : Hid (Pl w v L) := h
  have HT : Hid (Ns w u T) := hT
  have HZ : Hid (Zp L T) := hz
  have HI : Hid (∀ x ∈ T, inI x.fr ∧ inI x.tt) := hI
  obtain ⟨pa, pg, po, pc, e0, hpc, -⟩ := id h
  subst e0
  obtain ⟨ta, tc, rfl⟩ := hT.form
  obtain ⟨m, hmm⟩ : ∃ m, L.length = m := ⟨_, rfl⟩
  obtain ⟨n, hnn⟩ : ∃ n, T.length = n := ⟨_, rfl⟩
  have HN : Hid (T.length = n ∧ n * 72 + 4096 ≤ 140737488355328 ∧ L.length = m ∧ m * 32 ≤ 140737488355328) := ⟨hnn, by have h9 := hz.tl; unfold Sm at h9; rw [hnn] at h9; exact h9, hmm, by rw [← hmm]; exact hz.ll⟩
  rw [hmm] at HP hpc ⊢
  rw [hnn] at HT ⊢
  have HBY : Hid (∀ W, Below w.heap.size w W → Calls Try.prog 7 #[.slice ta n tc] W fun e w' => ∃ b, e = .returned (.bool b) ∧ Below W.heap.size W w') := fun W hW => beyond_any W (HT.out.up hW) hz.tl
  obtain ⟨h2, hh2⟩ : ∃ h2, m / 2 = h2 := ⟨_, rfl⟩
  have HH2 : Hid (m / 2 = h2 ∧ h2 ≤ m) := ⟨hh2, by omega⟩
  have HPC : Hid (h2 ≤ pc) := by have := HH2.out.2; show _ ≤ _; omega
  have HPH : Hid (Pl w (.slice pa h2 pc) (L.take h2)) := HP.out.half (by rw [hmm]; exact HH2.out.2)
  have HLA : Hid (∀ (W : World) (v' : Value) (L' : List Pa), Zp L' T → Pl W v' L' → Calls Try.prog 8 #[v'] W fun e w' => ∃ v'', e = .returned (.agg (lgA v'')) ∧ Pl w' v'' L' ∧ Below W.heap.size W w') := fun W v' L' hz' hp => lang_any W hp hz'.ll
  have HSN : Hid (∀ (W : World) (v' u' : Value) (L' : List Pa) (T' : List Nd) (X : List Sn) (p : Nat), spn (lcl L') T' = X → X.length = p → Zp L' T' → (∀ x ∈ T', inI x.fr ∧ inI x.tt) → Pl W v' L' → Ns W u' T' → Calls Try.prog 9 #[.agg (lgA v'), u'] W fun e w' => ∃ a c, e = .returned (.slice a p c) ∧ w'.ownsRow W.heap.size 46 3 (.slice a p c) p (flat snf X) ∧ Below W.heap.size W w') := fun W v' u' L' T' X p hX hp hz' hi' h1 h2 => by
    refine Calls.mono (spans_any W h1 h2 hz' hi') ?_
    rintro e w' ⟨vo, rfl, ho, hb⟩
    rw [hX, hp] at ho
    obtain ⟨a, c, rfl⟩ := row_shape ho
    exact ⟨a, c, rfl, ho, hb⟩
  obtain ⟨X, hX⟩ : ∃ X, spn (lcl L) T = X := ⟨_, rfl⟩
  obtain ⟨X2, hX2⟩ : ∃ X2, spn (lcl (L.take h2)) T = X2 := ⟨_, rfl⟩
  obtain ⟨p, hp⟩ : ∃ p, X.length = p := ⟨_, rfl⟩
  obtain ⟨p2, hp2⟩ : ∃ p2, X2.length = p2 := ⟨_, rfl⟩
  have HX : Hid (spn (lcl L) T = X ∧ X.length = p ∧ spn (lcl (L.take h2)) T = X2 ∧ X2.length = p2) := ⟨hX, hp, hX2, hp2⟩
  have HPZ : Hid (p ≤ 3909374676424 ∧ p2 ≤ 3909374676424) := by
    have a1 := spn_len (lcl L) T
    have a2 := spn_len (lcl (L.take h2)) T
    have a3 := HN.out
    rw [hX, hp, hnn] at a1
    rw [hX2, hp2, hnn] at a2
    show _ ∧ _
    omega
  have HB0 : Hid (Below w.heap.size w w) := Below.refl _ _
  clear h hT hz hI hmm hnn hh2 hX hX2 hp hp2 hpc
  unfold lgA at HLA HSN
  go_enter Try.func4, Try.ntmps4
  go_upto_region 3 with (go_at_call 6; refine Calls.mono (awake_any w) ?_; rintro e y0 ⟨rfl, hb⟩; have HV0 : Hid (Below w.heap.size w y0) := hb; clear hb)
  go_upto_if 15 with (go_at_call 7; refine Calls.mono (HBY.out y0 HV0.out) ?_; rintro e y1 ⟨b, rfl, hb⟩; have HV1 : Hid (Below w.heap.size w y1) := below_trans HV0.out hb; clear hb)
  cases b with
  | true =>
    go_wp2_with fail
    go_ret
    exact ⟨rfl, HV1.out⟩
  | false =>
    go_upto_region 6 with first | (go_at_call 8; refine Calls.mono (HLA.out y1 _ L HZ.out (HP.out.up HV1.out)) ?_; rintro e l1 ⟨lv, rfl, hlp, hlb⟩; have HLP : Hid (Pl l1 lv L) := hlp; have HLB : Hid (Below y1.heap.size y1 l1) := hlb; clear hlp hlb) | (go_at_call 9; refine Calls.mono (HSN.out l1 lv _ L T X p HX.out.1 HX.out.2.1 HZ.out HI.out HLP.out (HT.out.up (below_trans HV1.out HLB.out))) ?_; rintro e y2 ⟨a0, k0, rfl, hro, hbo⟩; have HR0 : Hid (y2.ownsRow y1.heap.size 46 3 (.slice a0 p k0) p (flat snf X)) := row_base hro HLB.out.size; have HX0 : Hid (Below y1.heap.size y1 y2) := below_trans HLB.out hbo; have HV2 : Hid (Below w.heap.size w y2) := below_trans HV1.out HX0.out; clear hro hbo)
    clear HLP HLB
    go_upto_region 7 with first | (go_at_call 8; refine Calls.mono (HLA.out y2 _ L HZ.out (HP.out.up HV2.out)) ?_; rintro e l2 ⟨lv, rfl, hlp, hlb⟩; have HLP : Hid (Pl l2 lv L) := hlp; have HLB : Hid (Below y2.heap.size y2 l2) := hlb; clear hlp hlb) | (go_at_call 9; refine Calls.mono (HSN.out l2 lv _ L T X p HX.out.1 HX.out.2.1 HZ.out HI.out HLP.out (HT.out.up (below_trans HV2.out HLB.out))) ?_; rintro e y3 ⟨a1, k1, rfl, hro, hbo⟩; have HR1 : Hid (y3.ownsRow y2.heap.size 46 3 (.slice a1 p k1) p (flat snf X)) := row_base hro HLB.out.size; have HX1 : Hid (Below y2.heap.size y2 y3) := below_trans HLB.out hbo; have HV3 : Hid (Below w.heap.size w y3) := below_trans HV2.out HX1.out; clear hro hbo)
    clear HLP HLB
    have q1 : IntKind.i64.wrap ((m : Int) / 2) = (h2 : Int) := by rw [IntKind.wrap_i64]; have := HN.out; have := HH2.out; omega
    have q2 : (0 : Int) ≤ (h2 : Int) := by omega
    have q3 : (h2 : Int) ≤ (pc : Int) := by have := HPC.out; omega
    have q4 : h2 ≤ pc := HPC.out
    go_upto_region 8 with first | (go_at_call 8; refine Calls.mono (HLA.out y3 _ (L.take h2) (HZ.out.half h2) (HPH.out.up HV3.out)) ?_; rintro e l2 ⟨lv, rfl, hlp, hlb⟩; have HLP : Hid (Pl l2 lv (L.take h2)) := hlp; have HLB : Hid (Below y3.heap.size y3 l2) := hlb; clear hlp hlb) | (go_at_call 9; refine Calls.mono (HSN.out l2 lv _ (L.take h2) T X2 p2 HX.out.2.2.1 HX.out.2.2.2 (HZ.out.half h2) HI.out HLP.out (HT.out.up (below_trans HV3.out HLB.out))) ?_; rintro e y4 ⟨a2, k2, rfl, hro, hbo⟩; have HR2 : Hid (y4.ownsRow y3.heap.size 46 3 (.slice a2 p2 k2) p2 (flat snf X2)) := row_base hro HLB.out.size; have HX2 : Hid (Below y3.heap.size y3 y4) := below_trans HLB.out hbo; have HV4 : Hid (Below w.heap.size w y4) := below_trans HV3.out HX2.out; clear hro hbo)
    clear HLP HLB
    clear q1 q2 q3 q4
    go_upto_region 9 with first | (go_at_call 8; refine Calls.mono (HLA.out y4 _ L HZ.out (HP.out.up HV4.out)) ?_; rintro e l3 ⟨lv, rfl, hlp, hlb⟩; have HLP : Hid (Pl l3 lv L) := hlp; have HLB : Hid (Below y4.heap.size y4 l3) := hlb; clear hlp hlb) | (go_at_call 9; refine Calls.mono (HSN.out l3 lv _ L T X p HX.out.1 HX.out.2.1 HZ.out HI.out HLP.out (HT.out.up (below_trans HV4.out HLB.out))) ?_; rintro e y5 ⟨a3, k3, rfl, hro, hbo⟩; have HR3 : Hid (y5.ownsRow y4.heap.size 46 3 (.slice a3 p k3) p (flat snf X)) := row_base hro HLB.out.size; have HX3 : Hid (Below y4.heap.size y4 y5) := below_trans HLB.out hbo; have HV5 : Hid (Below w.heap.size w y5) := below_trans HV4.out HX3.out; clear hro hbo)
    clear HLP HLB
    have HQ0 : Hid (y5.ownsRow y1.heap.size 46 3 (.slice a0 p k0) p (flat snf X)) := row_up HR0.out (below_trans (below_trans HX1.out HX2.out) HX3.out)
    have HQ1 : Hid (y5.ownsRow y2.heap.size 46 3 (.slice a1 p k1) p (flat snf X)) := row_up HR1.out (below_trans HX2.out HX3.out)
    have HQ2 : Hid (y5.ownsRow y3.heap.size 46 3 (.slice a2 p2 k2) p2 (flat snf X2)) := row_up HR2.out HX3.out
    have HQ3 : Hid (y5.ownsRow y4.heap.size 46 3 (.slice a3 p k3) p (flat snf X)) := HR3.out
    have HT0 : Hid (∀ g, (Value.slice a0 p k0).ownBlock = some g → g < y2.heap.size) := fun g hg => (HR0.out.lt g hg).2
    have HT1 : Hid (∀ g, (Value.slice a1 p k1).ownBlock = some g → g < y3.heap.size) := fun g hg => (HR1.out.lt g hg).2
    have HT2 : Hid (∀ g, (Value.slice a2 p2 k2).ownBlock = some g → g < y4.heap.size) := fun g hg => (HR2.out.lt g hg).2
    have HT3 : Hid (∀ g, (Value.slice a3 p k3).ownBlock = some g → g < y5.heap.size) := fun g hg => (HR3.out.lt g hg).2
    have HMS : Hid (w.heap.size ≤ y1.heap.size ∧ y1.heap.size ≤ y2.heap.size ∧ y2.heap.size ≤ y3.heap.size ∧ y3.heap.size ≤ y4.heap.size ∧ y4.heap.size ≤ y5.heap.size) := ⟨HV1.out.size, HX0.out.size, HX1.out.size, HX2.out.size, HX3.out.size⟩
    clear HR0 HR1 HR2 HR3 HX0 HX1 HX2 HX3
    have HFL : Hid (Qs y5 (.slice a0 p k0) X ∧ Qs y5 (.slice a1 p k1) X ∧ Qs y5 (.slice a3 p k3) X) := by
      have e9 := HX.out.2.1
      refine ⟨?_, ?_, ?_⟩
      · show Rw _ _ _ _; rw [e9]; exact row_rw HQ0.out (by decide)
      · show Rw _ _ _ _; rw [e9]; exact row_rw HQ1.out (by decide)
      · show Rw _ _ _ _; rw [e9]; exact row_rw HQ3.out (by decide)
    have HLZ : Hid (X.length < 4611686018427387904) := by have := HX.out.2.1; have := HPZ.out; show _ < _; omega
    go_upto_region 11 with first | (go_at_call_of 11 a1; refine Calls.mono (sameSpans_any HLZ.out y5 HFL.out.1 HFL.out.2.1) ?_; rintro e z0 ⟨rfl, hb⟩; have HZ0 : Hid (Below y5.heap.size y5 z0) := hb; clear hb) | (go_at_call_of 11 a3; refine Calls.mono (sameSpans_any HLZ.out z0 (HFL.out.1.up HZ0.out) (HFL.out.2.2.up HZ0.out)) ?_; rintro e z1 ⟨rfl, hb⟩; have HZ1 : Hid (Below y5.heap.size y5 z1) := below_trans HZ0.out hb; clear hb)
    have HFX : Hid (Rw z1 (.slice a1 p k1) p (flat snf X) ∧ (flat snf X).length = p * 3 ∧ (∀ u ∈ flat snf X, u.oneCell' = true)) := ⟨(row_rw HQ1.out (by decide)).up HZ1.out, by rw [flat_len snf_len, HX.out.2.1], flat_one snf_one X⟩
    have HMP : Hid (0 + p ≤ maxLen ∧ (0 + p) * 32 ≤ 140737488355328) := by have := HPZ.out; show _ ∧ _; unfold maxLen; omega
    obtain ⟨cf, hcf⟩ : ∃ cf, flat snf X = cf := ⟨_, rfl⟩
    have HCE : Hid (flat snf X = cf) := hcf
    rw [hcf] at HFX
    clear hcf HFL
    go_upto_region 12 with (at_builtin; refine wpList_rows _ rfl _ _ 43 rfl z1.heap.size 46 iS _ 3 32 Try.underlying43 hiS hs0 hs1 hs2 rfl (by decide) _ 0 [] rfl (own_empty z1 (Nat.le_refl _) 46 3) (.slice a1 p k1) p cf rfl (HFX.out.1.up (bel_up _ _)) HFX.out.2.1 HFX.out.2.2 HMP.out.1 HMP.out.2 (by rw [World.size_alloc]; omega) ?_; intro vF wF hoF hgF _; have HOF : Hid (wF.ownsRow z1.heap.size 46 3 vF p cf) := (by rw [Nat.zero_add, List.nil_append] at hoF; exact hoF); have HBF : Hid (Below z1.heap.size z1 wF) := (bel_up z1 _).grown hgF (by rw [World.size_alloc]; omega) (fun r hr => by cases hr; exact Nat.le_refl _); clear hoF hgF)
    obtain ⟨aF, kF, rfl⟩ := row_shape HOF.out
    have HY5F : Hid (Below y5.heap.size y5 wF) := below_trans HZ1.out HBF.out
    have HVF : Hid (Below w.heap.size w wF) := below_trans HV5.out HY5F.out
    have HFM : Hid (Fm snf 46 3 y1.heap.size wF (vsl (sel4 a0 a1 a2 a3) (sel4 p p p2 p) (sel4 k0 k1 k2 k3)) (sel4 p p p2 p) (sel4 X X X2 X)) :=
      (Fm.of4 HQ0.out HQ1.out HQ2.out HQ3.out HX.out.2.1 HX.out.2.1 HX.out.2.2.2 HX.out.2.1 (Nat.le_refl _) HMS.out.2.1 HMS.out.2.2.1 HMS.out.2.2.2.1 HT0.out HT1.out HT2.out).up HY5F.out
    have HVB : Hid (∀ j, j < 4 → ∀ g, ((vsl (sel4 a0 a1 a2 a3) (sel4 p p p2 p) (sel4 k0 k1 k2 k3)) j).ownBlock = some g → y1.heap.size ≤ g ∧ g < y5.heap.size) := by
      have hm := HMS.out
      refine four ?_ ?_ ?_ ?_
      · intro g hg; exact ⟨((HFM.out.row 0 (by decide)).lt g hg).1, by have := HT0.out g hg; omega⟩
      · intro g hg; exact ⟨((HFM.out.row 1 (by decide)).lt g hg).1, by have := HT1.out g hg; omega⟩
      · intro g hg; exact ⟨((HFM.out.row 2 (by decide)).lt g hg).1, by have := HT2.out g hg; omega⟩
      · intro g hg; exact ⟨((HFM.out.row 3 (by decide)).lt g hg).1, by have := HT3.out g hg; omega⟩
    have HFA : Hid (Calls Try.prog 12 #[.slice (some ⟨wF.heap.size, 0, none⟩) 4 4] (wF.alloc (.cells #[.slice a0 p k0, .slice a1 p k1, .slice a2 p2 k2, .slice a3 p k3] 43)) fun e w' => e = .returned (.bool true) ∧ Oth (vsl (sel4 a0 a1 a2 a3) (sel4 p p p2 p) (sel4 k0 k1 k2 k3)) (wF.alloc (.cells #[.slice a0 p k0, .slice a1 p k1, .slice a2 p2 k2, .slice a3 p k3] 43)) w') :=
      apart_any (wF.alloc (.cells #[.slice a0 p k0, .slice a1 p k1, .slice a2 p2 k2, .slice a3 p k3] 43)) y1.heap.size wF.heap.size (sel4 a0 a1 a2 a3) (sel4 p p p2 p) (sel4 k0 k1 k2 k3) _ (HFM.out.up (bel_up _ _)) (heap_new _ _) (four HPZ.out.1 HPZ.out.1 HPZ.out.2 HPZ.out.1) (by have := HMS.out; have := HY5F.out.size; rw [World.size_alloc]; omega)
    go_upto_region 14 with (go_at_call 12; refine Calls.mono HFA.out ?_; rintro e w11 ⟨rfl, ho⟩; have HO11 : Hid (Oth (vsl (sel4 a0 a1 a2 a3) (sel4 p p p2 p) (sel4 k0 k1 k2 k3)) (wF.alloc (.cells #[.slice a0 p k0, .slice a1 p k1, .slice a2 p2 k2, .slice a3 p k3] 43)) w11) := ho; clear ho)
    have HB11 : Hid (Below w.heap.size w w11) := (HVF.out.alloc HVF.out.size _).trans (HO11.out.below (by rw [World.size_alloc]; have := HVF.out.size; omega) (fun j hj g hg => by have := HVB.out j hj g hg; have := HMS.out; omega))
    have HF11 : Hid (w11.ownsRow z1.heap.size 46 3 (.slice aF p kF) p cf) := by
      have hz1 := HZ1.out.size
      have r1 := row_up HOF.out (bel_up wF (.cells #[.slice a0 p k0, .slice a1 p k1, .slice a2 p2 k2, .slice a3 p k3] 43))
      exact HO11.out.row r1 (by
        cases hub : (Value.slice aF p kF).ownBlock with
        | none => exact .inl rfl
        | some g => exact .inr (fun j hj h9 => by have a1 := HVB.out j hj g h9.symm; have a2 := (r1.lt g hub).1; omega))
    have HFC : Hid (Qs w11 (.slice aF p kF) X) := by
      show Rw _ _ _ _
      rw [HX.out.2.1, HCE.out]; exact row_rw HF11.out (by decide)
    clear HO11 HFA HFM HVB HF11 HQ0 HQ1 HQ2 HQ3 HT0 HT1 HT2 HT3 HOF HFX HBY
    go_upto_region 16 with first | (go_at_call 8; refine Calls.mono (HLA.out w11 _ L HZ.out (HP.out.up HB11.out)) ?_; rintro e h0 ⟨lv, rfl, hlp, hlb⟩; have HLP : Hid (Pl h0 lv L) := hlp; have HLB : Hid (Below w11.heap.size w11 h0) := hlb; clear hlp hlb) | (go_at_call 9; refine Calls.mono (HSN.out h0 lv _ L T X p HX.out.1 HX.out.2.1 HZ.out HI.out HLP.out (HT.out.up (below_trans HB11.out HLB.out))) ?_; rintro e h1 ⟨ga, gk, rfl, hro, hbo⟩; have HFR : Hid (Qs h1 (.slice ga p gk) X) := (by show Rw _ _ _ _; rw [HX.out.2.1]; exact row_rw hro (by decide)); have HH1 : Hid (Below w11.heap.size w11 h1) := below_trans HLB.out hbo; clear hro hbo) | (go_at_call 11; refine Calls.mono (sameSpans_any HLZ.out h1 HFR.out (HFC.out.up HH1.out)) ?_; rintro e h5 ⟨rfl, hb⟩; have HH5 : Hid (Below w11.heap.size w11 h5) := below_trans HH1.out hb; clear hb)
    clear HLP HLB HFR
    have HV5' : Hid (Below w.heap.size w h5) := below_trans HB11.out HH5.out
    have HTX : Hid (Rw h5 (.slice ta n tc) n (flat nf T) ∧ (flat nf T).length = n * 7 ∧ (∀ u ∈ flat nf T, u.oneCell' = true)) := by
      have e9 := HT.out.up HV5'.out
      have e8 : Rw h5 (.slice ta n tc) T.length (flat nf T) := e9
      rw [HN.out.1] at e8
      exact ⟨e8, by rw [flat_len nf_len, HN.out.1], flat_one nf_one T⟩
    have HMN : Hid (0 + n ≤ maxLen ∧ (0 + n) * 72 ≤ 140737488355328) := by have := HN.out.2; show _ ∧ _; unfold maxLen; omega
    obtain ⟨ct, hct⟩ : ∃ ct, flat nf T = ct := ⟨_, rfl⟩
    have HCT : Hid (flat nf T = ct) := hct
    rw [hct] at HTX
    clear hct
    go_upto_region 17 with (at_builtin; refine wpList_rows _ rfl _ _ 23 rfl h5.heap.size 53 iN _ 7 72 Try.underlying23 hiN hn0 hn1 hn2 rfl (by decide) _ 0 [] rfl (own_empty h5 (Nat.le_refl _) 53 7) (.slice ta n tc) n ct rfl (HTX.out.1.up (bel_up _ _)) HTX.out.2.1 HTX.out.2.2 HMN.out.1 HMN.out.2 (by rw [World.size_alloc]; omega) ?_; intro vM wM hoF hgF _; have HOM : Hid (wM.ownsRow h5.heap.size 53 7 vM n ct) := (by rw [Nat.zero_add, List.nil_append] at hoF; exact hoF); have HBM : Hid (Below h5.heap.size h5 wM) := (bel_up h5 _).grown hgF (by rw [World.size_alloc]; omega) (fun r hr => by cases hr; exact Nat.le_refl _); clear hoF hgF)
    obtain ⟨aM, kM, rfl⟩ := row_shape HOM.out
    have HNM : Hid (Ns wM (.slice aM n kM) T) := by
      show Rw _ _ _ _
      rw [HN.out.1, HCT.out]; exact row_rw HOM.out (by decide)
    have HVM : Hid (Below w.heap.size w wM) := below_trans HV5'.out HBM.out
    go_upto_region 19 with first | (go_at_call 8; refine Calls.mono (HLA.out wM _ L HZ.out (HP.out.up HVM.out)) ?_; rintro e i0 ⟨lv, rfl, hlp, hlb⟩; have HLP : Hid (Pl i0 lv L) := hlp; have HLB : Hid (Below wM.heap.size wM i0) := hlb; clear hlp hlb) | (go_at_call 9; refine Calls.mono (HSN.out i0 lv _ L T X p HX.out.1 HX.out.2.1 HZ.out HI.out HLP.out (HNM.out.up HLB.out)) ?_; rintro e i3 ⟨ga, gk, rfl, hro, hbo⟩; have HI3 : Hid (Below wM.heap.size wM i3) := below_trans HLB.out hbo; clear hro hbo)
    clear HLP HLB
    obtain ⟨BM, hBM⟩ : ∃ BM, h5.heap.size = BM := ⟨_, rfl⟩
    have HBE : Hid (h5.heap.size = BM) := hBM
    have HOL : Hid (i3.ownsRow BM 53 7 (.slice aM n kM) n (flat nf (mq T 0))) := by
      have h9 := row_up HOM.out HI3.out
      rw [hBM, ← HCT.out] at h9
      exact h9
    have HBL : Hid (Below BM h5 i3) := by rw [← hBM]; exact below_trans HBM.out HI3.out
    clear hBM
    go_loopg [11] n (fun gm v11 wr => ∃ i : Nat, v11 = .int .i64 (i : Int) ∧ Hid (i ≤ n ∧ gm = n - i) ∧ Hid (wr.ownsRow BM 53 7 (.slice aM n kM) n (flat nf (mq T i))) ∧ Hid (Below BM h5 wr))
    case atStart => exact ⟨0, rfl, ⟨Nat.zero_le _, rfl⟩, HOL, HBL⟩
    case round =>
      clear HOL HBL
      obtain ⟨i, rfl, HI', HO, HB⟩ := hrel
      obtain ⟨wa, hwa⟩ : ∃ wa, wa = wr := ⟨_, rfl⟩
      rw [← hwa] at HO HB ⊢
      clear hwa
      have HBa : Hid (Below w.heap.size w wa) := below_trans HV5'.out (by rw [HBE.out]; exact HB.out)
      by_cases hi : i < n
      · have e1 : decide ((i : Int) < (n : Int)) = true := by rw [decide_eq_true_eq]; omega
        have e2 : decide (i < n) = true := by rw [decide_eq_true_eq]; omega
        have b1 : (i : Int) < (n : Int) := by omega
        have b2 : i < n := hi
        have b3 : (0 : Int) ≤ (i : Int) := by omega
        have HIL : Hid (i < n) := hi
        obtain ⟨j, hj⟩ : ∃ j, n - 1 - i = j := ⟨_, rfl⟩
        have HJ : Hid (n - 1 - i = j ∧ j < n) := ⟨hj, by omega⟩
        have hw1 : IntKind.i64.wrap ((n : Int) - 1) = (n : Int) - 1 := by have := HN.out.2; rw [IntKind.wrap_i64]; omega
        have hw2 : IntKind.i64.wrap ((n : Int) - 1 - (i : Int)) = (j : Int) := by have := HN.out.2; rw [IntKind.wrap_i64]; omega
        have hwi := w64n i (by have := HN.out; omega)
        have b4 : (j : Int) < (n : Int) := by omega
        have b5 : j < n := by omega
        have b6 : (0 : Int) ≤ (j : Int) := by omega
        obtain ⟨tg, tq, hta, htc⟩ := HT.out.seven j (by rw [HN.out.1]; omega)
        obtain ⟨t0, -⟩ := htc wa HBa.out
        subst hta
        have hgt : mr0 T i = ⟨(T.getD j ndd).nm, (T.getD i ndd).nd, (T.getD i ndd).fd, (T.getD i ndd).fr, (T.getD i ndd).tt, (T.getD i ndd).kd, (T.getD i ndd).lf⟩ := by unfold mr0; rw [HN.out.1, hj]
        obtain ⟨nm, hnm⟩ : ∃ nm, (T.getD j ndd).nm = nm := ⟨_, rfl⟩
        rw [hnm] at t0 hgt
        obtain ⟨x, hx⟩ : ∃ x, T.getD i ndd = x := ⟨_, rfl⟩
        rw [hx] at hgt
        have hxi : (mq T i).getD i ndd = x := by rw [mq_get T i i (Nat.le_refl _)]; exact hx
        obtain ⟨g, cap, e0, -⟩ := row_form HO.out (by omega)
        obtain ⟨rfl, -, rfl⟩ := Value.slice.inj e0
        have hR1 := own_name HO.out (j := i) (by rw [mq_len, HN.out.1]; exact hi) nm (mr0 T i) (by rw [hxi, hgt]; rfl)
        have HR1 : Hid ((wa.setCell ⟨g, i * 7, none⟩ (.string nm)).ownsRow BM 53 7 (.slice (some ⟨g, 0, none⟩) n kM) n (flat nf (mq T (i + 1)))) := hR1
        obtain ⟨hgb, cur, hgh⟩ := row_tag HO.out g rfl
        have HBB : Hid (Below BM h5 (wa.setCell ⟨g, i * 7, none⟩ (.string nm))) := Below.setCell HB.out hgb _
        have fz := Lib.frozen_of_heap hgh (i * 7)
        have cz0 : wa.cell? ⟨g, i * 7, none⟩ = some (.string x.nm) := row_at HO.out (i * 7) _ (by
          have h9 := flat_get nf_len ndd (mq T i) i 0 (by rw [mq_len, HN.out.1]; exact hi) (by decide)
          rw [Nat.add_zero] at h9
          rw [h9, hxi]; rfl)
        clear hi hj htc hnm hx hxi hR1 hgh hgt e0
        go_wp2_with fail
        go_roundg (n - (i + 1))
        case measure => have := HI'.out; have := HIL.out; omega
        case rel => exact ⟨i + 1, by simp, ⟨HIL.out, rfl⟩, HR1, HBB⟩
      · have e1 : decide ((i : Int) < (n : Int)) = false := by rw [decide_eq_false_iff_not]; omega
        have e2 : decide (i < n) = false := by rw [decide_eq_false_iff_not]; omega
        have hin : n = i := by have := HI'.out; omega
        subst hin
        have HZN : Hid (Zp L (mq T n) ∧ (mq T n).length = n ∧ (∀ x ∈ mq T n, inI x.fr ∧ inI x.tt)) := by
          have h8 := HZ.out.mq
          have h9 := mq_in HI.out n (by rw [HN.out.1]; exact Nat.le_refl _)
          rw [HN.out.1] at h8
          exact ⟨h8, by rw [mq_len]; exact HN.out.1, h9⟩
        obtain ⟨TN, hTN⟩ : ∃ TN, mq T n = TN := ⟨_, rfl⟩
        rw [hTN] at HZN HO
        have HTX : Hid (Rw wa (.slice aM n kM) n (flat nf TN) ∧ (flat nf TN).length = n * 7 ∧ (∀ u ∈ flat nf TN, u.oneCell' = true)) := ⟨row_rw HO.out (by decide), by rw [flat_len nf_len, HZN.out.2.1], flat_one nf_one TN⟩
        obtain ⟨cn, hcn⟩ : ∃ cn, flat nf TN = cn := ⟨_, rfl⟩
        have HCN : Hid (flat nf TN = cn) := hcn
        rw [hcn] at HTX
        obtain ⟨XN, hXN⟩ : ∃ XN, spn (lcl L) TN = XN := ⟨_, rfl⟩
        obtain ⟨pn, hpn⟩ : ∃ pn, XN.length = pn := ⟨_, rfl⟩
        have HXN : Hid (spn (lcl L) TN = XN ∧ XN.length = pn ∧ XN.length < 4611686018427387904) := ⟨hXN, hpn, by have a1 := spn_len (lcl L) TN; rw [hXN, HZN.out.2.1] at a1; have := HN.out; omega⟩
        have HNB : Hid (Ns wa (.slice aM n kM) TN) := by
          show Rw _ _ _ _
          rw [HZN.out.2.1, HCN.out]; exact HTX.out.1
        clear hi hTN hcn hXN hpn
        go_upto_region 22 with fail
        go_wp2_with first | (have hx8 := HR2y.out; clear hx8; go_at_call 8; refine Calls.mono (HLA.out r2 _ L HZ.out (HP.out.up (below_trans HBa.out HR2x.out))) ?_; rintro e r3 ⟨lv3, rfl, hlp, hlb⟩; have HLP3 : Hid (Pl r3 lv3 L) := hlp; have HR3x : Hid (Below wa.heap.size wa r3) := below_trans HR2x.out hlb; have HL3 : Hid (Below r2.heap.size r2 r3) := hlb; clear hlp hlb) | (go_at_call 8; refine Calls.mono (HLA.out wa _ L HZ.out (HP.out.up HBa.out)) ?_; rintro e r1 ⟨lv1, rfl, hlp, hlb⟩; have HLP1 : Hid (Pl r1 lv1 L) := hlp; have HR1x : Hid (Below wa.heap.size wa r1) := hlb; clear hlp hlb) | (have hx8 := HOO.out; clear hx8; go_at_call 9; refine Calls.mono (HSN.out rO lv3 _ L TN XN pn HXN.out.1 HXN.out.2.1 HZN.out.1 HZN.out.2.2 (HLP3.out.up HBO.out) (show Ns rO _ TN by show Rw _ _ _ _; rw [HZN.out.2.1, HCN.out]; exact row_rw HOO.out (by decide))) ?_; rintro e r5 ⟨s5, t5, rfl, hro, hbo⟩; have HR5y : Hid (Qs r5 (.slice s5 pn t5) XN) := (by show Rw _ _ _ _; rw [HXN.out.2.1]; exact row_rw hro (by decide)); have HR5x : Hid (Below wa.heap.size wa r5) := below_trans (below_trans HR3x.out HBO.out) hbo; have HL5 : Hid (Below r2.heap.size r2 r5) := below_trans (below_trans HL3.out HBO.out) hbo; clear hro hbo) | (go_at_call 9; refine Calls.mono (HSN.out r1 lv1 _ L TN XN pn HXN.out.1 HXN.out.2.1 HZN.out.1 HZN.out.2.2 HLP1.out (HNB.out.up HR1x.out)) ?_; rintro e r2 ⟨s2, t2, rfl, hro, hbo⟩; have HR2y : Hid (Qs r2 (.slice s2 pn t2) XN) := (by show Rw _ _ _ _; rw [HXN.out.2.1]; exact row_rw hro (by decide)); have HR2x : Hid (Below wa.heap.size wa r2) := below_trans HR1x.out hbo; clear hro hbo) | (go_at_call 11; refine Calls.mono (sameSpans_any HXN.out.2.2 r5 (HR2y.out.up HL5.out) HR5y.out) ?_; rintro e rz ⟨rfl, hb⟩; have HRZ : Hid (Below wa.heap.size wa rz) := below_trans HR5x.out hb; clear hb) | (at_builtin; refine wpList_rows _ rfl _ _ 23 rfl r3.heap.size 53 iN _ 7 72 Try.underlying23 hiN hn0 hn1 hn2 rfl (by decide) _ 0 [] rfl (own_empty r3 (Nat.le_refl _) 53 7) (.slice aM n kM) n cn rfl (HTX.out.1.up (below_trans HR3x.out (bel_up _ _))) HTX.out.2.1 HTX.out.2.2 HMN.out.1 HMN.out.2 (by rw [World.size_alloc]; omega) ?_; intro vO rO hoF hgF _; rw [Nat.zero_add] at hoF; obtain ⟨aO, kO, rfl⟩ := row_shape hoF; have HOO : Hid (rO.ownsRow r3.heap.size 53 7 (.slice aO n kO) n cn) := (by rw [List.nil_append] at hoF; exact hoF); have HBO : Hid (Below r3.heap.size r3 rO) := (bel_up r3 _).grown hgF (by rw [World.size_alloc]; omega) (fun r hr => by cases hr; exact Nat.le_refl _); clear hoF hgF)
        go_ret
        exact ⟨rfl, below_trans HBa.out HRZ.out⟩
end Go.Proofs.Ytbkhhegmmkcbbaa
