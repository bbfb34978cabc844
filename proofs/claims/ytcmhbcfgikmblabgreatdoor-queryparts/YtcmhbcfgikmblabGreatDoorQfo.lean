import Derived.Test.YtcmhbcfgikmblabGreatDoorQyf
namespace Go.Proofs.YtcmhbcfgikmblabGreatDoor.Qy
open Go.RowKit Go.Maps

set_option maxRecDepth 100000 in
set_option maxHeartbeats 16000000 in
theorem newSearch_any {vp vc vt : Value} {P : List Pn} {cs : List Cd} {T : List Tr.Nd} (w : World) (hp : Ps w vp P) (hc : Cs w vc cs) (ht : Tr.Ns w vt T) (hl : P.length ≤ 32) (hm : cs.length ≤ 16) (hP : Tr.Fo (pks P)) (hT : Tr.Fo (Tr.kds T)) (hz : Tr.Sm T) (s : ByteArray) : Calls Tryz.prog 20 #[.agg #[vp, vc], vt, .string s] w fun e w' => ∃ sb f vr vk ve, e = .returned (.pointer (some ⟨sb, 0, none⟩)) ∧ Sr w' sb f P cs T s vp vr vk vt ve ∧ Fd w' f (List.replicate P.length 0) ∧ Below w.heap.size w w' ∧ w.heap.size ≤ f := by
  obtain ⟨iI, hiI, hx0, hx1, hx2⟩ := info_parts infoI
  obtain ⟨W1, hW1⟩ : ∃ W1, W1 = w.alloc (.cells #[vp, vc] 25) := ⟨_, rfl⟩
  have HWB : Hid (Below w.heap.size w W1) := by rw [hW1]; exact bel_up _ _
  have hq1 : W1.heap[w.heap.size]? = some (.cells #[vp, vc] 25 (0, 0)) := by rw [hW1]; exact heap_new w _
  obtain ⟨qb, hqb⟩ : ∃ qb, w.heap.size = qb := ⟨_, rfl⟩
  rw [hqb] at hq1
  have HQC : Hid (∀ W, Below W1.heap.size W1 W → W.cell? ⟨qb, 0, none⟩ = some vp ∧ W.cell? ⟨qb, 1, none⟩ = some vc) := fun W hW => ⟨below_cell hW (rcell hq1 0 _ rfl), below_cell hW (rcell hq1 1 _ rfl)⟩
  have HPA : Hid (∀ W, Below W1.heap.size W1 W → Calls Tryz.prog 35 #[vp] W fun e w' => ∃ v' vs, e = .returned v' ∧ Pr W.heap.size w' v' vs P P.length ∧ Below W.heap.size W w') := fun W hW => parts_any W ((hp.up HWB.out).up hW) hl hP
  have HCL : Hid (∀ W, Below W1.heap.size W1 W → Calls Tryz.prog 36 #[.agg #[vp, vc]] W fun e w' => ∃ v', e = .returned v' ∧ w'.ownsRow W.heap.size 89 4 v' cs.length (flat (cl P) cs) ∧ Below W.heap.size W w') := fun W hW => claims_any W ((hp.up HWB.out).up hW) ((hc.up HWB.out).up hW) hl hm
  have HEN : Hid (∀ W, Below W1.heap.size W1 W → Calls Tryz.prog 37 #[vt] W fun e w' => ∃ v', e = .returned v' ∧ w'.ownsRow W.heap.size 3 1 v' (ends T).length (iC (ends T)) ∧ Below W.heap.size W w') := fun W hW => ends_any W ((ht.up HWB.out).up hW) hz hT
  have HRP : Hid (RwA 0 W1.heap.size W1 vp P.length (flat pf P)) := RwA.rw (hp.up HWB.out) (flat_len pf_len P) (by decide)
  have HRT : Hid (RwA 0 W1.heap.size W1 vt T.length (flat Tr.nf T)) := RwA.rw (ht.up HWB.out) (flat_len Tr.nf_len T) (by decide)
  obtain ⟨pa, pc, hvp⟩ := hp.form
  obtain ⟨ca, cc, hvc⟩ := hc.form
  obtain ⟨ta, tc, hvt⟩ := ht.form
  obtain ⟨pl, hpl⟩ : ∃ pl, P.length = pl := ⟨_, rfl⟩
  obtain ⟨cn, hcn⟩ : ∃ cn, cs.length = cn := ⟨_, rfl⟩
  obtain ⟨tl, htl⟩ : ∃ tl, T.length = tl := ⟨_, rfl⟩
  have HPL : Hid (P.length = pl) := hpl
  have HCN : Hid (cs.length = cn) := hcn
  have HTL : Hid (T.length = tl) := htl
  have HPZ : Hid (pl ≤ 32) := by rw [← hpl]; exact hl
  have hel : (ends T).length = tl := by rw [← htl]; unfold ends; simp
  rw [hpl] at hvp
  rw [hcn] at hvc
  rw [htl] at hvt
  subst hvp hvc hvt
  clear hp hc ht hl hm hP hT hz hq1
  rw [hpl] at HRP HPA
  rw [hcn] at HCL
  rw [htl] at HRT
  rw [hel] at HEN
  clear hpl hcn htl hel
  go_enter Tryz.func20, Tryz.ntmps20
  go_upto_region 1 with fail
  first | rw [← hW1, hqb] | rw [← hW1]
  clear hW1 hqb
  refine wp_region_noPanic ?_
  refine wp_region_held_drew (S := fun W => Below W1.heap.size W1 W) (by kernel_rfl) (Below.drew (Below.refl _ _)) (fun hHeld => ?_)
  refine wpAnyH_take (i := 0) (oi := { dst := _, op := _, type := _, pos := _, after := _, guard := _ }) (v := ?_) rfl (by kernel_rfl) (by kernel_rfl) (by kernel_rfl) (fun _ _ _ h => h) (Or.inl ⟨by rfl, ?_⟩) (by assumption) ?_
  rotate_left
  · intro W hSw
    (try dsimp only at hSw)
    go_simp
    (try with_reducible rfl)
  try simp only [Act.put, List.setIfInBounds_toArray, List.set_cons_zero, List.set_cons_succ]
  refine wpAnyH_take (i := 1) (oi := { dst := _, op := _, type := _, pos := _, after := _, guard := _ }) (v := ?_) rfl (by kernel_rfl) (by kernel_rfl) (by kernel_rfl) (fun _ _ _ h => h) (Or.inl ⟨by rfl, ?_⟩) (by assumption) ?_
  rotate_left
  · intro W hSw
    (try dsimp only at hSw)
    obtain ⟨k0, k1⟩ := HQC.out W hSw
    go_simp
    (try with_reducible rfl)
  try simp only [Act.put, List.setIfInBounds_toArray, List.set_cons_zero, List.set_cons_succ]
  refine wpAnyH_take (i := 2) (oi := { dst := _, op := _, type := _, pos := _, after := _, guard := _ }) (v := ?_) rfl (by kernel_rfl) (by kernel_rfl) (by kernel_rfl) (fun _ _ _ h => h) (Or.inl ⟨by rfl, ?_⟩) (by assumption) ?_
  rotate_left
  · intro W hSw
    (try dsimp only at hSw)
    go_simp
    (try with_reducible rfl)
  try simp only [Act.put, List.setIfInBounds_toArray, List.set_cons_zero, List.set_cons_succ]
  refine wpAnyH_take (i := 3) (oi := { dst := _, op := _, type := _, pos := _, after := _, guard := _ }) (v := ?_) rfl (by kernel_rfl) (by kernel_rfl) (by kernel_rfl) (fun _ _ _ h => h) (Or.inl ⟨by rfl, ?_⟩) (by assumption) ?_
  rotate_left
  · intro W hSw
    (try dsimp only at hSw)
    obtain ⟨k0, k1⟩ := HQC.out W hSw
    go_simp
    (try with_reducible rfl)
  try simp only [Act.put, List.setIfInBounds_toArray, List.set_cons_zero, List.set_cons_succ]
  refine wpAnyH_take (i := 5) (oi := { dst := _, op := _, type := _, pos := _, after := _, guard := _ }) (v := ?_) rfl (by kernel_rfl) (by kernel_rfl) (by kernel_rfl) (fun _ _ _ h => h) (Or.inl ⟨by rfl, ?_⟩) (by assumption) ?_
  rotate_left
  · intro W hSw
    (try dsimp only at hSw)
    obtain ⟨k0, k1⟩ := HQC.out W hSw
    go_simp
    (try with_reducible rfl)
  try simp only [Act.put, List.setIfInBounds_toArray, List.set_cons_zero, List.set_cons_succ]
  refine wpAnyH_take (i := 7) (oi := { dst := _, op := _, type := _, pos := _, after := _, guard := _ }) (v := ?_) rfl (by kernel_rfl) (by kernel_rfl) (by kernel_rfl) (fun _ _ _ h => h) (Or.inl ⟨by rfl, ?_⟩) (by assumption) ?_
  rotate_left
  · intro W hSw
    (try dsimp only at hSw)
    go_simp
    (try with_reducible rfl)
  try simp only [Act.put, List.setIfInBounds_toArray, List.set_cons_zero, List.set_cons_succ]
  refine wpAnyH_take (i := 8) (oi := { dst := _, op := _, type := _, pos := _, after := _, guard := _ }) (v := ?_) rfl (by kernel_rfl) (by kernel_rfl) (by kernel_rfl) (fun _ _ _ h => h) (Or.inl ⟨by rfl, ?_⟩) (by assumption) ?_
  rotate_left
  · intro W hSw
    (try dsimp only at hSw)
    go_simp
    (try with_reducible rfl)
  try simp only [Act.put, List.setIfInBounds_toArray, List.set_cons_zero, List.set_cons_succ]
  refine wpAnyH_take (i := 10) (oi := { dst := _, op := _, type := _, pos := _, after := _, guard := _ }) (v := ?_) rfl (by kernel_rfl) (by kernel_rfl) (by kernel_rfl) (fun _ _ _ h => h) (Or.inl ⟨by rfl, ?_⟩) (by assumption) ?_
  rotate_left
  · intro W hSw
    (try dsimp only at hSw)
    go_simp
    (try with_reducible rfl)
  try simp only [Act.put, List.setIfInBounds_toArray, List.set_cons_zero, List.set_cons_succ]
  refine wpAnyH_take (i := 11) (oi := { dst := _, op := _, type := _, pos := _, after := _, guard := _ }) (v := ?_) rfl (by kernel_rfl) (by kernel_rfl) (by kernel_rfl) (fun _ _ _ h => h) (Or.inl ⟨by rfl, ?_⟩) (by assumption) ?_
  rotate_left
  · intro W hSw
    (try dsimp only at hSw)
    go_simp
    (try with_reducible rfl)
  try simp only [Act.put, List.setIfInBounds_toArray, List.set_cons_zero, List.set_cons_succ]
  refine wpAnyH_take (i := 12) (oi := { dst := _, op := _, type := _, pos := _, after := _, guard := _ }) (v := ?_) rfl (by kernel_rfl) (by kernel_rfl) (by kernel_rfl) (fun _ _ _ h => h) (Or.inl ⟨by rfl, ?_⟩) (by assumption) ?_
  rotate_left
  · intro W hSw
    (try dsimp only at hSw)
    obtain ⟨k0, k1⟩ := HQC.out W hSw
    go_simp
    (try with_reducible rfl)
  try simp only [Act.put, List.setIfInBounds_toArray, List.set_cons_zero, List.set_cons_succ]
  refine wpAnyH_take (i := 13) (oi := { dst := _, op := _, type := _, pos := _, after := _, guard := _ }) (v := ?_) rfl (by kernel_rfl) (by kernel_rfl) (by kernel_rfl) (fun _ _ _ h => h) (Or.inl ⟨by rfl, ?_⟩) (by assumption) ?_
  rotate_left
  · intro W hSw
    (try dsimp only at hSw)
    go_simp
    (try with_reducible rfl)
  try simp only [Act.put, List.setIfInBounds_toArray, List.set_cons_zero, List.set_cons_succ]
  refine wpAnyH_ready (rs := [4, 14]) (by kernel_rfl) (by simp) ?_
  refine AllReadyH.cons (o := { dst := _, op := _, type := _, pos := _, after := _, guard := _ }) rfl (fun K hK => ?_) (AllReadyH.cons (o := { dst := _, op := _, type := _, pos := _, after := _, guard := _ }) rfl (fun K hK => ?_) (AllReadyH.nil))
  · go_simp
    refine Calls.mono (HPA.out _ (Below.drew (Below.refl _ _))) ?_
    rintro e Y4 ⟨vr, vs, rfl, hpr, hb⟩
    obtain ⟨ra, rc, hvr⟩ := row_shape hpr.ow
    subst hvr
    have HR4 : Hid (PrA W1.drew.heap.size Y4.heap.size Y4 (.slice ra pl rc) vs P) := PrA.of HPL.out hpr
    have HY4 : Hid (Below W1.heap.size W1 Y4) := below_trans (Below.drew (Below.refl _ _)) hb
    have HS4 : Hid (W1.drew.heap.size ≤ Y4.heap.size) := hb.size
    have HU4 : Hid (Below W1.drew.heap.size W1.drew Y4) := hb
    clear hpr hb
    go_wp2_with fail
    refine hK.out _ _ ?_ (fun hHeld => ?_)
    · exact HY4.out
    clear hK K
    try simp only [Act.put, List.setIfInBounds_toArray, List.set_cons_zero, List.set_cons_succ]
    refine wpAnyH_ready (rs := [6, 14]) (by kernel_rfl) (by simp) ?_
    refine AllReadyH.cons (o := { dst := _, op := _, type := _, pos := _, after := _, guard := _ }) rfl (fun K hK => ?_) (AllReadyH.cons (o := { dst := _, op := _, type := _, pos := _, after := _, guard := _ }) rfl (fun K hK => ?_) (AllReadyH.nil))
    · go_simp
      refine Calls.mono (HCL.out _ HY4.out) ?_
      rintro e Y6 ⟨vk, rfl, hpr, hb⟩
      obtain ⟨ka, kc, hvk⟩ := row_shape hpr
      subst hvk
      have HR6 : Hid (RwA Y4.heap.size Y6.heap.size Y6 (.slice ka cn kc) cn (flat (cl P) cs)) := RwA.own hpr
      have HY6 : Hid (Below W1.heap.size W1 Y6) := below_trans HY4.out hb
      have HS6 : Hid (Y4.heap.size ≤ Y6.heap.size) := hb.size
      have HU6 : Hid (Below Y4.heap.size Y4 Y6) := hb
      clear hpr hb
      go_wp2_with fail
      refine hK.out _ _ ?_ (fun hHeld => ?_)
      · exact HY6.out
      clear hK K
      try simp only [Act.put, List.setIfInBounds_toArray, List.set_cons_zero, List.set_cons_succ]
      refine wpAnyH_ready (rs := [9, 14]) (by kernel_rfl) (by simp) ?_
      refine AllReadyH.cons (o := { dst := _, op := _, type := _, pos := _, after := _, guard := _ }) rfl (fun K hK => ?_) (AllReadyH.cons (o := { dst := _, op := _, type := _, pos := _, after := _, guard := _ }) rfl (fun K hK => ?_) (AllReadyH.nil))
      · go_simp
        refine Calls.mono (HEN.out _ HY6.out) ?_
        rintro e Y9 ⟨ve, rfl, hpr, hb⟩
        obtain ⟨ea, ec, hve⟩ := row_shape hpr
        subst hve
        have HR9 : Hid (RwA Y6.heap.size Y9.heap.size Y9 (.slice ea tl ec) tl (iC (ends T))) := RwA.own hpr
        have HY9 : Hid (Below W1.heap.size W1 Y9) := below_trans HY6.out hb
        have HS9 : Hid (Y6.heap.size ≤ Y9.heap.size) := hb.size
        have HU9 : Hid (Below Y6.heap.size Y6 Y9) := hb
        clear hpr hb
        go_wp2_with fail
        refine hK.out _ _ ?_ (fun hHeld => ?_)
        · exact HY9.out
        clear hK K
        try simp only [Act.put, List.setIfInBounds_toArray, List.set_cons_zero, List.set_cons_succ]
        refine wpAnyH_ready (rs := [14]) (by kernel_rfl) (by simp) ?_
        refine AllReadyH.cons (o := { dst := _, op := _, type := _, pos := _, after := _, guard := _ }) rfl (fun K hK => ?_) (AllReadyH.nil)
        obtain ⟨Y14, hrun, hown, hgr⟩ := run_make_full (P := Tryz.prog) Y9 Y9.heap.size 34 3 iI _ 1 Tryz.underlying34 hiI hx0 hx1 .i64 .i64 pl (by rw [hx2]; have := HPZ.out; omega) (by have := HPZ.out; unfold maxLen; omega) (Nat.le_refl _)
        rw [made_ints] at hown
        obtain ⟨hfd, hflt⟩ := full_block hown
        have HFD : Hid (Fd Y14 Y9.heap.size (List.replicate pl 0)) := hfd
        have HFL : Hid (Y9.heap.size < Y14.heap.size) := hflt
        have HU14 : Hid (Below Y9.heap.size Y9 Y14) := (Below.refl _ _).grown hgr (Nat.le_refl _) (fun r hr => by cases hr)
        have HY14 : Hid (Below W1.heap.size W1 Y14) := below_trans HY9.out HU14.out
        have HS14 : Hid (Y9.heap.size ≤ Y14.heap.size) := Nat.le_of_lt hflt
        refine step_make rfl (.tmp 20) (.tmp 20) 34 rfl _ _ _ Y14 rfl rfl hrun ?_
        clear hrun hown hgr hfd hflt
        refine hK.out _ _ ?_ (fun hHeld => ?_)
        · exact HY14.out
        clear hK K
        try simp only [Act.put, List.setIfInBounds_toArray, List.set_cons_zero, List.set_cons_succ]
        refine wpAnyH_take (i := 15) (oi := { dst := _, op := _, type := _, pos := _, after := _, guard := _ }) (v := ?_) rfl (by kernel_rfl) (by kernel_rfl) (by kernel_rfl) (fun _ _ _ h => h) (Or.inl ⟨by rfl, ?_⟩) (by assumption) ?_
        rotate_left
        · intro W hSw
          (try dsimp only at hSw)
          go_simp
          (try with_reducible rfl)
        try simp only [Act.put, List.setIfInBounds_toArray, List.set_cons_zero, List.set_cons_succ]
        obtain ⟨f, hfe⟩ : ∃ f, Y9.heap.size = f := ⟨_, rfl⟩
        have HFE : Hid (Y9.heap.size = f) := hfe
        rw [hfe] at HFD
        have hsr : ∀ WF, Below Y14.heap.size Y14 WF → Fd WF f (List.replicate pl 0) ∧ RwN f WF (.slice pa pl pc) pl (flat pf P) ∧ RwN f WF (.slice ka cn kc) cn (flat (cl P) cs) ∧ RwN f WF (.slice ta tl tc) tl (flat Tr.nf T) ∧ RwN f WF (.slice ea tl ec) tl (iC (ends T)) ∧ ∃ vs : List Value, vs.length = P.length ∧ RwN f WF (.slice ra pl rc) P.length vs ∧ ∀ i x, vs[i]? = some x → RwN f WF x (Tr.kA (pks P) i) (iC (Tr.kl (pks P) i (Tr.kA (pks P) i))) := fun WF hWF => by
          have r4 := (HR4.out.up (below_trans (below_trans HU6.out HU9.out) HU14.out)).up hWF
          have r6 := (HR6.out.up (below_trans HU9.out HU14.out)).up hWF
          have r9 := (HR9.out.up HU14.out).up hWF
          have hel : (ends T).length = tl := by rw [← HTL.out]; unfold ends; simp
          have f14 : Fd WF f (List.replicate pl 0) := HFD.out.up hWF
          have rp := (HRP.out.up HY14.out).up hWF
          have rt := (HRT.out.up HY14.out).up hWF
          exact ⟨f14, rp.nof (by have z4 := HS4.out; have z6 := HS6.out; have z9 := HS9.out; have z14 := HS14.out; have zf := HFL.out; have zq := HFE.out; have zw : W1.drew.heap.size = W1.heap.size := rfl; right; omega) (by rw [flat_len pf_len, HPL.out]), r6.nof (by have z4 := HS4.out; have z6 := HS6.out; have z9 := HS9.out; have z14 := HS14.out; have zf := HFL.out; have zq := HFE.out; have zw : W1.drew.heap.size = W1.heap.size := rfl; right; omega) (by rw [flat_len (cl_len P), HCN.out]), rt.nof (by have z4 := HS4.out; have z6 := HS6.out; have z9 := HS9.out; have z14 := HS14.out; have zf := HFL.out; have zq := HFE.out; have zw : W1.drew.heap.size = W1.heap.size := rfl; right; omega) (by rw [flat_len Tr.nf_len, HTL.out]), r9.nof (by have z4 := HS4.out; have z6 := HS6.out; have z9 := HS9.out; have z14 := HS14.out; have zf := HFL.out; have zq := HFE.out; have zw : W1.drew.heap.size = W1.heap.size := rfl; right; omega) (by rw [iC_len, hel]), vs, r4.1, r4.2.1.nof (by have z4 := HS4.out; have z6 := HS6.out; have z9 := HS9.out; have z14 := HS14.out; have zf := HFL.out; have zq := HFE.out; have zw : W1.drew.heap.size = W1.heap.size := rfl; right; omega) (by rw [r4.1, Nat.mul_one]), fun i x hx => (r4.2.2 i x hx).nof (by have z4 := HS4.out; have z6 := HS6.out; have z9 := HS9.out; have z14 := HS14.out; have zf := HFL.out; have zq := HFE.out; have zw : W1.drew.heap.size = W1.heap.size := rfl; right; omega) (by rw [iC_len, Tr.kl_len])⟩
        have HSR : Hid _ := hsr
        have HFF : Hid (f < Y14.heap.size ∧ w.heap.size ≤ f) := by have zz := HWB.out.size; have z4 := HS4.out; have z6 := HS6.out; have z9 := HS9.out; have z14 := HS14.out; have zf := HFL.out; have zq := HFE.out; have zw : W1.drew.heap.size = W1.heap.size := rfl; exact ⟨by omega, by omega⟩
        clear hsr hfe
        refine wpAnyH_ready (rs := [16]) (by kernel_rfl) (by simp) ?_
        refine AllReadyH.cons (o := { dst := _, op := _, type := _, pos := _, after := _, guard := _ }) rfl (fun K hK => ?_) AllReadyH.nil
        go_simp
        obtain ⟨WF, hWF⟩ : ∃ WF, WF = Y14.alloc (.cells #[.slice pa pl pc, .slice ra pl rc, .slice ka cn kc, .slice ta tl tc, .slice ea tl ec, .string s, .slice (some ⟨f, 0, none⟩) pl pl] 65) := ⟨_, rfl⟩
        first | rw [HFE.out] | rw [show W1.heap.size = f from HFE.out] | skip
        first | rw [← hWF] | skip
        have HWF : Hid (Below Y14.heap.size Y14 WF) := by rw [hWF]; exact bel_up _ _
        have HSB : Hid (WF.heap[Y14.heap.size]? = some (.cells #[.slice pa pl pc, .slice ra pl rc, .slice ka cn kc, .slice ta tl tc, .slice ea tl ec, .string s, .slice (some ⟨f, 0, none⟩) pl pl] 65 (0, 0))) := by rw [hWF]; exact heap_new Y14 _
        have HWW : Hid (Below W1.heap.size W1 WF) := below_trans HY14.out HWF.out
        clear hWF
        refine hK.out _ _ ?_ (fun hHeld => ?_)
        · exact HWW.out
        clear hK K
        try simp only [Act.put, List.setIfInBounds_toArray, List.set_cons_zero, List.set_cons_succ]
        refine wpAnyH_take (i := 17) (oi := { dst := _, op := _, type := _, pos := _, after := _, guard := _ }) (v := ?_) rfl (by kernel_rfl) (by kernel_rfl) (by kernel_rfl) (fun _ _ _ h => h) (Or.inl ⟨by rfl, ?_⟩) (by assumption) ?_
        rotate_left
        · intro W hSw
          (try dsimp only at hSw)
          go_simp
          (try with_reducible rfl)
        try simp only [Act.put, List.setIfInBounds_toArray, List.set_cons_zero, List.set_cons_succ]
        refine wpAnyH_done (by kernel_rfl) ?_ _
        clear hHeld
        refine NoPanic.normal ?_
        go_wp2_with fail
        go_ret
        obtain ⟨q1, q2, q3, q4, q5, q6⟩ := HSR.out WF HWF.out
        refine ⟨_, f, .slice ra pl rc, .slice ka cn kc, .slice ea tl ec, rfl, ⟨by rw [HPL.out]; exact HSB.out, by have := HFF.out; omega, by rw [HPL.out]; exact q2, by rw [HCN.out]; exact q3, by rw [HTL.out]; exact q4, by rw [HTL.out]; exact q5, q6⟩, by rw [HPL.out]; exact q1, below_trans HWB.out HWW.out, HFF.out.2⟩
      · obtain ⟨Y14, hrun, hown, hgr⟩ := run_make_full (P := Tryz.prog) Y6 Y6.heap.size 34 3 iI _ 1 Tryz.underlying34 hiI hx0 hx1 .i64 .i64 pl (by rw [hx2]; have := HPZ.out; omega) (by have := HPZ.out; unfold maxLen; omega) (Nat.le_refl _)
        rw [made_ints] at hown
        obtain ⟨hfd, hflt⟩ := full_block hown
        have HFD : Hid (Fd Y14 Y6.heap.size (List.replicate pl 0)) := hfd
        have HFL : Hid (Y6.heap.size < Y14.heap.size) := hflt
        have HU14 : Hid (Below Y6.heap.size Y6 Y14) := (Below.refl _ _).grown hgr (Nat.le_refl _) (fun r hr => by cases hr)
        have HY14 : Hid (Below W1.heap.size W1 Y14) := below_trans HY6.out HU14.out
        have HS14 : Hid (Y6.heap.size ≤ Y14.heap.size) := Nat.le_of_lt hflt
        refine step_make rfl (.tmp 20) (.tmp 20) 34 rfl _ _ _ Y14 rfl rfl hrun ?_
        clear hrun hown hgr hfd hflt
        refine hK.out _ _ ?_ (fun hHeld => ?_)
        · exact HY14.out
        clear hK K
        try simp only [Act.put, List.setIfInBounds_toArray, List.set_cons_zero, List.set_cons_succ]
        refine wpAnyH_ready (rs := [9]) (by kernel_rfl) (by simp) ?_
        refine AllReadyH.cons (o := { dst := _, op := _, type := _, pos := _, after := _, guard := _ }) rfl (fun K hK => ?_) (AllReadyH.nil)
        go_simp
        refine Calls.mono (HEN.out _ HY14.out) ?_
        rintro e Y9 ⟨ve, rfl, hpr, hb⟩
        obtain ⟨ea, ec, hve⟩ := row_shape hpr
        subst hve
        have HR9 : Hid (RwA Y14.heap.size Y9.heap.size Y9 (.slice ea tl ec) tl (iC (ends T))) := RwA.own hpr
        have HY9 : Hid (Below W1.heap.size W1 Y9) := below_trans HY14.out hb
        have HS9 : Hid (Y14.heap.size ≤ Y9.heap.size) := hb.size
        have HU9 : Hid (Below Y14.heap.size Y14 Y9) := hb
        clear hpr hb
        go_wp2_with fail
        refine hK.out _ _ ?_ (fun hHeld => ?_)
        · exact HY9.out
        clear hK K
        try simp only [Act.put, List.setIfInBounds_toArray, List.set_cons_zero, List.set_cons_succ]
        refine wpAnyH_take (i := 15) (oi := { dst := _, op := _, type := _, pos := _, after := _, guard := _ }) (v := ?_) rfl (by kernel_rfl) (by kernel_rfl) (by kernel_rfl) (fun _ _ _ h => h) (Or.inl ⟨by rfl, ?_⟩) (by assumption) ?_
        rotate_left
        · intro W hSw
          (try dsimp only at hSw)
          go_simp
          (try with_reducible rfl)
        try simp only [Act.put, List.setIfInBounds_toArray, List.set_cons_zero, List.set_cons_succ]
        obtain ⟨f, hfe⟩ : ∃ f, Y6.heap.size = f := ⟨_, rfl⟩
        have HFE : Hid (Y6.heap.size = f) := hfe
        rw [hfe] at HFD
        have hsr : ∀ WF, Below Y9.heap.size Y9 WF → Fd WF f (List.replicate pl 0) ∧ RwN f WF (.slice pa pl pc) pl (flat pf P) ∧ RwN f WF (.slice ka cn kc) cn (flat (cl P) cs) ∧ RwN f WF (.slice ta tl tc) tl (flat Tr.nf T) ∧ RwN f WF (.slice ea tl ec) tl (iC (ends T)) ∧ ∃ vs : List Value, vs.length = P.length ∧ RwN f WF (.slice ra pl rc) P.length vs ∧ ∀ i x, vs[i]? = some x → RwN f WF x (Tr.kA (pks P) i) (iC (Tr.kl (pks P) i (Tr.kA (pks P) i))) := fun WF hWF => by
          have r4 := (HR4.out.up (below_trans (below_trans HU6.out HU14.out) HU9.out)).up hWF
          have r6 := (HR6.out.up (below_trans HU14.out HU9.out)).up hWF
          have r9 := HR9.out.up hWF
          have hel : (ends T).length = tl := by rw [← HTL.out]; unfold ends; simp
          have f14 : Fd WF f (List.replicate pl 0) := (HFD.out.up HU9.out).up hWF
          have rp := (HRP.out.up HY9.out).up hWF
          have rt := (HRT.out.up HY9.out).up hWF
          exact ⟨f14, rp.nof (by have z4 := HS4.out; have z6 := HS6.out; have z14 := HS14.out; have z9 := HS9.out; have zf := HFL.out; have zq := HFE.out; have zw : W1.drew.heap.size = W1.heap.size := rfl; right; omega) (by rw [flat_len pf_len, HPL.out]), r6.nof (by have z4 := HS4.out; have z6 := HS6.out; have z14 := HS14.out; have z9 := HS9.out; have zf := HFL.out; have zq := HFE.out; have zw : W1.drew.heap.size = W1.heap.size := rfl; right; omega) (by rw [flat_len (cl_len P), HCN.out]), rt.nof (by have z4 := HS4.out; have z6 := HS6.out; have z14 := HS14.out; have z9 := HS9.out; have zf := HFL.out; have zq := HFE.out; have zw : W1.drew.heap.size = W1.heap.size := rfl; right; omega) (by rw [flat_len Tr.nf_len, HTL.out]), r9.nof (by have z4 := HS4.out; have z6 := HS6.out; have z14 := HS14.out; have z9 := HS9.out; have zf := HFL.out; have zq := HFE.out; have zw : W1.drew.heap.size = W1.heap.size := rfl; left; omega) (by rw [iC_len, hel]), vs, r4.1, r4.2.1.nof (by have z4 := HS4.out; have z6 := HS6.out; have z14 := HS14.out; have z9 := HS9.out; have zf := HFL.out; have zq := HFE.out; have zw : W1.drew.heap.size = W1.heap.size := rfl; right; omega) (by rw [r4.1, Nat.mul_one]), fun i x hx => (r4.2.2 i x hx).nof (by have z4 := HS4.out; have z6 := HS6.out; have z14 := HS14.out; have z9 := HS9.out; have zf := HFL.out; have zq := HFE.out; have zw : W1.drew.heap.size = W1.heap.size := rfl; right; omega) (by rw [iC_len, Tr.kl_len])⟩
        have HSR : Hid _ := hsr
        have HFF : Hid (f < Y9.heap.size ∧ w.heap.size ≤ f) := by have zz := HWB.out.size; have z4 := HS4.out; have z6 := HS6.out; have z14 := HS14.out; have z9 := HS9.out; have zf := HFL.out; have zq := HFE.out; have zw : W1.drew.heap.size = W1.heap.size := rfl; exact ⟨by omega, by omega⟩
        clear hsr hfe
        refine wpAnyH_ready (rs := [16]) (by kernel_rfl) (by simp) ?_
        refine AllReadyH.cons (o := { dst := _, op := _, type := _, pos := _, after := _, guard := _ }) rfl (fun K hK => ?_) AllReadyH.nil
        go_simp
        obtain ⟨WF, hWF⟩ : ∃ WF, WF = Y9.alloc (.cells #[.slice pa pl pc, .slice ra pl rc, .slice ka cn kc, .slice ta tl tc, .slice ea tl ec, .string s, .slice (some ⟨f, 0, none⟩) pl pl] 65) := ⟨_, rfl⟩
        first | rw [HFE.out] | rw [show W1.heap.size = f from HFE.out] | skip
        first | rw [← hWF] | skip
        have HWF : Hid (Below Y9.heap.size Y9 WF) := by rw [hWF]; exact bel_up _ _
        have HSB : Hid (WF.heap[Y9.heap.size]? = some (.cells #[.slice pa pl pc, .slice ra pl rc, .slice ka cn kc, .slice ta tl tc, .slice ea tl ec, .string s, .slice (some ⟨f, 0, none⟩) pl pl] 65 (0, 0))) := by rw [hWF]; exact heap_new Y9 _
        have HWW : Hid (Below W1.heap.size W1 WF) := below_trans HY9.out HWF.out
        clear hWF
        refine hK.out _ _ ?_ (fun hHeld => ?_)
        · exact HWW.out
        clear hK K
        try simp only [Act.put, List.setIfInBounds_toArray, List.set_cons_zero, List.set_cons_succ]
        refine wpAnyH_take (i := 17) (oi := { dst := _, op := _, type := _, pos := _, after := _, guard := _ }) (v := ?_) rfl (by kernel_rfl) (by kernel_rfl) (by kernel_rfl) (fun _ _ _ h => h) (Or.inl ⟨by rfl, ?_⟩) (by assumption) ?_
        rotate_left
        · intro W hSw
          (try dsimp only at hSw)
          go_simp
          (try with_reducible rfl)
        try simp only [Act.put, List.setIfInBounds_toArray, List.set_cons_zero, List.set_cons_succ]
        refine wpAnyH_done (by kernel_rfl) ?_ _
        clear hHeld
        refine NoPanic.normal ?_
        go_wp2_with fail
        go_ret
        obtain ⟨q1, q2, q3, q4, q5, q6⟩ := HSR.out WF HWF.out
        refine ⟨_, f, .slice ra pl rc, .slice ka cn kc, .slice ea tl ec, rfl, ⟨by rw [HPL.out]; exact HSB.out, by have := HFF.out; omega, by rw [HPL.out]; exact q2, by rw [HCN.out]; exact q3, by rw [HTL.out]; exact q4, by rw [HTL.out]; exact q5, q6⟩, by rw [HPL.out]; exact q1, below_trans HWB.out HWW.out, HFF.out.2⟩
    · obtain ⟨Y14, hrun, hown, hgr⟩ := run_make_full (P := Tryz.prog) Y4 Y4.heap.size 34 3 iI _ 1 Tryz.underlying34 hiI hx0 hx1 .i64 .i64 pl (by rw [hx2]; have := HPZ.out; omega) (by have := HPZ.out; unfold maxLen; omega) (Nat.le_refl _)
      rw [made_ints] at hown
      obtain ⟨hfd, hflt⟩ := full_block hown
      have HFD : Hid (Fd Y14 Y4.heap.size (List.replicate pl 0)) := hfd
      have HFL : Hid (Y4.heap.size < Y14.heap.size) := hflt
      have HU14 : Hid (Below Y4.heap.size Y4 Y14) := (Below.refl _ _).grown hgr (Nat.le_refl _) (fun r hr => by cases hr)
      have HY14 : Hid (Below W1.heap.size W1 Y14) := below_trans HY4.out HU14.out
      have HS14 : Hid (Y4.heap.size ≤ Y14.heap.size) := Nat.le_of_lt hflt
      refine step_make rfl (.tmp 20) (.tmp 20) 34 rfl _ _ _ Y14 rfl rfl hrun ?_
      clear hrun hown hgr hfd hflt
      refine hK.out _ _ ?_ (fun hHeld => ?_)
      · exact HY14.out
      clear hK K
      try simp only [Act.put, List.setIfInBounds_toArray, List.set_cons_zero, List.set_cons_succ]
      refine wpAnyH_ready (rs := [6]) (by kernel_rfl) (by simp) ?_
      refine AllReadyH.cons (o := { dst := _, op := _, type := _, pos := _, after := _, guard := _ }) rfl (fun K hK => ?_) (AllReadyH.nil)
      go_simp
      refine Calls.mono (HCL.out _ HY14.out) ?_
      rintro e Y6 ⟨vk, rfl, hpr, hb⟩
      obtain ⟨ka, kc, hvk⟩ := row_shape hpr
      subst hvk
      have HR6 : Hid (RwA Y14.heap.size Y6.heap.size Y6 (.slice ka cn kc) cn (flat (cl P) cs)) := RwA.own hpr
      have HY6 : Hid (Below W1.heap.size W1 Y6) := below_trans HY14.out hb
      have HS6 : Hid (Y14.heap.size ≤ Y6.heap.size) := hb.size
      have HU6 : Hid (Below Y14.heap.size Y14 Y6) := hb
      clear hpr hb
      go_wp2_with fail
      refine hK.out _ _ ?_ (fun hHeld => ?_)
      · exact HY6.out
      clear hK K
      try simp only [Act.put, List.setIfInBounds_toArray, List.set_cons_zero, List.set_cons_succ]
      refine wpAnyH_ready (rs := [9]) (by kernel_rfl) (by simp) ?_
      refine AllReadyH.cons (o := { dst := _, op := _, type := _, pos := _, after := _, guard := _ }) rfl (fun K hK => ?_) (AllReadyH.nil)
      go_simp
      refine Calls.mono (HEN.out _ HY6.out) ?_
      rintro e Y9 ⟨ve, rfl, hpr, hb⟩
      obtain ⟨ea, ec, hve⟩ := row_shape hpr
      subst hve
      have HR9 : Hid (RwA Y6.heap.size Y9.heap.size Y9 (.slice ea tl ec) tl (iC (ends T))) := RwA.own hpr
      have HY9 : Hid (Below W1.heap.size W1 Y9) := below_trans HY6.out hb
      have HS9 : Hid (Y6.heap.size ≤ Y9.heap.size) := hb.size
      have HU9 : Hid (Below Y6.heap.size Y6 Y9) := hb
      clear hpr hb
      go_wp2_with fail
      refine hK.out _ _ ?_ (fun hHeld => ?_)
      · exact HY9.out
      clear hK K
      try simp only [Act.put, List.setIfInBounds_toArray, List.set_cons_zero, List.set_cons_succ]
      refine wpAnyH_take (i := 15) (oi := { dst := _, op := _, type := _, pos := _, after := _, guard := _ }) (v := ?_) rfl (by kernel_rfl) (by kernel_rfl) (by kernel_rfl) (fun _ _ _ h => h) (Or.inl ⟨by rfl, ?_⟩) (by assumption) ?_
      rotate_left
      · intro W hSw
        (try dsimp only at hSw)
        go_simp
        (try with_reducible rfl)
      try simp only [Act.put, List.setIfInBounds_toArray, List.set_cons_zero, List.set_cons_succ]
      obtain ⟨f, hfe⟩ : ∃ f, Y4.heap.size = f := ⟨_, rfl⟩
      have HFE : Hid (Y4.heap.size = f) := hfe
      rw [hfe] at HFD
      have hsr : ∀ WF, Below Y9.heap.size Y9 WF → Fd WF f (List.replicate pl 0) ∧ RwN f WF (.slice pa pl pc) pl (flat pf P) ∧ RwN f WF (.slice ka cn kc) cn (flat (cl P) cs) ∧ RwN f WF (.slice ta tl tc) tl (flat Tr.nf T) ∧ RwN f WF (.slice ea tl ec) tl (iC (ends T)) ∧ ∃ vs : List Value, vs.length = P.length ∧ RwN f WF (.slice ra pl rc) P.length vs ∧ ∀ i x, vs[i]? = some x → RwN f WF x (Tr.kA (pks P) i) (iC (Tr.kl (pks P) i (Tr.kA (pks P) i))) := fun WF hWF => by
        have r4 := (HR4.out.up (below_trans (below_trans HU14.out HU6.out) HU9.out)).up hWF
        have r6 := (HR6.out.up HU9.out).up hWF
        have r9 := HR9.out.up hWF
        have hel : (ends T).length = tl := by rw [← HTL.out]; unfold ends; simp
        have f14 : Fd WF f (List.replicate pl 0) := (HFD.out.up (below_trans HU6.out HU9.out)).up hWF
        have rp := (HRP.out.up HY9.out).up hWF
        have rt := (HRT.out.up HY9.out).up hWF
        exact ⟨f14, rp.nof (by have z4 := HS4.out; have z14 := HS14.out; have z6 := HS6.out; have z9 := HS9.out; have zf := HFL.out; have zq := HFE.out; have zw : W1.drew.heap.size = W1.heap.size := rfl; right; omega) (by rw [flat_len pf_len, HPL.out]), r6.nof (by have z4 := HS4.out; have z14 := HS14.out; have z6 := HS6.out; have z9 := HS9.out; have zf := HFL.out; have zq := HFE.out; have zw : W1.drew.heap.size = W1.heap.size := rfl; left; omega) (by rw [flat_len (cl_len P), HCN.out]), rt.nof (by have z4 := HS4.out; have z14 := HS14.out; have z6 := HS6.out; have z9 := HS9.out; have zf := HFL.out; have zq := HFE.out; have zw : W1.drew.heap.size = W1.heap.size := rfl; right; omega) (by rw [flat_len Tr.nf_len, HTL.out]), r9.nof (by have z4 := HS4.out; have z14 := HS14.out; have z6 := HS6.out; have z9 := HS9.out; have zf := HFL.out; have zq := HFE.out; have zw : W1.drew.heap.size = W1.heap.size := rfl; left; omega) (by rw [iC_len, hel]), vs, r4.1, r4.2.1.nof (by have z4 := HS4.out; have z14 := HS14.out; have z6 := HS6.out; have z9 := HS9.out; have zf := HFL.out; have zq := HFE.out; have zw : W1.drew.heap.size = W1.heap.size := rfl; right; omega) (by rw [r4.1, Nat.mul_one]), fun i x hx => (r4.2.2 i x hx).nof (by have z4 := HS4.out; have z14 := HS14.out; have z6 := HS6.out; have z9 := HS9.out; have zf := HFL.out; have zq := HFE.out; have zw : W1.drew.heap.size = W1.heap.size := rfl; right; omega) (by rw [iC_len, Tr.kl_len])⟩
      have HSR : Hid _ := hsr
      have HFF : Hid (f < Y9.heap.size ∧ w.heap.size ≤ f) := by have zz := HWB.out.size; have z4 := HS4.out; have z14 := HS14.out; have z6 := HS6.out; have z9 := HS9.out; have zf := HFL.out; have zq := HFE.out; have zw : W1.drew.heap.size = W1.heap.size := rfl; exact ⟨by omega, by omega⟩
      clear hsr hfe
      refine wpAnyH_ready (rs := [16]) (by kernel_rfl) (by simp) ?_
      refine AllReadyH.cons (o := { dst := _, op := _, type := _, pos := _, after := _, guard := _ }) rfl (fun K hK => ?_) AllReadyH.nil
      go_simp
      obtain ⟨WF, hWF⟩ : ∃ WF, WF = Y9.alloc (.cells #[.slice pa pl pc, .slice ra pl rc, .slice ka cn kc, .slice ta tl tc, .slice ea tl ec, .string s, .slice (some ⟨f, 0, none⟩) pl pl] 65) := ⟨_, rfl⟩
      first | rw [HFE.out] | rw [show W1.heap.size = f from HFE.out] | skip
      first | rw [← hWF] | skip
      have HWF : Hid (Below Y9.heap.size Y9 WF) := by rw [hWF]; exact bel_up _ _
      have HSB : Hid (WF.heap[Y9.heap.size]? = some (.cells #[.slice pa pl pc, .slice ra pl rc, .slice ka cn kc, .slice ta tl tc, .slice ea tl ec, .string s, .slice (some ⟨f, 0, none⟩) pl pl] 65 (0, 0))) := by rw [hWF]; exact heap_new Y9 _
      have HWW : Hid (Below W1.heap.size W1 WF) := below_trans HY9.out HWF.out
      clear hWF
      refine hK.out _ _ ?_ (fun hHeld => ?_)
      · exact HWW.out
      clear hK K
      try simp only [Act.put, List.setIfInBounds_toArray, List.set_cons_zero, List.set_cons_succ]
      refine wpAnyH_take (i := 17) (oi := { dst := _, op := _, type := _, pos := _, after := _, guard := _ }) (v := ?_) rfl (by kernel_rfl) (by kernel_rfl) (by kernel_rfl) (fun _ _ _ h => h) (Or.inl ⟨by rfl, ?_⟩) (by assumption) ?_
      rotate_left
      · intro W hSw
        (try dsimp only at hSw)
        go_simp
        (try with_reducible rfl)
      try simp only [Act.put, List.setIfInBounds_toArray, List.set_cons_zero, List.set_cons_succ]
      refine wpAnyH_done (by kernel_rfl) ?_ _
      clear hHeld
      refine NoPanic.normal ?_
      go_wp2_with fail
      go_ret
      obtain ⟨q1, q2, q3, q4, q5, q6⟩ := HSR.out WF HWF.out
      refine ⟨_, f, .slice ra pl rc, .slice ka cn kc, .slice ea tl ec, rfl, ⟨by rw [HPL.out]; exact HSB.out, by have := HFF.out; omega, by rw [HPL.out]; exact q2, by rw [HCN.out]; exact q3, by rw [HTL.out]; exact q4, by rw [HTL.out]; exact q5, q6⟩, by rw [HPL.out]; exact q1, below_trans HWB.out HWW.out, HFF.out.2⟩
  · obtain ⟨Y14, hrun, hown, hgr⟩ := run_make_full (P := Tryz.prog) W1.drew W1.drew.heap.size 34 3 iI _ 1 Tryz.underlying34 hiI hx0 hx1 .i64 .i64 pl (by rw [hx2]; have := HPZ.out; omega) (by have := HPZ.out; unfold maxLen; omega) (Nat.le_refl _)
    rw [made_ints] at hown
    obtain ⟨hfd, hflt⟩ := full_block hown
    have HFD : Hid (Fd Y14 W1.drew.heap.size (List.replicate pl 0)) := hfd
    have HFL : Hid (W1.drew.heap.size < Y14.heap.size) := hflt
    have HU14 : Hid (Below W1.drew.heap.size W1.drew Y14) := (Below.refl _ _).grown hgr (Nat.le_refl _) (fun r hr => by cases hr)
    have HY14 : Hid (Below W1.heap.size W1 Y14) := below_trans (Below.drew (Below.refl _ _)) HU14.out
    have HS14 : Hid (W1.drew.heap.size ≤ Y14.heap.size) := Nat.le_of_lt hflt
    refine step_make rfl (.tmp 20) (.tmp 20) 34 rfl _ _ _ Y14 rfl rfl hrun ?_
    clear hrun hown hgr hfd hflt
    refine hK.out _ _ ?_ (fun hHeld => ?_)
    · exact HY14.out
    clear hK K
    try simp only [Act.put, List.setIfInBounds_toArray, List.set_cons_zero, List.set_cons_succ]
    refine wpAnyH_ready (rs := [4]) (by kernel_rfl) (by simp) ?_
    refine AllReadyH.cons (o := { dst := _, op := _, type := _, pos := _, after := _, guard := _ }) rfl (fun K hK => ?_) (AllReadyH.nil)
    go_simp
    refine Calls.mono (HPA.out _ HY14.out) ?_
    rintro e Y4 ⟨vr, vs, rfl, hpr, hb⟩
    obtain ⟨ra, rc, hvr⟩ := row_shape hpr.ow
    subst hvr
    have HR4 : Hid (PrA Y14.heap.size Y4.heap.size Y4 (.slice ra pl rc) vs P) := PrA.of HPL.out hpr
    have HY4 : Hid (Below W1.heap.size W1 Y4) := below_trans HY14.out hb
    have HS4 : Hid (Y14.heap.size ≤ Y4.heap.size) := hb.size
    have HU4 : Hid (Below Y14.heap.size Y14 Y4) := hb
    clear hpr hb
    go_wp2_with fail
    refine hK.out _ _ ?_ (fun hHeld => ?_)
    · exact HY4.out
    clear hK K
    try simp only [Act.put, List.setIfInBounds_toArray, List.set_cons_zero, List.set_cons_succ]
    refine wpAnyH_ready (rs := [6]) (by kernel_rfl) (by simp) ?_
    refine AllReadyH.cons (o := { dst := _, op := _, type := _, pos := _, after := _, guard := _ }) rfl (fun K hK => ?_) (AllReadyH.nil)
    go_simp
    refine Calls.mono (HCL.out _ HY4.out) ?_
    rintro e Y6 ⟨vk, rfl, hpr, hb⟩
    obtain ⟨ka, kc, hvk⟩ := row_shape hpr
    subst hvk
    have HR6 : Hid (RwA Y4.heap.size Y6.heap.size Y6 (.slice ka cn kc) cn (flat (cl P) cs)) := RwA.own hpr
    have HY6 : Hid (Below W1.heap.size W1 Y6) := below_trans HY4.out hb
    have HS6 : Hid (Y4.heap.size ≤ Y6.heap.size) := hb.size
    have HU6 : Hid (Below Y4.heap.size Y4 Y6) := hb
    clear hpr hb
    go_wp2_with fail
    refine hK.out _ _ ?_ (fun hHeld => ?_)
    · exact HY6.out
    clear hK K
    try simp only [Act.put, List.setIfInBounds_toArray, List.set_cons_zero, List.set_cons_succ]
    refine wpAnyH_ready (rs := [9]) (by kernel_rfl) (by simp) ?_
    refine AllReadyH.cons (o := { dst := _, op := _, type := _, pos := _, after := _, guard := _ }) rfl (fun K hK => ?_) (AllReadyH.nil)
    go_simp
    refine Calls.mono (HEN.out _ HY6.out) ?_
    rintro e Y9 ⟨ve, rfl, hpr, hb⟩
    obtain ⟨ea, ec, hve⟩ := row_shape hpr
    subst hve
    have HR9 : Hid (RwA Y6.heap.size Y9.heap.size Y9 (.slice ea tl ec) tl (iC (ends T))) := RwA.own hpr
    have HY9 : Hid (Below W1.heap.size W1 Y9) := below_trans HY6.out hb
    have HS9 : Hid (Y6.heap.size ≤ Y9.heap.size) := hb.size
    have HU9 : Hid (Below Y6.heap.size Y6 Y9) := hb
    clear hpr hb
    go_wp2_with fail
    refine hK.out _ _ ?_ (fun hHeld => ?_)
    · exact HY9.out
    clear hK K
    try simp only [Act.put, List.setIfInBounds_toArray, List.set_cons_zero, List.set_cons_succ]
    refine wpAnyH_take (i := 15) (oi := { dst := _, op := _, type := _, pos := _, after := _, guard := _ }) (v := ?_) rfl (by kernel_rfl) (by kernel_rfl) (by kernel_rfl) (fun _ _ _ h => h) (Or.inl ⟨by rfl, ?_⟩) (by assumption) ?_
    rotate_left
    · intro W hSw
      (try dsimp only at hSw)
      go_simp
      (try with_reducible rfl)
    try simp only [Act.put, List.setIfInBounds_toArray, List.set_cons_zero, List.set_cons_succ]
    obtain ⟨f, hfe⟩ : ∃ f, W1.drew.heap.size = f := ⟨_, rfl⟩
    have HFE : Hid (W1.drew.heap.size = f) := hfe
    rw [hfe] at HFD
    have hsr : ∀ WF, Below Y9.heap.size Y9 WF → Fd WF f (List.replicate pl 0) ∧ RwN f WF (.slice pa pl pc) pl (flat pf P) ∧ RwN f WF (.slice ka cn kc) cn (flat (cl P) cs) ∧ RwN f WF (.slice ta tl tc) tl (flat Tr.nf T) ∧ RwN f WF (.slice ea tl ec) tl (iC (ends T)) ∧ ∃ vs : List Value, vs.length = P.length ∧ RwN f WF (.slice ra pl rc) P.length vs ∧ ∀ i x, vs[i]? = some x → RwN f WF x (Tr.kA (pks P) i) (iC (Tr.kl (pks P) i (Tr.kA (pks P) i))) := fun WF hWF => by
      have r4 := (HR4.out.up (below_trans HU6.out HU9.out)).up hWF
      have r6 := (HR6.out.up HU9.out).up hWF
      have r9 := HR9.out.up hWF
      have hel : (ends T).length = tl := by rw [← HTL.out]; unfold ends; simp
      have f14 : Fd WF f (List.replicate pl 0) := (HFD.out.up (below_trans (below_trans HU4.out HU6.out) HU9.out)).up hWF
      have rp := (HRP.out.up HY9.out).up hWF
      have rt := (HRT.out.up HY9.out).up hWF
      exact ⟨f14, rp.nof (by have z14 := HS14.out; have z4 := HS4.out; have z6 := HS6.out; have z9 := HS9.out; have zf := HFL.out; have zq := HFE.out; have zw : W1.drew.heap.size = W1.heap.size := rfl; right; omega) (by rw [flat_len pf_len, HPL.out]), r6.nof (by have z14 := HS14.out; have z4 := HS4.out; have z6 := HS6.out; have z9 := HS9.out; have zf := HFL.out; have zq := HFE.out; have zw : W1.drew.heap.size = W1.heap.size := rfl; left; omega) (by rw [flat_len (cl_len P), HCN.out]), rt.nof (by have z14 := HS14.out; have z4 := HS4.out; have z6 := HS6.out; have z9 := HS9.out; have zf := HFL.out; have zq := HFE.out; have zw : W1.drew.heap.size = W1.heap.size := rfl; right; omega) (by rw [flat_len Tr.nf_len, HTL.out]), r9.nof (by have z14 := HS14.out; have z4 := HS4.out; have z6 := HS6.out; have z9 := HS9.out; have zf := HFL.out; have zq := HFE.out; have zw : W1.drew.heap.size = W1.heap.size := rfl; left; omega) (by rw [iC_len, hel]), vs, r4.1, r4.2.1.nof (by have z14 := HS14.out; have z4 := HS4.out; have z6 := HS6.out; have z9 := HS9.out; have zf := HFL.out; have zq := HFE.out; have zw : W1.drew.heap.size = W1.heap.size := rfl; left; omega) (by rw [r4.1, Nat.mul_one]), fun i x hx => (r4.2.2 i x hx).nof (by have z14 := HS14.out; have z4 := HS4.out; have z6 := HS6.out; have z9 := HS9.out; have zf := HFL.out; have zq := HFE.out; have zw : W1.drew.heap.size = W1.heap.size := rfl; left; omega) (by rw [iC_len, Tr.kl_len])⟩
    have HSR : Hid _ := hsr
    have HFF : Hid (f < Y9.heap.size ∧ w.heap.size ≤ f) := by have zz := HWB.out.size; have z14 := HS14.out; have z4 := HS4.out; have z6 := HS6.out; have z9 := HS9.out; have zf := HFL.out; have zq := HFE.out; have zw : W1.drew.heap.size = W1.heap.size := rfl; exact ⟨by omega, by omega⟩
    clear hsr hfe
    refine wpAnyH_ready (rs := [16]) (by kernel_rfl) (by simp) ?_
    refine AllReadyH.cons (o := { dst := _, op := _, type := _, pos := _, after := _, guard := _ }) rfl (fun K hK => ?_) AllReadyH.nil
    go_simp
    obtain ⟨WF, hWF⟩ : ∃ WF, WF = Y9.alloc (.cells #[.slice pa pl pc, .slice ra pl rc, .slice ka cn kc, .slice ta tl tc, .slice ea tl ec, .string s, .slice (some ⟨f, 0, none⟩) pl pl] 65) := ⟨_, rfl⟩
    first | rw [HFE.out] | rw [show W1.heap.size = f from HFE.out] | skip
    first | rw [← hWF] | skip
    have HWF : Hid (Below Y9.heap.size Y9 WF) := by rw [hWF]; exact bel_up _ _
    have HSB : Hid (WF.heap[Y9.heap.size]? = some (.cells #[.slice pa pl pc, .slice ra pl rc, .slice ka cn kc, .slice ta tl tc, .slice ea tl ec, .string s, .slice (some ⟨f, 0, none⟩) pl pl] 65 (0, 0))) := by rw [hWF]; exact heap_new Y9 _
    have HWW : Hid (Below W1.heap.size W1 WF) := below_trans HY9.out HWF.out
    clear hWF
    refine hK.out _ _ ?_ (fun hHeld => ?_)
    · exact HWW.out
    clear hK K
    try simp only [Act.put, List.setIfInBounds_toArray, List.set_cons_zero, List.set_cons_succ]
    refine wpAnyH_take (i := 17) (oi := { dst := _, op := _, type := _, pos := _, after := _, guard := _ }) (v := ?_) rfl (by kernel_rfl) (by kernel_rfl) (by kernel_rfl) (fun _ _ _ h => h) (Or.inl ⟨by rfl, ?_⟩) (by assumption) ?_
    rotate_left
    · intro W hSw
      (try dsimp only at hSw)
      go_simp
      (try with_reducible rfl)
    try simp only [Act.put, List.setIfInBounds_toArray, List.set_cons_zero, List.set_cons_succ]
    refine wpAnyH_done (by kernel_rfl) ?_ _
    clear hHeld
    refine NoPanic.normal ?_
    go_wp2_with fail
    go_ret
    obtain ⟨q1, q2, q3, q4, q5, q6⟩ := HSR.out WF HWF.out
    refine ⟨_, f, .slice ra pl rc, .slice ka cn kc, .slice ea tl ec, rfl, ⟨by rw [HPL.out]; exact HSB.out, by have := HFF.out; omega, by rw [HPL.out]; exact q2, by rw [HCN.out]; exact q3, by rw [HTL.out]; exact q4, by rw [HTL.out]; exact q5, q6⟩, by rw [HPL.out]; exact q1, below_trans HWB.out HWW.out, HFF.out.2⟩
end Go.Proofs.YtcmhbcfgikmblabGreatDoor.Qy
