import Derived.Test.YtcmhbcfgikmblabGreatDoorQzk
namespace Go.Proofs.YtcmhbcfgikmblabGreatDoor.Qy
open Go.RowKit Go.Maps

set_option maxRecDepth 100000 in
set_option maxHeartbeats 8000000 in
theorem fits_step {P : List Pn} {cs : List Cd} {T : List Tr.Nd} {s : ByteArray} {sb f : Nat} {vp vr vk vt ve : Value} {n : Nat} (hP : Tr.Fo (pks P)) (hT : Tr.Fo (Tr.kds T)) (hz : Tr.Sm T) (hF : FC P cs T s sb f vp vr vk vt ve n) : FC P cs T s sb f vp vr vk vt ve (n + 1) := by
  intro w F p v hS hd hl hp hv hn
  have HCH : Hid (∀ W F1, Sr W sb f P cs T s vp vr vk vt ve → Fd W f F1 → F1.length = P.length → Calls Tryz.prog 39 #[.pointer (some ⟨sb, 0, none⟩), .int .i64 (p : Int), .int .i64 (v : Int)] W fun e w' => ∃ F', e = .returned (.bool (gK P T (Tr.eA (Tr.kds T) v) (kF (pks P) p 0) (v + 1)).isSome) ∧ Fs f W w' ∧ Fd w' f F' ∧ Kr P T (Tr.eA (Tr.kds T) v) p 0 (v + 1) F1 F') := fun W F1 h1 h2 h3 => kidsFit_any hP hT hz hF h1 h2 h3 p v hp hv hn
  have HS : Hid (Sr w sb f P cs T s vp vr vk vt ve) := hS
  have HFD : Hid (Fd w f F ∧ F.length = P.length) := ⟨hd, hl⟩
  have HFO : Hid (Tr.Fo (pks P) ∧ Tr.Fo (Tr.kds T)) := ⟨hP, hT⟩
  have HPV : Hid (p < P.length ∧ v < T.length) := ⟨hp, hv⟩
  obtain ⟨pg, po, pc, hvp, hpg, hpc⟩ := pn_cells hS.hp p hp
  obtain ⟨ng, no, nc, hvt, hng, hnc⟩ := nd_cells hS.ht v hv
  have s0 := rcell hS.blk 0 _ rfl
  have s3 := rcell hS.blk 3 _ rfl
  rw [hvp] at s0
  rw [hvt] at s3
  have HAL : Hid _ := alike_any (P.getD p pz) (T.getD v Tr.ndd)
  obtain ⟨GB, hGB⟩ : ∃ GB, alk (P.getD p pz) (T.getD v Tr.ndd) = GB := ⟨_, rfl⟩
  have HGB : Hid (alk (P.getD p pz) (T.getD v Tr.ndd) = GB) := hGB
  rw [hGB] at HAL
  obtain ⟨x, hx⟩ : ∃ x, P.getD p pz = x := ⟨_, rfl⟩
  obtain ⟨y, hy⟩ : ∃ y, T.getD v Tr.ndd = y := ⟨_, rfl⟩
  rw [hx, hy] at HAL
  rw [hx] at hpc
  rw [hy] at hnc
  obtain ⟨pl, hpl⟩ : ∃ pl, P.length = pl := ⟨_, rfl⟩
  obtain ⟨tl, htl⟩ : ∃ tl, T.length = tl := ⟨_, rfl⟩
  have HPL : Hid (P.length = pl) := hpl
  rw [hpl] at s0
  rw [htl] at s3
  have d1 : (p : Int) < (pl : Int) := by omega
  have d2 : p < pl := by omega
  have d3 : (v : Int) < (tl : Int) := by omega
  have d4 : v < tl := by omega
  have d5 : (0 : Int) ≤ (v : Int) := by omega
  have d6 : (0 : Int) ≤ (p : Int) := by omega
  have HRD : Hid (∀ W, Below w.heap.size w W → W.cell? ⟨sb, 0, none⟩ = some (.slice (some ⟨pg, po, none⟩) pl pc) ∧ W.cell? ⟨sb, 3, none⟩ = some (.slice (some ⟨ng, no, none⟩) tl nc) ∧ W.cell? ⟨pg, po + p * 5, none⟩ = some (.string x.nm) ∧ W.cell? ⟨pg, po + p * 5 + 1, none⟩ = some (.bool x.lit) ∧ W.cell? ⟨pg, po + p * 5 + 2, none⟩ = some (.string x.fd) ∧ W.cell? ⟨pg, po + p * 5 + 3, none⟩ = some (.string x.cp) ∧ W.cell? ⟨pg, po + p * 5 + 4, none⟩ = some (.int .i64 x.kd) ∧ W.cell? ⟨ng, no + v * 7, none⟩ = some (.string y.nm) ∧ W.cell? ⟨ng, no + v * 7 + 1, none⟩ = some (.bool y.nd) ∧ W.cell? ⟨ng, no + v * 7 + 2, none⟩ = some (.string y.fd) ∧ W.cell? ⟨ng, no + v * 7 + 3, none⟩ = some (.int .i64 y.fr) ∧ W.cell? ⟨ng, no + v * 7 + 4, none⟩ = some (.int .i64 y.tt) ∧ W.cell? ⟨ng, no + v * 7 + 5, none⟩ = some (.int .i64 y.kd) ∧ W.cell? ⟨ng, no + v * 7 + 6, none⟩ = some (.int .i64 y.lf)) := fun W hW =>
    ⟨below_cell hW s0, below_cell hW s3, below_cell hW (hpc 0 _ rfl), below_cell hW (hpc 1 _ rfl), below_cell hW (hpc 2 _ rfl), below_cell hW (hpc 3 _ rfl), below_cell hW (hpc 4 _ rfl), below_cell hW (hnc 0 _ rfl), below_cell hW (hnc 1 _ rfl), below_cell hW (hnc 2 _ rfl), below_cell hW (hnc 3 _ rfl), below_cell hW (hnc 4 _ rfl), below_cell hW (hnc 5 _ rfl), below_cell hW (hnc 6 _ rfl)⟩
  obtain ⟨RB, hRB⟩ : ∃ RB, (gN P T p v).isSome = RB := ⟨_, rfl⟩
  have HRB : Hid ((gN P T p v).isSome = RB) := hRB
  rw [hRB]
  unfold pV nV at HAL
  clear hP hT hz hF hS hd hl hp hv hn hvp hpg hpc hvt hng hnc s0 s3 hGB hx hy hpl htl hRB
  go_enter Tryz.func21, Tryz.ntmps21
  go_upto_region 1 with fail
  refine wp_region_noPanic ?_
  refine wp_region_held_drew (S := fun W => Below w.heap.size w W) (by kernel_rfl) (Below.drew (Below.refl _ _)) (fun hHeld => ?_)
  refine wpAnyH_take (i := 0) (oi := { dst := _, op := _, type := _, pos := _, after := _, guard := _ }) (v := ?_) rfl (by kernel_rfl) (by kernel_rfl) (by kernel_rfl) (fun _ _ _ h => h) (Or.inl ⟨by rfl, ?_⟩) (by assumption) ?_
  rotate_left
  · intro W hSw
    (try dsimp only at hSw)
    go_simp
    (try with_reducible rfl)
  try simp only [Act.put, List.setIfInBounds_toArray, List.set_cons_zero, List.set_cons_succ]
  refine wpAnyH_take (i := 1) (oi := { dst := _, op := _, type := _, pos := _, after := _, guard := _ }) (v := ?_) rfl (by kernel_rfl) (by kernel_rfl) (by kernel_rfl) (fun _ _ _ h => h) (Or.inl ⟨by rfl, ?_⟩) (by assumption) ?_
  rotate_left
  · intro W hSw
    (try dsimp only at hSw)
    go_simp
    (try with_reducible rfl)
  try simp only [Act.put, List.setIfInBounds_toArray, List.set_cons_zero, List.set_cons_succ]
  refine wpAnyH_take (i := 2) (oi := { dst := _, op := _, type := _, pos := _, after := _, guard := _ }) (v := ?_) rfl (by kernel_rfl) (by kernel_rfl) (by kernel_rfl) (fun _ _ _ h => h) (Or.inl ⟨by rfl, ?_⟩) (by assumption) ?_
  rotate_left
  · intro W hSw
    (try dsimp only at hSw)
    go_simp
    (try with_reducible rfl)
  try simp only [Act.put, List.setIfInBounds_toArray, List.set_cons_zero, List.set_cons_succ]
  refine wpAnyH_take (i := 3) (oi := { dst := _, op := _, type := _, pos := _, after := _, guard := _ }) (v := ?_) rfl (by kernel_rfl) (by kernel_rfl) (by kernel_rfl) (fun _ _ _ h => h) (Or.inl ⟨by rfl, ?_⟩) (by assumption) ?_
  rotate_left
  · intro W hSw
    (try dsimp only at hSw)
    obtain ⟨k0, -⟩ := HRD.out W hSw
    go_simp
    (try with_reducible rfl)
  try simp only [Act.put, List.setIfInBounds_toArray, List.set_cons_zero, List.set_cons_succ]
  refine wpAnyH_take (i := 4) (oi := { dst := _, op := _, type := _, pos := _, after := _, guard := _ }) (v := ?_) rfl (by kernel_rfl) (by kernel_rfl) (by kernel_rfl) (fun _ _ _ h => h) (Or.inl ⟨by rfl, ?_⟩) (by assumption) ?_
  rotate_left
  · intro W hSw
    (try dsimp only at hSw)
    go_simp
    (try with_reducible rfl)
  try simp only [Act.put, List.setIfInBounds_toArray, List.set_cons_zero, List.set_cons_succ]
  refine wpAnyH_take (i := 5) (oi := { dst := _, op := _, type := _, pos := _, after := _, guard := _ }) (v := ?_) rfl (by kernel_rfl) (by kernel_rfl) (by kernel_rfl) (fun _ _ _ h => h) (Or.inl ⟨by rfl, ?_⟩) (by assumption) ?_
  rotate_left
  · intro W hSw
    (try dsimp only at hSw)
    go_simp
    (try with_reducible rfl)
  try simp only [Act.put, List.setIfInBounds_toArray, List.set_cons_zero, List.set_cons_succ]
  refine wpAnyH_take (i := 6) (oi := { dst := _, op := _, type := _, pos := _, after := _, guard := _ }) (v := ?_) rfl (by kernel_rfl) (by kernel_rfl) (by kernel_rfl) (fun _ _ _ h => h) (Or.inl ⟨by rfl, ?_⟩) (by assumption) ?_
  rotate_left
  · intro W hSw
    (try dsimp only at hSw)
    obtain ⟨-, -, p0, p1, p2, p3, p4, -⟩ := HRD.out W hSw
    go_simp
    (try with_reducible rfl)
  try simp only [Act.put, List.setIfInBounds_toArray, List.set_cons_zero, List.set_cons_succ]
  refine wpAnyH_take (i := 7) (oi := { dst := _, op := _, type := _, pos := _, after := _, guard := _ }) (v := ?_) rfl (by kernel_rfl) (by kernel_rfl) (by kernel_rfl) (fun _ _ _ h => h) (Or.inl ⟨by rfl, ?_⟩) (by assumption) ?_
  rotate_left
  · intro W hSw
    (try dsimp only at hSw)
    go_simp
    (try with_reducible rfl)
  try simp only [Act.put, List.setIfInBounds_toArray, List.set_cons_zero, List.set_cons_succ]
  refine wpAnyH_take (i := 8) (oi := { dst := _, op := _, type := _, pos := _, after := _, guard := _ }) (v := ?_) rfl (by kernel_rfl) (by kernel_rfl) (by kernel_rfl) (fun _ _ _ h => h) (Or.inl ⟨by rfl, ?_⟩) (by assumption) ?_
  rotate_left
  · intro W hSw
    (try dsimp only at hSw)
    go_simp
    (try with_reducible rfl)
  try simp only [Act.put, List.setIfInBounds_toArray, List.set_cons_zero, List.set_cons_succ]
  refine wpAnyH_take (i := 9) (oi := { dst := _, op := _, type := _, pos := _, after := _, guard := _ }) (v := ?_) rfl (by kernel_rfl) (by kernel_rfl) (by kernel_rfl) (fun _ _ _ h => h) (Or.inl ⟨by rfl, ?_⟩) (by assumption) ?_
  rotate_left
  · intro W hSw
    (try dsimp only at hSw)
    go_simp
    (try with_reducible rfl)
  try simp only [Act.put, List.setIfInBounds_toArray, List.set_cons_zero, List.set_cons_succ]
  refine wpAnyH_take (i := 10) (oi := { dst := _, op := _, type := _, pos := _, after := _, guard := _ }) (v := ?_) rfl (by kernel_rfl) (by kernel_rfl) (by kernel_rfl) (fun _ _ _ h => h) (Or.inl ⟨by rfl, ?_⟩) (by assumption) ?_
  rotate_left
  · intro W hSw
    (try dsimp only at hSw)
    obtain ⟨-, k3, -⟩ := HRD.out W hSw
    go_simp
    (try with_reducible rfl)
  try simp only [Act.put, List.setIfInBounds_toArray, List.set_cons_zero, List.set_cons_succ]
  refine wpAnyH_take (i := 11) (oi := { dst := _, op := _, type := _, pos := _, after := _, guard := _ }) (v := ?_) rfl (by kernel_rfl) (by kernel_rfl) (by kernel_rfl) (fun _ _ _ h => h) (Or.inl ⟨by rfl, ?_⟩) (by assumption) ?_
  rotate_left
  · intro W hSw
    (try dsimp only at hSw)
    go_simp
    (try with_reducible rfl)
  try simp only [Act.put, List.setIfInBounds_toArray, List.set_cons_zero, List.set_cons_succ]
  refine wpAnyH_take (i := 12) (oi := { dst := _, op := _, type := _, pos := _, after := _, guard := _ }) (v := ?_) rfl (by kernel_rfl) (by kernel_rfl) (by kernel_rfl) (fun _ _ _ h => h) (Or.inl ⟨by rfl, ?_⟩) (by assumption) ?_
  rotate_left
  · intro W hSw
    (try dsimp only at hSw)
    go_simp
    (try with_reducible rfl)
  try simp only [Act.put, List.setIfInBounds_toArray, List.set_cons_zero, List.set_cons_succ]
  refine wpAnyH_take (i := 13) (oi := { dst := _, op := _, type := _, pos := _, after := _, guard := _ }) (v := ?_) rfl (by kernel_rfl) (by kernel_rfl) (by kernel_rfl) (fun _ _ _ h => h) (Or.inl ⟨by rfl, ?_⟩) (by assumption) ?_
  rotate_left
  · intro W hSw
    (try dsimp only at hSw)
    obtain ⟨-, -, -, -, -, -, -, q0, q1, q2, q3, q4, q5, q6⟩ := HRD.out W hSw
    go_simp
    (try with_reducible rfl)
  try simp only [Act.put, List.setIfInBounds_toArray, List.set_cons_zero, List.set_cons_succ]
  refine wpAnyH_ready (rs := [14]) (by kernel_rfl) (by simp) ?_
  refine AllReadyH.cons (o := { dst := _, op := _, type := _, pos := _, after := _, guard := _ }) rfl (fun K hK => ?_) AllReadyH.nil
  go_simp
  refine Calls.mono (HAL.out _) ?_
  rintro e w2 ⟨rfl, hb2⟩
  have HB2 : Hid (Below w.heap.size w w2) := below_trans (Below.drew (Below.refl _ _)) hb2
  clear hb2
  go_wp2_with fail
  refine hK.out _ _ ?_ (fun hHeld => ?_)
  · first | exact trivial | (exact HB2.out)
  clear hK K
  try simp only [Act.put, List.setIfInBounds_toArray, List.set_cons_zero, List.set_cons_succ]
  refine wpAnyH_take (i := 15) (oi := { dst := _, op := _, type := _, pos := _, after := _, guard := _ }) (v := ?_) rfl (by kernel_rfl) (by kernel_rfl) (by kernel_rfl) (fun _ _ _ h => h) (Or.inl ⟨by rfl, ?_⟩) (by assumption) ?_
  rotate_left
  · intro W hSw
    (try dsimp only at hSw)
    go_simp
    (try with_reducible rfl)
  try simp only [Act.put, List.setIfInBounds_toArray, List.set_cons_zero, List.set_cons_succ]
  refine wpAnyH_done (by kernel_rfl) ?_ _
  refine NoPanic.normal ?_
  clear hHeld
  cases GB with
  | false =>
    obtain ⟨r1, r2⟩ := Nr.no (P := P) (T := T) HFO.out.2 HPV.out.2 HGB.out F
    have HRR : Hid (RB = false) := by rw [← HRB.out]; exact r2
    have HNN : Hid (Nr P T p v F F) := r1
    clear r1 r2
    go_wp2_with fail
    go_ret
    exact ⟨F, by rw [HRR.out]; rfl, Fs.bel HB2.out, HFD.out.1.up HB2.out, HNN.out⟩
  | true =>
    have HS2 : Hid (Sr w2 sb f P cs T s vp vr vk vt ve) := HS.out.keep (Fs.bel HB2.out)
    have HD2 : Hid (Fd w2 f F) := HFD.out.1.up HB2.out
    have s6 := rcell HS2.out.blk 6 _ rfl
    rw [HPL.out] at s6
    have f0 := HD2.out.cell p (by rw [HFD.out.2]; exact HPV.out.1)
    have f1 := Lib.frozen_of_heap HD2.out p
    obtain ⟨W3, hW3⟩ : ∃ W3, W3 = w2.setCell ⟨f, p, none⟩ (.int .i64 (v : Int)) := ⟨_, rfl⟩
    have HF3 : Hid (Fs f w W3) := by rw [hW3]; exact (Fs.bel HB2.out).set p _
    have HD3 : Hid (Fd W3 f (F.set p (v : Int))) := by
      rw [hW3]
      have h9 := blk_set (k := p) (Value.int .i64 (v : Int)) HD2.out
      show _ = _
      rw [h9, List.setIfInBounds_toArray, iC_set]
    have HL3 : Hid ((F.set p (v : Int)).length = P.length) := by show _ = _; rw [List.length_set]; exact HFD.out.2
    have HS3 : Hid (Sr W3 sb f P cs T s vp vr vk vt ve) := HS.out.keep HF3.out
    go_upto_region 4 with fail
    rw [← hW3]
    clear hW3 s6 f0 f1
    obtain ⟨rg, ro, rc, z, hvr, hrg, hrc, hrx⟩ := part_at HS3.out p HPV.out.1
    have s1 := rcell HS3.out.blk 1 _ rfl
    rw [hvr, HPL.out] at s1
    obtain ⟨xa, xc, hxv⟩ := hrx.form
    subst hxv
    have HCC : Hid _ := HCH.out W3 _ HS3.out HD3.out HL3.out
    obtain ⟨QB, hQB⟩ : ∃ QB, (gK P T (Tr.eA (Tr.kds T) v) (kF (pks P) p 0) (v + 1)).isSome = QB := ⟨_, rfl⟩
    have HQB : Hid ((gK P T (Tr.eA (Tr.kds T) v) (kF (pks P) p 0) (v + 1)).isSome = QB) := hQB
    rw [hQB] at HCC
    obtain ⟨kk, hkk⟩ : ∃ kk, Tr.kA (pks P) p = kk := ⟨_, rfl⟩
    have HKK : Hid (Tr.kA (pks P) p = kk) := hkk
    rw [hkk] at hrc
    clear hvr hrg hrx hQB hkk
    cases kk with
    | zero =>
      have h1 := Kr.nil (P := P) (T := T) (Tr.eA (Tr.kds T) v) p (v + 1) (F.set p (v : Int))
      rw [HKK.out] at h1
      obtain ⟨r1, r2⟩ := h1
      obtain ⟨r3, r4⟩ := Nr.of HFO.out.1 HFO.out.2 HPV.out.1 HPV.out.2 HGB.out HFD.out.2 r1
      have HRR : Hid (RB = true) := by rw [← HRB.out, r4]; exact r2
      have HNN : Hid (Nr P T p v F (F.set p (v : Int))) := r3
      clear r1 r2 r3 r4
      go_wp2_with fail
      go_ret
      exact ⟨by rw [HRR.out]; rfl, HF3.out, _, HD3.out, HNN.out⟩
    | succ kk =>
      obtain ⟨k1, hk1⟩ : ∃ k1, kk + 1 = k1 := ⟨_, rfl⟩
      rw [hk1] at hrc
      have g1 : (k1 == 0) = false := by rw [beq_eq_false_iff_ne]; omega
      have g2 : ((k1 : Int) == 0) = false := by rw [beq_eq_false_iff_ne]; omega
      clear hk1
      go_wp2_with (go_at_call 39; refine Calls.mono HCC.out ?_; rintro e w5 ⟨F5, rfl, hf5, hd5, hk5⟩; have HF5 : Hid (Fs f W3 w5) := hf5; have HD5 : Hid (Fd w5 f F5) := hd5; have HK5 : Hid (Kr P T (Tr.eA (Tr.kds T) v) p 0 (v + 1) (F.set p (v : Int)) F5) := hk5; clear hf5 hd5 hk5)
      go_ret
      obtain ⟨r3, r4⟩ := Nr.of HFO.out.1 HFO.out.2 HPV.out.1 HPV.out.2 HGB.out HFD.out.2 HK5.out
      exact ⟨F5, by rw [← HRB.out, r4, HQB.out]; rfl, HF3.out.trans HF5.out, HD5.out, r3⟩
theorem fits_any {P : List Pn} {cs : List Cd} {T : List Tr.Nd} {s : ByteArray} {sb f : Nat} {vp vr vk vt ve : Value} (hP : Tr.Fo (pks P)) (hT : Tr.Fo (Tr.kds T)) (hz : Tr.Sm T) : ∀ n, FC P cs T s sb f vp vr vk vt ve n
  | 0 => fun W F p v _ _ _ _ hv hn => by
    have h9 := (hT.elt v (by rw [Tr.kds_len]; exact hv)).1
    omega
  | n + 1 => fits_step hP hT hz (fits_any hP hT hz n)
end Go.Proofs.YtcmhbcfgikmblabGreatDoor.Qy
namespace Go.Proofs.YtcmhbcfgikmblabGreatDoor.Qy
open Go.RowKit Go.Maps

/-- A row that lies in a block from lo up to hi. -/
def RwA (lo hi : Nat) (W : World) (v : Value) (n : Nat) (cs : List Value) : Prop := ∃ a g o cap, v = .slice a n cap ∧ n ≤ cap ∧ (0 < n → a = some ⟨g, o, none⟩ ∧ lo ≤ g ∧ g < hi) ∧ ∀ j u, cs[j]? = some u → W.cell? ⟨g, o + j, none⟩ = some u
theorem RwA.up {lo hi : Nat} {W W' : World} {v : Value} {n : Nat} {cs : List Value} (h : RwA lo hi W v n cs) (hb : Below W.heap.size W W') : RwA lo hi W' v n cs := by
  obtain ⟨a, g, o, cap, h1, h2, h3, h4⟩ := h
  exact ⟨a, g, o, cap, h1, h2, h3, fun j u hu => below_cell hb (h4 j u hu)⟩
theorem RwA.nof {lo hi f : Nat} {W : World} {v : Value} {n size : Nat} {cs : List Value} (h : RwA lo hi W v n cs) (hf : f < lo ∨ hi ≤ f) (hl : cs.length = n * size) : RwN f W v n cs := by
  obtain ⟨a, g, o, cap, h1, h2, h3, h4⟩ := h
  rcases Nat.eq_zero_or_pos n with h0 | h0
  · subst h0
    have : cs = [] := List.eq_nil_of_length_eq_zero (by simpa using hl)
    subst this
    exact ⟨a, f + 1, 0, cap, h1, h2, fun h => by omega, by omega, fun j u hu => by simp at hu⟩
  · obtain ⟨q1, q2, q3⟩ := h3 h0
    exact ⟨a, g, o, cap, h1, h2, fun _ => q1, by omega, h4⟩
theorem RwA.own {B : Nat} {W : World} {e : TypeId} {size n : Nat} {v : Value} {cs : List Value} (h : W.ownsRow B e size v n cs) : RwA B W.heap.size W v n cs := by
  have hl := h.1
  rcases h.2 with ⟨hv, hn⟩ | ⟨g, cap, cur, hv, hb, hg, hc, hm, hz, ht⟩
  · subst hn
    have : cs = [] := List.eq_nil_of_length_eq_zero (by simpa using hl)
    subst this hv
    exact ⟨none, 0, 0, 0, rfl, Nat.le_refl _, fun h => by omega, fun j u hu => by simp at hu⟩
  · subst hv
    refine ⟨_, g, 0, cap, rfl, hc, fun _ => ⟨rfl, hb, lt_of_heap hg⟩, fun j u hu => ?_⟩
    rw [Nat.zero_add]
    exact row_at h j u hu
theorem RwA.rw {W : World} {v : Value} {n size : Nat} {cs : List Value} (h : Rw W v n cs) (hl : cs.length = n * size) (hs : 0 < size) : RwA 0 W.heap.size W v n cs := by
  rcases Nat.eq_zero_or_pos n with h0 | h0
  · obtain ⟨a, g, o, cap, h1, h2, h3, h4, h5⟩ := h
    exact ⟨a, g, o, cap, h1, h2, fun h => by omega, h5⟩
  · obtain ⟨a, g, o, cap, h1, h2, h3, h4, h5⟩ := h
    refine ⟨a, g, o, cap, h1, h2, fun _ => ⟨h4 h0, Nat.zero_le _, ?_⟩, h5⟩
    have hpos : 0 < cs.length := by rw [hl]; exact Nat.mul_pos h0 hs
    exact cell_lt (h5 0 _ (List.getElem?_eq_getElem hpos))
/-- The children's rows of a pattern, all of them between two blocks. -/
def PrA (lo hi : Nat) (W : World) (v : Value) (vs : List Value) (P : List Pn) : Prop := vs.length = P.length ∧ RwA lo hi W v P.length vs ∧ ∀ i x, vs[i]? = some x → RwA lo hi W x (Tr.kA (pks P) i) (iC (Tr.kl (pks P) i (Tr.kA (pks P) i)))
theorem PrA.up {lo hi : Nat} {W W' : World} {v : Value} {vs : List Value} {P : List Pn} (h : PrA lo hi W v vs P) (hb : Below W.heap.size W W') : PrA lo hi W' v vs P := ⟨h.1, h.2.1.up hb, fun i x hx => (h.2.2 i x hx).up hb⟩
theorem PrA.of {B n : Nat} {W : World} {v : Value} {vs : List Value} {P : List Pn} (hn : P.length = n) (h : Pr B W v vs P n) : PrA B W.heap.size W v vs P := by
  subst hn
  exact ⟨h.ln, RwA.own h.ow, fun i x hx => RwA.own (h.at' i x hx)⟩
theorem full_block {W : World} {B : Nat} {g n : Nat} {xs : List Value} (h : W.ownsRow B 3 1 (.slice (some ⟨g, 0, none⟩) n n) n xs) : W.heap[g]? = some (.cells xs.toArray 3 (0, 0)) ∧ g < W.heap.size := by
  rcases h.2 with ⟨hv, hn⟩ | ⟨g', cap, cur, hv, hb, hg, hc, hm, hz, ht⟩
  · cases hv
  · obtain ⟨e1, -, e3⟩ := Value.slice.inj hv
    obtain rfl : g' = g := by simpa using (Option.some.inj e1).symm
    subst e3
    have e : cur.toList = xs := by
      rw [← ht, List.take_of_length_le (by simp [hz])]
    rw [hg, ← e]
    exact ⟨rfl, lt_of_heap hg⟩
section
variable {P : Program} {ops : Array Oper} {o : Oper} {a : Act} {w : World} {K : Act → World → Prop} {Q : Exit → Act → World → Prop} {E : Prop}
theorem step_make (hg : o.guard = none) (l c : Operand) (t : TypeId) (hop : o.op = Op.makeSlice t l c) (vl vc v : Value) (w' : World) (hl : a.eval l = vl) (hc : a.eval c = vc) (hrun : (Instr.makeSlice t vl vc).run P w = .ok v w')
    (hK : K (a.put o.dst v) w') : if Region.wanted o (yielded ops a.tmps) = true then Oper.wp P o a w K Q else E := by
  have hw : Region.wanted o (yielded ops a.tmps) = true := by simp [Region.wanted, hg]
  rw [if_pos hw]
  unfold Oper.wp
  simp [execOp, hop, hl, hc, hrun, Result.andThen]
  exact hK
end
end Go.Proofs.YtcmhbcfgikmblabGreatDoor.Qy
