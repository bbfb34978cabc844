import Derived.Test.YthfijmabagjdkaaCud
namespace Go.Proofs.Ythfijmabagjdkaa
open Go.RowKit Go.Maps

/-- A byte of a regex, or a backslash and what belongs to it. -/
def inR (c : Cs) (f k : Nat) : Bool × Cs :=
  if rd c.s k = 47 then (false, cw { c with p := (k : Int) } 3 (c.s.extract (f + 1) k))
  else if rd c.s k = 92 then (if rd c.s (k + 1) = -1 ∨ rd c.s (k + 1) = 10 then (false, { c with p := ((k + 1 : Nat) : Int), co := 82, pl := c.f }) else (true, { c with p := ((k + 1 : Nat) : Int) }))
  else if rd c.s k = -1 ∨ rd c.s k = 10 then (false, { c with p := (k : Int), co := 82, pl := c.f }) else (true, { c with p := (k : Int) })
theorem rd_lt {s : ByteArray} {k : Nat} (h : rd s k ≠ -1) : k < s.size := by
  unfold rd at h
  split at h
  · assumption
  · exact absurd rfl h
theorem st_bool (x : Int) : (x == -1 || x == 10) = decide (x = -1 ∨ x = 10) := by
  by_cases h1 : x = -1
  · subst h1; rfl
  · by_cases h2 : x = 10
    · subst h2; rfl
    · simp [h1, h2]

set_option maxRecDepth 100000 in
set_option maxHeartbeats 8000000 in
theorem inregex_any {B b : Nat} {vb vw : Value} {c : Cs} (f k : Nat) (hf : c.f = (f : Int)) (hfk : f < k) (hk : c.p + 1 = (k : Int)) (hk2 : k ≤ 4611686018427380000) (hs : c.s.size ≤ 1000000000000) (hl : c.ws.length ≤ 1000000000000) (w : World) (h : Cu B w b vb vw c) :
    Calls Try.prog 41 #[.pointer (some ⟨b, 0, none⟩)] w fun e w' => e = .returned (.bool (inR c f k).1) ∧ Below B w w' ∧ ∃ vb' vw', Cu B w' b vb' vw' (inR c f k).2 := by
  have HH : Hid (Cu B w b vb vw c) := h
  have HK : Hid (c.p + 1 = (k : Int)) := hk
  have HK2 : Hid (k ≤ 4611686018427380000) := hk2
  have HS : Hid (c.s.size ≤ 1000000000000) := hs
  have HL : Hid (c.ws.length ≤ 1000000000000) := hl
  have HF : Hid (c.f = (f : Int)) := hf
  have HFK : Hid (f < k) := hfk
  obtain ⟨x, hx⟩ : ∃ x, rd c.s k = x := ⟨_, rfl⟩
  have HX : Hid (rd c.s k = x) := hx
  obtain ⟨R, hR⟩ : ∃ R, inR c f k = R := ⟨_, rfl⟩
  have HR : Hid (R = if x = 47 then (false, cw { c with p := (k : Int) } 3 (c.s.extract (f + 1) k))
    else if x = 92 then (if rd c.s (k + 1) = -1 ∨ rd c.s (k + 1) = 10 then (false, { c with p := ((k + 1 : Nat) : Int), co := 82, pl := c.f }) else (true, { c with p := ((k + 1 : Nat) : Int) }))
    else if x = -1 ∨ x = 10 then (false, { c with p := (k : Int), co := 82, pl := c.f }) else (true, { c with p := (k : Int) })) := by rw [← hR, ← hx]; exact rfl
  rw [hR]
  clear h hk hk2 hl hs hf hfk hx hR
  go_enter Try.func41, Try.ntmps41
  go_wp2_with fail
  refine (read_any k HK.out (by have := HK2.out; omega) w HH.out).mono ?_
  rintro e w1 ⟨rfl, h1, b1⟩
  rw [HX.out]
  have H1 : Hid (Cu B w1 b vb vw { c with p := (k : Int) }) := h1
  have B1 : Hid (Below B w w1) := b1
  clear h1 b1 HH
  by_cases c47 : x = 47
  · have HR2 := HR.out
    rw [if_pos c47] at HR2
    subst HR2
    clear HR
    subst c47
    have HKS : Hid (k < c.s.size) := rd_lt (by rw [HX.out]; decide)
    have k2 := H1.out.c2
    have HS2 : Hid (c.s.size ≤ 1000000000000) := HS.out
    go_upto_region 4 with fail
    clear k2
    obtain ⟨g, hg⟩ : ∃ g, f + 1 = g := ⟨_, rfl⟩
    have HGE : Hid (f + 1 = g) := hg
    clear hg
    have hw1 : IntKind.i64.wrap (c.f + 1) = (g : Int) := by have := HF.out; have := HFK.out; have := HK2.out; have := HGE.out; rw [IntKind.wrap_i64]; omega
    have s0 : (0 : Int) ≤ (g : Int) := by omega
    have s1 : (g : Int) ≤ (k : Int) := by have := HFK.out; have := HGE.out; omega
    have s2 : (k : Int) ≤ (c.s.size : Int) := by have := HKS.out; omega
    have s3 : g ≤ k := by have := HFK.out; have := HGE.out; omega
    have s4 : k ≤ c.s.size := by have := HKS.out; omega
    have HEX : Hid ((c.s.extract g k).size ≤ 1000000000000) := by
      have := HS.out
      show (c.s.extract g k).size ≤ _
      rw [ByteArray.size_extract]
      omega
    obtain ⟨T, hT⟩ : ∃ T, c.s.extract g k = T := ⟨_, rfl⟩
    have HTT : Hid (c.s.extract (f + 1) k = T) := by rw [HGE.out]; exact hT
    rw [hT] at HEX
    refine wp_region_noPanic ?_
    refine wp_region_held_drew (S := fun W => W.cell? ⟨b, 0, none⟩ = some (.string c.s) ∧ W.cell? ⟨b, 1, none⟩ = some (.int .i64 (k : Int)) ∧ W.cell? ⟨b, 2, none⟩ = some (.int .i64 c.f)) (by kernel_rfl) ⟨H1.out.drew.c0, H1.out.drew.c1, H1.out.drew.c2⟩ (fun hHeld => ?_)
    refine wpAnyH_take (i := 0) (oi := { dst := _, op := _, type := _, pos := _, after := _, guard := _ }) (v := ?_) rfl (by kernel_rfl) (by kernel_rfl) (by kernel_rfl) (fun _ _ _ h => h) (Or.inl ⟨by rfl, ?_⟩) (by assumption) ?_
    rotate_left
    · intro W hSw
      (try dsimp only at hSw)
      go_simp
      (try with_reducible rfl)
    try simp only [Act.put, List.setIfInBounds_toArray, List.set_cons_zero, List.set_cons_succ]
    refine wpAnyH_take (i := 1) (oi := { dst := _, op := _, type := _, pos := _, after := _, guard := _ }) (v := ?_) rfl (by kernel_rfl) (by kernel_rfl) (by kernel_rfl) (fun _ _ _ h => h) (Or.inl ⟨by rfl, ?_⟩) (by assumption) ?_
    rotate_left
    · intro W hSw
      (try dsimp only at hSw)
      go_simp
      (try with_reducible rfl)
    try simp only [Act.put, List.setIfInBounds_toArray, List.set_cons_zero, List.set_cons_succ]
    refine wpAnyH_take (i := 2) (oi := { dst := _, op := _, type := _, pos := _, after := _, guard := _ }) (v := ?_) rfl (by kernel_rfl) (by kernel_rfl) (by kernel_rfl) (fun _ _ _ h => h) (Or.inl ⟨by rfl, ?_⟩) (by assumption) ?_
    rotate_left
    · intro W hSw
      (try dsimp only at hSw)
      go_simp
      (try with_reducible rfl)
    try simp only [Act.put, List.setIfInBounds_toArray, List.set_cons_zero, List.set_cons_succ]
    refine wpAnyH_take (i := 3) (oi := { dst := _, op := _, type := _, pos := _, after := _, guard := _ }) (v := ?_) rfl (by kernel_rfl) (by kernel_rfl) (by kernel_rfl) (fun _ _ _ h => h) (Or.inl ⟨by rfl, ?_⟩) (by assumption) ?_
    rotate_left
    · intro W hSw
      (try dsimp only at hSw)
      go_simp
      (try with_reducible rfl)
    try simp only [Act.put, List.setIfInBounds_toArray, List.set_cons_zero, List.set_cons_succ]
    refine wpAnyH_take (i := 4) (oi := { dst := _, op := _, type := _, pos := _, after := _, guard := _ }) (v := ?_) rfl (by kernel_rfl) (by kernel_rfl) (by kernel_rfl) (fun _ _ _ h => h) (Or.inl ⟨by rfl, ?_⟩) (by assumption) ?_
    rotate_left
    · intro W hSw
      (try dsimp only at hSw)
      obtain ⟨hs0, hs1, hs2⟩ := hSw
      go_simp
      (try with_reducible rfl)
    try simp only [Act.put, List.setIfInBounds_toArray, List.set_cons_zero, List.set_cons_succ]
    refine wpAnyH_take (i := 5) (oi := { dst := _, op := _, type := _, pos := _, after := _, guard := _ }) (v := ?_) rfl (by kernel_rfl) (by kernel_rfl) (by kernel_rfl) (fun _ _ _ h => h) (Or.inl ⟨by rfl, ?_⟩) (by assumption) ?_
    rotate_left
    · intro W hSw
      (try dsimp only at hSw)
      go_simp
      (try with_reducible rfl)
    try simp only [Act.put, List.setIfInBounds_toArray, List.set_cons_zero, List.set_cons_succ]
    refine wpAnyH_take (i := 6) (oi := { dst := _, op := _, type := _, pos := _, after := _, guard := _ }) (v := ?_) rfl (by kernel_rfl) (by kernel_rfl) (by kernel_rfl) (fun _ _ _ h => h) (Or.inl ⟨by rfl, ?_⟩) (by assumption) ?_
    rotate_left
    · intro W hSw
      (try dsimp only at hSw)
      go_simp
      (try with_reducible rfl)
    try simp only [Act.put, List.setIfInBounds_toArray, List.set_cons_zero, List.set_cons_succ]
    refine wpAnyH_take (i := 7) (oi := { dst := _, op := _, type := _, pos := _, after := _, guard := _ }) (v := ?_) rfl (by kernel_rfl) (by kernel_rfl) (by kernel_rfl) (fun _ _ _ h => h) (Or.inl ⟨by rfl, ?_⟩) (by assumption) ?_
    rotate_left
    · intro W hSw
      (try dsimp only at hSw)
      go_simp
      (try with_reducible rfl)
    try simp only [Act.put, List.setIfInBounds_toArray, List.set_cons_zero, List.set_cons_succ]
    refine wpAnyH_take (i := 8) (oi := { dst := _, op := _, type := _, pos := _, after := _, guard := _ }) (v := ?_) rfl (by kernel_rfl) (by kernel_rfl) (by kernel_rfl) (fun _ _ _ h => h) (Or.inl ⟨by rfl, ?_⟩) (by assumption) ?_
    rotate_left
    · intro W hSw
      (try dsimp only at hSw)
      obtain ⟨hs0, hs1, hs2⟩ := hSw
      go_simp
      (try with_reducible rfl)
    try simp only [Act.put, List.setIfInBounds_toArray, List.set_cons_zero, List.set_cons_succ]
    refine wpAnyH_take (i := 9) (oi := { dst := _, op := _, type := _, pos := _, after := _, guard := _ }) (v := ?_) rfl (by kernel_rfl) (by kernel_rfl) (by kernel_rfl) (fun _ _ _ h => h) (Or.inl ⟨by rfl, ?_⟩) (by assumption) ?_
    rotate_left
    · intro W hSw
      (try dsimp only at hSw)
      go_simp
      (try with_reducible rfl)
    try simp only [Act.put, List.setIfInBounds_toArray, List.set_cons_zero, List.set_cons_succ]
    refine wpAnyH_take (i := 10) (oi := { dst := _, op := _, type := _, pos := _, after := _, guard := _ }) (v := ?_) rfl (by kernel_rfl) (by kernel_rfl) (by kernel_rfl) (fun _ _ _ h => h) (Or.inl ⟨by rfl, ?_⟩) (by assumption) ?_
    rotate_left
    · intro W hSw
      (try dsimp only at hSw)
      go_simp
      (try with_reducible rfl)
    try simp only [Act.put, List.setIfInBounds_toArray, List.set_cons_zero, List.set_cons_succ]
    refine wpAnyH_take (i := 11) (oi := { dst := _, op := _, type := _, pos := _, after := _, guard := _ }) (v := ?_) rfl (by kernel_rfl) (by kernel_rfl) (by kernel_rfl) (fun _ _ _ h => h) (Or.inl ⟨by rfl, ?_⟩) (by assumption) ?_
    rotate_left
    · intro W hSw
      (try dsimp only at hSw)
      go_simp
      (try with_reducible rfl)
    try simp only [Act.put, List.setIfInBounds_toArray, List.set_cons_zero, List.set_cons_succ]
    refine wpAnyH_take (i := 12) (oi := { dst := _, op := _, type := _, pos := _, after := _, guard := _ }) (v := ?_) rfl (by kernel_rfl) (by kernel_rfl) (by kernel_rfl) (fun _ _ _ h => h) (Or.inl ⟨by rfl, ?_⟩) (by assumption) ?_
    rotate_left
    · intro W hSw
      (try dsimp only at hSw)
      go_simp
      (try with_reducible rfl)
    try simp only [Act.put, List.setIfInBounds_toArray, List.set_cons_zero, List.set_cons_succ]
    refine wpAnyH_take (i := 13) (oi := { dst := _, op := _, type := _, pos := _, after := _, guard := _ }) (v := ?_) rfl (by kernel_rfl) (by kernel_rfl) (by kernel_rfl) (fun _ _ _ h => h) (Or.inl ⟨by rfl, ?_⟩) (by assumption) ?_
    rotate_left
    · intro W hSw
      (try dsimp only at hSw)
      obtain ⟨hs0, hs1, hs2⟩ := hSw
      go_simp
      (try with_reducible rfl)
    try simp only [Act.put, List.setIfInBounds_toArray, List.set_cons_zero, List.set_cons_succ]
    refine wpAnyH_take (i := 14) (oi := { dst := _, op := _, type := _, pos := _, after := _, guard := _ }) (v := ?_) rfl (by kernel_rfl) (by kernel_rfl) (by kernel_rfl) (fun _ _ _ h => h) (Or.inl ⟨by rfl, ?_⟩) (by assumption) ?_
    rotate_left
    · intro W hSw
      (try dsimp only at hSw)
      go_simp
      (try with_reducible rfl)
    try simp only [Act.put, List.setIfInBounds_toArray, List.set_cons_zero, List.set_cons_succ]
    refine wpAnyH_ready (rs := [15]) (by kernel_rfl) (by simp) ?_
    refine AllReadyH.cons (o := { dst := _, op := _, type := _, pos := _, after := _, guard := _ }) rfl (fun K hK => ?_) AllReadyH.nil
    go_simp
    (try rw [hT])
    refine (cut_any (c := { c with p := (k : Int) }) 3 T HEX.out HL.out _ H1.out.drew).mono ?_
    rintro e w2 ⟨rfl, b2, vb2, vw2, h2⟩
    have H2 : Hid (Cu B w2 b vb2 vw2 (cw { c with p := (k : Int) } 3 T)) := h2
    have B2 : Hid (Below B w w2) := B1.out.trans ((Below.drew (Below.refl _ _)).trans b2)
    clear h2 b2
    go_wp2_with fail
    refine hK.out _ _ ?_ (fun hHeld => ?_)
    · exact ⟨H2.out.c0, H2.out.c1, H2.out.c2⟩
    clear hK K
    try simp only [Act.put, List.setIfInBounds_toArray, List.set_cons_zero, List.set_cons_succ]
    refine wpAnyH_done (by kernel_rfl) ?_ _
    clear hHeld
    refine NoPanic.normal ?_
    go_wp2_with fail
    go_ret
    rw [HTT.out]
    exact ⟨rfl, B2.out, _, _, H2.out⟩
  · have HR2 := HR.out
    rw [if_neg c47] at HR2
    have k2 := H1.out.c2
    by_cases c92 : x = 92
    · rw [if_pos c92] at HR2
      subst c92
      clear HR
      have HR3 : Hid _ := HR2
      clear HR2
      go_wp2_with fail
      refine (read_any (k + 1) (by simp) (by have := HK2.out; omega) w1 H1.out).mono ?_
      rintro e w3 ⟨rfl, h3, b3⟩
      obtain ⟨y, hy⟩ : ∃ y, rd c.s (k + 1) = y := ⟨_, rfl⟩
      have HR4 := HR3.out
      simp only [hy] at h3 HR4 ⊢
      have H3 : Hid (Cu B w3 b vb vw { c with p := ((k + 1 : Nat) : Int) }) := h3
      have B3 : Hid (Below B w w3) := B1.out.trans b3
      clear h3 b3 k2 hy HR3
      have k2 := H3.out.c2
      go_wp2_with fail
      refine (stops_any y w3).mono ?_
      rintro e w4 ⟨rfl, rfl⟩
      by_cases cy : y = -1 ∨ y = 10
      · rw [if_pos cy] at HR4
        subst HR4
        have d1 : (y == -1 || y == 10) = true := by rw [st_bool, decide_eq_true_eq]; exact cy
        rw [d1]
        clear cy
        go_wp2_with fail
        refine (fail_any 82 c.f w4 H3.out).mono ?_
        rintro e w5 ⟨rfl, h5, b5⟩
        have H5 : Hid _ := h5
        have B5 : Hid _ := B3.out.trans b5
        clear h5 b5 k2
        go_wp2_with fail
        go_ret
        exact ⟨rfl, B5.out, _, _, H5.out⟩
      · rw [if_neg cy] at HR4
        subst HR4
        have d1 : (y == -1 || y == 10) = false := by rw [st_bool, decide_eq_false_iff_not]; exact cy
        rw [d1]
        clear cy
        go_wp2_with fail
        go_ret
        exact ⟨rfl, B3.out, _, _, H3.out⟩
    · rw [if_neg c92] at HR2
      clear HR
      have HR4 := HR2
      clear HR2
      go_wp2_with fail
      refine (stops_any x w1).mono ?_
      rintro e w4 ⟨rfl, rfl⟩
      by_cases cy : x = -1 ∨ x = 10
      · rw [if_pos cy] at HR4
        subst HR4
        have d1 : (x == -1 || x == 10) = true := by rw [st_bool, decide_eq_true_eq]; exact cy
        rw [d1]
        clear cy
        go_wp2_with fail
        refine (fail_any 82 c.f w4 H1.out).mono ?_
        rintro e w5 ⟨rfl, h5, b5⟩
        have H5 : Hid _ := h5
        have B5 : Hid _ := B1.out.trans b5
        clear h5 b5 k2
        go_wp2_with fail
        go_ret
        exact ⟨rfl, B5.out, _, _, H5.out⟩
      · rw [if_neg cy] at HR4
        subst HR4
        have d1 : (x == -1 || x == 10) = false := by rw [st_bool, decide_eq_false_iff_not]; exact cy
        rw [d1]
        clear cy
        go_wp2_with fail
        go_ret
        exact ⟨rfl, B1.out, _, _, H1.out⟩
end Go.Proofs.Ythfijmabagjdkaa
