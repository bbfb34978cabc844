import Derived.Test.YtjpmmihcnfedgaaBetw
import Derived.Test.YtjpmmihcnfedgaaAlive
import Derived.Test.YtjpmmihcnfedgaaCover
namespace Go.Proofs.Ytjpmmihcnfedgaa
open Go.RowKit

set_option maxRecDepth 100000 in
set_option maxHeartbeats 1000000 in
theorem least_big (a b ins : ByteArray) (p q : Int) (w : World)
    (C18 : Hid (∀ W : World, Calls Try.prog 18 #[.string a, .string a] W fun e W' => e = .returned (ed a.size 0 ⟨#[]⟩) ∧ Below W.heap.size W W'))
    (h : 1048576 < a.size ∨ 1048576 < b.size) :
    Calls Try.prog 6 #[.string a, .string b, ed p q ins] w fun e w' => e = .returned (.bool true) ∧ Below w.heap.size w w' := by
  have CA : Hid _ := fun W : World => alive_any W
  by_cases h1 : 1048576 < a.size
  · have h2 : (1048576 : Int) < (a.size : Int) := by omega
    clear h h1
    go_enter Try.func6, Try.ntmps6
    go_wp2_with fail
    refine (CA.out _).mono ?_
    rintro e' w1 ⟨rfl, hb⟩
    have Ko1 : Hid _ := box1 hb
    have B1 : Hid _ := below_trans (bel_up _ _) hb
    clear hb CA
    go_wp2_with fail
    refine (C18.out _).mono ?_
    rintro e' w2 ⟨rfl, hb⟩
    have Ko2 : Hid _ := Ko1.out.up hb
    have B2 : Hid _ := below_trans B1.out hb
    clear hb Ko1 B1 C18
    go_wp2_with fail
    go_ret
    exact ⟨by simp, below_trans B2.out (bel_up _ _)⟩

  · have h2 : ¬ (1048576 : Int) < (a.size : Int) := by omega
    have h3 : (1048576 : Int) < (b.size : Int) := by omega
    clear h h1
    go_enter Try.func6, Try.ntmps6
    go_wp2_with fail
    refine (CA.out _).mono ?_
    rintro e' w1 ⟨rfl, hb⟩
    have Ko1 : Hid _ := box1 hb
    have B1 : Hid _ := below_trans (bel_up _ _) hb
    clear hb CA
    go_wp2_with fail
    refine (C18.out _).mono ?_
    rintro e' w2 ⟨rfl, hb⟩
    have Ko2 : Hid _ := Ko1.out.up hb
    have B2 : Hid _ := below_trans B1.out hb
    clear hb Ko1 B1 C18
    go_wp2_with fail
    go_ret
    exact ⟨by simp, below_trans B2.out (bel_up _ _)⟩


set_option maxRecDepth 100000 in
set_option maxHeartbeats 2000000 in
theorem least_run (a b ins cI xI r : ByteArray) (p q c0 c1 x0 x1 code : Int) (w : World)
    (C18 : Hid (∀ W : World, Calls Try.prog 18 #[.string a, .string a] W fun e W' => e = .returned (ed a.size 0 ⟨#[]⟩) ∧ Below W.heap.size W W'))
    (C18b : Hid (∀ W : World, Calls Try.prog 18 #[.string a, .string b] W fun e W' => e = .returned (ed c0 c1 cI) ∧ Below W.heap.size W W'))
    (C16 : Hid (∀ W : World, Calls Try.prog 16 #[.string a, ed c0 c1 cI] W fun e W' => e = .returned (.tuple #[.string b, .int .i64 0]) ∧ Below W.heap.size W W'))
    (C9 : Hid (∀ W : World, Calls Try.prog 9 #[.int .i64 (a.size : Int), ed c0 c1 cI] W fun e W' => e = .returned (ed c0 c1 cI) ∧ Below W.heap.size W W'))
    (C9b : Hid (∀ W : World, Calls Try.prog 9 #[.int .i64 (a.size : Int), ed p q ins] W fun e W' => e = .returned (ed x0 x1 xI) ∧ Below W.heap.size W W'))
    (C16b : Hid (∀ W : World, Calls Try.prog 16 #[.string a, ed p q ins] W fun e W' => e = .returned (.tuple #[.string r, .int .i64 code]) ∧ Below W.heap.size W W'))
    (ha : ¬ (1048576 : Int) < (a.size : Int)) (hb' : ¬ (1048576 : Int) < (b.size : Int)) (hres : code = 0 ∧ r = b → c1 ≤ x1 ∧ cI.size ≤ xI.size) :
    Calls Try.prog 6 #[.string a, .string b, ed p q ins] w fun e w' => e = .returned (.bool true) ∧ Below w.heap.size w w' := by
  have CA : Hid _ := fun W : World => alive_any W
  have HRES : Hid _ := hres
  clear hres
  go_enter Try.func6, Try.ntmps6
  go_wp2_with fail
  refine (CA.out _).mono ?_
  rintro e' w1 ⟨rfl, hb⟩
  have Ko1 : Hid _ := box1 hb
  have B1 : Hid _ := below_trans (bel_up _ _) hb
  clear hb CA
  go_wp2_with fail
  refine (C18.out _).mono ?_
  rintro e' w2 ⟨rfl, hb⟩
  have Ko2 : Hid _ := Ko1.out.up hb
  have B2 : Hid _ := below_trans B1.out hb
  clear hb Ko1 B1 C18
  go_wp2_with fail
  refine (C18b.out _).mono ?_
  rintro e' w3 ⟨rfl, hb⟩
  have Ko3 : Hid _ := (Ko2.out.up (bel_up _ (.cells #[.int .i64 (a.size : Int), .int .i64 0, .string ⟨#[]⟩] 23))).up hb
  have Ky3 : Hid _ := box1 hb
  have B3 : Hid _ := below_trans (below_trans B2.out (bel_up _ _)) hb
  clear hb Ko2 B2 C18b
  go_wp2_with fail
  refine (C16.out _).mono ?_
  rintro e' w4 ⟨rfl, hb⟩
  have Ko4 : Hid _ := (Ko3.out.up (bel_up _ (.cells #[.int .i64 c0, .int .i64 c1, .string cI] 23))).up hb
  have Ky4 : Hid _ := (Ky3.out.up (bel_up _ (.cells #[.int .i64 c0, .int .i64 c1, .string cI] 23))).up hb
  have Kc4 : Hid _ := box1 hb
  have B4 : Hid _ := below_trans (below_trans B3.out (bel_up _ _)) hb
  clear hb Ko3 Ky3 B3 C16
  go_upto_region 10 with fail
  have HP : Hid (∀ W, Below w4.heap.size w4 W → W.cell? ⟨w3.heap.size, 0, none⟩ = some (.int .i64 c0) ∧ W.cell? ⟨w3.heap.size, 1, none⟩ = some (.int .i64 c1) ∧ W.cell? ⟨w3.heap.size, 2, none⟩ = some (.string cI)) := fun W hW => ⟨below_cell hW Kc4.out.c0, below_cell hW Kc4.out.c1, below_cell hW Kc4.out.c2⟩
  refine wp_region_noPanic ?_
  refine wp_region_held_drew (S := fun W => W.cell? ⟨w3.heap.size, 0, none⟩ = some (.int .i64 c0) ∧ W.cell? ⟨w3.heap.size, 1, none⟩ = some (.int .i64 c1) ∧ W.cell? ⟨w3.heap.size, 2, none⟩ = some (.string cI)) (by kernel_rfl) (HP.out _ (Below.drew (Below.refl _ _))) (fun hHeld => ?_)
  refine wpAnyH_take (i := 0) (oi := { dst := _, op := _, type := _, pos := _, after := _, guard := _ }) (v := ?_) rfl (by kernel_rfl) (by kernel_rfl) (by kernel_rfl) (fun _ _ _ h => h) (Or.inl ⟨by rfl, ?_⟩) (by assumption) ?_
  rotate_left
  · intro W hSw
    (try dsimp only at hSw)
    go_simp
    (try with_reducible rfl)
  try simp only [Act.put, List.setIfInBounds_toArray, List.set_cons_zero, List.set_cons_succ]
  refine wpAnyH_take (i := 1) (oi := { dst := _, op := _, type := _, pos := _, after := _, guard := _ }) (v := ?_) rfl (by kernel_rfl) (by kernel_rfl) (by kernel_rfl) (fun _ _ _ h => h) (Or.inl ⟨by rfl, ?_⟩) (by assumption) ?_
  rotate_left
  · intro W hSw
    (try dsimp only at hSw)
    go_simp
    (try with_reducible rfl)
  try simp only [Act.put, List.setIfInBounds_toArray, List.set_cons_zero, List.set_cons_succ]
  refine wpAnyH_take (i := 2) (oi := { dst := _, op := _, type := _, pos := _, after := _, guard := _ }) (v := ?_) rfl (by kernel_rfl) (by kernel_rfl) (by kernel_rfl) (fun _ _ _ h => h) (Or.inl ⟨by rfl, ?_⟩) (by assumption) ?_
  rotate_left
  · intro W hSw
    (try dsimp only at hSw)
    go_simp
    (try with_reducible rfl)
  try simp only [Act.put, List.setIfInBounds_toArray, List.set_cons_zero, List.set_cons_succ]
  refine wpAnyH_take (i := 3) (oi := { dst := _, op := _, type := _, pos := _, after := _, guard := _ }) (v := ?_) rfl (by kernel_rfl) (by kernel_rfl) (by kernel_rfl) (fun _ _ _ h => h) (Or.inl ⟨by rfl, ?_⟩) (by assumption) ?_
  rotate_left
  · intro W hSw
    (try dsimp only at hSw)
    go_simp
    (try with_reducible rfl)
  try simp only [Act.put, List.setIfInBounds_toArray, List.set_cons_zero, List.set_cons_succ]
  refine wpAnyH_take (i := 4) (oi := { dst := _, op := _, type := _, pos := _, after := _, guard := _ }) (v := ?_) rfl (by kernel_rfl) (by kernel_rfl) (by kernel_rfl) (fun _ _ _ h => h) (Or.inl ⟨by rfl, ?_⟩) (by assumption) ?_
  rotate_left
  · intro W hSw
    (try dsimp only at hSw)
    go_simp
    (try with_reducible rfl)
  try simp only [Act.put, List.setIfInBounds_toArray, List.set_cons_zero, List.set_cons_succ]
  refine wpAnyH_take (i := 5) (oi := { dst := _, op := _, type := _, pos := _, after := _, guard := _ }) (v := ?_) rfl (by kernel_rfl) (by kernel_rfl) (by kernel_rfl) (fun _ _ _ h => h) (Or.inl ⟨by rfl, ?_⟩) (by assumption) ?_
  rotate_left
  · intro W hSw
    (try dsimp only at hSw)
    go_simp
    (try with_reducible rfl)
  try simp only [Act.put, List.setIfInBounds_toArray, List.set_cons_zero, List.set_cons_succ]
  refine wpAnyH_take (i := 6) (oi := { dst := _, op := _, type := _, pos := _, after := _, guard := _ }) (v := ?_) rfl (by kernel_rfl) (by kernel_rfl) (by kernel_rfl) (fun _ _ _ h => h) (Or.inl ⟨by rfl, ?_⟩) (by assumption) ?_
  rotate_left
  · intro W hSw
    (try dsimp only at hSw)
    go_simp
    (try with_reducible rfl)
  try simp only [Act.put, List.setIfInBounds_toArray, List.set_cons_zero, List.set_cons_succ]
  refine wpAnyH_take (i := 7) (oi := { dst := _, op := _, type := _, pos := _, after := _, guard := _ }) (v := ?_) rfl (by kernel_rfl) (by kernel_rfl) (by kernel_rfl) (fun _ _ _ h => h) (Or.inl ⟨by rfl, ?_⟩) (by assumption) ?_
  rotate_left
  · intro W hSw
    (try dsimp only at hSw)
    go_simp
    (try with_reducible rfl)
  try simp only [Act.put, List.setIfInBounds_toArray, List.set_cons_zero, List.set_cons_succ]
  refine wpAnyH_take (i := 8) (oi := { dst := _, op := _, type := _, pos := _, after := _, guard := _ }) (v := ?_) rfl (by kernel_rfl) (by kernel_rfl) (by kernel_rfl) (fun _ _ _ h => h) (Or.inl ⟨by rfl, ?_⟩) (by assumption) ?_
  rotate_left
  · intro W hSw
    (try dsimp only at hSw)
    go_simp
    (try with_reducible rfl)
  try simp only [Act.put, List.setIfInBounds_toArray, List.set_cons_zero, List.set_cons_succ]
  refine wpAnyH_take (i := 9) (oi := { dst := _, op := _, type := _, pos := _, after := _, guard := _ }) (v := ?_) rfl (by kernel_rfl) (by kernel_rfl) (by kernel_rfl) (fun _ _ _ h => h) (Or.inl ⟨by rfl, ?_⟩) (by assumption) ?_
  rotate_left
  · intro W hSw
    (try dsimp only at hSw)
    go_simp
    (try with_reducible rfl)
  try simp only [Act.put, List.setIfInBounds_toArray, List.set_cons_zero, List.set_cons_succ]
  refine wpAnyH_take (i := 10) (oi := { dst := _, op := _, type := _, pos := _, after := _, guard := _ }) (v := ?_) rfl (by kernel_rfl) (by kernel_rfl) (by kernel_rfl) (fun _ _ _ h => h) (Or.inl ⟨by rfl, ?_⟩) (by assumption) ?_
  rotate_left
  · intro W hSw
    (try dsimp only at hSw)
    go_simp
    (try with_reducible rfl)
  try simp only [Act.put, List.setIfInBounds_toArray, List.set_cons_zero, List.set_cons_succ]
  refine wpAnyH_take (i := 11) (oi := { dst := _, op := _, type := _, pos := _, after := _, guard := _ }) (v := ?_) rfl (by kernel_rfl) (by kernel_rfl) (by kernel_rfl) (fun _ _ _ h => h) (Or.inl ⟨by rfl, ?_⟩) (by assumption) ?_
  rotate_left
  · intro W hSw
    (try dsimp only at hSw)
    go_simp
    (try with_reducible rfl)
  try simp only [Act.put, List.setIfInBounds_toArray, List.set_cons_zero, List.set_cons_succ]
  refine wpAnyH_ready (rs := [12]) (by kernel_rfl) (by simp) ?_
  refine AllReadyH.cons (o := { dst := _, op := _, type := _, pos := _, after := _, guard := _ }) rfl (fun K hK => ?_) AllReadyH.nil
  go_simp
  refine (C9.out _).mono ?_
  rintro e' w5 ⟨rfl, hb⟩
  have B5' : Hid (Below w4.heap.size w4 w5) := below_trans (Below.drew (Below.refl _ _)) hb
  clear hb
  go_wp2_with fail
  refine hK.out _ _ ?_ (fun hHeld => ?_)
  · (try dsimp only)
    exact HP.out _ B5'.out
  clear hK K
  try simp only [Act.put, List.setIfInBounds_toArray, List.set_cons_zero, List.set_cons_succ]
  refine wpAnyH_take (i := 13) (oi := { dst := _, op := _, type := _, pos := _, after := _, guard := _ }) (v := ?_) rfl (by kernel_rfl) (by kernel_rfl) (by kernel_rfl) (fun _ _ _ h => h) (Or.inl ⟨by rfl, ?_⟩) (by assumption) ?_
  rotate_left
  · intro W hSw
    (try dsimp only at hSw)
    go_simp
    (try with_reducible rfl)
  try simp only [Act.put, List.setIfInBounds_toArray, List.set_cons_zero, List.set_cons_succ]
  refine wpAnyH_take (i := 14) (oi := { dst := _, op := _, type := _, pos := _, after := _, guard := _ }) (v := ?_) rfl (by kernel_rfl) (by kernel_rfl) (by kernel_rfl) (fun _ _ _ h => h) (Or.inl ⟨by rfl, ?_⟩) (by assumption) ?_
  rotate_left
  · intro W hSw
    (try dsimp only at hSw)
    go_simp
    (try with_reducible rfl)
  try simp only [Act.put, List.setIfInBounds_toArray, List.set_cons_zero, List.set_cons_succ]
  refine wpAnyH_done (by kernel_rfl) ?_ _
  refine NoPanic.normal ?_
  have Kc5 : Hid _ := Kc4.out.up B5'.out
  have Ko5 : Hid _ := Ko4.out.up B5'.out
  have B5 : Hid _ := below_trans B4.out B5'.out
  clear hHeld HP B5' C9 Kc4 Ko4 Ky4 B4
  obtain ⟨o0, o1, o2, of⟩ := Ko5.out
  go_wp2_with fail
  refine (C9b.out _).mono ?_
  rintro e' w6 ⟨rfl, hb⟩
  have Kc6 : Hid _ := Kc5.out.up hb
  have Ko6 : Hid _ := Ko5.out.up hb
  have B6 : Hid _ := below_trans B5.out hb
  clear hb Kc5 Ko5 B5 o0 o1 o2 of C9b
  obtain ⟨o0, o1, o2, of⟩ := (Ko6.out.up (bel_up _ (.cells #[.int .i64 x0, .int .i64 x1, .string xI] 23)))
  go_wp2_with fail
  refine (C16b.out _).mono ?_
  rintro e' w7 ⟨rfl, hb⟩
  have Kc7 : Hid _ := (Kc6.out.up (bel_up _ (.cells #[.int .i64 x0, .int .i64 x1, .string xI] 23))).up hb
  have Ko7 : Hid _ := (Ko6.out.up (bel_up _ (.cells #[.int .i64 x0, .int .i64 x1, .string xI] 23))).up hb
  have Kx7 : Hid _ := box1 hb
  have B7 : Hid _ := below_trans (below_trans B6.out (bel_up _ _)) hb
  clear hb Kc6 Ko6 B6 o0 o1 o2 of C16b
  obtain ⟨c0, c1, c2, cf⟩ := Kc7.out
  obtain ⟨x0, x1, x2, xf⟩ := Kx7.out
  by_cases hr : code = 0 ∧ r = b
  · obtain ⟨h1, h2⟩ := hr
    obtain ⟨hr1, hr2⟩ := HRES.out ⟨h1, h2⟩
    subst h1
    subst h2
    go_wp2_with fail
    go_ret
    exact ⟨by simp, B7.out⟩
  · by_cases hc : code = 0
    · have hne : (!r.toList == b.toList) = true := by
        have : (r.toList == b.toList) = false := by
          rw [beq_eq_false_iff_ne]
          intro h
          rw [ByteArray.toList_eq, ByteArray.toList_eq] at h
          exact hr ⟨hc, WideShapes.bytes_inj h⟩
        rw [this]
        rfl
      subst hc
      clear hr
      go_wp2_with fail
      go_ret
      exact ⟨by simp, B7.out⟩
    · clear hr
      go_wp2_with fail
      go_ret
      exact ⟨by simp, B7.out⟩

theorem bt_self (a : ByteArray) : Bt a a a.size 0 := ⟨by omega, fun _ _ => rfl, fun j hj => by omega, Or.inl (by omega), Or.inl (by omega)⟩
theorem ext_nil (a : ByteArray) : a.extract a.size (a.size - 0) = ⟨#[]⟩ := ba_ext (by rw [ext_size _ _ _ (by omega) (by omega)]; show a.size - 0 - a.size = 0; omega) (fun i hi => by rw [ext_size _ _ _ (by omega) (by omega)] at hi; omega)
theorem bt_beh (a b : ByteArray) (i k : Nat) (h : Bt a b i k) : spl a i (a.size - k) (b.extract i (b.size - k)) = b := by
  have hl := h.le
  have := spl_of a b i (a.size - k) (by omega) (by omega) (by omega) (fun j hj => (h.pre j hj).symm) (fun j h1 h2 => by
    have := h.suf (a.size - 1 - j) (by omega)
    rw [show a.size - 1 - (a.size - 1 - j) = j by omega, show b.size - 1 - (a.size - 1 - j) = j + b.size - a.size by omega] at this
    exact this.symm)
  rwa [show b.size - (a.size - (a.size - k)) = b.size - k by omega] at this
/-- no edit does it with less -/
theorem bt_least (a b ins : ByteArray) (i k a' e' : Nat) (h : Bt a b i k) (h1 : a' ≤ e') (h2 : e' ≤ a.size) (hb : spl a a' e' ins = b) : a.size - k - i ≤ e' - a' ∧ b.size - k - i ≤ ins.size := by
  have hs := spl_size a a' e' ins h1 h2
  rw [hb] at hs
  have hl := h.le
  have hpre : a' ≤ i := by
    rcases Nat.lt_or_ge i a' with hlt | hge
    · exfalso
      rcases h.topi with ht | ht
      · omega
      · apply ht
        rw [← hb, spl_head a a' e' ins h1 h2 i hlt]
    · exact hge
  have hsum : a' + (a.size - e') ≤ i + k := by
    rcases h.topk with ht | ht
    · omega
    · rcases Nat.lt_or_ge k (a.size - e') with hlt | hge
      · exfalso
        apply ht
        have := spl_tail a a' e' ins h1 h2 (a.size - 1 - k) (by omega) (by omega)
        rw [hb, show a.size - 1 - k - (e' - a') + ins.size = b.size - 1 - k by omega] at this
        exact this.symm
      · omega
  omega

theorem editLeast_any (a b ins : ByteArray) (p q : Int) (w : World) (ha : a.size ≤ 140737488355328) (hb : b.size ≤ 140737488355328) (hi : ins.size ≤ 140737488355328) :
    Calls Try.prog 6 #[.string a, .string b, ed p q ins] w fun e w' => e = .returned (.bool true) ∧ Below w.heap.size w w' := by
  have C18 : ∀ W : World, Calls Try.prog 18 #[.string a, .string a] W fun e W' => e = .returned (ed a.size 0 ⟨#[]⟩) ∧ Below W.heap.size W W' := fun W => by
    have := between_any a a a.size 0 W (bt_self a) ha ha
    rw [ext_nil, show (a.size : Int) - ((0 : Nat) : Int) - (a.size : Int) = 0 by omega] at this
    exact this
  by_cases hbig : 1048576 < a.size ∨ 1048576 < b.size
  · exact least_big a b ins p q w C18 hbig
  · obtain ⟨i, k, hbt⟩ := bt_ex a b
    have hl := hbt.le
    obtain ⟨C, hC⟩ : ∃ C, b.extract i (b.size - k) = C := ⟨_, rfl⟩
    have hCs : C.size = b.size - k - i := by rw [← hC, ext_size _ _ _ (by omega) (by omega)]
    obtain ⟨D, hD⟩ : ∃ D, a.size - k - i = D := ⟨_, rfl⟩
    have hDi : (a.size : Int) - (k : Int) - (i : Int) = (D : Int) := by omega
    have kA : ca a.size (i : Int) = i := ca_nat (by omega)
    have kD : cd a.size (i : Int) (D : Int) = D := cd_nat (by omega)
    have okc : okE a (i : Int) (D : Int) C := ⟨by omega, by rw [kD, hCs]; omega⟩
    have hbeh : spl a i (i + D) C = b := by
      have := bt_beh a b i k hbt
      rw [hC, show a.size - k = i + D by omega] at this
      exact this
    have hcl := cd_le a.size p q
    have C18b : ∀ W : World, Calls Try.prog 18 #[.string a, .string b] W fun e W' => e = .returned (ed i D C) ∧ Below W.heap.size W W' := fun W => by
      have := between_any a b i k W hbt ha hb
      rw [hC, hDi] at this
      exact this
    have C16 : ∀ W : World, Calls Try.prog 16 #[.string a, ed i D C] W fun e W' => e = .returned (.tuple #[.string b, .int .i64 0]) ∧ Below W.heap.size W W' := fun W => by
      have := apply_any a i D C W okc
      rw [kA, kD, hbeh] at this
      exact this
    have C9 : ∀ W : World, Calls Try.prog 9 #[.int .i64 (a.size : Int), ed i D C] W fun e W' => e = .returned (ed i D C) ∧ Below W.heap.size W W' := fun W => by
      have := cclamp_any a.size i D C W (by omega) (by omega)
      rw [kA, kD] at this
      exact this
    have C9b : ∀ W : World, Calls Try.prog 9 #[.int .i64 (a.size : Int), ed p q ins] W fun e W' => e = .returned (ed (ca a.size p) (cd a.size p q) ins) ∧ Below W.heap.size W W' := fun W => cclamp_any a.size p q ins W (by omega) hi
    by_cases hok : okE a p q ins
    · refine least_run a b ins C ins (spl a (ca a.size p) (ca a.size p + cd a.size p q) ins) p q i D (ca a.size p) (cd a.size p q) 0 w C18 C18b C16 C9 C9b (fun W => apply_any a p q ins W hok) (by omega) (by omega) (fun hr => ?_)
      have := bt_least a b ins i k _ _ hbt (by omega) hcl hr.2
      omega
    · exact least_run a b ins C ins ⟨#[]⟩ p q i D (ca a.size p) (cd a.size p q) 10 w C18 C18b C16 C9 C9b (fun W => apply_big a p q ins W ha hi hok) (by omega) (by omega) (fun hr => by omega)

end Go.Proofs.Ytjpmmihcnfedgaa
