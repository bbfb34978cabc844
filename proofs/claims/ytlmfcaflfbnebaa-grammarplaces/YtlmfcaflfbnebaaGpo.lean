import Derived.Test.YtlmfcaflfbnebaaGpn
namespace Go.Proofs.Ytlmfcaflfbnebaa
open Go.RowKit Go.Maps

set_option maxRecDepth 100000 in
set_option maxHeartbeats 8000000 in
theorem rplace_any {v : Nat → Value} {vn : Value} {L : Nat → List Int} {N : List (List Int)} {vs : List Value} (w : World) (h : Sp w v vn L N vs) (cd p i s : Int) :
    Calls Try.prog 6 #[spv v vn, flv cd p i s] w fun e w' => e = .returned (.int .i64 (pl L N p i s)) ∧ Below w.heap.size w w' := by
  have S0 : Hid (Sp w v vn L N vs) := h
  clear h
  obtain ⟨a0, c0, e0⟩ := (S0.out.f 0 (by decide)).form
  obtain ⟨a1, c1, e1⟩ := (S0.out.f 1 (by decide)).form
  obtain ⟨a2, c2, e2⟩ := (S0.out.f 2 (by decide)).form
  obtain ⟨a3, c3, e3⟩ := (S0.out.f 3 (by decide)).form
  obtain ⟨a4, c4, e4⟩ := (S0.out.f 4 (by decide)).form
  obtain ⟨a5, c5, e5⟩ := (S0.out.f 5 (by decide)).form
  obtain ⟨a6, c6, e6⟩ := (S0.out.f 6 (by decide)).form
  obtain ⟨a7, c7, e7⟩ := (S0.out.f 7 (by decide)).form
  obtain ⟨an, cn, enn⟩ := S0.out.n.form
  have hv0 : spv v vn = .agg #[.slice a0 (L 0).length c0, .slice a1 (L 1).length c1, .slice a2 (L 2).length c2, .slice a3 (L 3).length c3, .slice a4 (L 4).length c4, .slice a5 (L 5).length c5, .slice a6 (L 6).length c6, .slice a7 (L 7).length c7, .slice an N.length cn] := by simp only [spv, enn, e0, e1, e2, e3, e4, e5, e6, e7]
  have HVN : Hid (vn = .slice an N.length cn) := enn
  have HV : Hid (spv v vn = .agg #[.slice a0 (L 0).length c0, .slice a1 (L 1).length c1, .slice a2 (L 2).length c2, .slice a3 (L 3).length c3, .slice a4 (L 4).length c4, .slice a5 (L 5).length c5, .slice a6 (L 6).length c6, .slice a7 (L 7).length c7, .slice an N.length cn]) := hv0
  clear hv0
  rw [HV.out]
  obtain ⟨W1, hW1⟩ : ∃ W1, W1 = (w.alloc (.cells #[.slice a0 (L 0).length c0, .slice a1 (L 1).length c1, .slice a2 (L 2).length c2, .slice a3 (L 3).length c3, .slice a4 (L 4).length c4, .slice a5 (L 5).length c5, .slice a6 (L 6).length c6, .slice a7 (L 7).length c7, .slice an N.length cn] 25)).alloc (.cells #[.int .i64 cd, .int .i64 p, .int .i64 i, .int .i64 s] 29) := ⟨_, rfl⟩
  have hh : W1.heap[w.heap.size]? = some (.cells #[.slice a0 (L 0).length c0, .slice a1 (L 1).length c1, .slice a2 (L 2).length c2, .slice a3 (L 3).length c3, .slice a4 (L 4).length c4, .slice a5 (L 5).length c5, .slice a6 (L 6).length c6, .slice a7 (L 7).length c7, .slice an N.length cn] 25 (0, 0)) := by rw [hW1, (bel_up _ _).block _ (by simp)]; exact heap_new w _
  have hg : W1.heap[w.heap.size + 1]? = some (.cells #[.int .i64 cd, .int .i64 p, .int .i64 i, .int .i64 s] 29 (0, 0)) := by
    rw [hW1]
    have := heap_new (w.alloc (.cells #[.slice a0 (L 0).length c0, .slice a1 (L 1).length c1, .slice a2 (L 2).length c2, .slice a3 (L 3).length c3, .slice a4 (L 4).length c4, .slice a5 (L 5).length c5, .slice a6 (L 6).length c6, .slice a7 (L 7).length c7, .slice an N.length cn] 25)) (.cells #[.int .i64 cd, .int .i64 p, .int .i64 i, .int .i64 s] 29)
    rw [World.size_alloc] at this
    exact this
  have HB : Hid (Below w.heap.size w W1) := by rw [hW1]; exact below_trans (bel_up _ _) (bel_up _ _)
  have S1 : Hid (Sp W1 v vn L N vs) := S0.out.up HB.out
  have HW : Hid (W1 = (w.alloc (.cells #[.slice a0 (L 0).length c0, .slice a1 (L 1).length c1, .slice a2 (L 2).length c2, .slice a3 (L 3).length c3, .slice a4 (L 4).length c4, .slice a5 (L 5).length c5, .slice a6 (L 6).length c6, .slice a7 (L 7).length c7, .slice an N.length cn] 25)).alloc (.cells #[.int .i64 cd, .int .i64 p, .int .i64 i, .int .i64 s] 29)) := hW1
  clear hW1 S0
  have p0 := rcell hh 0 (.slice a0 (L 0).length c0) rfl
  have p1 := rcell hh 1 (.slice a1 (L 1).length c1) rfl
  have p2 := rcell hh 2 (.slice a2 (L 2).length c2) rfl
  have p3 := rcell hh 3 (.slice a3 (L 3).length c3) rfl
  have p4 := rcell hh 4 (.slice a4 (L 4).length c4) rfl
  have p5 := rcell hh 5 (.slice a5 (L 5).length c5) rfl
  have p6 := rcell hh 6 (.slice a6 (L 6).length c6) rfl
  have p7 := rcell hh 7 (.slice a7 (L 7).length c7) rfl
  have p8 := rcell hh 8 (.slice an N.length cn) rfl
  have q0 := rcell hg 0 (.int .i64 cd) rfl
  have q1 := rcell hg 1 (.int .i64 p) rfl
  have q2 := rcell hg 2 (.int .i64 i) rfl
  have q3 := rcell hg 3 (.int .i64 s) rfl
  have F0 : Hid (∀ W, Below W1.heap.size W1 W → Rw W (.slice a0 (L 0).length c0) (L 0).length (iC (L 0))) := fun W hW => by rw [← e0]; exact (S1.out.f 0 (by decide)).up hW
  have F1 : Hid (∀ W, Below W1.heap.size W1 W → Rw W (.slice a1 (L 1).length c1) (L 1).length (iC (L 1))) := fun W hW => by rw [← e1]; exact (S1.out.f 1 (by decide)).up hW
  have F2 : Hid (∀ W, Below W1.heap.size W1 W → Rw W (.slice a2 (L 2).length c2) (L 2).length (iC (L 2))) := fun W hW => by rw [← e2]; exact (S1.out.f 2 (by decide)).up hW
  have F3 : Hid (∀ W, Below W1.heap.size W1 W → Rw W (.slice a3 (L 3).length c3) (L 3).length (iC (L 3))) := fun W hW => by rw [← e3]; exact (S1.out.f 3 (by decide)).up hW
  have F4 : Hid (∀ W, Below W1.heap.size W1 W → Rw W (.slice a4 (L 4).length c4) (L 4).length (iC (L 4))) := fun W hW => by rw [← e4]; exact (S1.out.f 4 (by decide)).up hW
  have F5 : Hid (∀ W, Below W1.heap.size W1 W → Rw W (.slice a5 (L 5).length c5) (L 5).length (iC (L 5))) := fun W hW => by rw [← e5]; exact (S1.out.f 5 (by decide)).up hW
  have F6 : Hid (∀ W, Below W1.heap.size W1 W → Rw W (.slice a6 (L 6).length c6) (L 6).length (iC (L 6))) := fun W hW => by rw [← e6]; exact (S1.out.f 6 (by decide)).up hW
  have F7 : Hid (∀ W, Below W1.heap.size W1 W → Rw W (.slice a7 (L 7).length c7) (L 7).length (iC (L 7))) := fun W hW => by rw [← e7]; exact (S1.out.f 7 (by decide)).up hW
  clear hh hg enn e0 e1 e2 e3 e4 e5 e6 e7
  by_cases n0 : p = 1
  · subst n0
    rw [show pl L N 1 i s = en (L 0) i from rfl]
    go_enter Try.func6, Try.ntmps6
    go_upto_region 1 with fail
    rw [← HW.out]
    go_wp2_with (go_at_call 11; refine (rentry_any W1 (F0.out W1 (Below.refl _ _)) i).mono ?_; rintro e w2 ⟨rfl, hb2⟩; have B2 : Hid _ := hb2; clear hb2)
    go_ret
    exact ⟨rfl, below_trans HB.out B2.out⟩
  have z0 : (p == 1) = false := by rw [beq_eq_false_iff_ne]; exact n0
  by_cases n1 : p = 2
  · subst n1
    rw [show pl L N 2 i s = en (L 1) i from rfl]
    go_enter Try.func6, Try.ntmps6
    go_upto_region 1 with fail
    rw [← HW.out]
    go_wp2_with (go_at_call 11; refine (rentry_any W1 (F1.out W1 (Below.refl _ _)) i).mono ?_; rintro e w2 ⟨rfl, hb2⟩; have B2 : Hid _ := hb2; clear hb2)
    go_ret
    exact ⟨rfl, below_trans HB.out B2.out⟩
  have z1 : (p == 2) = false := by rw [beq_eq_false_iff_ne]; exact n1
  by_cases n2 : p = 3
  · subst n2
    rw [show pl L N 3 i s = en (L 2) i from rfl]
    go_enter Try.func6, Try.ntmps6
    go_upto_region 1 with fail
    rw [← HW.out]
    go_wp2_with (go_at_call 11; refine (rentry_any W1 (F2.out W1 (Below.refl _ _)) i).mono ?_; rintro e w2 ⟨rfl, hb2⟩; have B2 : Hid _ := hb2; clear hb2)
    go_ret
    exact ⟨rfl, below_trans HB.out B2.out⟩
  have z2 : (p == 3) = false := by rw [beq_eq_false_iff_ne]; exact n2
  by_cases n4 : p = 5
  · subst n4
    rw [show pl L N 5 i s = en (L 4) i from rfl]
    go_enter Try.func6, Try.ntmps6
    go_upto_region 1 with fail
    rw [← HW.out]
    go_wp2_with (go_at_call 11; refine (rentry_any W1 (F4.out W1 (Below.refl _ _)) i).mono ?_; rintro e w2 ⟨rfl, hb2⟩; have B2 : Hid _ := hb2; clear hb2)
    go_ret
    exact ⟨rfl, below_trans HB.out B2.out⟩
  have z4 : (p == 5) = false := by rw [beq_eq_false_iff_ne]; exact n4
  by_cases n5 : p = 6
  · subst n5
    rw [show pl L N 6 i s = en (L 5) i from rfl]
    go_enter Try.func6, Try.ntmps6
    go_upto_region 1 with fail
    rw [← HW.out]
    go_wp2_with (go_at_call 11; refine (rentry_any W1 (F5.out W1 (Below.refl _ _)) i).mono ?_; rintro e w2 ⟨rfl, hb2⟩; have B2 : Hid _ := hb2; clear hb2)
    go_ret
    exact ⟨rfl, below_trans HB.out B2.out⟩
  have z5 : (p == 6) = false := by rw [beq_eq_false_iff_ne]; exact n5
  by_cases n6 : p = 7
  · subst n6
    rw [show pl L N 7 i s = en (L 6) i from rfl]
    go_enter Try.func6, Try.ntmps6
    go_upto_region 1 with fail
    rw [← HW.out]
    go_wp2_with (go_at_call 11; refine (rentry_any W1 (F6.out W1 (Below.refl _ _)) i).mono ?_; rintro e w2 ⟨rfl, hb2⟩; have B2 : Hid _ := hb2; clear hb2)
    go_ret
    exact ⟨rfl, below_trans HB.out B2.out⟩
  have z6 : (p == 7) = false := by rw [beq_eq_false_iff_ne]; exact n6
  by_cases n7 : p = 8
  · subst n7
    rw [show pl L N 8 i s = en (L 7) i from rfl]
    go_enter Try.func6, Try.ntmps6
    go_upto_region 1 with fail
    rw [← HW.out]
    go_wp2_with (go_at_call 11; refine (rentry_any W1 (F7.out W1 (Below.refl _ _)) i).mono ?_; rintro e w2 ⟨rfl, hb2⟩; have B2 : Hid _ := hb2; clear hb2)
    go_ret
    exact ⟨rfl, below_trans HB.out B2.out⟩
  have z7 : (p == 8) = false := by rw [beq_eq_false_iff_ne]; exact n7
  by_cases n3 : p = 4
  · subst n3
    clear z0 z1 z2 z4 z5 z6 z7 n0 n1 n2 n4 n5 n6 n7
    by_cases hs : s < 0
    · rw [show pl L N 4 i s = en (L 3) i from by rw [pl_sl L N 4 i s (by omega)]; rfl]
      go_enter Try.func6, Try.ntmps6
      go_upto_region 1 with fail
      rw [← HW.out]
      go_wp2_with (go_at_call 11; refine (rentry_any W1 (F3.out W1 (Below.refl _ _)) i).mono ?_; rintro e w2 ⟨rfl, hb2⟩; have B2 : Hid _ := hb2; clear hb2)
      go_ret
      exact ⟨rfl, below_trans HB.out B2.out⟩
    rw [show pl L N 4 i s = en (enL N i) s from if_pos ⟨rfl, by omega⟩]
    by_cases hi : i < 0
    · rw [show enL N i = [] from by unfold enL; rw [if_neg (by omega)], en_nil]
      go_enter Try.func6, Try.ntmps6
      go_upto_region 1 with fail
      rw [← HW.out]
      go_wp2_with fail
      go_ret
      exact ⟨rfl, HB.out⟩
    by_cases hi2 : (N.length : Int) ≤ i
    · rw [show enL N i = [] from by unfold enL; rw [if_neg (by omega)], en_nil]
      go_enter Try.func6, Try.ntmps6
      go_upto_region 1 with fail
      rw [← HW.out]
      go_wp2_with fail
      go_ret
      exact ⟨rfl, HB.out⟩
    obtain ⟨k, rfl⟩ : ∃ k : Nat, i = (k : Int) := ⟨i.toNat, by omega⟩
    have hk : k < N.length := by omega
    rw [show enL N (k : Int) = N.getD k [] from by unfold enL; rw [if_pos (by omega)]; rfl]
    have hlen := S1.out.len
    have hx : vs[k]? = some vs[k] := List.getElem?_eq_getElem (by omega)
    have hN : N[k]? = some (N.getD k []) := by rw [List.getD_eq_getElem?_getD, List.getElem?_eq_getElem hk]; rfl
    have HE : Hid (Rw W1 vs[k] (N.getD k []).length (iC (N.getD k []))) := S1.out.e k _ _ hx hN
    obtain ⟨g, o, cap, heq, hc⟩ := S1.out.n.slot k _ (by omega) hx
    obtain ⟨rfl, -, rfl⟩ := Value.slice.inj (HVN.out.symm.trans heq)
    obtain ⟨x, hx'⟩ : ∃ x, vs[k] = x := ⟨_, rfl⟩
    rw [hx'] at HE hc
    clear heq hN hx hx' hlen hi hi2
    obtain ⟨ax, cx, rfl⟩ := HE.out.form
    obtain ⟨n, hn⟩ : ∃ n, N.length = n := ⟨_, rfl⟩
    rw [hn] at hk p8 HW ⊢
    clear hn HV HVN S1
    go_enter Try.func6, Try.ntmps6
    go_upto_region 1 with fail
    rw [← HW.out]
    go_upto_region 13 with fail
    obtain ⟨WD, hWD⟩ : ∃ WD, W1.drew = WD := ⟨_, rfl⟩
    have BD : Hid (Below W1.heap.size W1 WD) := by rw [← hWD]; exact Below.drew (Below.refl _ _)
    have HS : Hid (∀ W, Below W1.heap.size W1 W → (W.cell? ⟨w.heap.size, 8, none⟩ = some (.slice (some ⟨g, o, none⟩) n cn) ∧ W.cell? ⟨w.heap.size + 1, 2, none⟩ = some (.int .i64 (k : Int)) ∧ W.cell? ⟨w.heap.size + 1, 3, none⟩ = some (.int .i64 s) ∧ W.cell? ⟨g, o + k, none⟩ = some (.slice ax (N.getD k []).length cx))) := fun W hW => ⟨below_cell hW p8, below_cell hW q2, below_cell hW q3, below_cell hW hc⟩
    refine wp_region_noPanic ?_
    refine wp_region_held_drew (S := fun W => W.cell? ⟨w.heap.size, 8, none⟩ = some (.slice (some ⟨g, o, none⟩) n cn) ∧ W.cell? ⟨w.heap.size + 1, 2, none⟩ = some (.int .i64 (k : Int)) ∧ W.cell? ⟨w.heap.size + 1, 3, none⟩ = some (.int .i64 s) ∧ W.cell? ⟨g, o + k, none⟩ = some (.slice ax (N.getD k []).length cx)) (by kernel_rfl) (by rw [hWD]; exact HS.out _ BD.out) (fun hHeld => ?_)
    rw [hWD] at hHeld ⊢
    clear hWD
    refine wpAnyH_take (i := 0) (oi := { dst := _, op := _, type := _, pos := _, after := _, guard := _ }) (v := ?_) rfl (by kernel_rfl) (by kernel_rfl) (by kernel_rfl) (fun _ _ _ h => h) (Or.inl ⟨by rfl, ?_⟩) (by assumption) ?_
    rotate_left
    · intro W hSw
      (try dsimp only at hSw)
      go_simp
      (try with_reducible rfl)
    try simp only [Act.put, List.setIfInBounds_toArray, List.set_cons_zero, List.set_cons_succ]
    refine wpAnyH_take (i := 1) (oi := { dst := _, op := _, type := _, pos := _, after := _, guard := _ }) (v := ?_) rfl (by kernel_rfl) (by kernel_rfl) (by kernel_rfl) (fun _ _ _ h => h) (Or.inl ⟨by rfl, ?_⟩) (by assumption) ?_
    rotate_left
    · intro W hSw
      (try dsimp only at hSw)
      go_simp
      (try with_reducible rfl)
    try simp only [Act.put, List.setIfInBounds_toArray, List.set_cons_zero, List.set_cons_succ]
    refine wpAnyH_take (i := 2) (oi := { dst := _, op := _, type := _, pos := _, after := _, guard := _ }) (v := ?_) rfl (by kernel_rfl) (by kernel_rfl) (by kernel_rfl) (fun _ _ _ h => h) (Or.inl ⟨by rfl, ?_⟩) (by assumption) ?_
    rotate_left
    · intro W hSw
      (try dsimp only at hSw)
      go_simp
      (try with_reducible rfl)
    try simp only [Act.put, List.setIfInBounds_toArray, List.set_cons_zero, List.set_cons_succ]
    refine wpAnyH_take (i := 3) (oi := { dst := _, op := _, type := _, pos := _, after := _, guard := _ }) (v := ?_) rfl (by kernel_rfl) (by kernel_rfl) (by kernel_rfl) (fun _ _ _ h => h) (Or.inl ⟨by rfl, ?_⟩) (by assumption) ?_
    rotate_left
    · intro W hSw
      (try dsimp only at hSw)
      go_simp
      (try with_reducible rfl)
    try simp only [Act.put, List.setIfInBounds_toArray, List.set_cons_zero, List.set_cons_succ]
    refine wpAnyH_take (i := 4) (oi := { dst := _, op := _, type := _, pos := _, after := _, guard := _ }) (v := ?_) rfl (by kernel_rfl) (by kernel_rfl) (by kernel_rfl) (fun _ _ _ h => h) (Or.inl ⟨by rfl, ?_⟩) (by assumption) ?_
    rotate_left
    · intro W hSw
      (try dsimp only at hSw)
      go_simp
      (try with_reducible rfl)
    try simp only [Act.put, List.setIfInBounds_toArray, List.set_cons_zero, List.set_cons_succ]
    refine wpAnyH_take (i := 5) (oi := { dst := _, op := _, type := _, pos := _, after := _, guard := _ }) (v := ?_) rfl (by kernel_rfl) (by kernel_rfl) (by kernel_rfl) (fun _ _ _ h => h) (Or.inl ⟨by rfl, ?_⟩) (by assumption) ?_
    rotate_left
    · intro W hSw
      (try dsimp only at hSw)
      go_simp
      (try with_reducible rfl)
    try simp only [Act.put, List.setIfInBounds_toArray, List.set_cons_zero, List.set_cons_succ]
    refine wpAnyH_take (i := 6) (oi := { dst := _, op := _, type := _, pos := _, after := _, guard := _ }) (v := ?_) rfl (by kernel_rfl) (by kernel_rfl) (by kernel_rfl) (fun _ _ _ h => h) (Or.inl ⟨by rfl, ?_⟩) (by assumption) ?_
    rotate_left
    · intro W hSw
      (try dsimp only at hSw)
      go_simp
      (try with_reducible rfl)
    try simp only [Act.put, List.setIfInBounds_toArray, List.set_cons_zero, List.set_cons_succ]
    refine wpAnyH_take (i := 7) (oi := { dst := _, op := _, type := _, pos := _, after := _, guard := _ }) (v := ?_) rfl (by kernel_rfl) (by kernel_rfl) (by kernel_rfl) (fun _ _ _ h => h) (Or.inl ⟨by rfl, ?_⟩) (by assumption) ?_
    rotate_left
    · intro W hSw
      (try dsimp only at hSw)
      go_simp
      (try with_reducible rfl)
    try simp only [Act.put, List.setIfInBounds_toArray, List.set_cons_zero, List.set_cons_succ]
    refine wpAnyH_ready (rs := [8]) (by kernel_rfl) (by simp) ?_
    refine AllReadyH.cons (o := { dst := _, op := _, type := _, pos := _, after := _, guard := _ }) rfl (fun K hK => ?_) AllReadyH.nil
    go_simp
    refine (rentry_any WD (HE.out.up BD.out) s).mono ?_
    rintro e w3 ⟨rfl, hb3⟩
    have B3 : Hid (Below W1.heap.size W1 w3) := below_trans BD.out hb3
    clear hb3
    go_wp2_with fail
    refine hK.out _ _ ?_ (fun hHeld => ?_)
    · exact HS.out _ B3.out
    clear hK K
    try simp only [Act.put, List.setIfInBounds_toArray, List.set_cons_zero, List.set_cons_succ]
    refine wpAnyH_take (i := 9) (oi := { dst := _, op := _, type := _, pos := _, after := _, guard := _ }) (v := ?_) rfl (by kernel_rfl) (by kernel_rfl) (by kernel_rfl) (fun _ _ _ h => h) (Or.inl ⟨by rfl, ?_⟩) (by assumption) ?_
    rotate_left
    · intro W hSw
      (try dsimp only at hSw)
      go_simp
      (try with_reducible rfl)
    try simp only [Act.put, List.setIfInBounds_toArray, List.set_cons_zero, List.set_cons_succ]
    refine wpAnyH_done (by kernel_rfl) ?_ _
    refine NoPanic.normal ?_
    clear hHeld
    go_wp2_with fail
    go_ret
    exact ⟨rfl, below_trans HB.out B3.out⟩
  have z3 : (p == 4) = false := by rw [beq_eq_false_iff_ne]; exact n3
  rw [show pl L N p i s = 0 from by rw [pl_sl L N p i s (fun h => n3 h.1)]; unfold sl; rw [if_neg n0, if_neg n1, if_neg n2, if_neg n3, if_neg n4, if_neg n5, if_neg n6, if_neg n7]; exact en_nil i]
  clear n0 n1 n2 n3 n4 n5 n6 n7
  go_enter Try.func6, Try.ntmps6
  go_upto_region 1 with fail
  rw [← HW.out]
  go_wp2_with fail
  go_ret
  exact ⟨rfl, HB.out⟩
end Go.Proofs.Ytlmfcaflfbnebaa
