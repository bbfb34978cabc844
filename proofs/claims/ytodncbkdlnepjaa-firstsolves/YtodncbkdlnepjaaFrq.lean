import Derived.Test.YtodncbkdlnepjaaFrp
namespace Go.Proofs.Ytodncbkdlnepjaa
open Go.RowKit Go.Maps

set_option maxRecDepth 100000 in
set_option maxHeartbeats 8000000 in
theorem rrow_any {v0 v1 v2 v : Value} {nT nS : Nat} {P : List Pd} {l : List Rf} (w : World) (h : Gm w v0 v1 v2 nT nS P) (hz : Gz nT nS P) (hr : Rw w v l.length (flat rf l)) (hl : l.length ≤ 4611686018427387904) :
    Calls Try.prog 36 #[.agg #[v0, v1, v2], v] w fun e w' => e = .returned (.bool (wth (nT + nS) l)) ∧ Below w.heap.size w w' := by
  have HG : Hid (Gm w v0 v1 v2 nT nS P) := h
  have HZ : Hid _ := hz
  have HV : Hid (Rw w v l.length (flat rf l)) := hr
  have HL : Hid _ := hl
  obtain ⟨a0, c0, a1, c1, a2, c2, rfl, rfl, rfl⟩ := h.form
  obtain ⟨a, c, rfl⟩ := hr.form
  clear h hz hr hl
  obtain ⟨n, hn⟩ : ∃ n, l.length = n := ⟨_, rfl⟩
  have HN : Hid (l.length = n) := hn
  rw [hn] at HV HL ⊢
  clear hn
  obtain ⟨W1, hW1⟩ : ∃ W1, W1 = w.alloc (.cells #[.slice a0 nT c0, .slice a1 nS c1, .slice a2 P.length c2] 26) := ⟨_, rfl⟩
  have HX : Hid (W1.heap[w.heap.size]? = some (.cells #[.slice a0 nT c0, .slice a1 nS c1, .slice a2 P.length c2] 26 (0, 0))) := by rw [hW1]; exact heap_new w _
  have HB1 : Hid (Below w.heap.size w W1) := by rw [hW1]; exact bel_up _ _
  have hadd : IntKind.i64.wrap ((nT : Int) + (nS : Int)) = (nT : Int) + (nS : Int) := by have := HZ.out.t; have := HZ.out.s; rw [IntKind.wrap_i64]; omega
  go_enter Try.func36, Try.ntmps36
  go_upto_region 1 with fail
  rw [← hW1]
  clear hW1
  obtain ⟨gb, hgb⟩ : ∃ gb, w.heap.size = gb := ⟨_, rfl⟩
  rw [hgb] at HX ⊢
  clear hgb
  go_upto_region 2 with fail
  go_loopg [5] n (fun gm v5 wr => ∃ i : Nat, v5 = .int .i64 (i : Int) ∧ Hid (Below W1.heap.size W1 wr) ∧ Hid (i ≤ n ∧ gm = n - i) ∧ Hid ((l.take i).all (fun x => decide (0 ≤ x.1) && decide (x.1 < ((nT + nS : Nat) : Int))) = true))
  case atStart => exact ⟨0, rfl, Below.refl _ _, ⟨Nat.zero_le _, rfl⟩, rfl⟩
  case round =>
    obtain ⟨i, rfl, HBW, HI, HA⟩ := hrel
    by_cases hi : i < n
    · obtain ⟨g, o, cap, e0, hc⟩ := HV.out.place (by omega)
      obtain ⟨rfl, -, rfl⟩ := Value.slice.inj e0
      have hil : i < l.length := by have := HN.out; omega
      have hBW := below_trans HB1.out HBW.out
      obtain ⟨q0, -, -⟩ := rf_get l i hil
      have k0 := below_cell hBW (hc _ _ q0)
      obtain ⟨x, hx⟩ : ∃ x, l.getD i rfd = x := ⟨_, rfl⟩
      rw [hx] at k0
      have HXE : Hid (l.getD i rfd = x) := hx
      obtain ⟨xs, xf, xa⟩ := x
      dsimp only at k0
      have e1 : decide ((i : Int) < (n : Int)) = true := by rw [decide_eq_true_eq]; omega
      have e2 : decide (i < n) = true := by rw [decide_eq_true_eq]; omega
      have e5 : (i : Int) < (n : Int) := by omega
      have e6 : i < n := hi
      have HIL : Hid (i < n) := hi
      have hwr := w64n i (by have := HL.out; have := HIL.out; omega)
      clear e0 hc hx q0 hBW hil hi
      go_upto_region 4 with fail
      obtain ⟨WD, hWD⟩ : ∃ WD, wr.drew = WD := ⟨_, rfl⟩
      have BD : Hid (Below wr.heap.size wr WD) := by rw [← hWD]; exact Below.drew (Below.refl _ _)
      have HBD : Hid (Below W1.heap.size W1 WD) := below_trans HBW.out BD.out
      have HS : Hid (WD.cell? ⟨g, o + i * 3, none⟩ = some (.int .i64 xs) ∧ WD.cell? ⟨gb, 0, none⟩ = some (.slice a0 nT c0) ∧ WD.cell? ⟨gb, 1, none⟩ = some (.slice a1 nS c1)) := ⟨below_cell BD.out k0, below_cell HBD.out (rcell HX.out 0 _ rfl), below_cell HBD.out (rcell HX.out 1 _ rfl)⟩
      clear k0
      by_cases hneg : xs < 0
      · have d1 : decide (xs < 0) = true := decide_eq_true hneg
        have HNE : Hid (xs < 0) := hneg
        clear hneg
        refine wp_region_noPanic ?_
        refine wp_region_held_drew (S := fun W => W.cell? ⟨g, o + i * 3, none⟩ = some (.int .i64 xs) ∧ W.cell? ⟨gb, 0, none⟩ = some (.slice a0 nT c0) ∧ W.cell? ⟨gb, 1, none⟩ = some (.slice a1 nS c1)) (by kernel_rfl) (by rw [hWD]; exact HS.out) (fun hHeld => ?_)
        rw [hWD] at hHeld ⊢
        clear hWD
        refine wpAnyH_take (i := 0) (oi := { dst := _, op := _, type := _, pos := _, after := _, guard := _ }) (v := ?_) rfl (by kernel_rfl) (by kernel_rfl) (by kernel_rfl) (fun _ _ _ h => h) (Or.inl ⟨by rfl, ?_⟩) (by assumption) ?_
        rotate_left
        · intro W hSw
          (try dsimp only at hSw)
          go_simp
          (try with_reducible rfl)
        try simp only [Act.put, List.setIfInBounds_toArray, List.set_cons_zero, List.set_cons_succ]
        refine wpAnyH_take (i := 1) (oi := { dst := _, op := _, type := _, pos := _, after := _, guard := _ }) (v := ?_) rfl (by kernel_rfl) (by kernel_rfl) (by kernel_rfl) (fun _ _ _ h => h) (Or.inl ⟨by rfl, ?_⟩) (by assumption) ?_
        rotate_left
        · intro W hSw
          (try dsimp only at hSw)
          go_simp
          (try with_reducible rfl)
        try simp only [Act.put, List.setIfInBounds_toArray, List.set_cons_zero, List.set_cons_succ]
        refine wpAnyH_take (i := 2) (oi := { dst := _, op := _, type := _, pos := _, after := _, guard := _ }) (v := ?_) rfl (by kernel_rfl) (by kernel_rfl) (by kernel_rfl) (fun _ _ _ h => h) (Or.inl ⟨by rfl, ?_⟩) (by assumption) ?_
        rotate_left
        · intro W hSw
          (try dsimp only at hSw)
          go_simp
          (try with_reducible rfl)
        try simp only [Act.put, List.setIfInBounds_toArray, List.set_cons_zero, List.set_cons_succ]
        refine wpAnyH_take (i := 3) (oi := { dst := _, op := _, type := _, pos := _, after := _, guard := _ }) (v := ?_) rfl (by kernel_rfl) (by kernel_rfl) (by kernel_rfl) (fun _ _ _ h => h) (Or.inl ⟨by rfl, ?_⟩) (by assumption) ?_
        rotate_left
        · intro W hSw
          (try dsimp only at hSw)
          go_simp
          (try with_reducible rfl)
        try simp only [Act.put, List.setIfInBounds_toArray, List.set_cons_zero, List.set_cons_succ]
        refine wpAnyH_take (i := 4) (oi := { dst := _, op := _, type := _, pos := _, after := _, guard := _ }) (v := ?_) rfl (by kernel_rfl) (by kernel_rfl) (by kernel_rfl) (fun _ _ _ h => h) (Or.inl ⟨by rfl, ?_⟩) (by assumption) ?_
        rotate_left
        · intro W hSw
          (try dsimp only at hSw)
          go_simp
          (try with_reducible rfl)
        try simp only [Act.put, List.setIfInBounds_toArray, List.set_cons_zero, List.set_cons_succ]
        refine wpAnyH_take (i := 5) (oi := { dst := _, op := _, type := _, pos := _, after := _, guard := _ }) (v := ?_) rfl (by kernel_rfl) (by kernel_rfl) (by kernel_rfl) (fun _ _ _ h => h) (Or.inl ⟨by rfl, ?_⟩) (by assumption) ?_
        rotate_left
        · intro W hSw
          (try dsimp only at hSw)
          go_simp
          (try with_reducible rfl)
        try simp only [Act.put, List.setIfInBounds_toArray, List.set_cons_zero, List.set_cons_succ]
        refine wpAnyH_take (i := 6) (oi := { dst := _, op := _, type := _, pos := _, after := _, guard := _ }) (v := ?_) rfl (by kernel_rfl) (by kernel_rfl) (by kernel_rfl) (fun _ _ _ h => h) (Or.inl ⟨by rfl, ?_⟩) (by assumption) ?_
        rotate_left
        · intro W hSw
          (try dsimp only at hSw)
          go_simp
          (try with_reducible rfl)
        try simp only [Act.put, List.setIfInBounds_toArray, List.set_cons_zero, List.set_cons_succ]
        refine wpAnyH_take (i := 7) (oi := { dst := _, op := _, type := _, pos := _, after := _, guard := _ }) rfl (by kernel_rfl) (by kernel_rfl) (by kernel_rfl) (fun _ _ _ h => h) (Or.inr ⟨by rfl, rfl⟩) (by assumption) ?_
        try simp only [Act.put, List.setIfInBounds_toArray, List.set_cons_zero, List.set_cons_succ]
        refine wpAnyH_take (i := 8) (oi := { dst := _, op := _, type := _, pos := _, after := _, guard := _ }) rfl (by kernel_rfl) (by kernel_rfl) (by kernel_rfl) (fun _ _ _ h => h) (Or.inr ⟨by rfl, rfl⟩) (by assumption) ?_
        try simp only [Act.put, List.setIfInBounds_toArray, List.set_cons_zero, List.set_cons_succ]
        refine wpAnyH_take (i := 9) (oi := { dst := _, op := _, type := _, pos := _, after := _, guard := _ }) rfl (by kernel_rfl) (by kernel_rfl) (by kernel_rfl) (fun _ _ _ h => h) (Or.inr ⟨by rfl, rfl⟩) (by assumption) ?_
        try simp only [Act.put, List.setIfInBounds_toArray, List.set_cons_zero, List.set_cons_succ]
        refine wpAnyH_take (i := 10) (oi := { dst := _, op := _, type := _, pos := _, after := _, guard := _ }) rfl (by kernel_rfl) (by kernel_rfl) (by kernel_rfl) (fun _ _ _ h => h) (Or.inr ⟨by rfl, rfl⟩) (by assumption) ?_
        try simp only [Act.put, List.setIfInBounds_toArray, List.set_cons_zero, List.set_cons_succ]
        refine wpAnyH_take (i := 11) (oi := { dst := _, op := _, type := _, pos := _, after := _, guard := _ }) rfl (by kernel_rfl) (by kernel_rfl) (by kernel_rfl) (fun _ _ _ h => h) (Or.inr ⟨by rfl, rfl⟩) (by assumption) ?_
        try simp only [Act.put, List.setIfInBounds_toArray, List.set_cons_zero, List.set_cons_succ]
        refine wpAnyH_take (i := 12) (oi := { dst := _, op := _, type := _, pos := _, after := _, guard := _ }) rfl (by kernel_rfl) (by kernel_rfl) (by kernel_rfl) (fun _ _ _ h => h) (Or.inr ⟨by rfl, rfl⟩) (by assumption) ?_
        try simp only [Act.put, List.setIfInBounds_toArray, List.set_cons_zero, List.set_cons_succ]
        refine wpAnyH_take (i := 13) (oi := { dst := _, op := _, type := _, pos := _, after := _, guard := _ }) rfl (by kernel_rfl) (by kernel_rfl) (by kernel_rfl) (fun _ _ _ h => h) (Or.inr ⟨by rfl, rfl⟩) (by assumption) ?_
        try simp only [Act.put, List.setIfInBounds_toArray, List.set_cons_zero, List.set_cons_succ]
        refine wpAnyH_take (i := 14) (oi := { dst := _, op := _, type := _, pos := _, after := _, guard := _ }) rfl (by kernel_rfl) (by kernel_rfl) (by kernel_rfl) (fun _ _ _ h => h) (Or.inr ⟨by rfl, rfl⟩) (by assumption) ?_
        try simp only [Act.put, List.setIfInBounds_toArray, List.set_cons_zero, List.set_cons_succ]
        refine wpAnyH_take (i := 15) (oi := { dst := _, op := _, type := _, pos := _, after := _, guard := _ }) rfl (by kernel_rfl) (by kernel_rfl) (by kernel_rfl) (fun _ _ _ h => h) (Or.inr ⟨by rfl, rfl⟩) (by assumption) ?_
        try simp only [Act.put, List.setIfInBounds_toArray, List.set_cons_zero, List.set_cons_succ]
        refine wpAnyH_take (i := 16) (oi := { dst := _, op := _, type := _, pos := _, after := _, guard := _ }) rfl (by kernel_rfl) (by kernel_rfl) (by kernel_rfl) (fun _ _ _ h => h) (Or.inr ⟨by rfl, rfl⟩) (by assumption) ?_
        try simp only [Act.put, List.setIfInBounds_toArray, List.set_cons_zero, List.set_cons_succ]
        refine wpAnyH_take (i := 17) (oi := { dst := _, op := _, type := _, pos := _, after := _, guard := _ }) rfl (by kernel_rfl) (by kernel_rfl) (by kernel_rfl) (fun _ _ _ h => h) (Or.inr ⟨by rfl, rfl⟩) (by assumption) ?_
        try simp only [Act.put, List.setIfInBounds_toArray, List.set_cons_zero, List.set_cons_succ]
        refine wpAnyH_take (i := 18) (oi := { dst := _, op := _, type := _, pos := _, after := _, guard := _ }) rfl (by kernel_rfl) (by kernel_rfl) (by kernel_rfl) (fun _ _ _ h => h) (Or.inr ⟨by rfl, rfl⟩) (by assumption) ?_
        try simp only [Act.put, List.setIfInBounds_toArray, List.set_cons_zero, List.set_cons_succ]
        refine wpAnyH_take (i := 19) (oi := { dst := _, op := _, type := _, pos := _, after := _, guard := _ }) rfl (by kernel_rfl) (by kernel_rfl) (by kernel_rfl) (fun _ _ _ h => h) (Or.inr ⟨by rfl, rfl⟩) (by assumption) ?_
        try simp only [Act.put, List.setIfInBounds_toArray, List.set_cons_zero, List.set_cons_succ]
        refine wpAnyH_take (i := 20) (oi := { dst := _, op := _, type := _, pos := _, after := _, guard := _ }) (v := ?_) rfl (by kernel_rfl) (by kernel_rfl) (by kernel_rfl) (fun _ _ _ h => h) (Or.inl ⟨by rfl, ?_⟩) (by assumption) ?_
        rotate_left
        · intro W hSw
          (try dsimp only at hSw)
          go_simp
          (try with_reducible rfl)
        try simp only [Act.put, List.setIfInBounds_toArray, List.set_cons_zero, List.set_cons_succ]
        refine wpAnyH_done (by kernel_rfl) ?_ _
        refine NoPanic.normal ?_
        clear hHeld
        go_wp2_with fail
        go_ret
        refine ⟨?_, below_trans HB1.out HBD.out⟩
        refine ret_bool ?_
        symm
        refine all_not l rfd _ i (by have := HN.out; have := HIL.out; omega) ?_
        rw [HXE.out]
        have := HNE.out
        rw [decide_eq_false (by show ¬ (0 ≤ xs); omega)]; rfl
      · have d1 : decide (xs < 0) = false := decide_eq_false hneg
        have HNE : Hid (¬ xs < 0) := hneg
        clear hneg
        by_cases hge : ((nT + nS : Nat) : Int) ≤ xs
        · have d2 : decide ((nT : Int) + (nS : Int) ≤ xs) = true := decide_eq_true (by omega)
          have HGE : Hid (((nT + nS : Nat) : Int) ≤ xs) := hge
          clear hge
          refine wp_region_noPanic ?_
          refine wp_region_held_drew (S := fun W => W.cell? ⟨g, o + i * 3, none⟩ = some (.int .i64 xs) ∧ W.cell? ⟨gb, 0, none⟩ = some (.slice a0 nT c0) ∧ W.cell? ⟨gb, 1, none⟩ = some (.slice a1 nS c1)) (by kernel_rfl) (by rw [hWD]; exact HS.out) (fun hHeld => ?_)
          rw [hWD] at hHeld ⊢
          clear hWD
          refine wpAnyH_take (i := 0) (oi := { dst := _, op := _, type := _, pos := _, after := _, guard := _ }) (v := ?_) rfl (by kernel_rfl) (by kernel_rfl) (by kernel_rfl) (fun _ _ _ h => h) (Or.inl ⟨by rfl, ?_⟩) (by assumption) ?_
          rotate_left
          · intro W hSw
            (try dsimp only at hSw)
            go_simp
            (try with_reducible rfl)
          try simp only [Act.put, List.setIfInBounds_toArray, List.set_cons_zero, List.set_cons_succ]
          refine wpAnyH_take (i := 1) (oi := { dst := _, op := _, type := _, pos := _, after := _, guard := _ }) (v := ?_) rfl (by kernel_rfl) (by kernel_rfl) (by kernel_rfl) (fun _ _ _ h => h) (Or.inl ⟨by rfl, ?_⟩) (by assumption) ?_
          rotate_left
          · intro W hSw
            (try dsimp only at hSw)
            go_simp
            (try with_reducible rfl)
          try simp only [Act.put, List.setIfInBounds_toArray, List.set_cons_zero, List.set_cons_succ]
          refine wpAnyH_take (i := 2) (oi := { dst := _, op := _, type := _, pos := _, after := _, guard := _ }) (v := ?_) rfl (by kernel_rfl) (by kernel_rfl) (by kernel_rfl) (fun _ _ _ h => h) (Or.inl ⟨by rfl, ?_⟩) (by assumption) ?_
          rotate_left
          · intro W hSw
            (try dsimp only at hSw)
            go_simp
            (try with_reducible rfl)
          try simp only [Act.put, List.setIfInBounds_toArray, List.set_cons_zero, List.set_cons_succ]
          refine wpAnyH_take (i := 3) (oi := { dst := _, op := _, type := _, pos := _, after := _, guard := _ }) (v := ?_) rfl (by kernel_rfl) (by kernel_rfl) (by kernel_rfl) (fun _ _ _ h => h) (Or.inl ⟨by rfl, ?_⟩) (by assumption) ?_
          rotate_left
          · intro W hSw
            (try dsimp only at hSw)
            go_simp
            (try with_reducible rfl)
          try simp only [Act.put, List.setIfInBounds_toArray, List.set_cons_zero, List.set_cons_succ]
          refine wpAnyH_take (i := 4) (oi := { dst := _, op := _, type := _, pos := _, after := _, guard := _ }) (v := ?_) rfl (by kernel_rfl) (by kernel_rfl) (by kernel_rfl) (fun _ _ _ h => h) (Or.inl ⟨by rfl, ?_⟩) (by assumption) ?_
          rotate_left
          · intro W hSw
            (try dsimp only at hSw)
            go_simp
            (try with_reducible rfl)
          try simp only [Act.put, List.setIfInBounds_toArray, List.set_cons_zero, List.set_cons_succ]
          refine wpAnyH_take (i := 5) (oi := { dst := _, op := _, type := _, pos := _, after := _, guard := _ }) (v := ?_) rfl (by kernel_rfl) (by kernel_rfl) (by kernel_rfl) (fun _ _ _ h => h) (Or.inl ⟨by rfl, ?_⟩) (by assumption) ?_
          rotate_left
          · intro W hSw
            (try dsimp only at hSw)
            go_simp
            (try with_reducible rfl)
          try simp only [Act.put, List.setIfInBounds_toArray, List.set_cons_zero, List.set_cons_succ]
          refine wpAnyH_take (i := 6) (oi := { dst := _, op := _, type := _, pos := _, after := _, guard := _ }) (v := ?_) rfl (by kernel_rfl) (by kernel_rfl) (by kernel_rfl) (fun _ _ _ h => h) (Or.inl ⟨by rfl, ?_⟩) (by assumption) ?_
          rotate_left
          · intro W hSw
            (try dsimp only at hSw)
            go_simp
            (try with_reducible rfl)
          try simp only [Act.put, List.setIfInBounds_toArray, List.set_cons_zero, List.set_cons_succ]
          refine wpAnyH_take (i := 7) (oi := { dst := _, op := _, type := _, pos := _, after := _, guard := _ }) (v := ?_) rfl (by kernel_rfl) (by kernel_rfl) (by kernel_rfl) (fun _ _ _ h => h) (Or.inl ⟨by rfl, ?_⟩) (by assumption) ?_
          rotate_left
          · intro W hSw
            (try dsimp only at hSw)
            go_simp
            (try with_reducible rfl)
          try simp only [Act.put, List.setIfInBounds_toArray, List.set_cons_zero, List.set_cons_succ]
          refine wpAnyH_take (i := 8) (oi := { dst := _, op := _, type := _, pos := _, after := _, guard := _ }) (v := ?_) rfl (by kernel_rfl) (by kernel_rfl) (by kernel_rfl) (fun _ _ _ h => h) (Or.inl ⟨by rfl, ?_⟩) (by assumption) ?_
          rotate_left
          · intro W hSw
            (try dsimp only at hSw)
            go_simp
            (try with_reducible rfl)
          try simp only [Act.put, List.setIfInBounds_toArray, List.set_cons_zero, List.set_cons_succ]
          refine wpAnyH_take (i := 9) (oi := { dst := _, op := _, type := _, pos := _, after := _, guard := _ }) (v := ?_) rfl (by kernel_rfl) (by kernel_rfl) (by kernel_rfl) (fun _ _ _ h => h) (Or.inl ⟨by rfl, ?_⟩) (by assumption) ?_
          rotate_left
          · intro W hSw
            (try dsimp only at hSw)
            go_simp
            (try with_reducible rfl)
          try simp only [Act.put, List.setIfInBounds_toArray, List.set_cons_zero, List.set_cons_succ]
          refine wpAnyH_take (i := 10) (oi := { dst := _, op := _, type := _, pos := _, after := _, guard := _ }) (v := ?_) rfl (by kernel_rfl) (by kernel_rfl) (by kernel_rfl) (fun _ _ _ h => h) (Or.inl ⟨by rfl, ?_⟩) (by assumption) ?_
          rotate_left
          · intro W hSw
            (try dsimp only at hSw)
            go_simp
            (try with_reducible rfl)
          try simp only [Act.put, List.setIfInBounds_toArray, List.set_cons_zero, List.set_cons_succ]
          refine wpAnyH_take (i := 11) (oi := { dst := _, op := _, type := _, pos := _, after := _, guard := _ }) (v := ?_) rfl (by kernel_rfl) (by kernel_rfl) (by kernel_rfl) (fun _ _ _ h => h) (Or.inl ⟨by rfl, ?_⟩) (by assumption) ?_
          rotate_left
          · intro W hSw
            (try dsimp only at hSw)
            go_simp
            (try with_reducible rfl)
          try simp only [Act.put, List.setIfInBounds_toArray, List.set_cons_zero, List.set_cons_succ]
          refine wpAnyH_take (i := 12) (oi := { dst := _, op := _, type := _, pos := _, after := _, guard := _ }) (v := ?_) rfl (by kernel_rfl) (by kernel_rfl) (by kernel_rfl) (fun _ _ _ h => h) (Or.inl ⟨by rfl, ?_⟩) (by assumption) ?_
          rotate_left
          · intro W hSw
            (try dsimp only at hSw)
            go_simp
            (try with_reducible rfl)
          try simp only [Act.put, List.setIfInBounds_toArray, List.set_cons_zero, List.set_cons_succ]
          refine wpAnyH_take (i := 13) (oi := { dst := _, op := _, type := _, pos := _, after := _, guard := _ }) (v := ?_) rfl (by kernel_rfl) (by kernel_rfl) (by kernel_rfl) (fun _ _ _ h => h) (Or.inl ⟨by rfl, ?_⟩) (by assumption) ?_
          rotate_left
          · intro W hSw
            (try dsimp only at hSw)
            go_simp
            (try with_reducible rfl)
          try simp only [Act.put, List.setIfInBounds_toArray, List.set_cons_zero, List.set_cons_succ]
          refine wpAnyH_take (i := 14) (oi := { dst := _, op := _, type := _, pos := _, after := _, guard := _ }) (v := ?_) rfl (by kernel_rfl) (by kernel_rfl) (by kernel_rfl) (fun _ _ _ h => h) (Or.inl ⟨by rfl, ?_⟩) (by assumption) ?_
          rotate_left
          · intro W hSw
            (try dsimp only at hSw)
            go_simp
            (try with_reducible rfl)
          try simp only [Act.put, List.setIfInBounds_toArray, List.set_cons_zero, List.set_cons_succ]
          refine wpAnyH_take (i := 15) (oi := { dst := _, op := _, type := _, pos := _, after := _, guard := _ }) (v := ?_) rfl (by kernel_rfl) (by kernel_rfl) (by kernel_rfl) (fun _ _ _ h => h) (Or.inl ⟨by rfl, ?_⟩) (by assumption) ?_
          rotate_left
          · intro W hSw
            (try dsimp only at hSw)
            go_simp
            (try with_reducible rfl)
          try simp only [Act.put, List.setIfInBounds_toArray, List.set_cons_zero, List.set_cons_succ]
          refine wpAnyH_take (i := 16) (oi := { dst := _, op := _, type := _, pos := _, after := _, guard := _ }) (v := ?_) rfl (by kernel_rfl) (by kernel_rfl) (by kernel_rfl) (fun _ _ _ h => h) (Or.inl ⟨by rfl, ?_⟩) (by assumption) ?_
          rotate_left
          · intro W hSw
            (try dsimp only at hSw)
            go_simp
            (try with_reducible rfl)
          try simp only [Act.put, List.setIfInBounds_toArray, List.set_cons_zero, List.set_cons_succ]
          refine wpAnyH_take (i := 17) (oi := { dst := _, op := _, type := _, pos := _, after := _, guard := _ }) (v := ?_) rfl (by kernel_rfl) (by kernel_rfl) (by kernel_rfl) (fun _ _ _ h => h) (Or.inl ⟨by rfl, ?_⟩) (by assumption) ?_
          rotate_left
          · intro W hSw
            (try dsimp only at hSw)
            go_simp
            (try with_reducible rfl)
          try simp only [Act.put, List.setIfInBounds_toArray, List.set_cons_zero, List.set_cons_succ]
          refine wpAnyH_take (i := 18) (oi := { dst := _, op := _, type := _, pos := _, after := _, guard := _ }) (v := ?_) rfl (by kernel_rfl) (by kernel_rfl) (by kernel_rfl) (fun _ _ _ h => h) (Or.inl ⟨by rfl, ?_⟩) (by assumption) ?_
          rotate_left
          · intro W hSw
            (try dsimp only at hSw)
            go_simp
            (try with_reducible rfl)
          try simp only [Act.put, List.setIfInBounds_toArray, List.set_cons_zero, List.set_cons_succ]
          refine wpAnyH_take (i := 19) (oi := { dst := _, op := _, type := _, pos := _, after := _, guard := _ }) (v := ?_) rfl (by kernel_rfl) (by kernel_rfl) (by kernel_rfl) (fun _ _ _ h => h) (Or.inl ⟨by rfl, ?_⟩) (by assumption) ?_
          rotate_left
          · intro W hSw
            (try dsimp only at hSw)
            go_simp
            (try with_reducible rfl)
          try simp only [Act.put, List.setIfInBounds_toArray, List.set_cons_zero, List.set_cons_succ]
          refine wpAnyH_take (i := 20) (oi := { dst := _, op := _, type := _, pos := _, after := _, guard := _ }) (v := ?_) rfl (by kernel_rfl) (by kernel_rfl) (by kernel_rfl) (fun _ _ _ h => h) (Or.inl ⟨by rfl, ?_⟩) (by assumption) ?_
          rotate_left
          · intro W hSw
            (try dsimp only at hSw)
            go_simp
            (try with_reducible rfl)
          try simp only [Act.put, List.setIfInBounds_toArray, List.set_cons_zero, List.set_cons_succ]
          refine wpAnyH_done (by kernel_rfl) ?_ _
          refine NoPanic.normal ?_
          clear hHeld
          go_wp2_with fail
          go_ret
          refine ⟨?_, below_trans HB1.out HBD.out⟩
          refine ret_bool ?_
          symm
          refine all_not l rfd _ i (by have := HN.out; have := HIL.out; omega) ?_
          rw [HXE.out]
          have := HGE.out
          rw [Bool.and_eq_false_iff]
          right
          exact decide_eq_false (by show ¬ (xs < _); omega)
        · have d2 : decide ((nT : Int) + (nS : Int) ≤ xs) = false := decide_eq_false (by omega)
          have HGE : Hid (xs < ((nT + nS : Nat) : Int)) := by show xs < ((nT + nS : Nat) : Int); omega
          clear hge
          refine wp_region_noPanic ?_
          refine wp_region_held_drew (S := fun W => W.cell? ⟨g, o + i * 3, none⟩ = some (.int .i64 xs) ∧ W.cell? ⟨gb, 0, none⟩ = some (.slice a0 nT c0) ∧ W.cell? ⟨gb, 1, none⟩ = some (.slice a1 nS c1)) (by kernel_rfl) (by rw [hWD]; exact HS.out) (fun hHeld => ?_)
          rw [hWD] at hHeld ⊢
          clear hWD
          refine wpAnyH_take (i := 0) (oi := { dst := _, op := _, type := _, pos := _, after := _, guard := _ }) (v := ?_) rfl (by kernel_rfl) (by kernel_rfl) (by kernel_rfl) (fun _ _ _ h => h) (Or.inl ⟨by rfl, ?_⟩) (by assumption) ?_
          rotate_left
          · intro W hSw
            (try dsimp only at hSw)
            go_simp
            (try with_reducible rfl)
          try simp only [Act.put, List.setIfInBounds_toArray, List.set_cons_zero, List.set_cons_succ]
          refine wpAnyH_take (i := 1) (oi := { dst := _, op := _, type := _, pos := _, after := _, guard := _ }) (v := ?_) rfl (by kernel_rfl) (by kernel_rfl) (by kernel_rfl) (fun _ _ _ h => h) (Or.inl ⟨by rfl, ?_⟩) (by assumption) ?_
          rotate_left
          · intro W hSw
            (try dsimp only at hSw)
            go_simp
            (try with_reducible rfl)
          try simp only [Act.put, List.setIfInBounds_toArray, List.set_cons_zero, List.set_cons_succ]
          refine wpAnyH_take (i := 2) (oi := { dst := _, op := _, type := _, pos := _, after := _, guard := _ }) (v := ?_) rfl (by kernel_rfl) (by kernel_rfl) (by kernel_rfl) (fun _ _ _ h => h) (Or.inl ⟨by rfl, ?_⟩) (by assumption) ?_
          rotate_left
          · intro W hSw
            (try dsimp only at hSw)
            go_simp
            (try with_reducible rfl)
          try simp only [Act.put, List.setIfInBounds_toArray, List.set_cons_zero, List.set_cons_succ]
          refine wpAnyH_take (i := 3) (oi := { dst := _, op := _, type := _, pos := _, after := _, guard := _ }) (v := ?_) rfl (by kernel_rfl) (by kernel_rfl) (by kernel_rfl) (fun _ _ _ h => h) (Or.inl ⟨by rfl, ?_⟩) (by assumption) ?_
          rotate_left
          · intro W hSw
            (try dsimp only at hSw)
            go_simp
            (try with_reducible rfl)
          try simp only [Act.put, List.setIfInBounds_toArray, List.set_cons_zero, List.set_cons_succ]
          refine wpAnyH_take (i := 4) (oi := { dst := _, op := _, type := _, pos := _, after := _, guard := _ }) (v := ?_) rfl (by kernel_rfl) (by kernel_rfl) (by kernel_rfl) (fun _ _ _ h => h) (Or.inl ⟨by rfl, ?_⟩) (by assumption) ?_
          rotate_left
          · intro W hSw
            (try dsimp only at hSw)
            go_simp
            (try with_reducible rfl)
          try simp only [Act.put, List.setIfInBounds_toArray, List.set_cons_zero, List.set_cons_succ]
          refine wpAnyH_take (i := 5) (oi := { dst := _, op := _, type := _, pos := _, after := _, guard := _ }) (v := ?_) rfl (by kernel_rfl) (by kernel_rfl) (by kernel_rfl) (fun _ _ _ h => h) (Or.inl ⟨by rfl, ?_⟩) (by assumption) ?_
          rotate_left
          · intro W hSw
            (try dsimp only at hSw)
            go_simp
            (try with_reducible rfl)
          try simp only [Act.put, List.setIfInBounds_toArray, List.set_cons_zero, List.set_cons_succ]
          refine wpAnyH_take (i := 6) (oi := { dst := _, op := _, type := _, pos := _, after := _, guard := _ }) (v := ?_) rfl (by kernel_rfl) (by kernel_rfl) (by kernel_rfl) (fun _ _ _ h => h) (Or.inl ⟨by rfl, ?_⟩) (by assumption) ?_
          rotate_left
          · intro W hSw
            (try dsimp only at hSw)
            go_simp
            (try with_reducible rfl)
          try simp only [Act.put, List.setIfInBounds_toArray, List.set_cons_zero, List.set_cons_succ]
          refine wpAnyH_take (i := 7) (oi := { dst := _, op := _, type := _, pos := _, after := _, guard := _ }) (v := ?_) rfl (by kernel_rfl) (by kernel_rfl) (by kernel_rfl) (fun _ _ _ h => h) (Or.inl ⟨by rfl, ?_⟩) (by assumption) ?_
          rotate_left
          · intro W hSw
            (try dsimp only at hSw)
            go_simp
            (try with_reducible rfl)
          try simp only [Act.put, List.setIfInBounds_toArray, List.set_cons_zero, List.set_cons_succ]
          refine wpAnyH_take (i := 8) (oi := { dst := _, op := _, type := _, pos := _, after := _, guard := _ }) (v := ?_) rfl (by kernel_rfl) (by kernel_rfl) (by kernel_rfl) (fun _ _ _ h => h) (Or.inl ⟨by rfl, ?_⟩) (by assumption) ?_
          rotate_left
          · intro W hSw
            (try dsimp only at hSw)
            go_simp
            (try with_reducible rfl)
          try simp only [Act.put, List.setIfInBounds_toArray, List.set_cons_zero, List.set_cons_succ]
          refine wpAnyH_take (i := 9) (oi := { dst := _, op := _, type := _, pos := _, after := _, guard := _ }) (v := ?_) rfl (by kernel_rfl) (by kernel_rfl) (by kernel_rfl) (fun _ _ _ h => h) (Or.inl ⟨by rfl, ?_⟩) (by assumption) ?_
          rotate_left
          · intro W hSw
            (try dsimp only at hSw)
            go_simp
            (try with_reducible rfl)
          try simp only [Act.put, List.setIfInBounds_toArray, List.set_cons_zero, List.set_cons_succ]
          refine wpAnyH_take (i := 10) (oi := { dst := _, op := _, type := _, pos := _, after := _, guard := _ }) (v := ?_) rfl (by kernel_rfl) (by kernel_rfl) (by kernel_rfl) (fun _ _ _ h => h) (Or.inl ⟨by rfl, ?_⟩) (by assumption) ?_
          rotate_left
          · intro W hSw
            (try dsimp only at hSw)
            go_simp
            (try with_reducible rfl)
          try simp only [Act.put, List.setIfInBounds_toArray, List.set_cons_zero, List.set_cons_succ]
          refine wpAnyH_take (i := 11) (oi := { dst := _, op := _, type := _, pos := _, after := _, guard := _ }) (v := ?_) rfl (by kernel_rfl) (by kernel_rfl) (by kernel_rfl) (fun _ _ _ h => h) (Or.inl ⟨by rfl, ?_⟩) (by assumption) ?_
          rotate_left
          · intro W hSw
            (try dsimp only at hSw)
            go_simp
            (try with_reducible rfl)
          try simp only [Act.put, List.setIfInBounds_toArray, List.set_cons_zero, List.set_cons_succ]
          refine wpAnyH_take (i := 12) (oi := { dst := _, op := _, type := _, pos := _, after := _, guard := _ }) (v := ?_) rfl (by kernel_rfl) (by kernel_rfl) (by kernel_rfl) (fun _ _ _ h => h) (Or.inl ⟨by rfl, ?_⟩) (by assumption) ?_
          rotate_left
          · intro W hSw
            (try dsimp only at hSw)
            go_simp
            (try with_reducible rfl)
          try simp only [Act.put, List.setIfInBounds_toArray, List.set_cons_zero, List.set_cons_succ]
          refine wpAnyH_take (i := 13) (oi := { dst := _, op := _, type := _, pos := _, after := _, guard := _ }) (v := ?_) rfl (by kernel_rfl) (by kernel_rfl) (by kernel_rfl) (fun _ _ _ h => h) (Or.inl ⟨by rfl, ?_⟩) (by assumption) ?_
          rotate_left
          · intro W hSw
            (try dsimp only at hSw)
            go_simp
            (try with_reducible rfl)
          try simp only [Act.put, List.setIfInBounds_toArray, List.set_cons_zero, List.set_cons_succ]
          refine wpAnyH_take (i := 14) (oi := { dst := _, op := _, type := _, pos := _, after := _, guard := _ }) (v := ?_) rfl (by kernel_rfl) (by kernel_rfl) (by kernel_rfl) (fun _ _ _ h => h) (Or.inl ⟨by rfl, ?_⟩) (by assumption) ?_
          rotate_left
          · intro W hSw
            (try dsimp only at hSw)
            go_simp
            (try with_reducible rfl)
          try simp only [Act.put, List.setIfInBounds_toArray, List.set_cons_zero, List.set_cons_succ]
          refine wpAnyH_take (i := 15) (oi := { dst := _, op := _, type := _, pos := _, after := _, guard := _ }) (v := ?_) rfl (by kernel_rfl) (by kernel_rfl) (by kernel_rfl) (fun _ _ _ h => h) (Or.inl ⟨by rfl, ?_⟩) (by assumption) ?_
          rotate_left
          · intro W hSw
            (try dsimp only at hSw)
            go_simp
            (try with_reducible rfl)
          try simp only [Act.put, List.setIfInBounds_toArray, List.set_cons_zero, List.set_cons_succ]
          refine wpAnyH_take (i := 16) (oi := { dst := _, op := _, type := _, pos := _, after := _, guard := _ }) (v := ?_) rfl (by kernel_rfl) (by kernel_rfl) (by kernel_rfl) (fun _ _ _ h => h) (Or.inl ⟨by rfl, ?_⟩) (by assumption) ?_
          rotate_left
          · intro W hSw
            (try dsimp only at hSw)
            go_simp
            (try with_reducible rfl)
          try simp only [Act.put, List.setIfInBounds_toArray, List.set_cons_zero, List.set_cons_succ]
          refine wpAnyH_take (i := 17) (oi := { dst := _, op := _, type := _, pos := _, after := _, guard := _ }) (v := ?_) rfl (by kernel_rfl) (by kernel_rfl) (by kernel_rfl) (fun _ _ _ h => h) (Or.inl ⟨by rfl, ?_⟩) (by assumption) ?_
          rotate_left
          · intro W hSw
            (try dsimp only at hSw)
            go_simp
            (try with_reducible rfl)
          try simp only [Act.put, List.setIfInBounds_toArray, List.set_cons_zero, List.set_cons_succ]
          refine wpAnyH_take (i := 18) (oi := { dst := _, op := _, type := _, pos := _, after := _, guard := _ }) (v := ?_) rfl (by kernel_rfl) (by kernel_rfl) (by kernel_rfl) (fun _ _ _ h => h) (Or.inl ⟨by rfl, ?_⟩) (by assumption) ?_
          rotate_left
          · intro W hSw
            (try dsimp only at hSw)
            go_simp
            (try with_reducible rfl)
          try simp only [Act.put, List.setIfInBounds_toArray, List.set_cons_zero, List.set_cons_succ]
          refine wpAnyH_take (i := 19) (oi := { dst := _, op := _, type := _, pos := _, after := _, guard := _ }) (v := ?_) rfl (by kernel_rfl) (by kernel_rfl) (by kernel_rfl) (fun _ _ _ h => h) (Or.inl ⟨by rfl, ?_⟩) (by assumption) ?_
          rotate_left
          · intro W hSw
            (try dsimp only at hSw)
            go_simp
            (try with_reducible rfl)
          try simp only [Act.put, List.setIfInBounds_toArray, List.set_cons_zero, List.set_cons_succ]
          refine wpAnyH_take (i := 20) (oi := { dst := _, op := _, type := _, pos := _, after := _, guard := _ }) (v := ?_) rfl (by kernel_rfl) (by kernel_rfl) (by kernel_rfl) (fun _ _ _ h => h) (Or.inl ⟨by rfl, ?_⟩) (by assumption) ?_
          rotate_left
          · intro W hSw
            (try dsimp only at hSw)
            go_simp
            (try with_reducible rfl)
          try simp only [Act.put, List.setIfInBounds_toArray, List.set_cons_zero, List.set_cons_succ]
          refine wpAnyH_done (by kernel_rfl) ?_ _
          refine NoPanic.normal ?_
          clear hHeld
          go_wp2_with fail
          go_roundg (n - (i + 1))
          case measure => have := HI.out; have := HIL.out; omega
          case rel => exact ⟨i + 1, by first | rfl | (rw [show (i : Int) + 1 = ((i + 1 : Nat) : Int) by omega]), HBD, ⟨HIL.out, rfl⟩, all_take l rfd _ i (by have := HN.out; have := HIL.out; omega) HA.out (by
            rw [HXE.out]
            have := HNE.out
            rw [Bool.and_eq_true]
            exact ⟨decide_eq_true (by show 0 ≤ xs; omega), decide_eq_true HGE.out⟩)⟩
    · have e1 : decide ((i : Int) < (n : Int)) = false := by rw [decide_eq_false_iff_not]; omega
      have e2 : decide (i < n) = false := by rw [decide_eq_false_iff_not]; omega
      have HIN : Hid (i = n) := by have := HI.out; show i = n; omega
      clear hi
      go_wp2_with fail
      go_ret
      refine ⟨?_, below_trans HB1.out HBW.out⟩
      refine ret_bool ?_
      have := HA.out
      rw [HIN.out, ← HN.out, List.take_length] at this
      exact this.symm
set_option maxRecDepth 100000 in
set_option maxHeartbeats 8000000 in
theorem rsound_any {v0 v1 v2 : Value} {nT nS : Nat} {P : List Pd} (w : World) (h : Gm w v0 v1 v2 nT nS P) (hz : Gz nT nS P) :
    Calls Try.prog 35 #[.agg #[v0, v1, v2]] w fun e w' => e = .returned (.bool (snd nT nS P)) ∧ Below w.heap.size w w' := by
  have HG : Hid (Gm w v0 v1 v2 nT nS P) := h
  have HZ : Hid _ := hz
  obtain ⟨a0, c0, a1, c1, a2, c2, rfl, rfl, rfl⟩ := h.form
  clear h hz
  obtain ⟨n, hn⟩ : ∃ n, P.length = n := ⟨_, rfl⟩
  have HN : Hid (P.length = n) := hn
  rw [hn] at HG ⊢
  clear hn
  obtain ⟨W1, hW1⟩ : ∃ W1, W1 = w.alloc (.cells #[.slice a0 nT c0, .slice a1 nS c1, .slice a2 n c2] 26) := ⟨_, rfl⟩
  have HW : Hid (W1 = w.alloc (.cells #[.slice a0 nT c0, .slice a1 nS c1, .slice a2 n c2] 26)) := hW1
  have HX : Hid (W1.heap[w.heap.size]? = some (.cells #[.slice a0 nT c0, .slice a1 nS c1, .slice a2 n c2] 26 (0, 0))) := by rw [hW1]; exact heap_new w _
  have HB1 : Hid (Below w.heap.size w W1) := by rw [hW1]; exact bel_up _ _
  obtain ⟨gb, hgb⟩ : ∃ gb, w.heap.size = gb := ⟨_, rfl⟩
  clear hW1
  rw [hgb] at HX
  have p0 := rcell HX.out 0 (.slice a0 nT c0) rfl
  have p1 := rcell HX.out 1 (.slice a1 nS c1) rfl
  have p2 := rcell HX.out 2 (.slice a2 n c2) rfl
  by_cases hb : 1 ≤ nT ∧ nT ≤ 64 ∧ nS ≤ 128
  rotate_left
  · rw [show snd nT nS P = false from by
      unfold snd
      rw [Bool.and_eq_false_iff]
      left
      rw [← Bool.not_eq_true, Bool.and_eq_true, Bool.and_eq_true, decide_eq_true_eq, decide_eq_true_eq, decide_eq_true_eq]
      exact hb]
    by_cases h1 : 1 ≤ nT
    · have d1 : decide ((nT : Int) < 1) = false := decide_eq_false (by omega)
      have d1' : ¬ nT < 1 := by omega
      have d1'' : ¬ nT = 0 := by omega
      have d1b : (nT == 0) = false := by rw [beq_eq_false_iff_ne]; exact d1''
      by_cases h2 : nT ≤ 64
      · have d2 : decide ((64 : Int) < (nT : Int)) = false := decide_eq_false (by omega)
        have d2' : decide (64 < nT) = false := decide_eq_false (by omega)
        have d3 : decide ((128 : Int) < (nS : Int)) = true := decide_eq_true (by omega)
        have d3' : decide (128 < nS) = true := decide_eq_true (by omega)
        clear hb h1 h2
        go_enter Try.func35, Try.ntmps35
        go_upto_region 1 with fail
        rw [← HW.out]
        go_wp2_with fail
        go_ret
        exact ⟨rfl, HB1.out⟩
      · have d2 : decide ((64 : Int) < (nT : Int)) = true := decide_eq_true (by omega)
        have d2' : decide (64 < nT) = true := decide_eq_true (by omega)
        clear hb h1 h2
        go_enter Try.func35, Try.ntmps35
        go_upto_region 1 with fail
        rw [← HW.out]
        go_wp2_with fail
        go_ret
        exact ⟨rfl, HB1.out⟩
    · have d1 : decide ((nT : Int) < 1) = true := decide_eq_true (by omega)
      have d1' : decide (nT < 1) = true := decide_eq_true (by omega)
      obtain rfl : nT = 0 := by omega
      clear hb h1
      go_enter Try.func35, Try.ntmps35
      go_upto_region 1 with fail
      rw [← HW.out]
      go_wp2_with fail
      go_ret
      exact ⟨rfl, HB1.out⟩
  have d1 : decide ((nT : Int) < 1) = false := decide_eq_false (by omega)
  have d1' : ¬ nT < 1 := by omega
  have d1'' : ¬ nT = 0 := by omega
  have d1b : (nT == 0) = false := by rw [beq_eq_false_iff_ne]; exact d1''
  have d2 : decide ((64 : Int) < (nT : Int)) = false := decide_eq_false (by omega)
  have d2' : decide (64 < nT) = false := decide_eq_false (by omega)
  have d3 : decide ((128 : Int) < (nS : Int)) = false := decide_eq_false (by omega)
  have d3' : decide (128 < nS) = false := decide_eq_false (by omega)
  have HSN : Hid (snd nT nS P = P.all (sndP nT nS)) := by
    show snd nT nS P = _
    unfold snd
    rw [decide_eq_true hb.1, decide_eq_true hb.2.1, decide_eq_true hb.2.2]
    rfl
  rw [HSN.out]
  clear hb HSN
  go_enter Try.func35, Try.ntmps35
  go_upto_region 1 with fail
  rw [← HW.out]
  go_upto_region 4 with fail
  clear d1 d1' d1'' d1b d2 d2' d3 d3' HW p0 p1 p2
  have HGB : Hid (w.heap.size = gb) := hgb
  clear hgb
  go_loopg [3] n (fun gm v3 wr => ∃ i : Nat, v3 = .int .i64 (i : Int) ∧ Hid (Below W1.heap.size W1 wr) ∧ Hid (i ≤ n ∧ gm = n - i) ∧ Hid ((P.take i).all (sndP nT nS) = true))
  case atStart => exact ⟨0, rfl, Below.refl _ _, ⟨Nat.zero_le _, rfl⟩, rfl⟩
  case round =>
    obtain ⟨i, rfl, HBW, HI, HA⟩ := hrel
    have b2 := below_cell HBW.out (rcell HX.out 2 (.slice a2 n c2) rfl)
    by_cases hi : i < n
    · have hp := HG.out.p
      rw [HN.out] at hp
      obtain ⟨g, o, cap, e0, hc⟩ := hp.place (by omega)
      obtain ⟨rfl, -, rfl⟩ := Value.slice.inj e0
      have hil : i < P.length := by have := HN.out; omega
      have hBW := below_trans HB1.out HBW.out
      obtain ⟨q0, q1⟩ := pf_get P i hil
      have k0 := below_cell hBW (hc _ _ q0)
      have k1 := below_cell hBW (hc _ _ q1)
      have HM : Hid (P.getD i pfd ∈ P) := mem_getD hil pfd
      obtain ⟨x, hx⟩ : ∃ x, P.getD i pfd = x := ⟨_, rfl⟩
      rw [hx] at k0 k1 HM
      have HXE : Hid (P.getD i pfd = x) := hx
      obtain ⟨xs, xv, xl⟩ := x
      dsimp only at k0 k1
      rw [← Nat.add_assoc] at k1
      have HR : Hid (Rw w xv xl.length (flat rf xl)) := HG.out.r _ HM.out
      have hrz := HZ.out.r _ HM.out
      dsimp only at hrz
      have HRZ : Hid (xl.length * 40 + 4096 ≤ 140737488355328) := hrz
      clear hrz
      obtain ⟨ax, cx, hxv⟩ := HR.out.form
      rw [hxv] at k1 HR HXE
      have e1 : decide ((i : Int) < (n : Int)) = true := by rw [decide_eq_true_eq]; omega
      have e2 : decide (i < n) = true := by rw [decide_eq_true_eq]; omega
      have e5 : (i : Int) < (n : Int) := by omega
      have e6 : i < n := hi
      have HIL : Hid (i < n) := hi
      clear e0 hc hx q0 q1 hBW hil hi hxv hp HM
      have hwr := w64n i (by have := HZ.out.p; have := HN.out; have := HIL.out; omega)
      go_upto_region 7 with fail
      obtain ⟨W5, hW5⟩ : ∃ W5, W5 = wr.alloc (.cells #[.int .i64 xs, .slice ax xl.length cx] 53) := ⟨_, rfl⟩
      rw [← hW5]
      have BD : Hid (Below wr.heap.size wr W5) := by rw [hW5]; exact bel_up _ _
      have HP5 : Hid (W5.heap[wr.heap.size]? = some (.cells #[.int .i64 xs, .slice ax xl.length cx] 53 (0, 0))) := by rw [hW5]; exact heap_new _ _
      obtain ⟨pb, hpb⟩ : ∃ pb, wr.heap.size = pb := ⟨_, rfl⟩
      rw [hpb] at HP5 ⊢
      clear hW5 hpb k0 k1 b2
      have k0 := rcell HP5.out 0 (.int .i64 xs) rfl
      have k1 := rcell HP5.out 1 (.slice ax xl.length cx) rfl
      have HBD : Hid (Below W1.heap.size W1 W5) := below_trans HBW.out BD.out
      have b0 := below_cell HBD.out (rcell HX.out 0 (.slice a0 nT c0) rfl)
      have b1 := below_cell HBD.out (rcell HX.out 1 (.slice a1 nS c1) rfl)
      have b2 := below_cell HBD.out (rcell HX.out 2 (.slice (some ⟨g, o, none⟩) n c2) rfl)
      by_cases h1 : xs < -1
      · have d1 : decide (xs < -1) = true := decide_eq_true h1
        have H1 : Hid (xs < -1) := h1
        clear h1
        go_wp2_with fail
        go_ret
        refine ⟨ret_bool ?_, below_trans HB1.out HBD.out⟩
        symm
        refine all_not P pfd _ i (by have := HN.out; have := HIL.out; omega) ?_
        rw [HXE.out]
        unfold sndP
        rw [decide_eq_false (by have := H1.out; show ¬ -1 ≤ xs; omega)]; rfl
      have d1 : decide (xs < -1) = false := decide_eq_false h1
      have H1 : Hid (¬ xs < -1) := h1
      clear h1
      by_cases h2 : (nS : Int) ≤ xs
      · have d2 : decide ((nS : Int) ≤ xs) = true := decide_eq_true h2
        have H2 : Hid ((nS : Int) ≤ xs) := h2
        clear h2
        go_wp2_with fail
        go_ret
        refine ⟨ret_bool ?_, below_trans HB1.out HBD.out⟩
        symm
        refine all_not P pfd _ i (by have := HN.out; have := HIL.out; omega) ?_
        rw [HXE.out]
        unfold sndP
        rw [decide_eq_false (p := xs < (nS : Int)) (by have := H2.out; omega), Bool.false_and, Bool.and_false]
      have d2 : decide ((nS : Int) ≤ xs) = false := decide_eq_false h2
      have H2 : Hid (xs < (nS : Int)) := by show xs < (nS : Int); omega
      clear h2
      have HGN : Hid (Gm W5 (.slice a0 nT c0) (.slice a1 nS c1) (.slice (some ⟨g, o, none⟩) n c2) nT nS P) := HG.out.up (below_trans HB1.out HBD.out)
      have HRN : Hid (Rw W5 (.slice ax xl.length cx) xl.length (flat rf xl)) := HR.out.up (below_trans HB1.out HBD.out)
      cases hw : wth (nT + nS) xl with
      | false =>
        have HWT : Hid (wth (nT + nS) xl = false) := hw
        clear hw
        go_wp2_with (go_at_call 36; refine (rrow_any W5 HGN.out HZ.out HRN.out (by have := HRZ.out; omega)).mono ?_; rintro e w2 ⟨rfl, hb2⟩; have B2 : Hid (Below W5.heap.size W5 w2) := hb2; clear hb2; rw [HWT.out])
        go_ret
        refine ⟨ret_bool ?_, below_trans HB1.out (below_trans HBD.out B2.out)⟩
        symm
        refine all_not P pfd _ i (by have := HN.out; have := HIL.out; omega) ?_
        rw [HXE.out]
        unfold sndP
        dsimp only
        rw [HWT.out, Bool.and_false, Bool.and_false]
      | true =>
        have HWT : Hid (wth (nT + nS) xl = true) := hw
        clear hw
        go_wp2_with (go_at_call 36; refine (rrow_any W5 HGN.out HZ.out HRN.out (by have := HRZ.out; omega)).mono ?_; rintro e w2 ⟨rfl, hb2⟩; have B2 : Hid (Below W5.heap.size W5 w2) := hb2; clear hb2; rw [HWT.out])
        go_roundg (n - (i + 1))
        case measure => have := HI.out; have := HIL.out; omega
        case rel => exact ⟨i + 1, by first | rfl | (rw [show (i : Int) + 1 = ((i + 1 : Nat) : Int) by omega]), below_trans HBD.out B2.out, ⟨HIL.out, rfl⟩, all_take P pfd _ i (by have := HN.out; have := HIL.out; omega) HA.out (by
          rw [HXE.out]
          unfold sndP
          dsimp only
          rw [HWT.out, decide_eq_true H2.out, decide_eq_true (by have := H1.out; show -1 ≤ xs; omega)]
          rfl)⟩
    · have e1 : decide ((i : Int) < (n : Int)) = false := by rw [decide_eq_false_iff_not]; omega
      have e2 : decide (i < n) = false := by rw [decide_eq_false_iff_not]; omega
      have HIN : Hid (i = n) := by have := HI.out; show i = n; omega
      clear hi
      go_wp2_with fail
      go_ret
      refine ⟨?_, below_trans HB1.out HBW.out⟩
      refine ret_bool ?_
      have := HA.out
      rw [HIN.out, ← HN.out, List.take_length] at this
      exact this.symm
/-- Truths in memory. -/
def Bq (W : World) (v : Value) (k : Nat) (Q : Nat → Bool) : Prop := Rw W v k ((List.range k).map fun j => .bool (Q j))
theorem Bq.up {W W' : World} {v : Value} {k : Nat} {Q : Nat → Bool} (h : Bq W v k Q) (hb : Below W.heap.size W W') : Bq W' v k Q := Rw.up h hb
theorem Bq.form {W : World} {v : Value} {k : Nat} {Q : Nat → Bool} (h : Bq W v k Q) : ∃ a c, v = .slice a k c := Rw.form h
theorem Bq.get {W : World} {a : Option Addr} {c k : Nat} {Q : Nat → Bool} (h : Bq W (.slice a k c) k Q) (hk : 0 < k) : ∃ g o, a = some ⟨g, o, none⟩ ∧ ∀ j, j < k → W.cell? ⟨g, o + j, none⟩ = some (.bool (Q j)) := by
  obtain ⟨g, o, cap, e0, hc⟩ := Rw.place h hk
  obtain ⟨rfl, -, rfl⟩ := Value.slice.inj e0
  exact ⟨g, o, rfl, fun j hj => hc j _ (rng_get _ _ _ hj)⟩

set_option maxRecDepth 100000 in
set_option maxHeartbeats 8000000 in
theorem goes_any {vn v : Value} {k : Nat} {Q : Nat → Bool} {l : List Rf} (w : World) (hn : Bq w vn k Q) (hr : Rw w v l.length (flat rf l)) (hl : l.length ≤ 4611686018427387904) (hw : wth k l = true) :
    Calls Try.prog 38 #[vn, v] w fun e w' => e = .returned (.bool ((syl l).all Q)) ∧ Below w.heap.size w w' := by
  have HN : Hid (Bq w vn k Q) := hn
  have HV : Hid (Rw w v l.length (flat rf l)) := hr
  have HL : Hid _ := hl
  have HWT : Hid _ := hw
  obtain ⟨an, cn, rfl⟩ := hn.form
  obtain ⟨a, c, rfl⟩ := hr.form
  clear hn hr hl hw
  obtain ⟨n, hnn⟩ : ∃ n, l.length = n := ⟨_, rfl⟩
  have HNN : Hid (l.length = n) := hnn
  rw [hnn] at HV HL ⊢
  clear hnn
  go_enter Try.func38, Try.ntmps38
  go_upto_region 2 with fail
  go_loopg [5] n (fun gm v5 wr => ∃ i : Nat, v5 = .int .i64 (i : Int) ∧ Hid (Below w.heap.size w wr) ∧ Hid (i ≤ n ∧ gm = n - i) ∧ Hid ((syl (l.drop i)).all Q = (syl l).all Q))
  case atStart => exact ⟨0, rfl, Below.refl _ _, ⟨Nat.zero_le _, rfl⟩, by show _ = _; rw [List.drop_zero]⟩
  case round =>
    obtain ⟨i, rfl, HBW, HI, HA⟩ := hrel
    by_cases hi : i < n
    · obtain ⟨g, o, cap, e0, hc⟩ := HV.out.place (by omega)
      obtain ⟨rfl, -, rfl⟩ := Value.slice.inj e0
      have hil : i < l.length := by have := HNN.out; omega
      obtain ⟨q0, -, -⟩ := rf_get l i hil
      have k0 := below_cell HBW.out (hc _ _ q0)
      have hxw := wth_mem HWT.out _ (mem_getD hil rfd)
      have hdr : syl (l.drop i) = (l.getD i rfd).1.toNat :: syl (l.drop (i + 1)) := by
        rw [List.drop_eq_getElem_cons hil, List.getD_eq_getElem?_getD, List.getElem?_eq_getElem hil]; rfl
      obtain ⟨x, hx⟩ : ∃ x, l.getD i rfd = x := ⟨_, rfl⟩
      rw [hx] at k0 hxw hdr
      obtain ⟨xs, xf, xz⟩ := x
      dsimp only at k0 hxw hdr
      obtain ⟨xn, hxn⟩ : ∃ xn : Nat, xs = (xn : Int) := ⟨xs.toNat, by omega⟩
      subst hxn
      rw [Int.toNat_natCast] at hdr
      have HDR : Hid (syl (l.drop i) = xn :: syl (l.drop (i + 1))) := hdr
      have HXK : Hid (xn < k) := by show xn < k; omega
      obtain ⟨gn, on, rfl, hcn⟩ := HN.out.get (by have := HXK.out; omega)
      have k1 := below_cell HBW.out (hcn xn HXK.out)
      have e1 : decide ((i : Int) < (n : Int)) = true := by rw [decide_eq_true_eq]; omega
      have e2 : decide (i < n) = true := by rw [decide_eq_true_eq]; omega
      have e5 : (i : Int) < (n : Int) := by omega
      have e6 : i < n := hi
      have e7 : (xn : Int) < (k : Int) := by have := HXK.out; omega
      have e8 : xn < k := HXK.out
      have HIL : Hid (i < n) := hi
      have hwr := w64n i (by have := HL.out; have := HIL.out; omega)
      clear e0 hc hx q0 hil hi hxw hdr hcn
      cases hv : Q xn with
      | false =>
        rw [hv] at k1
        have HVV : Hid (Q xn = false) := hv
        clear hv
        go_wp2_with fail
        go_ret
        refine ⟨?_, HBW.out⟩
        rw [← HA.out, HDR.out, List.all_cons, HVV.out]
        rfl
      | true =>
        rw [hv] at k1
        have HVV : Hid (Q xn = true) := hv
        clear hv
        go_wp2_with fail
        go_roundg (n - (i + 1))
        case measure => have := HI.out; have := HIL.out; omega
        case rel => exact ⟨i + 1, by first | rfl | (rw [show (i : Int) + 1 = ((i + 1 : Nat) : Int) by omega]), HBW, ⟨HIL.out, rfl⟩, by
          have h9 := HA.out
          rw [HDR.out, List.all_cons, HVV.out, Bool.true_and] at h9
          exact h9⟩
    · have e1 : decide ((i : Int) < (n : Int)) = false := by rw [decide_eq_false_iff_not]; omega
      have e2 : decide (i < n) = false := by rw [decide_eq_false_iff_not]; omega
      have HIN : Hid (i = n) := by have := HI.out; show i = n; omega
      clear hi
      go_wp2_with fail
      go_ret
      refine ⟨?_, HBW.out⟩
      have h9 := HA.out
      rw [HIN.out, ← HNN.out, List.drop_length] at h9
      rw [← h9]
      rfl
end Go.Proofs.Ytodncbkdlnepjaa
