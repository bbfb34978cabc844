import Derived.Test.YtkaciochlemjiabTtx
namespace Go.Proofs.Ytkaciochlemjiab
open Go.RowKit Go.Maps

set_option maxRecDepth 100000 in
set_option maxHeartbeats 16000000 in
theorem wider_any {B M n1 n2 n3 g1 k1 g2 k2 g3 k3 : Nat} {pn fl : Int} (w : World) (h : Ty B w (w.alloc (.cells #[.slice (some ⟨g1, 0, none⟩) n1 k1, .int .i64 pn, .slice (some ⟨g2, 0, none⟩) n2 k2, .slice (some ⟨g3, 0, none⟩) n3 k3, .int .u16 fl] 27)) M n1 n2 n3 g1 k1 g2 k2 g3 k3 #[.slice (some ⟨g1, 0, none⟩) n1 k1, .int .i64 pn, .slice (some ⟨g2, 0, none⟩) n2 k2, .slice (some ⟨g3, 0, none⟩) n3 k3, .int .u16 fl]) (hb1 : n1 ≤ 140737488355328) (hb2 : n2 ≤ 140737488355328) (hb3 : n3 ≤ 140737488355328) (hM : M ≤ 140737488355328) :
    Calls Try.prog 23 #[.agg #[.slice (some ⟨g1, 0, none⟩) n1 k1, .int .i64 pn, .slice (some ⟨g2, 0, none⟩) n2 k2, .slice (some ⟨g3, 0, none⟩) n3 k3, .int .u16 fl]] w fun e w' => (∃ v, e = .returned v) ∧ Ty B w w' (M + n2 + n3) n1 n2 n3 g1 k1 g2 k2 g3 k3 #[.slice (some ⟨g1, 0, none⟩) n1 k1, .int .i64 pn, .slice (some ⟨g2, 0, none⟩) n2 k2, .slice (some ⟨g3, 0, none⟩) n3 k3, .int .u16 fl] := by
  obtain ⟨W1, hW1⟩ : ∃ W1, W1 = w.alloc (.cells #[.slice (some ⟨g1, 0, none⟩) n1 k1, .int .i64 pn, .slice (some ⟨g2, 0, none⟩) n2 k2, .slice (some ⟨g3, 0, none⟩) n3 k3, .int .u16 fl] 27) := ⟨_, rfl⟩
  have HW : Hid (W1 = w.alloc (.cells #[.slice (some ⟨g1, 0, none⟩) n1 k1, .int .i64 pn, .slice (some ⟨g2, 0, none⟩) n2 k2, .slice (some ⟨g3, 0, none⟩) n3 k3, .int .u16 fl] 27)) := hW1
  have HN : Hid (n1 ≤ 140737488355328 ∧ n2 ≤ 140737488355328 ∧ n3 ≤ 140737488355328 ∧ M ≤ 140737488355328) := ⟨hb1, hb2, hb3, hM⟩
  rw [← hW1] at h
  have HT1 : Hid (Ty B w W1 M n1 n2 n3 g1 k1 g2 k2 g3 k3 #[.slice (some ⟨g1, 0, none⟩) n1 k1, .int .i64 pn, .slice (some ⟨g2, 0, none⟩) n2 k2, .slice (some ⟨g3, 0, none⟩) n3 k3, .int .u16 fl]) := h
  clear h hb1 hb2 hb3 hM hW1
  go_enter Try.func23, Try.ntmps23
  go_upto_region 1 with fail
  rw [← HW.out]
  go_wp2_with fail
  go_loopg [2] n1 (fun gm v wr => ∃ i : Nat, v = .int .i64 (i : Int) ∧ Hid (i ≤ n1 ∧ gm = n1 - i) ∧ Hid (Ty B w wr M n1 n2 n3 g1 k1 g2 k2 g3 k3 #[.slice (some ⟨g1, 0, none⟩) n1 k1, .int .i64 pn, .slice (some ⟨g2, 0, none⟩) n2 k2, .slice (some ⟨g3, 0, none⟩) n3 k3, .int .u16 fl]))
  case atStart => exact ⟨0, rfl, ⟨Nat.zero_le _, rfl⟩, HT1⟩
  case round =>
    clear HT1
    obtain ⟨i, rfl, HI, HY⟩ := hrel
    obtain ⟨p0, p1, p2, p3, p4⟩ := box_cells HY.out.bs
    by_cases hi : i < n1
    · have e1 : decide ((i : Int) < (n1 : Int)) = true := by rw [decide_eq_true_eq]; omega
      have e2 : decide (i < n1) = true := by rw [decide_eq_true_eq]; omega
      have e5 : (i : Int) < (n1 : Int) := by omega
      have HIL : Hid (i < n1) := hi
      have hwr := w64n i (by have := HN.out; omega)
      clear hi
      go_upto_region 4 with fail
      obtain ⟨WD, hWD⟩ : ∃ WD, wr.drew = WD := ⟨_, rfl⟩
      have HYD : Hid (Ty B w WD M n1 n2 n3 g1 k1 g2 k2 g3 k3 #[.slice (some ⟨g1, 0, none⟩) n1 k1, .int .i64 pn, .slice (some ⟨g2, 0, none⟩) n2 k2, .slice (some ⟨g3, 0, none⟩) n3 k3, .int .u16 fl]) := by rw [← hWD]; exact HY.out.up (Below.drew (Below.refl _ _))
      have ho := rcell HYD.out.bs 0 _ rfl
      obtain ⟨l, hl, hr⟩ := HYD.out.ri
      have HL : Hid (l.length = n1) := hl
      have c0 := row_at hr (i) _ (by rw [List.getElem?_append_left (by rw [iC_len]; have := HIL.out; omega)]; exact iC_get l i (by have := HIL.out; omega))
      have fz : WD.frozen? ⟨g1, i, none⟩ = false := by obtain ⟨_, cur, hh⟩ := row_blk hr; exact Lib.frozen_of_heap hh _
      obtain ⟨x, hx⟩ : ∃ x, l.getD i 0 = x := ⟨_, rfl⟩
      rw [hx] at c0
      clear hx hr hl p0 p1 p2 p3 p4
      refine wp_region_noPanic ?_
      refine wp_region_held_drew (S := fun W => W.cell? ⟨w.heap.size, 0, none⟩ = some (.slice (some ⟨g1, 0, none⟩) n1 k1)) (by kernel_rfl) (by rw [hWD]; exact ho) (fun hHeld => ?_)
      rw [hWD] at hHeld ⊢
      clear hWD ho
      refine wpAnyH_take (i := 0) (oi := { dst := _, op := _, type := _, pos := _, after := _, guard := _ }) (v := ?_) rfl (by kernel_rfl) (by kernel_rfl) (by kernel_rfl) (fun _ _ _ h => h) (Or.inl ⟨by rfl, ?_⟩) (by assumption) ?_
      rotate_left
      · intro W hSw
        (try obtain ⟨h0, h1, h2⟩ := hSw)
        (try dsimp only at hSw)
        go_simp
        (try with_reducible rfl)
      try simp only [Act.put, List.setIfInBounds_toArray, List.set_cons_zero, List.set_cons_succ]
      refine wpAnyH_take (i := 1) (oi := { dst := _, op := _, type := _, pos := _, after := _, guard := _ }) (v := ?_) rfl (by kernel_rfl) (by kernel_rfl) (by kernel_rfl) (fun _ _ _ h => h) (Or.inl ⟨by rfl, ?_⟩) (by assumption) ?_
      rotate_left
      · intro W hSw
        (try obtain ⟨h0, h1, h2⟩ := hSw)
        (try dsimp only at hSw)
        go_simp
        (try with_reducible rfl)
      try simp only [Act.put, List.setIfInBounds_toArray, List.set_cons_zero, List.set_cons_succ]
      refine wpAnyH_take (i := 2) (oi := { dst := _, op := _, type := _, pos := _, after := _, guard := _ }) (v := ?_) rfl (by kernel_rfl) (by kernel_rfl) (by kernel_rfl) (fun _ _ _ h => h) (Or.inl ⟨by rfl, ?_⟩) (by assumption) ?_
      rotate_left
      · intro W hSw
        (try obtain ⟨h0, h1, h2⟩ := hSw)
        (try dsimp only at hSw)
        go_simp
        (try with_reducible rfl)
      try simp only [Act.put, List.setIfInBounds_toArray, List.set_cons_zero, List.set_cons_succ]
      refine wpAnyH_take (i := 3) (oi := { dst := _, op := _, type := _, pos := _, after := _, guard := _ }) (v := ?_) rfl (by kernel_rfl) (by kernel_rfl) (by kernel_rfl) (fun _ _ _ h => h) (Or.inl ⟨by rfl, ?_⟩) (by assumption) ?_
      rotate_left
      · intro W hSw
        (try obtain ⟨h0, h1, h2⟩ := hSw)
        (try dsimp only at hSw)
        go_simp
        (try with_reducible rfl)
      try simp only [Act.put, List.setIfInBounds_toArray, List.set_cons_zero, List.set_cons_succ]
      refine wpAnyH_take (i := 4) (oi := { dst := _, op := _, type := _, pos := _, after := _, guard := _ }) (v := ?_) rfl (by kernel_rfl) (by kernel_rfl) (by kernel_rfl) (fun _ _ _ h => h) (Or.inl ⟨by rfl, ?_⟩) (by assumption) ?_
      rotate_left
      · intro W hSw
        (try obtain ⟨h0, h1, h2⟩ := hSw)
        (try dsimp only at hSw)
        go_simp
        (try with_reducible rfl)
      try simp only [Act.put, List.setIfInBounds_toArray, List.set_cons_zero, List.set_cons_succ]
      refine wpAnyH_take (i := 5) (oi := { dst := _, op := _, type := _, pos := _, after := _, guard := _ }) (v := ?_) rfl (by kernel_rfl) (by kernel_rfl) (by kernel_rfl) (fun _ _ _ h => h) (Or.inl ⟨by rfl, ?_⟩) (by assumption) ?_
      rotate_left
      · intro W hSw
        (try obtain ⟨h0, h1, h2⟩ := hSw)
        (try dsimp only at hSw)
        go_simp
        (try with_reducible rfl)
      try simp only [Act.put, List.setIfInBounds_toArray, List.set_cons_zero, List.set_cons_succ]
      refine wpAnyH_take (i := 6) (oi := { dst := _, op := _, type := _, pos := _, after := _, guard := _ }) (v := ?_) rfl (by kernel_rfl) (by kernel_rfl) (by kernel_rfl) (fun _ _ _ h => h) (Or.inl ⟨by rfl, ?_⟩) (by assumption) ?_
      rotate_left
      · intro W hSw
        (try obtain ⟨h0, h1, h2⟩ := hSw)
        (try dsimp only at hSw)
        go_simp
        (try with_reducible rfl)
      try simp only [Act.put, List.setIfInBounds_toArray, List.set_cons_zero, List.set_cons_succ]
      refine wpAnyH_take (i := 9) (oi := { dst := _, op := _, type := _, pos := _, after := _, guard := _ }) (v := ?_) rfl (by kernel_rfl) (by kernel_rfl) (by kernel_rfl) (fun _ _ _ h => h) (Or.inl ⟨by rfl, ?_⟩) (by assumption) ?_
      rotate_left
      · intro W hSw
        (try obtain ⟨h0, h1, h2⟩ := hSw)
        (try dsimp only at hSw)
        go_simp
        (try with_reducible rfl)
      try simp only [Act.put, List.setIfInBounds_toArray, List.set_cons_zero, List.set_cons_succ]
      refine wpAnyH_ready (rs := [7]) (by kernel_rfl) (by simp) ?_
      refine AllReadyH.cons (o := { dst := _, op := _, type := _, pos := _, after := _, guard := _ }) rfl (fun K hK => ?_) AllReadyH.nil
      go_simp
      refine hK.out _ _ ?_ (fun hHeld => ?_)
      · exact hHeld
      clear hK K
      try simp only [Act.put, List.setIfInBounds_toArray, List.set_cons_zero, List.set_cons_succ]
      refine wpAnyH_take (i := 8) (oi := { dst := _, op := _, type := _, pos := _, after := _, guard := _ }) (v := ?_) rfl (by kernel_rfl) (by kernel_rfl) (by kernel_rfl) (fun _ _ _ h => h) (Or.inl ⟨by rfl, ?_⟩) (by assumption) ?_
      rotate_left
      · intro W hSw
        (try obtain ⟨h0, h1, h2⟩ := hSw)
        (try dsimp only at hSw)
        go_simp
        (try with_reducible rfl)
      try simp only [Act.put, List.setIfInBounds_toArray, List.set_cons_zero, List.set_cons_succ]
      refine wpAnyH_take (i := 10) (oi := { dst := _, op := _, type := _, pos := _, after := _, guard := _ }) (v := ?_) rfl (by kernel_rfl) (by kernel_rfl) (by kernel_rfl) (fun _ _ _ h => h) (Or.inl ⟨by rfl, ?_⟩) (by assumption) ?_
      rotate_left
      · intro W hSw
        (try obtain ⟨h0, h1, h2⟩ := hSw)
        (try dsimp only at hSw)
        go_simp
        (try with_reducible rfl)
      try simp only [Act.put, List.setIfInBounds_toArray, List.set_cons_zero, List.set_cons_succ]
      refine wpAnyH_take (i := 11) (oi := { dst := _, op := _, type := _, pos := _, after := _, guard := _ }) (v := ?_) rfl (by kernel_rfl) (by kernel_rfl) (by kernel_rfl) (fun _ _ _ h => h) (Or.inl ⟨by rfl, ?_⟩) (by assumption) ?_
      rotate_left
      · intro W hSw
        (try obtain ⟨h0, h1, h2⟩ := hSw)
        (try dsimp only at hSw)
        go_simp
        (try with_reducible rfl)
      try simp only [Act.put, List.setIfInBounds_toArray, List.set_cons_zero, List.set_cons_succ]
      refine wpAnyH_ready (rs := [12]) (by kernel_rfl) (by simp) ?_
      refine AllReadyH.cons (o := { dst := _, op := _, type := _, pos := _, after := _, guard := _ }) rfl (fun K hK => ?_) AllReadyH.nil
      go_simp
      refine hK.out _ _ ?_ (fun hHeld => ?_)
      · exact rcell (HYD.out.si i HIL.out _).bs 0 _ rfl
      clear hK K
      try simp only [Act.put, List.setIfInBounds_toArray, List.set_cons_zero, List.set_cons_succ]
      refine wpAnyH_done (by kernel_rfl) ?_ _
      refine NoPanic.normal ?_
      clear hHeld
      go_wp2_with fail
      go_roundg (n1 - (i + 1))
      case measure => have := HI.out; have := HIL.out; omega
      case rel => exact ⟨i + 1, by first | rfl | (rw [show (i : Int) + 1 = ((i + 1 : Nat) : Int) by omega]), ⟨HIL.out, rfl⟩, HYD.out.si i HIL.out _⟩
    · have e1 : decide ((i : Int) < (n1 : Int)) = false := by rw [decide_eq_false_iff_not]; omega
      have e2 : decide (i < n1) = false := by rw [decide_eq_false_iff_not]; omega
      have hie : i = n1 := by have := HI.out; omega
      have HYE : Hid (Ty B w wr M n1 n2 n3 g1 k1 g2 k2 g3 k3 #[.slice (some ⟨g1, 0, none⟩) n1 k1, .int .i64 pn, .slice (some ⟨g2, 0, none⟩) n2 k2, .slice (some ⟨g3, 0, none⟩) n3 k3, .int .u16 fl]) := by first | exact HY | (rw [hie] at HY; exact HY)
      clear hi HI HY hie
      have HY : Hid _ := HYE.out
      clear HYE
      go_wp2_with fail
      clear p0 p1 p2 p3 p4 e1 e2
      go_loopg [3] n2 (fun gm v wr => ∃ i : Nat, v = .int .i64 (i : Int) ∧ Hid (i ≤ n2 ∧ gm = n2 - i) ∧ Hid (Ty B w wr (M + i) n1 n2 n3 g1 k1 g2 k2 g3 k3 #[.slice (some ⟨g1, 0, none⟩) n1 k1, .int .i64 pn, .slice (some ⟨g2, 0, none⟩) n2 k2, .slice (some ⟨g3, 0, none⟩) n3 k3, .int .u16 fl]))
      case atStart => exact ⟨0, rfl, ⟨Nat.zero_le _, rfl⟩, HY⟩
      case round =>
        clear HY
        obtain ⟨i, rfl, HI, HY⟩ := hrel
        obtain ⟨p0, p1, p2, p3, p4⟩ := box_cells HY.out.bs
        by_cases hi : i < n2
        · have e1 : decide ((i : Int) < (n2 : Int)) = true := by rw [decide_eq_true_eq]; omega
          have e2 : decide (i < n2) = true := by rw [decide_eq_true_eq]; omega
          have e5 : (i : Int) < (n2 : Int) := by omega
          have HIL : Hid (i < n2) := hi
          have hwr := w64n i (by have := HN.out; omega)
          clear hi
          go_upto_region 8 with fail
          obtain ⟨WD, hWD⟩ : ∃ WD, wr.drew = WD := ⟨_, rfl⟩
          have HYD : Hid (Ty B w WD (M + i) n1 n2 n3 g1 k1 g2 k2 g3 k3 #[.slice (some ⟨g1, 0, none⟩) n1 k1, .int .i64 pn, .slice (some ⟨g2, 0, none⟩) n2 k2, .slice (some ⟨g3, 0, none⟩) n3 k3, .int .u16 fl]) := by rw [← hWD]; exact HY.out.up (Below.drew (Below.refl _ _))
          have ho := rcell HYD.out.bs 2 _ rfl
          obtain ⟨l, hl, hs, hr⟩ := HYD.out.rq
          have HL : Hid (l.length = n2) := hl
          have c0 := row_at hr (i) _ (by rw [List.getElem?_append_left (by rw [qC_len]; have := HIL.out; omega)]; exact qC_get l i (by have := HIL.out; omega))
          have fz : WD.frozen? ⟨g2, i, none⟩ = false := by obtain ⟨_, cur, hh⟩ := row_blk hr; exact Lib.frozen_of_heap hh _
          obtain ⟨x, hx⟩ : ∃ x, l.getD i ⟨#[]⟩ = x := ⟨_, rfl⟩
          rw [hx] at c0
          have HXS : Hid (x.size ≤ M + i) := by rw [← hx]; exact hs _ (mem_getD l ⟨#[]⟩ i (by have := HIL.out; omega))
          have zs : ¬ 9223372036854775807 < 1 + x.size := by have := HXS.out; have := HN.out; have := HIL.out; omega
          clear hx hr hl p0 p1 p2 p3 p4
          refine wp_region_noPanic ?_
          refine wp_region_held_drew (S := fun W => W.cell? ⟨w.heap.size, 2, none⟩ = some (.slice (some ⟨g2, 0, none⟩) n2 k2)) (by kernel_rfl) (by rw [hWD]; exact ho) (fun hHeld => ?_)
          rw [hWD] at hHeld ⊢
          clear hWD ho
          refine wpAnyH_take (i := 0) (oi := { dst := _, op := _, type := _, pos := _, after := _, guard := _ }) (v := ?_) rfl (by kernel_rfl) (by kernel_rfl) (by kernel_rfl) (fun _ _ _ h => h) (Or.inl ⟨by rfl, ?_⟩) (by assumption) ?_
          rotate_left
          · intro W hSw
            (try obtain ⟨h0, h1, h2⟩ := hSw)
            (try dsimp only at hSw)
            go_simp
            (try with_reducible rfl)
          try simp only [Act.put, List.setIfInBounds_toArray, List.set_cons_zero, List.set_cons_succ]
          refine wpAnyH_take (i := 1) (oi := { dst := _, op := _, type := _, pos := _, after := _, guard := _ }) (v := ?_) rfl (by kernel_rfl) (by kernel_rfl) (by kernel_rfl) (fun _ _ _ h => h) (Or.inl ⟨by rfl, ?_⟩) (by assumption) ?_
          rotate_left
          · intro W hSw
            (try obtain ⟨h0, h1, h2⟩ := hSw)
            (try dsimp only at hSw)
            go_simp
            (try with_reducible rfl)
          try simp only [Act.put, List.setIfInBounds_toArray, List.set_cons_zero, List.set_cons_succ]
          refine wpAnyH_take (i := 2) (oi := { dst := _, op := _, type := _, pos := _, after := _, guard := _ }) (v := ?_) rfl (by kernel_rfl) (by kernel_rfl) (by kernel_rfl) (fun _ _ _ h => h) (Or.inl ⟨by rfl, ?_⟩) (by assumption) ?_
          rotate_left
          · intro W hSw
            (try obtain ⟨h0, h1, h2⟩ := hSw)
            (try dsimp only at hSw)
            go_simp
            (try with_reducible rfl)
          try simp only [Act.put, List.setIfInBounds_toArray, List.set_cons_zero, List.set_cons_succ]
          refine wpAnyH_take (i := 3) (oi := { dst := _, op := _, type := _, pos := _, after := _, guard := _ }) (v := ?_) rfl (by kernel_rfl) (by kernel_rfl) (by kernel_rfl) (fun _ _ _ h => h) (Or.inl ⟨by rfl, ?_⟩) (by assumption) ?_
          rotate_left
          · intro W hSw
            (try obtain ⟨h0, h1, h2⟩ := hSw)
            (try dsimp only at hSw)
            go_simp
            (try with_reducible rfl)
          try simp only [Act.put, List.setIfInBounds_toArray, List.set_cons_zero, List.set_cons_succ]
          refine wpAnyH_take (i := 4) (oi := { dst := _, op := _, type := _, pos := _, after := _, guard := _ }) (v := ?_) rfl (by kernel_rfl) (by kernel_rfl) (by kernel_rfl) (fun _ _ _ h => h) (Or.inl ⟨by rfl, ?_⟩) (by assumption) ?_
          rotate_left
          · intro W hSw
            (try obtain ⟨h0, h1, h2⟩ := hSw)
            (try dsimp only at hSw)
            go_simp
            (try with_reducible rfl)
          try simp only [Act.put, List.setIfInBounds_toArray, List.set_cons_zero, List.set_cons_succ]
          refine wpAnyH_take (i := 5) (oi := { dst := _, op := _, type := _, pos := _, after := _, guard := _ }) (v := ?_) rfl (by kernel_rfl) (by kernel_rfl) (by kernel_rfl) (fun _ _ _ h => h) (Or.inl ⟨by rfl, ?_⟩) (by assumption) ?_
          rotate_left
          · intro W hSw
            (try obtain ⟨h0, h1, h2⟩ := hSw)
            (try dsimp only at hSw)
            go_simp
            (try with_reducible rfl)
          try simp only [Act.put, List.setIfInBounds_toArray, List.set_cons_zero, List.set_cons_succ]
          refine wpAnyH_take (i := 6) (oi := { dst := _, op := _, type := _, pos := _, after := _, guard := _ }) (v := ?_) rfl (by kernel_rfl) (by kernel_rfl) (by kernel_rfl) (fun _ _ _ h => h) (Or.inl ⟨by rfl, ?_⟩) (by assumption) ?_
          rotate_left
          · intro W hSw
            (try obtain ⟨h0, h1, h2⟩ := hSw)
            (try dsimp only at hSw)
            go_simp
            (try with_reducible rfl)
          try simp only [Act.put, List.setIfInBounds_toArray, List.set_cons_zero, List.set_cons_succ]
          refine wpAnyH_ready (rs := [7]) (by kernel_rfl) (by simp) ?_
          refine AllReadyH.cons (o := { dst := _, op := _, type := _, pos := _, after := _, guard := _ }) rfl (fun K hK => ?_) AllReadyH.nil
          go_simp
          refine hK.out _ _ ?_ (fun hHeld => ?_)
          · exact hHeld
          clear hK K
          try simp only [Act.put, List.setIfInBounds_toArray, List.set_cons_zero, List.set_cons_succ]
          refine wpAnyH_take (i := 8) (oi := { dst := _, op := _, type := _, pos := _, after := _, guard := _ }) (v := ?_) rfl (by kernel_rfl) (by kernel_rfl) (by kernel_rfl) (fun _ _ _ h => h) (Or.inl ⟨by rfl, ?_⟩) (by assumption) ?_
          rotate_left
          · intro W hSw
            (try obtain ⟨h0, h1, h2⟩ := hSw)
            (try dsimp only at hSw)
            go_simp
            (try with_reducible rfl)
          try simp only [Act.put, List.setIfInBounds_toArray, List.set_cons_zero, List.set_cons_succ]
          refine wpAnyH_take (i := 9) (oi := { dst := _, op := _, type := _, pos := _, after := _, guard := _ }) (v := ?_) rfl (by kernel_rfl) (by kernel_rfl) (by kernel_rfl) (fun _ _ _ h => h) (Or.inl ⟨by rfl, ?_⟩) (by assumption) ?_
          rotate_left
          · intro W hSw
            (try obtain ⟨h0, h1, h2⟩ := hSw)
            (try dsimp only at hSw)
            go_simp
            (try with_reducible rfl)
          try simp only [Act.put, List.setIfInBounds_toArray, List.set_cons_zero, List.set_cons_succ]
          refine wpAnyH_ready (rs := [10]) (by kernel_rfl) (by simp) ?_
          refine AllReadyH.cons (o := { dst := _, op := _, type := _, pos := _, after := _, guard := _ }) rfl (fun K hK => ?_) AllReadyH.nil
          go_simp
          refine hK.out _ _ ?_ (fun hHeld => ?_)
          · exact rcell ((HYD.out.mono (by omega : M + i ≤ M + (i + 1))).sq i HIL.out _ (by rw [ba_siz]; have := HXS.out; show 1 + x.size ≤ _; omega)).bs 2 _ rfl
          clear hK K
          try simp only [Act.put, List.setIfInBounds_toArray, List.set_cons_zero, List.set_cons_succ]
          refine wpAnyH_done (by kernel_rfl) ?_ _
          refine NoPanic.normal ?_
          clear hHeld
          go_wp2_with fail
          go_roundg (n2 - (i + 1))
          case measure => have := HI.out; have := HIL.out; omega
          case rel => exact ⟨i + 1, by first | rfl | (rw [show (i : Int) + 1 = ((i + 1 : Nat) : Int) by omega]), ⟨HIL.out, rfl⟩, (HYD.out.mono (by omega : M + i ≤ M + (i + 1))).sq i HIL.out _ (by rw [ba_siz]; have := HXS.out; show 1 + x.size ≤ _; omega)⟩
        · have e1 : decide ((i : Int) < (n2 : Int)) = false := by rw [decide_eq_false_iff_not]; omega
          have e2 : decide (i < n2) = false := by rw [decide_eq_false_iff_not]; omega
          have hie : i = n2 := by have := HI.out; omega
          have HYE : Hid (Ty B w wr (M + n2) n1 n2 n3 g1 k1 g2 k2 g3 k3 #[.slice (some ⟨g1, 0, none⟩) n1 k1, .int .i64 pn, .slice (some ⟨g2, 0, none⟩) n2 k2, .slice (some ⟨g3, 0, none⟩) n3 k3, .int .u16 fl]) := by first | exact HY | (rw [hie] at HY; exact HY)
          clear hi HI HY hie
          have HY : Hid _ := HYE.out
          clear HYE
          go_wp2_with fail
          clear p0 p1 p2 p3 p4 e1 e2
          go_loopg [4] n3 (fun gm v wr => ∃ i : Nat, v = .int .i64 (i : Int) ∧ Hid (i ≤ n3 ∧ gm = n3 - i) ∧ Hid (Ty B w wr (M + n2 + i) n1 n2 n3 g1 k1 g2 k2 g3 k3 #[.slice (some ⟨g1, 0, none⟩) n1 k1, .int .i64 pn, .slice (some ⟨g2, 0, none⟩) n2 k2, .slice (some ⟨g3, 0, none⟩) n3 k3, .int .u16 fl]))
          case atStart => exact ⟨0, rfl, ⟨Nat.zero_le _, rfl⟩, HY⟩
          case round =>
            clear HY
            obtain ⟨i, rfl, HI, HY⟩ := hrel
            obtain ⟨p0, p1, p2, p3, p4⟩ := box_cells HY.out.bs
            by_cases hi : i < n3
            · have e1 : decide ((i : Int) < (n3 : Int)) = true := by rw [decide_eq_true_eq]; omega
              have e2 : decide (i < n3) = true := by rw [decide_eq_true_eq]; omega
              have e5 : (i : Int) < (n3 : Int) := by omega
              have HIL : Hid (i < n3) := hi
              have hwr := w64n i (by have := HN.out; omega)
              clear hi
              go_upto_region 12 with fail
              obtain ⟨WD, hWD⟩ : ∃ WD, wr.drew = WD := ⟨_, rfl⟩
              have HYD : Hid (Ty B w WD (M + n2 + i) n1 n2 n3 g1 k1 g2 k2 g3 k3 #[.slice (some ⟨g1, 0, none⟩) n1 k1, .int .i64 pn, .slice (some ⟨g2, 0, none⟩) n2 k2, .slice (some ⟨g3, 0, none⟩) n3 k3, .int .u16 fl]) := by rw [← hWD]; exact HY.out.up (Below.drew (Below.refl _ _))
              have ho := rcell HYD.out.bs 3 _ rfl
              obtain ⟨l, hl, hs, hr⟩ := HYD.out.rf
              have HL : Hid (l.length = n3) := hl
              have c0 := row_at hr (i * 2 + 1) _ (by rw [List.getElem?_append_left (by rw [fC_len]; have := HIL.out; omega)]; exact (fC_get l i (by have := HIL.out; omega)).2)
              have fz : WD.frozen? ⟨g3, i * 2 + 1, none⟩ = false := by obtain ⟨_, cur, hh⟩ := row_blk hr; exact Lib.frozen_of_heap hh _
              obtain ⟨x, hx⟩ : ∃ x, (l.getD i (0, ⟨#[]⟩)).2 = x := ⟨_, rfl⟩
              rw [hx] at c0
              have HXS : Hid (x.size ≤ M + n2 + i) := by rw [← hx]; exact hs _ (mem_getD l (0, ⟨#[]⟩) i (by have := HIL.out; omega))
              have zs : ¬ 9223372036854775807 < 1 + x.size := by have := HXS.out; have := HN.out; have := HIL.out; omega
              clear hx hr hl p0 p1 p2 p3 p4
              refine wp_region_noPanic ?_
              refine wp_region_held_drew (S := fun W => W.cell? ⟨w.heap.size, 3, none⟩ = some (.slice (some ⟨g3, 0, none⟩) n3 k3)) (by kernel_rfl) (by rw [hWD]; exact ho) (fun hHeld => ?_)
              rw [hWD] at hHeld ⊢
              clear hWD ho
              refine wpAnyH_take (i := 0) (oi := { dst := _, op := _, type := _, pos := _, after := _, guard := _ }) (v := ?_) rfl (by kernel_rfl) (by kernel_rfl) (by kernel_rfl) (fun _ _ _ h => h) (Or.inl ⟨by rfl, ?_⟩) (by assumption) ?_
              rotate_left
              · intro W hSw
                (try obtain ⟨h0, h1, h2⟩ := hSw)
                (try dsimp only at hSw)
                go_simp
                (try with_reducible rfl)
              try simp only [Act.put, List.setIfInBounds_toArray, List.set_cons_zero, List.set_cons_succ]
              refine wpAnyH_take (i := 1) (oi := { dst := _, op := _, type := _, pos := _, after := _, guard := _ }) (v := ?_) rfl (by kernel_rfl) (by kernel_rfl) (by kernel_rfl) (fun _ _ _ h => h) (Or.inl ⟨by rfl, ?_⟩) (by assumption) ?_
              rotate_left
              · intro W hSw
                (try obtain ⟨h0, h1, h2⟩ := hSw)
                (try dsimp only at hSw)
                go_simp
                (try with_reducible rfl)
              try simp only [Act.put, List.setIfInBounds_toArray, List.set_cons_zero, List.set_cons_succ]
              refine wpAnyH_take (i := 2) (oi := { dst := _, op := _, type := _, pos := _, after := _, guard := _ }) (v := ?_) rfl (by kernel_rfl) (by kernel_rfl) (by kernel_rfl) (fun _ _ _ h => h) (Or.inl ⟨by rfl, ?_⟩) (by assumption) ?_
              rotate_left
              · intro W hSw
                (try obtain ⟨h0, h1, h2⟩ := hSw)
                (try dsimp only at hSw)
                go_simp
                (try with_reducible rfl)
              try simp only [Act.put, List.setIfInBounds_toArray, List.set_cons_zero, List.set_cons_succ]
              refine wpAnyH_take (i := 3) (oi := { dst := _, op := _, type := _, pos := _, after := _, guard := _ }) (v := ?_) rfl (by kernel_rfl) (by kernel_rfl) (by kernel_rfl) (fun _ _ _ h => h) (Or.inl ⟨by rfl, ?_⟩) (by assumption) ?_
              rotate_left
              · intro W hSw
                (try obtain ⟨h0, h1, h2⟩ := hSw)
                (try dsimp only at hSw)
                go_simp
                (try with_reducible rfl)
              try simp only [Act.put, List.setIfInBounds_toArray, List.set_cons_zero, List.set_cons_succ]
              refine wpAnyH_take (i := 4) (oi := { dst := _, op := _, type := _, pos := _, after := _, guard := _ }) (v := ?_) rfl (by kernel_rfl) (by kernel_rfl) (by kernel_rfl) (fun _ _ _ h => h) (Or.inl ⟨by rfl, ?_⟩) (by assumption) ?_
              rotate_left
              · intro W hSw
                (try obtain ⟨h0, h1, h2⟩ := hSw)
                (try dsimp only at hSw)
                go_simp
                (try with_reducible rfl)
              try simp only [Act.put, List.setIfInBounds_toArray, List.set_cons_zero, List.set_cons_succ]
              refine wpAnyH_take (i := 5) (oi := { dst := _, op := _, type := _, pos := _, after := _, guard := _ }) (v := ?_) rfl (by kernel_rfl) (by kernel_rfl) (by kernel_rfl) (fun _ _ _ h => h) (Or.inl ⟨by rfl, ?_⟩) (by assumption) ?_
              rotate_left
              · intro W hSw
                (try obtain ⟨h0, h1, h2⟩ := hSw)
                (try dsimp only at hSw)
                go_simp
                (try with_reducible rfl)
              try simp only [Act.put, List.setIfInBounds_toArray, List.set_cons_zero, List.set_cons_succ]
              refine wpAnyH_take (i := 6) (oi := { dst := _, op := _, type := _, pos := _, after := _, guard := _ }) (v := ?_) rfl (by kernel_rfl) (by kernel_rfl) (by kernel_rfl) (fun _ _ _ h => h) (Or.inl ⟨by rfl, ?_⟩) (by assumption) ?_
              rotate_left
              · intro W hSw
                (try obtain ⟨h0, h1, h2⟩ := hSw)
                (try dsimp only at hSw)
                go_simp
                (try with_reducible rfl)
              try simp only [Act.put, List.setIfInBounds_toArray, List.set_cons_zero, List.set_cons_succ]
              refine wpAnyH_take (i := 7) (oi := { dst := _, op := _, type := _, pos := _, after := _, guard := _ }) (v := ?_) rfl (by kernel_rfl) (by kernel_rfl) (by kernel_rfl) (fun _ _ _ h => h) (Or.inl ⟨by rfl, ?_⟩) (by assumption) ?_
              rotate_left
              · intro W hSw
                (try obtain ⟨h0, h1, h2⟩ := hSw)
                (try dsimp only at hSw)
                go_simp
                (try with_reducible rfl)
              try simp only [Act.put, List.setIfInBounds_toArray, List.set_cons_zero, List.set_cons_succ]
              refine wpAnyH_ready (rs := [8]) (by kernel_rfl) (by simp) ?_
              refine AllReadyH.cons (o := { dst := _, op := _, type := _, pos := _, after := _, guard := _ }) rfl (fun K hK => ?_) AllReadyH.nil
              go_simp
              refine hK.out _ _ ?_ (fun hHeld => ?_)
              · exact hHeld
              clear hK K
              try simp only [Act.put, List.setIfInBounds_toArray, List.set_cons_zero, List.set_cons_succ]
              refine wpAnyH_take (i := 9) (oi := { dst := _, op := _, type := _, pos := _, after := _, guard := _ }) (v := ?_) rfl (by kernel_rfl) (by kernel_rfl) (by kernel_rfl) (fun _ _ _ h => h) (Or.inl ⟨by rfl, ?_⟩) (by assumption) ?_
              rotate_left
              · intro W hSw
                (try obtain ⟨h0, h1, h2⟩ := hSw)
                (try dsimp only at hSw)
                go_simp
                (try with_reducible rfl)
              try simp only [Act.put, List.setIfInBounds_toArray, List.set_cons_zero, List.set_cons_succ]
              refine wpAnyH_take (i := 10) (oi := { dst := _, op := _, type := _, pos := _, after := _, guard := _ }) (v := ?_) rfl (by kernel_rfl) (by kernel_rfl) (by kernel_rfl) (fun _ _ _ h => h) (Or.inl ⟨by rfl, ?_⟩) (by assumption) ?_
              rotate_left
              · intro W hSw
                (try obtain ⟨h0, h1, h2⟩ := hSw)
                (try dsimp only at hSw)
                go_simp
                (try with_reducible rfl)
              try simp only [Act.put, List.setIfInBounds_toArray, List.set_cons_zero, List.set_cons_succ]
              refine wpAnyH_take (i := 11) (oi := { dst := _, op := _, type := _, pos := _, after := _, guard := _ }) (v := ?_) rfl (by kernel_rfl) (by kernel_rfl) (by kernel_rfl) (fun _ _ _ h => h) (Or.inl ⟨by rfl, ?_⟩) (by assumption) ?_
              rotate_left
              · intro W hSw
                (try obtain ⟨h0, h1, h2⟩ := hSw)
                (try dsimp only at hSw)
                go_simp
                (try with_reducible rfl)
              try simp only [Act.put, List.setIfInBounds_toArray, List.set_cons_zero, List.set_cons_succ]
              refine wpAnyH_ready (rs := [12]) (by kernel_rfl) (by simp) ?_
              refine AllReadyH.cons (o := { dst := _, op := _, type := _, pos := _, after := _, guard := _ }) rfl (fun K hK => ?_) AllReadyH.nil
              go_simp
              refine hK.out _ _ ?_ (fun hHeld => ?_)
              · exact rcell ((HYD.out.mono (by omega : M + n2 + i ≤ M + n2 + (i + 1))).sd i HIL.out _ (by rw [ba_siz]; have := HXS.out; show 1 + x.size ≤ _; omega)).bs 3 _ rfl
              clear hK K
              try simp only [Act.put, List.setIfInBounds_toArray, List.set_cons_zero, List.set_cons_succ]
              refine wpAnyH_done (by kernel_rfl) ?_ _
              refine NoPanic.normal ?_
              clear hHeld
              go_wp2_with fail
              go_roundg (n3 - (i + 1))
              case measure => have := HI.out; have := HIL.out; omega
              case rel => exact ⟨i + 1, by first | rfl | (rw [show (i : Int) + 1 = ((i + 1 : Nat) : Int) by omega]), ⟨HIL.out, rfl⟩, (HYD.out.mono (by omega : M + n2 + i ≤ M + n2 + (i + 1))).sd i HIL.out _ (by rw [ba_siz]; have := HXS.out; show 1 + x.size ≤ _; omega)⟩
            · have e1 : decide ((i : Int) < (n3 : Int)) = false := by rw [decide_eq_false_iff_not]; omega
              have e2 : decide (i < n3) = false := by rw [decide_eq_false_iff_not]; omega
              have hie : i = n3 := by have := HI.out; omega
              have HYE : Hid (Ty B w wr (M + n2 + n3) n1 n2 n3 g1 k1 g2 k2 g3 k3 #[.slice (some ⟨g1, 0, none⟩) n1 k1, .int .i64 pn, .slice (some ⟨g2, 0, none⟩) n2 k2, .slice (some ⟨g3, 0, none⟩) n3 k3, .int .u16 fl]) := by first | exact HY | (rw [hie] at HY; exact HY)
              clear hi HI HY hie
              have HY : Hid _ := HYE.out
              clear HYE
              go_wp2_with fail
              (try simp only [Exit.inBlock, Exit.then])
              refine bodyPost_end (results_none rfl _ _ _) rfl ?_
              exact ⟨⟨_, rfl⟩, HY.out⟩

end Go.Proofs.Ytkaciochlemjiab
