import Derived.Test.YtkaciochlemjiabApp
import Derived.Test.YtkaciochlemjiabBeh
namespace Go.Proofs.Ytkaciochlemjiab
open Go.RowKit Go.Maps

set_option maxRecDepth 100000 in
set_option maxHeartbeats 4000000 in
theorem enqueue_any {B : Nat} {W : World} {b : Nat} {vi vq vf : Value} {s : Stt} (h : Nx B W b vi vq vf s) (hl : s.que.length ≤ 1000000) (n : Int) (m : ByteArray) :
    Calls Try.prog 35 #[.pointer (some ⟨b, 0, none⟩), .int .i64 n, .string m] W fun e W' => Rs B W b (aEnqueue s n m) e W' := by
  obtain ⟨a1, c1, a2, c2, a3, c3, rfl, rfl, rfl⟩ := h.own.stm.form
  have HN : Hid (Nx B W b (.slice a1 s.ind.length c1) (.slice a2 s.que.length c2) (.slice a3 s.frm.length c3) s) := h
  have HL : Hid (s.que.length ≤ 1000000) := hl
  obtain ⟨iE, hi3, hx0, hx1, hx2⟩ := info_parts info9
  have HIE : Hid (Try.prog.info? 9 = some iE ∧ iE.zero = some (.string ⟨#[]⟩) ∧ iE.size = 1 ∧ iE.bytes = 16) := ⟨hi3, hx0, hx1, hx2⟩
  obtain ⟨k0, k1, k2, k3, k4⟩ := h.cells
  clear h hl hi3 hx0 hx1 hx2
  by_cases hn : n < 0
  · have d0 : decide (n < 0) = true := by rw [decide_eq_true_eq]; exact hn
    have HE : Hid (aEnqueue s n m = .error 66) := by unfold aEnqueue; rw [if_pos hn]; exact rfl
    clear hn
    go_enter Try.func35, Try.ntmps35
    go_wp2_with fail
    go_ret
    exact ⟨Below.refl _ _, .inr ⟨66, HE.out, rfl⟩⟩
  · have d0 : decide (n < 0) = false := by rw [decide_eq_false_iff_not]; exact hn
    obtain ⟨k, rfl⟩ : ∃ k : Nat, n = (k : Int) := ⟨n.toNat, by omega⟩
    obtain ⟨d, hd⟩ : ∃ d, beh m k = d := ⟨_, rfl⟩
    have HD : Hid (beh m k = d) := hd
    have C80 : Hid (∀ W : World, Calls Try.prog 63 #[.string m, .int .i64 (k : Int)] W fun e w' => e = .returned (.string d) ∧ w' = W) := fun W => by rw [← hd]; exact behind_any m k W
    cases hw : wai d with
    | false =>
      have HE : Hid (aEnqueue s k m = .error 63) := by unfold aEnqueue; rw [if_neg hn, Int.toNat_natCast, hd, if_pos hw]; exact rfl
      have HW : Hid (wai d = false) := hw
      clear hn hw hd
      go_enter Try.func35, Try.ntmps35
      go_wp2_with (first | (go_at_call 63; refine (C80.out _).mono ?_; rintro e w9 ⟨rfl, hw9⟩; rw [hw9]; clear hw9 w9) | (go_at_call 56; refine (wait_any _ _).mono ?_; rintro e w9 ⟨rfl, hw9⟩; rw [hw9]; clear hw9 w9; rw [HW.out]))
      go_ret
      exact ⟨Below.refl _ _, .inr ⟨63, HE.out, rfl⟩⟩
    | true =>
      have HW : Hid (wai d = true) := hw
      have HDS : Hid (d.size ≤ 281474976710656) := by
        simp only [wai, Bool.and_eq_true, decide_eq_true_eq] at hw
        show d.size ≤ 281474976710656
        omega
      by_cases hq : s.que.length = 8
      · have z0 : ((s.que.length : Int) == 8) = true := by rw [beq_iff_eq]; omega
        have z1 : (s.que.length == 8) = true := by rw [beq_iff_eq]; omega
        have HE : Hid (aEnqueue s k m = .error 61) := by unfold aEnqueue; rw [if_neg hn, Int.toNat_natCast, hd, if_neg (by rw [hw]; simp), if_pos hq]; exact rfl
        clear hn hw hd hq
        go_enter Try.func35, Try.ntmps35
        go_wp2_with (first | (go_at_call 63; refine (C80.out _).mono ?_; rintro e w9 ⟨rfl, hw9⟩; rw [hw9]; clear hw9 w9) | (go_at_call 56; refine (wait_any _ _).mono ?_; rintro e w9 ⟨rfl, hw9⟩; rw [hw9]; clear hw9 w9; rw [HW.out]))
        go_ret
        exact ⟨Below.refl _ _, .inr ⟨61, HE.out, rfl⟩⟩
      · have z0 : ((s.que.length : Int) == 8) = false := by rw [beq_eq_false_iff_ne]; omega
        have z1 : (s.que.length == 8) = false := by rw [beq_eq_false_iff_ne]; omega
        have HE : Hid (aEnqueue s k m = .ok { s with que := s.que ++ [d] }) := by unfold aEnqueue; rw [if_neg hn, Int.toNat_natCast, hd, if_neg (by rw [hw]; simp), if_neg hq]; exact rfl
        clear hn hw hd hq
        go_enter Try.func35, Try.ntmps35
        go_upto_region 8 with (first | (go_at_call 63; refine (C80.out _).mono ?_; rintro e w9 ⟨rfl, hw9⟩; rw [hw9]; clear hw9 w9) | (go_at_call 56; refine (wait_any _ _).mono ?_; rintro e w9 ⟨rfl, hw9⟩; rw [hw9]; clear hw9 w9; rw [HW.out]))
        clear k0 k1 k2 k3 k4
        obtain ⟨WD, hWD⟩ : ∃ WD, W.drew = WD := ⟨_, rfl⟩
        have HMD : Hid (Nx B WD b (.slice a1 s.ind.length c1) (.slice a2 s.que.length c2) (.slice a3 s.frm.length c3) s) := by rw [← hWD]; exact HN.out.drew
        have HBD : Hid (Below B W WD) := by rw [← hWD]; exact Below.drew (Below.refl _ _)
        have k0 := HMD.out.cell 2 _ rfl
        refine wp_region_noPanic ?_
        refine wp_region_held_drew (S := fun W => True) (by kernel_rfl) (by exact trivial) (fun hHeld => ?_)
        rw [hWD]
        clear hWD
        refine wpAnyH_take (i := 0) (oi := { dst := _, op := _, type := _, pos := _, after := _, guard := _ }) (v := ?_) rfl (by kernel_rfl) (by kernel_rfl) (by kernel_rfl) (fun _ _ _ h => h) (Or.inl ⟨by rfl, ?_⟩) (by assumption) ?_
        rotate_left
        · intro W hSw
          (try dsimp only at hSw)
          go_simp
          (try with_reducible rfl)
        try simp only [Act.put, List.setIfInBounds_toArray, List.set_cons_zero, List.set_cons_succ]
        refine wpAnyH_take (i := 1) (oi := { dst := _, op := _, type := _, pos := _, after := _, guard := _ }) (v := ?_) rfl (by kernel_rfl) (by kernel_rfl) (by kernel_rfl) (fun _ _ _ h => h) (Or.inl ⟨by rfl, ?_⟩) (by assumption) ?_
        rotate_left
        · intro W hSw
          (try dsimp only at hSw)
          go_simp
          (try with_reducible rfl)
        try simp only [Act.put, List.setIfInBounds_toArray, List.set_cons_zero, List.set_cons_succ]
        refine wpAnyH_take (i := 2) (oi := { dst := _, op := _, type := _, pos := _, after := _, guard := _ }) (v := ?_) rfl (by kernel_rfl) (by kernel_rfl) (by kernel_rfl) (fun _ _ _ h => h) (Or.inl ⟨by rfl, ?_⟩) (by assumption) ?_
        rotate_left
        · intro W hSw
          (try dsimp only at hSw)
          go_simp
          (try with_reducible rfl)
        try simp only [Act.put, List.setIfInBounds_toArray, List.set_cons_zero, List.set_cons_succ]
        refine wpAnyH_take (i := 3) (oi := { dst := _, op := _, type := _, pos := _, after := _, guard := _ }) (v := ?_) rfl (by kernel_rfl) (by kernel_rfl) (by kernel_rfl) (fun _ _ _ h => h) (Or.inl ⟨by rfl, ?_⟩) (by assumption) ?_
        rotate_left
        · intro W hSw
          (try dsimp only at hSw)
          go_simp
          (try with_reducible rfl)
        try simp only [Act.put, List.setIfInBounds_toArray, List.set_cons_zero, List.set_cons_succ]
        refine wpAnyH_take (i := 5) (oi := { dst := _, op := _, type := _, pos := _, after := _, guard := _ }) (v := ?_) rfl (by kernel_rfl) (by kernel_rfl) (by kernel_rfl) (fun _ _ _ h => h) (Or.inl ⟨by rfl, ?_⟩) (by assumption) ?_
        rotate_left
        · intro W hSw
          (try dsimp only at hSw)
          go_simp
          (try with_reducible rfl)
        try simp only [Act.put, List.setIfInBounds_toArray, List.set_cons_zero, List.set_cons_succ]
        refine wpAnyH_ready (rs := [4, 6]) (by kernel_rfl) (by simp) ?_
        refine AllReadyH.cons (o := { dst := _, op := _, type := _, pos := _, after := _, guard := _ }) rfl (fun K hK => ?_) (AllReadyH.cons (o := { dst := _, op := _, type := _, pos := _, after := _, guard := _ }) rfl (fun K hK => ?_) (AllReadyH.nil))
        · go_simp
          refine hK.out _ _ ?_ (fun hHeld => ?_)
          · exact trivial
          clear hK K
          try simp only [Act.put, List.setIfInBounds_toArray, List.set_cons_zero, List.set_cons_succ]
          refine wpAnyH_ready (rs := [6]) (by kernel_rfl) (by simp) ?_
          refine AllReadyH.cons (o := { dst := _, op := _, type := _, pos := _, after := _, guard := _ }) rfl (fun K hK => ?_) AllReadyH.nil
          go_simp
          refine (clone_any d _ HDS.out).mono ?_
          rintro e w6 ⟨rfl, hb6⟩
          have HM6 : Hid (Nx B w6 b (.slice a1 s.ind.length c1) (.slice a2 s.que.length c2) (.slice a3 s.frm.length c3) s) := HMD.out.up hb6
          have HB6 : Hid (Below B W w6) := HBD.out.trans (hb6.mono HMD.out.lB)
          have k6 := HM6.out.cell 2 _ rfl
          clear hb6 k0
          go_wp2_with fail
          refine hK.out _ _ ?_ (fun hHeld => ?_)
          · exact trivial
          clear hK K
          try simp only [Act.put, List.setIfInBounds_toArray, List.set_cons_zero, List.set_cons_succ]
          refine wpAnyH_ready (rs := [7]) (by kernel_rfl) (by simp) ?_
          refine AllReadyH.cons (o := { dst := _, op := _, type := _, pos := _, after := _, guard := _ }) rfl (fun K hK => ?_) AllReadyH.nil
          go_simp
          refine hK.out _ _ ?_ (fun hHeld => ?_)
          · exact trivial
          clear hK K
          try simp only [Act.put, List.setIfInBounds_toArray, List.set_cons_zero, List.set_cons_succ]
          have k0a : (w6.alloc (.cells #[.string d] 9)).cell? ⟨b, 2, none⟩ = some (.slice a2 s.que.length c2) := cell_up _ k6
          refine wpAnyH_ready (rs := [8]) (by kernel_rfl) (by simp) ?_
          refine AllReadyH.cons (o := { dst := _, op := _, type := _, pos := _, after := _, guard := _ }) rfl (fun K hK => ?_) AllReadyH.nil
          refine step_append_lies _ rfl (.tmp 28) (.tmp 31) 23 rfl B 9 iE _ 1 16 Try.underlying23 HIE.out.1 HIE.out.2.1 HIE.out.2.2.1 HIE.out.2.2.2 rfl (by decide) (.slice a2 s.que.length c2) _ _ rfl (HM6.out.own.q.alloc _) ⟨w6.heap.size, 0, none⟩ 1 1 [.string d] rfl rfl (cell_one_new _ _ _) (by simp [Value.oneCell']) (by decide) (by have := HL.out; unfold maxLen; omega) (by have := HL.out; omega) (by have := HM6.out.lB; simp; omega) (w6.heap.size + 1) (by simp) ?_
          intro g' cap' w' h2 h3 h4 _
          have HO : Hid (w'.ownsRow B 9 1 (.slice (some ⟨g', 0, none⟩) (s.que.length + 1) cap') (s.que ++ [d]).length (qC (s.que ++ [d]))) := by rw [qC_app, List.length_append]; exact h2
          have HG : Hid (w6.grownBy w' (Value.ownBlock (.slice a2 s.que.length c2))) := (World.grownBy_alloc _ _ _).trans h3
          have k0b : w'.cell? ⟨b, 2, none⟩ = some (.slice a2 s.que.length c2) := h3.cell k0a (fun e => tag_ne_blk HM6.out.own.q HM6.out.blk (by decide) e.symm)
          have f0b : w'.frozen? ⟨b, 2, none⟩ = false := Lib.frozen_of_heap ((HG.out.block b (lt_of_heap HM6.out.blk) (fun e => tag_ne_blk HM6.out.own.q HM6.out.blk (by decide) e.symm)).trans HM6.out.blk) 2
          clear h2 h3 h4 k6 k0a
          refine hK.out _ _ ?_ (fun hHeld => ?_)
          · exact trivial
          clear hK K
          try simp only [Act.put, List.setIfInBounds_toArray, List.set_cons_zero, List.set_cons_succ]
          refine wpAnyH_take (i := 9) (oi := { dst := _, op := _, type := _, pos := _, after := _, guard := _ }) (v := ?_) rfl (by kernel_rfl) (by kernel_rfl) (by kernel_rfl) (fun _ _ _ h => h) (Or.inl ⟨by rfl, ?_⟩) (by assumption) ?_
          rotate_left
          · intro W hSw
            (try dsimp only at hSw)
            go_simp
            (try with_reducible rfl)
          try simp only [Act.put, List.setIfInBounds_toArray, List.set_cons_zero, List.set_cons_succ]
          refine wpAnyH_take (i := 10) (oi := { dst := _, op := _, type := _, pos := _, after := _, guard := _ }) (v := ?_) rfl (by kernel_rfl) (by kernel_rfl) (by kernel_rfl) (fun _ _ _ h => h) (Or.inl ⟨by rfl, ?_⟩) (by assumption) ?_
          rotate_left
          · intro W hSw
            (try dsimp only at hSw)
            go_simp
            (try with_reducible rfl)
          try simp only [Act.put, List.setIfInBounds_toArray, List.set_cons_zero, List.set_cons_succ]
          refine wpAnyH_ready (rs := [11]) (by kernel_rfl) (by simp) ?_
          refine AllReadyH.cons (o := { dst := _, op := _, type := _, pos := _, after := _, guard := _ }) rfl (fun K hK => ?_) AllReadyH.nil
          go_simp
          refine hK.out _ _ ?_ (fun hHeld => ?_)
          · exact trivial
          clear hK K
          try simp only [Act.put, List.setIfInBounds_toArray, List.set_cons_zero, List.set_cons_succ]
          refine wpAnyH_done (by kernel_rfl) ?_ _
          clear hHeld k0b f0b
          refine NoPanic.normal ?_
          obtain ⟨hq1, hq2⟩ := HM6.out.appQ HG.out HO.out
          have HQ1 : Hid _ := hq1
          have HQ2 : Hid _ := HB6.out.trans hq2
          clear hq1 hq2
          go_wp2_with fail
          go_ret
          exact ⟨HQ2.out, .inl ⟨_, _, _, _, HE.out, rfl, HQ1.out⟩⟩
        · go_simp
          refine (clone_any d _ HDS.out).mono ?_
          rintro e w6 ⟨rfl, hb6⟩
          have HM6 : Hid (Nx B w6 b (.slice a1 s.ind.length c1) (.slice a2 s.que.length c2) (.slice a3 s.frm.length c3) s) := HMD.out.up hb6
          have HB6 : Hid (Below B W w6) := HBD.out.trans (hb6.mono HMD.out.lB)
          have k6 := HM6.out.cell 2 _ rfl
          clear hb6 k0
          go_wp2_with fail
          refine hK.out _ _ ?_ (fun hHeld => ?_)
          · exact trivial
          clear hK K
          try simp only [Act.put, List.setIfInBounds_toArray, List.set_cons_zero, List.set_cons_succ]
          refine wpAnyH_ready (rs := [4, 7]) (by kernel_rfl) (by simp) ?_
          refine AllReadyH.cons (o := { dst := _, op := _, type := _, pos := _, after := _, guard := _ }) rfl (fun K hK => ?_) (AllReadyH.cons (o := { dst := _, op := _, type := _, pos := _, after := _, guard := _ }) rfl (fun K hK => ?_) (AllReadyH.nil))
          · go_simp
            refine hK.out _ _ ?_ (fun hHeld => ?_)
            · exact trivial
            clear hK K
            try simp only [Act.put, List.setIfInBounds_toArray, List.set_cons_zero, List.set_cons_succ]
            refine wpAnyH_ready (rs := [7]) (by kernel_rfl) (by simp) ?_
            refine AllReadyH.cons (o := { dst := _, op := _, type := _, pos := _, after := _, guard := _ }) rfl (fun K hK => ?_) AllReadyH.nil
            go_simp
            refine hK.out _ _ ?_ (fun hHeld => ?_)
            · exact trivial
            clear hK K
            try simp only [Act.put, List.setIfInBounds_toArray, List.set_cons_zero, List.set_cons_succ]
            have k0a : (w6.alloc (.cells #[.string d] 9)).cell? ⟨b, 2, none⟩ = some (.slice a2 s.que.length c2) := cell_up _ k6
            refine wpAnyH_ready (rs := [8]) (by kernel_rfl) (by simp) ?_
            refine AllReadyH.cons (o := { dst := _, op := _, type := _, pos := _, after := _, guard := _ }) rfl (fun K hK => ?_) AllReadyH.nil
            refine step_append_lies _ rfl (.tmp 28) (.tmp 31) 23 rfl B 9 iE _ 1 16 Try.underlying23 HIE.out.1 HIE.out.2.1 HIE.out.2.2.1 HIE.out.2.2.2 rfl (by decide) (.slice a2 s.que.length c2) _ _ rfl (HM6.out.own.q.alloc _) ⟨w6.heap.size, 0, none⟩ 1 1 [.string d] rfl rfl (cell_one_new _ _ _) (by simp [Value.oneCell']) (by decide) (by have := HL.out; unfold maxLen; omega) (by have := HL.out; omega) (by have := HM6.out.lB; simp; omega) (w6.heap.size + 1) (by simp) ?_
            intro g' cap' w' h2 h3 h4 _
            have HO : Hid (w'.ownsRow B 9 1 (.slice (some ⟨g', 0, none⟩) (s.que.length + 1) cap') (s.que ++ [d]).length (qC (s.que ++ [d]))) := by rw [qC_app, List.length_append]; exact h2
            have HG : Hid (w6.grownBy w' (Value.ownBlock (.slice a2 s.que.length c2))) := (World.grownBy_alloc _ _ _).trans h3
            have k0b : w'.cell? ⟨b, 2, none⟩ = some (.slice a2 s.que.length c2) := h3.cell k0a (fun e => tag_ne_blk HM6.out.own.q HM6.out.blk (by decide) e.symm)
            have f0b : w'.frozen? ⟨b, 2, none⟩ = false := Lib.frozen_of_heap ((HG.out.block b (lt_of_heap HM6.out.blk) (fun e => tag_ne_blk HM6.out.own.q HM6.out.blk (by decide) e.symm)).trans HM6.out.blk) 2
            clear h2 h3 h4 k6 k0a
            refine hK.out _ _ ?_ (fun hHeld => ?_)
            · exact trivial
            clear hK K
            try simp only [Act.put, List.setIfInBounds_toArray, List.set_cons_zero, List.set_cons_succ]
            refine wpAnyH_take (i := 9) (oi := { dst := _, op := _, type := _, pos := _, after := _, guard := _ }) (v := ?_) rfl (by kernel_rfl) (by kernel_rfl) (by kernel_rfl) (fun _ _ _ h => h) (Or.inl ⟨by rfl, ?_⟩) (by assumption) ?_
            rotate_left
            · intro W hSw
              (try dsimp only at hSw)
              go_simp
              (try with_reducible rfl)
            try simp only [Act.put, List.setIfInBounds_toArray, List.set_cons_zero, List.set_cons_succ]
            refine wpAnyH_take (i := 10) (oi := { dst := _, op := _, type := _, pos := _, after := _, guard := _ }) (v := ?_) rfl (by kernel_rfl) (by kernel_rfl) (by kernel_rfl) (fun _ _ _ h => h) (Or.inl ⟨by rfl, ?_⟩) (by assumption) ?_
            rotate_left
            · intro W hSw
              (try dsimp only at hSw)
              go_simp
              (try with_reducible rfl)
            try simp only [Act.put, List.setIfInBounds_toArray, List.set_cons_zero, List.set_cons_succ]
            refine wpAnyH_ready (rs := [11]) (by kernel_rfl) (by simp) ?_
            refine AllReadyH.cons (o := { dst := _, op := _, type := _, pos := _, after := _, guard := _ }) rfl (fun K hK => ?_) AllReadyH.nil
            go_simp
            refine hK.out _ _ ?_ (fun hHeld => ?_)
            · exact trivial
            clear hK K
            try simp only [Act.put, List.setIfInBounds_toArray, List.set_cons_zero, List.set_cons_succ]
            refine wpAnyH_done (by kernel_rfl) ?_ _
            clear hHeld k0b f0b
            refine NoPanic.normal ?_
            obtain ⟨hq1, hq2⟩ := HM6.out.appQ HG.out HO.out
            have HQ1 : Hid _ := hq1
            have HQ2 : Hid _ := HB6.out.trans hq2
            clear hq1 hq2
            go_wp2_with fail
            go_ret
            exact ⟨HQ2.out, .inl ⟨_, _, _, _, HE.out, rfl, HQ1.out⟩⟩
          · go_simp
            refine hK.out _ _ ?_ (fun hHeld => ?_)
            · exact trivial
            clear hK K
            try simp only [Act.put, List.setIfInBounds_toArray, List.set_cons_zero, List.set_cons_succ]
            have k0a : (w6.alloc (.cells #[.string d] 9)).cell? ⟨b, 2, none⟩ = some (.slice a2 s.que.length c2) := cell_up _ k6
            refine wpAnyH_ready (rs := [4]) (by kernel_rfl) (by simp) ?_
            refine AllReadyH.cons (o := { dst := _, op := _, type := _, pos := _, after := _, guard := _ }) rfl (fun K hK => ?_) AllReadyH.nil
            go_simp
            refine hK.out _ _ ?_ (fun hHeld => ?_)
            · exact trivial
            clear hK K
            try simp only [Act.put, List.setIfInBounds_toArray, List.set_cons_zero, List.set_cons_succ]
            refine wpAnyH_ready (rs := [8]) (by kernel_rfl) (by simp) ?_
            refine AllReadyH.cons (o := { dst := _, op := _, type := _, pos := _, after := _, guard := _ }) rfl (fun K hK => ?_) AllReadyH.nil
            refine step_append_lies _ rfl (.tmp 28) (.tmp 31) 23 rfl B 9 iE _ 1 16 Try.underlying23 HIE.out.1 HIE.out.2.1 HIE.out.2.2.1 HIE.out.2.2.2 rfl (by decide) (.slice a2 s.que.length c2) _ _ rfl (HM6.out.own.q.alloc _) ⟨w6.heap.size, 0, none⟩ 1 1 [.string d] rfl rfl (cell_one_new _ _ _) (by simp [Value.oneCell']) (by decide) (by have := HL.out; unfold maxLen; omega) (by have := HL.out; omega) (by have := HM6.out.lB; simp; omega) (w6.heap.size + 1) (by simp) ?_
            intro g' cap' w' h2 h3 h4 _
            have HO : Hid (w'.ownsRow B 9 1 (.slice (some ⟨g', 0, none⟩) (s.que.length + 1) cap') (s.que ++ [d]).length (qC (s.que ++ [d]))) := by rw [qC_app, List.length_append]; exact h2
            have HG : Hid (w6.grownBy w' (Value.ownBlock (.slice a2 s.que.length c2))) := (World.grownBy_alloc _ _ _).trans h3
            have k0b : w'.cell? ⟨b, 2, none⟩ = some (.slice a2 s.que.length c2) := h3.cell k0a (fun e => tag_ne_blk HM6.out.own.q HM6.out.blk (by decide) e.symm)
            have f0b : w'.frozen? ⟨b, 2, none⟩ = false := Lib.frozen_of_heap ((HG.out.block b (lt_of_heap HM6.out.blk) (fun e => tag_ne_blk HM6.out.own.q HM6.out.blk (by decide) e.symm)).trans HM6.out.blk) 2
            clear h2 h3 h4 k6 k0a
            refine hK.out _ _ ?_ (fun hHeld => ?_)
            · exact trivial
            clear hK K
            try simp only [Act.put, List.setIfInBounds_toArray, List.set_cons_zero, List.set_cons_succ]
            refine wpAnyH_take (i := 9) (oi := { dst := _, op := _, type := _, pos := _, after := _, guard := _ }) (v := ?_) rfl (by kernel_rfl) (by kernel_rfl) (by kernel_rfl) (fun _ _ _ h => h) (Or.inl ⟨by rfl, ?_⟩) (by assumption) ?_
            rotate_left
            · intro W hSw
              (try dsimp only at hSw)
              go_simp
              (try with_reducible rfl)
            try simp only [Act.put, List.setIfInBounds_toArray, List.set_cons_zero, List.set_cons_succ]
            refine wpAnyH_take (i := 10) (oi := { dst := _, op := _, type := _, pos := _, after := _, guard := _ }) (v := ?_) rfl (by kernel_rfl) (by kernel_rfl) (by kernel_rfl) (fun _ _ _ h => h) (Or.inl ⟨by rfl, ?_⟩) (by assumption) ?_
            rotate_left
            · intro W hSw
              (try dsimp only at hSw)
              go_simp
              (try with_reducible rfl)
            try simp only [Act.put, List.setIfInBounds_toArray, List.set_cons_zero, List.set_cons_succ]
            refine wpAnyH_ready (rs := [11]) (by kernel_rfl) (by simp) ?_
            refine AllReadyH.cons (o := { dst := _, op := _, type := _, pos := _, after := _, guard := _ }) rfl (fun K hK => ?_) AllReadyH.nil
            go_simp
            refine hK.out _ _ ?_ (fun hHeld => ?_)
            · exact trivial
            clear hK K
            try simp only [Act.put, List.setIfInBounds_toArray, List.set_cons_zero, List.set_cons_succ]
            refine wpAnyH_done (by kernel_rfl) ?_ _
            clear hHeld k0b f0b
            refine NoPanic.normal ?_
            obtain ⟨hq1, hq2⟩ := HM6.out.appQ HG.out HO.out
            have HQ1 : Hid _ := hq1
            have HQ2 : Hid _ := HB6.out.trans hq2
            clear hq1 hq2
            go_wp2_with fail
            go_ret
            exact ⟨HQ2.out, .inl ⟨_, _, _, _, HE.out, rfl, HQ1.out⟩⟩

set_option maxRecDepth 100000 in
set_option maxHeartbeats 4000000 in
theorem enter_any {B : Nat} {W : World} {b : Nat} {vi vq vf : Value} {s : Stt} (h : Nx B W b vi vq vf s) (hl : s.frm.length ≤ 1000000) (n mo : Int) (m : ByteArray) :
    Calls Try.prog 37 #[.pointer (some ⟨b, 0, none⟩), .int .i64 n, .int .i64 mo, .string m] W fun e W' => Rs B W b (aEnter s n mo m) e W' := by
  obtain ⟨a1, c1, a2, c2, a3, c3, rfl, rfl, rfl⟩ := h.own.stm.form
  have HN : Hid (Nx B W b (.slice a1 s.ind.length c1) (.slice a2 s.que.length c2) (.slice a3 s.frm.length c3) s) := h
  have HL : Hid (s.frm.length ≤ 1000000) := hl
  obtain ⟨iE, hi3, hx0, hx1, hx2⟩ := info_parts info54
  have HIE : Hid (Try.prog.info? 42 = some iE ∧ iE.zero = some (.agg #[.int .i64 0, .string ⟨#[]⟩]) ∧ iE.size = 2 ∧ iE.bytes = 24) := ⟨hi3, hx0, hx1, hx2⟩
  obtain ⟨k0, k1, k2, k3, k4⟩ := h.cells
  clear h hl hi3 hx0 hx1 hx2
  by_cases hn : n < -1
  · have d0 : decide (n < -1) = true := by rw [decide_eq_true_eq]; exact hn
    have HE : Hid (aEnter s n mo m = .error 66) := by unfold aEnter; rw [if_pos (Or.inl hn)]; exact rfl
    clear hn
    go_enter Try.func37, Try.ntmps37
    go_wp2_with fail
    go_ret
    exact ⟨Below.refl _ _, .inr ⟨66, HE.out, rfl⟩⟩
  · have d0 : decide (n < -1) = false := by rw [decide_eq_false_iff_not]; exact hn
    cases hm : isM mo with
    | false =>
      have HM : Hid (isM mo = false) := hm
      have HE : Hid (aEnter s n mo m = .error 66) := by unfold aEnter; rw [if_pos (Or.inr hm)]; exact rfl
      clear hn hm
      go_enter Try.func37, Try.ntmps37
      go_wp2_with (go_at_call 57; refine (mode_any _ _).mono ?_; rintro e w9 ⟨rfl, hw9⟩; rw [hw9]; clear hw9 w9; rw [HM.out])
      go_ret
      exact ⟨Below.refl _ _, .inr ⟨66, HE.out, rfl⟩⟩
    | true =>
      have HM : Hid (isM mo = true) := hm
      have hno : ¬ (n < -1 ∨ isM mo = false) := by rw [hm]; simp; omega
      obtain ⟨d, hd⟩ : ∃ d, dlm m n = d := ⟨_, rfl⟩
      clear hm hn
      by_cases hp : 0 ≤ n
      · have d1 : decide (0 ≤ n) = true := by rw [decide_eq_true_eq]; exact hp
        obtain ⟨k, rfl⟩ : ∃ k : Nat, n = (k : Int) := ⟨n.toNat, by omega⟩
        have hd2 : beh m k = d := by rw [← hd]; unfold dlm; rw [if_pos hp, Int.toNat_natCast]
        have C80 : Hid (∀ W : World, Calls Try.prog 63 #[.string m, .int .i64 (k : Int)] W fun e w' => e = .returned (.string d) ∧ w' = W) := fun W => by rw [← hd2]; exact behind_any m k W
        clear hd2
        by_cases hsz : 16 < d.size
        · have y0 : decide ((16 : Int) < (d.size : Int)) = true := by rw [decide_eq_true_eq]; omega
          have y1 : decide (16 < d.size) = true := by rw [decide_eq_true_eq]; omega
          have HE : Hid (aEnter s k mo m = .error 63) := by unfold aEnter; rw [if_neg hno, hd, if_pos hsz]; exact rfl
          clear hno hd hsz hp
          go_enter Try.func37, Try.ntmps37
          go_wp2_with (first | (go_at_call 57; refine (mode_any _ _).mono ?_; rintro e w9 ⟨rfl, hw9⟩; rw [hw9]; clear hw9 w9; rw [HM.out]) | (go_at_call 63; refine (C80.out _).mono ?_; rintro e w9 ⟨rfl, hw9⟩; rw [hw9]; clear hw9 w9))
          go_ret
          exact ⟨Below.refl _ _, .inr ⟨63, HE.out, rfl⟩⟩
        have y0 : decide ((16 : Int) < (d.size : Int)) = false := by rw [decide_eq_false_iff_not]; omega
        have y1 : decide (16 < d.size) = false := by rw [decide_eq_false_iff_not]; omega
        by_cases hq : s.frm.length = 16
        · have z0 : ((s.frm.length : Int) == 16) = true := by rw [beq_iff_eq]; omega
          have z1 : (s.frm.length == 16) = true := by rw [beq_iff_eq]; omega
          have HE : Hid (aEnter s k mo m = .error 62) := by unfold aEnter; rw [if_neg hno, hd, if_neg (hsz), if_pos hq]; exact rfl
          clear hno hd hq hp
          go_enter Try.func37, Try.ntmps37
          go_wp2_with (first | (go_at_call 57; refine (mode_any _ _).mono ?_; rintro e w9 ⟨rfl, hw9⟩; rw [hw9]; clear hw9 w9; rw [HM.out]) | (go_at_call 63; refine (C80.out _).mono ?_; rintro e w9 ⟨rfl, hw9⟩; rw [hw9]; clear hw9 w9))
          go_ret
          exact ⟨Below.refl _ _, .inr ⟨62, HE.out, rfl⟩⟩
        have z0 : ((s.frm.length : Int) == 16) = false := by rw [beq_eq_false_iff_ne]; omega
        have z1 : (s.frm.length == 16) = false := by rw [beq_eq_false_iff_ne]; omega
        have HE : Hid (aEnter s k mo m = .ok { s with frm := s.frm ++ [(mo, d)] }) := by unfold aEnter; rw [if_neg hno, hd, if_neg (hsz), if_neg hq]; exact rfl
        have HDS : Hid ((d : ByteArray).size ≤ 281474976710656) := by show (d : ByteArray).size ≤ 281474976710656; omega
        clear hno hd hq hp
        go_enter Try.func37, Try.ntmps37
        go_upto_region 10 with (first | (go_at_call 57; refine (mode_any _ _).mono ?_; rintro e w9 ⟨rfl, hw9⟩; rw [hw9]; clear hw9 w9; rw [HM.out]) | (go_at_call 63; refine (C80.out _).mono ?_; rintro e w9 ⟨rfl, hw9⟩; rw [hw9]; clear hw9 w9))
        clear k0 k1 k2 k3 k4
        obtain ⟨WD, hWD⟩ : ∃ WD, W.drew = WD := ⟨_, rfl⟩
        have HMD : Hid (Nx B WD b (.slice a1 s.ind.length c1) (.slice a2 s.que.length c2) (.slice a3 s.frm.length c3) s) := by rw [← hWD]; exact HN.out.drew
        have HBD : Hid (Below B W WD) := by rw [← hWD]; exact Below.drew (Below.refl _ _)
        have k0 := HMD.out.cell 3 _ rfl
        refine wp_region_noPanic ?_
        refine wp_region_held_drew (S := fun W => True) (by kernel_rfl) (by exact trivial) (fun hHeld => ?_)
        rw [hWD]
        clear hWD
        refine wpAnyH_take (i := 0) (oi := { dst := _, op := _, type := _, pos := _, after := _, guard := _ }) (v := ?_) rfl (by kernel_rfl) (by kernel_rfl) (by kernel_rfl) (fun _ _ _ h => h) (Or.inl ⟨by rfl, ?_⟩) (by assumption) ?_
        rotate_left
        · intro W hSw
          (try dsimp only at hSw)
          go_simp
          (try with_reducible rfl)
        try simp only [Act.put, List.setIfInBounds_toArray, List.set_cons_zero, List.set_cons_succ]
        refine wpAnyH_take (i := 1) (oi := { dst := _, op := _, type := _, pos := _, after := _, guard := _ }) (v := ?_) rfl (by kernel_rfl) (by kernel_rfl) (by kernel_rfl) (fun _ _ _ h => h) (Or.inl ⟨by rfl, ?_⟩) (by assumption) ?_
        rotate_left
        · intro W hSw
          (try dsimp only at hSw)
          go_simp
          (try with_reducible rfl)
        try simp only [Act.put, List.setIfInBounds_toArray, List.set_cons_zero, List.set_cons_succ]
        refine wpAnyH_take (i := 2) (oi := { dst := _, op := _, type := _, pos := _, after := _, guard := _ }) (v := ?_) rfl (by kernel_rfl) (by kernel_rfl) (by kernel_rfl) (fun _ _ _ h => h) (Or.inl ⟨by rfl, ?_⟩) (by assumption) ?_
        rotate_left
        · intro W hSw
          (try dsimp only at hSw)
          go_simp
          (try with_reducible rfl)
        try simp only [Act.put, List.setIfInBounds_toArray, List.set_cons_zero, List.set_cons_succ]
        refine wpAnyH_take (i := 3) (oi := { dst := _, op := _, type := _, pos := _, after := _, guard := _ }) (v := ?_) rfl (by kernel_rfl) (by kernel_rfl) (by kernel_rfl) (fun _ _ _ h => h) (Or.inl ⟨by rfl, ?_⟩) (by assumption) ?_
        rotate_left
        · intro W hSw
          (try dsimp only at hSw)
          go_simp
          (try with_reducible rfl)
        try simp only [Act.put, List.setIfInBounds_toArray, List.set_cons_zero, List.set_cons_succ]
        refine wpAnyH_take (i := 5) (oi := { dst := _, op := _, type := _, pos := _, after := _, guard := _ }) (v := ?_) rfl (by kernel_rfl) (by kernel_rfl) (by kernel_rfl) (fun _ _ _ h => h) (Or.inl ⟨by rfl, ?_⟩) (by assumption) ?_
        rotate_left
        · intro W hSw
          (try dsimp only at hSw)
          go_simp
          (try with_reducible rfl)
        try simp only [Act.put, List.setIfInBounds_toArray, List.set_cons_zero, List.set_cons_succ]
        refine wpAnyH_take (i := 6) (oi := { dst := _, op := _, type := _, pos := _, after := _, guard := _ }) (v := ?_) rfl (by kernel_rfl) (by kernel_rfl) (by kernel_rfl) (fun _ _ _ h => h) (Or.inl ⟨by rfl, ?_⟩) (by assumption) ?_
        rotate_left
        · intro W hSw
          (try dsimp only at hSw)
          go_simp
          (try with_reducible rfl)
        try simp only [Act.put, List.setIfInBounds_toArray, List.set_cons_zero, List.set_cons_succ]
        refine wpAnyH_ready (rs := [4, 7]) (by kernel_rfl) (by simp) ?_
        refine AllReadyH.cons (o := { dst := _, op := _, type := _, pos := _, after := _, guard := _ }) rfl (fun K hK => ?_) (AllReadyH.cons (o := { dst := _, op := _, type := _, pos := _, after := _, guard := _ }) rfl (fun K hK => ?_) (AllReadyH.nil))
        · go_simp
          refine hK.out _ _ ?_ (fun hHeld => ?_)
          · exact trivial
          clear hK K
          try simp only [Act.put, List.setIfInBounds_toArray, List.set_cons_zero, List.set_cons_succ]
          refine wpAnyH_ready (rs := [7]) (by kernel_rfl) (by simp) ?_
          refine AllReadyH.cons (o := { dst := _, op := _, type := _, pos := _, after := _, guard := _ }) rfl (fun K hK => ?_) AllReadyH.nil
          go_simp
          refine (clone_any d _ HDS.out).mono ?_
          rintro e w6 ⟨rfl, hb6⟩
          have HM6 : Hid (Nx B w6 b (.slice a1 s.ind.length c1) (.slice a2 s.que.length c2) (.slice a3 s.frm.length c3) s) := HMD.out.up hb6
          have HB6 : Hid (Below B W w6) := HBD.out.trans (hb6.mono HMD.out.lB)
          have k6 := HM6.out.cell 3 _ rfl
          clear hb6 k0
          go_wp2_with fail
          refine hK.out _ _ ?_ (fun hHeld => ?_)
          · exact trivial
          clear hK K
          try simp only [Act.put, List.setIfInBounds_toArray, List.set_cons_zero, List.set_cons_succ]
          refine wpAnyH_take (i := 8) (oi := { dst := _, op := _, type := _, pos := _, after := _, guard := _ }) (v := ?_) rfl (by kernel_rfl) (by kernel_rfl) (by kernel_rfl) (fun _ _ _ h => h) (Or.inl ⟨by rfl, ?_⟩) (by assumption) ?_
          rotate_left
          · intro W hSw
            (try dsimp only at hSw)
            go_simp
            (try with_reducible rfl)
          try simp only [Act.put, List.setIfInBounds_toArray, List.set_cons_zero, List.set_cons_succ]
          refine wpAnyH_ready (rs := [9]) (by kernel_rfl) (by simp) ?_
          refine AllReadyH.cons (o := { dst := _, op := _, type := _, pos := _, after := _, guard := _ }) rfl (fun K hK => ?_) AllReadyH.nil
          go_simp
          refine hK.out _ _ ?_ (fun hHeld => ?_)
          · exact trivial
          clear hK K
          try simp only [Act.put, List.setIfInBounds_toArray, List.set_cons_zero, List.set_cons_succ]
          have k0a : (w6.alloc (.cells #[.int .i64 mo, .string d] 42)).cell? ⟨b, 3, none⟩ = some (.slice a3 s.frm.length c3) := cell_up _ k6
          refine wpAnyH_ready (rs := [10]) (by kernel_rfl) (by simp) ?_
          refine AllReadyH.cons (o := { dst := _, op := _, type := _, pos := _, after := _, guard := _ }) rfl (fun K hK => ?_) AllReadyH.nil
          refine step_append_lies _ rfl (.tmp 37) (.tmp 42) 24 rfl B 42 iE _ 2 24 Try.underlying24 HIE.out.1 HIE.out.2.1 HIE.out.2.2.1 HIE.out.2.2.2 rfl (by decide) (.slice a3 s.frm.length c3) _ _ rfl (HM6.out.own.f.alloc _) ⟨w6.heap.size, 0, none⟩ 1 1 [.int .i64 mo, .string d] rfl rfl (cell_two_new _ _ _ _) (by simp [Value.oneCell']) (by decide) (by have := HL.out; unfold maxLen; omega) (by have := HL.out; omega) (by have := HM6.out.lB; simp; omega) (w6.heap.size + 1) (by simp) ?_
          intro g' cap' w' h2 h3 h4 _
          have HO : Hid (w'.ownsRow B 42 2 (.slice (some ⟨g', 0, none⟩) (s.frm.length + 1) cap') (s.frm ++ [(mo, d)]).length (fC (s.frm ++ [(mo, d)]))) := by rw [fC_app, List.length_append]; exact h2
          have HG : Hid (w6.grownBy w' (Value.ownBlock (.slice a3 s.frm.length c3))) := (World.grownBy_alloc _ _ _).trans h3
          have k0b : w'.cell? ⟨b, 3, none⟩ = some (.slice a3 s.frm.length c3) := h3.cell k0a (fun e => tag_ne_blk HM6.out.own.f HM6.out.blk (by decide) e.symm)
          have f0b : w'.frozen? ⟨b, 3, none⟩ = false := Lib.frozen_of_heap ((HG.out.block b (lt_of_heap HM6.out.blk) (fun e => tag_ne_blk HM6.out.own.f HM6.out.blk (by decide) e.symm)).trans HM6.out.blk) 3
          clear h2 h3 h4 k6 k0a
          refine hK.out _ _ ?_ (fun hHeld => ?_)
          · exact trivial
          clear hK K
          try simp only [Act.put, List.setIfInBounds_toArray, List.set_cons_zero, List.set_cons_succ]
          refine wpAnyH_take (i := 11) (oi := { dst := _, op := _, type := _, pos := _, after := _, guard := _ }) (v := ?_) rfl (by kernel_rfl) (by kernel_rfl) (by kernel_rfl) (fun _ _ _ h => h) (Or.inl ⟨by rfl, ?_⟩) (by assumption) ?_
          rotate_left
          · intro W hSw
            (try dsimp only at hSw)
            go_simp
            (try with_reducible rfl)
          try simp only [Act.put, List.setIfInBounds_toArray, List.set_cons_zero, List.set_cons_succ]
          refine wpAnyH_take (i := 12) (oi := { dst := _, op := _, type := _, pos := _, after := _, guard := _ }) (v := ?_) rfl (by kernel_rfl) (by kernel_rfl) (by kernel_rfl) (fun _ _ _ h => h) (Or.inl ⟨by rfl, ?_⟩) (by assumption) ?_
          rotate_left
          · intro W hSw
            (try dsimp only at hSw)
            go_simp
            (try with_reducible rfl)
          try simp only [Act.put, List.setIfInBounds_toArray, List.set_cons_zero, List.set_cons_succ]
          refine wpAnyH_ready (rs := [13]) (by kernel_rfl) (by simp) ?_
          refine AllReadyH.cons (o := { dst := _, op := _, type := _, pos := _, after := _, guard := _ }) rfl (fun K hK => ?_) AllReadyH.nil
          go_simp
          refine hK.out _ _ ?_ (fun hHeld => ?_)
          · exact trivial
          clear hK K
          try simp only [Act.put, List.setIfInBounds_toArray, List.set_cons_zero, List.set_cons_succ]
          refine wpAnyH_done (by kernel_rfl) ?_ _
          clear hHeld k0b f0b
          refine NoPanic.normal ?_
          obtain ⟨hq1, hq2⟩ := HM6.out.appF HG.out HO.out
          have HQ1 : Hid _ := hq1
          have HQ2 : Hid _ := HB6.out.trans hq2
          clear hq1 hq2
          go_wp2_with fail
          go_ret
          exact ⟨HQ2.out, .inl ⟨_, _, _, _, HE.out, rfl, HQ1.out⟩⟩
        · go_simp
          refine (clone_any d _ HDS.out).mono ?_
          rintro e w6 ⟨rfl, hb6⟩
          have HM6 : Hid (Nx B w6 b (.slice a1 s.ind.length c1) (.slice a2 s.que.length c2) (.slice a3 s.frm.length c3) s) := HMD.out.up hb6
          have HB6 : Hid (Below B W w6) := HBD.out.trans (hb6.mono HMD.out.lB)
          have k6 := HM6.out.cell 3 _ rfl
          clear hb6 k0
          go_wp2_with fail
          refine hK.out _ _ ?_ (fun hHeld => ?_)
          · exact trivial
          clear hK K
          try simp only [Act.put, List.setIfInBounds_toArray, List.set_cons_zero, List.set_cons_succ]
          refine wpAnyH_take (i := 8) (oi := { dst := _, op := _, type := _, pos := _, after := _, guard := _ }) (v := ?_) rfl (by kernel_rfl) (by kernel_rfl) (by kernel_rfl) (fun _ _ _ h => h) (Or.inl ⟨by rfl, ?_⟩) (by assumption) ?_
          rotate_left
          · intro W hSw
            (try dsimp only at hSw)
            go_simp
            (try with_reducible rfl)
          try simp only [Act.put, List.setIfInBounds_toArray, List.set_cons_zero, List.set_cons_succ]
          refine wpAnyH_ready (rs := [4, 9]) (by kernel_rfl) (by simp) ?_
          refine AllReadyH.cons (o := { dst := _, op := _, type := _, pos := _, after := _, guard := _ }) rfl (fun K hK => ?_) (AllReadyH.cons (o := { dst := _, op := _, type := _, pos := _, after := _, guard := _ }) rfl (fun K hK => ?_) (AllReadyH.nil))
          · go_simp
            refine hK.out _ _ ?_ (fun hHeld => ?_)
            · exact trivial
            clear hK K
            try simp only [Act.put, List.setIfInBounds_toArray, List.set_cons_zero, List.set_cons_succ]
            refine wpAnyH_ready (rs := [9]) (by kernel_rfl) (by simp) ?_
            refine AllReadyH.cons (o := { dst := _, op := _, type := _, pos := _, after := _, guard := _ }) rfl (fun K hK => ?_) AllReadyH.nil
            go_simp
            refine hK.out _ _ ?_ (fun hHeld => ?_)
            · exact trivial
            clear hK K
            try simp only [Act.put, List.setIfInBounds_toArray, List.set_cons_zero, List.set_cons_succ]
            have k0a : (w6.alloc (.cells #[.int .i64 mo, .string d] 42)).cell? ⟨b, 3, none⟩ = some (.slice a3 s.frm.length c3) := cell_up _ k6
            refine wpAnyH_ready (rs := [10]) (by kernel_rfl) (by simp) ?_
            refine AllReadyH.cons (o := { dst := _, op := _, type := _, pos := _, after := _, guard := _ }) rfl (fun K hK => ?_) AllReadyH.nil
            refine step_append_lies _ rfl (.tmp 37) (.tmp 42) 24 rfl B 42 iE _ 2 24 Try.underlying24 HIE.out.1 HIE.out.2.1 HIE.out.2.2.1 HIE.out.2.2.2 rfl (by decide) (.slice a3 s.frm.length c3) _ _ rfl (HM6.out.own.f.alloc _) ⟨w6.heap.size, 0, none⟩ 1 1 [.int .i64 mo, .string d] rfl rfl (cell_two_new _ _ _ _) (by simp [Value.oneCell']) (by decide) (by have := HL.out; unfold maxLen; omega) (by have := HL.out; omega) (by have := HM6.out.lB; simp; omega) (w6.heap.size + 1) (by simp) ?_
            intro g' cap' w' h2 h3 h4 _
            have HO : Hid (w'.ownsRow B 42 2 (.slice (some ⟨g', 0, none⟩) (s.frm.length + 1) cap') (s.frm ++ [(mo, d)]).length (fC (s.frm ++ [(mo, d)]))) := by rw [fC_app, List.length_append]; exact h2
            have HG : Hid (w6.grownBy w' (Value.ownBlock (.slice a3 s.frm.length c3))) := (World.grownBy_alloc _ _ _).trans h3
            have k0b : w'.cell? ⟨b, 3, none⟩ = some (.slice a3 s.frm.length c3) := h3.cell k0a (fun e => tag_ne_blk HM6.out.own.f HM6.out.blk (by decide) e.symm)
            have f0b : w'.frozen? ⟨b, 3, none⟩ = false := Lib.frozen_of_heap ((HG.out.block b (lt_of_heap HM6.out.blk) (fun e => tag_ne_blk HM6.out.own.f HM6.out.blk (by decide) e.symm)).trans HM6.out.blk) 3
            clear h2 h3 h4 k6 k0a
            refine hK.out _ _ ?_ (fun hHeld => ?_)
            · exact trivial
            clear hK K
            try simp only [Act.put, List.setIfInBounds_toArray, List.set_cons_zero, List.set_cons_succ]
            refine wpAnyH_take (i := 11) (oi := { dst := _, op := _, type := _, pos := _, after := _, guard := _ }) (v := ?_) rfl (by kernel_rfl) (by kernel_rfl) (by kernel_rfl) (fun _ _ _ h => h) (Or.inl ⟨by rfl, ?_⟩) (by assumption) ?_
            rotate_left
            · intro W hSw
              (try dsimp only at hSw)
              go_simp
              (try with_reducible rfl)
            try simp only [Act.put, List.setIfInBounds_toArray, List.set_cons_zero, List.set_cons_succ]
            refine wpAnyH_take (i := 12) (oi := { dst := _, op := _, type := _, pos := _, after := _, guard := _ }) (v := ?_) rfl (by kernel_rfl) (by kernel_rfl) (by kernel_rfl) (fun _ _ _ h => h) (Or.inl ⟨by rfl, ?_⟩) (by assumption) ?_
            rotate_left
            · intro W hSw
              (try dsimp only at hSw)
              go_simp
              (try with_reducible rfl)
            try simp only [Act.put, List.setIfInBounds_toArray, List.set_cons_zero, List.set_cons_succ]
            refine wpAnyH_ready (rs := [13]) (by kernel_rfl) (by simp) ?_
            refine AllReadyH.cons (o := { dst := _, op := _, type := _, pos := _, after := _, guard := _ }) rfl (fun K hK => ?_) AllReadyH.nil
            go_simp
            refine hK.out _ _ ?_ (fun hHeld => ?_)
            · exact trivial
            clear hK K
            try simp only [Act.put, List.setIfInBounds_toArray, List.set_cons_zero, List.set_cons_succ]
            refine wpAnyH_done (by kernel_rfl) ?_ _
            clear hHeld k0b f0b
            refine NoPanic.normal ?_
            obtain ⟨hq1, hq2⟩ := HM6.out.appF HG.out HO.out
            have HQ1 : Hid _ := hq1
            have HQ2 : Hid _ := HB6.out.trans hq2
            clear hq1 hq2
            go_wp2_with fail
            go_ret
            exact ⟨HQ2.out, .inl ⟨_, _, _, _, HE.out, rfl, HQ1.out⟩⟩
          · go_simp
            refine hK.out _ _ ?_ (fun hHeld => ?_)
            · exact trivial
            clear hK K
            try simp only [Act.put, List.setIfInBounds_toArray, List.set_cons_zero, List.set_cons_succ]
            have k0a : (w6.alloc (.cells #[.int .i64 mo, .string d] 42)).cell? ⟨b, 3, none⟩ = some (.slice a3 s.frm.length c3) := cell_up _ k6
            refine wpAnyH_ready (rs := [4]) (by kernel_rfl) (by simp) ?_
            refine AllReadyH.cons (o := { dst := _, op := _, type := _, pos := _, after := _, guard := _ }) rfl (fun K hK => ?_) AllReadyH.nil
            go_simp
            refine hK.out _ _ ?_ (fun hHeld => ?_)
            · exact trivial
            clear hK K
            try simp only [Act.put, List.setIfInBounds_toArray, List.set_cons_zero, List.set_cons_succ]
            refine wpAnyH_ready (rs := [10]) (by kernel_rfl) (by simp) ?_
            refine AllReadyH.cons (o := { dst := _, op := _, type := _, pos := _, after := _, guard := _ }) rfl (fun K hK => ?_) AllReadyH.nil
            refine step_append_lies _ rfl (.tmp 37) (.tmp 42) 24 rfl B 42 iE _ 2 24 Try.underlying24 HIE.out.1 HIE.out.2.1 HIE.out.2.2.1 HIE.out.2.2.2 rfl (by decide) (.slice a3 s.frm.length c3) _ _ rfl (HM6.out.own.f.alloc _) ⟨w6.heap.size, 0, none⟩ 1 1 [.int .i64 mo, .string d] rfl rfl (cell_two_new _ _ _ _) (by simp [Value.oneCell']) (by decide) (by have := HL.out; unfold maxLen; omega) (by have := HL.out; omega) (by have := HM6.out.lB; simp; omega) (w6.heap.size + 1) (by simp) ?_
            intro g' cap' w' h2 h3 h4 _
            have HO : Hid (w'.ownsRow B 42 2 (.slice (some ⟨g', 0, none⟩) (s.frm.length + 1) cap') (s.frm ++ [(mo, d)]).length (fC (s.frm ++ [(mo, d)]))) := by rw [fC_app, List.length_append]; exact h2
            have HG : Hid (w6.grownBy w' (Value.ownBlock (.slice a3 s.frm.length c3))) := (World.grownBy_alloc _ _ _).trans h3
            have k0b : w'.cell? ⟨b, 3, none⟩ = some (.slice a3 s.frm.length c3) := h3.cell k0a (fun e => tag_ne_blk HM6.out.own.f HM6.out.blk (by decide) e.symm)
            have f0b : w'.frozen? ⟨b, 3, none⟩ = false := Lib.frozen_of_heap ((HG.out.block b (lt_of_heap HM6.out.blk) (fun e => tag_ne_blk HM6.out.own.f HM6.out.blk (by decide) e.symm)).trans HM6.out.blk) 3
            clear h2 h3 h4 k6 k0a
            refine hK.out _ _ ?_ (fun hHeld => ?_)
            · exact trivial
            clear hK K
            try simp only [Act.put, List.setIfInBounds_toArray, List.set_cons_zero, List.set_cons_succ]
            refine wpAnyH_take (i := 11) (oi := { dst := _, op := _, type := _, pos := _, after := _, guard := _ }) (v := ?_) rfl (by kernel_rfl) (by kernel_rfl) (by kernel_rfl) (fun _ _ _ h => h) (Or.inl ⟨by rfl, ?_⟩) (by assumption) ?_
            rotate_left
            · intro W hSw
              (try dsimp only at hSw)
              go_simp
              (try with_reducible rfl)
            try simp only [Act.put, List.setIfInBounds_toArray, List.set_cons_zero, List.set_cons_succ]
            refine wpAnyH_take (i := 12) (oi := { dst := _, op := _, type := _, pos := _, after := _, guard := _ }) (v := ?_) rfl (by kernel_rfl) (by kernel_rfl) (by kernel_rfl) (fun _ _ _ h => h) (Or.inl ⟨by rfl, ?_⟩) (by assumption) ?_
            rotate_left
            · intro W hSw
              (try dsimp only at hSw)
              go_simp
              (try with_reducible rfl)
            try simp only [Act.put, List.setIfInBounds_toArray, List.set_cons_zero, List.set_cons_succ]
            refine wpAnyH_ready (rs := [13]) (by kernel_rfl) (by simp) ?_
            refine AllReadyH.cons (o := { dst := _, op := _, type := _, pos := _, after := _, guard := _ }) rfl (fun K hK => ?_) AllReadyH.nil
            go_simp
            refine hK.out _ _ ?_ (fun hHeld => ?_)
            · exact trivial
            clear hK K
            try simp only [Act.put, List.setIfInBounds_toArray, List.set_cons_zero, List.set_cons_succ]
            refine wpAnyH_done (by kernel_rfl) ?_ _
            clear hHeld k0b f0b
            refine NoPanic.normal ?_
            obtain ⟨hq1, hq2⟩ := HM6.out.appF HG.out HO.out
            have HQ1 : Hid _ := hq1
            have HQ2 : Hid _ := HB6.out.trans hq2
            clear hq1 hq2
            go_wp2_with fail
            go_ret
            exact ⟨HQ2.out, .inl ⟨_, _, _, _, HE.out, rfl, HQ1.out⟩⟩
      · have d1 : decide (0 ≤ n) = false := by rw [decide_eq_false_iff_not]; exact hp
        have hd2 : d = ⟨#[]⟩ := by rw [← hd]; unfold dlm; rw [if_neg hp]
        subst hd2
        by_cases hq : s.frm.length = 16
        · have z0 : ((s.frm.length : Int) == 16) = true := by rw [beq_iff_eq]; omega
          have z1 : (s.frm.length == 16) = true := by rw [beq_iff_eq]; omega
          have HE : Hid (aEnter s n mo m = .error 62) := by unfold aEnter; rw [if_neg hno, hd, if_neg (by decide), if_pos hq]; exact rfl
          clear hno hd hq hp
          go_enter Try.func37, Try.ntmps37
          go_wp2_with (go_at_call 57; refine (mode_any _ _).mono ?_; rintro e w9 ⟨rfl, hw9⟩; rw [hw9]; clear hw9 w9; rw [HM.out])
          go_ret
          exact ⟨Below.refl _ _, .inr ⟨62, HE.out, rfl⟩⟩
        have z0 : ((s.frm.length : Int) == 16) = false := by rw [beq_eq_false_iff_ne]; omega
        have z1 : (s.frm.length == 16) = false := by rw [beq_eq_false_iff_ne]; omega
        have HE : Hid (aEnter s n mo m = .ok { s with frm := s.frm ++ [(mo, (⟨#[]⟩ : ByteArray))] }) := by unfold aEnter; rw [if_neg hno, hd, if_neg (by decide), if_neg hq]; exact rfl
        have HDS : Hid (((⟨#[]⟩ : ByteArray) : ByteArray).size ≤ 281474976710656) := by show ((⟨#[]⟩ : ByteArray) : ByteArray).size ≤ 281474976710656; decide
        clear hno hd hq hp
        go_enter Try.func37, Try.ntmps37
        go_upto_region 10 with (go_at_call 57; refine (mode_any _ _).mono ?_; rintro e w9 ⟨rfl, hw9⟩; rw [hw9]; clear hw9 w9; rw [HM.out])
        clear k0 k1 k2 k3 k4
        obtain ⟨WD, hWD⟩ : ∃ WD, W.drew = WD := ⟨_, rfl⟩
        have HMD : Hid (Nx B WD b (.slice a1 s.ind.length c1) (.slice a2 s.que.length c2) (.slice a3 s.frm.length c3) s) := by rw [← hWD]; exact HN.out.drew
        have HBD : Hid (Below B W WD) := by rw [← hWD]; exact Below.drew (Below.refl _ _)
        have k0 := HMD.out.cell 3 _ rfl
        refine wp_region_noPanic ?_
        refine wp_region_held_drew (S := fun W => True) (by kernel_rfl) (by exact trivial) (fun hHeld => ?_)
        rw [hWD]
        clear hWD
        refine wpAnyH_take (i := 0) (oi := { dst := _, op := _, type := _, pos := _, after := _, guard := _ }) (v := ?_) rfl (by kernel_rfl) (by kernel_rfl) (by kernel_rfl) (fun _ _ _ h => h) (Or.inl ⟨by rfl, ?_⟩) (by assumption) ?_
        rotate_left
        · intro W hSw
          (try dsimp only at hSw)
          go_simp
          (try with_reducible rfl)
        try simp only [Act.put, List.setIfInBounds_toArray, List.set_cons_zero, List.set_cons_succ]
        refine wpAnyH_take (i := 1) (oi := { dst := _, op := _, type := _, pos := _, after := _, guard := _ }) (v := ?_) rfl (by kernel_rfl) (by kernel_rfl) (by kernel_rfl) (fun _ _ _ h => h) (Or.inl ⟨by rfl, ?_⟩) (by assumption) ?_
        rotate_left
        · intro W hSw
          (try dsimp only at hSw)
          go_simp
          (try with_reducible rfl)
        try simp only [Act.put, List.setIfInBounds_toArray, List.set_cons_zero, List.set_cons_succ]
        refine wpAnyH_take (i := 2) (oi := { dst := _, op := _, type := _, pos := _, after := _, guard := _ }) (v := ?_) rfl (by kernel_rfl) (by kernel_rfl) (by kernel_rfl) (fun _ _ _ h => h) (Or.inl ⟨by rfl, ?_⟩) (by assumption) ?_
        rotate_left
        · intro W hSw
          (try dsimp only at hSw)
          go_simp
          (try with_reducible rfl)
        try simp only [Act.put, List.setIfInBounds_toArray, List.set_cons_zero, List.set_cons_succ]
        refine wpAnyH_take (i := 3) (oi := { dst := _, op := _, type := _, pos := _, after := _, guard := _ }) (v := ?_) rfl (by kernel_rfl) (by kernel_rfl) (by kernel_rfl) (fun _ _ _ h => h) (Or.inl ⟨by rfl, ?_⟩) (by assumption) ?_
        rotate_left
        · intro W hSw
          (try dsimp only at hSw)
          go_simp
          (try with_reducible rfl)
        try simp only [Act.put, List.setIfInBounds_toArray, List.set_cons_zero, List.set_cons_succ]
        refine wpAnyH_take (i := 5) (oi := { dst := _, op := _, type := _, pos := _, after := _, guard := _ }) (v := ?_) rfl (by kernel_rfl) (by kernel_rfl) (by kernel_rfl) (fun _ _ _ h => h) (Or.inl ⟨by rfl, ?_⟩) (by assumption) ?_
        rotate_left
        · intro W hSw
          (try dsimp only at hSw)
          go_simp
          (try with_reducible rfl)
        try simp only [Act.put, List.setIfInBounds_toArray, List.set_cons_zero, List.set_cons_succ]
        refine wpAnyH_take (i := 6) (oi := { dst := _, op := _, type := _, pos := _, after := _, guard := _ }) (v := ?_) rfl (by kernel_rfl) (by kernel_rfl) (by kernel_rfl) (fun _ _ _ h => h) (Or.inl ⟨by rfl, ?_⟩) (by assumption) ?_
        rotate_left
        · intro W hSw
          (try dsimp only at hSw)
          go_simp
          (try with_reducible rfl)
        try simp only [Act.put, List.setIfInBounds_toArray, List.set_cons_zero, List.set_cons_succ]
        refine wpAnyH_ready (rs := [4, 7]) (by kernel_rfl) (by simp) ?_
        refine AllReadyH.cons (o := { dst := _, op := _, type := _, pos := _, after := _, guard := _ }) rfl (fun K hK => ?_) (AllReadyH.cons (o := { dst := _, op := _, type := _, pos := _, after := _, guard := _ }) rfl (fun K hK => ?_) (AllReadyH.nil))
        · go_simp
          refine hK.out _ _ ?_ (fun hHeld => ?_)
          · exact trivial
          clear hK K
          try simp only [Act.put, List.setIfInBounds_toArray, List.set_cons_zero, List.set_cons_succ]
          refine wpAnyH_ready (rs := [7]) (by kernel_rfl) (by simp) ?_
          refine AllReadyH.cons (o := { dst := _, op := _, type := _, pos := _, after := _, guard := _ }) rfl (fun K hK => ?_) AllReadyH.nil
          go_simp
          refine (clone_any (⟨#[]⟩ : ByteArray) _ HDS.out).mono ?_
          rintro e w6 ⟨rfl, hb6⟩
          have HM6 : Hid (Nx B w6 b (.slice a1 s.ind.length c1) (.slice a2 s.que.length c2) (.slice a3 s.frm.length c3) s) := HMD.out.up hb6
          have HB6 : Hid (Below B W w6) := HBD.out.trans (hb6.mono HMD.out.lB)
          have k6 := HM6.out.cell 3 _ rfl
          clear hb6 k0
          go_wp2_with fail
          refine hK.out _ _ ?_ (fun hHeld => ?_)
          · exact trivial
          clear hK K
          try simp only [Act.put, List.setIfInBounds_toArray, List.set_cons_zero, List.set_cons_succ]
          refine wpAnyH_take (i := 8) (oi := { dst := _, op := _, type := _, pos := _, after := _, guard := _ }) (v := ?_) rfl (by kernel_rfl) (by kernel_rfl) (by kernel_rfl) (fun _ _ _ h => h) (Or.inl ⟨by rfl, ?_⟩) (by assumption) ?_
          rotate_left
          · intro W hSw
            (try dsimp only at hSw)
            go_simp
            (try with_reducible rfl)
          try simp only [Act.put, List.setIfInBounds_toArray, List.set_cons_zero, List.set_cons_succ]
          refine wpAnyH_ready (rs := [9]) (by kernel_rfl) (by simp) ?_
          refine AllReadyH.cons (o := { dst := _, op := _, type := _, pos := _, after := _, guard := _ }) rfl (fun K hK => ?_) AllReadyH.nil
          go_simp
          refine hK.out _ _ ?_ (fun hHeld => ?_)
          · exact trivial
          clear hK K
          try simp only [Act.put, List.setIfInBounds_toArray, List.set_cons_zero, List.set_cons_succ]
          have k0a : (w6.alloc (.cells #[.int .i64 mo, .string (⟨#[]⟩ : ByteArray)] 42)).cell? ⟨b, 3, none⟩ = some (.slice a3 s.frm.length c3) := cell_up _ k6
          refine wpAnyH_ready (rs := [10]) (by kernel_rfl) (by simp) ?_
          refine AllReadyH.cons (o := { dst := _, op := _, type := _, pos := _, after := _, guard := _ }) rfl (fun K hK => ?_) AllReadyH.nil
          refine step_append_lies _ rfl (.tmp 37) (.tmp 42) 24 rfl B 42 iE _ 2 24 Try.underlying24 HIE.out.1 HIE.out.2.1 HIE.out.2.2.1 HIE.out.2.2.2 rfl (by decide) (.slice a3 s.frm.length c3) _ _ rfl (HM6.out.own.f.alloc _) ⟨w6.heap.size, 0, none⟩ 1 1 [.int .i64 mo, .string (⟨#[]⟩ : ByteArray)] rfl rfl (cell_two_new _ _ _ _) (by simp [Value.oneCell']) (by decide) (by have := HL.out; unfold maxLen; omega) (by have := HL.out; omega) (by have := HM6.out.lB; simp; omega) (w6.heap.size + 1) (by simp) ?_
          intro g' cap' w' h2 h3 h4 _
          have HO : Hid (w'.ownsRow B 42 2 (.slice (some ⟨g', 0, none⟩) (s.frm.length + 1) cap') (s.frm ++ [(mo, (⟨#[]⟩ : ByteArray))]).length (fC (s.frm ++ [(mo, (⟨#[]⟩ : ByteArray))]))) := by rw [fC_app, List.length_append]; exact h2
          have HG : Hid (w6.grownBy w' (Value.ownBlock (.slice a3 s.frm.length c3))) := (World.grownBy_alloc _ _ _).trans h3
          have k0b : w'.cell? ⟨b, 3, none⟩ = some (.slice a3 s.frm.length c3) := h3.cell k0a (fun e => tag_ne_blk HM6.out.own.f HM6.out.blk (by decide) e.symm)
          have f0b : w'.frozen? ⟨b, 3, none⟩ = false := Lib.frozen_of_heap ((HG.out.block b (lt_of_heap HM6.out.blk) (fun e => tag_ne_blk HM6.out.own.f HM6.out.blk (by decide) e.symm)).trans HM6.out.blk) 3
          clear h2 h3 h4 k6 k0a
          refine hK.out _ _ ?_ (fun hHeld => ?_)
          · exact trivial
          clear hK K
          try simp only [Act.put, List.setIfInBounds_toArray, List.set_cons_zero, List.set_cons_succ]
          refine wpAnyH_take (i := 11) (oi := { dst := _, op := _, type := _, pos := _, after := _, guard := _ }) (v := ?_) rfl (by kernel_rfl) (by kernel_rfl) (by kernel_rfl) (fun _ _ _ h => h) (Or.inl ⟨by rfl, ?_⟩) (by assumption) ?_
          rotate_left
          · intro W hSw
            (try dsimp only at hSw)
            go_simp
            (try with_reducible rfl)
          try simp only [Act.put, List.setIfInBounds_toArray, List.set_cons_zero, List.set_cons_succ]
          refine wpAnyH_take (i := 12) (oi := { dst := _, op := _, type := _, pos := _, after := _, guard := _ }) (v := ?_) rfl (by kernel_rfl) (by kernel_rfl) (by kernel_rfl) (fun _ _ _ h => h) (Or.inl ⟨by rfl, ?_⟩) (by assumption) ?_
          rotate_left
          · intro W hSw
            (try dsimp only at hSw)
            go_simp
            (try with_reducible rfl)
          try simp only [Act.put, List.setIfInBounds_toArray, List.set_cons_zero, List.set_cons_succ]
          refine wpAnyH_ready (rs := [13]) (by kernel_rfl) (by simp) ?_
          refine AllReadyH.cons (o := { dst := _, op := _, type := _, pos := _, after := _, guard := _ }) rfl (fun K hK => ?_) AllReadyH.nil
          go_simp
          refine hK.out _ _ ?_ (fun hHeld => ?_)
          · exact trivial
          clear hK K
          try simp only [Act.put, List.setIfInBounds_toArray, List.set_cons_zero, List.set_cons_succ]
          refine wpAnyH_done (by kernel_rfl) ?_ _
          clear hHeld k0b f0b
          refine NoPanic.normal ?_
          obtain ⟨hq1, hq2⟩ := HM6.out.appF HG.out HO.out
          have HQ1 : Hid _ := hq1
          have HQ2 : Hid _ := HB6.out.trans hq2
          clear hq1 hq2
          go_wp2_with fail
          go_ret
          exact ⟨HQ2.out, .inl ⟨_, _, _, _, HE.out, rfl, HQ1.out⟩⟩
        · go_simp
          refine (clone_any (⟨#[]⟩ : ByteArray) _ HDS.out).mono ?_
          rintro e w6 ⟨rfl, hb6⟩
          have HM6 : Hid (Nx B w6 b (.slice a1 s.ind.length c1) (.slice a2 s.que.length c2) (.slice a3 s.frm.length c3) s) := HMD.out.up hb6
          have HB6 : Hid (Below B W w6) := HBD.out.trans (hb6.mono HMD.out.lB)
          have k6 := HM6.out.cell 3 _ rfl
          clear hb6 k0
          go_wp2_with fail
          refine hK.out _ _ ?_ (fun hHeld => ?_)
          · exact trivial
          clear hK K
          try simp only [Act.put, List.setIfInBounds_toArray, List.set_cons_zero, List.set_cons_succ]
          refine wpAnyH_take (i := 8) (oi := { dst := _, op := _, type := _, pos := _, after := _, guard := _ }) (v := ?_) rfl (by kernel_rfl) (by kernel_rfl) (by kernel_rfl) (fun _ _ _ h => h) (Or.inl ⟨by rfl, ?_⟩) (by assumption) ?_
          rotate_left
          · intro W hSw
            (try dsimp only at hSw)
            go_simp
            (try with_reducible rfl)
          try simp only [Act.put, List.setIfInBounds_toArray, List.set_cons_zero, List.set_cons_succ]
          refine wpAnyH_ready (rs := [4, 9]) (by kernel_rfl) (by simp) ?_
          refine AllReadyH.cons (o := { dst := _, op := _, type := _, pos := _, after := _, guard := _ }) rfl (fun K hK => ?_) (AllReadyH.cons (o := { dst := _, op := _, type := _, pos := _, after := _, guard := _ }) rfl (fun K hK => ?_) (AllReadyH.nil))
          · go_simp
            refine hK.out _ _ ?_ (fun hHeld => ?_)
            · exact trivial
            clear hK K
            try simp only [Act.put, List.setIfInBounds_toArray, List.set_cons_zero, List.set_cons_succ]
            refine wpAnyH_ready (rs := [9]) (by kernel_rfl) (by simp) ?_
            refine AllReadyH.cons (o := { dst := _, op := _, type := _, pos := _, after := _, guard := _ }) rfl (fun K hK => ?_) AllReadyH.nil
            go_simp
            refine hK.out _ _ ?_ (fun hHeld => ?_)
            · exact trivial
            clear hK K
            try simp only [Act.put, List.setIfInBounds_toArray, List.set_cons_zero, List.set_cons_succ]
            have k0a : (w6.alloc (.cells #[.int .i64 mo, .string (⟨#[]⟩ : ByteArray)] 42)).cell? ⟨b, 3, none⟩ = some (.slice a3 s.frm.length c3) := cell_up _ k6
            refine wpAnyH_ready (rs := [10]) (by kernel_rfl) (by simp) ?_
            refine AllReadyH.cons (o := { dst := _, op := _, type := _, pos := _, after := _, guard := _ }) rfl (fun K hK => ?_) AllReadyH.nil
            refine step_append_lies _ rfl (.tmp 37) (.tmp 42) 24 rfl B 42 iE _ 2 24 Try.underlying24 HIE.out.1 HIE.out.2.1 HIE.out.2.2.1 HIE.out.2.2.2 rfl (by decide) (.slice a3 s.frm.length c3) _ _ rfl (HM6.out.own.f.alloc _) ⟨w6.heap.size, 0, none⟩ 1 1 [.int .i64 mo, .string (⟨#[]⟩ : ByteArray)] rfl rfl (cell_two_new _ _ _ _) (by simp [Value.oneCell']) (by decide) (by have := HL.out; unfold maxLen; omega) (by have := HL.out; omega) (by have := HM6.out.lB; simp; omega) (w6.heap.size + 1) (by simp) ?_
            intro g' cap' w' h2 h3 h4 _
            have HO : Hid (w'.ownsRow B 42 2 (.slice (some ⟨g', 0, none⟩) (s.frm.length + 1) cap') (s.frm ++ [(mo, (⟨#[]⟩ : ByteArray))]).length (fC (s.frm ++ [(mo, (⟨#[]⟩ : ByteArray))]))) := by rw [fC_app, List.length_append]; exact h2
            have HG : Hid (w6.grownBy w' (Value.ownBlock (.slice a3 s.frm.length c3))) := (World.grownBy_alloc _ _ _).trans h3
            have k0b : w'.cell? ⟨b, 3, none⟩ = some (.slice a3 s.frm.length c3) := h3.cell k0a (fun e => tag_ne_blk HM6.out.own.f HM6.out.blk (by decide) e.symm)
            have f0b : w'.frozen? ⟨b, 3, none⟩ = false := Lib.frozen_of_heap ((HG.out.block b (lt_of_heap HM6.out.blk) (fun e => tag_ne_blk HM6.out.own.f HM6.out.blk (by decide) e.symm)).trans HM6.out.blk) 3
            clear h2 h3 h4 k6 k0a
            refine hK.out _ _ ?_ (fun hHeld => ?_)
            · exact trivial
            clear hK K
            try simp only [Act.put, List.setIfInBounds_toArray, List.set_cons_zero, List.set_cons_succ]
            refine wpAnyH_take (i := 11) (oi := { dst := _, op := _, type := _, pos := _, after := _, guard := _ }) (v := ?_) rfl (by kernel_rfl) (by kernel_rfl) (by kernel_rfl) (fun _ _ _ h => h) (Or.inl ⟨by rfl, ?_⟩) (by assumption) ?_
            rotate_left
            · intro W hSw
              (try dsimp only at hSw)
              go_simp
              (try with_reducible rfl)
            try simp only [Act.put, List.setIfInBounds_toArray, List.set_cons_zero, List.set_cons_succ]
            refine wpAnyH_take (i := 12) (oi := { dst := _, op := _, type := _, pos := _, after := _, guard := _ }) (v := ?_) rfl (by kernel_rfl) (by kernel_rfl) (by kernel_rfl) (fun _ _ _ h => h) (Or.inl ⟨by rfl, ?_⟩) (by assumption) ?_
            rotate_left
            · intro W hSw
              (try dsimp only at hSw)
              go_simp
              (try with_reducible rfl)
            try simp only [Act.put, List.setIfInBounds_toArray, List.set_cons_zero, List.set_cons_succ]
            refine wpAnyH_ready (rs := [13]) (by kernel_rfl) (by simp) ?_
            refine AllReadyH.cons (o := { dst := _, op := _, type := _, pos := _, after := _, guard := _ }) rfl (fun K hK => ?_) AllReadyH.nil
            go_simp
            refine hK.out _ _ ?_ (fun hHeld => ?_)
            · exact trivial
            clear hK K
            try simp only [Act.put, List.setIfInBounds_toArray, List.set_cons_zero, List.set_cons_succ]
            refine wpAnyH_done (by kernel_rfl) ?_ _
            clear hHeld k0b f0b
            refine NoPanic.normal ?_
            obtain ⟨hq1, hq2⟩ := HM6.out.appF HG.out HO.out
            have HQ1 : Hid _ := hq1
            have HQ2 : Hid _ := HB6.out.trans hq2
            clear hq1 hq2
            go_wp2_with fail
            go_ret
            exact ⟨HQ2.out, .inl ⟨_, _, _, _, HE.out, rfl, HQ1.out⟩⟩
          · go_simp
            refine hK.out _ _ ?_ (fun hHeld => ?_)
            · exact trivial
            clear hK K
            try simp only [Act.put, List.setIfInBounds_toArray, List.set_cons_zero, List.set_cons_succ]
            have k0a : (w6.alloc (.cells #[.int .i64 mo, .string (⟨#[]⟩ : ByteArray)] 42)).cell? ⟨b, 3, none⟩ = some (.slice a3 s.frm.length c3) := cell_up _ k6
            refine wpAnyH_ready (rs := [4]) (by kernel_rfl) (by simp) ?_
            refine AllReadyH.cons (o := { dst := _, op := _, type := _, pos := _, after := _, guard := _ }) rfl (fun K hK => ?_) AllReadyH.nil
            go_simp
            refine hK.out _ _ ?_ (fun hHeld => ?_)
            · exact trivial
            clear hK K
            try simp only [Act.put, List.setIfInBounds_toArray, List.set_cons_zero, List.set_cons_succ]
            refine wpAnyH_ready (rs := [10]) (by kernel_rfl) (by simp) ?_
            refine AllReadyH.cons (o := { dst := _, op := _, type := _, pos := _, after := _, guard := _ }) rfl (fun K hK => ?_) AllReadyH.nil
            refine step_append_lies _ rfl (.tmp 37) (.tmp 42) 24 rfl B 42 iE _ 2 24 Try.underlying24 HIE.out.1 HIE.out.2.1 HIE.out.2.2.1 HIE.out.2.2.2 rfl (by decide) (.slice a3 s.frm.length c3) _ _ rfl (HM6.out.own.f.alloc _) ⟨w6.heap.size, 0, none⟩ 1 1 [.int .i64 mo, .string (⟨#[]⟩ : ByteArray)] rfl rfl (cell_two_new _ _ _ _) (by simp [Value.oneCell']) (by decide) (by have := HL.out; unfold maxLen; omega) (by have := HL.out; omega) (by have := HM6.out.lB; simp; omega) (w6.heap.size + 1) (by simp) ?_
            intro g' cap' w' h2 h3 h4 _
            have HO : Hid (w'.ownsRow B 42 2 (.slice (some ⟨g', 0, none⟩) (s.frm.length + 1) cap') (s.frm ++ [(mo, (⟨#[]⟩ : ByteArray))]).length (fC (s.frm ++ [(mo, (⟨#[]⟩ : ByteArray))]))) := by rw [fC_app, List.length_append]; exact h2
            have HG : Hid (w6.grownBy w' (Value.ownBlock (.slice a3 s.frm.length c3))) := (World.grownBy_alloc _ _ _).trans h3
            have k0b : w'.cell? ⟨b, 3, none⟩ = some (.slice a3 s.frm.length c3) := h3.cell k0a (fun e => tag_ne_blk HM6.out.own.f HM6.out.blk (by decide) e.symm)
            have f0b : w'.frozen? ⟨b, 3, none⟩ = false := Lib.frozen_of_heap ((HG.out.block b (lt_of_heap HM6.out.blk) (fun e => tag_ne_blk HM6.out.own.f HM6.out.blk (by decide) e.symm)).trans HM6.out.blk) 3
            clear h2 h3 h4 k6 k0a
            refine hK.out _ _ ?_ (fun hHeld => ?_)
            · exact trivial
            clear hK K
            try simp only [Act.put, List.setIfInBounds_toArray, List.set_cons_zero, List.set_cons_succ]
            refine wpAnyH_take (i := 11) (oi := { dst := _, op := _, type := _, pos := _, after := _, guard := _ }) (v := ?_) rfl (by kernel_rfl) (by kernel_rfl) (by kernel_rfl) (fun _ _ _ h => h) (Or.inl ⟨by rfl, ?_⟩) (by assumption) ?_
            rotate_left
            · intro W hSw
              (try dsimp only at hSw)
              go_simp
              (try with_reducible rfl)
            try simp only [Act.put, List.setIfInBounds_toArray, List.set_cons_zero, List.set_cons_succ]
            refine wpAnyH_take (i := 12) (oi := { dst := _, op := _, type := _, pos := _, after := _, guard := _ }) (v := ?_) rfl (by kernel_rfl) (by kernel_rfl) (by kernel_rfl) (fun _ _ _ h => h) (Or.inl ⟨by rfl, ?_⟩) (by assumption) ?_
            rotate_left
            · intro W hSw
              (try dsimp only at hSw)
              go_simp
              (try with_reducible rfl)
            try simp only [Act.put, List.setIfInBounds_toArray, List.set_cons_zero, List.set_cons_succ]
            refine wpAnyH_ready (rs := [13]) (by kernel_rfl) (by simp) ?_
            refine AllReadyH.cons (o := { dst := _, op := _, type := _, pos := _, after := _, guard := _ }) rfl (fun K hK => ?_) AllReadyH.nil
            go_simp
            refine hK.out _ _ ?_ (fun hHeld => ?_)
            · exact trivial
            clear hK K
            try simp only [Act.put, List.setIfInBounds_toArray, List.set_cons_zero, List.set_cons_succ]
            refine wpAnyH_done (by kernel_rfl) ?_ _
            clear hHeld k0b f0b
            refine NoPanic.normal ?_
            obtain ⟨hq1, hq2⟩ := HM6.out.appF HG.out HO.out
            have HQ1 : Hid _ := hq1
            have HQ2 : Hid _ := HB6.out.trans hq2
            clear hq1 hq2
            go_wp2_with fail
            go_ret
            exact ⟨HQ2.out, .inl ⟨_, _, _, _, HE.out, rfl, HQ1.out⟩⟩
end Go.Proofs.Ytkaciochlemjiab
