import Derived.Test.YteaanieohcanlaaDoorRwb
namespace Go.Proofs.YteaanieohcanlaaDoor
open Go.RowKit Go.Maps

theorem dig_mem : ∀ n : Fin 256, (⟨#[48, 49, 50, 51, 52, 53, 54, 55, 56, 57]⟩ : ByteArray).data.toList.contains (UInt8.ofNat n.val) = isD (n.val : Int) := by decide +kernel
theorem dig_con (x : UInt8) : (⟨#[48, 49, 50, 51, 52, 53, 54, 55, 56, 57]⟩ : ByteArray).data.toList.contains x = isD (nI x) := by
  have h := dig_mem ⟨x.toNat, UInt8.toNat_lt x⟩
  simp only [UInt8.ofNat_toNat] at h
  exact h
theorem ld_mem : ∀ n : Fin 256, (⟨#[65, 66, 67, 68, 69, 70, 71, 72, 73, 74, 75, 76, 77, 78, 79, 80, 81, 82, 83, 84, 85, 86, 87, 88, 89, 90, 97, 98, 99, 100, 101, 102, 103, 104, 105, 106, 107, 108, 109, 110, 111, 112, 113, 114, 115, 116, 117, 118, 119, 120, 121, 122, 95, 48, 49, 50, 51, 52, 53, 54, 55, 56, 57]⟩ : ByteArray).data.toList.contains (UInt8.ofNat n.val) = isN (n.val : Int) := by decide +kernel
theorem ld_con (x : UInt8) : (⟨#[65, 66, 67, 68, 69, 70, 71, 72, 73, 74, 75, 76, 77, 78, 79, 80, 81, 82, 83, 84, 85, 86, 87, 88, 89, 90, 97, 98, 99, 100, 101, 102, 103, 104, 105, 106, 107, 108, 109, 110, 111, 112, 113, 114, 115, 116, 117, 118, 119, 120, 121, 122, 95, 48, 49, 50, 51, 52, 53, 54, 55, 56, 57]⟩ : ByteArray).data.toList.contains x = isN (nI x) := by
  have h := ld_mem ⟨x.toNat, UInt8.toNat_lt x⟩
  simp only [UInt8.ofNat_toNat] at h
  exact h
theorem sgn_mem : ∀ n : Fin 256, (⟨#[123, 125, 40, 41, 124, 42, 43, 63, 58, 59, 44, 61, 64]⟩ : ByteArray).data.toList.contains (UInt8.ofNat n.val) = isS (n.val : Int) := by decide +kernel
theorem sgn_con (x : UInt8) : (⟨#[123, 125, 40, 41, 124, 42, 43, 63, 58, 59, 44, 61, 64]⟩ : ByteArray).data.toList.contains x = isS (nI x) := by
  have h := sgn_mem ⟨x.toNat, UInt8.toNat_lt x⟩
  simp only [UInt8.ofNat_toNat] at h
  exact h
theorem nat_beq (a b : Nat) : ((a : Int) == (b : Int)) = decide (a = b) := by
  by_cases h : a = b
  · subst h; simp
  · rw [decide_eq_false h, beq_eq_false_iff_ne]; omega
theorem rgI_beq (o : Option Nat) (n : Nat) : (rgI 0 o == ((n + 2 : Nat) : Int)) = decide (o = some (n + 2)) := by
  cases o with
  | none =>
    rw [decide_eq_false (by simp), beq_eq_false_iff_ne]
    show (0 : Int) ≠ _
    omega
  | some m =>
    show (((0 + m : Nat) : Int) == ((n + 2 : Nat) : Int)) = _
    rw [nat_beq, Nat.zero_add]
    by_cases h : m = n + 2
    · subst h; simp
    · rw [decide_eq_false h, decide_eq_false (by simpa using h)]
theorem tw_len (p : Int → Bool) (l : List UInt8) : decide (tw p l = l.length) = l.all (fun y => p (nI y)) := by
  by_cases h : tw p l = l.length
  · rw [decide_eq_true h]
    have := tw_all p l
    rw [h, List.take_length] at this
    symm
    rw [List.all_eq_true]
    exact this
  · rw [decide_eq_false h]
    symm
    rw [Bool.eq_false_iff]
    intro h2
    rw [List.all_eq_true] at h2
    have := tw_app p l [] h2
    rw [List.append_nil] at this
    have e : tw p [] = 0 := by have := tw_le p []; simpa using this
    omega
set_option maxRecDepth 100000 in
set_option maxHeartbeats 8000000 in
theorem rsound_any (x : Wd) (hx : x.t.length ≤ 100000000000) (w : World) : Calls Tryd.prog 25 #[.agg #[.int .i64 x.k, .string ⟨x.t.toArray⟩, .int .i64 x.n, .int .i64 x.a]] w fun e w' => e = .returned (.bool (snd x)) ∧ Below w.heap.size w w' := by
  obtain ⟨xk, xt, xn, xa⟩ := x
  simp only at hx ⊢
  obtain ⟨T, hT⟩ : ∃ T : ByteArray, ⟨xt.toArray⟩ = T := ⟨_, rfl⟩
  have hTL : T.data.toList = xt := by rw [← hT]
  have hTS : T.size = xt.length := by rw [← lst_siz, hTL]
  obtain ⟨V, hV⟩ : ∃ V, snd ⟨xk, xt, xn, xa⟩ = V := ⟨_, rfl⟩
  rw [hV, hT]
  have hV2 : V = if xk = 1 then snm xt else if xk = 2 then true else if xk = 3 then srx xt else if xk = 4 then decide (0 ≤ xn) && decide (xn ≤ 65535) else if xk = 5 then ssg xt else false := by rw [← hV]; rfl
  clear hV
  obtain ⟨w1, hw1⟩ : ∃ w1, w1 = w.alloc (.cells #[.int .i64 xk, .string T, .int .i64 xn, .int .i64 xa] 32) := ⟨_, rfl⟩
  have HB1 : Hid (Below w.heap.size w w1) := by rw [hw1]; exact bel_up _ _
  have HW1 : Hid (w1 = w.alloc (.cells #[.int .i64 xk, .string T, .int .i64 xn, .int .i64 xa] 32)) := hw1
  have hb := heap_new w (.cells #[.int .i64 xk, .string T, .int .i64 xn, .int .i64 xa] 32)
  rw [← hw1] at hb
  have q0 : w1.cell? ⟨w.heap.size, 0, none⟩ = some (.int .i64 xk) := by rw [Lib.cell_of_heap hb]; rfl
  have q1 : w1.cell? ⟨w.heap.size, 1, none⟩ = some (.string T) := by rw [Lib.cell_of_heap hb]; rfl
  have q2 : w1.cell? ⟨w.heap.size, 2, none⟩ = some (.int .i64 xn) := by rw [Lib.cell_of_heap hb]; rfl
  clear hw1 hb hT
  go_enter Tryd.func25, Tryd.ntmps25
  go_upto_region 1 with fail
  rw [← HW1.out]
  clear HW1
  by_cases c1 : xk = 1
  · subst c1
    rw [if_pos rfl] at hV2
    by_cases z0 : T.size = 0
    · have d0 : decide ((0 : Int) < (T.size : Int)) = false := by rw [decide_eq_false_iff_not]; omega
      have : V = false := by rw [hV2]; unfold snm; rw [decide_eq_false (by omega)]; rfl
      subst this
      clear hV2
      go_wp2_with fail
      go_ret
      exact ⟨rfl, HB1.out⟩
    · have d0 : decide ((0 : Int) < (T.size : Int)) = true := by rw [decide_eq_true_iff]; omega
      by_cases z1 : T.size ≤ 24
      · have d1 : decide ((T.size : Int) ≤ 24) = true := by rw [decide_eq_true_iff]; omega
        go_wp2_with fail
        have hlt : 0 < T.size := by omega
        have hg : xt.getD 0 0 = T[0]'hlt := by rw [← get_bang T 0 hlt, ← getD_get T hlt, hTL]
        refine Calls.mono (in_any ⟨#[48, 49, 50, 51, 52, 53, 54, 55, 56, 57]⟩ (T[0]'(by omega)) (by decide) w1) ?_
        rintro e w9 ⟨rfl, hw9⟩
        rw [hw9, dig_con]
        clear hw9 w9
        have hV3 : V = (!isD (nI (T[0]'(by omega))) && xt.all (fun y => isN (nI y))) := by rw [hV2]; unfold snm; rw [decide_eq_true (p := 0 < xt.length) (by omega), decide_eq_true (p := xt.length ≤ 24) (by omega), hg, Bool.true_and, Bool.true_and]
        obtain ⟨D, hD⟩ : ∃ D, isD (nI (T[0]'(by omega))) = D := ⟨_, rfl⟩
        rw [hD] at hV3 ⊢
        clear hV2 hg
        cases D with
        | true =>
          rw [Bool.not_true, Bool.false_and] at hV3
          subst hV3
          go_wp2_with fail
          go_ret
          exact ⟨rfl, HB1.out⟩
        | false =>
          rw [Bool.not_false, Bool.true_and, ← tw_len] at hV3
          have HC : Hid _ := rrun_any T ⟨#[65, 66, 67, 68, 69, 70, 71, 72, 73, 74, 75, 76, 77, 78, 79, 80, 81, 82, 83, 84, 85, 86, 87, 88, 89, 90, 97, 98, 99, 100, 101, 102, 103, 104, 105, 106, 107, 108, 109, 110, 111, 112, 113, 114, 115, 116, 117, 118, 119, 120, 121, 122, 95, 48, 49, 50, 51, 52, 53, 54, 55, 56, 57]⟩ 0 isN ld_con (by omega) (by omega) (by decide) w1
          rw [hTL, List.drop_zero] at HC
          subst hV3
          go_wp2_with fail
          refine Calls.mono HC.out ?_
          rintro e w9 ⟨rfl, hw9⟩
          rw [hw9]
          clear hw9 w9
          go_wp2_with fail
          go_ret
          refine ⟨?_, HB1.out⟩
          show Ending.returned (.bool (((tw isN xt : Nat) : Int) == (xt.length : Int))) = _
          rw [nat_beq]
      · have d1 : decide ((T.size : Int) ≤ 24) = false := by rw [decide_eq_false_iff_not]; omega
        have : V = false := by rw [hV2]; unfold snm; rw [decide_eq_false (p := xt.length ≤ 24) (by omega)]; simp
        subst this
        clear hV2
        go_wp2_with fail
        go_ret
        exact ⟨rfl, HB1.out⟩
  · rw [if_neg c1] at hV2
    by_cases c2 : xk = 2
    · subst c2
      rw [if_pos rfl] at hV2
      subst hV2
      go_wp2_with fail
      go_ret
      exact ⟨rfl, HB1.out⟩
    · rw [if_neg c2] at hV2
      by_cases c3 : xk = 3
      · subst c3
        rw [if_pos rfl] at hV2
        go_wp2_with fail
        obtain ⟨S, hS⟩ : ∃ S : ByteArray, (⟨#[47]⟩ ++ T ++ ⟨#[47]⟩ : ByteArray) = S := ⟨_, rfl⟩
        have hSL : S.data.toList = 47 :: (xt ++ [47]) := by rw [← hS]; simp [hTL]
        have hSS : S.size = xt.length + 2 := by rw [← lst_siz, hSL]; simp
        rw [hS]
        refine Calls.mono (rregex_any S 0 (by omega) (by omega) w1) ?_
        rintro e w9 ⟨rfl, hw9⟩
        rw [hw9, hSL, Nat.zero_add, List.drop_succ_cons, List.drop_zero]
        clear hw9 w9
        go_wp2_with fail
        go_ret
        refine ⟨?_, HB1.out⟩
        show Ending.returned (.bool (rgI 0 (rg false (xt ++ [47]) 1) == ((xt.length : Int) + 2))) = _
        rw [hV2, show ((xt.length : Int) + 2) = ((xt.length + 2 : Nat) : Int) by omega, rgI_beq]
        rfl
      · rw [if_neg c3] at hV2
        by_cases c4 : xk = 4
        · subst c4
          rw [if_pos rfl] at hV2
          by_cases n0 : 0 ≤ xn
          · have d0 : decide (0 ≤ xn) = true := decide_eq_true n0
            rw [d0, Bool.true_and] at hV2
            subst hV2
            clear n0
            go_wp2_with fail
            go_ret
            exact ⟨rfl, HB1.out⟩
          · have d0 : decide (0 ≤ xn) = false := decide_eq_false n0
            rw [d0, Bool.false_and] at hV2
            subst hV2
            clear n0
            go_wp2_with fail
            go_ret
            exact ⟨rfl, HB1.out⟩
        · rw [if_neg c4] at hV2
          by_cases c5 : xk = 5
          · subst c5
            rw [if_pos rfl] at hV2
            by_cases l1 : T.size = 1
            · have d1 : ((T.size : Int) == 1) = true := by rw [beq_iff_eq]; omega
              go_wp2_with fail
              obtain ⟨c, hc⟩ : ∃ c, T[0]'(by omega) = c := ⟨_, rfl⟩
              have hg : xt.getD 0 0 = c := by rw [← hc, ← hTL, getD_get T (by omega), get_bang T 0 (by omega)]
              rw [hc]
              refine Calls.mono (in_any ⟨#[123, 125, 40, 41, 124, 42, 43, 63, 58, 59, 44, 61, 64]⟩ c (by decide) w1) ?_
              rintro e w9 ⟨rfl, hw9⟩
              rw [hw9, sgn_con]
              clear hw9 w9
              have hV3 : V = isS (nI c) := by rw [hV2]; unfold ssg; rw [decide_eq_true (p := xt.length = 1) (by omega), hg, Bool.true_and]
              subst hV3
              clear hV2
              go_wp2_with fail
              go_ret
              exact ⟨rfl, HB1.out⟩
            · have d1 : ((T.size : Int) == 1) = false := by rw [beq_eq_false_iff_ne]; omega
              have : V = false := by rw [hV2]; unfold ssg; rw [decide_eq_false (by omega)]; rfl
              subst this
              clear hV2
              go_wp2_with fail
              go_ret
              exact ⟨rfl, HB1.out⟩
          · rw [if_neg c5] at hV2
            have b1 : (xk == 1) = false := by rw [beq_eq_false_iff_ne]; exact c1
            have b2 : (xk == 2) = false := by rw [beq_eq_false_iff_ne]; exact c2
            have b3 : (xk == 3) = false := by rw [beq_eq_false_iff_ne]; exact c3
            have b4 : (xk == 4) = false := by rw [beq_eq_false_iff_ne]; exact c4
            have b5 : (xk == 5) = false := by rw [beq_eq_false_iff_ne]; exact c5
            subst hV2
            go_wp2_with fail
            go_ret
            exact ⟨rfl, HB1.out⟩
end Go.Proofs.YteaanieohcanlaaDoor
