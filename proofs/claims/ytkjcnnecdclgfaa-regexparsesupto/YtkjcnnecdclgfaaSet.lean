import Derived.Test.YtkjcnnecdclgfaaRuns
namespace Go.Proofs.Ytkjcnnecdclgfaa
open Go.RowKit
theorem st_app2 (k : Array UInt8) (l : List UInt8) : ByteArray.mk k ++ ByteArray.mk l.toArray = ⟨(k.toList ++ l).toArray⟩ := by
  apply ByteArray.ext
  simp
set_option maxRecDepth 100000 in
set_option maxHeartbeats 1000000 in
theorem set_any (m : Nat → Bool) (w : World) : Calls Try.prog 19 #[CV m] w fun e w' => e = .returned (ST (cst m)) ∧ Below w.heap.size w w' := by
  have A := BoxC.new w m 32
  have HA : Hid _ := A
  obtain ⟨a0, a1, a2, a3, af⟩ := A
  go_enter Try.func19, Try.ntmps19
  go_wp2_with fail
  refine (size_any m _).mono ?_
  rintro e w1 ⟨rfl, hb1⟩
  have HX1 := HA.out.mono hb1
  have HX : Hid _ := HX1
  have HB : Hid _ := below_trans (bel_up _ _) hb1
  clear a0 a1 a2 a3 af hb1 HA
  obtain ⟨n, hn⟩ : ∃ n, n = cnt m 256 := ⟨_, rfl⟩
  rw [← hn]
  have HN : Hid _ := hn
  have hle : n ≤ 256 := by rw [hn]; exact cnt_le m 256
  have HL : Hid _ := hle
  clear hn hle
  obtain ⟨a0, a1, a2, a3, af⟩ := HX1
  by_cases h1 : n = 1
  · have e1 : ((n : Int) == 1) = true := by rw [beq_iff_eq]; omega
    have hc : cst m = spl (sk m true 0) sgn := by unfold cst; rw [if_pos (by rw [← HN.out]; exact h1)]
    have HCST : Hid _ := hc
    have hsk : sk m true 0 < 256 := by
      rcases Nat.lt_or_ge (sk m true 0) 256 with h | h
      · exact h
      · exfalso
        have h0 : ∀ k, k ≤ 256 → cnt m k = 0 := by
          intro k
          induction k with
          | zero => intro _; rfl
          | succ k ih =>
            intro hk
            have := (sk_ok m true 0).no k (by omega) (by omega)
            unfold cnt
            rw [ih (by omega)]
            cases hm : m k
            · rfl
            · exact absurd hm this
        have := h0 256 (by omega)
        rw [← HN.out] at this
        omega
    have HSK : Hid _ := hsk
    clear h1 hc hsk
    go_wp2_with fail
    go_loopg [4] (sk m true 0) (fun g v wr => ∃ k : Nat, v = .int .i64 (k : Int) ∧ k ≤ sk m true 0 ∧ g = sk m true 0 - k ∧ BoxC wr w.heap.size m ∧ Below w.heap.size w wr)
    case atStart => exact ⟨0, rfl, by omega, rfl, HX.out, HB.out⟩
    case round =>
      clear a0 a1 a2 a3 af
      obtain ⟨k, rfl, hk, hg, hx, hbel⟩ := hrel
      have HK : Hid _ := hk
      have HG : Hid _ := hg
      have HX2 : Hid _ := hx
      have HB2 : Hid _ := hbel
      obtain ⟨a0, a1, a2, a3, af⟩ := hx
      clear hk hg hbel
      go_wp2_with fail
      refine (in_any m k (by have := HK.out; have := HSK.out; omega) _).mono ?_
      rintro e w2 ⟨rfl, hb2⟩
      have HB3 : Hid _ := below_trans HB2.out hb2
      have HX3 : Hid _ := HX2.out.mono hb2
      clear a0 a1 a2 a3 af hb2
      cases hm : m k
      · have hlt : k < sk m true 0 := by
          rcases Nat.eq_or_lt_of_le HK.out with h | h
          · have := sk_in m 0 HSK.out
            rw [← h, hm] at this
            cases this
          · exact h
        have HLT : Hid _ := hlt
        clear hlt
        go_wp2_with fail
        go_roundg (sk m true 0 - (k + 1))
        case measure => have := HG.out; have := HLT.out; omega
        case rel => exact ⟨k + 1, by rw [w64 k (by have := HLT.out; have := HSK.out; omega)], HLT.out, rfl, HX3.out, HB3.out⟩
      · have he : sk m true 0 = k := by
          rcases Nat.eq_or_lt_of_le HK.out with h | h
          · exact h.symm
          · exact absurd hm ((sk_ok m true 0).no k (by omega) h)
        have HE : Hid _ := he
        clear he
        go_wp2_with fail
        refine (spell_any k (by have := HK.out; have := HSK.out; omega) [92, 47, 124, 42, 43, 63, 40, 41, 91, 93, 46] (by decide) _).mono ?_
        rintro e w4 ⟨rfl, hb4⟩
        have HB4 : Hid _ := below_trans HB3.out hb4
        clear hb4
        go_wp2_with fail
        go_ret
        exact ⟨by rw [HCST.out, HE.out]; rfl, HB4.out⟩
  · have e1 : ((n : Int) == 1) = false := by rw [beq_eq_false_iff_ne]; omega
    have H1 : Hid _ := h1
    clear h1
    have part : ∀ {W : World}, Hid (Below w.heap.size w W) → True := fun _ => trivial
    clear part
    by_cases h255 : n = 255
    · have e2 : ((n : Int) == 255) = true := by rw [beq_iff_eq]; omega
      have H255 : Hid _ := h255
      clear h255
      go_wp2_with fail
      refine (in_any m 10 (by omega) _).mono ?_
      rintro e w2 ⟨rfl, hb2⟩
      have HB3 : Hid _ := below_trans HB.out hb2
      have HX3 := HX.out.mono hb2
      have HX4 : Hid _ := HX3
      clear a0 a1 a2 a3 af hb2
      obtain ⟨a0, a1, a2, a3, af⟩ := HX3
      cases hm : m 10
      · have hc : cst m = [46] := by unfold cst; rw [if_neg (by rw [← HN.out]; exact H1.out), if_pos ⟨by rw [← HN.out]; exact H255.out, hm⟩]
        go_wp2_with fail
        go_ret
        exact ⟨by rw [hc]; rfl, HB3.out⟩
      · have hc : cst m = [91, 94] ++ RN (fun b => !m b) 0 ++ [93] := by
          unfold cst
          have h1 := HN.out
          have h2 := H255.out
          rw [if_neg (by rw [← HN.out]; exact H1.out), if_neg (by rw [hm]; simp), if_pos (by omega)]
        have e3 : decide ((128 : Int) < (n : Int)) = true := by rw [decide_eq_true_eq]; have := H255.out; omega
        have e4 : decide ((n : Int) < 256) = true := by rw [decide_eq_true_eq]; have := H255.out; omega
        have HCST : Hid _ := hc
        clear hc
        go_wp2_with fail
        refine (others_any m _).mono ?_
        rintro e w5 ⟨rfl, hb5⟩
        have HB5 : Hid _ := below_trans HB3.out hb5
        clear hb5
        go_wp2_with fail
        refine (runs_any _ _).mono ?_
        rintro e w6 ⟨rfl, hb6⟩
        have HB6 : Hid _ := below_trans HB5.out hb6
        clear hb6
        obtain ⟨r, hr⟩ : ∃ r, r = RN (fun b => !m b) 0 := ⟨_, rfl⟩
        have hrl : r.length ≤ 2304 := by rw [hr]; exact RN_len _ _
        rw [← hr]
        have z1 : ¬ 9223372036854775807 < 2 + r.length := by omega
        have z2 : ¬ 9223372036854775807 < 2 + r.length + 1 := by omega
        have HR : Hid _ := hr
        clear hr hrl
        go_wp2_with fail
        go_ret
        exact ⟨by rw [HCST.out, ← HR.out]; simp [st_app2], HB6.out⟩
    · have e2 : ((n : Int) == 255) = false := by rw [beq_eq_false_iff_ne]; omega
      have H255 : Hid _ := h255
      clear h255
      by_cases hmid : 128 < n ∧ n < 256
      · have hc : cst m = [91, 94] ++ RN (fun b => !m b) 0 ++ [93] := by
          unfold cst
          have h1 := HN.out
          have h2 : n ≠ 255 := H255.out
          rw [if_neg (by rw [← HN.out]; exact H1.out), if_neg (by rintro ⟨h, _⟩; omega), if_pos (by omega)]
        have e3 : decide ((128 : Int) < (n : Int)) = true := by rw [decide_eq_true_eq]; omega
        have e4 : decide ((n : Int) < 256) = true := by rw [decide_eq_true_eq]; omega
        have HCST : Hid _ := hc
        clear hc hmid
        go_wp2_with fail
        refine (others_any m _).mono ?_
        rintro e w5 ⟨rfl, hb5⟩
        have HB5 : Hid _ := below_trans HB.out hb5
        clear hb5
        go_wp2_with fail
        refine (runs_any _ _).mono ?_
        rintro e w6 ⟨rfl, hb6⟩
        have HB6 : Hid _ := below_trans HB5.out hb6
        clear hb6
        obtain ⟨r, hr⟩ : ∃ r, r = RN (fun b => !m b) 0 := ⟨_, rfl⟩
        have hrl : r.length ≤ 2304 := by rw [hr]; exact RN_len _ _
        rw [← hr]
        have z1 : ¬ 9223372036854775807 < 2 + r.length := by omega
        have z2 : ¬ 9223372036854775807 < 2 + r.length + 1 := by omega
        have HR : Hid _ := hr
        clear hr hrl
        go_wp2_with fail
        go_ret
        exact ⟨by rw [HCST.out, ← HR.out]; simp [st_app2], HB6.out⟩
      · have hc : cst m = [91] ++ RN m 0 ++ [93] := by
          unfold cst
          have h1 := HN.out
          have h2 : n ≠ 255 := H255.out
          rw [if_neg (by rw [← HN.out]; exact H1.out), if_neg (by rintro ⟨h, _⟩; omega), if_neg (by omega)]
        have HCST : Hid _ := hc
        clear hc
        have fin : ∀ (r : List UInt8), True := fun _ => trivial
        clear fin
        by_cases h128 : 128 < n
        · have e3 : decide ((128 : Int) < (n : Int)) = true := by rw [decide_eq_true_eq]; omega
          have e4 : decide ((n : Int) < 256) = false := by rw [decide_eq_false_iff_not]; have := HL.out; omega
          clear hmid h128
          go_wp2_with fail
          refine (runs_any _ _).mono ?_
          rintro e w6 ⟨rfl, hb6⟩
          have HB6 : Hid _ := below_trans HB.out hb6
          clear hb6
          obtain ⟨r, hr⟩ : ∃ r, r = RN m 0 := ⟨_, rfl⟩
          have hrl : r.length ≤ 2304 := by rw [hr]; exact RN_len _ _
          rw [← hr]
          have z1 : ¬ 9223372036854775807 < 1 + r.length := by omega
          have z2 : ¬ 9223372036854775807 < 1 + r.length + 1 := by omega
          have HR : Hid _ := hr
          clear hr hrl
          go_wp2_with fail
          go_ret
          exact ⟨by rw [HCST.out, ← HR.out]; simp [st_app2], HB6.out⟩
        · have e3 : decide ((128 : Int) < (n : Int)) = false := by rw [decide_eq_false_iff_not]; omega
          clear hmid h128
          go_wp2_with fail
          refine (runs_any _ _).mono ?_
          rintro e w6 ⟨rfl, hb6⟩
          have HB6 : Hid _ := below_trans HB.out hb6
          clear hb6
          obtain ⟨r, hr⟩ : ∃ r, r = RN m 0 := ⟨_, rfl⟩
          have hrl : r.length ≤ 2304 := by rw [hr]; exact RN_len _ _
          rw [← hr]
          have z1 : ¬ 9223372036854775807 < 1 + r.length := by omega
          have z2 : ¬ 9223372036854775807 < 1 + r.length + 1 := by omega
          have HR : Hid _ := hr
          clear hr hrl
          go_wp2_with fail
          go_ret
          exact ⟨by rw [HCST.out, ← HR.out]; simp [st_app2], HB6.out⟩

theorem bound_any (t : List UInt8) (lv k : Nat) (ht : t.length ≤ 1000000000) (w : World) : Calls Try.prog 20 #[ST t, .int .i64 (lv : Int), .int .i64 (k : Int)] w fun e w' => e = .returned (ST (bnd (t, lv) k)) ∧ w' = w := by
  unfold bnd
  have z1 : ¬ 9223372036854775807 < 1 + t.length := by omega
  have z2 : ¬ 9223372036854775807 < 1 + t.length + 1 := by omega
  clear ht
  by_cases h : lv < k
  · have hI : (lv : Int) < (k : Int) := by omega
    rw [if_pos h]
    clear h
    go_enter Try.func20, Try.ntmps20
    go_wp2_with fail
    go_ret
    exact ⟨by simp [st_app2], rfl⟩
  · have hI : ¬ (lv : Int) < (k : Int) := by omega
    rw [if_neg h]
    clear h
    go_enter Try.func20, Try.ntmps20
    go_wp2_with fail
    go_ret
    exact ⟨rfl, rfl⟩
end Go.Proofs.Ytkjcnnecdclgfaa
