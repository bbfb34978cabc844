import Derived.Test.YthfijmabagjdkaaRfa
namespace Go.Proofs.Ythfijmabagjdkaa
open Go.RowKit Go.Maps

set_option maxRecDepth 100000 in
set_option maxHeartbeats 4000000 in
theorem rnum_any (T : ByteArray) (hT : T.size ≤ 1000000000000) (hd : ∀ x ∈ T.data.toList, isD (nI x) = true) (w : World) : Calls Try.prog 28 #[.string T] w fun e w' => e = .returned (.int .i64 (nvf 0 T.data.toList)) ∧ w' = w := by
  have HZ : Hid (T.size ≤ 1000000000000) := hT
  have HD : Hid (∀ x ∈ T.data.toList, isD (nI x) = true) := hd
  clear hT hd
  go_enter Try.func28, Try.ntmps28
  go_wp2_with fail
  go_loopg [3, 4] T.size (fun gm v3 v4 wr => ∃ (j : Nat) (n : Int), v4 = .int .i64 (j : Int) ∧ v3 = .int .i64 n ∧ Hid (j ≤ T.size ∧ gm = T.size - j) ∧ Hid (n = nvf 0 (T.data.toList.take j)) ∧ wr = w)
  case atStart => exact ⟨0, 0, rfl, rfl, ⟨by omega, rfl⟩, rfl, rfl⟩
  case round =>
    obtain ⟨j, n, rfl, rfl, HJ, HN, rfl⟩ := hrel
    by_cases hj : j < T.size
    · have d1 : decide ((j : Int) < (T.size : Int)) = true := by rw [decide_eq_true_eq]; omega
      have d2 : decide (j < T.size) = true := by rw [decide_eq_true_eq]; omega
      have hix := idx_fact T j hj
      have HJL : Hid (j < T.size) := hj
      have hnx : nvf 0 (T.data.toList.take (j + 1)) = min (10 * n + (nI (T.get! j) - 48)) 65536 := by
        have h1 := take_snoc_at T 0 j (Nat.zero_le _) hj
        rw [List.drop_zero, Nat.sub_zero, Nat.sub_zero] at h1
        rw [h1, nvf_snoc, ← HN.out]
      have hdg : isD (nI (T.get! j)) = true := HD.out _ ((List.mem_iff_getElem).2 ⟨j, by rw [lst_siz]; exact hj, (get_list T j hj).symm⟩)
      have hnb : 0 ≤ n ∧ n ≤ 65536 := by
        rw [HN.out]
        exact ⟨nvf_ge _ _ (by omega) (fun x hx => HD.out x (List.mem_of_mem_take hx)), nvf_le _ _ (by omega)⟩
      obtain ⟨y, hy⟩ : ∃ y, (T.get! j).toNat = y := ⟨_, rfl⟩
      unfold nI at hnx hdg
      rw [hy] at hix hnx hdg
      simp only [isD, Bool.and_eq_true, decide_eq_true_eq] at hdg
      have hw8 : IntKind.u8.wrap ((y : Int) - 48) = (y : Int) - 48 := by simp [IntKind.wrap, IntKind.bits, IntKind.signed]; omega
      have hw1 : IntKind.i64.wrap (10 * n) = 10 * n := by rw [IntKind.wrap_i64]; omega
      have hw3 : IntKind.i64.wrap ((y : Int) - 48) = (y : Int) - 48 := by rw [IntKind.wrap_i64]; omega
      have hwj := w64n j (by have := HJL.out; have := HZ.out; omega)
      obtain ⟨v, hv⟩ : ∃ v, 10 * n + ((y : Int) - 48) = v := ⟨_, rfl⟩
      have hw2 : IntKind.i64.wrap (10 * n + ((y : Int) - 48)) = v := by rw [← hv, IntKind.wrap_i64]; omega
      rw [hv] at hnx
      have HNX : Hid (nvf 0 (T.data.toList.take (j + 1)) = min v 65536) := hnx
      have HV : Hid (10 * n + ((y : Int) - 48) = v) := hv
      by_cases hb : 65535 < v
      · have d3 : decide ((65535 : Int) < v) = true := by rw [decide_eq_true_eq]; exact hb
        have HM : Hid (nvf 0 (T.data.toList.take (j + 1)) = 65536) := by rw [hnx]; show _ = _; omega
        clear hj hnx hdg hnb hy hv hb
        go_wp2_with fail
        go_roundg (T.size - (j + 1))
        case measure => have := HJ.out; have := HJL.out; omega
        case rel => exact ⟨j + 1, 65536, by simp, rfl, ⟨HJL.out, rfl⟩, HM.out.symm, rfl⟩
      · have d3 : decide ((65535 : Int) < v) = false := by rw [decide_eq_false_iff_not]; exact hb
        have HM : Hid (nvf 0 (T.data.toList.take (j + 1)) = v) := by rw [hnx]; show _ = _; omega
        clear hj hnx hdg hnb hy hv hb
        go_wp2_with fail
        go_roundg (T.size - (j + 1))
        case measure => have := HJ.out; have := HJL.out; omega
        case rel => exact ⟨j + 1, v, by simp, rfl, ⟨HJL.out, rfl⟩, HM.out.symm, rfl⟩
    · have d1 : decide ((j : Int) < (T.size : Int)) = false := by rw [decide_eq_false_iff_not]; omega
      have d2 : decide (j < T.size) = false := by rw [decide_eq_false_iff_not]; omega
      have HE : Hid (nvf 0 T.data.toList = n) := by rw [HN.out, List.take_of_length_le (by rw [lst_siz]; omega)]; exact rfl
      clear hj
      go_wp2_with fail
      go_ret
      exact ⟨ret_int HE.out.symm, rfl⟩
/-- What the reference's regex answers. -/
def rgI (f : Nat) : Option Nat → Int
  | none => 0
  | some n => ((f + n : Nat) : Int)

set_option maxRecDepth 100000 in
set_option maxHeartbeats 4000000 in
theorem rregex_any (s : ByteArray) (f : Nat) (hf : f < s.size) (hs : s.size ≤ 1000000000000) (w : World) : Calls Try.prog 30 #[.string s, .int .i64 (f : Int)] w fun e w' => e = .returned (.int .i64 (rgI f (rg false (s.data.toList.drop (f + 1)) 1))) ∧ w' = w := by
  have HZ : Hid (s.size ≤ 1000000000000) := hs
  have HF : Hid (f < s.size) := hf
  obtain ⟨R, hR⟩ : ∃ R, rg false (s.data.toList.drop (f + 1)) 1 = R := ⟨_, rfl⟩
  have HR : Hid (rg false (s.data.toList.drop (f + 1)) 1 = R) := hR
  rw [hR]
  have hw0 := w64n f (by omega)
  clear hf hs hR
  go_enter Try.func30, Try.ntmps30
  go_wp2_with fail
  go_loopg [5] (s.size + 2 - (f + 1)) (fun gm v5 wr => ∃ k : Nat, v5 = .int .i64 (k : Int) ∧ Hid (f < k ∧ k ≤ s.size ∧ gm = s.size + 2 - k) ∧ Hid (rg false (s.data.toList.drop k) (k - f) = R) ∧ wr = w)
  case atStart => exact ⟨f + 1, by simp, ⟨by omega, HF.out, rfl⟩, by rw [show f + 1 - f = 1 by omega]; exact HR.out, rfl⟩
  case round =>
    obtain ⟨k, rfl, HJ, HI, rfl⟩ := hrel
    by_cases hj : k < s.size
    · have d1 : decide ((k : Int) < (s.size : Int)) = true := by rw [decide_eq_true_eq]; omega
      have d2 : decide (k < s.size) = true := by rw [decide_eq_true_eq]; omega
      have hix := idx_fact s k hj
      have HJL : Hid (k < s.size) := hj
      have hI := HI.out
      rw [drop_at s k hj] at hI
      obtain ⟨y, hy⟩ : ∃ y, (s.get! k).toNat = y := ⟨_, rfl⟩
      have hny : nI (s.get! k) = (y : Int) := by unfold nI; rw [hy]
      simp only [rg] at hI
      rw [hny] at hI
      rw [hy] at hix
      clear hny
      have hwk := w64n k (by have := HJL.out; have := HZ.out; omega)
      obtain ⟨k1, hk1⟩ : ∃ k1, k + 1 = k1 := ⟨_, rfl⟩
      have HK1 : Hid (k + 1 = k1) := hk1
      rw [hk1] at hwk hI
      by_cases c10 : y = 10
      · subst c10
        rw [if_neg (by decide), if_pos (by decide)] at hI
        have HE : Hid (R = none) := hI.symm
        clear hj hI hy
        go_wp2_with fail
        go_ret
        exact ⟨ret_int (by rw [HE.out]; rfl), rfl⟩
      · have e10 : ¬ ((y : Int) = 10) := by omega
        by_cases c47 : y = 47
        · subst c47
          rw [if_pos (by decide)] at hI
          have HE : Hid (rgI f R = (k1 : Int)) := by
            have := HJ.out
            rw [← hI]
            show ((f + (k - f + 1) : Nat) : Int) = _
            omega
          clear hj hI hy
          go_wp2_with fail
          go_ret
          exact ⟨ret_int HE.out.symm, rfl⟩
        · have e47 : ¬ ((y : Int) = 47) := by omega
          rw [if_neg e47, if_neg e10] at hI
          by_cases c92 : y = 92
          · subst c92
            rw [if_pos (by decide)] at hI
            by_cases hl : k1 < s.size
            · have d3 : decide ((k1 : Int) < (s.size : Int)) = true := by rw [decide_eq_true_eq]; omega
              have d4 : decide (k1 < s.size) = true := by rw [decide_eq_true_eq]; omega
              have hix2 := idx_fact s k1 hl
              rw [drop_at s k1 hl] at hI
              obtain ⟨z, hz⟩ : ∃ z, (s.get! k1).toNat = z := ⟨_, rfl⟩
              have hnz : nI (s.get! k1) = (z : Int) := by unfold nI; rw [hz]
              simp only [rg] at hI
              rw [hnz] at hI
              rw [hz] at hix2
              by_cases c2 : z = 10
              · subst c2
                have HE : Hid (rg false (s.data.toList.drop k1) (k1 - f) = R) := by
                  rw [if_pos (by decide)] at hI
                  rw [← hI, drop_at s k1 hl]
                  show _ = _
                  simp only [rg]
                  rw [hnz, if_neg (by decide), if_pos (by decide)]
                have HL : Hid (k1 < s.size) := hl
                clear hj hI hy hk1 hz hl hnz
                go_wp2_with fail
                go_roundg (s.size + 2 - k1)
                case measure => have := HJ.out; have := HK1.out; omega
                case rel => exact ⟨k1, rfl, ⟨by have := HJ.out; have := HK1.out; omega, by have := HL.out; omega, rfl⟩, HE.out, rfl⟩
              · have e2 : ¬ ((z : Int) = 10) := by omega
                rw [if_neg e2] at hI
                have hwk2 := w64n k1 (by have := HZ.out; omega)
                obtain ⟨k2, hk2⟩ : ∃ k2, k1 + 1 = k2 := ⟨_, rfl⟩
                have HK2 : Hid (k1 + 1 = k2) := hk2
                rw [hk2] at hwk2 hI
                have HE : Hid (rg false (s.data.toList.drop k2) (k2 - f) = R) := by
                  rw [← hI, show k - f + 1 + 1 = k2 - f by have := HJ.out; omega]; exact rfl
                have HL : Hid (k1 < s.size) := hl
                clear hj hI hy hk1 hz hl hk2 hnz
                go_wp2_with fail
                go_roundg (s.size + 2 - k2)
                case measure => have := HJ.out; have := HK1.out; have := HK2.out; have := HL.out; omega
                case rel => exact ⟨k2, rfl, ⟨by have := HJ.out; have := HK1.out; have := HK2.out; omega, by have := HL.out; have := HK2.out; omega, rfl⟩, HE.out, rfl⟩
            · have d3 : decide ((k1 : Int) < (s.size : Int)) = false := by rw [decide_eq_false_iff_not]; omega
              have d4 : decide (k1 < s.size) = false := by rw [decide_eq_false_iff_not]; omega
              have HE : Hid (rg false (s.data.toList.drop k1) (k1 - f) = R) := by
                rw [← hI, drop_end s k1 (by omega)]; exact rfl
              clear hj hI hy hk1 hl
              go_wp2_with fail
              go_roundg (s.size + 2 - k1)
              case measure => have := HJ.out; have := HK1.out; have := HJL.out; omega
              case rel => exact ⟨k1, rfl, ⟨by have := HJ.out; have := HK1.out; omega, by have := HJL.out; have := HK1.out; omega, rfl⟩, HE.out, rfl⟩
          · have e92 : ¬ ((y : Int) = 92) := by omega
            rw [if_neg e92] at hI
            have HE : Hid (rg false (s.data.toList.drop k1) (k1 - f) = R) := by
              rw [← hI, show k - f + 1 = k1 - f by have := HJ.out; omega]; exact rfl
            clear hj hI hy hk1
            go_wp2_with fail
            go_roundg (s.size + 2 - k1)
            case measure => have := HJ.out; have := HK1.out; have := HJL.out; omega
            case rel => exact ⟨k1, rfl, ⟨by have := HJ.out; have := HK1.out; omega, by have := HJL.out; have := HK1.out; omega, rfl⟩, HE.out, rfl⟩
    · have d1 : decide ((k : Int) < (s.size : Int)) = false := by rw [decide_eq_false_iff_not]; omega
      have d2 : decide (k < s.size) = false := by rw [decide_eq_false_iff_not]; omega
      have HE : Hid (R = none) := by have h := HI.out; rw [drop_end s k (by omega)] at h; rw [← h]; exact rfl
      clear hj
      go_wp2_with fail
      go_ret
      exact ⟨ret_int (by rw [HE.out]; rfl), rfl⟩
end Go.Proofs.Ythfijmabagjdkaa
