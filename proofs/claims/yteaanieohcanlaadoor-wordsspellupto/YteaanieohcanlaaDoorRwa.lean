import Derived.Test.YteaanieohcanlaaDoorSpe
namespace Go.Proofs.YteaanieohcanlaaDoor
open Go.RowKit Go.Maps

/-! The reference's in, run, regex, in the door's seat. -/
theorem mem_bytes (S : ByteArray) (x : UInt8) : S.data.toList.contains x = true ↔ ∃ i, i < S.size ∧ S.get! i = x := by
  rw [List.contains_iff_mem, List.mem_iff_getElem]
  constructor
  · rintro ⟨i, hi, e⟩
    rw [lst_siz] at hi
    exact ⟨i, hi, by rw [get_list S i hi]; exact e⟩
  · rintro ⟨i, hi, e⟩
    exact ⟨i, by rw [lst_siz]; exact hi, by rw [← get_list S i hi]; exact e⟩
theorem u8_eq (x y : UInt8) : (((x.toNat : Nat) : Int) == ((y.toNat : Nat) : Int)) = decide (x = y) := by
  by_cases h : x = y
  · subst h; simp
  · have : ¬ ((x.toNat : Int) = (y.toNat : Int)) := fun e => h (UInt8.toNat_inj.1 (by omega))
    simp [h, this]

set_option maxRecDepth 100000 in
set_option maxHeartbeats 4000000 in
theorem in_any (S : ByteArray) (x : UInt8) (hS : S.size ≤ 1000000000000) (w : World) : Calls Tryd.prog 44 #[.string S, .int .u8 (x.toNat : Int)] w fun e w' => e = .returned (.bool (S.data.toList.contains x)) ∧ w' = w := by
  have HS : Hid (S.size ≤ 1000000000000) := hS
  clear hS
  go_enter Tryd.func44, Tryd.ntmps44
  go_wp2_with fail
  go_loopg [5] S.size (fun gm v5 wr => ∃ j : Nat, v5 = .int .i64 (j : Int) ∧ Hid (j ≤ S.size ∧ gm = S.size - j) ∧ Hid (∀ i, i < j → S.get! i ≠ x) ∧ wr = w)
  case atStart => exact ⟨0, rfl, ⟨by omega, rfl⟩, (fun i hi => by omega), rfl⟩
  case round =>
    obtain ⟨j, rfl, HJ, HA, rfl⟩ := hrel
    by_cases hj : j < S.size
    · have d1 : decide ((j : Int) < (S.size : Int)) = true := by rw [decide_eq_true_eq]; omega
      have d2 : decide (j < S.size) = true := by rw [decide_eq_true_eq]; omega
      have hix := idx_fact S j hj
      have HJL : Hid (j < S.size) := hj
      obtain ⟨y, hy⟩ : ∃ y, S.get! j = y := ⟨_, rfl⟩
      have HY : Hid (S.get! j = y) := hy
      rw [hy] at hix
      have hq := u8_eq y x
      clear hj hy
      by_cases e : y = x
      · have d3 : decide (y = x) = true := by rw [decide_eq_true_eq]; exact e
        rw [d3] at hq
        have HE : Hid (y = x) := e
        clear e d3
        go_wp2_with fail
        go_ret
        refine ⟨ret_bool ?_, rfl⟩
        exact ((mem_bytes S x).2 ⟨j, HJL.out, HY.out.trans HE.out⟩).symm
      · have d3 : decide (y = x) = false := by rw [decide_eq_false_iff_not]; exact e
        rw [d3] at hq
        have HE : Hid (y ≠ x) := e
        have hwj := w64n j (by have := HJL.out; have := HS.out; omega)
        clear e d3
        go_wp2_with fail
        go_roundg (S.size - (j + 1))
        case measure => have := HJ.out; have := HJL.out; omega
        case rel =>
          refine ⟨j + 1, by simp, ⟨HJL.out, rfl⟩, ?_, rfl⟩
          intro i hi
          rcases Nat.lt_or_ge i j with h | h
          · exact HA.out i h
          · obtain rfl : i = j := by omega
            rw [HY.out]; exact HE.out
    · have d1 : decide ((j : Int) < (S.size : Int)) = false := by rw [decide_eq_false_iff_not]; omega
      have d2 : decide (j < S.size) = false := by rw [decide_eq_false_iff_not]; omega
      have HN : Hid (S.data.toList.contains x = false) := by
        cases hc : S.data.toList.contains x with
        | false => exact rfl
        | true =>
          obtain ⟨i, hi, e⟩ := (mem_bytes S x).1 hc
          exact absurd e (HA.out i (by omega))
      clear hj
      go_wp2_with fail
      go_ret
      exact ⟨ret_bool HN.out.symm, rfl⟩

set_option maxRecDepth 100000 in
set_option maxHeartbeats 4000000 in
theorem rrun_any (s S : ByteArray) (k : Nat) (p : Int → Bool) (hp : ∀ x, S.data.toList.contains x = p (nI x)) (hs : s.size ≤ 1000000000000) (hk : k ≤ s.size + 10) (hS : S.size ≤ 1000000000000) (w : World) : Calls Tryd.prog 45 #[.string s, .int .i64 (k : Int), .string S] w fun e w' => e = .returned (.int .i64 ((tw p (s.data.toList.drop k) : Nat) : Int)) ∧ w' = w := by
  have HS : Hid (S.size ≤ 1000000000000) := hS
  have HZ : Hid (s.size ≤ 1000000000000) := hs
  have HK : Hid (k ≤ s.size + 10) := hk
  have HP : Hid (∀ x, S.data.toList.contains x = p (nI x)) := hp
  clear hS hs hk hp
  go_enter Tryd.func45, Tryd.ntmps45
  go_wp2_with fail
  go_loopg [7] (s.size + 1) (fun gm v7 wr => ∃ j : Nat, v7 = .int .i64 (j : Int) ∧ Hid (k + j ≤ s.size ∨ j = 0) ∧ Hid (j ≤ tw p (s.data.toList.drop k) ∧ gm = s.size + 1 - j) ∧ wr = w)
  case atStart => exact ⟨0, rfl, .inr rfl, ⟨Nat.zero_le _, rfl⟩, rfl⟩
  case round =>
    obtain ⟨j, rfl, HJ, HT, rfl⟩ := hrel
    obtain ⟨m, hm⟩ : ∃ m, k + j = m := ⟨_, rfl⟩
    have HM : Hid (k + j = m) := hm
    have hw1 : IntKind.i64.wrap ((k : Int) + (j : Int)) = (m : Int) := by have := HJ.out; have := HK.out; have := HZ.out; rw [IntKind.wrap_i64]; omega
    clear hm
    by_cases hj : m < s.size
    · have d1 : decide ((m : Int) < (s.size : Int)) = true := by rw [decide_eq_true_eq]; omega
      have d2 : decide (m < s.size) = true := by rw [decide_eq_true_eq]; omega
      have hix := idx_fact s m hj
      have HJL : Hid (m < s.size) := hj
      obtain ⟨y, hy⟩ : ∃ y, s.get! m = y := ⟨_, rfl⟩
      have HY : Hid (s.get! m = y) := hy
      rw [hy] at hix
      clear hj hy
      go_wp2_with fail
      refine (in_any S y HS.out wr).mono ?_
      rintro e w9 ⟨rfl, hw9⟩
      rw [hw9, HP.out y]
      clear hw9 w9
      cases hc : p (nI y) with
      | true =>
        have HNX : Hid (j + 1 ≤ tw p (s.data.toList.drop k)) := by
          have h1 := tw_at p s k m HJL.out (by have := HM.out; omega) (by have := HM.out; have := HT.out; omega) (by rw [HY.out]; exact hc)
          have := HM.out
          show j + 1 ≤ _
          omega
        have hwj := w64n j (by have := HJL.out; have := HM.out; have := HZ.out; omega)
        clear hc
        go_wp2_with fail
        go_roundg (s.size + 1 - (j + 1))
        case measure => have := HT.out; have := HJL.out; have := HM.out; omega
        case rel => exact ⟨j + 1, by simp, .inl (by have := HM.out; have := HJL.out; omega), ⟨HNX.out, rfl⟩, rfl⟩
      | false =>
        have HNX : Hid (tw p (s.data.toList.drop k) = j) := by
          have h1 := tw_to p s k m (by have := HM.out; omega) (Nat.le_of_lt HJL.out) (by have := HM.out; have := HT.out; omega) (by rw [rd_at HJL.out, HY.out]; exact hc)
          have := HM.out
          show _ = _
          omega
        clear hc
        go_wp2_with fail
        go_ret
        exact ⟨ret_int (by rw [HNX.out]), rfl⟩
    · have d1 : decide ((m : Int) < (s.size : Int)) = false := by rw [decide_eq_false_iff_not]; omega
      have d2 : decide (m < s.size) = false := by rw [decide_eq_false_iff_not]; omega
      have HNX : Hid (tw p (s.data.toList.drop k) = j) := by
        have h1 := tw_le p (s.data.toList.drop k)
        rw [List.length_drop, lst_siz] at h1
        have := HT.out
        have := HM.out
        show _ = _
        omega
      clear hj
      go_wp2_with fail
      go_ret
      exact ⟨ret_int (by rw [HNX.out]), rfl⟩

def rgI (f : Nat) : Option Nat → Int
  | none => 0
  | some n => ((f + n : Nat) : Int)

set_option maxRecDepth 100000 in
set_option maxHeartbeats 4000000 in
theorem rregex_any (s : ByteArray) (f : Nat) (hf : f < s.size) (hs : s.size ≤ 1000000000000) (w : World) : Calls Tryd.prog 46 #[.string s, .int .i64 (f : Int)] w fun e w' => e = .returned (.int .i64 (rgI f (rg false (s.data.toList.drop (f + 1)) 1))) ∧ w' = w := by
  have HZ : Hid (s.size ≤ 1000000000000) := hs
  have HF : Hid (f < s.size) := hf
  obtain ⟨R, hR⟩ : ∃ R, rg false (s.data.toList.drop (f + 1)) 1 = R := ⟨_, rfl⟩
  have HR : Hid (rg false (s.data.toList.drop (f + 1)) 1 = R) := hR
  rw [hR]
  have hw0 := w64n f (by omega)
  clear hf hs hR
  go_enter Tryd.func46, Tryd.ntmps46
  go_wp2_with fail
  go_loopg [5] (s.size + 2 - (f + 1)) (fun gm v5 wr => ∃ k : Nat, v5 = .int .i64 (k : Int) ∧ Hid (f < k ∧ k ≤ s.size ∧ gm = s.size + 2 - k) ∧ Hid (rg false (s.data.toList.drop k) (k - f) = R) ∧ wr = w)
  case atStart => exact ⟨f + 1, by simp, ⟨by omega, HF.out, rfl⟩, by rw [show f + 1 - f = 1 by omega]; exact HR.out, rfl⟩
  case round =>
    obtain ⟨k, rfl, HJ, HI, rfl⟩ := hrel
    by_cases hj : k < s.size
    · have d1 : decide ((k : Int) < (s.size : Int)) = true := by rw [decide_eq_true_eq]; omega
      have d2 : decide (k < s.size) = true := by rw [decide_eq_true_eq]; omega
      have hix := idx_fact s k hj
      have HJL : Hid (k < s.size) := hj
      have hI := HI.out
      rw [drop_at s k hj] at hI
      obtain ⟨y, hy⟩ : ∃ y, (s.get! k).toNat = y := ⟨_, rfl⟩
      have hny : nI (s.get! k) = (y : Int) := by unfold nI; rw [hy]
      simp only [rg] at hI
      rw [hny] at hI
      rw [hy] at hix
      clear hny
      have hwk := w64n k (by have := HJL.out; have := HZ.out; omega)
      obtain ⟨k1, hk1⟩ : ∃ k1, k + 1 = k1 := ⟨_, rfl⟩
      have HK1 : Hid (k + 1 = k1) := hk1
      rw [hk1] at hwk hI
      by_cases c10 : y = 10
      · subst c10
        rw [if_neg (by decide), if_pos (by decide)] at hI
        have HE : Hid (R = none) := hI.symm
        clear hj hI hy
        go_wp2_with fail
        go_ret
        exact ⟨ret_int (by rw [HE.out]; rfl), rfl⟩
      · have e10 : ¬ ((y : Int) = 10) := by omega
        by_cases c47 : y = 47
        · subst c47
          rw [if_pos (by decide)] at hI
          have HE : Hid (rgI f R = (k1 : Int)) := by
            have := HJ.out
            rw [← hI]
            show ((f + (k - f + 1) : Nat) : Int) = _
            omega
          clear hj hI hy
          go_wp2_with fail
          go_ret
          exact ⟨ret_int HE.out.symm, rfl⟩
        · have e47 : ¬ ((y : Int) = 47) := by omega
          rw [if_neg e47, if_neg e10] at hI
          by_cases c92 : y = 92
          · subst c92
            rw [if_pos (by decide)] at hI
            by_cases hl : k1 < s.size
            · have d3 : decide ((k1 : Int) < (s.size : Int)) = true := by rw [decide_eq_true_eq]; omega
              have d4 : decide (k1 < s.size) = true := by rw [decide_eq_true_eq]; omega
              have hix2 := idx_fact s k1 hl
              rw [drop_at s k1 hl] at hI
              obtain ⟨z, hz⟩ : ∃ z, (s.get! k1).toNat = z := ⟨_, rfl⟩
              have hnz : nI (s.get! k1) = (z : Int) := by unfold nI; rw [hz]
              simp only [rg] at hI
              rw [hnz] at hI
              rw [hz] at hix2
              by_cases c2 : z = 10
              · subst c2
                have HE : Hid (rg false (s.data.toList.drop k1) (k1 - f) = R) := by
                  rw [if_pos (by decide)] at hI
                  rw [← hI, drop_at s k1 hl]
                  show _ = _
                  simp only [rg]
                  rw [hnz, if_neg (by decide), if_pos (by decide)]
                have HL : Hid (k1 < s.size) := hl
                clear hj hI hy hk1 hz hl hnz
                go_wp2_with fail
                go_roundg (s.size + 2 - k1)
                case measure => have := HJ.out; have := HK1.out; omega
                case rel => exact ⟨k1, rfl, ⟨by have := HJ.out; have := HK1.out; omega, by have := HL.out; omega, rfl⟩, HE.out, rfl⟩
              · have e2 : ¬ ((z : Int) = 10) := by omega
                rw [if_neg e2] at hI
                have hwk2 := w64n k1 (by have := HZ.out; omega)
                obtain ⟨k2, hk2⟩ : ∃ k2, k1 + 1 = k2 := ⟨_, rfl⟩
                have HK2 : Hid (k1 + 1 = k2) := hk2
                rw [hk2] at hwk2 hI
                have HE : Hid (rg false (s.data.toList.drop k2) (k2 - f) = R) := by
                  rw [← hI, show k - f + 1 + 1 = k2 - f by have := HJ.out; omega]; exact rfl
                have HL : Hid (k1 < s.size) := hl
                clear hj hI hy hk1 hz hl hk2 hnz
                go_wp2_with fail
                go_roundg (s.size + 2 - k2)
                case measure => have := HJ.out; have := HK1.out; have := HK2.out; have := HL.out; omega
                case rel => exact ⟨k2, rfl, ⟨by have := HJ.out; have := HK1.out; have := HK2.out; omega, by have := HL.out; have := HK2.out; omega, rfl⟩, HE.out, rfl⟩
            · have d3 : decide ((k1 : Int) < (s.size : Int)) = false := by rw [decide_eq_false_iff_not]; omega
              have d4 : decide (k1 < s.size) = false := by rw [decide_eq_false_iff_not]; omega
              have HE : Hid (rg false (s.data.toList.drop k1) (k1 - f) = R) := by
                rw [← hI, drop_end s k1 (by omega)]; exact rfl
              clear hj hI hy hk1 hl
              go_wp2_with fail
              go_roundg (s.size + 2 - k1)
              case measure => have := HJ.out; have := HK1.out; have := HJL.out; omega
              case rel => exact ⟨k1, rfl, ⟨by have := HJ.out; have := HK1.out; omega, by have := HJL.out; have := HK1.out; omega, rfl⟩, HE.out, rfl⟩
          · have e92 : ¬ ((y : Int) = 92) := by omega
            rw [if_neg e92] at hI
            have HE : Hid (rg false (s.data.toList.drop k1) (k1 - f) = R) := by
              rw [← hI, show k - f + 1 = k1 - f by have := HJ.out; omega]; exact rfl
            clear hj hI hy hk1
            go_wp2_with fail
            go_roundg (s.size + 2 - k1)
            case measure => have := HJ.out; have := HK1.out; have := HJL.out; omega
            case rel => exact ⟨k1, rfl, ⟨by have := HJ.out; have := HK1.out; omega, by have := HJL.out; have := HK1.out; omega, rfl⟩, HE.out, rfl⟩
    · have d1 : decide ((k : Int) < (s.size : Int)) = false := by rw [decide_eq_false_iff_not]; omega
      have d2 : decide (k < s.size) = false := by rw [decide_eq_false_iff_not]; omega
      have HE : Hid (R = none) := by have h := HI.out; rw [drop_end s k (by omega)] at h; rw [← h]; exact rfl
      clear hj
      go_wp2_with fail
      go_ret
      exact ⟨ret_int (by rw [HE.out]; rfl), rfl⟩
end Go.Proofs.YteaanieohcanlaaDoor
