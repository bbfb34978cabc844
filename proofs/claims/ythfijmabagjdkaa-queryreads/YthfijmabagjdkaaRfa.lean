import Derived.Test.YthfijmabagjdkaaCuj
namespace Go.Proofs.Ythfijmabagjdkaa
open Go.RowKit Go.Maps

theorem mem_bytes (S : ByteArray) (x : UInt8) : S.data.toList.contains x = true ↔ ∃ i, i < S.size ∧ S.get! i = x := by
  rw [List.contains_iff_mem, List.mem_iff_getElem]
  constructor
  · rintro ⟨i, hi, e⟩
    rw [lst_siz] at hi
    exact ⟨i, hi, by rw [get_list S i hi]; exact e⟩
  · rintro ⟨i, hi, e⟩
    exact ⟨i, by rw [lst_siz]; exact hi, by rw [← get_list S i hi]; exact e⟩
theorem u8_eq (x y : UInt8) : (((x.toNat : Nat) : Int) == ((y.toNat : Nat) : Int)) = decide (x = y) := by
  by_cases h : x = y
  · subst h; simp
  · have : ¬ ((x.toNat : Int) = (y.toNat : Int)) := fun e => h (UInt8.toNat_inj.1 (by omega))
    simp [h, this]

set_option maxRecDepth 100000 in
set_option maxHeartbeats 4000000 in
theorem in_any (S : ByteArray) (x : UInt8) (hS : S.size ≤ 1000000000000) (w : World) : Calls Try.prog 14 #[.string S, .int .u8 (x.toNat : Int)] w fun e w' => e = .returned (.bool (S.data.toList.contains x)) ∧ w' = w := by
  have HS : Hid (S.size ≤ 1000000000000) := hS
  clear hS
  go_enter Try.func14, Try.ntmps14
  go_wp2_with fail
  go_loopg [5] S.size (fun gm v5 wr => ∃ j : Nat, v5 = .int .i64 (j : Int) ∧ Hid (j ≤ S.size ∧ gm = S.size - j) ∧ Hid (∀ i, i < j → S.get! i ≠ x) ∧ wr = w)
  case atStart => exact ⟨0, rfl, ⟨by omega, rfl⟩, (fun i hi => by omega), rfl⟩
  case round =>
    obtain ⟨j, rfl, HJ, HA, rfl⟩ := hrel
    by_cases hj : j < S.size
    · have d1 : decide ((j : Int) < (S.size : Int)) = true := by rw [decide_eq_true_eq]; omega
      have d2 : decide (j < S.size) = true := by rw [decide_eq_true_eq]; omega
      have hix := idx_fact S j hj
      have HJL : Hid (j < S.size) := hj
      obtain ⟨y, hy⟩ : ∃ y, S.get! j = y := ⟨_, rfl⟩
      have HY : Hid (S.get! j = y) := hy
      rw [hy] at hix
      have hq := u8_eq y x
      clear hj hy
      by_cases e : y = x
      · have d3 : decide (y = x) = true := by rw [decide_eq_true_eq]; exact e
        rw [d3] at hq
        have HE : Hid (y = x) := e
        clear e d3
        go_wp2_with fail
        go_ret
        refine ⟨ret_bool ?_, rfl⟩
        exact ((mem_bytes S x).2 ⟨j, HJL.out, HY.out.trans HE.out⟩).symm
      · have d3 : decide (y = x) = false := by rw [decide_eq_false_iff_not]; exact e
        rw [d3] at hq
        have HE : Hid (y ≠ x) := e
        have hwj := w64n j (by have := HJL.out; have := HS.out; omega)
        clear e d3
        go_wp2_with fail
        go_roundg (S.size - (j + 1))
        case measure => have := HJ.out; have := HJL.out; omega
        case rel =>
          refine ⟨j + 1, by simp, ⟨HJL.out, rfl⟩, ?_, rfl⟩
          intro i hi
          rcases Nat.lt_or_ge i j with h | h
          · exact HA.out i h
          · obtain rfl : i = j := by omega
            rw [HY.out]; exact HE.out
    · have d1 : decide ((j : Int) < (S.size : Int)) = false := by rw [decide_eq_false_iff_not]; omega
      have d2 : decide (j < S.size) = false := by rw [decide_eq_false_iff_not]; omega
      have HN : Hid (S.data.toList.contains x = false) := by
        cases hc : S.data.toList.contains x with
        | false => exact rfl
        | true =>
          obtain ⟨i, hi, e⟩ := (mem_bytes S x).1 hc
          exact absurd e (HA.out i (by omega))
      clear hj
      go_wp2_with fail
      go_ret
      exact ⟨ret_bool HN.out.symm, rfl⟩

set_option maxRecDepth 100000 in
set_option maxHeartbeats 4000000 in
theorem rrun_any (s S : ByteArray) (k : Nat) (p : Int → Bool) (hp : ∀ x, S.data.toList.contains x = p (nI x)) (hs : s.size ≤ 1000000000000) (hk : k ≤ s.size + 10) (hS : S.size ≤ 1000000000000) (w : World) : Calls Try.prog 27 #[.string s, .int .i64 (k : Int), .string S] w fun e w' => e = .returned (.int .i64 ((tw p (s.data.toList.drop k) : Nat) : Int)) ∧ w' = w := by
  have HS : Hid (S.size ≤ 1000000000000) := hS
  have HZ : Hid (s.size ≤ 1000000000000) := hs
  have HK : Hid (k ≤ s.size + 10) := hk
  have HP : Hid (∀ x, S.data.toList.contains x = p (nI x)) := hp
  clear hS hs hk hp
  go_enter Try.func27, Try.ntmps27
  go_wp2_with fail
  go_loopg [7] (s.size + 1) (fun gm v7 wr => ∃ j : Nat, v7 = .int .i64 (j : Int) ∧ Hid (k + j ≤ s.size ∨ j = 0) ∧ Hid (j ≤ tw p (s.data.toList.drop k) ∧ gm = s.size + 1 - j) ∧ wr = w)
  case atStart => exact ⟨0, rfl, .inr rfl, ⟨Nat.zero_le _, rfl⟩, rfl⟩
  case round =>
    obtain ⟨j, rfl, HJ, HT, rfl⟩ := hrel
    obtain ⟨m, hm⟩ : ∃ m, k + j = m := ⟨_, rfl⟩
    have HM : Hid (k + j = m) := hm
    have hw1 : IntKind.i64.wrap ((k : Int) + (j : Int)) = (m : Int) := by have := HJ.out; have := HK.out; have := HZ.out; rw [IntKind.wrap_i64]; omega
    clear hm
    by_cases hj : m < s.size
    · have d1 : decide ((m : Int) < (s.size : Int)) = true := by rw [decide_eq_true_eq]; omega
      have d2 : decide (m < s.size) = true := by rw [decide_eq_true_eq]; omega
      have hix := idx_fact s m hj
      have HJL : Hid (m < s.size) := hj
      obtain ⟨y, hy⟩ : ∃ y, s.get! m = y := ⟨_, rfl⟩
      have HY : Hid (s.get! m = y) := hy
      rw [hy] at hix
      clear hj hy
      go_wp2_with fail
      refine (in_any S y HS.out wr).mono ?_
      rintro e w9 ⟨rfl, hw9⟩
      rw [hw9, HP.out y]
      clear hw9 w9
      cases hc : p (nI y) with
      | true =>
        have HNX : Hid (j + 1 ≤ tw p (s.data.toList.drop k)) := by
          have h1 := tw_at p s k m HJL.out (by have := HM.out; omega) (by have := HM.out; have := HT.out; omega) (by rw [HY.out]; exact hc)
          have := HM.out
          show j + 1 ≤ _
          omega
        have hwj := w64n j (by have := HJL.out; have := HM.out; have := HZ.out; omega)
        clear hc
        go_wp2_with fail
        go_roundg (s.size + 1 - (j + 1))
        case measure => have := HT.out; have := HJL.out; have := HM.out; omega
        case rel => exact ⟨j + 1, by simp, .inl (by have := HM.out; have := HJL.out; omega), ⟨HNX.out, rfl⟩, rfl⟩
      | false =>
        have HNX : Hid (tw p (s.data.toList.drop k) = j) := by
          have h1 := tw_to p s k m (by have := HM.out; omega) (Nat.le_of_lt HJL.out) (by have := HM.out; have := HT.out; omega) (by rw [rd_at HJL.out, HY.out]; exact hc)
          have := HM.out
          show _ = _
          omega
        clear hc
        go_wp2_with fail
        go_ret
        exact ⟨ret_int (by rw [HNX.out]), rfl⟩
    · have d1 : decide ((m : Int) < (s.size : Int)) = false := by rw [decide_eq_false_iff_not]; omega
      have d2 : decide (m < s.size) = false := by rw [decide_eq_false_iff_not]; omega
      have HNX : Hid (tw p (s.data.toList.drop k) = j) := by
        have h1 := tw_le p (s.data.toList.drop k)
        rw [List.length_drop, lst_siz] at h1
        have := HT.out
        have := HM.out
        show _ = _
        omega
      clear hj
      go_wp2_with fail
      go_ret
      exact ⟨ret_int (by rw [HNX.out]), rfl⟩
def hxs : ByteArray := ⟨#[48, 49, 50, 51, 52, 53, 54, 55, 56, 57, 97, 98, 99, 100, 101, 102, 65, 66, 67, 68, 69, 70]⟩
theorem hxs_in : ∀ i : Fin 16, hxv (((⟨#[48, 49, 50, 51, 52, 53, 54, 55, 56, 57, 97, 98, 99, 100, 101, 102, 65, 66, 67, 68, 69, 70]⟩ : ByteArray).get! i.val).toNat : Int) = (i.val : Int) := by decide +kernel
theorem hxs_out : ∀ n : Fin 256, (∀ i : Fin 16, ((⟨#[48, 49, 50, 51, 52, 53, 54, 55, 56, 57, 97, 98, 99, 100, 101, 102, 65, 66, 67, 68, 69, 70]⟩ : ByteArray).get! i.val).toNat ≠ n.val) → hxv (n.val : Int) ≠ -1 → 65 ≤ n.val ∧ n.val ≤ 70 ∧ hxv (n.val : Int) = (n.val : Int) - 55 := by decide +kernel

set_option maxRecDepth 100000 in
set_option maxHeartbeats 4000000 in
theorem hex_any (x : UInt8) (hx : hxv (nI x) ≠ -1) (w : World) : Calls Try.prog 60 #[.int .u8 (x.toNat : Int)] w fun e w' => e = .returned (.int .i64 (hxv (nI x))) ∧ w' = w := by
  have HX : Hid (hxv (nI x) ≠ -1) := hx
  clear hx
  go_enter Try.func60, Try.ntmps60
  go_wp2_with fail
  go_loopg [3] 17 (fun gm v3 wr => ∃ j : Nat, v3 = .int .i64 (j : Int) ∧ Hid (j ≤ 16 ∧ gm = 17 - j) ∧ Hid (∀ i, i < j → (⟨#[48, 49, 50, 51, 52, 53, 54, 55, 56, 57, 97, 98, 99, 100, 101, 102, 65, 66, 67, 68, 69, 70]⟩ : ByteArray).get! i ≠ x) ∧ wr = w)
  case atStart => exact ⟨0, rfl, ⟨by omega, rfl⟩, (fun i hi => by omega), rfl⟩
  case round =>
    obtain ⟨j, rfl, HJ, HA, rfl⟩ := hrel
    by_cases hj : j < 16
    · have d1 : decide ((j : Int) < 16) = true := by rw [decide_eq_true_eq]; omega
      have d2 : decide (j < 16) = true := by rw [decide_eq_true_eq]; omega
      have hix := idx_fact (⟨#[48, 49, 50, 51, 52, 53, 54, 55, 56, 57, 97, 98, 99, 100, 101, 102, 65, 66, 67, 68, 69, 70]⟩ : ByteArray) j (by show j < 22; omega)
      have HIN : Hid (hxv (((⟨#[48, 49, 50, 51, 52, 53, 54, 55, 56, 57, 97, 98, 99, 100, 101, 102, 65, 66, 67, 68, 69, 70]⟩ : ByteArray).get! j).toNat : Int) = (j : Int)) := hxs_in ⟨j, hj⟩
      have HJL : Hid (j < 16) := hj
      obtain ⟨y, hy⟩ : ∃ y, (⟨#[48, 49, 50, 51, 52, 53, 54, 55, 56, 57, 97, 98, 99, 100, 101, 102, 65, 66, 67, 68, 69, 70]⟩ : ByteArray).get! j = y := ⟨_, rfl⟩
      have HY : Hid ((⟨#[48, 49, 50, 51, 52, 53, 54, 55, 56, 57, 97, 98, 99, 100, 101, 102, 65, 66, 67, 68, 69, 70]⟩ : ByteArray).get! j = y) := hy
      rw [hy] at hix HIN
      have hq := u8_eq y x
      clear hj hy
      by_cases e : y = x
      · have d3 : decide (y = x) = true := by rw [decide_eq_true_eq]; exact e
        rw [d3] at hq
        have HE : Hid (hxv (nI x) = (j : Int)) := by rw [← e]; exact HIN.out
        clear e d3
        go_wp2_with fail
        go_ret
        exact ⟨ret_int HE.out.symm, rfl⟩
      · have d3 : decide (y = x) = false := by rw [decide_eq_false_iff_not]; exact e
        rw [d3] at hq
        have HE : Hid (y ≠ x) := e
        have hwj := w64n j (by have := HJL.out; omega)
        clear e d3
        go_wp2_with fail
        go_roundg (17 - (j + 1))
        case measure => have := HJ.out; have := HJL.out; omega
        case rel =>
          refine ⟨j + 1, by simp, ⟨HJL.out, rfl⟩, ?_, rfl⟩
          intro i hi
          rcases Nat.lt_or_ge i j with h | h
          · exact HA.out i h
          · obtain rfl : i = j := by omega
            rw [HY.out]; exact HE.out
    · have d1 : decide ((j : Int) < 16) = false := by rw [decide_eq_false_iff_not]; omega
      have d2 : decide (j < 16) = false := by rw [decide_eq_false_iff_not]; omega
      obtain ⟨h1, h2, h3⟩ := hxs_out ⟨x.toNat, UInt8.toNat_lt x⟩ (fun i e => HA.out i.val (by have := HJ.out; omega) (UInt8.toNat_inj.1 e)) HX.out
      have HE : Hid (hxv (nI x) = (x.toNat : Int) - 55) := h3
      obtain ⟨n, hn⟩ : ∃ n, x.toNat = n := ⟨_, rfl⟩
      rw [hn] at HE ⊢
      simp only [hn] at h1 h2
      have hw8 : IntKind.u8.wrap ((n : Int) - 65) = (n : Int) - 65 := by simp [IntKind.wrap, IntKind.bits, IntKind.signed]; omega
      have HW7 : Hid (wrap64 ((n : Int) - 65) = (n : Int) - 65) := by show _ = _; unfold wrap64; omega
      have HW9 : Hid (wrap64 ((n : Int) - 65 + 10) = (n : Int) - 55) := by show _ = _; unfold wrap64; omega
      clear hj h1 h2 h3 hn
      go_wp2_with fail
      go_ret
      exact ⟨ret_int (by rw [HE.out, HW7.out, HW9.out]), rfl⟩
end Go.Proofs.Ythfijmabagjdkaa
