import Derived.Test.YtodncbkdlnepjaaFcu
namespace Go.Proofs.Ytodncbkdlnepjaa
open Go.RowKit Go.Maps

set_option maxRecDepth 100000 in
set_option maxHeartbeats 4000000 in
theorem mod_any (w : World) (k : Int) (n : Nat) (h1 : 1 ≤ n) (h2 : n ≤ 4611686018427387904) :
    Calls Try.prog 34 #[.int .i64 k, .int .i64 (n : Int)] w fun e w' => ∃ m : Nat, e = .returned (.int .i64 (m : Int)) ∧ m < n ∧ w' = w := by
  have HN : Hid (1 ≤ n ∧ n ≤ 4611686018427387904) := ⟨h1, h2⟩
  have z0 : ¬ (n : Int) = 0 := by omega
  have z1 : ((n : Int) == 0) = false := by rw [beq_eq_false_iff_ne]; omega
  have z2 : ¬ n = 0 := by omega
  have b1 := Int.tmod_lt_of_pos k (show (0 : Int) < (n : Int) by omega)
  have b2 := Int.lt_tmod_of_pos k (show (0 : Int) < (n : Int) by omega)
  obtain ⟨r, hr⟩ : ∃ r, k.tmod (n : Int) = r := ⟨_, rfl⟩
  rw [hr] at b1 b2
  have hw : IntKind.i64.wrap r = r := by rw [IntKind.wrap_i64]; omega
  clear h1 h2
  by_cases hneg : r < 0
  · have d1 : decide (r < 0) = true := decide_eq_true hneg
    have ha : IntKind.i64.wrap (r + (n : Int)) = r + (n : Int) := by have := HN.out; rw [IntKind.wrap_i64]; omega
    have HB : Hid (0 ≤ r + (n : Int) ∧ r + (n : Int) < (n : Int)) := ⟨by omega, by omega⟩
    clear b1 b2 hneg
    go_enter Try.func34, Try.ntmps34
    go_wp2_with fail
    go_ret
    exact ⟨(r + (n : Int)).toNat, by rw [Int.toNat_of_nonneg HB.out.1]; rfl, by have := HB.out; omega, rfl⟩
  · have d1 : decide (r < 0) = false := decide_eq_false hneg
    have HB : Hid (0 ≤ r ∧ r < (n : Int)) := ⟨by omega, by omega⟩
    clear b1 b2 hneg
    go_enter Try.func34, Try.ntmps34
    go_wp2_with fail
    go_ret
    exact ⟨r.toNat, by rw [Int.toNat_of_nonneg HB.out.1]; rfl, by have := HB.out; omega, rfl⟩
end Go.Proofs.Ytodncbkdlnepjaa
