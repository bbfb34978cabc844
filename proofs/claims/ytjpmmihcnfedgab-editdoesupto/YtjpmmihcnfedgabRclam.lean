import Derived.Test.YtjpmmihcnfedgabClam
namespace Go.Proofs.Ytjpmmihcnfedgab
open Go.RowKit

set_option maxRecDepth 100000 in
set_option maxHeartbeats 1000000 in
theorem rclamp_bad (n : Int) (p q : Int) (ins : ByteArray) (w : World) (hn : n < 0 ∨ 1048576 < n) :
    Calls Try.prog 20 #[.int .i64 n, ed p q ins] w fun e w' => e = .returned (ed 0 0 ⟨#[]⟩) ∧ Below w.heap.size w w' := by
  by_cases h0 : n < 0
  · clear hn
    go_enter Try.func20, Try.ntmps20
    go_wp2_with fail
    (try simp only [Exit.inBlock, Exit.then])
    refine bodyPost_ret (v := ed 0 0 ⟨#[]⟩) ?_ rfl ⟨rfl, ?_⟩
    · rw [results_cell1 rfl]; go_simp
    · (repeat' (first | exact Below.refl _ _ | refine Below.drew ?_ | refine Below.setCell ?_ (by simp <;> omega) _ | refine Below.alloc ?_ (by simp <;> omega) _))
  · have h1 : 1048576 < n := by omega
    clear hn
    go_enter Try.func20, Try.ntmps20
    go_wp2_with fail
    (try simp only [Exit.inBlock, Exit.then])
    refine bodyPost_ret (v := ed 0 0 ⟨#[]⟩) ?_ rfl ⟨rfl, ?_⟩
    · rw [results_cell1 rfl]; go_simp
    · (repeat' (first | exact Below.refl _ _ | refine Below.drew ?_ | refine Below.setCell ?_ (by simp <;> omega) _ | refine Below.alloc ?_ (by simp <;> omega) _))

set_option maxRecDepth 100000 in
set_option maxHeartbeats 1000000 in
theorem rclamp_any (n : Nat) (p q : Int) (ins : ByteArray) (w : World) (hn : n ≤ 1048576) :
    Calls Try.prog 20 #[.int .i64 (n : Int), ed p q ins] w fun e w' => e = .returned (ed (ca n p) (cd n p q) ins) ∧ Below w.heap.size w w' := by
  have ha := ca_le n p
  have e1 := ca_eq n p
  have e2 := cd_eq n p q
  have E1 : Hid _ := e1
  have E2 : Hid _ := e2
  have hd := cd_le n p q
  have HD : Hid _ := hd
  clear e1 e2 hd
  go_enter Try.func20, Try.ntmps20
  go_upto_region 3 with fail
  go_quiet (fail)
  go_wp2_with fail
  all_goals
    (try simp only [Exit.inBlock, Exit.then])
    refine bodyPost_ret (v := ed (ca n p) (cd n p q) ins) ?_ rfl ⟨rfl, ?_⟩
    · rw [results_cell1 rfl]
      go_simp
      have e1 := E1.out
      have e2 := E2.out
      unfold cl at e1 e2
      constructor
      · (repeat' split at e1) <;> omega
      · (repeat' split at e1) <;> (repeat' split at e2) <;> omega
    · (repeat' (first | exact Below.refl _ _ | refine below_drewN ?_ _ | refine Below.drew ?_ | refine Below.setCell ?_ (by simp <;> omega) _ | refine Below.alloc ?_ (by simp <;> omega) _))

end Go.Proofs.Ytjpmmihcnfedgab
