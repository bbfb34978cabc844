import Derived.Test.YteaanieohcanlaaDoorRwa
namespace Go.Proofs.YteaanieohcanlaaDoor
open Go.RowKit Go.Maps

theorem wrt_n (x : UInt8) (n : Nat) (hn : x.toNat = n) : wrt x = if n = 34 then [92, 34] else if n = 92 then [92, 92] else if n = 10 then [92, 110] else if n = 9 then [92, 116] else if n = 13 then [92, 114] else if n < 32 ∨ 126 < n then [92, 120, dgt (n / 16), dgt (n % 16)] else [x] := by
  have hxn : x = Nat.toUInt8 n := by rw [← hn]; simp
  unfold wrt
  rw [hn]
  have e : ∀ m : Nat, m < 256 → (x = Nat.toUInt8 m ↔ n = m) := fun m hm => by
    constructor
    · intro h1
      have := congrArg UInt8.toNat h1
      rw [hn] at this
      simp at this
      omega
    · intro h1; rw [hxn, h1]
  have f34 : (x = 34) = (n = 34) := propext (e 34 (by omega))
  have f92 : (x = 92) = (n = 92) := propext (e 92 (by omega))
  have f10 : (x = 10) = (n = 10) := propext (e 10 (by omega))
  have f9 : (x = 9) = (n = 9) := propext (e 9 (by omega))
  have f13 : (x = 13) = (n = 13) := propext (e 13 (by omega))
  simp only [f34, f92, f10, f9, f13]
set_option maxRecDepth 100000 in
set_option maxHeartbeats 8000000 in
theorem byteOf_five (n : Nat) (h : n = 34 ∨ n = 92 ∨ n = 10 ∨ n = 9 ∨ n = 13) (x : UInt8) (hn : x.toNat = n) (w : World) : Calls Tryd.prog 26 #[.int .u8 (n : Int)] w fun e w' => e = .returned (.string ⟨(wrt x).toArray⟩) ∧ Below w.heap.size w w' := by
  have hw := wrt_n x n hn
  rcases h with rfl | rfl | rfl | rfl | rfl
  all_goals
    simp only [reduceIte, show ¬ (92 : Nat) = 34 by decide, show ¬ (10 : Nat) = 34 by decide, show ¬ (10 : Nat) = 92 by decide, show ¬ (9 : Nat) = 34 by decide, show ¬ (9 : Nat) = 92 by decide, show ¬ (9 : Nat) = 10 by decide, show ¬ (13 : Nat) = 34 by decide, show ¬ (13 : Nat) = 92 by decide, show ¬ (13 : Nat) = 10 by decide, show ¬ (13 : Nat) = 9 by decide] at hw
    rw [hw]
    go_enter Tryd.func26, Tryd.ntmps26
    go_wp2_with fail
    go_ret
    exact ⟨rfl, Below.refl _ _⟩
end Go.Proofs.YteaanieohcanlaaDoor
