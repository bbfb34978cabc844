import Derived.Test.YtgdmoeocgflhgaaDoorTbo
namespace Go.Proofs.YtgdmoeocgflhgaaDoor
open Go.RowKit Go.Maps

/-- May an action stand in a table of so many states? -/
def fts (n : Nat) (x : Ak) : Bool := if x.1 = 0 ∨ x.1 = 3 then decide (x.2 = 0) else if x.1 = 1 then decide (0 ≤ x.2) && decide (x.2 < (n : Int)) else if x.1 = 2 then decide (0 ≤ x.2) && decide (x.2 < 256) else false
/-- An action's count. -/
def cnt (x : Ak) : Nat := if x.1 = 3 then 1 else if x.1 = 1 then 2 + 2 * x.2.toNat else if x.1 = 2 then 3 + 2 * x.2.toNat else 0
theorem cnt_lt {n : Nat} {x : Ak} (h : fts n x = true) (hn : n ≤ 2048) : cnt x < 4099 := by
  unfold cnt
  unfold fts at h
  split
  · omega
  · next h3 =>
    split
    · next h1 =>
      rw [if_neg (by omega), if_pos h1] at h
      simp only [Bool.and_eq_true, decide_eq_true_eq] at h
      omega
    · next h1 =>
      split
      · next h2 =>
        rw [if_neg (by omega), if_neg h1, if_pos h2] at h
        simp only [Bool.and_eq_true, decide_eq_true_eq] at h
        omega
      · omega
set_option maxRecDepth 100000 in
set_option maxHeartbeats 8000000 in
theorem mayDo_any (n : Nat) (x : Ak) (w : World) :
    Calls Tryd.prog 32 #[.agg #[.int .i64 x.1, .int .i64 x.2], .int .i64 (n : Int)] w fun e w' => e = .returned (.bool (fts n x)) ∧ Below w.heap.size w w' := by
  obtain ⟨a, b⟩ := x
  have HF : Hid (fts n (a, b) = if a = 0 ∨ a = 3 then decide (b = 0) else if a = 1 then decide (0 ≤ b) && decide (b < (n : Int)) else if a = 2 then decide (0 ≤ b) && decide (b < 256) else false) := rfl
  dsimp only
  obtain ⟨B, hB⟩ : ∃ B, fts n (a, b) = B := ⟨_, rfl⟩
  rw [hB] at HF ⊢
  clear hB
  have hbe : (b == 0) = decide (b = 0) := by by_cases h : b = 0 <;> simp [h]
  by_cases h0 : a = 0
  · have HR : Hid (B = decide (b = 0)) := by show _ = _; rw [HF.out, if_pos (Or.inl h0)]
    subst h0
    go_enter Tryd.func32, Tryd.ntmps32
    go_wp2_with fail
    go_ret
    exact ⟨by rw [HR.out]; exact ret_bool hbe, bel_up _ _⟩
  · have e0 : (a == 0) = false := by simpa using h0
    by_cases h3 : a = 3
    · have HR : Hid (B = decide (b = 0)) := by show _ = _; rw [HF.out, if_pos (Or.inr h3)]
      subst h3
      go_enter Tryd.func32, Tryd.ntmps32
      go_wp2_with fail
      go_ret
      exact ⟨by rw [HR.out]; exact ret_bool hbe, bel_up _ _⟩
    · have e3 : (a == 3) = false := by simpa using h3
      by_cases h1 : a = 1
      · have HR : Hid (B = (decide (0 ≤ b) && decide (b < (n : Int)))) := by show _ = _; rw [HF.out, if_neg (by omega), if_pos h1]
        subst h1
        clear hbe
        by_cases g1 : 0 ≤ b
        · have e1 : decide (0 ≤ b) = true := by simpa using g1
          go_enter Tryd.func32, Tryd.ntmps32
          go_wp2_with fail
          go_ret
          exact ⟨by rw [HR.out, e1]; rfl, bel_up _ _⟩
        · have e1 : decide (0 ≤ b) = false := by simpa using g1
          go_enter Tryd.func32, Tryd.ntmps32
          go_wp2_with fail
          go_ret
          exact ⟨by rw [HR.out, e1]; rfl, bel_up _ _⟩
      · have e1 : (a == 1) = false := by simpa using h1
        by_cases h2 : a = 2
        · have HR : Hid (B = (decide (0 ≤ b) && decide (b < 256))) := by show _ = _; rw [HF.out, if_neg (by omega), if_neg h1, if_pos h2]
          subst h2
          clear hbe
          by_cases g1 : 0 ≤ b
          · have e1 : decide (0 ≤ b) = true := by simpa using g1
            go_enter Tryd.func32, Tryd.ntmps32
            go_wp2_with fail
            go_ret
            exact ⟨by rw [HR.out, e1]; rfl, bel_up _ _⟩
          · have e1 : decide (0 ≤ b) = false := by simpa using g1
            go_enter Tryd.func32, Tryd.ntmps32
            go_wp2_with fail
            go_ret
            exact ⟨by rw [HR.out, e1]; rfl, bel_up _ _⟩
        · have e2 : (a == 2) = false := by simpa using h2
          have HR : Hid (B = false) := by show _ = _; rw [HF.out, if_neg (by omega), if_neg h1, if_neg h2]
          clear hbe
          go_enter Tryd.func32, Tryd.ntmps32
          go_wp2_with fail
          go_ret
          exact ⟨by rw [HR.out]; rfl, bel_up _ _⟩
set_option maxRecDepth 100000 in
set_option maxHeartbeats 8000000 in
theorem rfits_any (n : Nat) (x : Ak) (w : World) :
    Calls Tryd.prog 28 #[.agg #[.int .i64 x.1, .int .i64 x.2], .int .i64 (n : Int)] w fun e w' => e = .returned (.bool (fts n x)) ∧ Below w.heap.size w w' := by
  obtain ⟨a, b⟩ := x
  have HF : Hid (fts n (a, b) = if a = 0 ∨ a = 3 then decide (b = 0) else if a = 1 then decide (0 ≤ b) && decide (b < (n : Int)) else if a = 2 then decide (0 ≤ b) && decide (b < 256) else false) := rfl
  dsimp only
  obtain ⟨B, hB⟩ : ∃ B, fts n (a, b) = B := ⟨_, rfl⟩
  rw [hB] at HF ⊢
  clear hB
  have hbe : (b == 0) = decide (b = 0) := by by_cases h : b = 0 <;> simp [h]
  by_cases h0 : a = 0
  · have HR : Hid (B = decide (b = 0)) := by show _ = _; rw [HF.out, if_pos (Or.inl h0)]
    subst h0
    go_enter Tryd.func28, Tryd.ntmps28
    go_wp2_with fail
    go_ret
    exact ⟨by rw [HR.out]; exact ret_bool hbe, bel_up _ _⟩
  · have e0 : (a == 0) = false := by simpa using h0
    by_cases h3 : a = 3
    · have HR : Hid (B = decide (b = 0)) := by show _ = _; rw [HF.out, if_pos (Or.inr h3)]
      subst h3
      go_enter Tryd.func28, Tryd.ntmps28
      go_wp2_with fail
      go_ret
      exact ⟨by rw [HR.out]; exact ret_bool hbe, bel_up _ _⟩
    · have e3 : (a == 3) = false := by simpa using h3
      by_cases h1 : a = 1
      · have HR : Hid (B = (decide (0 ≤ b) && decide (b < (n : Int)))) := by show _ = _; rw [HF.out, if_neg (by omega), if_pos h1]
        subst h1
        clear hbe
        by_cases g1 : 0 ≤ b
        · have e1 : decide (0 ≤ b) = true := by simpa using g1
          go_enter Tryd.func28, Tryd.ntmps28
          go_wp2_with fail
          go_ret
          exact ⟨by rw [HR.out, e1]; rfl, bel_up _ _⟩
        · have e1 : decide (0 ≤ b) = false := by simpa using g1
          go_enter Tryd.func28, Tryd.ntmps28
          go_wp2_with fail
          go_ret
          exact ⟨by rw [HR.out, e1]; rfl, bel_up _ _⟩
      · have e1 : (a == 1) = false := by simpa using h1
        by_cases h2 : a = 2
        · have HR : Hid (B = (decide (0 ≤ b) && decide (b < 256))) := by show _ = _; rw [HF.out, if_neg (by omega), if_neg h1, if_pos h2]
          subst h2
          clear hbe
          by_cases g1 : 0 ≤ b
          · have e1 : decide (0 ≤ b) = true := by simpa using g1
            go_enter Tryd.func28, Tryd.ntmps28
            go_wp2_with fail
            go_ret
            exact ⟨by rw [HR.out, e1]; rfl, bel_up _ _⟩
          · have e1 : decide (0 ≤ b) = false := by simpa using g1
            go_enter Tryd.func28, Tryd.ntmps28
            go_wp2_with fail
            go_ret
            exact ⟨by rw [HR.out, e1]; rfl, bel_up _ _⟩
        · have e2 : (a == 2) = false := by simpa using h2
          have HR : Hid (B = false) := by show _ = _; rw [HF.out, if_neg (by omega), if_neg h1, if_neg h2]
          clear hbe
          go_enter Tryd.func28, Tryd.ntmps28
          go_wp2_with fail
          go_ret
          exact ⟨by rw [HR.out]; rfl, bel_up _ _⟩
end Go.Proofs.YtgdmoeocgflhgaaDoor
