import Derived.Test.YtkjljnneghnpiaaZyb
namespace Go.Proofs.Ytkjljnneghnpiaa.Rg
open Go.RowKit
/-- Sizes in a block. -/
structure ZAt (W : World) (r : Nat) (z : List Nat) : Prop where
  at' : ∀ j, j < z.length → W.cell? ⟨r, j, none⟩ = some (.int .i64 (z.getD j 0 : Nat))
theorem cv_bare (m : Nat → Bool) (W : World) : (binOp .eql 40 (CV m) (.agg #[.int .u64 0, .int .u64 0, .int .u64 0, .int .u64 0])).run Try.prog W = .ok (.bool (bl m)) W := by
  have := eq32 9998 (wd m 0) (wd m 1) (wd m 2) (wd m 3) 0 0 0 0 W
  have e : decide (wd m 0 = 0 ∧ wd m 1 = 0 ∧ wd m 2 = 0 ∧ wd m 3 = 0) = bl m := by
    unfold bl
    generalize wd m 0 = x0; generalize wd m 1 = x1; generalize wd m 2 = x2; generalize wd m 3 = x3
    simp only [Bool.decide_and, Bool.and_assoc]
    rfl
  rw [e] at this
  rw [run_eql_struct]
  rw [show (.agg #[.int .u64 0, .int .u64 0, .int .u64 0, .int .u64 0] : Value) = .agg #[.int .u64 ((0 : Nat) : Int), .int .u64 ((0 : Nat) : Int), .int .u64 ((0 : Nat) : Int), .int .u64 ((0 : Nat) : Int)] by rfl, this]
  rfl
/-- What extent answers. -/
def ExtRes (n : Nd) (z : List Nat) (W : World) (e : Ending) (w' : World) : Prop := (∃ s : Int, e = .returned (.tuple #[.int .i64 s, .bool (ext n z).isSome]) ∧ ∀ k, ext n z = some k → s = (k : Int)) ∧ Below W.heap.size W w'
theorem ext_no {n : Nd} {z : List Nat} {W w' : World} {s : Int} (h : ext n z = none) (hb : Below W.heap.size W w') : ExtRes n z W (.returned (.tuple #[.int .i64 s, .bool false])) w' :=
  ⟨⟨s, by rw [h]; rfl, fun k hk => by rw [h] at hk; cases hk⟩, hb⟩
theorem ext_yes {n : Nd} {z : List Nat} {W w' : World} {s : Nat} (h : ext n z = some s) (hb : Below W.heap.size W w') : ExtRes n z W (.returned (.tuple #[.int .i64 (s : Int), .bool true])) w' :=
  ⟨⟨s, by rw [h]; rfl, fun k hk => by rw [h] at hk; cases hk; rfl⟩, hb⟩
set_option maxRecDepth 100000 in
set_option maxHeartbeats 4000000 in
theorem extent_leaf (op : Int) (m : Nat → Bool) (a b : Int) (z : List Nat) (r : Nat) (w : World) (h : op = 1 ∨ op = 2) : Calls Try.prog 46 #[ndV op m a b, .int .i64 (z.length : Int), .slice (some ⟨r, 0, none⟩) z.length 128] w fun e w' => ExtRes ⟨op, m, a, b⟩ z w e w' := by
  have hb := cv_bare m
  obtain ⟨d, hd⟩ : ∃ d, d = bl m := ⟨_, rfl⟩
  rw [← hd] at hb
  have HD : Hid _ := hd
  clear hd
  obtain ⟨i, hi⟩ : ∃ i, i = z.length := ⟨_, rfl⟩
  rw [← hi]
  have HI : Hid _ := hi
  clear hi
  have no : Hid (¬ (d = decide (op = 2) ∧ a = -1 ∧ b = -1) → ext ⟨op, m, a, b⟩ z = none) := by
    intro hn
    unfold ext
    rw [if_pos h, if_neg (by rw [← HD.out]; exact hn)]
  have yes : Hid ((d = decide (op = 2) ∧ a = -1 ∧ b = -1) → ext ⟨op, m, a, b⟩ z = some 1) := by
    intro hn
    unfold ext
    rw [if_pos h, if_pos (by rw [← HD.out]; exact hn)]
  rcases h with rfl | rfl
  · cases d
    · by_cases ha : a = -1
      · by_cases hb2 : b = -1
        · have hy := yes.out ⟨rfl, ha, hb2⟩
          have HY : Hid _ := hy
          clear hy
          subst ha
          subst hb2
          go_enter Try.func46, Try.ntmps46
          go_wp2_with fail
          go_region
          go_wp2_with fail
          go_ret2
          exact ext_yes (s := 1) HY.out (Below.drew (bel_up _ _))
        · have hn := no.out (by rintro ⟨_, _, h⟩; exact hb2 h)
          have HY : Hid _ := hn
          have hb3 : (b == -1) = false := by simpa using hb2
          clear hn hb2
          subst ha
          go_enter Try.func46, Try.ntmps46
          go_wp2_with fail
          go_region
          go_wp2_with fail
          go_ret2
          exact ext_no HY.out (Below.drew (bel_up _ _))
      · have hn := no.out (by rintro ⟨_, h, _⟩; exact ha h)
        have HY : Hid _ := hn
        have ha3 : (a == -1) = false := by simpa using ha
        clear hn ha
        go_enter Try.func46, Try.ntmps46
        go_wp2_with fail
        go_region
        go_wp2_with fail
        go_ret2
        exact ext_no HY.out (Below.drew (bel_up _ _))
    · go_enter Try.func46, Try.ntmps46
      go_wp2_with fail
      go_region
      go_wp2_with fail
      go_ret2
      exact ext_no (no.out (by rintro ⟨h, _⟩; cases h)) (Below.drew (bel_up _ _))
  · cases d
    · go_enter Try.func46, Try.ntmps46
      go_wp2_with fail
      go_region
      go_wp2_with fail
      go_ret2
      exact ext_no (no.out (by rintro ⟨h, _⟩; cases h)) (Below.drew (bel_up _ _))
    · by_cases ha : a = -1
      · by_cases hb2 : b = -1
        · have hy := yes.out ⟨rfl, ha, hb2⟩
          have HY : Hid _ := hy
          clear hy
          subst ha
          subst hb2
          go_enter Try.func46, Try.ntmps46
          go_wp2_with fail
          go_region
          go_wp2_with fail
          go_ret2
          exact ext_yes (s := 1) HY.out (Below.drew (bel_up _ _))
        · have hn := no.out (by rintro ⟨_, _, h⟩; exact hb2 h)
          have HY : Hid _ := hn
          have hb3 : (b == -1) = false := by simpa using hb2
          clear hn hb2
          subst ha
          go_enter Try.func46, Try.ntmps46
          go_wp2_with fail
          go_region
          go_wp2_with fail
          go_ret2
          exact ext_no HY.out (Below.drew (bel_up _ _))
      · have hn := no.out (by rintro ⟨_, h, _⟩; exact ha h)
        have HY : Hid _ := hn
        have ha3 : (a == -1) = false := by simpa using ha
        clear hn ha
        go_enter Try.func46, Try.ntmps46
        go_wp2_with fail
        go_region
        go_wp2_with fail
        go_ret2
        exact ext_no HY.out (Below.drew (bel_up _ _))
end Go.Proofs.Ytkjljnneghnpiaa.Rg
