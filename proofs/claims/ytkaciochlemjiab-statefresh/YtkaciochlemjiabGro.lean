import Derived.Test.YtkaciochlemjiabDcz
import Derived.Lib.AppendZerosOnto
namespace Go.Proofs.Ytkaciochlemjiab
open Go.RowKit Go.Maps

/-- A new row of nothing, with room. -/
theorem room_row {W : World} {e : TypeId} {size n cap : Nat} {z : Array Value} (hz : z.size = size) (hn : n ≤ cap) (hc : cap ≤ maxLen) :
    (W.drew.alloc (.cells ((#[] : Array Value) ++ Builtin.zeroCells z n ++ Builtin.zeroCells z (cap - n)) e)).ownsRow W.heap.size e size (.slice (some ⟨W.heap.size, 0, none⟩) 0 cap) 0 [] ∧
    Below W.heap.size W (W.drew.alloc (.cells ((#[] : Array Value) ++ Builtin.zeroCells z n ++ Builtin.zeroCells z (cap - n)) e)) := by
  refine ⟨⟨by simp, .inr ⟨W.heap.size, cap, _, rfl, Nat.le_refl _, heap_alloc_new W.drew _, Nat.zero_le _, hc, ?_, by simp⟩⟩, ?_⟩
  · simp only [Array.size_append, size_zeroCells, hz]
    rw [show (#[] : Array Value).size = 0 from rfl, Nat.zero_add, ← Nat.add_mul]
    congr 1
    omega
  · exact (Below.refl _ _).drew.alloc (Nat.le_refl _) _

set_option maxRecDepth 100000 in
set_option maxHeartbeats 4000000 in
theorem grw72_any (n : Nat) (hn : n ≤ 32) (W : World) : Calls Try.prog 68 #[.slice none 0 0, .int .i64 (n : Int)] W fun e W' => ∃ v, e = .returned v ∧ W'.ownsRow W.heap.size 3 1 v 0 [] ∧ Below W.heap.size W W' := by
  rcases Nat.eq_zero_or_pos n with h0 | h0
  · subst h0
    refine (grow72_any W).mono ?_
    rintro e w ⟨rfl, rfl⟩
    exact ⟨_, rfl, World.ownsRow_nil _ _ _ _, Below.refl _ _⟩
  obtain ⟨i, hi, hx0, hx1, hx2⟩ := info_parts info3
  have hrz : ∀ ty, (Builtin.append_ #[22, 3] ty #[.slice none 0 0, .int .i64 (n : Int)]).run Try.prog W = .ok (.slice (some ⟨W.heap.size, 0, none⟩) n (grownCap W n 0 3)) (W.drew.alloc (.cells ((#[] : Array Value) ++ Builtin.zeroCells (.int .i64 0 : Value).cells n ++ Builtin.zeroCells (.int .i64 0 : Value).cells (grownCap W n 0 3 - n)) 3)) := fun ty => by
    have h := Lib.run_append_grow_zeros (P := Try.prog) W 22 3 ty 3 i (.int .i64 0) .i64 .i64 Try.underlying22 (by kernel_rfl) hi hx0 none 0 0 [] (run_firstCells_none W.drew i.size 0 0 0) n h0 (by omega) (by omega) (by omega) (by rw [hx2]; omega)
      (by rw [Nat.zero_add]; exact growslice_fits (by omega) (by rw [hx2]; omega))
    rw [Nat.zero_add] at h
    exact h
  have hge : n ≤ grownCap W n 0 3 := grownCap_ge W _ _ _
  have hle : grownCap W n 0 3 ≤ maxLen := grownCap_le_maxLen W n 0 3 (by unfold maxLen; omega)
  obtain ⟨G, hG⟩ : ∃ G, G = grownCap W n 0 3 := ⟨_, rfl⟩
  rw [← hG] at hrz hge hle
  obtain ⟨W2, hW2⟩ : ∃ W2, W2 = (W.drew.alloc (.cells ((#[] : Array Value) ++ Builtin.zeroCells (.int .i64 0 : Value).cells n ++ Builtin.zeroCells (.int .i64 0 : Value).cells (G - n)) 3)) := ⟨_, rfl⟩
  rw [← hW2] at hrz
  have HR : Hid (W2.ownsRow W.heap.size 3 1 (.slice (some ⟨W.heap.size, 0, none⟩) 0 G) 0 [] ∧ Below W.heap.size W W2) := by rw [hW2]; exact room_row (by rfl) hge hle
  have HZ : Hid _ := hrz
  have d1 : decide ((n : Int) < 0) = false := by rw [decide_eq_false_iff_not]; omega
  have d2 : decide ((0 : Int) < (n : Int)) = true := by rw [decide_eq_true_eq]; omega
  have d3 : decide (0 < n) = true := by rw [decide_eq_true_eq]; omega
  have d4 : wrap64 (n : Int) = (n : Int) := by unfold wrap64; omega
  have D4 : Hid _ := d4
  have d5 : ¬ (9223372036854775807 < G) := by unfold maxLen at hle; omega
  have d6 : (0 : Int) ≤ (G : Int) := by omega
  have d7 : 0 ≤ G := Nat.zero_le _
  clear hrz hW2 hG hge hle hi hx0 hx1 hx2 hn h0
  go_enter Try.func68, Try.ntmps68
  go_wp2_with (at_builtin; refine Lib.wpList_append_run _ rfl _ _ _ _ rfl (.slice none 0 0) (.int .i64 (n : Int)) rfl (by first | rfl | exact congrArg (Value.int .i64) D4.out) _ _ (HZ.out _) ?_)
  all_goals (go_ret; exact ⟨_, rfl, HR.out⟩)

set_option maxRecDepth 100000 in
set_option maxHeartbeats 4000000 in
theorem grw73_any (n : Nat) (hn : n ≤ 8) (W : World) : Calls Try.prog 69 #[.slice none 0 0, .int .i64 (n : Int)] W fun e W' => ∃ v, e = .returned v ∧ W'.ownsRow W.heap.size 9 1 v 0 [] ∧ Below W.heap.size W W' := by
  rcases Nat.eq_zero_or_pos n with h0 | h0
  · subst h0
    refine (grow73_any W).mono ?_
    rintro e w ⟨rfl, rfl⟩
    exact ⟨_, rfl, World.ownsRow_nil _ _ _ _, Below.refl _ _⟩
  obtain ⟨i, hi, hx0, hx1, hx2⟩ := info_parts info9
  have hrz : ∀ ty, (Builtin.append_ #[23, 3] ty #[.slice none 0 0, .int .i64 (n : Int)]).run Try.prog W = .ok (.slice (some ⟨W.heap.size, 0, none⟩) n (grownCap W n 0 9)) (W.drew.alloc (.cells ((#[] : Array Value) ++ Builtin.zeroCells (.string ⟨#[]⟩ : Value).cells n ++ Builtin.zeroCells (.string ⟨#[]⟩ : Value).cells (grownCap W n 0 9 - n)) 9)) := fun ty => by
    have h := Lib.run_append_grow_zeros (P := Try.prog) W 23 3 ty 9 i (.string ⟨#[]⟩) .i64 .i64 Try.underlying23 (by kernel_rfl) hi hx0 none 0 0 [] (run_firstCells_none W.drew i.size 0 0 0) n h0 (by omega) (by omega) (by omega) (by rw [hx2]; omega)
      (by rw [Nat.zero_add]; exact growslice_fits (by omega) (by rw [hx2]; omega))
    rw [Nat.zero_add] at h
    exact h
  have hge : n ≤ grownCap W n 0 9 := grownCap_ge W _ _ _
  have hle : grownCap W n 0 9 ≤ maxLen := grownCap_le_maxLen W n 0 9 (by unfold maxLen; omega)
  obtain ⟨G, hG⟩ : ∃ G, G = grownCap W n 0 9 := ⟨_, rfl⟩
  rw [← hG] at hrz hge hle
  obtain ⟨W2, hW2⟩ : ∃ W2, W2 = (W.drew.alloc (.cells ((#[] : Array Value) ++ Builtin.zeroCells (.string ⟨#[]⟩ : Value).cells n ++ Builtin.zeroCells (.string ⟨#[]⟩ : Value).cells (G - n)) 9)) := ⟨_, rfl⟩
  rw [← hW2] at hrz
  have HR : Hid (W2.ownsRow W.heap.size 9 1 (.slice (some ⟨W.heap.size, 0, none⟩) 0 G) 0 [] ∧ Below W.heap.size W W2) := by rw [hW2]; exact room_row (by rfl) hge hle
  have HZ : Hid _ := hrz
  have d1 : decide ((n : Int) < 0) = false := by rw [decide_eq_false_iff_not]; omega
  have d2 : decide ((0 : Int) < (n : Int)) = true := by rw [decide_eq_true_eq]; omega
  have d3 : decide (0 < n) = true := by rw [decide_eq_true_eq]; omega
  have d4 : wrap64 (n : Int) = (n : Int) := by unfold wrap64; omega
  have D4 : Hid _ := d4
  have d5 : ¬ (9223372036854775807 < G) := by unfold maxLen at hle; omega
  have d6 : (0 : Int) ≤ (G : Int) := by omega
  have d7 : 0 ≤ G := Nat.zero_le _
  clear hrz hW2 hG hge hle hi hx0 hx1 hx2 hn h0
  go_enter Try.func69, Try.ntmps69
  go_wp2_with (at_builtin; refine Lib.wpList_append_run _ rfl _ _ _ _ rfl (.slice none 0 0) (.int .i64 (n : Int)) rfl (by first | rfl | exact congrArg (Value.int .i64) D4.out) _ _ (HZ.out _) ?_)
  all_goals (go_ret; exact ⟨_, rfl, HR.out⟩)

set_option maxRecDepth 100000 in
set_option maxHeartbeats 4000000 in
theorem grw74_any (n : Nat) (hn : n ≤ 16) (W : World) : Calls Try.prog 70 #[.slice none 0 0, .int .i64 (n : Int)] W fun e W' => ∃ v, e = .returned v ∧ W'.ownsRow W.heap.size 42 2 v 0 [] ∧ Below W.heap.size W W' := by
  rcases Nat.eq_zero_or_pos n with h0 | h0
  · subst h0
    refine (grow74_any W).mono ?_
    rintro e w ⟨rfl, rfl⟩
    exact ⟨_, rfl, World.ownsRow_nil _ _ _ _, Below.refl _ _⟩
  obtain ⟨i, hi, hx0, hx1, hx2⟩ := info_parts info54
  have hrz : ∀ ty, (Builtin.append_ #[24, 3] ty #[.slice none 0 0, .int .i64 (n : Int)]).run Try.prog W = .ok (.slice (some ⟨W.heap.size, 0, none⟩) n (grownCap W n 0 42)) (W.drew.alloc (.cells ((#[] : Array Value) ++ Builtin.zeroCells (.agg #[.int .i64 0, .string ⟨#[]⟩] : Value).cells n ++ Builtin.zeroCells (.agg #[.int .i64 0, .string ⟨#[]⟩] : Value).cells (grownCap W n 0 42 - n)) 42)) := fun ty => by
    have h := Lib.run_append_grow_zeros (P := Try.prog) W 24 3 ty 42 i (.agg #[.int .i64 0, .string ⟨#[]⟩]) .i64 .i64 Try.underlying24 (by kernel_rfl) hi hx0 none 0 0 [] (run_firstCells_none W.drew i.size 0 0 0) n h0 (by omega) (by omega) (by omega) (by rw [hx2]; omega)
      (by rw [Nat.zero_add]; exact growslice_fits (by omega) (by rw [hx2]; omega))
    rw [Nat.zero_add] at h
    exact h
  have hge : n ≤ grownCap W n 0 42 := grownCap_ge W _ _ _
  have hle : grownCap W n 0 42 ≤ maxLen := grownCap_le_maxLen W n 0 42 (by unfold maxLen; omega)
  obtain ⟨G, hG⟩ : ∃ G, G = grownCap W n 0 42 := ⟨_, rfl⟩
  rw [← hG] at hrz hge hle
  obtain ⟨W2, hW2⟩ : ∃ W2, W2 = (W.drew.alloc (.cells ((#[] : Array Value) ++ Builtin.zeroCells (.agg #[.int .i64 0, .string ⟨#[]⟩] : Value).cells n ++ Builtin.zeroCells (.agg #[.int .i64 0, .string ⟨#[]⟩] : Value).cells (G - n)) 42)) := ⟨_, rfl⟩
  rw [← hW2] at hrz
  have HR : Hid (W2.ownsRow W.heap.size 42 2 (.slice (some ⟨W.heap.size, 0, none⟩) 0 G) 0 [] ∧ Below W.heap.size W W2) := by rw [hW2]; exact room_row (by rfl) hge hle
  have HZ : Hid _ := hrz
  have d1 : decide ((n : Int) < 0) = false := by rw [decide_eq_false_iff_not]; omega
  have d2 : decide ((0 : Int) < (n : Int)) = true := by rw [decide_eq_true_eq]; omega
  have d3 : decide (0 < n) = true := by rw [decide_eq_true_eq]; omega
  have d4 : wrap64 (n : Int) = (n : Int) := by unfold wrap64; omega
  have D4 : Hid _ := d4
  have d5 : ¬ (9223372036854775807 < G) := by unfold maxLen at hle; omega
  have d6 : (0 : Int) ≤ (G : Int) := by omega
  have d7 : 0 ≤ G := Nat.zero_le _
  clear hrz hW2 hG hge hle hi hx0 hx1 hx2 hn h0
  go_enter Try.func70, Try.ntmps70
  go_wp2_with (at_builtin; refine Lib.wpList_append_run _ rfl _ _ _ _ rfl (.slice none 0 0) (.int .i64 (n : Int)) rfl (by first | rfl | exact congrArg (Value.int .i64) D4.out) _ _ (HZ.out _) ?_)
  all_goals (go_ret; exact ⟨_, rfl, HR.out⟩)
end Go.Proofs.Ytkaciochlemjiab
