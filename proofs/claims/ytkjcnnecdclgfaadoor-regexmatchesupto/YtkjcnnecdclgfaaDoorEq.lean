import Derived.ChangeKeysEq
import Derived.Laws.StructEq
import Derived.Test.YtkjcnnecdclgfaaDoorCls
namespace Go.Proofs.YtkjcnnecdclgfaaDoor
open Go.RowKit
theorem cells30 : Tryd.prog.cellsOf 30 = 1 := by kernel_rfl
theorem range4 : List.range 4 = [0, 1, 2, 3] := by decide
theorem eq32 (d : Nat) (x0 x1 x2 x3 y0 y1 y2 y3 : Nat) (W : World) : (Op.equalIn (d + 2) 32 (.agg #[.int .u64 (x0 : Int), .int .u64 (x1 : Int), .int .u64 (x2 : Int), .int .u64 (x3 : Int)]) (.agg #[.int .u64 (y0 : Int), .int .u64 (y1 : Int), .int .u64 (y2 : Int), .int .u64 (y3 : Int)])).run Tryd.prog W = .ok (decide (x0 = y0 ∧ x1 = y1 ∧ x2 = y2 ∧ x3 = y3)) W := by
  obtain ⟨i0, hi, hz0, hz1, hz2⟩ := info_parts info30
  have p : ∀ (a b c e : Value) (j : Nat) (v : Value), #[a, b, c, e][j]? = some v → ∀ W : World, (part 30 #[a, b, c, e] (j * 1)).run Tryd.prog W = .ok v W := by
    intro a b c e j v hj W
    simp only [part, Sem.run_bind, Tryd.isAgg30, Result.andThen_ok, Nat.mul_one, hj]
    rfl
  rw [run_equalIn_array W (d + 1) _ _ Tryd.underlying32 hi, cells30, range4]
  have q0 := fun W => p (.int .u64 (x0 : Int)) (.int .u64 (x1 : Int)) (.int .u64 (x2 : Int)) (.int .u64 (x3 : Int)) 0 (.int .u64 (x0 : Int)) rfl W
  have q1 := fun W => p (.int .u64 (x0 : Int)) (.int .u64 (x1 : Int)) (.int .u64 (x2 : Int)) (.int .u64 (x3 : Int)) 1 (.int .u64 (x1 : Int)) rfl W
  have q2 := fun W => p (.int .u64 (x0 : Int)) (.int .u64 (x1 : Int)) (.int .u64 (x2 : Int)) (.int .u64 (x3 : Int)) 2 (.int .u64 (x2 : Int)) rfl W
  have q3 := fun W => p (.int .u64 (x0 : Int)) (.int .u64 (x1 : Int)) (.int .u64 (x2 : Int)) (.int .u64 (x3 : Int)) 3 (.int .u64 (x3 : Int)) rfl W
  have r0 := fun W => p (.int .u64 (y0 : Int)) (.int .u64 (y1 : Int)) (.int .u64 (y2 : Int)) (.int .u64 (y3 : Int)) 0 (.int .u64 (y0 : Int)) rfl W
  have r1 := fun W => p (.int .u64 (y0 : Int)) (.int .u64 (y1 : Int)) (.int .u64 (y2 : Int)) (.int .u64 (y3 : Int)) 1 (.int .u64 (y1 : Int)) rfl W
  have r2 := fun W => p (.int .u64 (y0 : Int)) (.int .u64 (y1 : Int)) (.int .u64 (y2 : Int)) (.int .u64 (y3 : Int)) 2 (.int .u64 (y2 : Int)) rfl W
  have r3 := fun W => p (.int .u64 (y0 : Int)) (.int .u64 (y1 : Int)) (.int .u64 (y2 : Int)) (.int .u64 (y3 : Int)) 3 (.int .u64 (y3 : Int)) rfl W
  have e0 : ∀ (a b : Nat) (W : World), (Op.equalIn (d + 1) 30 (.int .u64 (a : Int)) (.int .u64 (b : Int))).run Tryd.prog W = .ok (decide (a = b)) W := by
    intro a b W
    rw [run_equalIn_int W d 30 .u64 .u64 _ _ Tryd.underlying30]
    have h : ((a : Int) == (b : Int)) = decide (a = b) := by
      by_cases h : a = b
      · subst h; simp
      · have h1 : ((a : Int) == (b : Int)) = false := by rw [beq_eq_false_iff_ne]; omega
        rw [h1]; simp [h]
    rw [h]
  have g : decide (x0 = y0 ∧ x1 = y1 ∧ x2 = y2 ∧ x3 = y3) = (decide (x0 = y0) && (decide (x1 = y1) && (decide (x2 = y2) && decide (x3 = y3)))) := by simp only [Bool.decide_and]
  rw [g]
  simp only [Op.eqItems, Sem.run_bind, q0, r0, e0, Result.andThen_ok]
  generalize decide (x0 = y0) = b0
  cases b0
  · simp
  simp only [Sem.run_bind, q1, r1, e0, Result.andThen_ok, Bool.not_true, Bool.false_eq_true, if_false]
  generalize decide (x1 = y1) = b1
  cases b1
  · simp
  simp only [Sem.run_bind, q2, r2, e0, Result.andThen_ok, Bool.not_true, Bool.false_eq_true, if_false]
  generalize decide (x2 = y2) = b2
  cases b2
  · simp
  simp only [Sem.run_bind, q3, r3, e0, Result.andThen_ok, Bool.not_true, Bool.false_eq_true, if_false]
  generalize decide (x3 = y3) = b3
  cases b3
  · simp
  · simp
theorem cv_eql (m m' : Nat → Bool) (W : World) : (binOp .eql 32 (CV m) (CV m')).run Tryd.prog W = .ok (.bool (decide (wd m 0 = wd m' 0 ∧ wd m 1 = wd m' 1 ∧ wd m 2 = wd m' 2 ∧ wd m 3 = wd m' 3))) W := by
  rw [run_eql_struct, eq32 9998]
  rfl
theorem fields34 : ((Tryd.prog.fieldsOf 34).toList.map fun f => (f.name == "_", f.type, f.offset)) = [(false, 29, 0), (false, 32, 1), (false, 3, 5), (false, 3, 6)] := by kernel_rfl
theorem under34 : Tryd.prog.underlying 34 = some (.struct (Tryd.prog.fieldsOf 34)) := by kernel_rfl
theorem stood34 : Tryd.prog.stoodInHeld 34 = false := by kernel_rfl
/-- A node's value. -/
abbrev ndV (op : Int) (m : Nat → Bool) (a b : Int) : Value := .agg #[.int .i64 op, .int .u64 (wd m 0 : Nat), .int .u64 (wd m 1 : Nat), .int .u64 (wd m 2 : Nat), .int .u64 (wd m 3 : Nat), .int .i64 a, .int .i64 b]
theorem nd_neq (op : Int) (m : Nat → Bool) (a b : Int) (W : World) : (binOp .neq 34 (ndV op m a b) (ndV op m a b)).run Tryd.prog W = .ok (.bool false) W := by
  obtain ⟨f0, f1, f2, f3, hl, n0, n1, n2, n3, t0, t1, t2, t3, o0, o1, o2, o3⟩ : ∃ f0 f1 f2 f3, (Tryd.prog.fieldsOf 34).toList = [f0, f1, f2, f3] ∧ (f0.name == "_") = false ∧ (f1.name == "_") = false ∧ (f2.name == "_") = false ∧ (f3.name == "_") = false ∧ f0.type = 29 ∧ f1.type = 32 ∧ f2.type = 3 ∧ f3.type = 3 ∧ f0.offset = 0 ∧ f1.offset = 1 ∧ f2.offset = 5 ∧ f3.offset = 6 := by
    have h := fields34
    generalize (Tryd.prog.fieldsOf 34).toList = l at h ⊢
    rcases l with _ | ⟨f0, _ | ⟨f1, _ | ⟨f2, _ | ⟨f3, _ | ⟨f4, l⟩⟩⟩⟩⟩
    · cases h
    · simp only [List.map_cons, List.map_nil, List.cons.injEq, reduceCtorEq, and_false] at h
    · simp only [List.map_cons, List.map_nil, List.cons.injEq, reduceCtorEq, and_false] at h
    · simp only [List.map_cons, List.map_nil, List.cons.injEq, reduceCtorEq, and_false] at h
    · simp only [List.map_cons, List.map_nil, List.cons.injEq, Prod.mk.injEq, and_true] at h
      obtain ⟨⟨a1, a2, a3⟩, ⟨b1, b2, b3⟩, ⟨c1, c2, c3⟩, ⟨d1, d2, d3⟩⟩ := h
      exact ⟨f0, f1, f2, f3, rfl, a1, b1, c1, d1, a2, b2, c2, d2, a3, b3, c3, d3⟩
    · simp only [List.map_cons, List.cons.injEq, reduceCtorEq, and_false] at h
  have m0 : ¬ f0.name = "_" := by simpa using n0
  have m1 : ¬ f1.name = "_" := by simpa using n1
  have m2 : ¬ f2.name = "_" := by simpa using n2
  have m3 : ¬ f3.name = "_" := by simpa using n3
  have pI : ∀ (t : TypeId) (xs : Array Value) (j : Nat) (v : Value), (∀ W : World, (isAgg t).run Tryd.prog W = .ok false W) → xs[j]? = some v → ∀ W : World, (part t xs j).run Tryd.prog W = .ok v W := by
    intro t xs j v ht hj W
    simp only [part, Sem.run_bind, ht, Result.andThen_ok, hj]
    rfl
  have g0 := fun W => pI 29 #[.int .i64 op, .int .u64 (wd m 0 : Nat), .int .u64 (wd m 1 : Nat), .int .u64 (wd m 2 : Nat), .int .u64 (wd m 3 : Nat), .int .i64 a, .int .i64 b] 0 (.int .i64 op) Tryd.isAgg29 rfl W
  have g2 := fun W => pI 3 #[.int .i64 op, .int .u64 (wd m 0 : Nat), .int .u64 (wd m 1 : Nat), .int .u64 (wd m 2 : Nat), .int .u64 (wd m 3 : Nat), .int .i64 a, .int .i64 b] 5 (.int .i64 a) Tryd.isAgg3 rfl W
  have g3 := fun W => pI 3 #[.int .i64 op, .int .u64 (wd m 0 : Nat), .int .u64 (wd m 1 : Nat), .int .u64 (wd m 2 : Nat), .int .u64 (wd m 3 : Nat), .int .i64 a, .int .i64 b] 6 (.int .i64 b) Tryd.isAgg3 rfl W
  have g1 : ∀ W : World, (part 32 #[.int .i64 op, .int .u64 (wd m 0 : Nat), .int .u64 (wd m 1 : Nat), .int .u64 (wd m 2 : Nat), .int .u64 (wd m 3 : Nat), .int .i64 a, .int .i64 b] 1).run Tryd.prog W = .ok (CV m) W := by
    intro W
    simp only [part, Sem.run_bind, Tryd.isAgg32, Result.andThen_ok, Tryd.sizeOf32, if_true]
    rfl
  have e1 : ∀ W : World, (Op.equalIn 9999 32 (CV m) (CV m)).run Tryd.prog W = .ok true W := by
    intro W
    rw [eq32 9997]
    simp
  have eI : ∀ (t : TypeId) (x : Int), Tryd.prog.underlying t = some (.int .i64) → ∀ W : World, (Op.equalIn 9999 t (.int .i64 x) (.int .i64 x)).run Tryd.prog W = .ok true W := by
    intro t x ht W
    rw [run_equalIn_int W 9998 t .i64 .i64 _ _ ht]
    simp
  rw [run_neq_struct, run_equalIn_agg W 9999 34 _ _ under34 stood34, hl]
  simp only [Op.eqFields, m0, m1, m2, m3, t0, t1, t2, t3, o0, o1, o2, o3, Sem.run_bind, g0, g1, g2, g3, e1, eI 29 op Tryd.underlying29, eI 3 a Tryd.underlying3, eI 3 b Tryd.underlying3, Result.andThen_ok, ne_eq, not_false_eq_true, if_true, Bool.not_true, Bool.false_eq_true, if_false, Sem.run_pure]
end Go.Proofs.YtkjcnnecdclgfaaDoor
