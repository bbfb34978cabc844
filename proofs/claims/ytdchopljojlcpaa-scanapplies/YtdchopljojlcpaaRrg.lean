import Derived.Test.YtdchopljojlcpaaRrf
import Derived.Test.YtdchopljojlcpaaSam
import Derived.ChangeKeysEq
import Derived.Laws.StructEq
namespace Go.Proofs.Ytdchopljojlcpaa
open Go.RowKit Go.Maps

theorem cells34 : Try.prog.cellsOf 34 = 1 := by kernel_rfl
theorem info34 : (Try.prog.info? 34).map (fun i => (i.zero, i.size, i.bytes)) = some (some (.int .u64 0), 1, 8) := by kernel_rfl
theorem range4 : List.range 4 = [0, 1, 2, 3] := by decide
theorem eq48 (d : Nat) (x0 x1 x2 x3 : Int) (W : World) : (Op.equalIn (d + 2) 48 (.agg #[.int .u64 x0, .int .u64 x1, .int .u64 x2, .int .u64 x3]) (.agg #[.int .u64 x0, .int .u64 x1, .int .u64 x2, .int .u64 x3])).run Try.prog W = .ok true W := by
  obtain ⟨i0, hi, hz0, hz1, hz2⟩ := info_parts info34
  have p : ∀ (a b c e : Value) (j : Nat) (v : Value), #[a, b, c, e][j]? = some v → ∀ W : World, (part 34 #[a, b, c, e] (j * 1)).run Try.prog W = .ok v W := by
    intro a b c e j v hj W
    simp only [part, Sem.run_bind, Try.isAgg34, Result.andThen_ok, Nat.mul_one, hj]
    rfl
  rw [run_equalIn_array W (d + 1) _ _ Try.underlying48 hi, cells34, range4]
  have q0 := fun W => p (.int .u64 x0) (.int .u64 x1) (.int .u64 x2) (.int .u64 x3) 0 (.int .u64 x0) rfl W
  have q1 := fun W => p (.int .u64 x0) (.int .u64 x1) (.int .u64 x2) (.int .u64 x3) 1 (.int .u64 x1) rfl W
  have q2 := fun W => p (.int .u64 x0) (.int .u64 x1) (.int .u64 x2) (.int .u64 x3) 2 (.int .u64 x2) rfl W
  have q3 := fun W => p (.int .u64 x0) (.int .u64 x1) (.int .u64 x2) (.int .u64 x3) 3 (.int .u64 x3) rfl W
  have e0 : ∀ (a : Int) (W : World), (Op.equalIn (d + 1) 34 (.int .u64 a) (.int .u64 a)).run Try.prog W = .ok true W := by
    intro a W
    rw [run_equalIn_int W d 34 .u64 .u64 _ _ Try.underlying34]
    simp
  simp only [Op.eqItems, Sem.run_bind, q0, e0, Result.andThen_ok, q1, q2, q3, Bool.not_true, Bool.false_eq_true, if_false, Sem.run_pure]
theorem fields50 : ((Try.prog.fieldsOf 50).toList.map fun f => (f.name == "_", f.type, f.offset)) = [(false, 46, 0), (false, 48, 1), (false, 3, 5), (false, 3, 6)] := by kernel_rfl
theorem under50 : Try.prog.underlying 50 = some (.struct (Try.prog.fieldsOf 50)) := by kernel_rfl
theorem stood50 : Try.prog.stoodInHeld 50 = false := by kernel_rfl
theorem nd_neq (op x0 x1 x2 x3 a b : Int) (W : World) : (binOp .neq 50 (.agg #[.int .i64 op, .int .u64 x0, .int .u64 x1, .int .u64 x2, .int .u64 x3, .int .i64 a, .int .i64 b]) (.agg #[.int .i64 op, .int .u64 x0, .int .u64 x1, .int .u64 x2, .int .u64 x3, .int .i64 a, .int .i64 b])).run Try.prog W = .ok (.bool false) W := by
  obtain ⟨f0, f1, f2, f3, hl, n0, n1, n2, n3, t0, t1, t2, t3, o0, o1, o2, o3⟩ : ∃ f0 f1 f2 f3, (Try.prog.fieldsOf 50).toList = [f0, f1, f2, f3] ∧ (f0.name == "_") = false ∧ (f1.name == "_") = false ∧ (f2.name == "_") = false ∧ (f3.name == "_") = false ∧ f0.type = 46 ∧ f1.type = 48 ∧ f2.type = 3 ∧ f3.type = 3 ∧ f0.offset = 0 ∧ f1.offset = 1 ∧ f2.offset = 5 ∧ f3.offset = 6 := by
    have h := fields50
    generalize (Try.prog.fieldsOf 50).toList = l at h ⊢
    rcases l with _ | ⟨f0, _ | ⟨f1, _ | ⟨f2, _ | ⟨f3, _ | ⟨f4, l⟩⟩⟩⟩⟩
    · cases h
    · simp only [List.map_cons, List.map_nil, List.cons.injEq, reduceCtorEq, and_false] at h
    · simp only [List.map_cons, List.map_nil, List.cons.injEq, reduceCtorEq, and_false] at h
    · simp only [List.map_cons, List.map_nil, List.cons.injEq, reduceCtorEq, and_false] at h
    · simp only [List.map_cons, List.map_nil, List.cons.injEq, Prod.mk.injEq, and_true] at h
      obtain ⟨⟨a1, a2, a3⟩, ⟨b1, b2, b3⟩, ⟨c1, c2, c3⟩, ⟨d1, d2, d3⟩⟩ := h
      exact ⟨f0, f1, f2, f3, rfl, a1, b1, c1, d1, a2, b2, c2, d2, a3, b3, c3, d3⟩
    · simp only [List.map_cons, List.cons.injEq, reduceCtorEq, and_false] at h
  have m0 : ¬ f0.name = "_" := by simpa using n0
  have m1 : ¬ f1.name = "_" := by simpa using n1
  have m2 : ¬ f2.name = "_" := by simpa using n2
  have m3 : ¬ f3.name = "_" := by simpa using n3
  have pI : ∀ (t : TypeId) (xs : Array Value) (j : Nat) (v : Value), (∀ W : World, (isAgg t).run Try.prog W = .ok false W) → xs[j]? = some v → ∀ W : World, (part t xs j).run Try.prog W = .ok v W := by
    intro t xs j v ht hj W
    simp only [part, Sem.run_bind, ht, Result.andThen_ok, hj]
    rfl
  have g0 := fun W => pI 46 #[.int .i64 op, .int .u64 x0, .int .u64 x1, .int .u64 x2, .int .u64 x3, .int .i64 a, .int .i64 b] 0 (.int .i64 op) Try.isAgg46 rfl W
  have g2 := fun W => pI 3 #[.int .i64 op, .int .u64 x0, .int .u64 x1, .int .u64 x2, .int .u64 x3, .int .i64 a, .int .i64 b] 5 (.int .i64 a) Try.isAgg3 rfl W
  have g3 := fun W => pI 3 #[.int .i64 op, .int .u64 x0, .int .u64 x1, .int .u64 x2, .int .u64 x3, .int .i64 a, .int .i64 b] 6 (.int .i64 b) Try.isAgg3 rfl W
  have g1 : ∀ W : World, (part 48 #[.int .i64 op, .int .u64 x0, .int .u64 x1, .int .u64 x2, .int .u64 x3, .int .i64 a, .int .i64 b] 1).run Try.prog W = .ok (.agg #[.int .u64 x0, .int .u64 x1, .int .u64 x2, .int .u64 x3]) W := by
    intro W
    simp only [part, Sem.run_bind, Try.isAgg48, Result.andThen_ok, Try.sizeOf48, if_true]
    rfl
  have e1 : ∀ W : World, (Op.equalIn 9999 48 (.agg #[.int .u64 x0, .int .u64 x1, .int .u64 x2, .int .u64 x3]) (.agg #[.int .u64 x0, .int .u64 x1, .int .u64 x2, .int .u64 x3])).run Try.prog W = .ok true W := by
    intro W
    exact eq48 9997 x0 x1 x2 x3 W
  have eI : ∀ (t : TypeId) (x : Int), Try.prog.underlying t = some (.int .i64) → ∀ W : World, (Op.equalIn 9999 t (.int .i64 x) (.int .i64 x)).run Try.prog W = .ok true W := by
    intro t x ht W
    rw [run_equalIn_int W 9998 t .i64 .i64 _ _ ht]
    simp
  rw [run_neq_struct, run_equalIn_agg W 9999 50 _ _ under50 stood50, hl]
  simp only [Op.eqFields, m0, m1, m2, m3, t0, t1, t2, t3, o0, o1, o2, o3, Sem.run_bind, g0, g1, g2, g3, e1, eI 46 op Try.underlying46, eI 3 a Try.underlying3, eI 3 b Try.underlying3, Result.andThen_ok, ne_eq, not_false_eq_true, if_true, Bool.not_true, Bool.false_eq_true, if_false, Sem.run_pure]
theorem fields56 : ((Try.prog.fieldsOf 56).toList.map fun f => (f.name == "_", f.type, f.offset)) = [(false, 54, 0), (false, 3, 1), (false, 3, 2)] := by kernel_rfl
theorem under56 : Try.prog.underlying 56 = some (.struct (Try.prog.fieldsOf 56)) := by kernel_rfl
theorem stood56 : Try.prog.stoodInHeld 56 = false := by kernel_rfl
theorem ac_neq (x y z : Int) (W : World) : (binOp .neq 56 (.agg #[.int .i64 x, .int .i64 y, .int .i64 z]) (.agg #[.int .i64 x, .int .i64 y, .int .i64 z])).run Try.prog W = .ok (.bool false) W := by
  obtain ⟨f0, f1, f2, hl, n0, n1, n2, t0, t1, t2, o0, o1, o2⟩ : ∃ f0 f1 f2, (Try.prog.fieldsOf 56).toList = [f0, f1, f2] ∧ (f0.name == "_") = false ∧ (f1.name == "_") = false ∧ (f2.name == "_") = false ∧ f0.type = 54 ∧ f1.type = 3 ∧ f2.type = 3 ∧ f0.offset = 0 ∧ f1.offset = 1 ∧ f2.offset = 2 := by
    have h := fields56
    generalize (Try.prog.fieldsOf 56).toList = l at h ⊢
    rcases l with _ | ⟨f0, _ | ⟨f1, _ | ⟨f2, _ | ⟨f3, l⟩⟩⟩⟩
    · cases h
    · simp only [List.map_cons, List.map_nil, List.cons.injEq, reduceCtorEq, and_false] at h
    · simp only [List.map_cons, List.map_nil, List.cons.injEq, reduceCtorEq, and_false] at h
    · simp only [List.map_cons, List.map_nil, List.cons.injEq, Prod.mk.injEq, and_true] at h
      obtain ⟨⟨a1, a2, a3⟩, ⟨b1, b2, b3⟩, ⟨c1, c2, c3⟩⟩ := h
      exact ⟨f0, f1, f2, rfl, a1, b1, c1, a2, b2, c2, a3, b3, c3⟩
    · simp only [List.map_cons, List.cons.injEq, reduceCtorEq, and_false] at h
  have m0 : ¬ f0.name = "_" := by simpa using n0
  have m1 : ¬ f1.name = "_" := by simpa using n1
  have m2 : ¬ f2.name = "_" := by simpa using n2
  have pI : ∀ (t : TypeId) (xs : Array Value) (j : Nat) (v : Value), (∀ W : World, (isAgg t).run Try.prog W = .ok false W) → xs[j]? = some v → ∀ W : World, (part t xs j).run Try.prog W = .ok v W := by
    intro t xs j v ht hj W
    simp only [part, Sem.run_bind, ht, Result.andThen_ok, hj]
    rfl
  have g0 := fun W => pI 54 #[.int .i64 x, .int .i64 y, .int .i64 z] 0 (.int .i64 x) Try.isAgg54 rfl W
  have g1 := fun W => pI 3 #[.int .i64 x, .int .i64 y, .int .i64 z] 1 (.int .i64 y) Try.isAgg3 rfl W
  have g2 := fun W => pI 3 #[.int .i64 x, .int .i64 y, .int .i64 z] 2 (.int .i64 z) Try.isAgg3 rfl W
  have eI : ∀ (m : Int) (W : World), (Op.equalIn 9999 3 (.int .i64 m) (.int .i64 m)).run Try.prog W = .ok true W := by
    intro m W
    rw [run_equalIn_int W 9998 3 .i64 .i64 _ _ Try.underlying3]
    simp
  have eK : ∀ (m : Int) (W : World), (Op.equalIn 9999 54 (.int .i64 m) (.int .i64 m)).run Try.prog W = .ok true W := by
    intro m W
    rw [run_equalIn_int W 9998 54 .i64 .i64 _ _ Try.underlying54]
    simp
  rw [run_neq_struct, run_equalIn_agg W 9999 56 _ _ under56 stood56, hl]
  simp only [Op.eqFields, m0, m1, m2, t0, t1, t2, o0, o1, o2, Sem.run_bind, g0, eK, Result.andThen_ok, ne_eq, not_false_eq_true, if_true]
  simp [Sem.run_bind, g1, g2, eI]

theorem fields53 : ((Try.prog.fieldsOf 53).toList.map fun f => (f.name == "_", f.type, f.offset)) = [(false, 51, 0), (false, 3, 1)] := by kernel_rfl
theorem under53 : Try.prog.underlying 53 = some (.struct (Try.prog.fieldsOf 53)) := by kernel_rfl
theorem stood53 : Try.prog.stoodInHeld 53 = false := by kernel_rfl
theorem te_neq (x y : Int) (W : World) : (binOp .neq 53 (.agg #[.int .i64 x, .int .i64 y]) (.agg #[.int .i64 x, .int .i64 y])).run Try.prog W = .ok (.bool false) W := by
  obtain ⟨f0, f1, hl, n0, n1, t0, t1, o0, o1⟩ : ∃ f0 f1, (Try.prog.fieldsOf 53).toList = [f0, f1] ∧ (f0.name == "_") = false ∧ (f1.name == "_") = false ∧ f0.type = 51 ∧ f1.type = 3 ∧ f0.offset = 0 ∧ f1.offset = 1 := by
    have h := fields53
    generalize (Try.prog.fieldsOf 53).toList = l at h ⊢
    rcases l with _ | ⟨f0, _ | ⟨f1, _ | ⟨f2, l⟩⟩⟩
    · cases h
    · simp only [List.map_cons, List.map_nil, List.cons.injEq, reduceCtorEq, and_false] at h
    · simp only [List.map_cons, List.map_nil, List.cons.injEq, Prod.mk.injEq, and_true] at h
      obtain ⟨⟨a1, a2, a3⟩, ⟨b1, b2, b3⟩⟩ := h
      exact ⟨f0, f1, rfl, a1, b1, a2, b2, a3, b3⟩
    · simp only [List.map_cons, List.cons.injEq, reduceCtorEq, and_false] at h
  have m0 : ¬ f0.name = "_" := by simpa using n0
  have m1 : ¬ f1.name = "_" := by simpa using n1
  have pI : ∀ (t : TypeId) (xs : Array Value) (j : Nat) (v : Value), (∀ W : World, (isAgg t).run Try.prog W = .ok false W) → xs[j]? = some v → ∀ W : World, (part t xs j).run Try.prog W = .ok v W := by
    intro t xs j v ht hj W
    simp only [part, Sem.run_bind, ht, Result.andThen_ok, hj]
    rfl
  have g0 := fun W => pI 51 #[.int .i64 x, .int .i64 y] 0 (.int .i64 x) Try.isAgg51 rfl W
  have g1 := fun W => pI 3 #[.int .i64 x, .int .i64 y] 1 (.int .i64 y) Try.isAgg3 rfl W
  have eI : ∀ (m : Int) (W : World), (Op.equalIn 9999 3 (.int .i64 m) (.int .i64 m)).run Try.prog W = .ok true W := by
    intro m W
    rw [run_equalIn_int W 9998 3 .i64 .i64 _ _ Try.underlying3]
    simp
  have eK : ∀ (m : Int) (W : World), (Op.equalIn 9999 51 (.int .i64 m) (.int .i64 m)).run Try.prog W = .ok true W := by
    intro m W
    rw [run_equalIn_int W 9998 51 .i64 .i64 _ _ Try.underlying51]
    simp
  rw [run_neq_struct, run_equalIn_agg W 9999 53 _ _ under53 stood53, hl]
  simp only [Op.eqFields, m0, m1, t0, t1, o0, o1, Sem.run_bind, g0, eK, Result.andThen_ok, ne_eq, not_false_eq_true, if_true]
  simp [Sem.run_bind, g1, eI]

theorem mk_at {B : Nat} {W : World} {e : TypeId} {size g k n : Nat} {cs mk : List Value} (h : Mk B W e size g k n cs mk) (hl : cs.length = n * size) (hm : mk.length = size) (i j : Nat) (u : Value) (hi : i < 3) (hu : mk[j]? = some u) : W.cell? ⟨g, (n + i) * size + j, none⟩ = some u := by
  have hj : j < size := by have := (List.getElem?_eq_some_iff.1 hu).1; omega
  refine row_at h _ u ?_
  have e0 : (n + i) * size + j = n * size + (i * size + j) := by rw [Nat.add_mul]; omega
  rw [e0, List.getElem?_append_right (by rw [hl]; omega), hl, show n * size + (i * size + j) - n * size = i * size + j by omega]
  rcases i with _ | _ | _ | i
  · rw [Nat.zero_mul, Nat.zero_add, List.getElem?_append_left (by omega)]; exact hu
  · rw [List.getElem?_append_right (by omega), hm, show (0 + 1) * size + j - size = j by omega, List.getElem?_append_left (by omega)]; exact hu
  · rw [List.getElem?_append_right (by omega), hm, show (0 + 1 + 1) * size + j - size = size + j by omega, List.getElem?_append_right (by omega), hm, show size + j - size = j by omega]; exact hu
  · omega
end Go.Proofs.Ytdchopljojlcpaa
