import Derived.Test.YtgdmoeocgflhgaaDoorTbo
import Derived.Laws.StructEq
namespace Go.Proofs.YtgdmoeocgflhgaaDoor
open Go.RowKit Go.Maps

theorem fields52 : ((Tryd.prog.fieldsOf 52).toList.map fun f => (f.name == "_", f.type, f.offset)) = [(false, 50, 0), (false, 3, 1)] := by kernel_rfl
theorem under52s : Tryd.prog.underlying 52 = some (.struct (Tryd.prog.fieldsOf 52)) := by kernel_rfl
theorem stood52 : Tryd.prog.stoodInHeld 52 = false := by kernel_rfl
theorem equal52 (x y : Int) (W : World) : (Op.equalIn 10000 52 (.agg #[.int .i64 x, .int .i64 y]) (.agg #[.int .i64 x, .int .i64 y])).run Tryd.prog W = .ok true W := by
  obtain ⟨f0, f1, hl, n0, n1, t0, t1, o0, o1⟩ : ∃ f0 f1, (Tryd.prog.fieldsOf 52).toList = [f0, f1] ∧ (f0.name == "_") = false ∧ (f1.name == "_") = false ∧ f0.type = 50 ∧ f1.type = 3 ∧ f0.offset = 0 ∧ f1.offset = 1 := by
    have h := fields52
    generalize (Tryd.prog.fieldsOf 52).toList = l at h ⊢
    rcases l with _ | ⟨f0, _ | ⟨f1, _ | ⟨f2, l⟩⟩⟩
    · cases h
    · simp only [List.map_cons, List.map_nil, List.cons.injEq, reduceCtorEq, and_false] at h
    · simp only [List.map_cons, List.map_nil, List.cons.injEq, Prod.mk.injEq, and_true] at h
      obtain ⟨⟨a0, b0, c0⟩, ⟨a1, b1, c1⟩⟩ := h
      exact ⟨f0, f1, rfl, a0, a1, b0, b1, c0, c1⟩
    · simp only [List.map_cons, List.cons.injEq, reduceCtorEq, and_false] at h
  have m0 : ¬ f0.name = "_" := by simpa using n0
  have m1 : ¬ f1.name = "_" := by simpa using n1
  have pI : ∀ (t : TypeId) (xs : Array Value) (j : Nat) (v : Value), (∀ W : World, (isAgg t).run Tryd.prog W = .ok false W) → xs[j]? = some v → ∀ W : World, (part t xs j).run Tryd.prog W = .ok v W := by
    intro t xs j v ht hj W
    simp only [part, Sem.run_bind, ht, Result.andThen_ok, hj]
    rfl
  have g0 := fun W => pI 50 #[.int .i64 x, .int .i64 y] 0 (.int .i64 x) Tryd.isAgg50 rfl W
  have e0 : ∀ W : World, (Op.equalIn 9999 50 (.int .i64 x) (.int .i64 x)).run Tryd.prog W = .ok true W := by intro W; rw [run_equalIn_int W 9998 50 .i64 .i64 _ _ Tryd.underlying50]; simp
  have g1 := fun W => pI 3 #[.int .i64 x, .int .i64 y] 1 (.int .i64 y) Tryd.isAgg3 rfl W
  have e1 : ∀ W : World, (Op.equalIn 9999 3 (.int .i64 y) (.int .i64 y)).run Tryd.prog W = .ok true W := by intro W; rw [run_equalIn_int W 9998 3 .i64 .i64 _ _ Tryd.underlying3]; simp
  rw [run_equalIn_agg W 9999 52 _ _ under52s stood52, hl]
  simp only [Op.eqFields, m0, t0, o0, g0, e0, m1, t1, o1, g1, e1, Sem.run_bind, Result.andThen_ok, ne_eq, not_false_eq_true, if_true, Bool.not_true, Bool.false_eq_true, if_false, Sem.run_pure]
theorem neq52 (x y : Int) (W : World) : (binOp .neq 52 (.agg #[.int .i64 x, .int .i64 y]) (.agg #[.int .i64 x, .int .i64 y])).run Tryd.prog W = .ok (.bool false) W := by
  rw [run_neq_struct, equal52]
  rfl
theorem eql52 (x y : Int) (W : World) : (binOp .eql 52 (.agg #[.int .i64 x, .int .i64 y]) (.agg #[.int .i64 x, .int .i64 y])).run Tryd.prog W = .ok (.bool true) W := by
  rw [run_eql_struct, equal52]
  rfl
/-- Two blocks of a call over two tables. -/
structure B2 (W : World) (ga gb : Nat) (v0 v1 u0 u1 : Value) : Prop where
  a : W.heap[ga]? = some (.cells #[v0, v1] 25 (0, 0))
  b : W.heap[gb]? = some (.cells #[u0, u1] 25 (0, 0))
theorem B2.up {W W' : World} {ga gb : Nat} {v0 v1 u0 u1 : Value} (h : B2 W ga gb v0 v1 u0 u1) (hb : Below W.heap.size W W') : B2 W' ga gb v0 v1 u0 u1 :=
  ⟨(hb.block _ (lt_of_heap h.a)).trans h.a, (hb.block _ (lt_of_heap h.b)).trans h.b⟩
theorem B2.mk2 (w : World) (v0 v1 u0 u1 : Value) : B2 ((w.alloc (.cells #[v0, v1] 25)).alloc (.cells #[u0, u1] 25)) w.heap.size (w.heap.size + 1) v0 v1 u0 u1 := by
  have e1 := heap_new w (.cells #[v0, v1] 25)
  have e2 := heap_new (w.alloc (.cells #[v0, v1] 25)) (.cells #[u0, u1] 25)
  rw [World.size_alloc] at e2
  exact ⟨((bel_up _ _).block _ (lt_of_heap e1)).trans e1, e2⟩
theorem snd_same {α : Type} {L L' : List (Value × List α)} (h : L'.map Prod.snd = L.map Prod.snd) (i : Nat) : (L'.getD i nrd).2 = (L.getD i nrd).2 := by
  rw [← snd_getD, ← snd_getD, h]
end Go.Proofs.YtgdmoeocgflhgaaDoor
