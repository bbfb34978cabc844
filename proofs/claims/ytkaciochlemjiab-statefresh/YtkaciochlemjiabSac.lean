import Derived.Test.YtkaciochlemjiabSpw
namespace Go.Proofs.Ytkaciochlemjiab
open Go.RowKit

theorem fields38 : ((Try.prog.fieldsOf 38).toList.map fun f => (f.name == "_", f.type, f.offset)) = [(false, 36, 0), (false, 3, 1), (false, 3, 2)] := by kernel_rfl
theorem under38 : Try.prog.underlying 38 = some (.struct (Try.prog.fieldsOf 38)) := by kernel_rfl
theorem stood38 : Try.prog.stoodInHeld 38 = false := by kernel_rfl
theorem ac_neq (x y z : Int) (W : World) : (binOp .neq 38 (.agg #[.int .i64 x, .int .i64 y, .int .i64 z]) (.agg #[.int .i64 x, .int .i64 y, .int .i64 z])).run Try.prog W = .ok (.bool false) W := by
  obtain ⟨f0, f1, f2, hl, n0, n1, n2, t0, t1, t2, o0, o1, o2⟩ : ∃ f0 f1 f2, (Try.prog.fieldsOf 38).toList = [f0, f1, f2] ∧ (f0.name == "_") = false ∧ (f1.name == "_") = false ∧ (f2.name == "_") = false ∧ f0.type = 36 ∧ f1.type = 3 ∧ f2.type = 3 ∧ f0.offset = 0 ∧ f1.offset = 1 ∧ f2.offset = 2 := by
    have h := fields38
    generalize (Try.prog.fieldsOf 38).toList = l at h ⊢
    rcases l with _ | ⟨f0, _ | ⟨f1, _ | ⟨f2, _ | ⟨f3, l⟩⟩⟩⟩
    · cases h
    · simp only [List.map_cons, List.map_nil, List.cons.injEq, reduceCtorEq, and_false] at h
    · simp only [List.map_cons, List.map_nil, List.cons.injEq, reduceCtorEq, and_false] at h
    · simp only [List.map_cons, List.map_nil, List.cons.injEq, Prod.mk.injEq, and_true] at h
      obtain ⟨⟨a1, a2, a3⟩, ⟨b1, b2, b3⟩, ⟨c1, c2, c3⟩⟩ := h
      exact ⟨f0, f1, f2, rfl, a1, b1, c1, a2, b2, c2, a3, b3, c3⟩
    · simp only [List.map_cons, List.cons.injEq, reduceCtorEq, and_false] at h
  have m0 : ¬ f0.name = "_" := by simpa using n0
  have m1 : ¬ f1.name = "_" := by simpa using n1
  have m2 : ¬ f2.name = "_" := by simpa using n2
  have pI : ∀ (t : TypeId) (xs : Array Value) (j : Nat) (v : Value), (∀ W : World, (isAgg t).run Try.prog W = .ok false W) → xs[j]? = some v → ∀ W : World, (part t xs j).run Try.prog W = .ok v W := by
    intro t xs j v ht hj W
    simp only [part, Sem.run_bind, ht, Result.andThen_ok, hj]
    rfl
  have g0 := fun W => pI 36 #[.int .i64 x, .int .i64 y, .int .i64 z] 0 (.int .i64 x) Try.isAgg36 rfl W
  have g1 := fun W => pI 3 #[.int .i64 x, .int .i64 y, .int .i64 z] 1 (.int .i64 y) Try.isAgg3 rfl W
  have g2 := fun W => pI 3 #[.int .i64 x, .int .i64 y, .int .i64 z] 2 (.int .i64 z) Try.isAgg3 rfl W
  have eI : ∀ (m : Int) (W : World), (Op.equalIn 9999 3 (.int .i64 m) (.int .i64 m)).run Try.prog W = .ok true W := by
    intro m W
    rw [run_equalIn_int W 9998 3 .i64 .i64 _ _ Try.underlying3]
    simp
  have eK : ∀ (m : Int) (W : World), (Op.equalIn 9999 36 (.int .i64 m) (.int .i64 m)).run Try.prog W = .ok true W := by
    intro m W
    rw [run_equalIn_int W 9998 36 .i64 .i64 _ _ Try.underlying36]
    simp
  rw [run_neq_struct, run_equalIn_agg W 9999 38 _ _ under38 stood38, hl]
  simp only [Op.eqFields, m0, m1, m2, t0, t1, t2, o0, o1, o2, Sem.run_bind, g0, eK, Result.andThen_ok, ne_eq, not_false_eq_true, if_true]
  simp [Sem.run_bind, g1, g2, eI]

set_option maxRecDepth 100000 in
set_option maxHeartbeats 8000000 in
theorem sameacts_any {va vb : Value} {l : List (Int × Int × Int)} (w : World) (ha : Rw w va l.length (aC l)) (hb : Rw w vb l.length (aC l)) (hl : l.length ≤ 4611686018427387904) :
    Calls Try.prog 9 #[va, vb] w fun e w' => e = .returned (.bool true) ∧ Below w.heap.size w w' := by
  obtain ⟨a1, g1, o1, k1, rfl, -, -, f1, f2⟩ := ha
  obtain ⟨a2, g2, o2, k2, rfl, -, -, f3, f4⟩ := hb
  have HF : Hid ((0 < l.length → a1 = some ⟨g1, o1, none⟩) ∧ (∀ j u, (aC l)[j]? = some u → w.cell? ⟨g1, o1 + j, none⟩ = some u) ∧ (0 < l.length → a2 = some ⟨g2, o2, none⟩) ∧ (∀ j u, (aC l)[j]? = some u → w.cell? ⟨g2, o2 + j, none⟩ = some u)) := ⟨f1, f2, f3, f4⟩
  have HL : Hid (l.length ≤ 4611686018427387904) := hl
  clear f1 f2 f3 f4 hl
  go_enter Try.func9, Try.ntmps9
  go_wp2_with fail
  go_loopg [5] l.length (fun gm v wr => ∃ i : Nat, v = .int .i64 (i : Int) ∧ Hid (Below w.heap.size w wr) ∧ Hid (i ≤ l.length ∧ gm = l.length - i))
  case atStart => exact ⟨0, rfl, Below.refl _ _, ⟨Nat.zero_le _, rfl⟩⟩
  case round =>
    obtain ⟨i, rfl, HBW, HI⟩ := hrel
    by_cases hi : i < l.length
    · obtain ⟨f1, f2, f3, f4⟩ := HF.out
      obtain rfl := f1 (by omega)
      obtain rfl := f3 (by omega)
      obtain ⟨c0, c1, c2⟩ := aC_get l i hi
      have p0 := below_cell HBW.out (f2 _ _ c0)
      have p1 := below_cell HBW.out (f2 _ _ c1)
      have p2 := below_cell HBW.out (f2 _ _ c2)
      have q0 := below_cell HBW.out (f4 _ _ c0)
      have q1 := below_cell HBW.out (f4 _ _ c1)
      have q2 := below_cell HBW.out (f4 _ _ c2)
      rw [← Nat.add_assoc] at p1 p2 q1 q2
      have e1 : decide ((i : Int) < (l.length : Int)) = true := by rw [decide_eq_true_eq]; omega
      have e2 : decide (i < l.length) = true := by rw [decide_eq_true_eq]; omega
      have e5 : (i : Int) < (l.length : Int) := by omega
      have HIL : Hid (i < l.length) := hi
      have hwr := w64n i (by have := HL.out; omega)
      obtain ⟨⟨x, y, z⟩, hx⟩ : ∃ x, l.getD i (0, 0, 0) = x := ⟨_, rfl⟩
      rw [hx] at p0 p1 p2 q0 q1 q2
      simp only [] at p0 p1 p2 q0 q1 q2
      have kq := ac_neq x y z
      clear f1 f2 f3 f4 c0 c1 c2 hx hi
      go_wp2_with fail
      go_region
      go_wp2_with fail
      go_roundg (l.length - (i + 1))
      case measure => have := HI.out; have := HIL.out; omega
      case rel => exact ⟨i + 1, by first | rfl | (rw [show (i : Int) + 1 = ((i + 1 : Nat) : Int) by omega]), Below.drew HBW.out, ⟨HIL.out, rfl⟩⟩
    · have e1 : decide ((i : Int) < (l.length : Int)) = false := by rw [decide_eq_false_iff_not]; omega
      have e2 : decide (i < l.length) = false := by rw [decide_eq_false_iff_not]; omega
      clear hi
      go_wp2_with fail
      go_ret
      exact ⟨rfl, HBW.out⟩
end Go.Proofs.Ytkaciochlemjiab
