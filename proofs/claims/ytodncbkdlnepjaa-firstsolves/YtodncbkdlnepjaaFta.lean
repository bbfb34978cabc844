import Derived.Test.YtodncbkdlnepjaaFrt
import Derived.Laws.StructEq
namespace Go.Proofs.Ytodncbkdlnepjaa
open Go.RowKit Go.Maps

theorem fields32 : ((Try.prog.fieldsOf 32).toList.map fun f => (f.name == "_", f.type, f.offset)) = [(false, 3, 0), (false, 9, 1), (false, 9, 2)] := by kernel_rfl
theorem under32s : Try.prog.underlying 32 = some (.struct (Try.prog.fieldsOf 32)) := by kernel_rfl
theorem stood32 : Try.prog.stoodInHeld 32 = false := by kernel_rfl
theorem neq32 (x : Int) (y : ByteArray) (z : ByteArray) (W : World) : (binOp .neq 32 (.agg #[.int .i64 x, .string y, .string z]) (.agg #[.int .i64 x, .string y, .string z])).run Try.prog W = .ok (.bool false) W := by
  obtain ⟨f0, f1, f2, hl, n0, n1, n2, t0, t1, t2, o0, o1, o2⟩ : ∃ f0 f1 f2, (Try.prog.fieldsOf 32).toList = [f0, f1, f2] ∧ (f0.name == "_") = false ∧ (f1.name == "_") = false ∧ (f2.name == "_") = false ∧ f0.type = 3 ∧ f1.type = 9 ∧ f2.type = 9 ∧ f0.offset = 0 ∧ f1.offset = 1 ∧ f2.offset = 2 := by
    have h := fields32
    generalize (Try.prog.fieldsOf 32).toList = l at h ⊢
    rcases l with _ | ⟨f0, _ | ⟨f1, _ | ⟨f2, _ | ⟨f3, l⟩⟩⟩⟩
    · cases h
    · simp only [List.map_cons, List.map_nil, List.cons.injEq, reduceCtorEq, and_false] at h
    · simp only [List.map_cons, List.map_nil, List.cons.injEq, reduceCtorEq, and_false] at h
    · simp only [List.map_cons, List.map_nil, List.cons.injEq, Prod.mk.injEq, and_true] at h
      obtain ⟨⟨a0, b0, c0⟩, ⟨a1, b1, c1⟩, ⟨a2, b2, c2⟩⟩ := h
      exact ⟨f0, f1, f2, rfl, a0, a1, a2, b0, b1, b2, c0, c1, c2⟩
    · simp only [List.map_cons, List.cons.injEq, reduceCtorEq, and_false] at h
  have m0 : ¬ f0.name = "_" := by simpa using n0
  have m1 : ¬ f1.name = "_" := by simpa using n1
  have m2 : ¬ f2.name = "_" := by simpa using n2
  have pI : ∀ (t : TypeId) (xs : Array Value) (j : Nat) (v : Value), (∀ W : World, (isAgg t).run Try.prog W = .ok false W) → xs[j]? = some v → ∀ W : World, (part t xs j).run Try.prog W = .ok v W := by
    intro t xs j v ht hj W
    simp only [part, Sem.run_bind, ht, Result.andThen_ok, hj]
    rfl
  have g0 := fun W => pI 3 #[.int .i64 x, .string y, .string z] 0 (.int .i64 x) Try.isAgg3 rfl W
  have e0 : ∀ W : World, (Op.equalIn 9999 3 (.int .i64 x) (.int .i64 x)).run Try.prog W = .ok true W := by intro W; rw [run_equalIn_int W 9998 3 .i64 .i64 _ _ Try.underlying3]; simp
  have g1 := fun W => pI 9 #[.int .i64 x, .string y, .string z] 1 (.string y) Try.isAgg9 rfl W
  have e1 : ∀ W : World, (Op.equalIn 9999 9 (.string y) (.string y)).run Try.prog W = .ok true W := by intro W; rw [run_equalIn_string W 9998 9 _ _ Try.underlying9]; simp
  have g2 := fun W => pI 9 #[.int .i64 x, .string y, .string z] 2 (.string z) Try.isAgg9 rfl W
  have e2 : ∀ W : World, (Op.equalIn 9999 9 (.string z) (.string z)).run Try.prog W = .ok true W := by intro W; rw [run_equalIn_string W 9998 9 _ _ Try.underlying9]; simp
  rw [run_neq_struct, run_equalIn_agg W 9999 32 _ _ under32s stood32, hl]
  simp only [Op.eqFields, m0, t0, o0, g0, e0, m1, t1, o1, g1, e1, m2, t2, o2, g2, e2, Sem.run_bind, Result.andThen_ok, ne_eq, not_false_eq_true, if_true, Bool.not_true, Bool.false_eq_true, if_false, Sem.run_pure]
theorem fields58 : ((Try.prog.fieldsOf 58).toList.map fun f => (f.name == "_", f.type, f.offset)) = [(false, 9, 0), (false, 4, 1)] := by kernel_rfl
theorem under58s : Try.prog.underlying 58 = some (.struct (Try.prog.fieldsOf 58)) := by kernel_rfl
theorem stood58 : Try.prog.stoodInHeld 58 = false := by kernel_rfl
theorem neq58 (x : ByteArray) (y : Bool) (W : World) : (binOp .neq 58 (.agg #[.string x, .bool y]) (.agg #[.string x, .bool y])).run Try.prog W = .ok (.bool false) W := by
  obtain ⟨f0, f1, hl, n0, n1, t0, t1, o0, o1⟩ : ∃ f0 f1, (Try.prog.fieldsOf 58).toList = [f0, f1] ∧ (f0.name == "_") = false ∧ (f1.name == "_") = false ∧ f0.type = 9 ∧ f1.type = 4 ∧ f0.offset = 0 ∧ f1.offset = 1 := by
    have h := fields58
    generalize (Try.prog.fieldsOf 58).toList = l at h ⊢
    rcases l with _ | ⟨f0, _ | ⟨f1, _ | ⟨f2, l⟩⟩⟩
    · cases h
    · simp only [List.map_cons, List.map_nil, List.cons.injEq, reduceCtorEq, and_false] at h
    · simp only [List.map_cons, List.map_nil, List.cons.injEq, Prod.mk.injEq, and_true] at h
      obtain ⟨⟨a0, b0, c0⟩, ⟨a1, b1, c1⟩⟩ := h
      exact ⟨f0, f1, rfl, a0, a1, b0, b1, c0, c1⟩
    · simp only [List.map_cons, List.cons.injEq, reduceCtorEq, and_false] at h
  have m0 : ¬ f0.name = "_" := by simpa using n0
  have m1 : ¬ f1.name = "_" := by simpa using n1
  have pI : ∀ (t : TypeId) (xs : Array Value) (j : Nat) (v : Value), (∀ W : World, (isAgg t).run Try.prog W = .ok false W) → xs[j]? = some v → ∀ W : World, (part t xs j).run Try.prog W = .ok v W := by
    intro t xs j v ht hj W
    simp only [part, Sem.run_bind, ht, Result.andThen_ok, hj]
    rfl
  have g0 := fun W => pI 9 #[.string x, .bool y] 0 (.string x) Try.isAgg9 rfl W
  have e0 : ∀ W : World, (Op.equalIn 9999 9 (.string x) (.string x)).run Try.prog W = .ok true W := by intro W; rw [run_equalIn_string W 9998 9 _ _ Try.underlying9]; simp
  have g1 := fun W => pI 4 #[.string x, .bool y] 1 (.bool y) Try.isAgg4 rfl W
  have e1 : ∀ W : World, (Op.equalIn 9999 4 (.bool y) (.bool y)).run Try.prog W = .ok true W := by intro W; rw [run_equalIn_bool' W 9998 4 _ _ Try.underlying4]; simp
  rw [run_neq_struct, run_equalIn_agg W 9999 58 _ _ under58s stood58, hl]
  simp only [Op.eqFields, m0, t0, o0, g0, e0, m1, t1, o1, g1, e1, Sem.run_bind, Result.andThen_ok, ne_eq, not_false_eq_true, if_true, Bool.not_true, Bool.false_eq_true, if_false, Sem.run_pure]
theorem fields61 : ((Try.prog.fieldsOf 61).toList.map fun f => (f.name == "_", f.type, f.offset)) = [(false, 9, 0), (false, 59, 1)] := by kernel_rfl
theorem under61s : Try.prog.underlying 61 = some (.struct (Try.prog.fieldsOf 61)) := by kernel_rfl
theorem stood61 : Try.prog.stoodInHeld 61 = false := by kernel_rfl
theorem neq61 (x : ByteArray) (y : Int) (W : World) : (binOp .neq 61 (.agg #[.string x, .int .i64 y]) (.agg #[.string x, .int .i64 y])).run Try.prog W = .ok (.bool false) W := by
  obtain ⟨f0, f1, hl, n0, n1, t0, t1, o0, o1⟩ : ∃ f0 f1, (Try.prog.fieldsOf 61).toList = [f0, f1] ∧ (f0.name == "_") = false ∧ (f1.name == "_") = false ∧ f0.type = 9 ∧ f1.type = 59 ∧ f0.offset = 0 ∧ f1.offset = 1 := by
    have h := fields61
    generalize (Try.prog.fieldsOf 61).toList = l at h ⊢
    rcases l with _ | ⟨f0, _ | ⟨f1, _ | ⟨f2, l⟩⟩⟩
    · cases h
    · simp only [List.map_cons, List.map_nil, List.cons.injEq, reduceCtorEq, and_false] at h
    · simp only [List.map_cons, List.map_nil, List.cons.injEq, Prod.mk.injEq, and_true] at h
      obtain ⟨⟨a0, b0, c0⟩, ⟨a1, b1, c1⟩⟩ := h
      exact ⟨f0, f1, rfl, a0, a1, b0, b1, c0, c1⟩
    · simp only [List.map_cons, List.cons.injEq, reduceCtorEq, and_false] at h
  have m0 : ¬ f0.name = "_" := by simpa using n0
  have m1 : ¬ f1.name = "_" := by simpa using n1
  have pI : ∀ (t : TypeId) (xs : Array Value) (j : Nat) (v : Value), (∀ W : World, (isAgg t).run Try.prog W = .ok false W) → xs[j]? = some v → ∀ W : World, (part t xs j).run Try.prog W = .ok v W := by
    intro t xs j v ht hj W
    simp only [part, Sem.run_bind, ht, Result.andThen_ok, hj]
    rfl
  have g0 := fun W => pI 9 #[.string x, .int .i64 y] 0 (.string x) Try.isAgg9 rfl W
  have e0 : ∀ W : World, (Op.equalIn 9999 9 (.string x) (.string x)).run Try.prog W = .ok true W := by intro W; rw [run_equalIn_string W 9998 9 _ _ Try.underlying9]; simp
  have g1 := fun W => pI 59 #[.string x, .int .i64 y] 1 (.int .i64 y) Try.isAgg59 rfl W
  have e1 : ∀ W : World, (Op.equalIn 9999 59 (.int .i64 y) (.int .i64 y)).run Try.prog W = .ok true W := by intro W; rw [run_equalIn_int W 9998 59 .i64 .i64 _ _ Try.underlying59]; simp
  rw [run_neq_struct, run_equalIn_agg W 9999 61 _ _ under61s stood61, hl]
  simp only [Op.eqFields, m0, t0, o0, g0, e0, m1, t1, o1, g1, e1, Sem.run_bind, Result.andThen_ok, ne_eq, not_false_eq_true, if_true, Bool.not_true, Bool.false_eq_true, if_false, Sem.run_pure]

/-- A token's name, a symbol's name, in memory. -/
abbrev Td := ByteArray × Bool
abbrev Sd := ByteArray × Int
def tdf (x : Td) : List Value := [.string x.1, .bool x.2]
def sdf (x : Sd) : List Value := [.string x.1, .int .i64 x.2]
def tdd : Td := (⟨#[]⟩, false)
def sdd : Sd := (⟨#[]⟩, 0)
theorem tdf_len (x : Td) : (tdf x).length = 2 := rfl
theorem sdf_len (x : Sd) : (sdf x).length = 2 := rfl
theorem tdf_get (l : List Td) (i : Nat) (h : i < l.length) : (flat tdf l)[i * 2]? = some (.string (l.getD i tdd).1) ∧ (flat tdf l)[i * 2 + 1]? = some (.bool (l.getD i tdd).2) :=
  ⟨flat_get tdf_len tdd l i 0 h (by decide), flat_get tdf_len tdd l i 1 h (by decide)⟩
theorem sdf_get (l : List Sd) (i : Nat) (h : i < l.length) : (flat sdf l)[i * 2]? = some (.string (l.getD i sdd).1) ∧ (flat sdf l)[i * 2 + 1]? = some (.int .i64 (l.getD i sdd).2) :=
  ⟨flat_get sdf_len sdd l i 0 h (by decide), flat_get sdf_len sdd l i 1 h (by decide)⟩
/-- The marks. -/
def mkS : ByteArray := ⟨#[109, 97, 114, 107]⟩
def rmk : Nat → List Rf
  | 0 => []
  | n + 1 => rmk n ++ [(900 + (n : Int), mkS, ⟨#[]⟩)]
theorem rmk_len : ∀ n, (rmk n).length = n
  | 0 => rfl
  | n + 1 => by show (rmk n ++ _).length = _; rw [List.length_append, rmk_len n]; rfl
theorem rmk_get : ∀ (n i : Nat), i < n → (rmk n).getD i rfd = (900 + (i : Int), mkS, ⟨#[]⟩)
  | 0, _, h => by omega
  | n + 1, i, h => by
    show (rmk n ++ _).getD i rfd = _
    rw [List.getD_eq_getElem?_getD]
    by_cases e : i < n
    · rw [List.getElem?_append_left (by rw [rmk_len]; exact e), ← List.getD_eq_getElem?_getD, rmk_get n i e]
    · have : i = n := by omega
      subst this
      rw [List.getElem?_append_right (by rw [rmk_len]; omega), rmk_len, Nat.sub_self]
      rfl
theorem getD_app {α : Type} (l k : List α) (d : α) (i : Nat) : (l ++ k).getD (l.length + i) d = k.getD i d := by
  rw [List.getD_eq_getElem?_getD, List.getElem?_append_right (by omega), Nat.add_sub_cancel_left, ← List.getD_eq_getElem?_getD]
theorem flat_take {α : Type} {f : α → List Value} {n : Nat} (hf : ∀ x, (f x).length = n) (l k : List α) : (flat f (l ++ k)).take (l.length * n) = flat f l := by
  rw [flat_app, List.take_append_of_le_length (by rw [flat_len hf]; exact Nat.le_refl _), ← flat_len hf, List.take_length]
/-- A row that is lent: marks stand behind it. -/
def Lr (B : Nat) (W : World) (v : Value) (l : List Rf) : Prop := ∃ g cap, v = .slice (some ⟨g, 0, none⟩) l.length cap ∧ W.ownsRow B 32 3 (.slice (some ⟨g, 0, none⟩) (l.length + 20) cap) (l.length + 20) (flat rf (l ++ rmk 20))
theorem Lr.rw {B : Nat} {W : World} {v : Value} {l : List Rf} (h : Lr B W v l) : Rw W v l.length (flat rf l) := by
  obtain ⟨g, cap, rfl, ho⟩ := h
  have := row_low ho (n := l.length) (by omega)
  rw [flat_take rf_len] at this
  exact row_rw this (by decide)
theorem Lr.up {B : Nat} {W W' : World} {v : Value} {l : List Rf} (h : Lr B W v l) (hb : Below W.heap.size W W') : Lr B W' v l := by
  obtain ⟨g, cap, e, ho⟩ := h
  exact ⟨g, cap, e, row_up ho hb⟩

set_option maxRecDepth 100000 in
set_option maxHeartbeats 8000000 in
theorem twinRow_any {v : Value} {l : List Rf} (w : World) (hr : Rw w v l.length (flat rf l)) (hl : l.length * 40 + 4096 ≤ 140737488355328) :
    Calls Try.prog 17 #[v] w fun e w' => ∃ u, e = .returned u ∧ w'.ownsRow w.heap.size 32 3 u l.length (flat rf l) ∧ Below w.heap.size w w' := by
  have HV : Hid (Rw w v l.length (flat rf l)) := hr
  have HL : Hid (l.length * 40 + 4096 ≤ 140737488355328) := hl
  obtain ⟨xa, ca, rfl⟩ := hr.form
  clear hr hl
  obtain ⟨na, hna⟩ : ∃ n, l.length = n := ⟨_, rfl⟩
  have HNA : Hid (l.length = na) := hna
  rw [hna] at HV HL ⊢
  clear hna
  obtain ⟨i32, hi, h0, h1, h2⟩ := info_parts info32
  have HI32 : Hid (Try.prog.info? 32 = some i32 ∧ i32.zero = some (.agg #[.int .i64 0, .string ⟨#[]⟩, .string ⟨#[]⟩]) ∧ i32.size = 3 ∧ i32.bytes = 40) := ⟨hi, h0, h1, h2⟩
  clear hi h0 h1 h2
  go_enter Try.func17, Try.ntmps17
  go_upto_region 3 with fail
  go_loopg [3, 4] na (fun gm v3 v4 wr => ∃ i : Nat, v4 = .int .i64 (i : Int) ∧ ∃ (ra : Option Addr) (m rc : Nat), v3 = .slice ra m rc ∧ Hid (m = i) ∧ Hid (Below w.heap.size w wr) ∧ Hid (i ≤ na ∧ gm = na - i) ∧ Hid (wr.ownsRow w.heap.size 32 3 (.slice ra m rc) m (flat rf (l.take i))))
  case atStart => exact ⟨0, rfl, none, 0, 0, rfl, rfl, Below.refl _ _, ⟨Nat.zero_le _, rfl⟩, World.ownsRow_nil _ _ _ _⟩
  case round =>
    obtain ⟨i, rfl, ra, m, rc, rfl, HM, HBW, HI, HRO⟩ := hrel
    by_cases hi : i < na
    · obtain ⟨g, o, cap, e0, hc⟩ := HV.out.place (by omega)
      obtain ⟨rfl, -, rfl⟩ := Value.slice.inj e0
      have hil : i < l.length := by have := HNA.out; omega
      obtain ⟨q0, q1, q2⟩ := rf_get l i hil
      have k0 := below_cell HBW.out (hc _ _ q0)
      have k1 := below_cell HBW.out (hc _ _ q1)
      have k2 := below_cell HBW.out (hc _ _ q2)
      have HTK : Hid _ := take_getD l rfd i hil
      obtain ⟨x, hx⟩ : ∃ x, l.getD i rfd = x := ⟨_, rfl⟩
      rw [hx] at k0 k1 k2 HTK
      obtain ⟨xs, xf, xz⟩ := x
      dsimp only at k0 k1 k2
      rw [← Nat.add_assoc] at k1 k2
      have e1 : decide ((i : Int) < (na : Int)) = true := by rw [decide_eq_true_eq]; omega
      have e2 : decide (i < na) = true := by rw [decide_eq_true_eq]; omega
      have e5 : (i : Int) < (na : Int) := by omega
      have e6 : i < na := hi
      have HIL : Hid (i < na) := hi
      have hwr := w64n i (by have := HL.out; have := HIL.out; omega)
      clear e0 hc hx q0 q1 q2 hil hi
      have HROW : Hid ((wr.alloc (.cells #[.int .i64 xs, .string xf, .string xz] 32)).ownsRow w.heap.size 32 3 (.slice ra m rc) m (flat rf (l.take i))) := row_up HRO.out (bel_up _ _)
      go_wp2_with (at_builtin; refine wpList_append_own_at _ rfl _ _ 27 rfl w.heap.size 32 i32 (.agg #[.int .i64 0, .string ⟨#[]⟩, .string ⟨#[]⟩]) 3 40 Try.underlying27 HI32.out.1 HI32.out.2.1 HI32.out.2.2.1 HI32.out.2.2.2 rfl (by decide) _ _ _ rfl HROW.out ⟨wr.heap.size, 0, none⟩ 1 1 [.int .i64 xs, .string xf, .string xz] rfl rfl (cell_three_new _ _ _ _ _) (by simp [Value.oneCell']) (by have := HM.out; have := HL.out; have := HIL.out; unfold maxLen; omega) (by have := HM.out; have := HL.out; have := HIL.out; omega) (by have := HBW.out.size; simp; omega) ?_; intro v6 w6 ho6 hg6 _ ha6; have HO6 : Hid (w6.ownsRow w.heap.size 32 3 v6 (m + 1) (flat rf (l.take i) ++ [.int .i64 xs, .string xf, .string xz])) := ho6; have HG6 : Hid (wr.grownBy w6 (Value.ownBlock (.slice ra m rc))) := (World.grownBy_alloc _ _ _).trans hg6; obtain ⟨qa, qc, rfl⟩ := row_shape ho6; clear ho6 hg6 ha6)
      have HR6 : Hid (w6.ownsRow w.heap.size 32 3 (.slice qa (m + 1) qc) (m + 1) (flat rf (l.take (i + 1)))) := by
        show World.ownsRow _ _ _ _ _ _ _
        rw [HTK.out]
        have h9 := HO6.out
        rw [show [Value.int .i64 xs, .string xf, .string xz] = flat rf [((xs : Int), xf, xz)] from rfl, ← flat_app] at h9
        exact h9
      have BW6 : Hid (Below w.heap.size w w6) := HBW.out.grown HG6.out HBW.out.size (fun r e' => (row_tag HRO.out r e').1)
      go_roundg (na - (i + 1))
      case measure => have := HI.out; have := HIL.out; omega
      case rel => exact ⟨i + 1, by first | rfl | (rw [show (i : Int) + 1 = ((i + 1 : Nat) : Int) by omega]), qa, m + 1, qc, rfl, by have := HM.out; show _ = _; omega, BW6, ⟨HIL.out, rfl⟩, HR6⟩
    · have e1 : decide ((i : Int) < (na : Int)) = false := by rw [decide_eq_false_iff_not]; omega
      have e2 : decide (i < na) = false := by rw [decide_eq_false_iff_not]; omega
      have HIN : Hid (i = na) := by have := HI.out; show i = na; omega
      clear hi
      go_wp2_with fail
      go_ret
      refine ⟨_, rfl, ?_, HBW.out⟩
      have h9 := HRO.out
      rw [HIN.out, ← HNA.out, List.take_length, show m = l.length from by have := HM.out; have := HIN.out; have := HNA.out; omega] at h9
      rw [← HNA.out, show m = l.length from by have := HM.out; have := HIN.out; have := HNA.out; omega]
      exact h9

set_option maxRecDepth 100000 in
set_option maxHeartbeats 8000000 in
theorem lentRow_any {v : Value} {l : List Rf} (w : World) (hr : Rw w v l.length (flat rf l)) (hl : l.length * 40 + 4096 ≤ 140737488355328) :
    Calls Try.prog 20 #[v] w fun e w' => ∃ u, e = .returned u ∧ Lr w.heap.size w' u l ∧ Below w.heap.size w w' := by
  have HV : Hid (Rw w v l.length (flat rf l)) := hr
  have HL : Hid (l.length * 40 + 4096 ≤ 140737488355328) := hl
  obtain ⟨xa, ca, rfl⟩ := hr.form
  clear hr hl
  obtain ⟨na, hna⟩ : ∃ n, l.length = n := ⟨_, rfl⟩
  have HNA : Hid (l.length = na) := hna
  rw [hna] at HV ⊢
  have HV2 : Hid (Rw w (.slice xa na ca) l.length (flat rf l)) := by rw [hna]; exact HV.out
  clear hna
  obtain ⟨i32, hi, h0, h1, h2⟩ := info_parts info32
  have HI32 : Hid (Try.prog.info? 32 = some i32 ∧ i32.zero = some (.agg #[.int .i64 0, .string ⟨#[]⟩, .string ⟨#[]⟩]) ∧ i32.size = 3 ∧ i32.bytes = 40) := ⟨hi, h0, h1, h2⟩
  clear hi h0 h1 h2
  go_enter Try.func20, Try.ntmps20
  go_upto_region 2 with (go_at_call 17; refine (twinRow_any w HV2.out HL.out).mono ?_; rintro e W1 ⟨u, rfl, ho, hb1⟩; have B1 : Hid (Below w.heap.size w W1) := hb1; have HO1 : Hid (W1.ownsRow w.heap.size 32 3 u l.length (flat rf l)) := ho; obtain ⟨ua, uc, rfl⟩ := row_shape ho; clear ho hb1)
  go_upto_region 3 with fail
  go_loopg [3, 4] 20 (fun gm v3 v4 wr => ∃ i : Nat, v4 = .int .i64 (i : Int) ∧ ∃ (ra : Option Addr) (m rc : Nat), v3 = .slice ra m rc ∧ Hid (m = na + i) ∧ Hid (Below w.heap.size w wr) ∧ Hid (i ≤ 20 ∧ gm = 20 - i) ∧ Hid (wr.ownsRow w.heap.size 32 3 (.slice ra m rc) m (flat rf (l ++ rmk i))))
  case atStart => exact ⟨0, rfl, ua, l.length, uc, rfl, by show _ = _; rw [HNA.out]; rfl, B1, ⟨Nat.zero_le _, rfl⟩, by show World.ownsRow _ _ _ _ _ _ _; rw [show rmk 0 = [] from rfl, List.append_nil]; exact HO1.out⟩
  case round =>
    clear B1 HO1
    obtain ⟨i, rfl, ra, m, rc, rfl, HM, HBW, HI, HRO⟩ := hrel
    by_cases hi : i < 20
    · have e1 : decide ((i : Int) < 20) = true := by rw [decide_eq_true_eq]; omega
      have e2 : decide (i < 20) = true := by rw [decide_eq_true_eq]; omega
      have e5 : (i : Int) < 20 := by omega
      have HIL : Hid (i < 20) := hi
      have hwr := w64n i (by omega)
      have hadd : IntKind.i64.wrap (900 + (i : Int)) = 900 + (i : Int) := by rw [IntKind.wrap_i64]; omega
      clear hi
      have HROW : Hid ((wr.alloc (.cells #[.int .i64 (900 + (i : Int)), .string ⟨#[109, 97, 114, 107]⟩, .string ⟨#[]⟩] 32)).ownsRow w.heap.size 32 3 (.slice ra m rc) m (flat rf (l ++ rmk i))) := row_up HRO.out (bel_up _ _)
      go_wp2_with (at_builtin; refine wpList_append_own_at _ rfl _ _ 27 rfl w.heap.size 32 i32 (.agg #[.int .i64 0, .string ⟨#[]⟩, .string ⟨#[]⟩]) 3 40 Try.underlying27 HI32.out.1 HI32.out.2.1 HI32.out.2.2.1 HI32.out.2.2.2 rfl (by decide) _ _ _ rfl HROW.out ⟨wr.heap.size, 0, none⟩ 1 1 [.int .i64 (900 + (i : Int)), .string ⟨#[109, 97, 114, 107]⟩, .string ⟨#[]⟩] rfl rfl (cell_three_new _ _ _ _ _) (by simp [Value.oneCell']) (by have := HM.out; have := HL.out; have := HNA.out; have := HIL.out; unfold maxLen; omega) (by have := HM.out; have := HL.out; have := HNA.out; have := HIL.out; omega) (by have := HBW.out.size; simp; omega) ?_; intro v6 w6 ho6 hg6 _ ha6; have HO6 : Hid (w6.ownsRow w.heap.size 32 3 v6 (m + 1) (flat rf (l ++ rmk i) ++ [.int .i64 (900 + (i : Int)), .string ⟨#[109, 97, 114, 107]⟩, .string ⟨#[]⟩])) := ho6; have HG6 : Hid (wr.grownBy w6 (Value.ownBlock (.slice ra m rc))) := (World.grownBy_alloc _ _ _).trans hg6; obtain ⟨qa, qc, rfl⟩ := row_shape ho6; clear ho6 hg6 ha6)
      have HR6 : Hid (w6.ownsRow w.heap.size 32 3 (.slice qa (m + 1) qc) (m + 1) (flat rf (l ++ rmk (i + 1)))) := by
        show World.ownsRow _ _ _ _ _ _ _
        have h9 := HO6.out
        rw [show [Value.int .i64 (900 + (i : Int)), .string ⟨#[109, 97, 114, 107]⟩, .string ⟨#[]⟩] = flat rf [(900 + (i : Int), mkS, ⟨#[]⟩)] from rfl, ← flat_app, List.append_assoc] at h9
        exact h9
      have BW6 : Hid (Below w.heap.size w w6) := HBW.out.grown HG6.out HBW.out.size (fun r e' => (row_tag HRO.out r e').1)
      go_roundg (20 - (i + 1))
      case measure => have := HI.out; have := HIL.out; omega
      case rel => exact ⟨i + 1, by first | rfl | (rw [show (i : Int) + 1 = ((i + 1 : Nat) : Int) by omega]), qa, m + 1, qc, rfl, by have := HM.out; show _ = _; omega, BW6, ⟨HIL.out, rfl⟩, HR6⟩
    · have e1 : decide ((i : Int) < 20) = false := by rw [decide_eq_false_iff_not]; omega
      have e2 : decide (i < 20) = false := by rw [decide_eq_false_iff_not]; omega
      have HIN : Hid (i = 20) := by have := HI.out; show i = 20; omega
      clear hi
      have h9 := HRO.out
      rw [HIN.out] at h9
      obtain rfl : m = na + 20 := by have := HM.out; have := HIN.out; omega
      obtain ⟨g, cap, e0, -, hcp, hcm⟩ := row_form h9 (by omega)
      obtain ⟨rfl, -, rfl⟩ := Value.slice.inj e0
      have HRF : Hid _ := h9
      have f1 : (na : Int) ≤ (rc : Int) := by omega
      have f2 : na ≤ rc := by omega
      clear h9 e0 hcm hcp
      go_wp2_with fail
      go_ret
      refine ⟨_, rfl, ⟨g, rc, ?_, ?_⟩, HBW.out⟩
      · rw [HNA.out]; rfl
      · rw [HNA.out]; exact HRF.out

set_option maxRecDepth 100000 in
set_option maxHeartbeats 8000000 in
theorem sameRow_any {va vb : Value} {l : List Rf} (w : World) (ha : Rw w va l.length (flat rf l)) (hb : Rw w vb l.length (flat rf l)) (hl : l.length * 40 + 4096 ≤ 140737488355328) :
    Calls Try.prog 40 #[va, vb] w fun e w' => e = .returned (.bool true) ∧ Below w.heap.size w w' := by
  have HVA : Hid (Rw w va l.length (flat rf l)) := ha
  have HVB : Hid (Rw w vb l.length (flat rf l)) := hb
  have HL : Hid (l.length * 40 + 4096 ≤ 140737488355328) := hl
  obtain ⟨xa, ca, rfl⟩ := ha.form
  obtain ⟨xb, cb, rfl⟩ := hb.form
  clear ha hb hl
  obtain ⟨na, hna⟩ : ∃ n, l.length = n := ⟨_, rfl⟩
  have HNA : Hid (l.length = na) := hna
  rw [hna] at HVA HVB HL ⊢
  clear hna
  have kk1 : ((na : Int) == (na : Int)) = true := by rw [beq_iff_eq]
  go_enter Try.func40, Try.ntmps40
  go_upto_region 4 with fail
  go_loopg [5] na (fun gm v5 wr => ∃ i : Nat, v5 = .int .i64 (i : Int) ∧ Hid (Below w.heap.size w wr) ∧ Hid (i ≤ na ∧ gm = na - i))
  case atStart => exact ⟨0, rfl, Below.refl _ _, ⟨Nat.zero_le _, rfl⟩⟩
  case round =>
    obtain ⟨i, rfl, HBW, HI⟩ := hrel
    by_cases hi : i < na
    · obtain ⟨g, o, cap, e0, hc⟩ := HVA.out.place (by omega)
      obtain ⟨rfl, -, rfl⟩ := Value.slice.inj e0
      obtain ⟨g2, o2, cap2, e02, hc2⟩ := HVB.out.place (by omega)
      obtain ⟨rfl, -, rfl⟩ := Value.slice.inj e02
      have hil : i < l.length := by have := HNA.out; omega
      obtain ⟨q0, q1, q2⟩ := rf_get l i hil
      have k0 := below_cell HBW.out (hc _ _ q0)
      have k1 := below_cell HBW.out (hc _ _ q1)
      have k2 := below_cell HBW.out (hc _ _ q2)
      have l0 := below_cell HBW.out (hc2 _ _ q0)
      have l1 := below_cell HBW.out (hc2 _ _ q1)
      have l2 := below_cell HBW.out (hc2 _ _ q2)
      obtain ⟨x, hx⟩ : ∃ x, l.getD i rfd = x := ⟨_, rfl⟩
      rw [hx] at k0 k1 k2 l0 l1 l2
      obtain ⟨xs, xf, xz⟩ := x
      dsimp only at k0 k1 k2 l0 l1 l2
      rw [← Nat.add_assoc] at k1 k2 l1 l2
      have e1 : decide ((i : Int) < (na : Int)) = true := by rw [decide_eq_true_eq]; omega
      have e2 : decide (i < na) = true := by rw [decide_eq_true_eq]; omega
      have e5 : (i : Int) < (na : Int) := by omega
      have e6 : i < na := hi
      have HIL : Hid (i < na) := hi
      have hwr := w64n i (by have := HL.out; have := HIL.out; omega)
      have hne := neq32 xs xf xz
      clear e0 hc hx q0 q1 q2 hil hi e02 hc2
      go_upto_region 6 with fail
      obtain ⟨WD, hWD⟩ : ∃ WD, wr.drew = WD := ⟨_, rfl⟩
      have BD : Hid (Below wr.heap.size wr WD) := by rw [← hWD]; exact Below.drew (Below.refl _ _)
      have HS : Hid (WD.cell? ⟨g, o + i * 3, none⟩ = some (.int .i64 xs) ∧ WD.cell? ⟨g, o + i * 3 + 1, none⟩ = some (.string xf) ∧ WD.cell? ⟨g, o + i * 3 + 2, none⟩ = some (.string xz) ∧ WD.cell? ⟨g2, o2 + i * 3, none⟩ = some (.int .i64 xs) ∧ WD.cell? ⟨g2, o2 + i * 3 + 1, none⟩ = some (.string xf) ∧ WD.cell? ⟨g2, o2 + i * 3 + 2, none⟩ = some (.string xz)) := ⟨below_cell BD.out k0, below_cell BD.out k1, below_cell BD.out k2, below_cell BD.out l0, below_cell BD.out l1, below_cell BD.out l2⟩
      clear k0 k1 k2 l0 l1 l2
      refine wp_region_noPanic ?_
      refine wp_region_held_drew (S := fun W => W.cell? ⟨g, o + i * 3, none⟩ = some (.int .i64 xs) ∧ W.cell? ⟨g, o + i * 3 + 1, none⟩ = some (.string xf) ∧ W.cell? ⟨g, o + i * 3 + 2, none⟩ = some (.string xz) ∧ W.cell? ⟨g2, o2 + i * 3, none⟩ = some (.int .i64 xs) ∧ W.cell? ⟨g2, o2 + i * 3 + 1, none⟩ = some (.string xf) ∧ W.cell? ⟨g2, o2 + i * 3 + 2, none⟩ = some (.string xz)) (by kernel_rfl) (by rw [hWD]; exact HS.out) (fun hHeld => ?_)
      rw [hWD] at hHeld ⊢
      clear hWD
      refine wpAnyH_take (i := 0) (oi := { dst := _, op := _, type := _, pos := _, after := _, guard := _ }) (v := ?_) rfl (by kernel_rfl) (by kernel_rfl) (by kernel_rfl) (fun _ _ _ h => h) (Or.inl ⟨by rfl, ?_⟩) (by assumption) ?_
      rotate_left
      · intro W hSw
        (try dsimp only at hSw)
        go_simp
        (try with_reducible rfl)
      try simp only [Act.put, List.setIfInBounds_toArray, List.set_cons_zero, List.set_cons_succ]
      refine wpAnyH_take (i := 1) (oi := { dst := _, op := _, type := _, pos := _, after := _, guard := _ }) (v := ?_) rfl (by kernel_rfl) (by kernel_rfl) (by kernel_rfl) (fun _ _ _ h => h) (Or.inl ⟨by rfl, ?_⟩) (by assumption) ?_
      rotate_left
      · intro W hSw
        (try dsimp only at hSw)
        go_simp
        (try with_reducible rfl)
      try simp only [Act.put, List.setIfInBounds_toArray, List.set_cons_zero, List.set_cons_succ]
      refine wpAnyH_take (i := 2) (oi := { dst := _, op := _, type := _, pos := _, after := _, guard := _ }) (v := ?_) rfl (by kernel_rfl) (by kernel_rfl) (by kernel_rfl) (fun _ _ _ h => h) (Or.inl ⟨by rfl, ?_⟩) (by assumption) ?_
      rotate_left
      · intro W hSw
        (try dsimp only at hSw)
        go_simp
        (try with_reducible rfl)
      try simp only [Act.put, List.setIfInBounds_toArray, List.set_cons_zero, List.set_cons_succ]
      refine wpAnyH_take (i := 3) (oi := { dst := _, op := _, type := _, pos := _, after := _, guard := _ }) (v := ?_) rfl (by kernel_rfl) (by kernel_rfl) (by kernel_rfl) (fun _ _ _ h => h) (Or.inl ⟨by rfl, ?_⟩) (by assumption) ?_
      rotate_left
      · intro W hSw
        (try dsimp only at hSw)
        go_simp
        (try with_reducible rfl)
      try simp only [Act.put, List.setIfInBounds_toArray, List.set_cons_zero, List.set_cons_succ]
      refine wpAnyH_take (i := 4) (oi := { dst := _, op := _, type := _, pos := _, after := _, guard := _ }) (v := ?_) rfl (by kernel_rfl) (by kernel_rfl) (by kernel_rfl) (fun _ _ _ h => h) (Or.inl ⟨by rfl, ?_⟩) (by assumption) ?_
      rotate_left
      · intro W hSw
        (try dsimp only at hSw)
        go_simp
        (try with_reducible rfl)
      try simp only [Act.put, List.setIfInBounds_toArray, List.set_cons_zero, List.set_cons_succ]
      refine wpAnyH_take (i := 5) (oi := { dst := _, op := _, type := _, pos := _, after := _, guard := _ }) (v := ?_) rfl (by kernel_rfl) (by kernel_rfl) (by kernel_rfl) (fun _ _ _ h => h) (Or.inl ⟨by rfl, ?_⟩) (by assumption) ?_
      rotate_left
      · intro W hSw
        (try dsimp only at hSw)
        go_simp
        (try with_reducible rfl)
      try simp only [Act.put, List.setIfInBounds_toArray, List.set_cons_zero, List.set_cons_succ]
      refine wpAnyH_take (i := 6) (oi := { dst := _, op := _, type := _, pos := _, after := _, guard := _ }) (v := ?_) rfl (by kernel_rfl) (by kernel_rfl) (by kernel_rfl) (fun _ _ _ h => h) (Or.inl ⟨by rfl, ?_⟩) (by assumption) ?_
      rotate_left
      · intro W hSw
        (try dsimp only at hSw)
        go_simp
        (try with_reducible rfl)
      try simp only [Act.put, List.setIfInBounds_toArray, List.set_cons_zero, List.set_cons_succ]
      refine wpAnyH_take (i := 7) (oi := { dst := _, op := _, type := _, pos := _, after := _, guard := _ }) (v := ?_) rfl (by kernel_rfl) (by kernel_rfl) (by kernel_rfl) (fun _ _ _ h => h) (Or.inl ⟨by rfl, ?_⟩) (by assumption) ?_
      rotate_left
      · intro W hSw
        (try dsimp only at hSw)
        go_simp
        (try with_reducible rfl)
      try simp only [Act.put, List.setIfInBounds_toArray, List.set_cons_zero, List.set_cons_succ]
      refine wpAnyH_take (i := 8) (oi := { dst := _, op := _, type := _, pos := _, after := _, guard := _ }) (v := ?_) rfl (by kernel_rfl) (by kernel_rfl) (by kernel_rfl) (fun _ _ _ h => h) (Or.inl ⟨by rfl, ?_⟩) (by assumption) ?_
      rotate_left
      · intro W hSw
        (try dsimp only at hSw)
        go_simp
        (try with_reducible rfl)
      try simp only [Act.put, List.setIfInBounds_toArray, List.set_cons_zero, List.set_cons_succ]
      refine wpAnyH_done (by kernel_rfl) ?_ _
      refine NoPanic.normal ?_
      clear hHeld
      go_wp2_with fail
      go_roundg (na - (i + 1))
      case measure => have := HI.out; have := HIL.out; omega
      case rel => exact ⟨i + 1, by first | rfl | (rw [show (i : Int) + 1 = ((i + 1 : Nat) : Int) by omega]), below_trans HBW.out BD.out, ⟨HIL.out, rfl⟩⟩
    · have e1 : decide ((i : Int) < (na : Int)) = false := by rw [decide_eq_false_iff_not]; omega
      have e2 : decide (i < na) = false := by rw [decide_eq_false_iff_not]; omega
      clear hi
      go_wp2_with fail
      go_ret
      exact ⟨rfl, HBW.out⟩

set_option maxRecDepth 100000 in
set_option maxHeartbeats 8000000 in
theorem stillRow_any {B : Nat} {va vb : Value} {l : List Rf} (w : World) (ha : Lr B w va l) (hb : Rw w vb l.length (flat rf l)) (hl : l.length * 40 + 4096 ≤ 140737488355328) :
    Calls Try.prog 22 #[va, vb] w fun e w' => e = .returned (.bool true) ∧ Below w.heap.size w w' := by
  have HVA : Hid (Rw w va l.length (flat rf l)) := ha.rw
  have HVB : Hid (Rw w vb l.length (flat rf l)) := hb
  have HL : Hid (l.length * 40 + 4096 ≤ 140737488355328) := hl
  obtain ⟨g, ca, rfl, ho⟩ := ha
  obtain ⟨xb, cb, rfl⟩ := hb.form
  have hcp := row_cap ho
  have HAT : Hid (∀ j u, (flat rf (l ++ rmk 20))[j]? = some u → w.cell? ⟨g, j, none⟩ = some u) := fun j u hu => row_at ho j u hu
  clear hb hl ho
  obtain ⟨na, hna⟩ : ∃ n, l.length = n := ⟨_, rfl⟩
  have HNA : Hid (l.length = na) := hna
  rw [hna] at HL hcp ⊢
  have hadd : IntKind.i64.wrap ((na : Int) + 20) = ((na + 20 : Nat) : Int) := by have := HL.out; rw [IntKind.wrap_i64]; omega
  have f1 : ((na + 20 : Nat) : Int) ≤ (ca : Int) := by omega
  have f1' : (na : Int) + 20 ≤ (ca : Int) := by omega
  have f2 : na + 20 ≤ ca := hcp.1
  clear hna hcp
  go_enter Try.func22, Try.ntmps22
  go_upto_region 3 with fail
  clear hadd f1 f1' f2
  go_loopg [6] 20 (fun gm v6 wr => ∃ i : Nat, v6 = .int .i64 (i : Int) ∧ Hid (Below w.heap.size w wr) ∧ Hid (i ≤ 20 ∧ gm = 20 - i))
  case atStart => exact ⟨0, rfl, Below.refl _ _, ⟨Nat.zero_le _, rfl⟩⟩
  case round =>
    obtain ⟨i, rfl, HBW, HI⟩ := hrel
    by_cases hi : i < 20
    · have hil : na + i < (l ++ rmk 20).length := by rw [List.length_append, rmk_len, HNA.out]; omega
      obtain ⟨q0, q1, q2⟩ := rf_get (l ++ rmk 20) (na + i) hil
      have k0 := below_cell HBW.out (HAT.out _ _ q0)
      have k1 := below_cell HBW.out (HAT.out _ _ q1)
      have k2 := below_cell HBW.out (HAT.out _ _ q2)
      have hg := getD_app l (rmk 20) rfd i
      rw [HNA.out, rmk_get 20 i hi] at hg
      rw [hg] at k0 k1 k2
      dsimp only at k0 k1 k2
      have e1 : decide ((i : Int) < 20) = true := by rw [decide_eq_true_eq]; omega
      have e2 : decide (i < 20) = true := by rw [decide_eq_true_eq]; omega
      have e5 : (i : Int) < 20 := by omega
      have HIL : Hid (i < 20) := hi
      have hwr := w64n i (by omega)
      have hadd : IntKind.i64.wrap (900 + (i : Int)) = 900 + (i : Int) := by rw [IntKind.wrap_i64]; omega
      have hadd2 : IntKind.i64.wrap ((na : Int) + (i : Int)) = ((na + i : Nat) : Int) := by have := HL.out; rw [IntKind.wrap_i64]; omega
      have e7 : ((na + i : Nat) : Int) < ((na + 20 : Nat) : Int) := by omega
      have e7' : (na : Int) + (i : Int) < (na : Int) + 20 := by omega
      have e8 : na + i < na + 20 := by omega
      clear hi hil q0 q1 q2 hg
      have hne := neq32 (900 + (i : Int)) mkS ⟨#[]⟩
      unfold mkS at hne k1
      go_wp2_with fail
      go_roundg (20 - (i + 1))
      case measure => have := HI.out; have := HIL.out; omega
      case rel => exact ⟨i + 1, by first | rfl | (rw [show (i : Int) + 1 = ((i + 1 : Nat) : Int) by omega]), HBW, ⟨HIL.out, rfl⟩⟩
    · have e1 : decide ((i : Int) < 20) = false := by rw [decide_eq_false_iff_not]; omega
      have e2 : decide (i < 20) = false := by rw [decide_eq_false_iff_not]; omega
      clear hi
      go_wp2_with (go_at_call 40; refine (sameRow_any (l := l) wr (by have h9 := HVA.out.up HBW.out; rw [HNA.out] at h9 ⊢; exact h9) (by have h9 := HVB.out.up HBW.out; rw [HNA.out] at h9 ⊢; exact h9) (by rw [HNA.out]; exact HL.out)).mono ?_; rintro e W2 ⟨rfl, hb2⟩; have B2 : Hid (Below wr.heap.size wr W2) := hb2; clear hb2)
      go_ret
      exact ⟨rfl, below_trans HBW.out B2.out⟩
end Go.Proofs.Ytodncbkdlnepjaa
