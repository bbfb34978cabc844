import Derived.Test.YtodncbkdlnepjaaFso
import Derived.ChangeKeysEq
namespace Go.Proofs.Ytodncbkdlnepjaa
open Go.RowKit Go.Maps

/-- The array of the sets, by its cells. -/
def sf (S : Ss) (i : Nat) : List Value := [.int .u64 ((S i).1 : Int), .bool (S i).2]
theorem sf_len (S : Ss) (i : Nat) : (sf S i).length = 2 := rfl
def sC (S : Ss) : List Value := flat (sf S) (List.range 192)
theorem sC_len (S : Ss) : (sC S).length = 384 := by unfold sC; rw [flat_len (sf_len S), List.length_range]
theorem sC_one (S : Ss) : ∀ u ∈ sC S, u.oneCell' = true := flat_one (fun i u hu => by
  simp only [sf, List.mem_cons, List.not_mem_nil, or_false] at hu
  rcases hu with rfl | rfl <;> rfl) _
theorem range_getD (n i d : Nat) (h : i < n) : (List.range n).getD i d = i := by
  rw [List.getD_eq_getElem?_getD, List.getElem?_range h]; rfl
theorem sC_get (S : Ss) (i : Nat) (h : i < 192) : (sC S)[i * 2]? = some (.int .u64 ((S i).1 : Int)) ∧ (sC S)[i * 2 + 1]? = some (.bool (S i).2) := by
  have h1 := flat_get (sf_len S) 0 (List.range 192) i 0 (by rw [List.length_range]; exact h) (by decide)
  have h2 := flat_get (sf_len S) 0 (List.range 192) i 1 (by rw [List.length_range]; exact h) (by decide)
  rw [range_getD _ _ _ h] at h1 h2
  exact ⟨h1, h2⟩
theorem sC_ext {l : List Value} {S : Ss} (hl : l.length = 384) (h : ∀ i, i < 192 → l[i * 2]? = some (.int .u64 ((S i).1 : Int)) ∧ l[i * 2 + 1]? = some (.bool (S i).2)) : l = sC S := by
  refine List.ext_getElem? fun k => ?_
  by_cases hk : k < 384
  · obtain ⟨h1, h2⟩ := h (k / 2) (by omega)
    obtain ⟨k1, k2⟩ := sC_get S (k / 2) (by omega)
    rcases Nat.mod_two_eq_zero_or_one k with e | e
    · rw [show k = k / 2 * 2 by omega, h1, k1]
    · rw [show k = k / 2 * 2 + 1 by omega, h2, k2]
  · rw [List.getElem?_eq_none (by omega), List.getElem?_eq_none (by rw [sC_len]; omega)]
def up1 (S : Ss) (i n : Nat) : Ss := fun j => if j = i then (n, (S j).2) else S j
def up2 (S : Ss) (i : Nat) (b : Bool) : Ss := fun j => if j = i then ((S j).1, b) else S j
theorem sC_set1 (S : Ss) (i n : Nat) (_h : i < 192) : (sC S).set (i * 2) (.int .u64 (n : Int)) = sC (up1 S i n) := by
  refine sC_ext (by rw [List.length_set, sC_len]) fun j hj => ?_
  obtain ⟨k1, k2⟩ := sC_get S j hj
  have hl := sC_len S
  unfold up1
  by_cases e : j = i
  · subst e
    rw [List.getElem?_set_self (by omega), List.getElem?_set_ne (by omega), k2, if_pos rfl]
    exact ⟨rfl, rfl⟩
  · rw [List.getElem?_set_ne (by omega), List.getElem?_set_ne (by omega), k1, k2, if_neg e]
    exact ⟨rfl, rfl⟩
theorem sC_set2 (S : Ss) (i : Nat) (b : Bool) (_h : i < 192) : (sC S).set (i * 2 + 1) (.bool b) = sC (up2 S i b) := by
  refine sC_ext (by rw [List.length_set, sC_len]) fun j hj => ?_
  obtain ⟨k1, k2⟩ := sC_get S j hj
  have hl := sC_len S
  unfold up2
  by_cases e : j = i
  · subst e
    rw [List.getElem?_set_ne (by omega), List.getElem?_set_self (by omega), k1, if_pos rfl]
    exact ⟨rfl, rfl⟩
  · rw [List.getElem?_set_ne (by omega), List.getElem?_set_ne (by omega), k1, k2, if_neg e]
    exact ⟨rfl, rfl⟩
theorem sC_cong {S T : Ss} (h : ∀ i, i < 192 → S i = T i) : sC S = sC T := sC_ext (sC_len S) fun i hi => by rw [← h i hi]; exact sC_get S i hi
/-- The array in a block. -/
def Sb (W : World) (b : Nat) (S : Ss) : Prop := W.heap[b]? = some (.cells (sC S).toArray 65 (0, 0))
theorem Sb.up {W W' : World} {b : Nat} {S : Ss} (h : Sb W b S) (hb : Below W.heap.size W W') : Sb W' b S := by
  unfold Sb; rw [hb.block _ (lt_of_heap h)]; exact h
theorem Sb.get {W : World} {b : Nat} {S : Ss} (h : Sb W b S) (i : Nat) (hi : i < 192) : W.cell? ⟨b, i * 2, none⟩ = some (.int .u64 ((S i).1 : Int)) ∧ W.cell? ⟨b, i * 2 + 1, none⟩ = some (.bool (S i).2) := by
  obtain ⟨k1, k2⟩ := sC_get S i hi
  exact ⟨rcell h _ _ (by rw [List.getElem?_toArray]; exact k1), rcell h _ _ (by rw [List.getElem?_toArray]; exact k2)⟩
theorem Sb.set1 {W : World} {b : Nat} {S : Ss} (h : Sb W b S) (i n : Nat) (hi : i < 192) : Sb (W.setCell ⟨b, i * 2, none⟩ (.int .u64 (n : Int))) b (up1 S i n) := by
  unfold Sb
  rw [blk_set _ h, List.setIfInBounds_toArray, sC_set1 S i n hi]
theorem Sb.set2 {W : World} {b : Nat} {S : Ss} (h : Sb W b S) (i : Nat) (v : Bool) (hi : i < 192) : Sb (W.setCell ⟨b, i * 2 + 1, none⟩ (.bool v)) b (up2 S i v) := by
  unfold Sb
  rw [blk_set _ h, List.setIfInBounds_toArray, sC_set2 S i v hi]
theorem Sb.fr {W : World} {b : Nat} {S : Ss} (h : Sb W b S) (k : Nat) : W.frozen? ⟨b, k, none⟩ = false := Lib.frozen_of_heap h k
/-! The array as a whole: laws of the walk. -/
theorem wpList_alloc_row {P : Program} {w : World} {ops : Array Oper} {rest : List Oper} {o : Oper} {a : Act} {Q : Exit → Act → World → Prop} (hgd : o.guard = none) (t : TypeId) (ho : o.op = .alloc t)
    (c : Array Value) (hz : ∀ w, (zeroValue t).run P w = .ok (.agg c) w)
    (h : wpList P ops Q rest (a.put o.dst (.pointer (some ⟨w.heap.size, 0, none⟩))) (w.alloc (.cells c t))) : wpList P ops Q (o :: rest) a w := by
  refine wpList_plain hgd fun K hK => ?_
  unfold Oper.wp
  simp [execOp, ho, Instr.alloc, hz, newVar, newRow, Result.andThen, Value.cells]
  exact hK _ _ h
theorem wpList_load_row {P : Program} {w : World} {ops : Array Oper} {rest : List Oper} {o : Oper} {a : Act} {Q : Exit → Act → World → Prop} (hgd : o.guard = none) (t : TypeId) (x : Operand) (ho : o.op = .load t x)
    (b : Nat) (c : Array Value) (fr : Nat × Nat) (d : TypeDesc) (hb : w.heap[b]? = some (.cells c t fr)) (hu : P.underlying t = some d) (hd : (match d with | .struct _ | .array _ _ => true | _ => false) = true) (hi : (P.info? t).map (·.size) = some c.size) (hx : a.eval x = .pointer (some ⟨b, 0, none⟩))
    (h : wpList P ops Q rest (a.put o.dst (.agg c)) w) : wpList P ops Q (o :: rest) a w := by
  refine wpList_plain hgd fun K hK => ?_
  have hr := run_loadVar_row (P := P) w b t t c fr d hb hu hd hi
  unfold Oper.wp
  simp [execOp, ho, hx, Instr.loadAt, Instr.sureAddr, hr, Result.andThen]
  exact hK _ _ h
theorem wpList_store_row {P : Program} {w : World} {ops : Array Oper} {rest : List Oper} {o : Oper} {a : Act} {Q : Exit → Act → World → Prop} (hgd : o.guard = none) (t : TypeId) (x y : Operand) (ho : o.op = .store t x y)
    (b : Nat) (c c' : Array Value) (hb : w.heap[b]? = some (.cells c t (0, 0))) (hi : (P.info? t).map (·.size) = some c'.size) (hc : c.size = c'.size) (h1 : c'.all (·.oneCell') = true) (hx : a.eval x = .pointer (some ⟨b, 0, none⟩)) (hy : a.eval y = .agg c')
    (h : wpList P ops Q rest (a.put o.dst undef) (w.setRow b c')) : wpList P ops Q (o :: rest) a w := by
  refine wpList_plain hgd fun K hK => ?_
  have hr := run_storeVar_row (P := P) w b t t c c' hb hi hc h1
  unfold Oper.wp
  simp [execOp, ho, hx, hy, Instr.storeAt, Instr.sureAddr, hr, Result.andThen]
  exact hK _ _ h
theorem wpList_box_row {P : Program} {w : World} {ops : Array Oper} {rest : List Oper} {o : Oper} {a : Act} {Q : Exit → Act → World → Prop} (hgd : o.guard = none) (t : TypeId) (x : Operand) (ho : o.op = .box t x)
    (c : Array Value) (hx : a.eval x = .agg c)
    (h : wpList P ops Q rest (a.put o.dst (.pointer (some ⟨w.heap.size, 0, none⟩))) (w.alloc (.cells c t))) : wpList P ops Q (o :: rest) a w := by
  refine wpList_plain hgd fun K hK => ?_
  unfold Oper.wp
  simp [execOp, ho, hx, Instr.box, newVar, newRow, Result.andThen, Value.cells]
  exact hK _ _ h
theorem setRow_get {W : World} {b : Nat} {c c' : Array Value} {t : TypeId} (h : W.heap[b]? = some (.cells c t (0, 0))) : (W.setRow b c').heap[b]? = some (.cells c' t (0, 0)) := by
  obtain ⟨hlt, hk⟩ := Array.getElem?_eq_some_iff.1 h
  show (W.heap.modify b _)[b]? = _
  rw [Array.getElem?_eq_getElem (by rw [Array.size_modify]; exact hlt), Array.getElem_modify_self, hk]
theorem setRow_new (w : World) (c c' : Array Value) (t : TypeId) : (w.alloc (.cells c t)).setRow w.heap.size c' = w.alloc (.cells c' t) := World.setRow_alloc_new w c c' t
set_option maxRecDepth 100000 in
theorem info65 : (Try.prog.info? 65).map (fun i => (i.zero, i.size)) = some (some (.agg (sC fun _ => (0, false)).toArray), 384) := by kernel_rfl
theorem zero65 : ∀ w, (zeroValue 65).run Try.prog w = .ok (.agg (sC fun _ => (0, false)).toArray) w := (zero_of_info info65).1
theorem size65 (S : Ss) : (Try.prog.info? 65).map (·.size) = some (sC S).toArray.size := by
  rw [(zero_of_info info65).2, List.size_toArray, sC_len]
theorem one65 (S : Ss) : (sC S).toArray.all (·.oneCell') = true := by
  rw [Array.all_eq_true_iff_forall_mem]
  intro u hu
  exact sC_one S u (by simpa using hu)
theorem sC_part (S : Ss) (i : Nat) (h : i < 192) : (sC S).toArray.extract (i * 2) (i * 2 + 2) = #[.int .u64 ((S i).1 : Int), .bool (S i).2] := by
  obtain ⟨k1, k2⟩ := sC_get S i h
  have hl := sC_len S
  refine Array.ext_getElem? fun k => ?_
  rw [Array.getElem?_extract]
  rcases k with _ | _ | k
  · rw [if_pos (by simp [hl]; omega), Nat.add_zero, List.getElem?_toArray, k1]; rfl
  · rw [if_pos (by simp [hl]; omega), List.getElem?_toArray, k2]; rfl
  · rw [if_neg (by omega), Array.getElem?_eq_none (by simp)]
theorem info63 : (Try.prog.info? 63).map (fun i => (i.zero, i.size, i.bytes)) = some (some (.agg #[.int .u64 0, .bool false]), 2, 16) := by kernel_rfl
theorem cells63 : Try.prog.cellsOf 63 = 2 := by kernel_rfl
theorem under65 : Try.prog.underlying 65 = some (.array 192 63) := by kernel_rfl
theorem run_set_eq (w : World) (x y : Nat) (b c : Bool) : (Op.equalIn 9999 63 (.agg #[.int .u64 (x : Int), .bool b]) (.agg #[.int .u64 (y : Int), .bool c])).run Try.prog w = .ok (decide ((x, b) = (y, c))) w := by
  rw [show (9999 : Nat) = 9998 + 1 from rfl, run_equalIn_struct w 9998 63 _ _ (by kernel_rfl) (by kernel_rfl)]
  simp only [Program.fieldsOf, Try.underlying63]
  go_simp
  by_cases h1 : x = y <;> by_cases h2 : b = c <;> simp [h1, h2] <;> omega
theorem run_items (S T : Ss) (w : World) : ∀ is : List Nat, (∀ i ∈ is, i < 192) → (Op.eqItems 9999 63 2 (sC S).toArray (sC T).toArray is).run Try.prog w = .ok (is.all fun i => decide (S i = T i)) w
  | [], _ => by simp [Op.eqItems]
  | i :: is, h => by
    have ih := run_items S T w is (fun j hj => h j (List.mem_cons_of_mem _ hj))
    have hi := h i List.mem_cons_self
    have p1 : (part 63 (sC S).toArray (i * 2)).run Try.prog w = .ok (.agg #[.int .u64 ((S i).1 : Int), .bool (S i).2]) w := by
      rw [← sC_part S i hi]; simp [part, Result.andThen]
    have p2 : (part 63 (sC T).toArray (i * 2)).run Try.prog w = .ok (.agg #[.int .u64 ((T i).1 : Int), .bool (T i).2]) w := by
      rw [← sC_part T i hi]; simp [part, Result.andThen]
    simp only [Op.eqItems, Sem.run_bind, p1, p2, Result.andThen_ok, run_set_eq, List.all_cons]
    by_cases e : S i = T i
    · rw [decide_eq_true (show ((S i).1, (S i).2) = ((T i).1, (T i).2) from e)]
      simpa using ih
    · rw [decide_eq_false (show ¬ ((S i).1, (S i).2) = ((T i).1, (T i).2) from e)]
      simp
theorem run_equal65 (S T : Ss) (w : World) : (Op.equalIn 10000 65 (.agg (sC S).toArray) (.agg (sC T).toArray)).run Try.prog w = .ok ((List.range 192).all fun i => decide (S i = T i)) w := by
  obtain ⟨i, hi, _⟩ := info_parts info63
  rw [show (10000 : Nat) = 9999 + 1 from rfl, run_equalIn_array w 9999 _ _ under65 hi, cells63]
  exact run_items S T w _ (fun i hi => List.mem_range.1 hi)
theorem wpList_eql65 {w : World} {ops : Array Oper} {rest : List Oper} {o : Oper} {a : Act} {Q : Exit → Act → World → Prop} (hgd : o.guard = none) (x y : Operand) (ho : o.op = .binOp .eql 65 x y 65)
    (S T : Ss) (hx : a.eval x = .agg (sC S).toArray) (hy : a.eval y = .agg (sC T).toArray)
    (h : wpList Try.prog ops Q rest (a.put o.dst (.bool ((List.range 192).all fun i => decide (S i = T i)))) w) : wpList Try.prog ops Q (o :: rest) a w := by
  refine wpList_plain hgd fun K hK => ?_
  have hr := run_equal65 S T w
  unfold Oper.wp
  simp [execOp, ho, hx, hy, eqGuard, binOp, Op.equal, Op.maxDepth, hr, Result.andThen]
  exact hK _ _ h
end Go.Proofs.Ytodncbkdlnepjaa
