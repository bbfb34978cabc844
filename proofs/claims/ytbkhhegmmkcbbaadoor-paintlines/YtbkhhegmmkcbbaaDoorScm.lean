import Derived.Test.YtbkhhegmmkcbbaaDoorScl
namespace Go.Proofs.YtbkhhegmmkcbbaaDoor
open Go.RowKit Go.Maps

theorem zeroI3 (w : World) : (zeroValue 3).run Tryd.prog w = .ok (.int .i64 0) w := by kernel_rfl
theorem Mi.look {W : World} {b n : Nat} {D : DataW Unit} {f : Int → Option Nat} (h : Mi W b n D f) {t : Int} (ht : inI t) : (Instr.lookup 60 (.map (some b)) (.int .i64 t) false).run Tryd.prog W = .ok (.int .i64 (((f t).getD 0 : Nat) : Int)) W := by
  obtain ⟨c, hr, hc, -⟩ := h.1.lookup_int keyI Tryd.underlying60 Tryd.underlying3 (zeroI3 W) (keyOf_int_mk Tryd.underlying3 (wfI ht))
  rw [(h.2 t).2] at hc
  have h5 := DataW.lit.inj hc
  rw [hr, (Lit.int.inj h5).2]
section
variable {P : Program} {ops : Array Oper} {rest : List Oper} {o : Oper} {a : Act} {w : World} {Q : Exit → Act → World → Prop}
theorem wpList_look2 (hg : o.guard = none) (m x : Operand) (t : TypeId) (hop : o.op = Op.lookup t m x false) (mv key v : Value) (hm : a.eval m = mv) (hx : a.eval x = key) (hrun : (Instr.lookup t mv key false).run P w = .ok v w)
    (h : wpList P ops Q rest (a.put o.dst v) w) : wpList P ops Q (o :: rest) a w := by
  refine wpList_plain hg fun K' hK' => ?_
  unfold Oper.wp
  simp [execOp, hop, hm, hx, hrun, Result.andThen]
  exact hK' _ _ h
end
/-- The cells of a row of texts. -/
def tC (l : List ByteArray) : List Value := l.map Value.string
theorem tC_get (l : List ByteArray) (i : Nat) (h : i < l.length) : (tC l)[i]? = some (.string (l.getD i ⟨#[]⟩)) := by
  unfold tC
  rw [List.getElem?_map, List.getElem?_eq_getElem h, List.getD_eq_getElem?_getD, List.getElem?_eq_getElem h]; rfl
/-- A row by its function. -/
def fnC (n : Nat) (g : Nat → ByteArray) : List Value := tC ((List.range n).map g)
theorem fnC_len (n : Nat) (g : Nat → ByteArray) : (fnC n g).length = n := by unfold fnC tC; simp
theorem fnC_get (n : Nat) (g : Nat → ByteArray) (i : Nat) (h : i < n) : (fnC n g)[i]? = some (.string (g i)) := by
  unfold fnC tC
  rw [List.getElem?_map, List.getElem?_map, List.getElem?_range h]; rfl
theorem fnC_set (n : Nat) (g : Nat → ByteArray) (i : Nat) (x : ByteArray) : (fnC n g).set i (.string x) = fnC n (fun j => if j = i then x else g j) := by
  refine List.ext_getElem? fun k => ?_
  by_cases hk : k < n
  · rw [fnC_get _ _ _ hk]
    by_cases e : i = k
    · subst e
      rw [List.getElem?_set_self (by rw [fnC_len]; exact hk), if_pos rfl]
    · rw [List.getElem?_set_ne e, fnC_get _ _ _ hk, if_neg (fun h => e h.symm)]
  · rw [List.getElem?_eq_none (by rw [List.length_set, fnC_len]; omega), List.getElem?_eq_none (by rw [fnC_len]; omega)]
theorem made_fnC (n : Nat) : (madeCells (Value.string ⟨#[]⟩).cells (n * 1)).toList = fnC n (fun _ => ⟨#[]⟩) := by
  refine List.ext_getElem? fun k => ?_
  by_cases hk : k < n
  · rw [fnC_get _ _ _ hk]
    simp [madeCells, hk, Value.cells, Nat.mod_one]
  · rw [List.getElem?_eq_none (l := fnC n _) (by rw [fnC_len]; omega)]
    simp [madeCells, hk]
theorem num_at {P : List Int} (hP : P.Nodup) {i : Nat} (h : i < P.length) : num P (P.getD i 0) = i := by
  unfold num
  rw [List.getD_eq_getElem?_getD, List.getElem?_eq_getElem h, Option.getD_some]
  exact hP.idxOf_getElem i h
theorem num_lt {P : List Int} {x : Int} (h : x ∈ P) : num P x < P.length := List.idxOf_lt_length_of_mem h
theorem num_get {P : List Int} {x : Int} (h : x ∈ P) : P.getD (num P x) 0 = x := by
  rw [List.getD_eq_getElem?_getD, List.getElem?_eq_getElem (num_lt h), Option.getD_some]
  exact List.getElem_idxOf (num_lt h)
theorem infoStr : (Tryd.prog.info? 9).map (fun i => (i.zero, i.size, i.bytes)) = some (some (.string ⟨#[]⟩), 1, 16) := by kernel_rfl
theorem fa_nil (P : List Int) : fa [] P = fun _ => ⟨#[]⟩ := rfl
theorem tkA_nil (P : List Int) : tkA [] P = fun _ => false := rfl
end Go.Proofs.YtbkhhegmmkcbbaaDoor
