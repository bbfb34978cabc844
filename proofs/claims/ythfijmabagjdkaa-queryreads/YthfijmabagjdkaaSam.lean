import Derived.Test.YthfijmabagjdkaaCuj
import Derived.Laws.StructEq
namespace Go.Proofs.Ythfijmabagjdkaa
open Go.RowKit Go.Maps

theorem loop_is (d : ByteArray) : ∀ n i r, n = d.size - i → ByteArray.toList.loop d i r = r.reverse ++ d.data.toList.drop i := by
  intro n
  induction n with
  | zero =>
    intro i r h
    unfold ByteArray.toList.loop
    rw [if_neg (by omega), List.drop_eq_nil_of_le (by rw [Array.length_toList]; show d.size ≤ i; omega)]
    simp
  | succ n ih =>
    intro i r h
    unfold ByteArray.toList.loop
    have hl : d.data.toList.length = d.size := Array.length_toList
    rw [if_pos (by omega), ih _ _ (by omega), List.drop_eq_getElem_cons (by omega : i < d.data.toList.length)]
    have e : d.get! i = d.data.toList[i]'(by omega) := by
      rw [get_bang d i (by omega), Array.getElem_toList]; rfl
    rw [e]
    simp
theorem toL_eq (d : ByteArray) : d.toList = d.data.toList := by
  unfold ByteArray.toList
  rw [loop_is d d.size 0 [] (by omega)]; simp
theorem str_eq (x y : ByteArray) : (x.toList == y.toList) = decide (x = y) := by
  rw [toL_eq, toL_eq]
  by_cases h : x = y
  · subst h; simp
  · rw [decide_eq_false h, beq_eq_false_iff_ne]
    intro e
    exact h (ByteArray.ext (Array.toList_inj.1 e))
theorem bs_beq (x y : ByteArray) : (x == y) = decide (x = y) := by rw [beq_toListBytes, str_eq]
theorem bs_inj {a b : List UInt8} (h : (⟨a.toArray⟩ : ByteArray) = ⟨b.toArray⟩) : a = b := by
  injection h with h
  have := congrArg Array.toList h
  simpa using this
end Go.Proofs.Ythfijmabagjdkaa
