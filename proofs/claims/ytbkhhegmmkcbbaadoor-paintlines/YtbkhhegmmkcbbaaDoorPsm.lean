import Derived.Test.YtbkhhegmmkcbbaaDoorTfb
import Derived.Laws.StructEq
namespace Go.Proofs.YtbkhhegmmkcbbaaDoor
open Go.RowKit Go.Maps

theorem str_eq (x y : ByteArray) : (x.toList == y.toList) = decide (x = y) := by
  rw [ByteArray.toList_eq, ByteArray.toList_eq]
  by_cases h : x = y
  · subst h; simp
  · rw [decide_eq_false h, beq_eq_false_iff_ne]
    intro e
    exact h (ByteArray.ext (Array.toList_inj.1 e))
theorem take_eq_nd {la lb : List Nd} {i : Nat} (h : la.take i = lb.take i) (ha : i < la.length) (hb : i < lb.length) (e : la.getD i ndd = lb.getD i ndd) : la.take (i + 1) = lb.take (i + 1) := by
  rw [List.take_add_one, List.take_add_one, h]
  simp only [List.getD_eq_getElem?_getD, List.getElem?_eq_getElem ha, List.getElem?_eq_getElem hb, Option.getD_some] at e
  rw [List.getElem?_eq_getElem ha, List.getElem?_eq_getElem hb, e]
theorem Ns.seven {W : World} {a : Option Addr} {n cap : Nat} {t : List Nd} (h : Ns W (.slice a n cap) t) (i : Nat) (hi : i < t.length) : ∃ g o, a = some ⟨g, o, none⟩ ∧ ∀ W', Below W.heap.size W W' → W'.cell? ⟨g, o + i * 7, none⟩ = some (.string (t.getD i ndd).nm) ∧ W'.cell? ⟨g, o + i * 7 + 1, none⟩ = some (.bool (t.getD i ndd).nd) ∧ W'.cell? ⟨g, o + i * 7 + 2, none⟩ = some (.string (t.getD i ndd).fd) ∧ W'.cell? ⟨g, o + i * 7 + 3, none⟩ = some (.int .i64 (t.getD i ndd).fr) ∧ W'.cell? ⟨g, o + i * 7 + 4, none⟩ = some (.int .i64 (t.getD i ndd).tt) ∧ W'.cell? ⟨g, o + i * 7 + 5, none⟩ = some (.int .i64 (t.getD i ndd).kd) ∧ W'.cell? ⟨g, o + i * 7 + 6, none⟩ = some (.int .i64 (t.getD i ndd).lf) := by
  obtain ⟨g, o, cap', e, hc⟩ := h.cells i hi
  obtain ⟨rfl, -, -⟩ := Value.slice.inj e
  refine ⟨g, o, rfl, fun W' hW => ?_⟩
  have k : ∀ j u, (nf (t.getD i ndd))[j]? = some u → W'.cell? ⟨g, o + i * 7 + j, none⟩ = some u := fun j u hu => by rw [Nat.add_assoc]; exact below_cell hW (hc j u hu)
  exact ⟨k 0 _ rfl, k 1 _ rfl, k 2 _ rfl, k 3 _ rfl, k 4 _ rfl, k 5 _ rfl, k 6 _ rfl⟩
end Go.Proofs.YtbkhhegmmkcbbaaDoor
