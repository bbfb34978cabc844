import Derived.Test.YtjpmmihcnfedgabClam
import Derived.Lib.OthersKept
import Derived.OwnWalk
import Derived.Maps.AppendAt
import Derived.Laws.OwnMore
import Derived.Deep.CutBlock
namespace Go.Proofs.Ytjpmmihcnfedgab
open Go.RowKit

theorem grown_none {w w' : World} (h : Below w.heap.size w w') : w.grownBy w' none := ⟨h.os, h.tape, h.output, h.size, fun k hk _ => h.block k hk⟩
theorem own_mono {w w' : World} {base : Nat} {e : TypeId} {z : Nat} {v : Value} {n : Nat} {xs : List Value} (h : w.ownsRow base e z v n xs) (hb : Below w.heap.size w w') : w'.ownsRow base e z v n xs :=
  h.kept (grown_none hb) (by cases hv : v.ownBlock <;> simp)
theorem own_form {w : World} {base e z : Nat} {v : Value} {n : Nat} {xs : List Value} (h : w.ownsRow base e z v n xs) (hn : 0 < n) :
    ∃ g cap, v = .slice (some ⟨g, 0, none⟩) n cap ∧ n ≤ cap ∧ base ≤ g ∧ g < w.heap.size := by
  obtain ⟨h1, h2⟩ := h
  rcases h2 with ⟨_, h2⟩ | ⟨g, cap, cur, rfl, hg, hh, hcap, _⟩
  · omega
  · exact ⟨g, cap, rfl, hcap, hg, lt_of_heap hh⟩
theorem own_slice {w : World} {base e z : Nat} {v : Value} {n : Nat} {xs : List Value} (h : w.ownsRow base e z v n xs) : ∃ a cap, v = .slice a n cap := by
  obtain ⟨h1, h2⟩ := h
  rcases h2 with ⟨rfl, h2⟩ | ⟨g, cap, cur, rfl, hg, hh, hcap, _⟩
  · subst h2
    exact ⟨_, _, rfl⟩
  · exact ⟨_, _, rfl⟩

/-- edits in memory -/
def EditsAt (w : World) (blk off : Nat) (E : List (Int × Int × ByteArray)) : Prop :=
  ∀ (i : Nat) (e : Int × Int × ByteArray), E[i]? = some e → w.cell? ⟨blk, off + i * 3, none⟩ = some (.int .i64 e.1) ∧ w.cell? ⟨blk, off + i * 3 + 1, none⟩ = some (.int .i64 e.2.1) ∧ w.cell? ⟨blk, off + i * 3 + 2, none⟩ = some (.string e.2.2)
theorem EditsAt.up {w w' : World} {blk off : Nat} {E : List (Int × Int × ByteArray)} (h : EditsAt w blk off E) (hb : Below w.heap.size w w') : EditsAt w' blk off E := fun i e he => by
  obtain ⟨h0, h1, h2⟩ := h i e he
  exact ⟨below_cell hb h0, below_cell hb h1, below_cell hb h2⟩
/-- the cells of edits -/
def ecells (V : List (Int × Int × ByteArray)) : List Value := V.flatMap fun v => [.int .i64 v.1, .int .i64 v.2.1, .string v.2.2]
theorem ecells_app (V U : List (Int × Int × ByteArray)) : ecells (V ++ U) = ecells V ++ ecells U := by simp [ecells]
theorem ecells_at (V : List (Int × Int × ByteArray)) (i : Nat) (x : Int × Int × ByteArray) (h : V[i]? = some x) :
    (ecells V)[i * 3]? = some (.int .i64 x.1) ∧ (ecells V)[i * 3 + 1]? = some (.int .i64 x.2.1) ∧ (ecells V)[i * 3 + 2]? = some (.string x.2.2) := by
  induction V generalizing i with
  | nil => simp at h
  | cons a T ih =>
    cases i with
    | zero =>
      simp at h
      subst h
      simp [ecells]
    | succ i =>
      have := ih i (by simpa using h)
      rw [show (i + 1) * 3 = i * 3 + 1 + 1 + 1 by omega]
      simpa [ecells] using this
theorem info23 : (Try.prog.info? 23).map (fun i => (i.zero, i.size, i.bytes)) = some (some (.agg #[.int .i64 0, .int .i64 0, .string ⟨#[]⟩]), 3, 32) := by kernel_rfl
theorem cell_three_new (w : World) (a b c : Value) (t : TypeId) : ∀ (j : Nat) (u : Value), [a, b, c][j]? = some u → (w.alloc (.cells #[a, b, c] t)).cell? ((⟨w.heap.size, 0, none⟩ : Addr).add j) = some u := by
  intro j u hu
  obtain ⟨h0, h1, h2⟩ := cells3 w a b c t
  match j, hu with
  | 0, hu => simp at hu; subst hu; exact h0
  | 1, hu => simp at hu; subst hu; simp [Addr.add, h1]
  | 2, hu => simp at hu; subst hu; simp [Addr.add, h2]
  | n + 3, hu => simp at hu

end Go.Proofs.Ytjpmmihcnfedgab
