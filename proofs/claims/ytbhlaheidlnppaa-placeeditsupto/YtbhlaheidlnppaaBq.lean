import Derived.Test.YtbhlaheidlnppaaIxt
namespace Go.Proofs.Ytbhlaheidlnppaa
open Go.RowKit

theorem info22 : (Try.prog.info? 22).map (fun i => (i.zero, i.size, i.bytes)) = some (some (.pointer none), 1, 8) := by kernel_rfl
theorem info9 : (Try.prog.info? 9).map (fun i => (i.zero, i.size, i.bytes)) = some (some (.string ⟨#[]⟩), 1, 16) := by kernel_rfl

/-- the indexes on the way, and their texts -/
structure Bq (w0 wr : World) (va vt : Value) (bs : List Nat) (ss : List ByteArray) (X : List (Nat × ByteArray)) : Prop where
  all : wr.ownsRow w0.heap.size 22 1 va bs.length (bs.map fun b => Value.pointer (some ⟨b, 0, none⟩))
  texts : wr.ownsRow w0.heap.size 9 1 vt ss.length (ss.map Value.string)
  each : ∀ x ∈ X, ∃ T, IxT wr x.1 x.2 T
  below : Below w0.heap.size w0 wr
theorem Bq.mono {w0 wr w' : World} {va vt : Value} {bs : List Nat} {ss : List ByteArray} {X : List (Nat × ByteArray)} (h : Bq w0 wr va vt bs ss X) (hb : Below wr.heap.size wr w') : Bq w0 w' va vt bs ss X :=
  ⟨own_mono h.all hb, own_mono h.texts hb, fun x hx => by
    obtain ⟨T, hT⟩ := h.each x hx
    exact ⟨T, hT.mono hb⟩, below_trans h.below hb⟩
theorem Bq.more {w0 wr : World} {va vt : Value} {bs : List Nat} {ss : List ByteArray} {X : List (Nat × ByteArray)} (h : Bq w0 wr va vt bs ss X) {b : Nat} {s : ByteArray} (hx : ∃ T, IxT wr b s T) : Bq w0 wr va vt bs ss ((b, s) :: X) :=
  ⟨h.all, h.texts, fun x hx' => by
    rcases List.mem_cons.1 hx' with rfl | h'
    · exact hx
    · exact h.each x h', h.below⟩
theorem Bq.push {w0 wr w' : World} {va vt va' : Value} {bs : List Nat} {ss : List ByteArray} {X : List (Nat × ByteArray)} {b : Nat} (h : Bq w0 wr va vt bs ss X)
    (ho : w'.ownsRow w0.heap.size 22 1 va' (bs.length + 1) ((bs.map fun b => Value.pointer (some ⟨b, 0, none⟩)) ++ [.pointer (some ⟨b, 0, none⟩)])) (hg : wr.grownBy w' va.ownBlock) : Bq w0 w' va' vt (bs ++ [b]) ss X := by
  refine ⟨by simpa using ho, h.texts.kept hg (own_apart h.all h.texts (by decide)), fun x hx => ?_, h.below.grown hg h.below.size (fun k hk => (h.all.lt k hk).1)⟩
  obtain ⟨T, hT⟩ := h.each x hx
  exact ⟨T, hT.grown h.all (by decide) (by decide) (by decide) hg⟩
theorem Bq.pushT {w0 wr w' : World} {va vt vt' : Value} {bs : List Nat} {ss : List ByteArray} {X : List (Nat × ByteArray)} {s : ByteArray} (h : Bq w0 wr va vt bs ss X)
    (ho : w'.ownsRow w0.heap.size 9 1 vt' (ss.length + 1) (ss.map Value.string ++ [.string s])) (hg : wr.grownBy w' vt.ownBlock) : Bq w0 w' va vt' bs (ss ++ [s]) X := by
  refine ⟨h.all.kept hg (own_apart h.texts h.all (by decide)), by simpa using ho, fun x hx => ?_, h.below.grown hg h.below.size (fun k hk => (h.texts.lt k hk).1)⟩
  obtain ⟨T, hT⟩ := h.each x hx
  exact ⟨T, hT.grown h.texts (by decide) (by decide) (by decide) hg⟩

def sumIns (E : List (Int × Int × ByteArray)) : Nat := (E.map fun e => e.2.2.size).sum
theorem sum_drop (E : List (Int × Int × ByteArray)) (i : Nat) (e : Int × Int × ByteArray) (h : E[i]? = some e) : sumIns (E.drop i) = e.2.2.size + sumIns (E.drop (i + 1)) := by
  have hi : i < E.length := (List.getElem?_eq_some_iff.1 h).1
  have he : E[i] = e := (List.getElem?_eq_some_iff.1 h).2
  rw [List.drop_eq_getElem_cons hi, he]
  simp [sumIns]

/-- clamped places of an edit -/
theorem places (s : ByteArray) (at_ del : Int) : ∃ a e : Nat, cl at_ s.size = a ∧ cl del ((s.size : Int) - a) = (e : Int) - a ∧ a ≤ e ∧ e ≤ s.size := by
  have h1 := cl_bd at_ s.size (by omega)
  obtain ⟨a, ha⟩ : ∃ a : Nat, cl at_ s.size = a := ⟨(cl at_ s.size).toNat, by omega⟩
  have h2 := cl_bd del ((s.size : Int) - a) (by omega)
  exact ⟨a, a + (cl del ((s.size : Int) - a)).toNat, ha, by omega, by omega, by omega⟩

end Go.Proofs.Ytbhlaheidlnppaa
