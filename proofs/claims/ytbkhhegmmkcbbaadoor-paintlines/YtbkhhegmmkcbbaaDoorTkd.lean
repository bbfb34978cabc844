import Derived.Test.YtbkhhegmmkcbbaaDoorTst
namespace Go.Proofs.YtbkhhegmmkcbbaaDoor
open Go.RowKit Go.Maps

theorem info_parts {e : TypeId} {z : Value} {s b : Nat} (h : (Tryd.prog.info? e).map (fun i => (i.zero, i.size, i.bytes)) = some (some z, s, b)) : ∃ i, Tryd.prog.info? e = some i ∧ i.zero = some z ∧ i.size = s ∧ i.bytes = b := by
  cases hi : Tryd.prog.info? e with
  | none => rw [hi] at h; cases h
  | some i =>
    rw [hi] at h
    have h1 : (i.zero, i.size, i.bytes) = (some z, s, b) := Option.some.inj h
    exact ⟨i, rfl, congrArg (·.1) h1, congrArg (·.2.1) h1, congrArg (·.2.2) h1⟩
theorem cell_one_new (w : World) (x : Value) (t : TypeId) : ∀ j q, [x][j]? = some q → (w.alloc (.cells #[x] t)).cell? ((⟨w.heap.size, 0, none⟩ : Addr).add j) = some q :=
  World.news_of_block (heap_new w (.cells #[x] t))
/-- Nothing but a row has turned; where it lies now. -/
def Gr (w w' : World) (v v' : Value) : Prop := w.grownBy w' v.ownBlock ∧ ∀ r, v'.ownBlock = some r → w.heap.size ≤ r ∨ v.ownBlock = some r
theorem Gr.refl (w : World) (v : Value) : Gr w w v v := ⟨World.grownBy.refl _ _, fun _ h => .inr h⟩
theorem Gr.trans {w w1 w2 : World} {v v1 v2 : Value} (h : Gr w w1 v v1) (k : Gr w1 w2 v1 v2) : Gr w w2 v v2 :=
  ⟨h.1.andThen k.1 h.2, fun r hr => (k.2 r hr).elim (fun e => .inl (Nat.le_trans h.1.size e)) (h.2 r)⟩
theorem Gr.up {w w1 w2 : World} {v v1 : Value} (h : Gr w w1 v v1) (hb : Below w1.heap.size w1 w2) : Gr w w2 v v1 :=
  ⟨h.1.andThen (grown_of_below hb) (fun j e => by cases e), h.2⟩
theorem Gr.cell {w w' : World} {v v' : Value} (h : Gr w w' v v') {a : Addr} {u : Value} (hc : w.cell? a = some u) (hne : v.ownBlock ≠ some a.block) : w'.cell? a = some u := h.1.cell hc (fun e => hne e.symm)
/-- A row of the call's own that has grown: what was there before the call stays. -/
theorem bel_app {w W W2 : World} {B : Nat} {e : TypeId} {size n : Nat} {v : Value} {xs : List Value} {o : Obj} (hb : Below B w W) (hB : B ≤ W.heap.size) (hr : W.ownsRow B e size v n xs) (hg : (W.alloc o).grownBy W2 v.ownBlock) : Below B w W2 :=
  hb.grown ((World.grownBy_alloc W o v.ownBlock).trans hg) hB (fun r hr' => (row_tag hr r hr').1)
end Go.Proofs.YtbkhhegmmkcbbaaDoor
