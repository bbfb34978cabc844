import Derived.Test.YtkjljnneghnpiaaNcb
import Derived.Test.YtkjljnneghnpiaaRnc
namespace Go.Proofs.Ytkjljnneghnpiaa
open Go.RowKit Go.Maps

theorem cell_one_new (w : World) (x : Value) (t : TypeId) : ∀ j v, [x][j]? = some v → (w.alloc (.cells #[x] t)).cell? ((⟨w.heap.size, 0, none⟩ : Addr).add j) = some v := by
  intro j u hj
  rw [addPl, Nat.zero_add, Lib.cell_of_heap (World.alloc_heap_new w _)]
  simpa using hj
/-- The twin under way. -/
structure Tk (w W : World) (vo vt vf : Value) (N : Mc) (on : List (Nat → Bool)) (tos : List Int) (fvs : List Value) (frs : List (List Int)) (ns : List Nat) (xo : Value) (no : Nat) (xt : Value) (nt : Nat) (xf : Value) (nf : Nat) : Prop where
  bel : Below w.heap.size w W
  b0 : W.heap[w.heap.size]? = some (.cells #[vo, vt, vf, .int .i64 N.start, .int .i64 N.fin] 26 (0, 0))
  b1 : W.heap[w.heap.size + 1]? = some (.cells #[.slice none 0 0, .slice none 0 0, .slice none 0 0, .int .i64 0, .int .i64 0] 26 (0, 0))
  b2 : W.heap[w.heap.size + 2]? = some (.cells #[xo, xt, xf, .int .i64 N.start, .int .i64 N.fin] 26 (0, 0))
  tr : Tr w.heap.size W on tos fvs frs ns xo no xt nt xf nf
section
variable {w W W2 : World} {vo vt vf : Value} {N : Mc} {on : List (Nat → Bool)} {tos : List Int} {fvs : List Value} {frs : List (List Int)} {ns : List Nat} {xo xt xf : Value} {no nt nf : Nat}
theorem Tk.below (h : Tk w W vo vt vf N on tos fvs frs ns xo no xt nt xf nf) (hb : Below W.heap.size W W2) : Tk w W2 vo vt vf N on tos fvs frs ns xo no xt nt xf nf :=
  ⟨below_trans h.bel hb, (hb.block _ (lt_of_heap h.b0)).trans h.b0, (hb.block _ (lt_of_heap h.b1)).trans h.b1, (hb.block _ (lt_of_heap h.b2)).trans h.b2, h.tr.below hb⟩
theorem heap_other {W : World} {b k i : Nat} {v : Value} (h : i ≠ b) : (W.setCell ⟨b, k, none⟩ v).heap[i]? = W.heap[i]? := Below.heap_setCell W ⟨b, k, none⟩ v i (fun e => h (by rw [e]))
theorem Tk.mid (h : Tk w W vo vt vf N on tos fvs frs ns xo no xt nt xf nf) (hg : W.grownBy W2 xo.ownBlock ∨ W.grownBy W2 xt.ownBlock ∨ W.grownBy W2 xf.ownBlock) : Below w.heap.size w W2 ∧ W2.heap[w.heap.size]? = some (.cells #[vo, vt, vf, .int .i64 N.start, .int .i64 N.fin] 26 (0, 0)) ∧ W2.heap[w.heap.size + 1]? = some (.cells #[.slice none 0 0, .slice none 0 0, .slice none 0 0, .int .i64 0, .int .i64 0] 26 (0, 0)) ∧ W2.heap[w.heap.size + 2]? = some (.cells #[xo, xt, xf, .int .i64 N.start, .int .i64 N.fin] 26 (0, 0)) := by
  refine ⟨?_, h.tr.cell h.b0 hg, h.tr.cell h.b1 hg, h.tr.cell h.b2 hg⟩
  rcases hg with hg | hg | hg
  · exact h.bel.trans ((Below.refl _ _).grown hg h.bel.size (fun k e => (h.tr.on.tag k e).1))
  · exact h.bel.trans ((Below.refl _ _).grown hg h.bel.size (fun k e => (h.tr.tos.tag k e).1))
  · exact h.bel.trans ((Below.refl _ _).grown hg h.bel.size (fun k e => (h.tr.fr.tag k e).1))
theorem Tk.fin (hb : Below w.heap.size w W2) (h0 : W2.heap[w.heap.size]? = some (.cells #[vo, vt, vf, .int .i64 N.start, .int .i64 N.fin] 26 (0, 0))) (h1 : W2.heap[w.heap.size + 1]? = some (.cells #[.slice none 0 0, .slice none 0 0, .slice none 0 0, .int .i64 0, .int .i64 0] 26 (0, 0))) {cur : Array Value} (h2 : W2.heap[w.heap.size + 2]? = some (.cells cur 26 (0, 0))) (ht : Tr w.heap.size W2 on tos fvs frs ns xo no xt nt xf nf) (k : Nat) (v : Value) (hc : cur.setIfInBounds k v = #[xo, xt, xf, .int .i64 N.start, .int .i64 N.fin]) :
    Tk w (W2.setCell ⟨w.heap.size + 2, k, none⟩ v) vo vt vf N on tos fvs frs ns xo no xt nt xf nf :=
  ⟨hb.setCell (p := ⟨w.heap.size + 2, k, none⟩) (by show w.heap.size ≤ w.heap.size + 2; omega) _, by rw [heap_other (by omega)]; exact h0, by rw [heap_other (by omega)]; exact h1, by rw [blk_set _ h2, hc], ht.blk h2 grown_set⟩
theorem Tk.on_ (h : Tk w W vo vt vf N on tos fvs frs ns xo no xt nt xf nf) {on' : List (Nat → Bool)} {vo' : Value} {no' : Nat} (hg : W.grownBy W2 xo.ownBlock) (hr : Sh w.heap.size W2 40 4 vo' no' on'.length (onC on')) : Tk w (W2.setCell ⟨w.heap.size + 2, 0, none⟩ vo') vo vt vf N on' tos fvs frs ns vo' no' xt nt xf nf := by
  obtain ⟨m1, m2, m3, m4⟩ := h.mid (.inl hg)
  exact Tk.fin m1 m2 m3 m4 (h.tr.putOn hg hr) 0 vo' rfl
theorem Tk.to_ (h : Tk w W vo vt vf N on tos fvs frs ns xo no xt nt xf nf) {tos' : List Int} {vt' : Value} {nt' : Nat} (hg : W.grownBy W2 xt.ownBlock) (hr : Sh w.heap.size W2 3 1 vt' nt' tos'.length (iC tos')) (hl : vt'.ownBlock = xt.ownBlock ∨ ∃ r, vt'.ownBlock = some r ∧ W.heap.size ≤ r) : Tk w (W2.setCell ⟨w.heap.size + 2, 1, none⟩ vt') vo vt vf N on tos' fvs frs ns xo no vt' nt' xf nf := by
  obtain ⟨m1, m2, m3, m4⟩ := h.mid (.inr (.inl hg))
  exact Tk.fin m1 m2 m3 m4 (h.tr.putTo hg hr hl) 1 vt' rfl
theorem Tk.fr_ (h : Tk w W vo vt vf N on tos fvs frs ns xo no xt nt xf nf) {v vf' : Value} {l : List Int} {n nf' : Nat} (hg : W.grownBy W2 xf.ownBlock) (hr : Sh w.heap.size W2 23 1 vf' nf' (fvs ++ [v]).length (fvs ++ [v])) (hv : Sh w.heap.size W 3 1 v n l.length (iC l)) (hd : ∀ i, i < fvs.length → dj (fvs.getD i undef) v) (ht : dj v xt) : Tk w (W2.setCell ⟨w.heap.size + 2, 2, none⟩ vf') vo vt vf N on tos (fvs ++ [v]) (frs ++ [l]) (ns ++ [n]) xo no xt nt vf' nf' := by
  obtain ⟨m1, m2, m3, m4⟩ := h.mid (.inr (.inr hg))
  exact Tk.fin m1 m2 m3 m4 (h.tr.putFr hg hr hv hd ht) 2 vf' rfl
end
theorem take_snoc {α : Type} (l : List α) (d : α) (i : Nat) (hi : i < l.length) : l.take (i + 1) = l.take i ++ [l.getD i d] := by
  rw [List.take_add_one, List.getD_eq_getElem?_getD, List.getElem?_eq_getElem hi]
  rfl
theorem onC_one {B : Nat} {W : World} {g cap n : Nat} {on : List (Nat → Bool)} {m : Nat → Bool} (hn : on.length = n) (h : W.ownsRow B 40 4 (.slice (some ⟨g, 0, none⟩) (n + 1) cap) (n + 1) (onC on ++ oc m)) : W.ownsRow B 40 4 (.slice (some ⟨g, 0, none⟩) (n + 1) cap) (on ++ [m]).length (onC (on ++ [m])) := by
  rw [onC_app, List.length_append, hn]; simp only [onC, List.append_nil, List.length_cons, List.length_nil, Nat.zero_add]; exact h
end Go.Proofs.Ytkjljnneghnpiaa
