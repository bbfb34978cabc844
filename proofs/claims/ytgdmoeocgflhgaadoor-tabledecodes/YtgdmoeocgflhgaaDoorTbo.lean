import Derived.Test.YtgdmoeocgflhgaaDoorTba
namespace Go.Proofs.YtgdmoeocgflhgaaDoor
open Go.RowKit Go.Maps

theorem info_parts {e : TypeId} {z : Value} {s b : Nat} (h : (Tryd.prog.info? e).map (fun i => (i.zero, i.size, i.bytes)) = some (some z, s, b)) : ∃ i, Tryd.prog.info? e = some i ∧ i.zero = some z ∧ i.size = s ∧ i.bytes = b := by
  cases hi : Tryd.prog.info? e with
  | none => rw [hi] at h; cases h
  | some i =>
    rw [hi] at h
    have h1 : (i.zero, i.size, i.bytes) = (some z, s, b) := Option.some.inj h
    exact ⟨i, rfl, congrArg (·.1) h1, congrArg (·.2.1) h1, congrArg (·.2.2) h1⟩
theorem info52 : (Tryd.prog.info? 52).map (fun i => (i.zero, i.size, i.bytes)) = some (some (.agg #[.int .i64 0, .int .i64 0]), 2, 16) := by kernel_rfl
theorem info49 : (Tryd.prog.info? 49).map (fun i => (i.zero, i.size, i.bytes)) = some (some (.slice none 0 0), 1, 24) := by kernel_rfl
theorem info54 : (Tryd.prog.info? 54).map (fun i => (i.zero, i.size, i.bytes)) = some (some (.slice none 0 0), 1, 24) := by kernel_rfl
theorem flat_take {α : Type} {f : α → List Value} {n : Nat} (hf : ∀ x, (f x).length = n) (l k : List α) : (flat f (l ++ k)).take (l.length * n) = flat f l := by
  rw [flat_app, ← flat_len hf l, List.take_left']
  rfl
theorem take_getD {α : Type} (l : List α) (d : α) (i : Nat) (h : i < l.length) : l.take (i + 1) = l.take i ++ [l.getD i d] := by
  rw [List.take_succ_eq_append_getElem h, List.getD_eq_getElem?_getD, List.getElem?_eq_getElem h]
  rfl
theorem cell_one_new (w : World) (x : Value) (t : TypeId) : ∀ j q, [x][j]? = some q → (w.alloc (.cells #[x] t)).cell? ((⟨w.heap.size, 0, none⟩ : Addr).add j) = some q :=
  World.news_of_block (heap_new w (.cells #[x] t))
theorem cell_two_new (w : World) (x y : Value) (t : TypeId) : ∀ j q, [x, y][j]? = some q → (w.alloc (.cells #[x, y] t)).cell? ((⟨w.heap.size, 0, none⟩ : Addr).add j) = some q :=
  World.news_of_block (heap_new w (.cells #[x, y] t))
/-- A row of the call's own with a mark behind its end. -/
def Lk {α : Type} (f : α → List Value) (e : TypeId) (s : Nat) (mk : α) (B : Nat) (W : World) (v : Value) (l : List α) : Prop :=
  ∃ g cap, v = .slice (some ⟨g, 0, none⟩) l.length cap ∧ W.ownsRow B e s (.slice (some ⟨g, 0, none⟩) (l.length + 1) cap) (l.length + 1) (flat f (l ++ [mk]))
section
variable {α : Type} {f : α → List Value} {e : TypeId} {s : Nat} {mk : α} {B : Nat} {W W' : World} {v : Value} {l : List α}
theorem Lk.rw (h : Lk f e s mk B W v l) (hf : ∀ x, (f x).length = s) (hs : 0 < s) : Rw W v l.length (flat f l) := by
  obtain ⟨g, cap, rfl, ho⟩ := h
  have := row_low ho (n := l.length) (by omega)
  rw [flat_take hf] at this
  exact row_rw this hs
theorem Lk.up (h : Lk f e s mk B W v l) (hb : Below W.heap.size W W') : Lk f e s mk B W' v l := by
  obtain ⟨g, cap, e, ho⟩ := h
  exact ⟨g, cap, e, row_up ho hb⟩
theorem Lk.kept {B' s' n : Nat} {e' : TypeId} {u : Value} {xs : List Value} (h : Lk f e s mk B W v l) (ho : W.ownsRow B' e' s' u n xs) (hne : e ≠ e') (hg : W.grownBy W' u.ownBlock) : Lk f e s mk B W' v l := by
  obtain ⟨g, cap, e, h1⟩ := h
  exact ⟨g, cap, e, h1.kept hg (tag_ne h1 ho hne)⟩
theorem Lk.off {b k : Nat} {t : TypeId} {u : Value} {cs : Array Value} (h : Lk f e s mk B W v l) (hb : W.heap[b]? = some (.cells cs t (0, 0))) (ht : e ≠ t) : Lk f e s mk B (W.setCell ⟨b, k, none⟩ u) v l := by
  obtain ⟨g, cap, e, ho⟩ := h
  exact ⟨g, cap, e, (row_off hb ho ht).1⟩
end
/-- Rows of rows of the call's own, each row with its mark. -/
structure Nb {α : Type} (f : α → List Value) (e : TypeId) (s : Nat) (mk : α) (eo : TypeId) (B : Nat) (W : World) (v : Value) (L : List (Value × List α)) : Prop where
  t : W.ownsRow B eo 1 v L.length (L.map Prod.fst)
  r : ∀ x ∈ L, Lk f e s mk B W x.1 x.2
/-- The same with a mark behind the outer row's end. -/
structure Nk {α : Type} (f : α → List Value) (e : TypeId) (s : Nat) (mk : α) (eo : TypeId) (B : Nat) (W : World) (g cap b : Nat) (L : List (Value × List α)) : Prop where
  t : W.ownsRow B eo 1 (.slice (some ⟨g, 0, none⟩) (L.length + 1) cap) (L.length + 1) (L.map Prod.fst ++ [.slice (some ⟨b, 0, none⟩) 1 1])
  m : W.heap[b]? = some (.cells (f mk).toArray e (0, 0))
  mb : B ≤ b
  r : ∀ x ∈ L, Lk f e s mk B W x.1 x.2
section
variable {α : Type} {f : α → List Value} {e : TypeId} {s : Nat} {mk : α} {eo : TypeId} {B : Nat} {W W' : World} {v : Value} {L : List (Value × List α)}
theorem Nb.nil : Nb f e s mk eo B W (.slice none 0 0) [] := ⟨World.ownsRow_nil _ _ _ _, fun x h => by cases h⟩
theorem Nb.up (h : Nb f e s mk eo B W v L) (hb : Below W.heap.size W W') : Nb f e s mk eo B W' v L := ⟨row_up h.t hb, fun x hx => (h.r x hx).up hb⟩
theorem Nb.off {b k : Nat} {t : TypeId} {u : Value} {cs : Array Value} (h : Nb f e s mk eo B W v L) (hb : W.heap[b]? = some (.cells cs t (0, 0))) (h1 : e ≠ t) (h2 : eo ≠ t) : Nb f e s mk eo B (W.setCell ⟨b, k, none⟩ u) v L :=
  ⟨(row_off hb h.t h2).1, fun x hx => (h.r x hx).off hb h1⟩
theorem Nb.kept {B' s' n : Nat} {e' : TypeId} {u : Value} {xs : List Value} (h : Nb f e s mk eo B W v L) (ho : W.ownsRow B' e' s' u n xs) (h1 : e ≠ e') (h2 : eo ≠ e') (hg : W.grownBy W' u.ownBlock) : Nb f e s mk eo B W' v L :=
  ⟨h.t.kept hg (tag_ne h.t ho h2), fun x hx => (h.r x hx).kept ho h1 hg⟩
theorem Nb.app {v' : Value} (x : Value × List α) (h : Nb f e s mk eo B W v L) (hx : Lk f e s mk B W x.1 x.2) (hne : e ≠ eo) (hg : W.grownBy W' v.ownBlock) (ho : W'.ownsRow B eo 1 v' (L.length + 1) (L.map Prod.fst ++ [x.1])) : Nb f e s mk eo B W' v' (L ++ [x]) :=
  ⟨by rw [List.length_append, List.map_append]; exact ho, fun y hy => by
    rcases List.mem_append.1 hy with hy | hy
    · exact (h.r y hy).kept h.t hne hg
    · obtain rfl := List.mem_singleton.1 hy
      exact hx.kept h.t hne hg⟩
variable {g cap b : Nat}
theorem Nb.mark (h : Nb f e s mk eo B W v L) (hne : e ≠ eo) (hb : W.heap[b]? = some (.cells (f mk).toArray e (0, 0))) (hB : B ≤ b) (hg : W.grownBy W' v.ownBlock) (ho : W'.ownsRow B eo 1 (.slice (some ⟨g, 0, none⟩) (L.length + 1) cap) (L.length + 1) (L.map Prod.fst ++ [.slice (some ⟨b, 0, none⟩) 1 1])) : Nk f e s mk eo B W' g cap b L :=
  ⟨ho, (hg.block b (lt_of_heap hb) (fun q => tag_ne_blk h.t hb (Ne.symm hne) q.symm)).trans hb, hB, fun x hx => (h.r x hx).kept h.t hne hg⟩
theorem Nk.up (h : Nk f e s mk eo B W g cap b L) (hb : Below W.heap.size W W') : Nk f e s mk eo B W' g cap b L := ⟨row_up h.t hb, (hb.block _ (lt_of_heap h.m)).trans h.m, h.mb, fun x hx => (h.r x hx).up hb⟩
theorem Nk.off {b' k : Nat} {t : TypeId} {u : Value} {cs : Array Value} (h : Nk f e s mk eo B W g cap b L) (hb : W.heap[b']? = some (.cells cs t (0, 0))) (h1 : e ≠ t) (h2 : eo ≠ t) : Nk f e s mk eo B (W.setCell ⟨b', k, none⟩ u) g cap b L :=
  ⟨(row_off hb h.t h2).1, (Below.heap_setCell W ⟨b', k, none⟩ u b (fun q => by have q' : b = b' := q; have h9 := h.m; rw [q', hb] at h9; cases h9; exact h1 rfl)).trans h.m, h.mb, fun x hx => (h.r x hx).off hb h1⟩
theorem Nk.kept {B' s' n : Nat} {e' : TypeId} {u : Value} {xs : List Value} (h : Nk f e s mk eo B W g cap b L) (ho : W.ownsRow B' e' s' u n xs) (h1 : e ≠ e') (h2 : eo ≠ e') (hg : W.grownBy W' u.ownBlock) : Nk f e s mk eo B W' g cap b L :=
  ⟨h.t.kept hg (tag_ne h.t ho h2), (hg.block b (lt_of_heap h.m) (fun q => tag_ne_blk ho h.m (Ne.symm h1) q.symm)).trans h.m, h.mb, fun x hx => (h.r x hx).kept ho h1 hg⟩
theorem Nk.nr (h : Nk f e s mk eo B W g cap b L) (hf : ∀ x, (f x).length = s) (hs : 0 < s) : Nr f W (.slice (some ⟨g, 0, none⟩) L.length cap) L := by
  refine ⟨?_, fun x hx => (h.r x hx).rw hf hs⟩
  have := row_low h.t (n := L.length) (by omega)
  rw [Nat.mul_one, List.take_left' (by rw [List.length_map])] at this
  exact row_rw this (by decide)
end
/-- The three blocks of the call: what came in, the answer, the copy. -/
structure B3 (W : World) (gb rb ob : Nat) (v0 v1 x0 x1 : Value) : Prop where
  g : W.heap[gb]? = some (.cells #[v0, v1] 25 (0, 0))
  r : W.heap[rb]? = some (.cells #[.slice none 0 0, .slice none 0 0] 25 (0, 0))
  o : W.heap[ob]? = some (.cells #[x0, x1] 25 (0, 0))
theorem B3.up {W W' : World} {gb rb ob : Nat} {v0 v1 x0 x1 : Value} (h : B3 W gb rb ob v0 v1 x0 x1) (hb : Below W.heap.size W W') : B3 W' gb rb ob v0 v1 x0 x1 :=
  ⟨(hb.block _ (lt_of_heap h.g)).trans h.g, (hb.block _ (lt_of_heap h.r)).trans h.r, (hb.block _ (lt_of_heap h.o)).trans h.o⟩
theorem B3.grown {W W' : World} {gb rb ob B n s : Nat} {e : TypeId} {v : Value} {xs : List Value} {v0 v1 x0 x1 : Value} (h : B3 W gb rb ob v0 v1 x0 x1) (ho : W.ownsRow B e s v n xs) (he : e ≠ 25) (hg : W.grownBy W' v.ownBlock) : B3 W' gb rb ob v0 v1 x0 x1 :=
  ⟨(hg.block _ (lt_of_heap h.g) (fun q => tag_ne_blk ho h.g he q.symm)).trans h.g, (hg.block _ (lt_of_heap h.r) (fun q => tag_ne_blk ho h.r he q.symm)).trans h.r, (hg.block _ (lt_of_heap h.o) (fun q => tag_ne_blk ho h.o he q.symm)).trans h.o⟩
theorem B3.set {W : World} {gb rb ob k : Nat} {v v0 v1 x0 x1 : Value} (h : B3 W gb rb ob v0 v1 x0 x1) (h1 : gb ≠ ob) (h2 : rb ≠ ob) (y0 y1 : Value) (he : #[x0, x1].setIfInBounds k v = #[y0, y1]) : B3 (W.setCell ⟨ob, k, none⟩ v) gb rb ob v0 v1 y0 y1 :=
  ⟨(Below.heap_setCell W ⟨ob, k, none⟩ v gb h1).trans h.g, (Below.heap_setCell W ⟨ob, k, none⟩ v rb h2).trans h.r, by rw [blk_set v h.o, he]⟩
theorem snd_snoc {α : Type} {L L0 : List (Value × List α)} {i : Nat} (h : L.map Prod.snd = (L0.take i).map Prod.snd) (hi : i < L0.length) (v : Value) : (L ++ [(v, (L0.getD i nrd).2)]).map Prod.snd = (L0.take (i + 1)).map Prod.snd := by
  rw [take_getD L0 nrd i hi, List.map_append, List.map_append, h]
  rfl
end Go.Proofs.YtgdmoeocgflhgaaDoor
