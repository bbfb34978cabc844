import Derived.Test.YtkjcnnecdclgfaaRex
namespace Go.Proofs.Ytkjcnnecdclgfaa
open Go.RowKit
/-- The cells of a group. -/
def gc (g : Grp) : List Value := [.int .i64 g.alt, .int .i64 g.cat, .int .i64 g.part]
def gcs (l : List Grp) : List Value := l.flatMap gc
theorem gcs_len (l : List Grp) : (gcs l).length = l.length * 3 := by
  induction l with
  | nil => rfl
  | cons n l ih =>
    have : gcs (n :: l) = gc n ++ gcs l := rfl
    rw [this, List.length_append, ih]
    show 3 + _ = _
    rw [List.length_cons]
    omega
theorem gcs_app (l k : List Grp) : gcs (l ++ k) = gcs l ++ gcs k := by unfold gcs; rw [List.flatMap_append]
theorem gcs_one (g : Grp) : gcs [g] = gc g := by simp [gcs]
/-- What a reader's step keeps. -/
structure FR (B b : Nat) (W W' : World) : Prop where
  bel : Below B W W'
  kept : ∀ k vs t fz, W.heap[k]? = some (.cells vs t fz) → k ≠ b → t ≠ 34 → t ≠ 62 → W'.heap[k]? = some (.cells vs t fz)
theorem FR.refl (B b : Nat) (W : World) : FR B b W W := ⟨Below.refl _ _, fun _ _ _ _ h _ _ _ => h⟩
theorem FR.trans {B b : Nat} {W W1 W2 : World} (h : FR B b W W1) (k : FR B b W1 W2) : FR B b W W2 :=
  ⟨h.bel.trans k.bel, fun j vs t fz h1 h2 h3 h4 => k.kept j vs t fz (h.kept j vs t fz h1 h2 h3 h4) h2 h3 h4⟩
theorem FR.ofFP {B b : Nat} {W W' : World} (h : FP B b W W') : FR B b W W' := ⟨h.bel, fun k vs t fz h1 h2 h3 _ => h.kept k vs t fz h1 h2 h3⟩
theorem FR.of {B b : Nat} {W W' : World} (h : Below W.heap.size W W') (hB : B ≤ W.heap.size) : FR B b W W' := FR.ofFP (FP.of h hB)
theorem FR.set {B b : Nat} (W : World) (o : Nat) (v : Value) (hB : B ≤ b) : FR B b W (W.setCell ⟨b, o, none⟩ v) := FR.ofFP (FP.set W o v hB)
theorem FR.dr {B b : Nat} {w : World} : FR B b w w.drew := FR.ofFP FP.dr
/-- A cell of a row of groups that the call owns. -/
theorem FR.row {B b : Nat} (W : World) (g o : Nat) (v : Value) (cs : Array Value) (fz : Nat × Nat) (hg : B ≤ g) (hh : W.heap[g]? = some (.cells cs 62 fz)) : FR B b W (W.setCell ⟨g, o, none⟩ v) :=
  ⟨(Below.refl B W).setCell (p := ⟨g, o, none⟩) hg v, fun k vs t fz' h1 _ _ h4 => by
    rw [Below.heap_setCell _ _ _ _ (fun e => ?_)]
    · exact h1
    · have e' : k = g := e
      subst e'
      rw [hh] at h1
      injection h1 with h1
      injection h1 with _ h2 _
      exact h4 h2.symm⟩
/-- A store into a row that the call owns. -/
theorem own_put {w : World} {B : Nat} {e : TypeId} {z n g cap : Nat} {xs : List Value} (h : w.ownsRow B e z (.slice (some ⟨g, 0, none⟩) n cap) n xs) (k : Nat) (u : Value) : (w.setCell ⟨g, k, none⟩ u).ownsRow B e z (.slice (some ⟨g, 0, none⟩) n cap) n (xs.set k u) := by
  obtain ⟨h1, h2⟩ := h
  refine ⟨by rw [List.length_set]; exact h1, ?_⟩
  rcases h2 with ⟨h0, _⟩ | ⟨g', cap', cur, hv, hg, hh, hn, hcap, hsz, htake⟩
  · cases h0
  · cases hv
    refine .inr ⟨g, cap, cur.setIfInBounds k u, rfl, hg, ?_, hn, hcap, by simpa using hsz, ?_⟩
    · simp [World.setCell, Array.getElem?_modify, hh]
    · rw [Array.toList_setIfInBounds, ← htake, List.take_set]
theorem own_cell {w : World} {B : Nat} {e : TypeId} {z n g cap : Nat} {xs : List Value} (h : w.ownsRow B e z (.slice (some ⟨g, 0, none⟩) n cap) n xs) (k : Nat) (u : Value) (hu : xs[k]? = some u) : w.cell? ⟨g, k, none⟩ = some u := by
  obtain ⟨h1, h2⟩ := h
  rcases h2 with ⟨h0, _⟩ | ⟨g', cap', cur, hv, hg, hh, hn, hcap, hsz, htake⟩
  · cases h0
  · cases hv
    rw [Lib.cell_of_heap hh]
    rw [← htake, List.getElem?_take] at hu
    split at hu
    · simpa using hu
    · cases hu
theorem own_heap {w : World} {B : Nat} {e : TypeId} {z n g cap : Nat} {xs : List Value} (h : w.ownsRow B e z (.slice (some ⟨g, 0, none⟩) n cap) n xs) : B ≤ g ∧ ∃ cs, w.heap[g]? = some (.cells cs e (0, 0)) := by
  obtain ⟨h1, h2⟩ := h
  rcases h2 with ⟨h0, _⟩ | ⟨g', cap', cur, hv, hg, hh, _⟩
  · cases h0
  · cases hv
    exact ⟨hg, _, hh⟩
/-- The last group of a row is another. -/
theorem own_last {w : World} {B g cap n : Nat} {p : List Grp} {x : Grp} (y : Grp) (hp : p.length = n) (h : w.ownsRow B 62 3 (.slice (some ⟨g, 0, none⟩) (n + 1) cap) (n + 1) (gcs p ++ gc x)) : (((w.setCell ⟨g, n * 3, none⟩ (.int .i64 y.alt)).setCell ⟨g, n * 3 + 1, none⟩ (.int .i64 y.cat)).setCell ⟨g, n * 3 + 2, none⟩ (.int .i64 y.part)).ownsRow B 62 3 (.slice (some ⟨g, 0, none⟩) (n + 1) cap) (n + 1) (gcs p ++ gc y) := by
  have h3 := own_put (own_put (own_put h (n * 3) (.int .i64 y.alt)) (n * 3 + 1) (.int .i64 y.cat)) (n * 3 + 2) (.int .i64 y.part)
  have hl : (gcs p).length = n * 3 := by rw [gcs_len, hp]
  have e : (((gcs p ++ gc x).set (n * 3) (.int .i64 y.alt)).set (n * 3 + 1) (.int .i64 y.cat)).set (n * 3 + 2) (.int .i64 y.part) = gcs p ++ gc y := by
    rw [List.set_append_right _ _ (by omega), List.set_append_right _ _ (by omega), List.set_append_right _ _ (by omega), hl, show n * 3 - n * 3 = 0 by omega, show n * 3 + 1 - n * 3 = 1 by omega, show n * 3 + 2 - n * 3 = 2 by omega]
    rfl
  rw [e] at h3
  exact h3
theorem fr_last {B b : Nat} {w : World} {g cap n : Nat} {xs : List Value} (h : w.ownsRow B 62 3 (.slice (some ⟨g, 0, none⟩) n cap) n xs) (a c d : Nat) (x y z : Value) : FR B b w (((w.setCell ⟨g, a, none⟩ x).setCell ⟨g, c, none⟩ y).setCell ⟨g, d, none⟩ z) := by
  obtain ⟨hg, cs, hh⟩ := own_heap h
  have h1 := own_put h a x
  obtain ⟨_, cs1, hh1⟩ := own_heap h1
  have h2 := own_put h1 c y
  obtain ⟨_, cs2, hh2⟩ := own_heap h2
  exact ((FR.row w g a x cs _ hg hh).trans (FR.row _ g c y cs1 _ hg hh1)).trans (FR.row _ g d z cs2 _ hg hh2)
/-- A reader: its text, place, nodes, open groups. -/
structure IsR (B b : Nat) (s : ByteArray) (M : Mc) (w : World) : Prop where
  le : B ≤ b
  sz : B ≤ w.heap.size
  h : ∃ v g cap, w.heap[b]? = some (.cells #[.string s, .int .i64 (M.i : Int), v, .slice (some ⟨g, 0, none⟩) (M.st.length + 1) cap] 65 (0, 0)) ∧ w.ownsRow B 34 7 v M.out.length (ncs M.out) ∧ w.ownsRow B 62 3 (.slice (some ⟨g, 0, none⟩) (M.st.length + 1) cap) (M.st.length + 1) (gcs M.st.reverse ++ gc M.g)
theorem IsR.lt {B b : Nat} {s : ByteArray} {M : Mc} {w : World} (h : IsR B b s M w) : b < w.heap.size := by
  obtain ⟨v, g, cap, hv, _⟩ := h.h
  exact lt_of_heap hv
theorem IsR.mono {B b : Nat} {s : ByteArray} {M : Mc} {w w' : World} (h : IsR B b s M w) (hb : Below w.heap.size w w') : IsR B b s M w' := by
  obtain ⟨v, g, cap, hv, ho, hu⟩ := h.h
  exact ⟨h.le, Nat.le_trans h.sz hb.size, v, g, cap, below_heap hb hv (lt_of_heap hv), own_mono ho hb, own_mono hu hb⟩
theorem IsR.drew {B b : Nat} {s : ByteArray} {M : Mc} {w : World} (h : IsR B b s M w) : IsR B b s M w.drew := ⟨h.le, h.sz, h.h⟩
theorem IsR.at_ {B b : Nat} {s : ByteArray} {i : Nat} {o : List Nd} {g : Grp} {st : List Grp} {w : World} (h : IsR B b s ⟨i, o, g, st⟩ w) (j : Nat) : IsR B b s ⟨j, o, g, st⟩ (w.setCell ⟨b, 1, none⟩ (.int .i64 (j : Int))) := by
  obtain ⟨v, gg, cap, hv, ho, hu⟩ := h.h
  refine ⟨h.le, by simpa using h.sz, v, gg, cap, ?_, own_set ho hv (by decide), own_set hu hv (by decide)⟩
  simp [World.setCell, Array.getElem?_modify, hv]
theorem IsR.cells {B b : Nat} {s : ByteArray} {M : Mc} {w : World} (h : IsR B b s M w) : w.cell? ⟨b, 0, none⟩ = some (.string s) ∧ w.cell? ⟨b, 1, none⟩ = some (.int .i64 (M.i : Int)) ∧ ∀ o, w.frozen? ⟨b, o, none⟩ = false := by
  obtain ⟨v, g, cap, hv, _⟩ := h.h
  exact ⟨by rw [Lib.cell_of_heap hv]; rfl, by rw [Lib.cell_of_heap hv]; rfl, fun o => Lib.frozen_of_heap hv o⟩
/-- The row of groups, told. -/
theorem IsR.open_ {B b : Nat} {s : ByteArray} {M : Mc} {w : World} (h : IsR B b s M w) : ∃ g cap, w.cell? ⟨b, 3, none⟩ = some (.slice (some ⟨g, 0, none⟩) (M.st.length + 1) cap) ∧ w.cell? ⟨g, M.st.length * 3, none⟩ = some (.int .i64 M.g.alt) ∧ w.cell? ⟨g, M.st.length * 3 + 1, none⟩ = some (.int .i64 M.g.cat) ∧ w.cell? ⟨g, M.st.length * 3 + 2, none⟩ = some (.int .i64 M.g.part) ∧ (∀ o, w.frozen? ⟨g, o, none⟩ = false) ∧ g ≠ b ∧
    (∀ (y : Grp), IsR B b s ⟨M.i, M.out, y, M.st⟩ (((w.setCell ⟨g, M.st.length * 3, none⟩ (.int .i64 y.alt)).setCell ⟨g, M.st.length * 3 + 1, none⟩ (.int .i64 y.cat)).setCell ⟨g, M.st.length * 3 + 2, none⟩ (.int .i64 y.part)) ∧ FR B b w (((w.setCell ⟨g, M.st.length * 3, none⟩ (.int .i64 y.alt)).setCell ⟨g, M.st.length * 3 + 1, none⟩ (.int .i64 y.cat)).setCell ⟨g, M.st.length * 3 + 2, none⟩ (.int .i64 y.part))) := by
  obtain ⟨v, g, cap, hv, ho, hu⟩ := h.h
  have hl : (gcs M.st.reverse).length = M.st.length * 3 := by rw [gcs_len, List.length_reverse]
  obtain ⟨hg, cs, hh⟩ := own_heap hu
  have hgb : g ≠ b := by
    intro e
    subst e
    rw [hh] at hv
    injection hv with hv
    injection hv with _ h2 _
    revert h2
    decide
  refine ⟨g, cap, by rw [Lib.cell_of_heap hv]; rfl, ?_, ?_, ?_, fun o => Lib.frozen_of_heap hh o, hgb, ?_⟩
  · exact own_cell hu _ _ (by rw [List.getElem?_append_right (by omega), hl, show M.st.length * 3 - M.st.length * 3 = 0 by omega]; rfl)
  · exact own_cell hu _ _ (by rw [List.getElem?_append_right (by omega), hl, show M.st.length * 3 + 1 - M.st.length * 3 = 1 by omega]; rfl)
  · exact own_cell hu _ _ (by rw [List.getElem?_append_right (by omega), hl, show M.st.length * 3 + 2 - M.st.length * 3 = 2 by omega]; rfl)
  · intro y
    have f := fr_last (b := b) hu (M.st.length * 3) (M.st.length * 3 + 1) (M.st.length * 3 + 2) (.int .i64 y.alt) (.int .i64 y.cat) (.int .i64 y.part)
    refine ⟨⟨h.le, by simpa using h.sz, v, g, cap, ?_, ?_, own_last y (List.length_reverse) hu⟩, f⟩
    · rw [Below.heap_setCell _ _ _ _ (fun e => hgb e.symm), Below.heap_setCell _ _ _ _ (fun e => hgb e.symm), Below.heap_setCell _ _ _ _ (fun e => hgb e.symm)]
      exact hv
    · have hne := own_ne ho hh (by decide)
      exact ownsRow_setCell_other (ownsRow_setCell_other (ownsRow_setCell_other ho hne _) hne _) hne _
end Go.Proofs.Ytkjcnnecdclgfaa
