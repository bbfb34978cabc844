import Derived.Test.YtkjcnnecdclgfaaRdr
import Derived.Maps.AppendAt
import Derived.Deep.AppendLies
import Derived.Deep.CutRange
import Derived.Test.YtkjcnnecdclgfaaKlp
namespace Go.Proofs.Ytkjcnnecdclgfaa
open Go.RowKit
/-- A reader whose row of groups lies in a block that is told. -/
structure IsG (B b gg cap : Nat) (s : ByteArray) (M : Mc) (w : World) : Prop where
  le : B ≤ b
  sz : B ≤ w.heap.size
  h : ∃ v, w.heap[b]? = some (.cells #[.string s, .int .i64 (M.i : Int), v, .slice (some ⟨gg, 0, none⟩) (M.st.length + 1) cap] 65 (0, 0)) ∧ w.ownsRow B 34 7 v M.out.length (ncs M.out)
  u : w.ownsRow B 62 3 (.slice (some ⟨gg, 0, none⟩) (M.st.length + 1) cap) (M.st.length + 1) (gcs M.st.reverse ++ gc M.g)
theorem IsR.toG {B b : Nat} {s : ByteArray} {M : Mc} {w : World} (h : IsR B b s M w) : ∃ gg cap, IsG B b gg cap s M w := by
  obtain ⟨v, gg, cap, hv, ho, hu⟩ := h.h
  exact ⟨gg, cap, h.le, h.sz, ⟨v, hv, ho⟩, hu⟩
theorem IsG.toR {B b gg cap : Nat} {s : ByteArray} {M : Mc} {w : World} (h : IsG B b gg cap s M w) : IsR B b s M w := by
  obtain ⟨v, hv, ho⟩ := h.h
  exact ⟨h.le, h.sz, v, gg, cap, hv, ho, h.u⟩
theorem IsG.lt {B b gg cap : Nat} {s : ByteArray} {M : Mc} {w : World} (h : IsG B b gg cap s M w) : b < w.heap.size ∧ gg < w.heap.size ∧ B ≤ gg ∧ gg ≠ b := by
  obtain ⟨v, hv, _⟩ := h.h
  obtain ⟨hg, cs, hh⟩ := own_heap h.u
  refine ⟨lt_of_heap hv, lt_of_heap hh, hg, ?_⟩
  intro e
  subst e
  rw [hh] at hv
  injection hv with hv
  injection hv with _ h2 _
  revert h2
  decide
theorem IsG.mono {B b gg cap : Nat} {s : ByteArray} {M : Mc} {w w' : World} (h : IsG B b gg cap s M w) (hb : Below w.heap.size w w') : IsG B b gg cap s M w' := by
  obtain ⟨v, hv, ho⟩ := h.h
  exact ⟨h.le, Nat.le_trans h.sz hb.size, ⟨v, below_heap hb hv (lt_of_heap hv), own_mono ho hb⟩, own_mono h.u hb⟩
theorem IsG.at_ {B b gg cap : Nat} {s : ByteArray} {i : Nat} {o : List Nd} {g : Grp} {st : List Grp} {w : World} (h : IsG B b gg cap s ⟨i, o, g, st⟩ w) (j : Nat) : IsG B b gg cap s ⟨j, o, g, st⟩ (w.setCell ⟨b, 1, none⟩ (.int .i64 (j : Int))) := by
  obtain ⟨v, hv, ho⟩ := h.h
  refine ⟨h.le, by simpa using h.sz, ⟨v, ?_, own_set ho hv (by decide)⟩, own_set h.u hv (by decide)⟩
  simp [World.setCell, Array.getElem?_modify, hv]
theorem IsG.cells {B b gg cap : Nat} {s : ByteArray} {M : Mc} {w : World} (h : IsG B b gg cap s M w) : w.cell? ⟨b, 0, none⟩ = some (.string s) ∧ w.cell? ⟨b, 1, none⟩ = some (.int .i64 (M.i : Int)) ∧ w.cell? ⟨b, 3, none⟩ = some (.slice (some ⟨gg, 0, none⟩) (M.st.length + 1) cap) ∧ ∀ o, w.frozen? ⟨b, o, none⟩ = false := by
  obtain ⟨v, hv, _⟩ := h.h
  exact ⟨by rw [Lib.cell_of_heap hv]; rfl, by rw [Lib.cell_of_heap hv]; rfl, by rw [Lib.cell_of_heap hv]; rfl, fun o => Lib.frozen_of_heap hv o⟩
/-- The last group, told. -/
theorem IsG.last {B b gg cap : Nat} {s : ByteArray} {M : Mc} {w : World} (h : IsG B b gg cap s M w) : w.cell? ⟨gg, M.st.length * 3, none⟩ = some (.int .i64 M.g.alt) ∧ w.cell? ⟨gg, M.st.length * 3 + 1, none⟩ = some (.int .i64 M.g.cat) ∧ w.cell? ⟨gg, M.st.length * 3 + 2, none⟩ = some (.int .i64 M.g.part) ∧ ∀ o, w.frozen? ⟨gg, o, none⟩ = false := by
  have hl : (gcs M.st.reverse).length = M.st.length * 3 := by rw [gcs_len, List.length_reverse]
  obtain ⟨hg, cs, hh⟩ := own_heap h.u
  refine ⟨?_, ?_, ?_, fun o => Lib.frozen_of_heap hh o⟩
  · exact own_cell h.u _ _ (by rw [List.getElem?_append_right (by omega), hl, show M.st.length * 3 - M.st.length * 3 = 0 by omega]; rfl)
  · exact own_cell h.u _ _ (by rw [List.getElem?_append_right (by omega), hl, show M.st.length * 3 + 1 - M.st.length * 3 = 1 by omega]; rfl)
  · exact own_cell h.u _ _ (by rw [List.getElem?_append_right (by omega), hl, show M.st.length * 3 + 2 - M.st.length * 3 = 2 by omega]; rfl)
/-- What a reader's step keeps that leaves the row of groups where it lies. -/
structure FG (B b gg : Nat) (W W' : World) : Prop where
  bel : Below B W W'
  kept : ∀ k vs t fz, W.heap[k]? = some (.cells vs t fz) → k ≠ b → k ≠ gg → t ≠ 34 → W'.heap[k]? = some (.cells vs t fz)
theorem FG.refl (B b gg : Nat) (W : World) : FG B b gg W W := ⟨Below.refl _ _, fun _ _ _ _ h _ _ _ => h⟩
theorem FG.trans {B b gg : Nat} {W W1 W2 : World} (h : FG B b gg W W1) (k : FG B b gg W1 W2) : FG B b gg W W2 :=
  ⟨h.bel.trans k.bel, fun j vs t fz h1 h2 h3 h4 => k.kept j vs t fz (h.kept j vs t fz h1 h2 h3 h4) h2 h3 h4⟩
theorem FG.ofFP {B b gg : Nat} {W W' : World} (h : FP B b W W') : FG B b gg W W' := ⟨h.bel, fun k vs t fz h1 h2 _ h4 => h.kept k vs t fz h1 h2 h4⟩
theorem FG.of {B b gg : Nat} {W W' : World} (h : Below W.heap.size W W') (hB : B ≤ W.heap.size) : FG B b gg W W' := FG.ofFP (FP.of h hB)
theorem FG.set {B b gg : Nat} (W : World) (o : Nat) (v : Value) (hB : B ≤ b) : FG B b gg W (W.setCell ⟨b, o, none⟩ v) := FG.ofFP (FP.set W o v hB)
theorem FG.row {B b gg : Nat} (W : World) (o : Nat) (v : Value) (hB : B ≤ gg) : FG B b gg W (W.setCell ⟨gg, o, none⟩ v) :=
  ⟨(Below.refl B W).setCell (p := ⟨gg, o, none⟩) hB v, fun k vs t fz h1 _ h3 _ => by rw [Below.heap_setCell _ _ _ _ (fun e => h3 e)]; exact h1⟩
theorem FG.toFR {B b gg cap : Nat} {s : ByteArray} {M : Mc} {W W' : World} (h : FG B b gg W W') (hg : IsG B b gg cap s M W) : FR B b W W' :=
  ⟨h.bel, fun k vs t fz h1 h2 h3 h4 => h.kept k vs t fz h1 h2 (fun e => by
    subst e
    obtain ⟨_, cs, hh⟩ := own_heap hg.u
    rw [hh] at h1
    injection h1 with h1
    injection h1 with _ h5 _
    exact h4 h5.symm) h3⟩
theorem AtV.fg {B b gg : Nat} {W W' : World} {k : Nat} {vs : Array Value} {t : TypeId} (h : AtV W k vs t) (hf : FG B b gg W W') (h1 : k ≠ b) (h2 : k ≠ gg) (h3 : t ≠ 34) : AtV W' k vs t := ⟨hf.kept _ _ _ _ h.h h1 h2 h3⟩
theorem AtV.fr_ {B b : Nat} {W W' : World} {k : Nat} {vs : Array Value} {t : TypeId} (h : AtV W k vs t) (hf : FR B b W W') (h1 : k ≠ b) (h3 : t ≠ 34) (h4 : t ≠ 62) : AtV W' k vs t := ⟨hf.kept _ _ _ _ h.h h1 h3 h4⟩
theorem AtV.put {W : World} {k : Nat} {vs : Array Value} {t : TypeId} (h : AtV W k vs t) (j : Nat) (v : Value) : AtV (W.setCell ⟨k, j, none⟩ v) k (vs.setIfInBounds j v) t := ⟨by simp [World.setCell, Array.getElem?_modify, h.h]⟩
theorem AtV.aside {W : World} {k q : Nat} {vs : Array Value} {t : TypeId} (h : AtV W k vs t) (hq : k ≠ q) (j : Nat) (v : Value) : AtV (W.setCell ⟨q, j, none⟩ v) k vs t := ⟨by rw [Below.heap_setCell _ _ _ _ hq]; exact h.h⟩
/-- A store into a block that is neither the reader's nor one of its rows. -/
theorem IsG.aside {B b gg cap : Nat} {s : ByteArray} {M : Mc} {w : World} (h : IsG B b gg cap s M w) {q : Nat} {vs : Array Value} {t : TypeId} (hq : AtV w q vs t) (h1 : q ≠ b) (h2 : q ≠ gg) (h3 : t ≠ 34) (j : Nat) (x : Value) : IsG B b gg cap s M (w.setCell ⟨q, j, none⟩ x) := by
  obtain ⟨v, hv, ho⟩ := h.h
  refine ⟨h.le, by simpa using h.sz, ⟨v, ?_, ?_⟩, ?_⟩
  · rw [Below.heap_setCell _ _ _ _ (fun e => h1 e.symm)]
    exact hv
  · exact ownsRow_setCell_other ho (own_ne ho hq.h h3) _
  · refine ownsRow_setCell_other h.u ?_ _
    simp only [Value.ownBlock]
    intro e
    injection e with e
    exact h2 e.symm
theorem FG.asideq {B b gg : Nat} {W0 W : World} (h : FG B b gg W0 W) {q : Nat} (hq : W0.heap.size ≤ q) (hB : B ≤ W0.heap.size) (j : Nat) (x : Value) : FG B b gg W0 (W.setCell ⟨q, j, none⟩ x) :=
  ⟨h.bel.setCell (p := ⟨q, j, none⟩) (Nat.le_trans hB hq) x, fun k vs t fz h1 h2 h3 h4 => by
    have := lt_of_heap h1
    rw [Below.heap_setCell _ _ _ _ (fun e => by have e' : k = q := e; omega)]
    exact h.kept k vs t fz h1 h2 h3 h4⟩
theorem FR.asideq {B b : Nat} {W0 W : World} (h : FR B b W0 W) {q : Nat} (hq : W0.heap.size ≤ q) (hB : B ≤ W0.heap.size) (j : Nat) (x : Value) : FR B b W0 (W.setCell ⟨q, j, none⟩ x) :=
  ⟨h.bel.setCell (p := ⟨q, j, none⟩) (Nat.le_trans hB hq) x, fun k vs t fz h1 h2 h3 h4 => by
    have := lt_of_heap h1
    rw [Below.heap_setCell _ _ _ _ (fun e => by have e' : k = q := e; omega)]
    exact h.kept k vs t fz h1 h2 h3 h4⟩
/-- The last group becomes another. -/
theorem IsG.put3 {B b gg cap : Nat} {s : ByteArray} {i : Nat} {o : List Nd} {g : Grp} {st : List Grp} {w : World} (h : IsG B b gg cap s ⟨i, o, g, st⟩ w) (y : Grp) : IsG B b gg cap s ⟨i, o, y, st⟩ (((w.setCell ⟨gg, st.length * 3, none⟩ (.int .i64 y.alt)).setCell ⟨gg, st.length * 3 + 1, none⟩ (.int .i64 y.cat)).setCell ⟨gg, st.length * 3 + 2, none⟩ (.int .i64 y.part)) := by
  obtain ⟨v, hv, ho⟩ := h.h
  have hgb := h.lt.2.2.2
  obtain ⟨_, cs, hh⟩ := own_heap h.u
  refine ⟨h.le, by simpa using h.sz, ⟨v, ?_, ?_⟩, own_last y (List.length_reverse) h.u⟩
  · rw [Below.heap_setCell _ _ _ _ (fun e => hgb e.symm), Below.heap_setCell _ _ _ _ (fun e => hgb e.symm), Below.heap_setCell _ _ _ _ (fun e => hgb e.symm)]
    exact hv
  · have hne := own_ne ho hh (by decide)
    exact ownsRow_setCell_other (ownsRow_setCell_other (ownsRow_setCell_other ho hne _) hne _) hne _
theorem FG.put3 {B b gg : Nat} (w : World) (hB : B ≤ gg) (n : Nat) (x y z : Value) : FG B b gg w (((w.setCell ⟨gg, n * 3, none⟩ x).setCell ⟨gg, n * 3 + 1, none⟩ y).setCell ⟨gg, n * 3 + 2, none⟩ z) := ((FG.row w _ x hB).trans (FG.row _ _ y hB)).trans (FG.row _ _ z hB)
theorem IsG.put1 {B b gg cap : Nat} {s : ByteArray} {i : Nat} {o : List Nd} {g : Grp} {st : List Grp} {w : World} (h : IsG B b gg cap s ⟨i, o, g, st⟩ w) (r : Int) : IsG B b gg cap s ⟨i, o, ⟨g.alt, g.cat, r⟩, st⟩ (w.setCell ⟨gg, st.length * 3 + 2, none⟩ (.int .i64 r)) := by
  obtain ⟨v, hv, ho⟩ := h.h
  have hgb := h.lt.2.2.2
  obtain ⟨_, cs, hh⟩ := own_heap h.u
  have hl : (gcs st.reverse).length = st.length * 3 := by rw [gcs_len, List.length_reverse]
  refine ⟨h.le, by simpa using h.sz, ⟨v, ?_, ?_⟩, ?_⟩
  · rw [Below.heap_setCell _ _ _ _ (fun e => hgb e.symm)]
    exact hv
  · exact ownsRow_setCell_other ho (own_ne ho hh (by decide)) _
  · have e : (gcs st.reverse ++ gc g).set (st.length * 3 + 2) (.int .i64 r) = gcs st.reverse ++ gc ⟨g.alt, g.cat, r⟩ := by
      rw [List.set_append_right _ _ (by omega), hl, show st.length * 3 + 2 - st.length * 3 = 2 by omega]
      rfl
    have h3 := own_put h.u (st.length * 3 + 2) (.int .i64 r)
    dsimp only at h3 ⊢
    rw [e] at h3
    exact h3
theorem IsG.drew {B b gg cap : Nat} {s : ByteArray} {M : Mc} {w : World} (h : IsG B b gg cap s M w) : IsG B b gg cap s M w.drew := ⟨h.le, h.sz, h.h, h.u⟩
theorem FG.dr {B b gg : Nat} {w : World} : FG B b gg w w.drew := FG.ofFP FP.dr
end Go.Proofs.Ytkjcnnecdclgfaa
namespace Go.Proofs.Ytkjcnnecdclgfaa
open Go.RowKit
/-- A row of groups is kept. -/
theorem own_fp {w w' : World} {B b g cap n : Nat} {xs : List Value} (h : w.ownsRow B 62 3 (.slice (some ⟨g, 0, none⟩) n cap) n xs) (hf : FP B b w w') (hgb : g ≠ b) : w'.ownsRow B 62 3 (.slice (some ⟨g, 0, none⟩) n cap) n xs := by
  obtain ⟨h1, h2⟩ := h
  refine ⟨h1, ?_⟩
  rcases h2 with ⟨h0, _⟩ | ⟨g', cap', cur, hv, hg, hh, hn, hcap, hsz, htake⟩
  · cases h0
  · cases hv
    exact .inr ⟨g, cap, cur, rfl, hg, hf.kept _ _ _ _ hh hgb (by decide), hn, hcap, hsz, htake⟩
set_option maxRecDepth 100000 in
set_option maxHeartbeats 8000000 in
theorem node_n (B b gg cap : Nat) (s : ByteArray) (i : Nat) (nds : List Nd) (g : Grp) (st : List Grp) (n : Nd) (w : World) (h : IsG B b gg cap s ⟨i, nds, g, st⟩ w) (hl : nds.length ≤ 2400000000000) :
    Calls Try.prog 46 #[.pointer (some ⟨b, 0, none⟩), ndV n.op n.m n.a n.b] w fun e w' => e = .returned (.int .i64 (nds.length : Int)) ∧ IsG B b gg cap s ⟨i, nds ++ [n], g, st⟩ w' ∧ FP B b w w' := by
  have P0 : Hid (IsG B b gg cap s ⟨i, nds, g, st⟩ (w.alloc (.cells #[.int .i64 n.op, .int .u64 (wd n.m 0 : Nat), .int .u64 (wd n.m 1 : Nat), .int .u64 (wd n.m 2 : Nat), .int .u64 (wd n.m 3 : Nat), .int .i64 n.a, .int .i64 n.b] 34))) := h.mono (bel_up _ _)
  have F0 : Hid (FP B b w (w.alloc (.cells #[.int .i64 n.op, .int .u64 (wd n.m 0 : Nat), .int .u64 (wd n.m 1 : Nat), .int .u64 (wd n.m 2 : Nat), .int .u64 (wd n.m 3 : Nat), .int .i64 n.a, .int .i64 n.b] 34))) := FP.of (bel_up _ _) h.sz
  obtain ⟨v, hv, ho⟩ := P0.out.h
  dsimp only at hv ho
  have HUU : Hid _ := h.u
  have HGB : Hid _ := h.lt.2.2.2
  obtain ⟨av, cv, hvs⟩ := own_slice ho
  subst hvs
  have c3 : (w.alloc (.cells #[.int .i64 n.op, .int .u64 (wd n.m 0 : Nat), .int .u64 (wd n.m 1 : Nat), .int .u64 (wd n.m 2 : Nat), .int .u64 (wd n.m 3 : Nat), .int .i64 n.a, .int .i64 n.b] 34)).cell? ⟨b, 2, none⟩ = some (.slice av nds.length cv) := by rw [Lib.cell_of_heap hv]; rfl
  have cf : ∀ o, (w.alloc (.cells #[.int .i64 n.op, .int .u64 (wd n.m 0 : Nat), .int .u64 (wd n.m 1 : Nat), .int .u64 (wd n.m 2 : Nat), .int .u64 (wd n.m 3 : Nat), .int .i64 n.a, .int .i64 n.b] 34)).frozen? ⟨b, o, none⟩ = false := fun o => Lib.frozen_of_heap hv o
  have HLE : Hid _ := h.le
  obtain ⟨i34, hi34, hz34, hs34, hy34⟩ := info_parts info34
  obtain ⟨wa, hwa⟩ : ∃ wa, w.alloc (.cells #[.int .i64 n.op, .int .u64 (wd n.m 0 : Nat), .int .u64 (wd n.m 1 : Nat), .int .u64 (wd n.m 2 : Nat), .int .u64 (wd n.m 3 : Nat), .int .i64 n.a, .int .i64 n.b] 34) = wa := ⟨_, rfl⟩
  have hown2 : (wa.alloc (.cells #[.int .i64 n.op, .int .u64 (wd n.m 0 : Nat), .int .u64 (wd n.m 1 : Nat), .int .u64 (wd n.m 2 : Nat), .int .u64 (wd n.m 3 : Nat), .int .i64 n.a, .int .i64 n.b] 34)).drew.ownsRow B 34 7 (.slice av nds.length cv) nds.length (ncs nds) := by
    rw [← hwa]
    exact ho.alloc _
  have hsz : B ≤ wa.heap.size := by rw [← hwa]; exact P0.out.sz
  have HOWN : Hid ((wa.alloc (.cells #[.int .i64 n.op, .int .u64 (wd n.m 0 : Nat), .int .u64 (wd n.m 1 : Nat), .int .u64 (wd n.m 2 : Nat), .int .u64 (wd n.m 3 : Nat), .int .i64 n.a, .int .i64 n.b] 34)).drew.ownsRow B 34 7 (.slice av nds.length cv) nds.length (ncs nds)) := hown2
  have HSZ : Hid _ := hsz
  have hbl : b < wa.heap.size := by rw [← hwa]; exact P0.out.lt.1
  have hbk : wa.heap[b]? = some (.cells #[.string s, .int .i64 (i : Int), .slice av nds.length cv, .slice (some ⟨gg, 0, none⟩) (st.length + 1) cap] 65 (0, 0)) := by rw [← hwa]; exact hv
  have HBK : Hid _ := hbk
  have HBL : Hid _ := hbl
  obtain ⟨ln, hln⟩ : ∃ ln, nds.length = ln := ⟨_, rfl⟩
  have HLN2 : Hid _ := hln
  rw [hln] at c3 HOWN HBK ⊢
  have F0' : Hid (FP B b w wa) := by rw [← hwa]; exact F0.out
  have HLN : Hid (ln ≤ 2400000000000) := by rw [← hln]; exact hl
  have k7 : wa.cell? ⟨w.heap.size, 0, none⟩ = some (.int .i64 n.op) ∧ wa.cell? ⟨w.heap.size, 1, none⟩ = some (.int .u64 (wd n.m 0 : Nat)) ∧ wa.cell? ⟨w.heap.size, 2, none⟩ = some (.int .u64 (wd n.m 1 : Nat)) ∧ wa.cell? ⟨w.heap.size, 3, none⟩ = some (.int .u64 (wd n.m 2 : Nat)) ∧ wa.cell? ⟨w.heap.size, 4, none⟩ = some (.int .u64 (wd n.m 3 : Nat)) ∧ wa.cell? ⟨w.heap.size, 5, none⟩ = some (.int .i64 n.a) ∧ wa.cell? ⟨w.heap.size, 6, none⟩ = some (.int .i64 n.b) := by
    rw [← hwa]
    exact (AtN.new w n.op n.m n.a n.b).cells
  have HWA : Hid _ := hwa
  have HI34 : Hid (Try.prog.info? 34 = some i34 ∧ i34.zero = some (.agg #[.int .i64 0, .int .u64 0, .int .u64 0, .int .u64 0, .int .u64 0, .int .i64 0, .int .i64 0]) ∧ i34.size = 7 ∧ i34.bytes = 56) := ⟨hi34, hz34, hs34, hy34⟩
  clear h hl hv ho hown2 hsz F0 hln hwa hbl hbk hi34 hz34 hs34 hy34
  go_enter Try.func46, Try.ntmps46
  go_upto_region 1 with fail
  rw [HWA.out] at c3 cf P0 ⊢
  obtain ⟨k0, k1, k2, k3, k4, k5, k6⟩ := k7
  have c3d : wa.drew.cell? ⟨b, 2, none⟩ = some (.slice av ln cv) := c3
  have c3b : (wa.alloc (.cells #[.int .i64 n.op, .int .u64 (wd n.m 0 : Nat), .int .u64 (wd n.m 1 : Nat), .int .u64 (wd n.m 2 : Nat), .int .u64 (wd n.m 3 : Nat), .int .i64 n.a, .int .i64 n.b] 34)).drew.cell? ⟨b, 2, none⟩ = some (.slice av ln cv) := cell_up _ c3
  refine wp_region_held_drew (S := fun _ => True) (by kernel_rfl) trivial (fun hHeld => ?_)
  refine wpAnyH_take (i := 0) (oi := { dst := _, op := _, type := _, pos := _, after := _, guard := _ }) (v := ?_) rfl (by kernel_rfl) (by kernel_rfl) (by kernel_rfl) (fun _ _ _ h => h) (Or.inl ⟨by rfl, ?_⟩) (by assumption) ?_
  rotate_left
  · intro W hSw
    (try dsimp only at hSw)
    go_simp
    (try with_reducible rfl)
  try simp only [Act.put, List.setIfInBounds_toArray, List.set_cons_zero, List.set_cons_succ]
  refine wpAnyH_take (i := 1) (oi := { dst := _, op := _, type := _, pos := _, after := _, guard := _ }) (v := ?_) rfl (by kernel_rfl) (by kernel_rfl) (by kernel_rfl) (fun _ _ _ h => h) (Or.inl ⟨by rfl, ?_⟩) (by assumption) ?_
  rotate_left
  · intro W hSw
    (try dsimp only at hSw)
    go_simp
    (try with_reducible rfl)
  try simp only [Act.put, List.setIfInBounds_toArray, List.set_cons_zero, List.set_cons_succ]
  refine wpAnyH_take (i := 2) (oi := { dst := _, op := _, type := _, pos := _, after := _, guard := _ }) (v := ?_) rfl (by kernel_rfl) (by kernel_rfl) (by kernel_rfl) (fun _ _ _ h => h) (Or.inl ⟨by rfl, ?_⟩) (by assumption) ?_
  rotate_left
  · intro W hSw
    (try dsimp only at hSw)
    go_simp
    (try with_reducible rfl)
  try simp only [Act.put, List.setIfInBounds_toArray, List.set_cons_zero, List.set_cons_succ]
  refine wpAnyH_take (i := 3) (oi := { dst := _, op := _, type := _, pos := _, after := _, guard := _ }) (v := ?_) rfl (by kernel_rfl) (by kernel_rfl) (by kernel_rfl) (fun _ _ _ h => h) (Or.inl ⟨by rfl, ?_⟩) (by assumption) ?_
  rotate_left
  · intro W hSw
    (try dsimp only at hSw)
    go_simp
    (try with_reducible rfl)
  try simp only [Act.put, List.setIfInBounds_toArray, List.set_cons_zero, List.set_cons_succ]
  refine wpAnyH_ready (rs := [4, 5]) (by kernel_rfl) (by simp) ?_
  refine AllReadyH.cons (o := { dst := _, op := _, type := _, pos := _, after := _, guard := _ }) rfl (fun K hK => ?_) (AllReadyH.cons (o := { dst := _, op := _, type := _, pos := _, after := _, guard := _ }) rfl (fun K hK => ?_) (AllReadyH.nil))
  · go_simp
    refine hK.out _ _ ?_ (fun hHeld => ?_)
    · exact trivial
    clear hK K
    try simp only [Act.put, List.setIfInBounds_toArray, List.set_cons_zero, List.set_cons_succ]
    refine wpAnyH_ready (rs := [5]) (by kernel_rfl) (by simp) ?_
    refine AllReadyH.cons (o := { dst := _, op := _, type := _, pos := _, after := _, guard := _ }) rfl (fun K hK => ?_) AllReadyH.nil
    go_simp
    refine hK.out _ _ ?_ (fun hHeld => ?_)
    · exact trivial
    clear hK K
    try simp only [Act.put, List.setIfInBounds_toArray, List.set_cons_zero, List.set_cons_succ]
    refine wpAnyH_ready (rs := [6]) (by kernel_rfl) (by simp) ?_
    refine AllReadyH.cons (o := { dst := _, op := _, type := _, pos := _, after := _, guard := _ }) rfl (fun K hK => ?_) AllReadyH.nil
    go_simp
    refine hK.out _ _ ?_ (fun hHeld => ?_)
    · exact trivial
    clear hK K
    try simp only [Act.put, List.setIfInBounds_toArray, List.set_cons_zero, List.set_cons_succ]
    refine wpAnyH_ready (rs := [7]) (by kernel_rfl) (by simp) ?_
    refine AllReadyH.cons (o := { dst := _, op := _, type := _, pos := _, after := _, guard := _ }) rfl (fun K hK => ?_) AllReadyH.nil
    refine step_append_lies _ rfl (.tmp 9) (.tmp 11) 22 rfl B 34 i34 _ 7 56 Try.underlying22 HI34.out.1 HI34.out.2.1 HI34.out.2.2.1 HI34.out.2.2.2 rfl (by decide) (.slice av ln cv) ln (ncs nds) rfl HOWN.out ⟨wa.heap.size, 0, none⟩ 1 1 (nc n) rfl rfl (fun j u hu => cell_seven_new wa _ _ _ _ _ _ _ 34 j u hu) (by intro y hy; unfold nc at hy; simp at hy; rcases hy with rfl | rfl | rfl | rfl | rfl | rfl | rfl <;> rfl) (by decide) (by unfold maxLen; have := HLN.out; omega) (by have := HLN.out; omega) (by show B ≤ (wa.alloc _).heap.size; have := HSZ.out; simp; omega) (wa.heap.size + 1) (by show (wa.alloc _).heap.size = _; simp) ?_
    intro g' cap' w' h2 h3 _ _
    have hb2 : w'.heap[b]? = some (.cells #[.string s, .int .i64 (i : Int), .slice av ln cv, .slice (some ⟨gg, 0, none⟩) (st.length + 1) cap] 65 (0, 0)) := by
      have hold : (wa.alloc (.cells #[.int .i64 n.op, .int .u64 (wd n.m 0 : Nat), .int .u64 (wd n.m 1 : Nat), .int .u64 (wd n.m 2 : Nat), .int .u64 (wd n.m 3 : Nat), .int .i64 n.a, .int .i64 n.b] 34)).drew.heap[b]? = some (.cells #[.string s, .int .i64 (i : Int), .slice av ln cv, .slice (some ⟨gg, 0, none⟩) (st.length + 1) cap] 65 (0, 0)) := (Lib.alloc_old wa _ b HBL.out).trans HBK.out
      rw [h3.block b (by show b < (wa.alloc _).heap.size; have := HBL.out; simp; omega) (fun e => own_ne HOWN.out hold (by decide) e.symm)]
      exact hold
    have d3 : w'.cell? ⟨b, 2, none⟩ = some (.slice av ln cv) := by rw [Lib.cell_of_heap hb2]; rfl
    have df : ∀ o, w'.frozen? ⟨b, o, none⟩ = false := fun o => Lib.frozen_of_heap hb2 o
    have F1 : Hid (FP B b wa w') := by
      refine ⟨((Below.refl B wa).alloc HSZ.out _).drew.grown h3 (by show B ≤ (wa.alloc _).heap.size; have := HSZ.out; simp; omega) (fun q hq => (HOWN.out.lt q hq).1), ?_⟩
      intro k vs t fz k1 k2 k3
      have hk := lt_of_heap k1
      have k1' : (wa.alloc (.cells #[.int .i64 n.op, .int .u64 (wd n.m 0 : Nat), .int .u64 (wd n.m 1 : Nat), .int .u64 (wd n.m 2 : Nat), .int .u64 (wd n.m 3 : Nat), .int .i64 n.a, .int .i64 n.b] 34)).drew.heap[k]? = some (.cells vs t fz) := (Lib.alloc_old wa _ k hk).trans k1
      rw [h3.block k (by show k < (wa.alloc _).heap.size; simp; omega) (fun e => own_ne HOWN.out k1' k3 e.symm)]
      exact k1'
    have FF : Hid (FP B b w (w'.setCell ⟨b, 2, none⟩ (.slice (some ⟨g', 0, none⟩) (ln + 1) cap'))) := (F0'.out.trans F1.out).trans (FP.set _ _ _ HLE.out)
    have P2 : Hid (IsG B b gg cap s ⟨i, nds ++ [n], g, st⟩ (w'.setCell ⟨b, 2, none⟩ (.slice (some ⟨g', 0, none⟩) (ln + 1) cap'))) := by
      have hs' : wa.heap.size ≤ w'.heap.size := F1.out.bel.size
      refine ⟨HLE.out, by have := HSZ.out; simp; omega, ⟨.slice (some ⟨g', 0, none⟩) (ln + 1) cap', ?_, ?_⟩, own_fp HUU.out FF.out HGB.out⟩
      · simp [World.setCell, Array.getElem?_modify, hb2]
      · have e1 : (nds ++ [n]).length = ln + 1 := by rw [List.length_append, HLN2.out]; rfl
        have e2 : ncs (nds ++ [n]) = ncs nds ++ nc n := by rw [ncs_app]; simp [ncs]
        dsimp only
        rw [e1, e2]
        exact own_set h2 hb2 (by decide)
    clear h2 h3 hb2
    refine hK.out _ _ ?_ (fun hHeld => ?_)
    · exact trivial
    clear hK K
    try simp only [Act.put, List.setIfInBounds_toArray, List.set_cons_zero, List.set_cons_succ]
    refine wpAnyH_take (i := 8) (oi := { dst := _, op := _, type := _, pos := _, after := _, guard := _ }) (v := ?_) rfl (by kernel_rfl) (by kernel_rfl) (by kernel_rfl) (fun _ _ _ h => h) (Or.inl ⟨by rfl, ?_⟩) (by assumption) ?_
    rotate_left
    · intro W hSw
      (try dsimp only at hSw)
      go_simp
      (try with_reducible rfl)
    try simp only [Act.put, List.setIfInBounds_toArray, List.set_cons_zero, List.set_cons_succ]
    refine wpAnyH_take (i := 9) (oi := { dst := _, op := _, type := _, pos := _, after := _, guard := _ }) (v := ?_) rfl (by kernel_rfl) (by kernel_rfl) (by kernel_rfl) (fun _ _ _ h => h) (Or.inl ⟨by rfl, ?_⟩) (by assumption) ?_
    rotate_left
    · intro W hSw
      (try dsimp only at hSw)
      go_simp
      (try with_reducible rfl)
    try simp only [Act.put, List.setIfInBounds_toArray, List.set_cons_zero, List.set_cons_succ]
    refine wpAnyH_ready (rs := [10]) (by kernel_rfl) (by simp) ?_
    refine AllReadyH.cons (o := { dst := _, op := _, type := _, pos := _, after := _, guard := _ }) rfl (fun K hK => ?_) AllReadyH.nil
    go_simp
    refine hK.out _ _ ?_ (fun hHeld => ?_)
    · exact trivial
    clear hK K
    try simp only [Act.put, List.setIfInBounds_toArray, List.set_cons_zero, List.set_cons_succ]
    refine wpAnyH_done (by kernel_rfl) ?_ _
    clear hHeld
    have q3 : (w'.setCell ⟨b, 2, none⟩ (.slice (some ⟨g', 0, none⟩) (ln + 1) cap')).cell? ⟨b, 2, none⟩ = some (.slice (some ⟨g', 0, none⟩) (ln + 1) cap') := set_eq' d3
    have hwl : wrap64 (((ln + 1 : Nat) : Int) - 1) = (ln : Int) := by have := HLN.out; unfold wrap64; omega
    go_wp2_with fail
    go_ret
    refine ⟨?_, P2.out, FF.out⟩
    simp
    have := HLN.out
    unfold wrap64
    omega
  · go_simp
    refine hK.out _ _ ?_ (fun hHeld => ?_)
    · exact trivial
    clear hK K
    try simp only [Act.put, List.setIfInBounds_toArray, List.set_cons_zero, List.set_cons_succ]
    refine wpAnyH_ready (rs := [4, 6]) (by kernel_rfl) (by simp) ?_
    refine AllReadyH.cons (o := { dst := _, op := _, type := _, pos := _, after := _, guard := _ }) rfl (fun K hK => ?_) (AllReadyH.cons (o := { dst := _, op := _, type := _, pos := _, after := _, guard := _ }) rfl (fun K hK => ?_) (AllReadyH.nil))
    · go_simp
      refine hK.out _ _ ?_ (fun hHeld => ?_)
      · exact trivial
      clear hK K
      try simp only [Act.put, List.setIfInBounds_toArray, List.set_cons_zero, List.set_cons_succ]
      refine wpAnyH_ready (rs := [6]) (by kernel_rfl) (by simp) ?_
      refine AllReadyH.cons (o := { dst := _, op := _, type := _, pos := _, after := _, guard := _ }) rfl (fun K hK => ?_) AllReadyH.nil
      go_simp
      refine hK.out _ _ ?_ (fun hHeld => ?_)
      · exact trivial
      clear hK K
      try simp only [Act.put, List.setIfInBounds_toArray, List.set_cons_zero, List.set_cons_succ]
      refine wpAnyH_ready (rs := [7]) (by kernel_rfl) (by simp) ?_
      refine AllReadyH.cons (o := { dst := _, op := _, type := _, pos := _, after := _, guard := _ }) rfl (fun K hK => ?_) AllReadyH.nil
      refine step_append_lies _ rfl (.tmp 9) (.tmp 11) 22 rfl B 34 i34 _ 7 56 Try.underlying22 HI34.out.1 HI34.out.2.1 HI34.out.2.2.1 HI34.out.2.2.2 rfl (by decide) (.slice av ln cv) ln (ncs nds) rfl HOWN.out ⟨wa.heap.size, 0, none⟩ 1 1 (nc n) rfl rfl (fun j u hu => cell_seven_new wa _ _ _ _ _ _ _ 34 j u hu) (by intro y hy; unfold nc at hy; simp at hy; rcases hy with rfl | rfl | rfl | rfl | rfl | rfl | rfl <;> rfl) (by decide) (by unfold maxLen; have := HLN.out; omega) (by have := HLN.out; omega) (by show B ≤ (wa.alloc _).heap.size; have := HSZ.out; simp; omega) (wa.heap.size + 1) (by show (wa.alloc _).heap.size = _; simp) ?_
      intro g' cap' w' h2 h3 _ _
      have hb2 : w'.heap[b]? = some (.cells #[.string s, .int .i64 (i : Int), .slice av ln cv, .slice (some ⟨gg, 0, none⟩) (st.length + 1) cap] 65 (0, 0)) := by
        have hold : (wa.alloc (.cells #[.int .i64 n.op, .int .u64 (wd n.m 0 : Nat), .int .u64 (wd n.m 1 : Nat), .int .u64 (wd n.m 2 : Nat), .int .u64 (wd n.m 3 : Nat), .int .i64 n.a, .int .i64 n.b] 34)).drew.heap[b]? = some (.cells #[.string s, .int .i64 (i : Int), .slice av ln cv, .slice (some ⟨gg, 0, none⟩) (st.length + 1) cap] 65 (0, 0)) := (Lib.alloc_old wa _ b HBL.out).trans HBK.out
        rw [h3.block b (by show b < (wa.alloc _).heap.size; have := HBL.out; simp; omega) (fun e => own_ne HOWN.out hold (by decide) e.symm)]
        exact hold
      have d3 : w'.cell? ⟨b, 2, none⟩ = some (.slice av ln cv) := by rw [Lib.cell_of_heap hb2]; rfl
      have df : ∀ o, w'.frozen? ⟨b, o, none⟩ = false := fun o => Lib.frozen_of_heap hb2 o
      have F1 : Hid (FP B b wa w') := by
        refine ⟨((Below.refl B wa).alloc HSZ.out _).drew.grown h3 (by show B ≤ (wa.alloc _).heap.size; have := HSZ.out; simp; omega) (fun q hq => (HOWN.out.lt q hq).1), ?_⟩
        intro k vs t fz k1 k2 k3
        have hk := lt_of_heap k1
        have k1' : (wa.alloc (.cells #[.int .i64 n.op, .int .u64 (wd n.m 0 : Nat), .int .u64 (wd n.m 1 : Nat), .int .u64 (wd n.m 2 : Nat), .int .u64 (wd n.m 3 : Nat), .int .i64 n.a, .int .i64 n.b] 34)).drew.heap[k]? = some (.cells vs t fz) := (Lib.alloc_old wa _ k hk).trans k1
        rw [h3.block k (by show k < (wa.alloc _).heap.size; simp; omega) (fun e => own_ne HOWN.out k1' k3 e.symm)]
        exact k1'
      have FF : Hid (FP B b w (w'.setCell ⟨b, 2, none⟩ (.slice (some ⟨g', 0, none⟩) (ln + 1) cap'))) := (F0'.out.trans F1.out).trans (FP.set _ _ _ HLE.out)
      have P2 : Hid (IsG B b gg cap s ⟨i, nds ++ [n], g, st⟩ (w'.setCell ⟨b, 2, none⟩ (.slice (some ⟨g', 0, none⟩) (ln + 1) cap'))) := by
        have hs' : wa.heap.size ≤ w'.heap.size := F1.out.bel.size
        refine ⟨HLE.out, by have := HSZ.out; simp; omega, ⟨.slice (some ⟨g', 0, none⟩) (ln + 1) cap', ?_, ?_⟩, own_fp HUU.out FF.out HGB.out⟩
        · simp [World.setCell, Array.getElem?_modify, hb2]
        · have e1 : (nds ++ [n]).length = ln + 1 := by rw [List.length_append, HLN2.out]; rfl
          have e2 : ncs (nds ++ [n]) = ncs nds ++ nc n := by rw [ncs_app]; simp [ncs]
          dsimp only
          rw [e1, e2]
          exact own_set h2 hb2 (by decide)
      clear h2 h3 hb2
      refine hK.out _ _ ?_ (fun hHeld => ?_)
      · exact trivial
      clear hK K
      try simp only [Act.put, List.setIfInBounds_toArray, List.set_cons_zero, List.set_cons_succ]
      refine wpAnyH_take (i := 8) (oi := { dst := _, op := _, type := _, pos := _, after := _, guard := _ }) (v := ?_) rfl (by kernel_rfl) (by kernel_rfl) (by kernel_rfl) (fun _ _ _ h => h) (Or.inl ⟨by rfl, ?_⟩) (by assumption) ?_
      rotate_left
      · intro W hSw
        (try dsimp only at hSw)
        go_simp
        (try with_reducible rfl)
      try simp only [Act.put, List.setIfInBounds_toArray, List.set_cons_zero, List.set_cons_succ]
      refine wpAnyH_take (i := 9) (oi := { dst := _, op := _, type := _, pos := _, after := _, guard := _ }) (v := ?_) rfl (by kernel_rfl) (by kernel_rfl) (by kernel_rfl) (fun _ _ _ h => h) (Or.inl ⟨by rfl, ?_⟩) (by assumption) ?_
      rotate_left
      · intro W hSw
        (try dsimp only at hSw)
        go_simp
        (try with_reducible rfl)
      try simp only [Act.put, List.setIfInBounds_toArray, List.set_cons_zero, List.set_cons_succ]
      refine wpAnyH_ready (rs := [10]) (by kernel_rfl) (by simp) ?_
      refine AllReadyH.cons (o := { dst := _, op := _, type := _, pos := _, after := _, guard := _ }) rfl (fun K hK => ?_) AllReadyH.nil
      go_simp
      refine hK.out _ _ ?_ (fun hHeld => ?_)
      · exact trivial
      clear hK K
      try simp only [Act.put, List.setIfInBounds_toArray, List.set_cons_zero, List.set_cons_succ]
      refine wpAnyH_done (by kernel_rfl) ?_ _
      clear hHeld
      have q3 : (w'.setCell ⟨b, 2, none⟩ (.slice (some ⟨g', 0, none⟩) (ln + 1) cap')).cell? ⟨b, 2, none⟩ = some (.slice (some ⟨g', 0, none⟩) (ln + 1) cap') := set_eq' d3
      have hwl : wrap64 (((ln + 1 : Nat) : Int) - 1) = (ln : Int) := by have := HLN.out; unfold wrap64; omega
      go_wp2_with fail
      go_ret
      refine ⟨?_, P2.out, FF.out⟩
      simp
      have := HLN.out
      unfold wrap64
      omega
    · go_simp
      refine hK.out _ _ ?_ (fun hHeld => ?_)
      · exact trivial
      clear hK K
      try simp only [Act.put, List.setIfInBounds_toArray, List.set_cons_zero, List.set_cons_succ]
      refine wpAnyH_ready (rs := [4]) (by kernel_rfl) (by simp) ?_
      refine AllReadyH.cons (o := { dst := _, op := _, type := _, pos := _, after := _, guard := _ }) rfl (fun K hK => ?_) AllReadyH.nil
      go_simp
      refine hK.out _ _ ?_ (fun hHeld => ?_)
      · exact trivial
      clear hK K
      try simp only [Act.put, List.setIfInBounds_toArray, List.set_cons_zero, List.set_cons_succ]
      refine wpAnyH_ready (rs := [7]) (by kernel_rfl) (by simp) ?_
      refine AllReadyH.cons (o := { dst := _, op := _, type := _, pos := _, after := _, guard := _ }) rfl (fun K hK => ?_) AllReadyH.nil
      refine step_append_lies _ rfl (.tmp 9) (.tmp 11) 22 rfl B 34 i34 _ 7 56 Try.underlying22 HI34.out.1 HI34.out.2.1 HI34.out.2.2.1 HI34.out.2.2.2 rfl (by decide) (.slice av ln cv) ln (ncs nds) rfl HOWN.out ⟨wa.heap.size, 0, none⟩ 1 1 (nc n) rfl rfl (fun j u hu => cell_seven_new wa _ _ _ _ _ _ _ 34 j u hu) (by intro y hy; unfold nc at hy; simp at hy; rcases hy with rfl | rfl | rfl | rfl | rfl | rfl | rfl <;> rfl) (by decide) (by unfold maxLen; have := HLN.out; omega) (by have := HLN.out; omega) (by show B ≤ (wa.alloc _).heap.size; have := HSZ.out; simp; omega) (wa.heap.size + 1) (by show (wa.alloc _).heap.size = _; simp) ?_
      intro g' cap' w' h2 h3 _ _
      have hb2 : w'.heap[b]? = some (.cells #[.string s, .int .i64 (i : Int), .slice av ln cv, .slice (some ⟨gg, 0, none⟩) (st.length + 1) cap] 65 (0, 0)) := by
        have hold : (wa.alloc (.cells #[.int .i64 n.op, .int .u64 (wd n.m 0 : Nat), .int .u64 (wd n.m 1 : Nat), .int .u64 (wd n.m 2 : Nat), .int .u64 (wd n.m 3 : Nat), .int .i64 n.a, .int .i64 n.b] 34)).drew.heap[b]? = some (.cells #[.string s, .int .i64 (i : Int), .slice av ln cv, .slice (some ⟨gg, 0, none⟩) (st.length + 1) cap] 65 (0, 0)) := (Lib.alloc_old wa _ b HBL.out).trans HBK.out
        rw [h3.block b (by show b < (wa.alloc _).heap.size; have := HBL.out; simp; omega) (fun e => own_ne HOWN.out hold (by decide) e.symm)]
        exact hold
      have d3 : w'.cell? ⟨b, 2, none⟩ = some (.slice av ln cv) := by rw [Lib.cell_of_heap hb2]; rfl
      have df : ∀ o, w'.frozen? ⟨b, o, none⟩ = false := fun o => Lib.frozen_of_heap hb2 o
      have F1 : Hid (FP B b wa w') := by
        refine ⟨((Below.refl B wa).alloc HSZ.out _).drew.grown h3 (by show B ≤ (wa.alloc _).heap.size; have := HSZ.out; simp; omega) (fun q hq => (HOWN.out.lt q hq).1), ?_⟩
        intro k vs t fz k1 k2 k3
        have hk := lt_of_heap k1
        have k1' : (wa.alloc (.cells #[.int .i64 n.op, .int .u64 (wd n.m 0 : Nat), .int .u64 (wd n.m 1 : Nat), .int .u64 (wd n.m 2 : Nat), .int .u64 (wd n.m 3 : Nat), .int .i64 n.a, .int .i64 n.b] 34)).drew.heap[k]? = some (.cells vs t fz) := (Lib.alloc_old wa _ k hk).trans k1
        rw [h3.block k (by show k < (wa.alloc _).heap.size; simp; omega) (fun e => own_ne HOWN.out k1' k3 e.symm)]
        exact k1'
      have FF : Hid (FP B b w (w'.setCell ⟨b, 2, none⟩ (.slice (some ⟨g', 0, none⟩) (ln + 1) cap'))) := (F0'.out.trans F1.out).trans (FP.set _ _ _ HLE.out)
      have P2 : Hid (IsG B b gg cap s ⟨i, nds ++ [n], g, st⟩ (w'.setCell ⟨b, 2, none⟩ (.slice (some ⟨g', 0, none⟩) (ln + 1) cap'))) := by
        have hs' : wa.heap.size ≤ w'.heap.size := F1.out.bel.size
        refine ⟨HLE.out, by have := HSZ.out; simp; omega, ⟨.slice (some ⟨g', 0, none⟩) (ln + 1) cap', ?_, ?_⟩, own_fp HUU.out FF.out HGB.out⟩
        · simp [World.setCell, Array.getElem?_modify, hb2]
        · have e1 : (nds ++ [n]).length = ln + 1 := by rw [List.length_append, HLN2.out]; rfl
          have e2 : ncs (nds ++ [n]) = ncs nds ++ nc n := by rw [ncs_app]; simp [ncs]
          dsimp only
          rw [e1, e2]
          exact own_set h2 hb2 (by decide)
      clear h2 h3 hb2
      refine hK.out _ _ ?_ (fun hHeld => ?_)
      · exact trivial
      clear hK K
      try simp only [Act.put, List.setIfInBounds_toArray, List.set_cons_zero, List.set_cons_succ]
      refine wpAnyH_take (i := 8) (oi := { dst := _, op := _, type := _, pos := _, after := _, guard := _ }) (v := ?_) rfl (by kernel_rfl) (by kernel_rfl) (by kernel_rfl) (fun _ _ _ h => h) (Or.inl ⟨by rfl, ?_⟩) (by assumption) ?_
      rotate_left
      · intro W hSw
        (try dsimp only at hSw)
        go_simp
        (try with_reducible rfl)
      try simp only [Act.put, List.setIfInBounds_toArray, List.set_cons_zero, List.set_cons_succ]
      refine wpAnyH_take (i := 9) (oi := { dst := _, op := _, type := _, pos := _, after := _, guard := _ }) (v := ?_) rfl (by kernel_rfl) (by kernel_rfl) (by kernel_rfl) (fun _ _ _ h => h) (Or.inl ⟨by rfl, ?_⟩) (by assumption) ?_
      rotate_left
      · intro W hSw
        (try dsimp only at hSw)
        go_simp
        (try with_reducible rfl)
      try simp only [Act.put, List.setIfInBounds_toArray, List.set_cons_zero, List.set_cons_succ]
      refine wpAnyH_ready (rs := [10]) (by kernel_rfl) (by simp) ?_
      refine AllReadyH.cons (o := { dst := _, op := _, type := _, pos := _, after := _, guard := _ }) rfl (fun K hK => ?_) AllReadyH.nil
      go_simp
      refine hK.out _ _ ?_ (fun hHeld => ?_)
      · exact trivial
      clear hK K
      try simp only [Act.put, List.setIfInBounds_toArray, List.set_cons_zero, List.set_cons_succ]
      refine wpAnyH_done (by kernel_rfl) ?_ _
      clear hHeld
      have q3 : (w'.setCell ⟨b, 2, none⟩ (.slice (some ⟨g', 0, none⟩) (ln + 1) cap')).cell? ⟨b, 2, none⟩ = some (.slice (some ⟨g', 0, none⟩) (ln + 1) cap') := set_eq' d3
      have hwl : wrap64 (((ln + 1 : Nat) : Int) - 1) = (ln : Int) := by have := HLN.out; unfold wrap64; omega
      go_wp2_with fail
      go_ret
      refine ⟨?_, P2.out, FF.out⟩
      simp
      have := HLN.out
      unfold wrap64
      omega
theorem rnode_any (B b gg cap : Nat) (s : ByteArray) (i : Nat) (nds : List Nd) (g : Grp) (st : List Grp) (op : Int) (m : Nat → Bool) (x y : Int) (w : World) (h : IsG B b gg cap s ⟨i, nds, g, st⟩ w) (hl : nds.length ≤ 2400000000000) :
    Calls Try.prog 46 #[.pointer (some ⟨b, 0, none⟩), ndV op m x y] w fun e w' => e = .returned (.int .i64 (nds.length : Int)) ∧ IsG B b gg cap s ⟨i, nds ++ [⟨op, m, x, y⟩], g, st⟩ w' ∧ FG B b gg w w' :=
  (node_n B b gg cap s i nds g st ⟨op, m, x, y⟩ w h hl).mono fun _ _ k => ⟨k.1, k.2.1, FG.ofFP k.2.2⟩
theorem node0_any (B b gg cap : Nat) (s : ByteArray) (i : Nat) (nds : List Nd) (g : Grp) (st : List Grp) (op : Int) (x y : Int) (w : World) (h : IsG B b gg cap s ⟨i, nds, g, st⟩ w) (hl : nds.length ≤ 2400000000000) :
    Calls Try.prog 46 #[.pointer (some ⟨b, 0, none⟩), .agg #[.int .i64 op, .int .u64 0, .int .u64 0, .int .u64 0, .int .u64 0, .int .i64 x, .int .i64 y]] w fun e w' => e = .returned (.int .i64 (nds.length : Int)) ∧ IsG B b gg cap s ⟨i, nds ++ [zn op x y], g, st⟩ w' ∧ FG B b gg w w' := by
  have k := rnode_any B b gg cap s i nds g st op (fun _ => false) x y w h hl
  simp only [ndV, wd_none] at k
  exact k
end Go.Proofs.Ytkjcnnecdclgfaa
namespace Go.Proofs.Ytkjcnnecdclgfaa
open Go.RowKit
/-- A group as a value. -/
abbrev gV (g : Grp) : Value := .agg #[.int .i64 g.alt, .int .i64 g.cat, .int .i64 g.part]
abbrev gA (g : Grp) : Array Value := #[.int .i64 g.alt, .int .i64 g.cat, .int .i64 g.part]
set_option maxRecDepth 100000 in
set_option maxHeartbeats 4000000 in
theorem rtop_any (B b gg cap : Nat) (s : ByteArray) (i : Nat) (o : List Nd) (g : Grp) (st : List Grp) (w : World) (h : IsG B b gg cap s ⟨i, o, g, st⟩ w) (hst : st.length ≤ 128) :
    Calls Try.prog 25 #[.pointer (some ⟨b, 0, none⟩)] w fun e w' => e = .returned (gV g) ∧ Below w.heap.size w w' := by
  have P0 : Hid _ := h.mono (bel_up w (.cells #[.int .i64 0, .int .i64 0, .int .i64 0] 62))
  obtain ⟨_, _, c3, cf⟩ := P0.out.cells
  obtain ⟨k0, k1, k2, kf⟩ := P0.out.last
  dsimp only at c3 k0 k1 k2
  obtain ⟨n, hn⟩ : ∃ n, st.length = n := ⟨_, rfl⟩
  obtain ⟨ln, hln⟩ : ∃ ln, n + 1 = ln := ⟨_, rfl⟩
  rw [hn, hln] at c3
  rw [hn] at k0 k1 k2
  have hwl : wrap64 ((ln : Int) - 1) = (n : Int) := by unfold wrap64; omega
  have hlt : n < ln := by omega
  clear h hst P0 hn hln
  go_enter Try.func25, Try.ntmps25
  go_wp2_with fail
  go_region
  go_wp2_with fail
  refine bodyPost_ret (v := gV g) ?_ rfl ⟨rfl, ?_⟩
  · rw [results_cell1 rfl]; go_simp
  · exact Below.drew (bel_up _ _)
set_option maxRecDepth 100000 in
set_option maxHeartbeats 4000000 in
theorem rpart_any (B b gg cap : Nat) (s : ByteArray) (i : Nat) (o : List Nd) (g : Grp) (st : List Grp) (r : Int) (w : World) (h : IsG B b gg cap s ⟨i, o, g, st⟩ w) (hst : st.length ≤ 128) :
    Calls Try.prog 59 #[.pointer (some ⟨b, 0, none⟩), .int .i64 r] w fun e w' => e = .returned (.tuple #[]) ∧ IsG B b gg cap s ⟨i, o, ⟨g.alt, g.cat, r⟩, st⟩ w' ∧ FG B b gg w w' := by
  have P1 := h.put1 r
  obtain ⟨_, _, c3, cf⟩ := h.cells
  obtain ⟨k0, k1, k2, kf⟩ := h.last
  have F1 : Hid _ := h.lt.2.2.1
  dsimp only at c3 k0 k1 k2
  obtain ⟨n, hn⟩ : ∃ n, st.length = n := ⟨_, rfl⟩
  obtain ⟨ln, hln⟩ : ∃ ln, n + 1 = ln := ⟨_, rfl⟩
  rw [hn, hln] at c3
  rw [hn] at k2 P1
  have HP1 : Hid _ := P1
  have hwl : wrap64 ((ln : Int) - 1) = (n : Int) := by unfold wrap64; omega
  have hlt : n < ln := by omega
  clear h hst hn hln P1 k0 k1
  go_enter Try.func59, Try.ntmps59
  go_wp2_with fail
  go_region
  go_wp2_with fail
  go_end0
  exact ⟨rfl, HP1.out.drew, (FG.row w _ _ F1.out).trans FG.dr⟩
end Go.Proofs.Ytkjcnnecdclgfaa
namespace Go.Proofs.Ytkjcnnecdclgfaa
open Go.RowKit
theorem stl_len (o : List Nd) (g : Grp) : (stl o g).1.length ≤ o.length + 1 := by
  unfold stl
  split
  · split <;> simp
  · simp
set_option maxRecDepth 100000 in
set_option maxHeartbeats 4000000 in
theorem settle_any (B b gg cap : Nat) (s : ByteArray) (i : Nat) (o : List Nd) (g : Grp) (st : List Grp) (w : World) (h : IsG B b gg cap s ⟨i, o, g, st⟩ w) (hst : st.length ≤ 128) (hl : o.length ≤ 2400000000000) :
    Calls Try.prog 45 #[.pointer (some ⟨b, 0, none⟩)] w fun e w' => e = .returned (.tuple #[]) ∧ IsG B b gg cap s ⟨i, (stl o g).1, (stl o g).2, st⟩ w' ∧ FG B b gg w w' := by
  have T := rtop_any B b gg cap s i o g st w h hst
  have P0 : Hid _ := h
  have HST : Hid _ := hst
  have HL : Hid _ := hl
  clear h hst hl
  go_enter Try.func45, Try.ntmps45
  go_wp2_with fail
  refine T.mono ?_
  clear T
  rintro e w1 ⟨rfl, hb1⟩
  have P1 : Hid (IsG B b gg cap s ⟨i, o, g, st⟩ (w1.alloc (.cells (gA g) 62))) := (P0.out.mono hb1).mono (bel_up _ _)
  have A1 : Hid (AtV (w1.alloc (.cells (gA g) 62)) w1.heap.size (gA g) 62) := AtV.new _ _ _
  have F1 : Hid (FG B b gg w (w1.alloc (.cells (gA g) 62))) := FG.of (below_trans hb1 (bel_up _ _)) P0.out.sz
  have Q : Hid (w.heap.size ≤ w1.heap.size) := hb1.size
  clear hb1
  go_upto_if 7 with fail
  obtain ⟨q, hq⟩ : ∃ q, w1.heap.size = q := ⟨_, rfl⟩
  obtain ⟨W1, hW1⟩ : ∃ W1, w1.alloc (.cells (gA g) 62) = W1 := ⟨_, rfl⟩
  have hW2 : w1.alloc (.cells #[.int .i64 g.alt, .int .i64 g.cat, .int .i64 g.part] 62) = W1 := hW1
  rw [hq] at A1 Q ⊢
  rw [hW1] at A1 P1 F1
  rw [hW2]
  clear hW1 hW2 hq
  have N1 : Hid (q ≠ b ∧ q ≠ gg) := by
    have := P0.out.lt
    have := Q.out
    exact ⟨by omega, by omega⟩
  go_cut [] from 3 (fun wd => IsG B b gg cap s ⟨i, (stl o g).1, g, st⟩ wd ∧ AtV wd q (gA (stl o g).2) 62 ∧ FG B b gg w wd)
  case first =>
    obtain ⟨a0, a1, a2, af⟩ := A1.out.c3
    by_cases hp : 0 ≤ g.part
    · have pI : decide (0 ≤ g.part) = true := decide_eq_true hp
      by_cases hc : 0 ≤ g.cat
      · have cI : decide (0 ≤ g.cat) = true := decide_eq_true hc
        have E : Hid (stl o g = (o ++ [zn 3 g.cat g.part], ⟨g.alt, (o.length : Int), -1⟩)) := (by unfold stl; rw [if_pos hp, if_pos hc] : stl o g = (o ++ [zn 3 g.cat g.part], ⟨g.alt, (o.length : Int), -1⟩))
        go_wp2_with fail
        refine (node0_any B b gg cap s i o g st 3 g.cat g.part _ P1.out HL.out).mono ?_
        rintro e w2 ⟨rfl, p2, f2⟩
        have A2 : Hid _ := A1.out.fg f2 N1.out.1 N1.out.2 (by decide)
        have P2 : Hid _ := p2
        have F2 : Hid _ := F1.out.trans f2
        clear a0 a1 a2 af p2 f2
        obtain ⟨a0, a1, a2, af⟩ := A2.out.c3
        go_wp2_with fail
        go_meet
        rw [E.out]
        exact ⟨(P2.out.aside A2.out N1.out.1 N1.out.2 (by decide) 1 _).aside (A2.out.put 1 _) N1.out.1 N1.out.2 (by decide) 2 _, (A2.out.put 1 _).put 2 _, (F2.out.asideq Q.out P0.out.sz 1 _).asideq Q.out P0.out.sz 2 _⟩
      · have cI : decide (0 ≤ g.cat) = false := decide_eq_false hc
        have E : Hid (stl o g = (o, ⟨g.alt, g.part, -1⟩)) := (by unfold stl; rw [if_pos hp, if_neg hc] : stl o g = (o, ⟨g.alt, g.part, -1⟩))
        go_wp2_with fail
        go_meet
        rw [E.out]
        exact ⟨(P1.out.aside A1.out N1.out.1 N1.out.2 (by decide) 1 _).aside (A1.out.put 1 _) N1.out.1 N1.out.2 (by decide) 2 _, (A1.out.put 1 _).put 2 _, (F1.out.asideq Q.out P0.out.sz 1 _).asideq Q.out P0.out.sz 2 _⟩
    · have pI : decide (0 ≤ g.part) = false := decide_eq_false hp
      have E : Hid (stl o g = (o, g)) := (by unfold stl; rw [if_neg hp] : stl o g = (o, g))
      go_wp2_with fail
      go_meet
      rw [E.out]
      exact ⟨P1.out, A1.out, F1.out⟩
  case rest =>
    obtain ⟨p2, a2, f2⟩ := hcut
    obtain ⟨o2, g2, hstl⟩ : ∃ o2 g2, stl o g = (o2, g2) := ⟨_, _, rfl⟩
    rw [hstl] at p2 a2
    have HSTL : Hid _ := hstl
    have P3 := p2.put3 g2
    have F3 := f2.trans (FG.put3 wc p2.lt.2.2.1 st.length (.int .i64 g2.alt) (.int .i64 g2.cat) (.int .i64 g2.part))
    obtain ⟨_, _, c3, cf⟩ := p2.cells
    obtain ⟨k0, k1, k2, kf⟩ := p2.last
    obtain ⟨a0, a1, a2, af⟩ := a2.c3
    dsimp only at c3 k0 k1 k2
    obtain ⟨n, hn⟩ : ∃ n, st.length = n := ⟨_, rfl⟩
    obtain ⟨ln, hln⟩ : ∃ ln, n + 1 = ln := ⟨_, rfl⟩
    rw [hn, hln] at c3
    rw [hn] at k0 k1 k2 P3 F3
    have HP3 : Hid _ := P3
    have HF3 : Hid _ := F3
    have hwl : wrap64 ((ln : Int) - 1) = (n : Int) := by have := HST.out; unfold wrap64; omega
    have hlt : n < ln := by omega
    clear p2 f2 hstl hn hln P3 F3 P0 P1 A1 F1 N1 Q
    go_wp2_with fail
    go_region
    go_wp2_with fail
    go_end0
    rw [HSTL.out]
    exact ⟨rfl, HP3.out.drew, HF3.out.trans FG.dr⟩
end Go.Proofs.Ytkjcnnecdclgfaa
namespace Go.Proofs.Ytkjcnnecdclgfaa
open Go.RowKit
set_option maxRecDepth 100000 in
set_option maxHeartbeats 4000000 in
theorem branch_any (B b gg cap : Nat) (s : ByteArray) (i : Nat) (o : List Nd) (g : Grp) (st : List Grp) (w : World) (h : IsG B b gg cap s ⟨i, o, g, st⟩ w) (hst : st.length ≤ 128) (hl : o.length ≤ 2300000000000) :
    Calls Try.prog 26 #[.pointer (some ⟨b, 0, none⟩)] w fun e w' => e = .returned (.tuple #[]) ∧ IsG B b gg cap s ⟨i, (brn o g).1, (brn o g).2, st⟩ w' ∧ FG B b gg w w' := by
  have T := settle_any B b gg cap s i o g st w h hst (by omega)
  have hlen := stl_len o g
  have hbrn : brn o g = if 0 ≤ (stl o g).2.alt then ((stl o g).1 ++ [zn 4 (stl o g).2.alt (stl o g).2.cat], ⟨((stl o g).1.length : Int), -1, (stl o g).2.part⟩) else ((stl o g).1, ⟨(stl o g).2.cat, -1, (stl o g).2.part⟩) := rfl
  obtain ⟨o2, g2, hstl⟩ : ∃ o2 g2, stl o g = (o2, g2) := ⟨_, _, rfl⟩
  rw [hstl] at T hlen hbrn
  dsimp only at T hlen hbrn
  have HBRN : Hid _ := hbrn
  have HL : Hid (o2.length ≤ 2400000000000) := (by omega : o2.length ≤ 2400000000000)
  have HST : Hid _ := hst
  have HSZ : Hid _ := h.sz
  have HBL : Hid _ := h.lt
  clear h hst hl hlen hstl hbrn
  go_enter Try.func26, Try.ntmps26
  go_wp2_with fail
  refine T.mono ?_
  clear T
  rintro e w1 ⟨rfl, p1, f1⟩
  have T2 := rtop_any B b gg cap s i o2 g2 st w1 p1 HST.out
  have P1 : Hid _ := p1
  have F1 : Hid _ := f1
  have Q1 : Hid (w.heap.size ≤ w1.heap.size) := f1.bel.size
  clear p1 f1
  go_wp2_with fail
  refine T2.mono ?_
  clear T2
  rintro e w2 ⟨rfl, hb2⟩
  have P2 : Hid (IsG B b gg cap s ⟨i, o2, g2, st⟩ (w2.alloc (.cells (gA g2) 62))) := (P1.out.mono hb2).mono (bel_up _ _)
  have A2 : Hid (AtV (w2.alloc (.cells (gA g2) 62)) w2.heap.size (gA g2) 62) := AtV.new _ _ _
  have F2 : Hid (FG B b gg w (w2.alloc (.cells (gA g2) 62))) := F1.out.trans (FG.of (below_trans hb2 (bel_up _ _)) P1.out.sz)
  have Q : Hid (w.heap.size ≤ w2.heap.size) := Nat.le_trans Q1.out hb2.size
  clear hb2 P1 F1 Q1
  go_upto_if 9 with fail
  obtain ⟨q, hq⟩ : ∃ q, w2.heap.size = q := ⟨_, rfl⟩
  obtain ⟨W1, hW1⟩ : ∃ W1, w2.alloc (.cells (gA g2) 62) = W1 := ⟨_, rfl⟩
  have hW2 : w2.alloc (.cells #[.int .i64 g2.alt, .int .i64 g2.cat, .int .i64 g2.part] 62) = W1 := hW1
  rw [hq] at A2 Q ⊢
  rw [hW1] at A2 P2 F2
  rw [hW2]
  clear hW1 hW2 hq
  have N1 : Hid (q ≠ b ∧ q ≠ gg) := by
    have := HBL.out
    have := Q.out
    exact ⟨by omega, by omega⟩
  go_cut [] from 3 (fun wd => ∃ (x c : Int), IsG B b gg cap s ⟨i, (brn o g).1, g2, st⟩ wd ∧ AtV wd q #[.int .i64 x, .int .i64 c, .int .i64 g2.part] 62 ∧ FG B b gg w wd ∧ (brn o g).2 = ⟨x, -1, g2.part⟩)
  case first =>
    obtain ⟨a0, a1, a2, af⟩ := A2.out.c3
    by_cases hc : 0 ≤ g2.alt
    · have cI : decide (0 ≤ g2.alt) = true := decide_eq_true hc
      have E : Hid (brn o g = (o2 ++ [zn 4 g2.alt g2.cat], ⟨(o2.length : Int), -1, g2.part⟩)) := (by rw [HBRN.out, if_pos hc] : brn o g = (o2 ++ [zn 4 g2.alt g2.cat], ⟨(o2.length : Int), -1, g2.part⟩))
      go_wp2_with fail
      refine (node0_any B b gg cap s i o2 g2 st 4 g2.alt g2.cat _ P2.out HL.out).mono ?_
      rintro e w3 ⟨rfl, p3, f3⟩
      have A3 : Hid _ := A2.out.fg f3 N1.out.1 N1.out.2 (by decide)
      have P3 : Hid _ := p3
      have F3 : Hid _ := F2.out.trans f3
      clear a0 a1 a2 af p3 f3
      obtain ⟨a0, a1, a2, af⟩ := A3.out.c3
      go_wp2_with fail
      go_meet
      rw [E.out]
      exact ⟨(o2.length : Int), g2.cat, P3.out.aside A3.out N1.out.1 N1.out.2 (by decide) 0 _, A3.out.put 0 _, F3.out.asideq Q.out HSZ.out 0 _, rfl⟩
    · have cI : decide (0 ≤ g2.alt) = false := decide_eq_false hc
      have E : Hid (brn o g = (o2, ⟨g2.cat, -1, g2.part⟩)) := (by rw [HBRN.out, if_neg hc] : brn o g = (o2, ⟨g2.cat, -1, g2.part⟩))
      go_wp2_with fail
      go_meet
      rw [E.out]
      exact ⟨g2.cat, g2.cat, P2.out.aside A2.out N1.out.1 N1.out.2 (by decide) 0 _, A2.out.put 0 _, F2.out.asideq Q.out HSZ.out 0 _, rfl⟩
  case rest =>
    obtain ⟨x, c, p2, a2, f2, hg3⟩ := hcut
    have HG3 : Hid _ := hg3
    have P2' := p2.aside a2 N1.out.1 N1.out.2 (by decide) 1 (.int .i64 (-1))
    have A2' : AtV (wc.setCell ⟨q, 1, none⟩ (.int .i64 (-1))) q #[.int .i64 x, .int .i64 (-1), .int .i64 g2.part] 62 := a2.put 1 (.int .i64 (-1))
    have F2' := f2.asideq Q.out HSZ.out 1 (.int .i64 (-1))
    obtain ⟨a0, a1, a2', af⟩ := a2.c3
    clear p2 a2 f2 hg3
    obtain ⟨W2, hW2⟩ : ∃ W2, wc.setCell ⟨q, 1, none⟩ (.int .i64 (-1)) = W2 := ⟨_, rfl⟩
    rw [hW2] at P2' A2' F2'
    have HP2 : Hid _ := P2'
    have HA2 : Hid _ := A2'
    have HF2 : Hid _ := F2'
    clear P2' A2' F2' P2 A2 F2
    go_upto_region 6 with fail
    clear hW2 a0 a1 a2' af
    have P3 := HP2.out.put3 ⟨x, -1, g2.part⟩
    have F3 := HF2.out.trans (FG.put3 W2 HP2.out.lt.2.2.1 st.length (.int .i64 x) (.int .i64 (-1)) (.int .i64 g2.part))
    obtain ⟨_, _, c3, cf⟩ := HP2.out.cells
    obtain ⟨k0, k1, k2, kf⟩ := HP2.out.last
    obtain ⟨a0, a1, a2, af⟩ := HA2.out.c3
    dsimp only at c3 k0 k1 k2
    obtain ⟨n, hn⟩ : ∃ n, st.length = n := ⟨_, rfl⟩
    obtain ⟨ln, hln⟩ : ∃ ln, n + 1 = ln := ⟨_, rfl⟩
    rw [hn, hln] at c3
    rw [hn] at k0 k1 k2 P3 F3
    have HP3 : Hid _ := P3
    have HF3 : Hid _ := F3
    have hwl : wrap64 ((ln : Int) - 1) = (n : Int) := by have := HST.out; unfold wrap64; omega
    have hlt : n < ln := by omega
    clear hn hln P3 F3 N1 Q HP2 HA2 HF2
    go_region
    go_wp2_with fail
    go_end0
    rw [HG3.out]
    exact ⟨rfl, HP3.out.drew, HF3.out.trans FG.dr⟩
end Go.Proofs.Ytkjcnnecdclgfaa
namespace Go.Proofs.Ytkjcnnecdclgfaa
open Go.RowKit
/-- A class is the next part. -/
def sst (M : Mc) (m : Nat → Bool) (j : Nat) : Mc := ⟨j, (stl M.out M.g).1 ++ [⟨1, m, -1, -1⟩], ⟨(stl M.out M.g).2.alt, (stl M.out M.g).2.cat, ((stl M.out M.g).1.length : Int)⟩, M.st⟩
theorem bel_set2 {w W : World} {r : Nat} (h : Below w.heap.size w W) (hr : w.heap.size ≤ r) (x y : Value) : Below w.heap.size w ((W.setCell ⟨r, 0, none⟩ x).setCell ⟨r, 1, none⟩ y) :=
  (h.setCell (p := ⟨r, 0, none⟩) hr _).setCell (p := ⟨r, 1, none⟩) hr _
set_option maxRecDepth 100000 in
set_option maxHeartbeats 4000000 in
theorem rset_any (B b gg cap : Nat) (s : ByteArray) (M : Mc) (m : Nat → Bool) (j : Nat) (w : World) (h : IsG B b gg cap s M w) (hst : M.st.length ≤ 128) (hl : M.out.length ≤ 2300000000000) :
    Calls Try.prog 42 #[.pointer (some ⟨b, 0, none⟩), CV m, .int .i64 (j : Int)] w fun e w' => e = .returned (errV 0 0) ∧ IsG B b gg cap s (sst M m j) w' ∧ FG B b gg w w' := by
  obtain ⟨i, o, g, st⟩ := M
  dsimp only at hst hl
  have hlen := stl_len o g
  have hss : sst ⟨i, o, g, st⟩ m j = ⟨j, (stl o g).1 ++ [⟨1, m, -1, -1⟩], ⟨(stl o g).2.alt, (stl o g).2.cat, ((stl o g).1.length : Int)⟩, st⟩ := rfl
  have T := fun W hW => settle_any B b gg cap s i o g st W hW hst (by omega)
  obtain ⟨o2, g2, hstl⟩ : ∃ o2 g2, stl o g = (o2, g2) := ⟨_, _, rfl⟩
  rw [hstl] at T hlen hss
  rw [hss]
  dsimp only at T hlen
  have HL : Hid (o2.length ≤ 2400000000000) := (by omega : o2.length ≤ 2400000000000)
  have HST : Hid _ := hst
  have HSZ : Hid _ := h.sz
  have HLE : Hid _ := h.le
  have HBL : Hid _ := h.lt
  have P0 : Hid (IsG B b gg cap s ⟨i, o, g, st⟩ ((w.alloc (.cells #[.int .u64 (wd m 0 : Nat), .int .u64 (wd m 1 : Nat), .int .u64 (wd m 2 : Nat), .int .u64 (wd m 3 : Nat)] 32)).alloc (.cells #[.int .i64 0, .int .i64 0] 66))) := (h.mono (bel_up _ _)).mono (bel_up _ _)
  have F0 : Hid (FG B b gg w ((w.alloc (.cells #[.int .u64 (wd m 0 : Nat), .int .u64 (wd m 1 : Nat), .int .u64 (wd m 2 : Nat), .int .u64 (wd m 3 : Nat)] 32)).alloc (.cells #[.int .i64 0, .int .i64 0] 66))) := FG.of (below_trans (bel_up _ _) (bel_up _ _)) h.sz
  have A0 : Hid (AtV ((w.alloc (.cells #[.int .u64 (wd m 0 : Nat), .int .u64 (wd m 1 : Nat), .int .u64 (wd m 2 : Nat), .int .u64 (wd m 3 : Nat)] 32)).alloc (.cells #[.int .i64 0, .int .i64 0] 66)) w.heap.size #[.int .u64 (wd m 0 : Nat), .int .u64 (wd m 1 : Nat), .int .u64 (wd m 2 : Nat), .int .u64 (wd m 3 : Nat)] 32) := (AtV.new w _ 32).up _
  have E0 : Hid (AtV ((w.alloc (.cells #[.int .u64 (wd m 0 : Nat), .int .u64 (wd m 1 : Nat), .int .u64 (wd m 2 : Nat), .int .u64 (wd m 3 : Nat)] 32)).alloc (.cells #[.int .i64 0, .int .i64 0] 66)) (w.heap.size + 1) #[.int .i64 0, .int .i64 0] 66) := by
    have := AtV.new (w.alloc (.cells #[.int .u64 (wd m 0 : Nat), .int .u64 (wd m 1 : Nat), .int .u64 (wd m 2 : Nat), .int .u64 (wd m 3 : Nat)] 32)) #[.int .i64 0, .int .i64 0] 66
    rw [World.size_alloc] at this
    exact this
  have N0 : Hid (w.heap.size ≠ b ∧ w.heap.size ≠ gg ∧ w.heap.size + 1 ≠ b ∧ w.heap.size + 1 ≠ gg) := by
    have := h.lt
    exact ⟨by omega, by omega, by omega, by omega⟩
  clear h hst hl hlen hstl hss
  go_enter Try.func42, Try.ntmps42
  go_wp2_with fail
  refine (T _ P0.out).mono ?_
  clear T
  rintro e w1 ⟨rfl, p1, f1⟩
  have P1 : Hid _ := p1
  have F1 : Hid _ := F0.out.trans f1
  have A1 : Hid _ := A0.out.fg f1 N0.out.1 N0.out.2.1 (by decide)
  have E1 : Hid _ := E0.out.fg f1 N0.out.2.2.1 N0.out.2.2.2 (by decide)
  have a0 := A1.out.cell 0 _ rfl
  have a1 := A1.out.cell 1 _ rfl
  have a2 := A1.out.cell 2 _ rfl
  have a3 := A1.out.cell 3 _ rfl
  clear p1 f1 P0 F0 A0 E0
  go_wp2_with fail
  refine (rnode_any B b gg cap s i o2 g2 st 1 m (-1) (-1) _ P1.out HL.out).mono ?_
  rintro e w2 ⟨rfl, p2, f2⟩
  have P2 : Hid _ := p2
  have F2 : Hid _ := F1.out.trans f2
  have E2 : Hid _ := E1.out.fg f2 N0.out.2.2.1 N0.out.2.2.2 (by decide)
  clear p2 f2 P1 F1 A1 E1 a0 a1 a2 a3
  go_wp2_with fail
  refine (rpart_any B b gg cap s i _ g2 st _ _ P2.out HST.out).mono ?_
  rintro e w3 ⟨rfl, p3, f3⟩
  have P3 : Hid _ := p3
  have F3 : Hid _ := F2.out.trans f3
  have E3 : Hid _ := E2.out.fg f3 N0.out.2.2.1 N0.out.2.2.2 (by decide)
  obtain ⟨c0, c1, c3, cf⟩ := p3.cells
  obtain ⟨e0, e1, ef⟩ := E3.out.c2
  clear p3 f3 P2 F2 E2
  have nb1 : ¬ w.heap.size + 1 = b := N0.out.2.2.1
  have nb2 : ¬ b = w.heap.size + 1 := fun e => N0.out.2.2.1 e.symm
  go_wp2_with fail
  refine bodyPost_ret (v := errV 0 0) ?_ rfl ⟨rfl, ?_, ?_⟩
  · rw [results_cell1 rfl]; go_simp
  · exact ((P3.out.at_ j).aside (E3.out.aside N0.out.2.2.1 1 _) N0.out.2.2.1 N0.out.2.2.2 (by decide) 0 _).aside ((E3.out.aside N0.out.2.2.1 1 _).put 0 _) N0.out.2.2.1 N0.out.2.2.2 (by decide) 1 _
  · exact ((F3.out.trans (FG.set _ _ _ HLE.out)).asideq (by omega) HSZ.out 0 _).asideq (by omega) HSZ.out 1 _
end Go.Proofs.Ytkjcnnecdclgfaa
