import Derived.Test.YtlmfcaflfbnebaaGpq
namespace Go.Proofs.Ytlmfcaflfbnebaa
open Go.RowKit Go.Maps

/-- The nine cells of spots written. -/
@[reducible] def nine (W : World) (b : Nat) (v : Nat → Value) : World := ((((((((W.setCell ⟨b, 0, none⟩ (v 0)).setCell ⟨b, 1, none⟩ (v 1)).setCell ⟨b, 2, none⟩ (v 2)).setCell ⟨b, 3, none⟩ (v 3)).setCell ⟨b, 4, none⟩ (v 4)).setCell ⟨b, 5, none⟩ (v 5)).setCell ⟨b, 6, none⟩ (v 6)).setCell ⟨b, 7, none⟩ (v 7)).setCell ⟨b, 8, none⟩ (v 8)
theorem nine_row {W : World} {B b : Nat} {e t : TypeId} {size n : Nat} {v : Value} {u : Nat → Value} {xs : List Value} {cs : Array Value} (hb : W.heap[b]? = some (.cells cs t (0, 0))) (h : W.ownsRow B e size v n xs) (he : e ≠ t) : (nine W b u).ownsRow B e size v n xs := by
  obtain ⟨h0, b0⟩ := row_off (k := 0) (u := u 0) hb h he
  obtain ⟨h1, b1⟩ := row_off (k := 1) (u := u 1) b0 h0 he
  obtain ⟨h2, b2⟩ := row_off (k := 2) (u := u 2) b1 h1 he
  obtain ⟨h3, b3⟩ := row_off (k := 3) (u := u 3) b2 h2 he
  obtain ⟨h4, b4⟩ := row_off (k := 4) (u := u 4) b3 h3 he
  obtain ⟨h5, b5⟩ := row_off (k := 5) (u := u 5) b4 h4 he
  obtain ⟨h6, b6⟩ := row_off (k := 6) (u := u 6) b5 h5 he
  obtain ⟨h7, b7⟩ := row_off (k := 7) (u := u 7) b6 h6 he
  exact (row_off (k := 8) (u := u 8) b7 h7 he).1
theorem nine_blk {W : World} {b : Nat} {t : TypeId} {u : Nat → Value} {z0 z1 z2 z3 z4 z5 z6 z7 z8 : Value} (hb : W.heap[b]? = some (.cells #[z0, z1, z2, z3, z4, z5, z6, z7, z8] t (0, 0))) : (nine W b u).heap[b]? = some (.cells #[u 0, u 1, u 2, u 3, u 4, u 5, u 6, u 7, u 8] t (0, 0)) := by
  have b0 := blk_set (k := 0) (u 0) hb
  have b1 := blk_set (k := 1) (u 1) b0
  have b2 := blk_set (k := 2) (u 2) b1
  have b3 := blk_set (k := 3) (u 3) b2
  have b4 := blk_set (k := 4) (u 4) b3
  have b5 := blk_set (k := 5) (u 5) b4
  have b6 := blk_set (k := 6) (u 6) b5
  have b7 := blk_set (k := 7) (u 7) b6
  have b8 := blk_set (k := 8) (u 8) b7
  simpa using b8
theorem nine_below {w W : World} {b : Nat} {u : Nat → Value} (h : Below w.heap.size w W) (hb : w.heap.size ≤ b) : Below w.heap.size w (nine W b u) :=
  ((((((((h.setCell (p := ⟨b, 0, none⟩) hb _).setCell (p := ⟨b, 1, none⟩) hb _).setCell (p := ⟨b, 2, none⟩) hb _).setCell (p := ⟨b, 3, none⟩) hb _).setCell (p := ⟨b, 4, none⟩) hb _).setCell (p := ⟨b, 5, none⟩) hb _).setCell (p := ⟨b, 6, none⟩) hb _).setCell (p := ⟨b, 7, none⟩) hb _).setCell (p := ⟨b, 8, none⟩) hb _
theorem nine_far {W : World} {b c : Nat} {u : Nat → Value} (hc : c ≠ b) : (nine W b u).heap[c]? = W.heap[c]? := by
  simp only [nine]
  rw [Below.heap_setCell _ _ _ _ (by simpa using hc), Below.heap_setCell _ _ _ _ (by simpa using hc), Below.heap_setCell _ _ _ _ (by simpa using hc), Below.heap_setCell _ _ _ _ (by simpa using hc), Below.heap_setCell _ _ _ _ (by simpa using hc), Below.heap_setCell _ _ _ _ (by simpa using hc), Below.heap_setCell _ _ _ _ (by simpa using hc), Below.heap_setCell _ _ _ _ (by simpa using hc), Below.heap_setCell _ _ _ _ (by simpa using hc)]
theorem MR.nine {B b : Nat} {W : World} {M : List Mb} {u : Nat → Value} {cs : Array Value} (h : MR B W M) (hb : W.heap[b]? = some (.cells cs 25 (0, 0))) : MR B (nine W b u) M :=
  ⟨fun m hm => nine_row hb (h.r m hm) (by decide), h.d⟩
/-- Spots as values. -/
def un (x0 x1 x2 x3 x4 x5 x6 x7 : Value) : Nat → Value
  | 0 => x0 | 1 => x1 | 2 => x2 | 3 => x3 | 4 => x4 | 5 => x5 | 6 => x6 | 7 => x7 | _ => .slice none 0 0
/-- What the law keeps: the rows with marks, the three lists of rows, the spots' box. -/
structure Kz (w W : World) (M : List Mb) (X V Y : List Value) (gm cm nm gw cw nw : Nat) (vn : Value) (ns T : Nat) (u : Nat → Value) : Prop where
  mr : MR w.heap.size W M
  m : W.ownsRow w.heap.size 22 1 (.slice (some ⟨gm, 0, none⟩) nm cm) nm X
  v : W.ownsRow w.heap.size 22 1 (.slice (some ⟨gw, 0, none⟩) nw cw) nw V
  s : W.ownsRow w.heap.size 22 1 vn ns Y
  t : W.heap[T]? = some (.cells #[u 0, u 1, u 2, u 3, u 4, u 5, u 6, u 7, vn] 25 (0, 0))
  d1 : gm ≠ gw
  d2 : vn.ownBlock ≠ some gm ∧ vn.ownBlock ≠ some gw
  lT : w.heap.size ≤ T
  bel : Below w.heap.size w W
section
variable {w W W' : World} {M : List Mb} {X V Y : List Value} {gm cm nm gw cw nw ns T : Nat} {u : Nat → Value} {vn : Value}
theorem row_lt {B : Nat} {e : TypeId} {size n : Nat} {v : Value} {xs : List Value} (h : W.ownsRow B e size v n xs) (r : Nat) (e : v.ownBlock = some r) : r < W.heap.size := by
  obtain ⟨_, cur, hh⟩ := row_tag h r e; exact lt_of_heap hh
theorem Kz.up (h : Kz w W M X V Y gm cm nm gw cw nw vn ns T u) (hb : Below W.heap.size W W') : Kz w W' M X V Y gm cm nm gw cw nw vn ns T u :=
  ⟨h.mr.up hb, row_up h.m hb, row_up h.v hb, row_up h.s hb, (hb.block _ (lt_of_heap h.t)).trans h.t, h.d1, h.d2, h.lT, h.bel.trans (hb.mono h.bel.size)⟩
theorem Kz.snoc (h : Kz w W M X V Y gm cm nm gw cw nw vn ns T u) (hb : Below W.heap.size W W') {g k : Nat} {l : List Int} (hr : Rm W.heap.size W' g k l) : Kz w W' (M ++ [(g, k, l)]) X V Y gm cm nm gw cw nw vn ns T u :=
  { h.up hb with mr := h.mr.snoc hb h.bel.size hr }
theorem Kz.appM (h : Kz w W M X V Y gm cm nm gw cw nw vn ns T u) {gm' cm' nm' : Nat} {X' : List Value} (ho : W'.ownsRow w.heap.size 22 1 (.slice (some ⟨gm', 0, none⟩) nm' cm') nm' X') (hg : W.grownBy W' (some gm)) (ha : some gm = some gm' ∨ gm' = W.heap.size) : Kz w W' M X' V Y gm' cm' nm' gw cw nw vn ns T u := by
  have lw := row_lt h.v gw rfl
  refine ⟨h.mr.grown h.m hg, ho, h.v.kept hg (.inr fun e => h.d1 (Option.some.inj e).symm), h.s.kept hg (.inr h.d2.1), ?_, ?_, ⟨fun e => ?_, h.d2.2⟩, h.lT, h.bel.grown hg h.bel.size (fun r e' => by cases e'; exact (row_tag h.m gm rfl).1)⟩
  · exact (hg.block _ (lt_of_heap h.t) (fun e => tag_ne_blk h.m h.t (by decide) e.symm)).trans h.t
  · rcases ha with e | rfl
    · cases e; exact h.d1
    · omega
  · rcases ha with e' | rfl
    · cases e'; exact h.d2.1 e
    · have := row_lt h.s _ e; omega
theorem Kz.appV (h : Kz w W M X V Y gm cm nm gw cw nw vn ns T u) {gw' cw' nw' : Nat} {V' : List Value} (ho : W'.ownsRow w.heap.size 22 1 (.slice (some ⟨gw', 0, none⟩) nw' cw') nw' V') (hg : W.grownBy W' (some gw)) (ha : some gw = some gw' ∨ gw' = W.heap.size) : Kz w W' M X V' Y gm cm nm gw' cw' nw' vn ns T u := by
  have lm := row_lt h.m gm rfl
  refine ⟨h.mr.grown h.v hg, h.m.kept hg (.inr fun e => h.d1 (Option.some.inj e)), ho, h.s.kept hg (.inr h.d2.2), ?_, ?_, ⟨h.d2.1, fun e => ?_⟩, h.lT, h.bel.grown hg h.bel.size (fun r e' => by cases e'; exact (row_tag h.v gw rfl).1)⟩
  · exact (hg.block _ (lt_of_heap h.t) (fun e => tag_ne_blk h.v h.t (by decide) e.symm)).trans h.t
  · rcases ha with e | rfl
    · cases e; exact h.d1
    · omega
  · rcases ha with e' | rfl
    · cases e'; exact h.d2.2 e
    · have := row_lt h.s _ e; omega
theorem Kz.appS (h : Kz w W M X V Y gm cm nm gw cw nw vn ns T u) {g' c' ns' : Nat} {Y' : List Value} (ho : W'.ownsRow w.heap.size 22 1 (.slice (some ⟨g', 0, none⟩) ns' c') ns' Y') (hg : W.grownBy W' vn.ownBlock) (ha : vn.ownBlock = some g' ∨ g' = W.heap.size) : Kz w (W'.setCell ⟨T, 8, none⟩ (.slice (some ⟨g', 0, none⟩) ns' c')) M X V Y' gm cm nm gw cw nw (.slice (some ⟨g', 0, none⟩) ns' c') ns' T u := by
  have lm := row_lt h.m gm rfl
  have lw := row_lt h.v gw rfl
  have hT : W'.heap[T]? = some (.cells #[u 0, u 1, u 2, u 3, u 4, u 5, u 6, u 7, vn] 25 (0, 0)) := (hg.block _ (lt_of_heap h.t) (fun e => tag_ne_blk h.s h.t (by decide) e.symm)).trans h.t
  refine ⟨(h.mr.grown h.s hg).box hT, (row_off hT (h.m.kept hg (.inr fun e => h.d2.1 e.symm)) (by decide)).1, (row_off hT (h.v.kept hg (.inr fun e => h.d2.2 e.symm)) (by decide)).1, (row_off hT ho (by decide)).1, ?_, h.d1, ⟨fun e => ?_, fun e => ?_⟩, h.lT, ?_⟩
  · have := blk_set (k := 8) (.slice (some ⟨g', 0, none⟩) ns' c') hT
    simpa using this
  · have e2 : g' = gm := Option.some.inj e
    rcases ha with e' | e'
    · exact h.d2.1 (by rw [e', e2])
    · omega
  · have e2 : g' = gw := Option.some.inj e
    rcases ha with e' | e'
    · exact h.d2.2 (by rw [e', e2])
    · omega
  · exact (h.bel.grown hg h.bel.size (fun r e' => (row_tag h.s r e').1)).setCell (p := ⟨T, 8, none⟩) h.lT _
/-- A cell of a row is written. -/
theorem Kz.set (h : Kz w W M X V Y gm cm nm gw cw nw vn ns T u) {i j g k : Nat} {l : List Int} {x : Int} (hi : M[i]? = some (g, k, l)) (hj : j < l.length) : Kz w (W.setCell ⟨g, j, none⟩ (.int .i64 x)) (M.set i (g, k, l.set j x)) X V Y gm cm nm gw cw nw vn ns T u := by
  obtain ⟨hB, cur, hb⟩ := row_tag (h.mr.r _ (List.mem_of_getElem? hi)) g rfl
  refine ⟨h.mr.set hi hj, (row_off hb h.m (by decide)).1, (row_off hb h.v (by decide)).1, (row_off hb h.s (by decide)).1, ?_, h.d1, h.d2, h.lT, h.bel.setCell (p := ⟨g, j, none⟩) hB _⟩
  rw [Below.heap_setCell _ _ _ _ (fun e => ?_)]
  · exact h.t
  · have e2 : T = g := e
    have := h.t
    rw [e2, hb] at this
    cases this
end
theorem pl_congr {L L' : Nat → List Int} {N N' : List (List Int)} (hL : ∀ k, k < 8 → L k = L' k) (hN : N = N') (p i s : Int) : pl L N p i s = pl L' N' p i s := by
  unfold pl
  rw [hL 0 (by decide), hL 1 (by decide), hL 2 (by decide), hL 3 (by decide), hL 4 (by decide), hL 5 (by decide), hL 6 (by decide), hL 7 (by decide), hN]
theorem set_shp {M : List Mb} {i j g k : Nat} {l : List Int} {x : Int} (hi : M[i]? = some (g, k, l)) : (M.set i (g, k, l.set j x)).map shp = M.map shp := by
  have hlen : i < M.length := (List.getElem?_eq_some_iff.1 hi).1
  rw [List.map_set]
  apply List.ext_getElem?
  intro a
  by_cases ha : i = a
  · subst ha
    rw [List.getElem?_set_self (by rw [List.length_map]; exact hlen), List.getElem?_map, hi]
    simp [shp]
  · rw [List.getElem?_set_ne ha]
end Go.Proofs.Ytlmfcaflfbnebaa
