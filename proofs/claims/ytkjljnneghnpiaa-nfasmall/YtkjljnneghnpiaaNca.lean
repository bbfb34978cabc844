import Derived.Test.YtkjljnneghnpiaaNft
namespace Go.Proofs.Ytkjljnneghnpiaa
open Go.RowKit Go.Maps

theorem info40 : (Try.prog.info? 40).map (fun i => (i.zero, i.size, i.bytes)) = some (some (.agg #[.int .u64 0, .int .u64 0, .int .u64 0, .int .u64 0]), 4, 32) := by kernel_rfl
theorem info23 : (Try.prog.info? 23).map (fun i => (i.zero, i.size, i.bytes)) = some (some (.slice none 0 0), 1, 24) := by kernel_rfl
/-- The cells of a class, of a row of classes. -/
def oc (m : Nat → Bool) : List Value := [.int .u64 (wd m 0 : Nat), .int .u64 (wd m 1 : Nat), .int .u64 (wd m 2 : Nat), .int .u64 (wd m 3 : Nat)]
def onC : List (Nat → Bool) → List Value
  | [] => []
  | m :: l => oc m ++ onC l
theorem onC_app (l k : List (Nat → Bool)) : onC (l ++ k) = onC l ++ onC k := by
  induction l with
  | nil => rfl
  | cons m l ih => simp only [List.cons_append, onC, ih, List.append_assoc]
theorem onC_len (l : List (Nat → Bool)) : (onC l).length = l.length * 4 := by
  induction l with
  | nil => rfl
  | cons m l ih => simp only [onC, List.length_append, ih, oc, List.length_cons, List.length_nil]; omega
theorem onC_get (l : List (Nat → Bool)) : ∀ i (_ : i < l.length) k (_ : k < 4), (onC l)[i * 4 + k]? = some (.int .u64 (wd (l.getD i (fun _ => false)) k : Nat)) := by
  induction l with
  | nil => intro i hi; cases hi
  | cons m l ih =>
    intro i hi k hk
    cases i with
    | zero =>
      simp only [Nat.zero_mul, Nat.zero_add, onC, oc]
      rcases k with _ | _ | _ | _ | k
      · rfl
      · rfl
      · rfl
      · rfl
      · omega
    | succ i =>
      have h := ih i (by simp at hi; omega) k hk
      have e : (i + 1) * 4 + k = (i * 4 + k) + 4 := by omega
      rw [e]
      show (oc m ++ onC l)[(i * 4 + k) + 4]? = _
      rw [List.getElem?_append_right (by simp [oc])]
      simpa [oc] using h
theorem row_tag {W : World} {B : Nat} {e : TypeId} {size n : Nat} {v : Value} {xs : List Value} (h : W.ownsRow B e size v n xs) : ∀ r, v.ownBlock = some r → B ≤ r ∧ ∃ cur, W.heap[r]? = some (.cells cur e (0, 0)) := by
  intro r e'
  rcases h.2 with ⟨rfl, _⟩ | ⟨g, cap, cur, rfl, hb, hh, _⟩
  · cases e'
  · cases e'; exact ⟨hb, cur, hh⟩
theorem tag_ne {W : World} {B B' : Nat} {e e' : TypeId} {s s' n n' : Nat} {v v' : Value} {xs xs' : List Value} (h : W.ownsRow B e s v n xs) (h' : W.ownsRow B' e' s' v' n' xs') (hne : e ≠ e') : v.ownBlock = none ∨ v.ownBlock ≠ v'.ownBlock := by
  cases hv : v.ownBlock with
  | none => exact .inl rfl
  | some r =>
    refine .inr fun h2 => ?_
    obtain ⟨_, c1, e1⟩ := row_tag h r hv
    obtain ⟨_, c2, e2⟩ := row_tag h' r h2.symm
    rw [e1] at e2; cases e2; exact hne rfl
theorem tag_ne_blk {W : World} {B : Nat} {e t : TypeId} {s n bk : Nat} {v : Value} {xs : List Value} {cur : Array Value} (h : W.ownsRow B e s v n xs) (hb : W.heap[bk]? = some (.cells cur t (0, 0))) (hne : e ≠ t) : v.ownBlock ≠ some bk := fun e1 => by
  obtain ⟨_, c1, e2⟩ := row_tag h bk e1
  rw [hb] at e2; cases e2; exact hne rfl
/-- A row of free steps in memory. -/
def FrE (B : Nat) (W : World) (vt : Value) (v : Value) (l : List Int) : Prop :=
  (v = .slice none 0 0 ∧ l = []) ∨ ∃ g, v = .slice (some ⟨g, 0, none⟩) l.length l.length ∧ l ≠ [] ∧ B ≤ g ∧ vt.ownBlock ≠ some g ∧ W.heap[g]? = some (.cells (l.map (Value.int .i64)).toArray 3 (0, 0))
/-- A maker in memory. -/
structure MkV (B : Nat) (W : World) (bk : Nat) (on : List (Nat → Bool)) (tos : List Int) (fvs : List Value) (frs : List (List Int)) (st en : Int) (rv vo vt vf : Value) : Prop where
  blk : W.heap[bk]? = some (.cells #[vo, vt, vf, .int .i64 st, .int .i64 en, rv] 64 (0, 0))
  on : W.ownsRow B 40 4 vo on.length (onC on)
  tos : W.ownsRow B 3 1 vt tos.length (tos.map (Value.int .i64))
  fr : W.ownsRow B 23 1 vf fvs.length fvs
  len : fvs.length = frs.length
  el : ∀ i, i < fvs.length → FrE B W vt (fvs.getD i undef) (frs.getD i [])
  lo : B ≤ bk
  lB : B ≤ W.heap.size
section
variable {B : Nat} {W W' W2 : World} {bk : Nat} {on : List (Nat → Bool)} {tos : List Int} {fvs : List Value} {frs : List (List Int)} {st en : Int} {rv vo vt vf : Value}
theorem FrE.kept {v : Value} {l : List Int} {row : Option Nat} (h : FrE B W vt v l) (hg : W.grownBy W' row) (hr : ∀ r, row = some r → (∃ cur e, W.heap[r]? = some (.cells cur e (0, 0)) ∧ e ≠ 3) ∨ vt.ownBlock = some r) : FrE B W' vt v l := by
  rcases h with h | ⟨g, e1, e0, e2, e3, e4⟩
  · exact .inl h
  · refine .inr ⟨g, e1, e0, e2, e3, (hg.block g (lt_of_heap e4) (fun e => ?_)).trans e4⟩
    rcases hr g e.symm with ⟨cur, t, h1, h2⟩ | h1
    · rw [e4] at h1; cases h1; exact h2 rfl
    · exact e3 h1
theorem FrE.up {v vt' : Value} {l : List Int} (h : FrE B W vt v l) (hv : ∀ r, vt'.ownBlock = some r → vt.ownBlock = some r ∨ W.heap.size ≤ r) : FrE B W vt' v l := by
  rcases h with h | ⟨g, e1, e0, e2, e3, e4⟩
  · exact .inl h
  · refine .inr ⟨g, e1, e0, e2, fun e => ?_, e4⟩
    rcases hv g e with h1 | h1
    · exact e3 h1
    · have := lt_of_heap e4; omega
theorem MkV.grown (h : MkV B W bk on tos fvs frs st en rv vo vt vf) (hg : W.grownBy W' none) : MkV B W' bk on tos fvs frs st en rv vo vt vf :=
  ⟨(hg.block bk (lt_of_heap h.blk) (by simp)).trans h.blk, h.on.kept hg (by cases vo.ownBlock <;> simp), h.tos.kept hg (by cases vt.ownBlock <;> simp), h.fr.kept hg (by cases vf.ownBlock <;> simp), h.len, fun i hi => (h.el i hi).kept hg (fun r e => by cases e), h.lo, Nat.le_trans h.lB hg.size⟩
theorem MkV.below (h : MkV B W bk on tos fvs frs st en rv vo vt vf) (hb : Below W.heap.size W W') : MkV B W' bk on tos fvs frs st en rv vo vt vf := h.grown (grown_of_below hb)
theorem MkV.cell (h : MkV B W bk on tos fvs frs st en rv vo vt vf) (k : Nat) (v : Value) (hk : #[vo, vt, vf, .int .i64 st, .int .i64 en, rv][k]? = some v) : W.cell? ⟨bk, k, none⟩ = some v := by
  rw [Lib.cell_of_heap h.blk]; exact hk
theorem MkV.frz (h : MkV B W bk on tos fvs frs st en rv vo vt vf) (k : Nat) : W.frozen? ⟨bk, k, none⟩ = false := Lib.frozen_of_heap h.blk k
/-- Cells of the maker's own block written. -/
theorem MkV.own (h : MkV B W bk on tos fvs frs st en rv vo vt vf) {st' en' : Int} {vo' vt' vf' : Value} (hg : W.grownBy W' (some bk)) (hblk : W'.heap[bk]? = some (.cells #[vo', vt', vf', .int .i64 st', .int .i64 en', rv] 64 (0, 0)))
    {on' : List (Nat → Bool)} {tos' : List Int} {fvs' : List Value} {frs' : List (List Int)} (h1 : W.ownsRow B 40 4 vo' on'.length (onC on')) (h2 : W.ownsRow B 3 1 vt' tos'.length (tos'.map (Value.int .i64))) (h3 : W.ownsRow B 23 1 vf' fvs'.length fvs') (h4 : fvs'.length = frs'.length)
    (h5 : ∀ i, i < fvs'.length → FrE B W vt' (fvs'.getD i undef) (frs'.getD i [])) : MkV B W' bk on' tos' fvs' frs' st' en' rv vo' vt' vf' ∧ Below B W W' := by
  have hb : Below B W W' := (Below.refl B W).grown hg h.lB (fun k e => by cases e; exact h.lo)
  exact ⟨⟨hblk, h1.kept hg (.inr (tag_ne_blk h1 h.blk (by decide))), h2.kept hg (.inr (tag_ne_blk h2 h.blk (by decide))), h3.kept hg (.inr (tag_ne_blk h3 h.blk (by decide))), h4, fun i hi => (h5 i hi).kept hg (fun r e => by cases e; exact .inl ⟨_, 64, h.blk, by decide⟩), h.lo, Nat.le_trans h.lB hg.size⟩, hb⟩
theorem MkV.putOn (h : MkV B W bk on tos fvs frs st en rv vo vt vf) {m : Nat → Bool} {vo' : Value} (hg : W.grownBy W2 vo.ownBlock) (hr : W2.ownsRow B 40 4 vo' (on ++ [m]).length (onC (on ++ [m]))) :
    MkV B (W2.setCell ⟨bk, 0, none⟩ vo') bk (on ++ [m]) tos fvs frs st en rv vo' vt vf ∧ Below B W (W2.setCell ⟨bk, 0, none⟩ vo') := by
  have hb2 : W2.heap[bk]? = some (.cells #[vo, vt, vf, .int .i64 st, .int .i64 en, rv] 64 (0, 0)) := (hg.block bk (lt_of_heap h.blk) (fun e => tag_ne_blk h.on h.blk (by decide) e.symm)).trans h.blk
  have hB2 : Below B W W2 := (Below.refl B W).grown hg h.lB (fun k e => (row_tag h.on k e).1)
  have h2 := h.tos.kept hg (tag_ne h.tos h.on (by decide))
  have h3 := h.fr.kept hg (tag_ne h.fr h.on (by decide))
  have h5 : ∀ i, i < fvs.length → FrE B W2 vt (fvs.getD i undef) (frs.getD i []) := fun i hi => (h.el i hi).kept hg (fun r e => by obtain ⟨_, cur, e1⟩ := row_tag h.on r e; exact .inl ⟨cur, 40, e1, by decide⟩)
  have hgs : W2.grownBy (W2.setCell ⟨bk, 0, none⟩ vo') (some bk) := grown_set
  have hb : Below B W2 (W2.setCell ⟨bk, 0, none⟩ vo') := (Below.refl B W2).setCell (p := ⟨bk, 0, none⟩) h.lo _
  refine ⟨⟨by rw [blk_set _ hb2]; rfl, hr.kept hgs (.inr (tag_ne_blk hr hb2 (by decide))), h2.kept hgs (.inr (tag_ne_blk h2 hb2 (by decide))), h3.kept hgs (.inr (tag_ne_blk h3 hb2 (by decide))), h.len, fun i hi => (h5 i hi).kept hgs (fun r e => by cases e; exact .inl ⟨_, 64, hb2, by decide⟩), h.lo, by have := hB2.size; have := h.lB; simp; omega⟩, hB2.trans hb⟩
theorem MkV.putTo (h : MkV B W bk on tos fvs frs st en rv vo vt vf) {x : Int} {vt' : Value} (hg : W.grownBy W2 vt.ownBlock) (hr : W2.ownsRow B 3 1 vt' (tos ++ [x]).length ((tos ++ [x]).map (Value.int .i64))) (hl : vt'.ownBlock = vt.ownBlock ∨ ∃ r, vt'.ownBlock = some r ∧ W.heap.size ≤ r) :
    MkV B (W2.setCell ⟨bk, 1, none⟩ vt') bk on (tos ++ [x]) fvs frs st en rv vo vt' vf ∧ Below B W (W2.setCell ⟨bk, 1, none⟩ vt') := by
  have hb2 : W2.heap[bk]? = some (.cells #[vo, vt, vf, .int .i64 st, .int .i64 en, rv] 64 (0, 0)) := (hg.block bk (lt_of_heap h.blk) (fun e => tag_ne_blk h.tos h.blk (by decide) e.symm)).trans h.blk
  have hB2 : Below B W W2 := (Below.refl B W).grown hg h.lB (fun k e => (row_tag h.tos k e).1)
  have h2 := h.on.kept hg (tag_ne h.on h.tos (by decide))
  have h3 := h.fr.kept hg (tag_ne h.fr h.tos (by decide))
  have h5 : ∀ i, i < fvs.length → FrE B W2 vt' (fvs.getD i undef) (frs.getD i []) := fun i hi => by
    rcases h.el i hi with h1 | ⟨g, e1, e0, e2, e3, e4⟩
    · exact .inl h1
    · refine .inr ⟨g, e1, e0, e2, fun e => ?_, (hg.block g (lt_of_heap e4) (fun e => e3 e.symm)).trans e4⟩
      rcases hl with h1 | ⟨r', h1, h2⟩
      · exact e3 (h1 ▸ e)
      · rw [e] at h1; cases h1; have := lt_of_heap e4; omega
  have hgs : W2.grownBy (W2.setCell ⟨bk, 1, none⟩ vt') (some bk) := grown_set
  have hb : Below B W2 (W2.setCell ⟨bk, 1, none⟩ vt') := (Below.refl B W2).setCell (p := ⟨bk, 1, none⟩) h.lo _
  refine ⟨⟨by rw [blk_set _ hb2]; rfl, h2.kept hgs (.inr (tag_ne_blk h2 hb2 (by decide))), hr.kept hgs (.inr (tag_ne_blk hr hb2 (by decide))), h3.kept hgs (.inr (tag_ne_blk h3 hb2 (by decide))), h.len, fun i hi => (h5 i hi).kept hgs (fun r e => by cases e; exact .inl ⟨_, 64, hb2, by decide⟩), h.lo, by have := hB2.size; have := h.lB; simp; omega⟩, hB2.trans hb⟩
theorem MkV.putFr (h : MkV B W bk on tos fvs frs st en rv vo vt vf) {v vf' : Value} {l : List Int} (hg : W.grownBy W2 vf.ownBlock) (hr : W2.ownsRow B 23 1 vf' (fvs ++ [v]).length (fvs ++ [v])) (hv : FrE B W vt v l) :
    MkV B (W2.setCell ⟨bk, 2, none⟩ vf') bk on tos (fvs ++ [v]) (frs ++ [l]) st en rv vo vt vf' ∧ Below B W (W2.setCell ⟨bk, 2, none⟩ vf') := by
  have hb2 : W2.heap[bk]? = some (.cells #[vo, vt, vf, .int .i64 st, .int .i64 en, rv] 64 (0, 0)) := (hg.block bk (lt_of_heap h.blk) (fun e => tag_ne_blk h.fr h.blk (by decide) e.symm)).trans h.blk
  have hB2 : Below B W W2 := (Below.refl B W).grown hg h.lB (fun k e => (row_tag h.fr k e).1)
  have h2 := h.on.kept hg (tag_ne h.on h.fr (by decide))
  have h3 := h.tos.kept hg (tag_ne h.tos h.fr (by decide))
  have hk : ∀ r, vf.ownBlock = some r → (∃ cur e, W.heap[r]? = some (.cells cur e (0, 0)) ∧ e ≠ 3) ∨ vt.ownBlock = some r := fun r e => by obtain ⟨_, cur, e1⟩ := row_tag h.fr r e; exact .inl ⟨cur, 23, e1, by decide⟩
  have h5 : ∀ i, i < (fvs ++ [v]).length → FrE B W2 vt ((fvs ++ [v]).getD i undef) ((frs ++ [l]).getD i []) := fun i hi => by
    have hlen := h.len
    by_cases e : i < fvs.length
    · have e1 : (fvs ++ [v]).getD i undef = fvs.getD i undef := by simp only [List.getD_eq_getElem?_getD, List.getElem?_append_left e]
      have e2 : (frs ++ [l]).getD i [] = frs.getD i [] := by simp only [List.getD_eq_getElem?_getD, List.getElem?_append_left (hlen ▸ e)]
      rw [e1, e2]
      exact (h.el i e).kept hg hk
    · have e0 : i = fvs.length := by simp at hi; omega
      subst e0
      have e1 : (fvs ++ [v]).getD fvs.length undef = v := by simp
      have e2 : (frs ++ [l]).getD fvs.length [] = l := by rw [hlen]; simp
      rw [e1, e2]
      exact hv.kept hg hk
  have hgs : W2.grownBy (W2.setCell ⟨bk, 2, none⟩ vf') (some bk) := grown_set
  have hb : Below B W2 (W2.setCell ⟨bk, 2, none⟩ vf') := (Below.refl B W2).setCell (p := ⟨bk, 2, none⟩) h.lo _
  refine ⟨⟨by rw [blk_set _ hb2]; rfl, h2.kept hgs (.inr (tag_ne_blk h2 hb2 (by decide))), h3.kept hgs (.inr (tag_ne_blk h3 hb2 (by decide))), hr.kept hgs (.inr (tag_ne_blk hr hb2 (by decide))), by simp [h.len], fun i hi => (h5 i hi).kept hgs (fun r e => by cases e; exact .inl ⟨_, 64, hb2, by decide⟩), h.lo, by have := hB2.size; have := h.lB; simp; omega⟩, hB2.trans hb⟩
end

/-- A maker of n states. -/
def Mk (B : Nat) (W : World) (bk : Nat) (on : List (Nat → Bool)) (tos : List Int) (frs : List (List Int)) (st en : Int) (rv : Value) : Prop :=
  on.length = frs.length ∧ tos.length = frs.length ∧ ∃ fvs vo vt vf, MkV B W bk on tos fvs frs st en rv vo vt vf
end Go.Proofs.Ytkjljnneghnpiaa
