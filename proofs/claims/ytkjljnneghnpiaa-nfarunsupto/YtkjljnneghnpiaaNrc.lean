import Derived.Test.YtkjljnneghnpiaaNrb
namespace Go.Proofs.Ytkjljnneghnpiaa
open Go.RowKit

/-- What a set and its free ways lead to. -/
inductive Fr (N : Mc) (S : Nat → Bool) : Nat → Prop
  | base {p : Nat} : p < N.on.length → S p = true → Fr N S p
  | step {p q : Nat} : Fr N S p → (q : Int) ∈ N.frees p → q < N.on.length → Fr N S q
theorem Fr.lt {N : Mc} {S : Nat → Bool} {p : Nat} (h : Fr N S p) : p < N.on.length := by cases h <;> assumption
/-- What is known while a set grows: T0 stood at the round's start; the states below p are gone through, of p those below q. -/
structure GrI (N : Mc) (S T0 T : Nat → Bool) (ag : Bool) (p q : Nat) : Prop where
  low : ∀ t, t < N.on.length → S t = true → T t = true
  up : ∀ t, t < N.on.length → T t = true → Fr N S t
  done : ag = false → ∀ p', p' < N.on.length → T p' = true → ∀ q', q' < N.on.length → (p' < p ∨ (p' = p ∧ q' < q)) → (q' : Int) ∈ N.frees p' → T q' = true
  le : dd T N.on.length ≤ dd T0 N.on.length
  less : ag = true → dd T N.on.length < dd T0 N.on.length
variable {N : Mc} {S T0 T : Nat → Bool} {ag : Bool} {p q : Nat}
theorem GrI.start (h1 : ∀ t, t < N.on.length → S t = true → T t = true) (h2 : ∀ t, t < N.on.length → T t = true → Fr N S t) : GrI N S T T false 0 0 :=
  ⟨h1, h2, fun _ p' _ _ q' _ h => by omega, Nat.le_refl _, fun h => by cases h⟩
theorem GrI.pass (h : GrI N S T0 T ag p q) (hn : T q = true ∨ ¬ (q : Int) ∈ N.frees p) : GrI N S T0 T ag p (q + 1) :=
  ⟨h.low, h.up, fun ha p' hp' ht q' hq' hc hm => by
    by_cases e : p' = p ∧ q' = q
    · obtain ⟨rfl, rfl⟩ := e
      rcases hn with hn | hn
      · exact hn
      · exact absurd hm hn
    · exact h.done ha p' hp' ht q' hq' (by omega) hm, h.le, h.less⟩
theorem GrI.put (h : GrI N S T0 T ag p q) (hp : p < N.on.length) (htp : T p = true) (hq : q < N.on.length) (htq : T q = false) (hm : (q : Int) ∈ N.frees p) : GrI N S T0 (upd T q) true p (q + 1) := by
  have hd := dd_upd hq htq
  have hl := h.le
  refine ⟨fun t ht hs => upd_mono (h.low t ht hs), fun t ht hu => ?_, fun ha => Bool.noConfusion ha, by omega, fun _ => by omega⟩
  rcases upd_inv hu with rfl | hu
  · exact .step (h.up p hp htp) hm ht
  · exact h.up t ht hu
theorem GrI.next (h : GrI N S T0 T ag p q) (hn : T p = false ∨ N.on.length ≤ q) : GrI N S T0 T ag (p + 1) 0 :=
  ⟨h.low, h.up, fun ha p' hp' ht q' hq' hc hm => by
    by_cases e : p' = p
    · subst e
      rcases hn with hn | hn
      · rw [hn] at ht; cases ht
      · exact h.done ha p' hp' ht q' hq' (.inr ⟨rfl, by omega⟩) hm
    · exact h.done ha p' hp' ht q' hq' (.inl (by omega)) hm, h.le, h.less⟩
/-- Grown. -/
def Grn (N : Mc) (S T : Nat → Bool) : Prop := ∀ t, t < N.on.length → (T t = true ↔ Fr N S t)
theorem GrI.end_ (h : GrI N S T0 T false N.on.length 0) : Grn N S T := by
  intro t ht
  refine ⟨h.up t ht, fun hf => ?_⟩
  clear ht
  induction hf with
  | base hp hs => exact h.low _ hp hs
  | step hp hm hq ih => exact h.done rfl _ hp.lt ih _ hq (.inl hp.lt) hm

/-- A boxed machine. -/
structure Bxs (W : World) (b : Nat) (vo vt vf : Value) (N : Mc) : Prop where
  c0 : W.cell? ⟨b, 0, none⟩ = some vo
  c1 : W.cell? ⟨b, 1, none⟩ = some vt
  c2 : W.cell? ⟨b, 2, none⟩ = some vf
  c3 : W.cell? ⟨b, 3, none⟩ = some (.int .i64 N.start)
  c4 : W.cell? ⟨b, 4, none⟩ = some (.int .i64 N.fin)
theorem Bxs.up {W W' : World} {b : Nat} {vo vt vf : Value} (h : Bxs W b vo vt vf N) (hb : Below W.heap.size W W') : Bxs W' b vo vt vf N :=
  ⟨below_cell hb h.c0, below_cell hb h.c1, below_cell hb h.c2, below_cell hb h.c3, below_cell hb h.c4⟩
theorem Bxs.set {W : World} {b : Nat} {vo vt vf : Value} (h : Bxs W b vo vt vf N) {g i : Nat} (hg : b ≠ g) (v : Value) : Bxs (W.setCell ⟨g, i, none⟩ v) b vo vt vf N := by
  have e : ∀ k x, W.cell? ⟨b, k, none⟩ = some x → (W.setCell ⟨g, i, none⟩ v).cell? ⟨b, k, none⟩ = some x := fun k x hx => by
    rw [World.cell?_setCell_other _ _ _ _ (by intro h; cases h; exact hg rfl)]; exact hx
  exact ⟨e 0 _ h.c0, e 1 _ h.c1, e 2 _ h.c2, e 3 _ h.c3, e 4 _ h.c4⟩
theorem Bxs.made (w : World) (vo vt vf : Value) (N : Mc) : Bxs (w.alloc (.cells #[vo, vt, vf, .int .i64 N.start, .int .i64 N.fin] 26)) w.heap.size vo vt vf N := by
  have hh := World.alloc_heap_new w (.cells #[vo, vt, vf, .int .i64 N.start, .int .i64 N.fin] 26)
  exact ⟨by rw [Lib.cell_of_heap hh]; rfl, by rw [Lib.cell_of_heap hh]; rfl, by rw [Lib.cell_of_heap hh]; rfl, by rw [Lib.cell_of_heap hh]; rfl, by rw [Lib.cell_of_heap hh]; rfl⟩
theorem Blw.put {W : World} {g n p : Nat} {L : Nat → Bool} (h : Blw W g n L) (hp : p < n) (x : Bool) : Blw (W.setCell ⟨g, p, none⟩ (.bool x)) g n (fun t => if t = p then x else L t) := by
  refine ⟨⟨fun i hi => ?_⟩, fun i => by rw [World.frozen?_setCell]; exact h.fr i, by simpa using h.lt⟩
  by_cases e : i = p
  · subst e
    rw [if_pos rfl]
    exact World.cell?_setCell_same' _ _ _ (by rw [h.row.c i hp]; rfl)
  · rw [if_neg e, World.cell?_setCell_other _ _ _ _ (by intro h; cases h; exact e rfl)]
    exact h.row.c i hi
theorem Blw.up {W W' : World} {g n : Nat} {L : Nat → Bool} (h : Blw W g n L) (hb : Below W.heap.size W W') : Blw W' g n L :=
  ⟨h.row.mono hb, fun i => by rw [hb.frozen (p := ⟨g, i, none⟩) h.lt]; exact h.fr i, Nat.lt_of_lt_of_le h.lt hb.size⟩
theorem Blw.same {W : World} {g n : Nat} {L L' : Nat → Bool} (h : Blw W g n L) (e : ∀ i, i < n → L i = L' i) : Blw W g n L' := ⟨⟨fun i hi => by rw [← e i hi]; exact h.row.c i hi⟩, h.fr, h.lt⟩
theorem below_set {B : Nat} {w W : World} {g i : Nat} (h : Below B w W) (hg : B ≤ g) (v : Value) : Below B w (W.setCell ⟨g, i, none⟩ v) := h.setCell hg _
end Go.Proofs.Ytkjljnneghnpiaa
