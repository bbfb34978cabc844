import Derived.Test.YtgdmoeocgflhgaaDoorDae
import Derived.Test.YtgdmoeocgflhgaaDoorTbo
namespace Go.Proofs.YtgdmoeocgflhgaaDoor
open Go.RowKit Go.Maps

theorem own_fr {W W' : World} {B n s r : Nat} {e : TypeId} {v : Value} {xs : List Value} {cs : Array Value} (h : W.ownsRow B e s v n xs) (hf : Fr W W' r) (hr : W.heap[r]? = some (.cells cs 61 (0, 0))) (he : e ≠ 61) : W'.ownsRow B e s v n xs := h.kept hf (.inr (tag_ne_blk h hr he))
theorem own_off {W : World} {B n s b k : Nat} {e : TypeId} {v u : Value} {xs : List Value} (h : W.ownsRow B e s v n xs) (hne : v.ownBlock ≠ some b) : (W.setCell ⟨b, k, none⟩ u).ownsRow B e s v n xs := h.kept grown_set (.inr hne)
theorem own_new {w : World} {B n s : Nat} {e : TypeId} {A : Array Value} (hB : B ≤ w.heap.size) (hs : A.size = n * s) (hn : n ≤ maxLen) : (w.alloc (.cells A e)).ownsRow B e s (.slice (some ⟨w.heap.size, 0, none⟩) n n) n A.toList :=
  ⟨by rw [Array.length_toList, hs], Or.inr ⟨w.heap.size, n, A, rfl, hB, heap_new _ _, Nat.le_refl _, hn, hs, by rw [List.take_of_length_le (by rw [Array.length_toList, hs]; exact Nat.le_refl _)]⟩⟩
/-- Rows of rows that are being made: so many are whole. -/
structure Mk {α : Type} (f : α → List Value) (e : TypeId) (s : Nat) (eo : TypeId) (B : Nat) (W : World) (O n i : Nat) (L : List (Value × List α)) : Prop where
  t : ∃ xs, W.ownsRow B eo 1 (.slice (some ⟨O, 0, none⟩) n n) n xs ∧ xs.take i = L.map Prod.fst
  l : L.length = i
  r : ∀ x ∈ L, W.ownsRow B e s x.1 x.2.length (flat f x.2)
section
variable {α : Type} {f : α → List Value} {e : TypeId} {s : Nat} {eo : TypeId} {B : Nat} {W W' : World} {O n i : Nat} {L : List (Value × List α)}
theorem Mk.fr {r : Nat} {cs : Array Value} (h : Mk f e s eo B W O n i L) (hf : Fr W W' r) (hr : W.heap[r]? = some (.cells cs 61 (0, 0))) (h1 : e ≠ 61) (h2 : eo ≠ 61) : Mk f e s eo B W' O n i L := by
  obtain ⟨xs, a, b⟩ := h.t
  exact ⟨⟨xs, own_fr a hf hr h2, b⟩, h.l, fun x hx => own_fr (h.r x hx) hf hr h1⟩
theorem Mk.up (h : Mk f e s eo B W O n i L) (hb : Below W.heap.size W W') : Mk f e s eo B W' O n i L := by
  obtain ⟨xs, a, b⟩ := h.t
  exact ⟨⟨xs, row_up a hb, b⟩, h.l, fun x hx => row_up (h.r x hx) hb⟩
theorem Mk.off {b k : Nat} {u : Value} (h : Mk f e s eo B W O n i L) (hO : O ≠ b) (hL : ∀ x ∈ L, x.1.ownBlock ≠ some b) : Mk f e s eo B (W.setCell ⟨b, k, none⟩ u) O n i L := by
  obtain ⟨xs, a, c⟩ := h.t
  exact ⟨⟨xs, own_off a (fun q => hO (Option.some.inj q)), c⟩, h.l, fun x hx => own_off (h.r x hx) (hL x hx)⟩
/-- The next row's slice is stored. -/
theorem Mk.put {v : Value} (h : Mk f e s eo B W O n i L) (hi : i < n) (hne : e ≠ eo) : ∃ xs, (W.setCell ⟨O, i, none⟩ v).ownsRow B eo 1 (.slice (some ⟨O, 0, none⟩) n n) n xs ∧ xs.take i = L.map Prod.fst ∧ xs[i]? = some v ∧ (∀ x ∈ L, (W.setCell ⟨O, i, none⟩ v).ownsRow B e s x.1 x.2.length (flat f x.2)) := by
  obtain ⟨xs, a, c⟩ := h.t
  refine ⟨xs.set i v, row_set a i v, by rw [List.take_set_of_le (Nat.le_refl _)]; exact c, List.getElem?_set_self (by rw [a.1, Nat.mul_one]; exact hi), fun x hx => own_off (h.r x hx) (fun q => ?_)⟩
  obtain ⟨-, cu, hcu⟩ := row_tag (h.r x hx) O q
  obtain ⟨-, cv, hcv⟩ := row_tag a O rfl
  rw [hcu] at hcv
  cases hcv
  exact hne rfl
theorem Mk.cell (h : Mk f e s eo B W O n i L) (hi : i < n) : (∃ old, W.cell? ⟨O, i, none⟩ = some old) ∧ W.frozen? ⟨O, i, none⟩ = false ∧ ∃ cur, W.heap[O]? = some (.cells cur eo (0, 0)) := by
  obtain ⟨xs, a, c⟩ := h.t
  obtain ⟨-, cur, hcur⟩ := row_tag a O rfl
  have hl : i < xs.length := by rw [a.1, Nat.mul_one]; exact hi
  exact ⟨⟨xs[i], row_at a i _ (List.getElem?_eq_getElem hl)⟩, Lib.frozen_of_heap hcur i, cur, hcur⟩
theorem Mk.offt {b k : Nat} {t : TypeId} {u : Value} {cs : Array Value} (h : Mk f e s eo B W O n i L) (hb : W.heap[b]? = some (.cells cs t (0, 0))) (h1 : e ≠ t) (h2 : eo ≠ t) : Mk f e s eo B (W.setCell ⟨b, k, none⟩ u) O n i L := by
  obtain ⟨xs, a, c⟩ := h.t
  exact ⟨⟨xs, (row_off hb a h2).1, c⟩, h.l, fun x hx => (row_off hb (h.r x hx) h1).1⟩
theorem Mk.nr (h : Mk f e s eo B W O n n L) (hs : 0 < s) : Nr f W (.slice (some ⟨O, 0, none⟩) n n) L := by
  obtain ⟨xs, a, c⟩ := h.t
  have hx : xs = L.map Prod.fst := by rw [← c, List.take_of_length_le (by rw [a.1]; omega)]
  refine ⟨?_, fun x hx => row_rw (h.r x hx) hs⟩
  have := row_rw a (by decide)
  rw [hx] at this
  rw [h.l]
  exact this
end
theorem take_two (ys : List Value) (j : Nat) (x : Ak) (l : List Ak) (h : ys.take (j * 2) = flat af l) (hy : j * 2 + 2 ≤ ys.length) : ((ys.set (j * 2) (.int .i64 x.1)).set (j * 2 + 1) (.int .i64 x.2)).take ((j + 1) * 2) = flat af (l ++ [x]) := by
  have e1 : ((ys.set (j * 2) (.int .i64 x.1)).set (j * 2 + 1) (.int .i64 x.2)).take ((j + 1) * 2) = ys.take (j * 2) ++ [.int .i64 x.1, .int .i64 x.2] := by
    rw [show (j + 1) * 2 = (j * 2 + 1) + 1 by omega, List.take_succ_eq_append_getElem (by simp; omega), List.take_succ_eq_append_getElem (by simp; omega)]
    simp only [List.getElem_set_self, List.getElem_set_ne (by omega : j * 2 + 1 ≠ j * 2)]
    rw [List.take_set_of_le (by omega), List.take_set_of_le (by omega)]
    simp
  rw [e1, h, flat_app]
  rfl
theorem take_one (ys : List Value) (j : Nat) (x : Int) (l : List Int) (h : ys.take j = flat gf l) (hy : j + 1 ≤ ys.length) : (ys.set j (.int .i64 x)).take (j + 1) = flat gf (l ++ [x]) := by
  have e1 : (ys.set j (.int .i64 x)).take (j + 1) = ys.take j ++ [.int .i64 x] := by
    rw [List.take_succ_eq_append_getElem (by simp; omega)]
    simp only [List.getElem_set_self]
    rw [List.take_set_of_le (by omega)]
  rw [e1, h, flat_app]
  rfl
/-- What reading rows answers. -/
def Rr {α : Type} (f : α → List Value) (t : TypeId) (z : Nat) (o : TypeId) (r : Nat) (s : ByteArray) (sa : Addr) (x : Except Nat (List (List α) × Nat)) (e : Ending) (w' : World) : Prop := match x with
  | .ok (T, q) => ∃ O n B L, e = .returned (.tuple #[.slice (some ⟨O, 0, none⟩) n n, .nilIface]) ∧ Mk f t z o B w' O n n L ∧ L.map Prod.snd = T ∧ Rd w' r s q ∧ q ≤ s.size
  | .error b => ∃ ev q, e = .returned (.tuple #[.slice none 0 0, ev]) ∧ Er w' sa ev b ∧ Rd w' r s q ∧ q ≤ s.size
end Go.Proofs.YtgdmoeocgflhgaaDoor
