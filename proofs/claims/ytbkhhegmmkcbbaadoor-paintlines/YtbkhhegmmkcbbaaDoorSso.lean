import Derived.Test.YtbkhhegmmkcbbaaDoorSao
import Derived.Test.YtbkhhegmmkcbbaaDoorSmi
import Derived.Test.YtbkhhegmmkcbbaaDoorSho
import Derived.Sort.OwnSortedInts
namespace Go.Proofs.YtbkhhegmmkcbbaaDoor
open Go.RowKit Go.Maps

/-- slices.Sort of numbers in a row of the call's own. -/
theorem sortI_any (B : Nat) (W : World) (v : Value) (m : Nat) (ss : List Int) (hm : ss.length = m) (hlt : m < 4611686018427387904) (h : W.ownsRow B 3 1 v m (iC ss)) :
    Calls Tryd.prog 21 #[v] W fun e w' => e = .returned (.tuple #[]) ∧ w'.ownsRow B 3 1 v m (iC (ss.mergeSort fun x y => decide (x ≤ y))) ∧ Below B W w' := by
  obtain ⟨a, c, rfl⟩ := row_shape h
  rcases Nat.eq_zero_or_pos m with h0 | h0
  · subst h0
    obtain rfl := List.eq_nil_of_length_eq_zero hm
    refine (Tryd.slices_Sort_int_none a c W).mono ?_
    rintro e w' ⟨rfl, rfl⟩
    exact ⟨rfl, by rw [List.mergeSort_nil]; exact h, Below.refl _ _⟩
  · rcases h.2 with ⟨h1, h2⟩ | ⟨g, cap, cur, h1, h2, h3, h4, h5, h6, h7⟩
    · omega
    · obtain ⟨rfl, -, rfl⟩ := Value.slice.inj h1
      have ht : cur.toList.take ss.length = ss.map (Value.int .i64) := by
        rw [hm, ← Nat.mul_one m]; exact h7
      have hc := Tryd.slices_Sort_int g 0 c ss W (holds_of_blockI h3 ht) (lt_of_heap h3) (by rw [hm]; exact hlt)
      rw [hm] at hc
      refine hc.mono ?_
      rintro e w' ⟨rfl, n, os, rfl⟩
      have h8 := ownsRow_sortedI (n := n) (os := os) (ts := ss.mergeSort fun x y => decide (x ≤ y)) (List.length_mergeSort _) h2 h3 (by rw [hm]; exact h4) h5 h6
      rw [hm] at h8
      exact ⟨rfl, h8, (Below.refl B W).grown (grownBy_sortedI _) (Nat.le_of_lt (Nat.lt_of_le_of_lt h2 (lt_of_heap h3))) (fun k hk => by cases hk; exact h2)⟩
/-- The places' numbers. -/
def fI (P : List Int) (f : Int → Option Nat) : Nat → (Int → Option Nat)
  | 0 => f
  | i + 1 => iput (fI P f i) (P.getD i 0) i
theorem fI_at {P : List Int} (hP : P.Nodup) (f : Int → Option Nat) : ∀ i, i ≤ P.length → ∀ j, j < i → fI P f i (P.getD j 0) = some j
  | 0, _, j, h => absurd h (Nat.not_lt_zero _)
  | i + 1, hi, j, hj => by
    unfold fI iput
    by_cases e : j = i
    · subst e; rw [if_pos rfl]
    · have hne : P.getD j 0 ≠ P.getD i 0 := fun h => by
        rw [List.getD_eq_getElem?_getD, List.getD_eq_getElem?_getD, List.getElem?_eq_getElem (by omega : j < P.length), List.getElem?_eq_getElem (by omega : i < P.length)] at h
        have h1 : P[j]'(by omega) = P[i]'(by omega) := h
        exact e ((List.getElem_inj hP).1 h1)
      rw [if_neg hne]
      exact fI_at hP f i (by omega) j (by omega)
theorem fI_some {P : List Int} (f : Int → Option Nat) {x : Int} (h : (f x).isSome = true) : ∀ i, (fI P f i x).isSome = true
  | 0 => h
  | i + 1 => by
    unfold fI iput
    split
    · rfl
    · exact fI_some f h i
theorem cts_nodup (A : List Ar) : (cts A).Nodup := by
  unfold cts
  exact (List.mergeSort_perm _ _).nodup_iff.2 (ddp_nodup _)
theorem cts_mem {A : List Ar} {x : Int} : x ∈ cts A ↔ x ∈ eds A := by
  unfold cts
  rw [List.mem_mergeSort, ddp_mem]
end Go.Proofs.YtbkhhegmmkcbbaaDoor
