import Derived.Test.YtbkhhegmmkcbbaaDoorSpu
namespace Go.Proofs.YtbkhhegmmkcbbaaDoor
open Go.RowKit Go.Maps

/-! Numbers of which some have been taken: a free one leads to itself. -/
structure Uf (l : List Nat) (K : Nat → Bool) (n : Nat) : Prop where
  len : l.length = n
  lo : ∀ i, i < n → i ≤ l.getD i 0
  hi : ∀ i, i < n → l.getD i 0 < n
  free : ∀ i, i < n → (K i = false ↔ l.getD i 0 = i)
  mid : ∀ i j, i < n → i ≤ j → j < l.getD i 0 → K j = true
theorem getD_set {l : List Nat} {i j x : Nat} (h : i < l.length) : (l.set i x).getD j 0 = if j = i then x else l.getD j 0 := by
  rw [List.getD_eq_getElem?_getD, List.getElem?_set]
  by_cases e : i = j
  · subst e; simp [h]
  · rw [if_neg e, if_neg (fun h => e h.symm), List.getD_eq_getElem?_getD]
theorem Uf.start (n : Nat) : Uf (List.range n) (fun _ => false) n := by
  have g : ∀ i, i < n → (List.range n).getD i 0 = i := fun i hi => by
    rw [List.getD_eq_getElem?_getD, List.getElem?_range hi]; rfl
  refine ⟨List.length_range, fun i hi => ?_, fun i hi => ?_, fun i hi => ?_, fun i j hi h1 h2 => ?_⟩
  · rw [g i hi]; exact Nat.le_refl _
  · rw [g i hi]; exact hi
  · rw [g i hi]; simp
  · rw [g i hi] at h2; omega
/-- A step over taken ones. -/
theorem Uf.half {l : List Nat} {K : Nat → Bool} {n a : Nat} (h : Uf l K n) (ha : a < n) (hne : l.getD a 0 ≠ a) : Uf (l.set a (l.getD (l.getD a 0) 0)) K n ∧ a < l.getD (l.getD a 0) 0 ∧ l.getD (l.getD a 0) 0 < n ∧ ∀ j, a ≤ j → j < l.getD (l.getD a 0) 0 → K j = true := by
  have a1 := h.lo a ha
  have a2 := h.hi a ha
  have a3 := h.lo _ a2
  have a4 := h.hi _ a2
  have key : ∀ j, a ≤ j → j < l.getD (l.getD a 0) 0 → K j = true := fun j h1 h2 => by
    by_cases e : j < l.getD a 0
    · exact h.mid a j ha h1 e
    · exact h.mid _ j a2 (by omega) h2
  have hl : a < l.length := by rw [h.len]; exact ha
  refine ⟨⟨by rw [List.length_set]; exact h.len, fun i hi => ?_, fun i hi => ?_, fun i hi => ?_, fun i j hi h1 h2 => ?_⟩, by omega, a4, key⟩
  · rw [getD_set hl]; split
    · omega
    · exact h.lo i hi
  · rw [getD_set hl]; split
    · omega
    · exact h.hi i hi
  · rw [getD_set hl]; split
    · next e =>
      subst e
      rw [h.free _ ha]
      constructor <;> intro h9 <;> omega
    · exact h.free i hi
  · rw [getD_set hl] at h2
    split at h2
    · next e => subst e; exact key j h1 h2
    · exact h.mid i j hi h1 h2
theorem Uf.take {l : List Nat} {K : Nat → Bool} {n a : Nat} (h : Uf l K n) (ha : a + 1 < n) : Uf (l.set a (a + 1)) (fun j => K j || decide (j = a)) n := by
  have hl : a < l.length := by rw [h.len]; omega
  refine ⟨by rw [List.length_set]; exact h.len, fun i hi => ?_, fun i hi => ?_, fun i hi => ?_, fun i j hi h1 h2 => ?_⟩
  · rw [getD_set hl]; split
    · omega
    · exact h.lo i hi
  · rw [getD_set hl]; split
    · omega
    · exact h.hi i hi
  · rw [getD_set hl]; split
    · next e => subst e; simp
    · next e =>
      rw [show (decide (i = a)) = false from decide_eq_false e, Bool.or_false]
      exact h.free i hi
  · rw [getD_set hl] at h2
    split at h2
    · next e =>
      subst e
      have : j = i := by omega
      subst this; simp
    · rw [h.mid i j hi h1 h2]; rfl
/-- The first free one from a place on. -/
def Fr (K : Nat → Bool) (a f : Nat) : Prop := a ≤ f ∧ K f = false ∧ ∀ j, a ≤ j → j < f → K j = true
theorem Fr.same {K : Nat → Bool} {a f g : Nat} (h : Fr K a f) (k : Fr K a g) : f = g := by
  rcases Nat.lt_trichotomy f g with h1 | h1 | h1
  · have := k.2.2 f h.1 h1; rw [h.2.1] at this; cases this
  · exact h1
  · have := h.2.2 g k.1 h1; rw [k.2.1] at this; cases this
/-! The classes of the cuts. -/
def inA (P : List Int) (c : Nat) (a : Ar) : Bool := decide (num P a.fr ≤ c ∧ c < num P a.tt)
def tkA (A : List Ar) (P : List Int) (c : Nat) : Bool := A.any (inA P c)
theorem fa_is (A : List Ar) (P : List Int) (c : Nat) : fa A P c = match A.find? (inA P c) with
  | some a => a.cl
  | none => ⟨#[]⟩ := rfl
/-- While an area's are told, up to a place. -/
def faw (A : List Ar) (P : List Int) (a : Ar) (t c : Nat) : ByteArray := match A.find? (inA P c) with
  | some b => b.cl
  | none => if inA P c a && decide (c < t) then a.cl else ⟨#[]⟩
def kaw (A : List Ar) (P : List Int) (a : Ar) (t c : Nat) : Bool := tkA A P c || (inA P c a && decide (c < t))
theorem find_tk {A : List Ar} {P : List Int} {c : Nat} : (A.find? (inA P c)).isSome = tkA A P c := by unfold tkA; rw [Bool.eq_iff_iff, List.find?_isSome, List.any_eq_true]
theorem find_no {A : List Ar} {P : List Int} {c : Nat} (h : tkA A P c = false) : A.find? (inA P c) = none := by
  rw [← find_tk] at h
  cases hq : A.find? (inA P c) with
  | none => rfl
  | some a => rw [hq] at h; cases h
theorem find_yes {A : List Ar} {P : List Int} {c : Nat} (h : tkA A P c = true) : ∃ b, A.find? (inA P c) = some b := by
  rw [← find_tk] at h
  cases hq : A.find? (inA P c) with
  | none => rw [hq] at h; cases h
  | some a => exact ⟨a, rfl⟩
theorem inA_iff {P : List Int} {c : Nat} {a : Ar} : inA P c a = true ↔ num P a.fr ≤ c ∧ c < num P a.tt := by unfold inA; rw [decide_eq_true_eq]
/-- At an area's start. -/
theorem faw_start {A : List Ar} {P : List Int} {a : Ar} {t : Nat} (h : Fr (tkA A P) (num P a.fr) t) (c : Nat) : faw A P a t c = fa A P c ∧ kaw A P a t c = tkA A P c := by
  rw [fa_is]
  unfold faw kaw
  by_cases hk : tkA A P c = true
  · obtain ⟨b, hb⟩ := find_yes hk
    rw [hb, hk]; exact ⟨rfl, rfl⟩
  · have hk' : tkA A P c = false := by simpa using hk
    rw [find_no hk', hk']
    have h2 : (inA P c a && decide (c < t)) = false := by
      rw [Bool.and_eq_false_iff]
      by_cases h3 : c < t
      · left
        by_cases h4 : inA P c a = true
        · exact absurd (h.2.2 c (inA_iff.1 h4).1 h3) hk
        · simpa using h4
      · right; exact decide_eq_false h3
    rw [h2]; exact ⟨rfl, rfl⟩
/-- At its end. -/
theorem faw_end {A : List Ar} {P : List Int} {a : Ar} {t : Nat} (h : num P a.tt ≤ t) (c : Nat) : faw A P a t c = fa (A ++ [a]) P c ∧ kaw A P a t c = tkA (A ++ [a]) P c := by
  rw [fa_is]
  unfold faw kaw
  have h2 : (inA P c a && decide (c < t)) = inA P c a := by
    by_cases h4 : inA P c a = true
    · rw [h4, Bool.true_and, decide_eq_true_eq]; have := (inA_iff.1 h4).2; omega
    · have : inA P c a = false := by simpa using h4
      rw [this]; rfl
  rw [h2]
  refine ⟨?_, by unfold tkA; rw [List.any_append]; simp⟩
  rw [List.find?_append]
  cases hq : A.find? (inA P c) with
  | some b => rfl
  | none =>
    cases hi : inA P c a with
    | true => simp [hi]
    | false => simp [hi]
/-- One is told. -/
theorem faw_step {A : List Ar} {P : List Int} {a : Ar} {t u : Nat} (ht : num P a.fr ≤ t) (he : t < num P a.tt) (hf : kaw A P a t t = false) (hu : Fr (fun j => kaw A P a t j || decide (j = t)) t u) (c : Nat) : faw A P a u c = (if c = t then a.cl else faw A P a t c) ∧ kaw A P a u c = (kaw A P a t c || decide (c = t)) := by
  have htu : t < u := by
    rcases Nat.lt_or_ge t u with h | h
    · exact h
    · have e : u = t := by have := hu.1; omega
      have := hu.2.1
      rw [e] at this
      simp at this
  have hft : tkA A P t = false := by unfold kaw at hf; rw [Bool.or_eq_false_iff] at hf; exact hf.1
  by_cases e : c = t
  · subst e
    rw [if_pos rfl]
    unfold faw kaw
    rw [find_no hft, hft, show inA P c a = true from inA_iff.2 ⟨ht, he⟩, decide_eq_true htu]
    exact ⟨rfl, by simp⟩
  · rw [if_neg e, decide_eq_false e, Bool.or_false]
    unfold faw kaw
    by_cases hk : tkA A P c = true
    · obtain ⟨b, hb⟩ := find_yes hk
      rw [hb, hk]; exact ⟨rfl, rfl⟩
    · have hk' : tkA A P c = false := by simpa using hk
      rw [find_no hk', hk']
      have h2 : (inA P c a && decide (c < u)) = (inA P c a && decide (c < t)) := by
        by_cases h3 : c < t
        · rw [decide_eq_true h3, decide_eq_true (show c < u by omega)]
        · rw [decide_eq_false h3, Bool.and_false]
          by_cases h4 : c < u
          · have h5 := hu.2.2 c (by omega) h4
            simp only [decide_eq_false e, Bool.or_false] at h5
            unfold kaw at h5
            rw [hk', decide_eq_false h3, Bool.and_false] at h5
            cases h5
          · rw [decide_eq_false h4, Bool.and_false]
      rw [h2]; exact ⟨rfl, rfl⟩
end Go.Proofs.YtbkhhegmmkcbbaaDoor
