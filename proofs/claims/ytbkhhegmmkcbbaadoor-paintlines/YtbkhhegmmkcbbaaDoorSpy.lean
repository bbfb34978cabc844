import Derived.Test.YtbkhhegmmkcbbaaDoorSpx
namespace Go.Proofs.YtbkhhegmmkcbbaaDoor
open Go.RowKit Go.Maps

theorem cz_out {C : ByteArray → Option ByteArray} {T : List Nd} (hI : ∀ n ∈ T, inI n.fr ∧ inI n.tt ∧ inI n.kd) {z : Int} (h : cz C T z ≠ ⟨#[]⟩) : 0 ≤ z ∧ z < 9223372036854775807 := by
  unfold cz at h
  by_cases h0 : z < 0
  · rw [if_pos h0] at h; exact absurd rfl h
  · rw [if_neg h0] at h
    by_cases h9 : z < 9223372036854775807
    · exact ⟨by omega, h9⟩
    · rw [pat_no fun n hn => by
          obtain ⟨-, ⟨-, k⟩, -⟩ := hI n hn
          unfold cvr
          rw [decide_eq_false (p := z < n.tt) (by omega), Bool.and_false]] at h
      exact absurd rfl h
theorem sn_mem {S : List Sn} {i : Nat} (h : i < S.length) : S.getD i snz ∈ S := mem_getD S snz i h
theorem Can.pair {f : Int → ByteArray} {S : List Sn} (h : Can f S) {i j : Nat} (hij : i < j) (hj : j < S.length) : (S.getD i snz).tt ≤ (S.getD j snz).fr ∧ ((S.getD i snz).tt = (S.getD j snz).fr → (S.getD i snz).cl ≠ (S.getD j snz).cl) := by
  rw [List.getD_eq_getElem?_getD, List.getD_eq_getElem?_getD, List.getElem?_eq_getElem hj, List.getElem?_eq_getElem (by omega : i < S.length)]
  exact List.pairwise_iff_getElem.1 h.two i j (by omega) hj hij
theorem Can.ne_end {f : Int → ByteArray} {S : List Sn} (h : Can f S) {i : Nat} (hi : i < S.length) : f (S.getD i snz).tt ≠ (S.getD i snz).cl := fun e => by
  have h1 := h.one _ (sn_mem hi)
  obtain ⟨u, hu, u1, u2⟩ := h.all (S.getD i snz).tt (by rw [e]; exact h1.2)
  have h2 := h.hit u hu _ u1 u2
  obtain ⟨j, hj, rfl⟩ := List.getElem_of_mem hu
  have ej : S.getD j snz = S[j] := by rw [List.getD_eq_getElem?_getD, List.getElem?_eq_getElem hj]; rfl
  rw [← ej] at u1 u2 h2
  rcases Nat.lt_trichotomy i j with k | k | k
  · have := h.pair k hj
    exact this.2 (by omega) (by rw [← e, h2])
  · subst k; omega
  · have := h.pair k hi; omega
theorem Can.ne_beg {f : Int → ByteArray} {S : List Sn} (h : Can f S) {i : Nat} (hi : i < S.length) : f ((S.getD i snz).fr - 1) ≠ (S.getD i snz).cl := fun e => by
  have h1 := h.one _ (sn_mem hi)
  obtain ⟨u, hu, u1, u2⟩ := h.all ((S.getD i snz).fr - 1) (by rw [e]; exact h1.2)
  have h2 := h.hit u hu _ u1 u2
  obtain ⟨j, hj, rfl⟩ := List.getElem_of_mem hu
  have ej : S.getD j snz = S[j] := by rw [List.getD_eq_getElem?_getD, List.getElem?_eq_getElem hj]; rfl
  rw [← ej] at u1 u2 h2
  rcases Nat.lt_trichotomy i j with k | k | k
  · have := h.pair k hj; omega
  · subst k; omega
  · have := h.pair k hi
    exact this.2 (by omega) (by rw [← h2, e])
/-- What PaintTiles asks of a span. -/
theorem Can.til {f : Int → ByteArray} {S : List Sn} (h : Can f S) (ho : ∀ z, f z ≠ ⟨#[]⟩ → 0 ≤ z ∧ z < 9223372036854775807) {i : Nat} (hi : i < S.length) (m : Int) (hm : (S.getD i snz).fr ≤ m ∧ (m < (S.getD i snz).tt ∨ ¬((S.getD i snz).fr < (S.getD i snz).tt))) : 0 ≤ (S.getD i snz).fr ∧ (S.getD i snz).fr < (S.getD i snz).tt ∧ (S.getD i snz).tt ≤ 9223372036854775807 ∧ f (S.getD i snz).fr = (S.getD i snz).cl ∧ f m = (S.getD i snz).cl ∧ f ((S.getD i snz).tt - 1) = (S.getD i snz).cl := by
  have hm' := sn_mem hi
  have h1 := h.one _ hm'
  have a1 := h.hit _ hm' _ (Int.le_refl _) h1.1
  have a2 := h.hit _ hm' m hm.1 (by omega)
  have a3 := h.hit _ hm' ((S.getD i snz).tt - 1) (by omega) (by omega)
  have b1 := ho _ (by rw [a1]; exact h1.2)
  have b3 := ho _ (by rw [a3]; exact h1.2)
  exact ⟨by omega, h1.1, by omega, a1, a2, a3⟩
theorem cl_ne {c d : ByteArray} (h : c ≠ d) : (c.toList == d.toList) = false := by rw [str_eq, decide_eq_false h]
theorem emp_ne {c : ByteArray} (h : c ≠ ⟨#[]⟩) : c.toList.isEmpty = false := ne_emp (cl_ne h)
theorem spn_le (C : ByteArray → Option ByteArray) (T : List Nd) : (spn C T).length ≤ 2 * T.length := by
  unfold spn
  split
  · have h1 := spr_len (ars C T).1 (cts (ars C T).1) (cts (ars C T).1).length
    have h2 := cts_len (ars C T).1
    have h3 := ars_len C T
    have h4 := List.length_pos_iff.2 (ars_ne C T)
    omega
  · exact Nat.zero_le _
end Go.Proofs.YtbkhhegmmkcbbaaDoor
