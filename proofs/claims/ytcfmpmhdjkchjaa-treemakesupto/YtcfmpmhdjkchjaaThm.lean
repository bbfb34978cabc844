import Derived.Test.YtcfmpmhdjkchjaaThl
import Derived.Test.YtcfmpmhdjkchjaaThd
namespace Go.Proofs.Ytcfmpmhdjkchjaa
open Go.RowKit Go.Maps

/-- No two of the lists share a block. -/
def Kd (L : List (Value × List Nd)) : Prop := ∀ i j, i < L.length → j < L.length → i ≠ j → (L.getD i krd).1.ownBlock ≠ (L.getD j krd).1.ownBlock
theorem Rmy.kept {B : Nat} {W W' : World} {v : Value} {t : List Nd} {row : Option Nat} (h : Rmy B W v t) (hg : W.grownBy W' row) (hne : v.ownBlock ≠ row) : Rmy B W' v t := by
  obtain ⟨g, cap, rfl, h1, h2⟩ := h
  exact ⟨g, cap, rfl, h1, h2.kept hg (.inr hne)⟩
theorem Rmy.blk {B : Nat} {W : World} {v : Value} {t : List Nd} (h : Rmy B W v t) : ∃ g cur, v.ownBlock = some g ∧ B ≤ g ∧ W.heap[g]? = some (.cells cur 33 (0, 0)) := by
  obtain ⟨g, cap, rfl, h1, h2⟩ := h
  obtain ⟨h3, cur, h4⟩ := row_tag h2 g rfl
  exact ⟨g, cur, rfl, h3, h4⟩
theorem Rmy.base {B B' : Nat} {W : World} {v : Value} {t : List Nd} (h : Rmy B W v t) (hb : B' ≤ B) : Rmy B' W v t := by
  obtain ⟨g, cap, rfl, h1, h2⟩ := h
  exact ⟨g, cap, rfl, h1, row_base h2 hb⟩
theorem Rmy.put {B : Nat} {W : World} {g n cap : Nat} {t : List Nd} (h : Rmy B W (.slice (some ⟨g, 0, none⟩) n cap) t) {j c : Nat} (hj : j < t.length) (hc : c < 7) (u : Value) (y : Nd) (hy : nf y = (nf (t.getD j ndd)).set c u) :
    Rmy B (W.setCell ⟨g, j * 7 + c, none⟩ u) (.slice (some ⟨g, 0, none⟩) n cap) (t.set j y) := by
  obtain ⟨g', cap', e, h1, h2⟩ := h
  cases e
  refine ⟨g, cap, by rw [List.length_set], by rw [List.length_set]; exact h1, ?_⟩
  have h3 := row_set h2 (j * 7 + c) u
  rw [flat_setg nf_len ndd c hc u y (t ++ [m71, m72]) j (by rw [List.length_append]; omega) (by rw [hy, List.getD_eq_getElem?_getD, List.getD_eq_getElem?_getD, List.getElem?_append_left hj]), List.set_append_left _ _ hj] at h3
  rw [List.length_set]
  exact h3
theorem set_fst (L : List (Value × List Nd)) (i : Nat) (s : List Nd) (hi : i < L.length) : (L.set i ((L.getD i krd).1, s)).map Prod.fst = L.map Prod.fst := by
  rw [List.map_set]
  apply List.ext_getElem?
  intro k
  rw [List.getElem?_set]
  split
  · next h =>
    subst h
    rw [List.length_map, if_pos hi, fst_get L i hi]
  · rfl
theorem setk_getD (L : List (Value × List Nd)) (i k : Nat) (y : Value × List Nd) (hi : i < L.length) : (L.set i y).getD k krd = if i = k then y else L.getD k krd := by
  rw [List.getD_eq_getElem?_getD, List.getElem?_set, List.getD_eq_getElem?_getD]
  by_cases h : i = k
  · subst h; rw [if_pos rfl, if_pos rfl, if_pos hi]; rfl
  · rw [if_neg h, if_neg h]
theorem Kmy.put {B : Nat} {W : World} {v : Value} {L : List (Value × List Nd)} (h : Kmy B W v L) (hd : Kd L) {i g n cap : Nat} {t : List Nd} (hi : i < L.length) (he : (L.getD i krd).1 = .slice (some ⟨g, 0, none⟩) n cap) (ht : (L.getD i krd).2 = t) {j c : Nat} (hj : j < t.length) (hc : c < 7) (u : Value) (y : Nd) (hy : nf y = (nf (t.getD j ndd)).set c u) :
    Kmy B (W.setCell ⟨g, j * 7 + c, none⟩ u) v (L.set i ((L.getD i krd).1, t.set j y)) ∧ Kd (L.set i ((L.getD i krd).1, t.set j y)) := by
  obtain ⟨kg, kc, rfl, h1, h2, h3⟩ := h
  have hr := h3 _ (getD_mem L krd i hi)
  rw [ht, he] at hr
  refine ⟨⟨kg, kc, by rw [List.length_set], by rw [List.length_set]; exact h1, ?_, fun x hx => ?_⟩, fun a b ha hb hab => ?_⟩
  · rw [List.length_set, set_fst L i _ hi]
    obtain ⟨g', cur, e1, -, e2⟩ := hr.blk
    cases e1
    exact h2.kept grown_set (.inr (tag_ne_blk h2 e2 (by decide)))
  · obtain ⟨k, hk, hx⟩ := List.mem_iff_getElem.1 hx
    have hk' : k < L.length := by rw [List.length_set] at hk; exact hk
    have e : x = (L.set i ((L.getD i krd).1, t.set j y)).getD k krd := by rw [List.getD_eq_getElem?_getD, List.getElem?_eq_getElem hk, ← hx]; rfl
    rw [setk_getD L i k _ hi] at e
    by_cases hik : i = k
    · rw [if_pos hik] at e
      rw [e]
      rw [he]
      exact hr.put hj hc u y hy
    · rw [if_neg hik] at e
      rw [e]
      refine (h3 _ (getD_mem L krd k hk')).kept grown_set ?_
      have h7 := hd k i hk' hi (fun e => hik e.symm)
      rw [he] at h7
      exact h7
  · rw [List.length_set] at ha hb
    rw [setk_getD L i a _ hi, setk_getD L i b _ hi]
    have h7 := hd a b ha hb hab
    by_cases h8 : i = a
    · rw [if_pos h8, if_neg (by omega), h8]; exact h7
    · rw [if_neg h8]
      by_cases h9 : i = b
      · rw [if_pos h9, h9]; exact h7
      · rw [if_neg h9]; exact h7
/-- The same lists but for what the nodes bear. -/
theorem set_lens (L : List (Value × List Nd)) (i : Nat) (v : Value) (s : List Nd) (hi : i < L.length) (hs : s.length = (L.getD i krd).2.length) : (L.set i (v, s)).map (fun x => x.2.length) = L.map (fun x => x.2.length) := by
  rw [List.map_set]
  apply List.ext_getElem?
  intro k
  rw [List.getElem?_set]
  split
  · next h =>
    subst h
    rw [List.length_map, if_pos hi, List.getElem?_map, List.getElem?_eq_getElem hi]
    show some s.length = some _
    rw [hs, List.getD_eq_getElem?_getD, List.getElem?_eq_getElem hi]
    rfl
  · rfl
theorem rom_lens : ∀ (L M : List (Value × List Nd)), L.map (fun x => x.2.length) = M.map (fun x => x.2.length) → rom (L.map Prod.snd) = rom (M.map Prod.snd)
  | [], [], _ => rfl
  | [], _ :: _, h => by cases h
  | _ :: _, [], h => by cases h
  | x :: L, y :: M, h => by
    injection h with h1 h2
    have h3 : x.2.length = y.2.length := h1
    show rom (L.map Prod.snd) + (x.2.length + 1) = rom (M.map Prod.snd) + (y.2.length + 1)
    rw [rom_lens L M h2, h3]
theorem len_lens {L M : List (Value × List Nd)} (h : L.map (fun x => x.2.length) = M.map (fun x => x.2.length)) : L.length = M.length := by
  have h7 := congrArg List.length h; rw [List.length_map, List.length_map] at h7; exact h7
theorem max_lens {L M : List (Value × List Nd)} {b : Nat} (h : L.map (fun x => x.2.length) = M.map (fun x => x.2.length)) (hm : ∀ x ∈ M, x.2.length ≤ b) : ∀ x ∈ L, x.2.length ≤ b := fun x hx => by
  have h1 : x.2.length ∈ L.map (fun x => x.2.length) := List.mem_map.2 ⟨x, hx, rfl⟩
  rw [h] at h1
  obtain ⟨y, hy, e⟩ := List.mem_map.1 h1
  rw [← e]; exact hm y hy
end Go.Proofs.Ytcfmpmhdjkchjaa
