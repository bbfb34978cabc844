import Derived.Test.YticheeacbajeeaaPby
namespace Go.Proofs.Yticheeacbajeeaa
open Go.RowKit Go.Maps

/-- The symbols around a place. -/
def opn (l : List Int) (S : Nat → Bool) (a : Nat) : List Nat := (List.range a).filter (fun b => S b && decide (a < eA l b))
theorem opn_zero (l : List Int) (S : Nat → Bool) : opn l S 0 = [] := rfl
theorem opn_succ (l : List Int) (S : Nat → Bool) (a : Nat) : opn l S (a + 1) = (opn l S a ++ (if S a then [a] else [])).filter (fun b => decide (a + 1 < eA l b)) := by
  unfold opn
  rw [List.range_succ, List.filter_append, List.filter_append, List.filter_filter]
  congr 1
  · apply List.filter_congr
    intro b _
    cases S b
    · simp
    · by_cases h : a + 1 < eA l b
      · have h2 : a < eA l b := by omega
        simp [h, h2]
      · simp [h]
  · cases hS : S a
    · simp [hS]
    · simp only [if_true, List.filter_cons, List.filter_nil, hS, Bool.true_and]
theorem opn_mem {l : List Int} {S : Nat → Bool} {a b : Nat} (h : b ∈ opn l S a) : b < a ∧ S b = true ∧ a < eA l b := by
  unfold opn at h
  rw [List.mem_filter, List.mem_range, Bool.and_eq_true, decide_eq_true_eq] at h
  exact ⟨h.1, h.2.1, h.2.2⟩
theorem eA_lam {l : List Int} (h : Fo l) {a b : Nat} (ha : a < l.length) (hb : a ≤ b) (hl : b < eA l a) : eA l b ≤ eA l a := h.lam a 1 b (h.pos a ha) hb hl
/-- The ends of those that are open fall. -/
theorem opn_fall {l : List Int} (h : Fo l) (S : Nat → Bool) (a : Nat) (ha : a ≤ l.length) : (opn l S a).Pairwise (fun b c => eA l c ≤ eA l b) := by
  have h1 : (opn l S a).Pairwise (· < ·) := (List.pairwise_lt_range (n := a)).filter _
  have h2 : ∀ b ∈ opn l S a, b < a ∧ a < eA l b := fun b hb => ⟨(opn_mem hb).1, (opn_mem hb).2.2⟩
  revert h1 h2
  generalize opn l S a = L
  intro h1 h2
  induction h1 with
  | nil => exact .nil
  | @cons b L hb hL ih =>
    refine .cons (fun c hc => ?_) (ih (fun x hx => h2 x (List.mem_cons_of_mem _ hx)))
    have k1 := h2 b (List.mem_cons_self ..)
    have k2 := h2 c (List.mem_cons_of_mem _ hc)
    exact eA_lam h (by omega) (Nat.le_of_lt (hb c hc)) (by omega)
theorem opn_app_fall {l : List Int} (h : Fo l) (S : Nat → Bool) (a : Nat) (ha : a < l.length) : (opn l S a ++ (if S a then [a] else [])).Pairwise (fun b c => eA l c ≤ eA l b) := by
  rw [List.pairwise_append]
  refine ⟨opn_fall h S a (by omega), by cases S a <;> simp, fun b hb c hc => ?_⟩
  cases hS : S a with
  | false => rw [hS] at hc; cases hc
  | true =>
    rw [hS] at hc
    simp only [if_true, List.mem_singleton] at hc
    subst hc
    have k := opn_mem hb
    exact eA_lam h (by omega) (by omega) k.2.2
/-- Popped from the end: what is left. -/
theorem pop_done {L : List Nat} {f : Nat → Nat} {a : Nat} (hp : L.Pairwise (fun b c => f c ≤ f b)) (k : Nat) (hk : k ≤ L.length) (hr : ∀ j, k ≤ j → j < L.length → f (L.getD j 0) ≤ a) (hl : k = 0 ∨ a < f (L.getD (k - 1) 0)) : L.filter (fun b => decide (a < f b)) = L.take k := by
  have h1 : L = L.take k ++ L.drop k := (List.take_append_drop k L).symm
  have h2 : (L.take k).filter (fun b => decide (a < f b)) = L.take k := by
    rw [List.filter_eq_self]
    intro x hx
    rw [decide_eq_true_eq]
    obtain ⟨i, hi, rfl⟩ := List.mem_iff_getElem.1 hx
    rw [List.length_take] at hi
    rw [List.getElem_take]
    rcases hl with h0 | hl
    · omega
    · have e : L.getD (k - 1) 0 = L[k - 1] := by rw [List.getD_eq_getElem?_getD, List.getElem?_eq_getElem (by omega)]; rfl
      rw [e] at hl
      by_cases hik : i = k - 1
      · subst hik; exact hl
      · have := (List.pairwise_iff_getElem.1 hp) i (k - 1) (by omega) (by omega) (by omega)
        omega
  have h3 : (L.drop k).filter (fun b => decide (a < f b)) = [] := by
    rw [List.filter_eq_nil_iff]
    intro x hx
    rw [decide_eq_true_eq]
    obtain ⟨i, hi, rfl⟩ := List.mem_iff_getElem.1 hx
    rw [List.length_drop] at hi
    rw [List.getElem_drop]
    have := hr (k + i) (by omega) (by omega)
    have e : L.getD (k + i) 0 = L[k + i] := by rw [List.getD_eq_getElem?_getD, List.getElem?_eq_getElem (by omega)]; rfl
    rw [e] at this
    omega
  conv => lhs; rw [h1]
  rw [List.filter_append, h2, h3, List.append_nil]
/-- By the parent. -/
theorem opn_ch {l : List Int} (h : Fo l) (S : Nat → Bool) {q i c : Nat} (hc : Ch l q i c) : opn l S c = opn l S q ++ (if S q then [q] else []) := by
  obtain ⟨h1, h2, h3, h4, h5, h6⟩ := hc.in h
  obtain ⟨hq, hi, hw⟩ := hc
  have hs := h.step q hq
  have e : List.range c = List.range q ++ ([q] ++ (List.range (c - q - 1)).map (· + (q + 1))) := by
    rw [show c = q + ((c - q - 1) + 1) by omega, List.range_add]
    congr 1
    rw [List.range_succ_eq_map, List.map_cons, List.map_map]
    show _ :: _ = _ :: _
    rw [show q + (c - q - 1 + 1) - q - 1 = c - q - 1 by omega]
    congr 1
    apply List.map_congr_left
    intro x _
    show q + (x + 1) = x + (q + 1)
    omega
  unfold opn
  rw [e, List.filter_append, List.filter_append]
  congr 1
  · apply List.filter_congr
    intro b hb
    have hb := List.mem_range.1 hb
    have : (c < eA l b) ↔ (q < eA l b) := ⟨fun k => by omega, fun k => by have := eA_lam h (show b < l.length by omega) (Nat.le_of_lt hb) k; omega⟩
    rw [decide_eq_decide.2 this]
  · have k1 : (([q].filter (fun b => S b && decide (c < eA l b)))) = if S q then [q] else [] := by
      cases hS : S q <;> simp [hS, h4]
    have k2 : ((List.range (c - q - 1)).map (· + (q + 1))).filter (fun b => S b && decide (c < eA l b)) = [] := by
      rw [List.filter_eq_nil_iff]
      intro x hx
      obtain ⟨y, hy, rfl⟩ := List.mem_map.1 hx
      have hy := List.mem_range.1 hy
      have := h.lam (q + 1) i (y + (q + 1)) (by omega) (by omega) (by omega)
      rw [hw] at this
      simp only [Bool.and_eq_true, decide_eq_true_eq, not_and]
      intro _
      omega
    rw [k1, k2, List.append_nil]
theorem opn_ro {l : List Int} (h : Fo l) (S : Nat → Bool) {i c : Nat} (hc : Ro l i c) : opn l S c = [] := by
  unfold opn
  rw [List.filter_eq_nil_iff]
  intro b hb
  have hb := List.mem_range.1 hb
  have := h.lam 0 i b (by have := hc.1; omega) (by omega) (by rw [hc.2]; exact hb)
  rw [hc.2] at this
  simp only [Bool.and_eq_true, decide_eq_true_eq, not_and]
  intro _
  omega
/-- The first child with a field. -/
def kdf (t : List Nd) (a : Nat) (f : ByteArray) : Option Nat := ((List.range (kA (kds t) a)).map (fun j => wA (kds t) (a + 1) j)).find? (fun c => decide ((t.getD c ndd).fd = f))
theorem find_first {α : Type} (g : Nat → α) (q : α → Bool) : ∀ n j, j < n → q (g j) = true → (∀ i, i < j → q (g i) = false) → ((List.range n).map g).find? q = some (g j) := by
  intro n j hj hq hn
  rw [show n = j + (n - j - 1 + 1) by omega, List.range_add, List.map_append, List.find?_append]
  have h1 : ((List.range j).map g).find? q = none := by
    rw [List.find?_eq_none]
    intro x hx
    obtain ⟨y, hy, rfl⟩ := List.mem_map.1 hx
    rw [hn y (List.mem_range.1 hy)]
    simp
  rw [h1, List.range_succ_eq_map, List.map_cons, List.map_cons, List.find?_cons_of_pos (by simpa using hq)]
  rfl
theorem kdf_hit {t : List Nd} {a : Nat} {f : ByteArray} (j : Nat) (hj : j < kA (kds t) a) (hq : (t.getD (wA (kds t) (a + 1) j) ndd).fd = f) (hn : ∀ i, i < j → (t.getD (wA (kds t) (a + 1) i) ndd).fd ≠ f) : kdf t a f = some (wA (kds t) (a + 1) j) :=
  find_first (fun j => wA (kds t) (a + 1) j) _ _ j hj (by simpa using hq) (fun i hi => by simpa using hn i hi)
theorem kdf_none {t : List Nd} {a : Nat} {f : ByteArray} (hn : ∀ i, i < kA (kds t) a → (t.getD (wA (kds t) (a + 1) i) ndd).fd ≠ f) : kdf t a f = none := by
  unfold kdf
  rw [List.find?_eq_none]
  intro x hx
  obtain ⟨y, hy, rfl⟩ := List.mem_map.1 hx
  simpa using hn y (List.mem_range.1 hy)
theorem kdf_lt {t : List Nd} (hF : Fo (kds t)) {a c : Nat} {f : ByteArray} (ha : a < t.length) (h : kdf t a f = some c) : a < c ∧ c < t.length := by
  unfold kdf at h
  have h1 := List.mem_of_find?_eq_some h
  obtain ⟨y, hy, rfl⟩ := List.mem_map.1 h1
  have hy := List.mem_range.1 hy
  have := (Ch.in hF (show Ch (kds t) a y _ from ⟨by rw [kds_len]; exact ha, hy, rfl⟩))
  rw [kds_len] at this
  exact ⟨this.1, this.2.1⟩
/-- The child that says what a node is called. -/
def cal (M : List Pa) (t : List Nd) (a : Nat) : Option Nat := if (t.getD a ndd).nd then match fs M (t.getD a ndd).nm with
  | some k => kdf t a (M.getD k paz).cl
  | none => none
  else none
def isS (M : List Pa) (t : List Nd) (a : Nat) : Bool := (cal M t a).isSome
theorem cal_lt {M : List Pa} {t : List Nd} (hF : Fo (kds t)) {a c : Nat} (ha : a < t.length) (h : cal M t a = some c) : a < c ∧ c < t.length := by
  unfold cal at h
  split at h
  · split at h
    · exact kdf_lt hF ha h
    · cases h
  · cases h
/-- A symbol. -/
structure Sy where
  nm : ByteArray
  cl : ByteArray
  fr : Int
  tt : Int
  dp : Int
def sy1 (M : List Pa) (t : List Nd) (s : ByteArray) (a : Nat) : List Sy := match cal M t a with
  | some c => [⟨(t.getD a ndd).nm, s.extract (t.getD c ndd).fr.toNat (t.getD c ndd).tt.toNat, (t.getD a ndd).fr, (t.getD a ndd).tt, ((opn (kds t) (isS M t) a).length : Int)⟩]
  | none => []
def sys (M : List Pa) (t : List Nd) (s : ByteArray) (n : Nat) : List Sy := (List.range n).flatMap (sy1 M t s)
theorem sys_succ (M : List Pa) (t : List Nd) (s : ByteArray) (n : Nat) : sys M t s (n + 1) = sys M t s n ++ sy1 M t s n := by
  unfold sys
  rw [List.range_succ, List.flatMap_append]
  simp
theorem sys_len (M : List Pa) (t : List Nd) (s : ByteArray) : ∀ n, (sys M t s n).length ≤ n
  | 0 => Nat.le_refl _
  | n + 1 => by
    rw [sys_succ, List.length_append]
    have := sys_len M t s n
    have h1 : (sy1 M t s n).length ≤ 1 := by unfold sy1; split <;> simp
    omega
end Go.Proofs.Yticheeacbajeeaa
