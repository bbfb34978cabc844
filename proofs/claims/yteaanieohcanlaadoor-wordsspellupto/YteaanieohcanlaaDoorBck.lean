import Derived.Test.YteaanieohcanlaaDoorStd
import Derived.Test.YteaanieohcanlaaDoorAlk
namespace Go.Proofs.YteaanieohcanlaaDoor
open Go.RowKit Go.Maps

/-- A word as it is read: what its kind does not use is zero. -/
def nrm (x : Wd) : Wd := ⟨x.k, if x.k = 4 then [] else x.t, if x.k = 4 then x.n else 0, 0⟩
/-- What stands behind a word that is joined. -/
def Beh (r : List UInt8) : Prop := r = [] ∨ ∃ u, r = 32 :: u
theorem Beh.tw {r : List UInt8} (h : Beh r) (p : Int → Bool) (hp : p 32 = false) : tw p r = 0 := by
  rcases h with rfl | ⟨u, rfl⟩
  · rfl
  · show (if p (nI 32) then _ else _) = _
    rw [show nI 32 = 32 from rfl, hp]
    rfl
theorem rg_app : ∀ (l r : List UInt8) (c : Bool) (o n : Nat), rg c l o = some n → rg c (l ++ r) o = some n := by
  intro l r
  induction l with
  | nil => intro c o n e; cases c <;> simp [rg] at e
  | cons x t ih =>
    intro c o n e
    rw [List.cons_append]
    cases c
    · simp only [rg] at e ⊢
      split at e
      · rename_i h1; rw [if_pos h1]; exact e
      · rename_i h1
        rw [if_neg h1]
        split at e
        · cases e
        · rename_i h2
          rw [if_neg h2]
          split at e
          · rename_i h3; rw [if_pos h3]; exact ih _ _ _ e
          · rename_i h3; rw [if_neg h3]; exact ih _ _ _ e
    · simp only [rg] at e ⊢
      split at e
      · cases e
      · rename_i h1; rw [if_neg h1]; exact ih _ _ _ e
theorem dgt_hx : ∀ n : Fin 16, hxv (nI (dgt n.val)) = (n.val : Int) := by decide +kernel
theorem st_wrt (x : UInt8) (u : List UInt8) (o : Nat) (a : List UInt8) : st 0 0 (wrt x ++ u) o a = st 0 0 u (o + (wrt x).length) (a ++ [x]) := by
  unfold wrt
  split
  · rename_i h; subst h; rfl
  · split
    · rename_i h; subst h; rfl
    · split
      · rename_i h; subst h; rfl
      · split
        · rename_i h; subst h; rfl
        · split
          · rename_i h; subst h; rfl
          · rename_i h34 h92 h10 h9 h13
            split
            · have hx := UInt8.toNat_lt x
              have e1 := dgt_hx ⟨x.toNat / 16, by omega⟩
              have e2 := dgt_hx ⟨x.toNat % 16, by omega⟩
              simp only at e1 e2
              have n1 : ¬ (((x.toNat / 16 : Nat) : Int)) = -1 := by omega
              have n2 : ¬ (((x.toNat % 16 : Nat) : Int)) = -1 := by omega
              have b1 : nI 92 = 92 := rfl
              have b2 : nI 120 = 120 := rfl
              simp only [List.cons_append, List.nil_append, st, b1, b2, e1, e2, n1, n2, if_true, if_false]
              have e3 : ub (16 * ((x.toNat / 16 : Nat) : Int) + ((x.toNat % 16 : Nat) : Int)) = x := by
                unfold ub
                have : (16 * ((x.toNat / 16 : Nat) : Int) + ((x.toNat % 16 : Nat) : Int)).toNat = x.toNat := by omega
                rw [this]
                simp
              rw [if_neg (by decide), if_neg (by decide), e3]
              rfl
            · have m1 : ¬ nI x = 34 := fun e => h34 (nI_inj (y := 34) e)
              have m2 : ¬ nI x = 10 := fun e => h10 (nI_inj (y := 10) e)
              have m3 : ¬ nI x = 92 := fun e => h92 (nI_inj (y := 92) e)
              simp only [List.cons_append, List.nil_append, st, m1, m2, m3, if_false]
              rfl
theorem st_flat (t u : List UInt8) (o : Nat) (a : List UInt8) : st 0 0 (t.flatMap wrt ++ u) o a = st 0 0 u (o + (t.flatMap wrt).length) (a ++ t) := by
  induction t generalizing o a with
  | nil => simp
  | cons x t ih =>
    rw [List.flatMap_cons, List.append_assoc, st_wrt, ih, List.length_append, List.append_assoc, Nat.add_assoc]
    rfl
theorem dec_dig (u : Nat) : (∀ x ∈ Lib.decDigits u, isD (nI x) = true) ∧ 0 < (Lib.decDigits u).length := by
  induction u using Nat.strongRecOn with
  | ind u ih =>
    have hd : ∀ d, d < 10 → isD (nI (UInt8.ofNat (48 + d))) = true := by
      intro d hd
      have : nI (UInt8.ofNat (48 + d)) = ((48 + d : Nat) : Int) := by
        unfold nI
        simp
        omega
      rw [this]
      unfold isD
      simp
      omega
    rw [Lib.decDigits]
    split
    · rename_i h
      exact ⟨fun x hx => by rw [List.mem_singleton] at hx; rw [hx]; exact hd u h, by simp⟩
    · rename_i h
      have h1 := ih (u / 10) (by omega)
      refine ⟨fun x hx => ?_, by simp⟩
      rcases List.mem_append.1 hx with h2 | h2
      · exact h1.1 x h2
      · rw [List.mem_singleton] at h2; rw [h2]; exact hd _ (by omega)
theorem dec_val (u : Nat) (hu : u ≤ 65535) : nvf 0 (Lib.decDigits u) = (u : Int) := by
  induction u using Nat.strongRecOn with
  | ind u ih =>
    have hd : ∀ d, d < 10 → nI (UInt8.ofNat (48 + d)) = ((48 + d : Nat) : Int) := by
      intro d hd
      unfold nI
      simp
      omega
    rw [Lib.decDigits]
    split
    · rename_i h
      show min (10 * 0 + (nI (UInt8.ofNat (48 + u)) - 48)) 65536 = _
      rw [hd u h]
      omega
    · rename_i h
      rw [nvf_snoc, ih (u / 10) (by omega) (by omega), hd _ (by omega)]
      omega
theorem isS_out {b : Int} (h : isS b = true) : isL b = false ∧ isD b = false ∧ ¬ b = 34 ∧ ¬ b = 47 := by
  simp only [isS, Bool.or_eq_true, beq_iff_eq] at h
  rcases h with (((((((((((rfl | rfl) | rfl) | rfl) | rfl) | rfl) | rfl) | rfl) | rfl) | rfl) | rfl) | rfl) | rfl <;> exact ⟨by decide, by decide, by decide, by decide⟩
/-- What is spelt is read. -/
theorem lx_spl (x : Wd) (h : snd x = true) (r : List UInt8) (hr : Beh r) : lx (spl x ++ r) = .inr (nrm x, (spl x).length) := by
  obtain ⟨k, t, n, a⟩ := x
  have hs : spl ⟨k, t, n, a⟩ = if k = 4 then Lib.itoa n else if k = 3 then 47 :: (t ++ [47]) else if k = 2 then qt t else t := by
    unfold spl
    rw [if_neg (by rw [h]; decide)]
  rw [hs]
  unfold snd at h
  simp only at h
  unfold nrm
  simp only
  by_cases k1 : k = 1
  · subst k1
    rw [if_pos rfl] at h
    simp only [show ¬ (1 : Int) = 4 by decide, show ¬ (1 : Int) = 3 by decide, show ¬ (1 : Int) = 2 by decide, if_false]
    unfold snm at h
    simp only [Bool.and_eq_true, decide_eq_true_eq, Bool.not_eq_true'] at h
    obtain ⟨h0, h1, h2, h3⟩ := h
    rw [List.all_eq_true] at h3
    cases t with
    | nil => simp at h0
    | cons y t =>
      have h2' : isD (nI y) = false := h2
      have hL : isL (nI y) = true := by
        have := h3 y (by simp)
        unfold isN at this
        rw [h2', Bool.or_false] at this
        exact this
      have htw : tw isN ((y :: t) ++ r) = (y :: t).length := by rw [tw_app isN _ _ h3, hr.tw isN (by decide), Nat.add_zero]
      rw [List.cons_append] at htw ⊢
      simp only [lx, hL, if_true, htw]
      rw [if_neg (by omega), ← List.cons_append, List.take_left' rfl]
  · rw [if_neg k1] at h
    by_cases k2 : k = 2
    · subst k2
      simp only [show ¬ (2 : Int) = 4 by decide, show ¬ (2 : Int) = 3 by decide, if_false, if_true]
      unfold qt
      rw [List.cons_append, List.cons_append, List.append_assoc]
      have e1 : isL (34 : Int) = false := by decide
      have e2 : isD (34 : Int) = false := by decide
      have e3 : nI 34 = 34 := rfl
      have e4 : st 0 0 (t.flatMap wrt ++ ([34] ++ r)) 1 [] = .inr (t, 1 + (t.flatMap wrt).length + 1) := by
        rw [st_flat]
        simp [st, e3]
      simp only [lx, e1, e2, e3, e4, Bool.false_eq_true, if_false, if_true]
      congr 2
      simp
      omega
    · rw [if_neg k2] at h
      by_cases k3 : k = 3
      · subst k3
        rw [if_pos rfl] at h
        simp only [show ¬ (3 : Int) = 4 by decide, if_false, if_true]
        unfold srx at h
        rw [decide_eq_true_eq] at h
        have h2 := rg_app _ r _ _ _ h
        rw [List.cons_append]
        have e1 : isL (47 : Int) = false := by decide
        have e2 : isD (47 : Int) = false := by decide
        have e3 : nI 47 = 47 := rfl
        have e4 : ¬ (47 : Int) = 34 := by decide
        simp only [lx, e1, e2, e3, e4, h2, Bool.false_eq_true, if_false, if_true]
        rw [List.append_assoc, show t.length + 2 - 2 = t.length by omega, List.take_left' rfl]
        congr 2
        simp
      · rw [if_neg k3] at h
        by_cases k4 : k = 4
        · subst k4
          rw [if_pos rfl] at h
          simp only [if_true]
          simp only [Bool.and_eq_true, decide_eq_true_eq] at h
          obtain ⟨u, rfl⟩ : ∃ u : Nat, n = (u : Int) := ⟨n.toNat, by omega⟩
          rw [Lib.itoa_nonneg]
          have hd := dec_dig u
          have hv := dec_val u (by omega)
          obtain ⟨D, hD⟩ : ∃ D, Lib.decDigits u = D := ⟨_, rfl⟩
          rw [hD] at hd hv ⊢
          cases D with
          | nil => simp at hd
          | cons y t' =>
            have hy := hd.1 y (by simp)
            obtain ⟨_, _, hyl⟩ := lt_D hy
            have htw : tw isD ((y :: t') ++ r) = (y :: t').length := by rw [tw_app isD _ _ hd.1, hr.tw isD (by decide), Nat.add_zero]
            have htk : ((y :: t') ++ r).take (y :: t').length = y :: t' := List.take_left' rfl
            rw [List.cons_append] at htw htk ⊢
            simp only [lx, hyl, hy, htw, htk, hv, Bool.false_eq_true, if_false, if_true]
            rw [if_neg (by omega)]
        · rw [if_neg k4] at h
          by_cases k5 : k = 5
          · subst k5
            rw [if_pos rfl] at h
            simp only [show ¬ (5 : Int) = 4 by decide, show ¬ (5 : Int) = 3 by decide, show ¬ (5 : Int) = 2 by decide, if_false]
            unfold ssg at h
            rw [Bool.and_eq_true, decide_eq_true_eq] at h
            match t, h with
            | [y], h =>
              have hy : isS (nI y) = true := h.2
              obtain ⟨q1, q2, q3, q4⟩ := isS_out hy
              rw [List.singleton_append]
              simp only [lx, q1, q2, q3, q4, hy, Bool.false_eq_true, if_false, if_true]
              rfl
          · rw [if_neg k5] at h
            cases h
end Go.Proofs.YteaanieohcanlaaDoor
