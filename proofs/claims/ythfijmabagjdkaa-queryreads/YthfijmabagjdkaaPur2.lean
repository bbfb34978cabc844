import Derived.Test.YthfijmabagjdkaaPure
import Derived.Lib.ItoaNum
namespace Go.Proofs
namespace Ythfijmabagjdkaa
/-! Words: one word, and all. -/
theorem lx_nl (l b : List UInt8) (hl : l ≠ []) : lx (l ++ 10 :: b) = lx l := by
  cases l with
  | nil => exact absurd rfl hl
  | cons x t =>
    have h1 : tw isN (x :: (t ++ 10 :: b)) = tw isN (x :: t) := tw_nl isN rfl (x :: t) b
    have h2 : tw isD (x :: (t ++ 10 :: b)) = tw isD (x :: t) := tw_nl isD rfl (x :: t) b
    have h3 : (x :: (t ++ 10 :: b)).take (tw isN (x :: t)) = (x :: t).take (tw isN (x :: t)) := by
      rw [← List.cons_append, List.take_append_of_le_length (tw_le _ _)]
    have h4 : (x :: (t ++ 10 :: b)).take (tw isD (x :: t)) = (x :: t).take (tw isD (x :: t)) := by
      rw [← List.cons_append, List.take_append_of_le_length (tw_le _ _)]
    rw [List.cons_append]
    simp only [lx, h1, h2, h3, h4, st_nl, rg_nl]
    cases hr : rg false t 1 with
    | none => rfl
    | some n =>
      have := (rg_pos _ _ _ _ hr).2
      simp only [List.take_append_of_le_length (show n - 2 ≤ t.length by omega)]
theorem lx_pos {l : List UInt8} {w : Wd} {n : Nat} (h : lx l = .inr (w, n)) : 0 < n ∧ n ≤ l.length := by
  cases l with
  | nil => simp [lx] at h
  | cons x t =>
    simp only [lx] at h
    split at h
    · rename_i hx
      split at h
      · simp at h
      · injection h with h; injection h with h1 h2; subst h2
        exact ⟨tw_pos _ _ _ (by simp [isN, hx]), tw_le _ _⟩
    · split at h
      · rename_i hx
        split at h
        · simp at h
        · injection h with h; injection h with h1 h2; subst h2
          exact ⟨tw_pos _ _ _ hx, tw_le _ _⟩
      · split at h
        · split at h
          · simp at h
          · rename_i e
            injection h with h; injection h with h1 h2; subst h2
            have := st_pos _ _ _ _ _ _ _ e
            rw [List.length_cons]
            omega
        · split at h
          · split at h
            · simp at h
            · rename_i e
              injection h with h; injection h with h1 h2; subst h2
              have := rg_pos _ _ _ _ e
              rw [List.length_cons]
              omega
          · split at h
            · injection h with h; injection h with h1 h2; subst h2
              rw [List.length_cons]
              omega
            · simp at h
theorem lx_take {l : List UInt8} {w : Wd} {n : Nat} (h : lx l = .inr (w, n)) (q : Nat) (hq : n ≤ q) : lx (l.take q) = .inr (w, n) := by
  have hp := lx_pos h
  cases l with
  | nil => simp [lx] at h
  | cons x t =>
    obtain ⟨q, rfl⟩ : ∃ m, q = m + 1 := ⟨q - 1, by omega⟩
    rw [List.take_succ_cons]
    simp only [lx] at h ⊢
    split at h
    · rename_i hx
      rw [if_pos hx]
      split at h
      · simp at h
      · rename_i hk
        injection h with h; injection h with h1 h2
        have e := tw_take isN (x :: t) (q + 1) (by omega)
        rw [List.take_succ_cons] at e
        rw [e, if_neg hk]
        have e2 : (x :: t.take q).take (tw isN (x :: t)) = (x :: t).take (tw isN (x :: t)) := by
          rw [← List.take_succ_cons, List.take_take, Nat.min_eq_left (by omega)]
        rw [e2, ← h1, h2]
    · rename_i hx
      rw [if_neg hx]
      split at h
      · rename_i hd
        rw [if_pos hd]
        split at h
        · simp at h
        · rename_i hk
          injection h with h; injection h with h1 h2
          have e := tw_take isD (x :: t) (q + 1) (by omega)
          rw [List.take_succ_cons] at e
          have e2 : (x :: t.take q).take (tw isD (x :: t)) = (x :: t).take (tw isD (x :: t)) := by
            rw [← List.take_succ_cons, List.take_take, Nat.min_eq_left (by omega)]
          rw [e, e2, if_neg hk, ← h1, h2]
      · rename_i hd
        rw [if_neg hd]
        split at h
        · rename_i h34
          rw [if_pos h34]
          split at h
          · simp at h
          · rename_i e
            injection h with h; injection h with h1 h2; subst h2
            rw [st_take _ _ _ _ _ _ _ q e (by omega), ← h1]
        · rename_i h34
          rw [if_neg h34]
          split at h
          · rename_i h47
            rw [if_pos h47]
            split at h
            · simp at h
            · rename_i e
              injection h with h; injection h with h1 h2; subst h2
              rw [rg_take _ _ _ _ q e (by omega), ← h1]
              simp only
              rw [List.take_take, Nat.min_eq_left (by omega)]
          · rename_i h47
            rw [if_neg h47]
            split at h
            · rename_i hs; rw [if_pos hs]; exact h
            · simp at h

def cns (w : Wd) : Sum (Nat × Nat) (List Wd) → Sum (Nat × Nat) (List Wd)
  | .inl e => .inl e
  | .inr ws => .inr (w :: ws)
def pfx (ws : List Wd) : Sum (Nat × Nat) (List Wd) → Sum (Nat × Nat) (List Wd)
  | .inl e => .inl e
  | .inr m => .inr (ws ++ m)
theorem pfx_cns (w : Wd) (ws : List Wd) (r : Sum (Nat × Nat) (List Wd)) : pfx ws (cns w r) = pfx (ws ++ [w]) r := by
  cases r <;> simp [pfx, cns]
theorem pfx_nil (r : Sum (Nat × Nat) (List Wd)) : pfx [] r = r := by
  cases r <;> simp [pfx]
theorem ct_fuel : ∀ (f : Nat) (k : Nat) (l : List UInt8), l.length ≤ f → ct f k l = ct l.length k l := by
  intro f
  induction f using Nat.strongRecOn with
  | ind f ih =>
    intro k l hl
    rcases Nat.eq_or_lt_of_le hl with h | h
    · rw [h]
    · obtain ⟨f, rfl⟩ : ∃ m, f = m + 1 := ⟨f - 1, by omega⟩
      cases hn : l.length with
      | zero =>
        have : l = [] := List.length_eq_zero_iff.1 hn
        subst this
        simp [ct]
      | succ m =>
        simp only [ct]
        cases hd : l.drop (gp false l) with
        | nil => rfl
        | cons x t =>
          simp only
          cases hx : lx (x :: t) with
          | inl e => rfl
          | inr p =>
            obtain ⟨w, n⟩ := p
            simp only
            have hp := lx_pos hx
            have hlen : (x :: t).length ≤ m + 1 := by rw [← hd, List.length_drop]; omega
            have hlen2 : ((x :: t).drop n).length ≤ m := by rw [List.length_drop]; omega
            rw [ih f (by omega) _ _ (by omega), ih m (by omega) _ _ hlen2]
theorem cut_end (k : Nat) {l : List UInt8} (h : l.drop (gp false l) = []) : cut k l = .inr [] := by
  unfold cut
  cases hn : l.length with
  | zero => rfl
  | succ m => simp only [ct, h]
theorem cut_err (k : Nat) {l m : List UInt8} {e o : Nat} (h : l.drop (gp false l) = m) (hm : m ≠ []) (hx : lx m = .inl (e, o)) : cut k l = .inl (e, k + gp false l + o) := by
  cases m with
  | nil => exact absurd rfl hm
  | cons x t =>
    unfold cut
    cases hn : l.length with
    | zero =>
      have : l = [] := List.length_eq_zero_iff.1 hn
      subst this
      simp at h
    | succ m => simp only [ct, h, hx]
theorem cut_wrd (k : Nat) {l m : List UInt8} {w : Wd} {n : Nat} (h : l.drop (gp false l) = m) (hx : lx m = .inr (w, n)) : cut k l = cns { w with a := ((k + gp false l : Nat) : Int) } (cut (k + gp false l + n) (m.drop n)) := by
  cases m with
  | nil => simp [lx] at hx
  | cons x t =>
    have hp := lx_pos hx
    unfold cut
    cases hn : l.length with
    | zero =>
      have : l = [] := List.length_eq_zero_iff.1 hn
      subst this
      simp at h
    | succ m =>
      have hlen : (x :: t).length ≤ m + 1 := by rw [← h, List.length_drop]; omega
      simp only [ct, h, hx]
      rw [ct_fuel m _ _ (by rw [List.length_drop]; omega)]
      cases ct ((x :: t).drop n).length (k + gp false l + n) ((x :: t).drop n) <;> rfl
/-- Blanks and comments ahead. -/
theorem cut_skip (k : Nat) (g b : List UInt8) (h : gp false (g ++ b) = g.length + gp false b) : cut k (g ++ b) = cut (k + g.length) b := by
  have hd : (g ++ b).drop (gp false (g ++ b)) = b.drop (gp false b) := by rw [h, ← List.drop_drop, List.drop_left]
  cases hm : b.drop (gp false b) with
  | nil => rw [cut_end k (by rw [hd, hm]), cut_end _ hm]
  | cons x t =>
    cases hx : lx (x :: t) with
    | inl e => rw [cut_err k (hd.trans hm) (by simp) hx, cut_err (k + g.length) hm (by simp) hx, h, ← Nat.add_assoc k]
    | inr p => rw [cut_wrd k (hd.trans hm) hx, cut_wrd (k + g.length) hm hx, h, ← Nat.add_assoc k]
theorem cut_blank (k : Nat) (l : List UInt8) : cut k (32 :: l) = cut (k + 1) l := cut_skip k [32] l (by rw [List.singleton_append, gp_b _ _ (by decide)]; simp; omega)
/-- A line end parts texts. -/
theorem cut_nl (b : List UInt8) : ∀ (n : Nat) (l : List UInt8) (k : Nat), l.length ≤ n → cut k (l ++ 10 :: b) = match cut k l with
    | .inl e => .inl e
    | .inr ws => pfx ws (cut (k + l.length + 1) b) := by
  intro n
  induction n with
  | zero =>
    intro l k hl
    have : l = [] := List.length_eq_zero_iff.1 (by omega)
    subst this
    have h := cut_skip k [10] b (by rw [List.singleton_append, gp_b _ _ (by decide)]; simp; omega)
    rw [List.nil_append, show (10 : UInt8) :: b = [10] ++ b from rfl, h, cut_end k (by simp)]
    simp [pfx_nil]
  | succ n ih =>
    intro l k hl
    have hg := gp_nl false l b
    cases hm : l.drop (gp false l) with
    | nil =>
      have hle := gp_le false l
      have hlen : l.length - gp false l = 0 := by rw [← List.length_drop, hm]; rfl
      have e : gp false l = l.length := by omega
      rw [if_pos e] at hg
      have h := cut_skip k (l ++ [10]) b (by rw [List.append_assoc, List.singleton_append, hg]; simp)
      rw [List.append_assoc, List.singleton_append] at h
      rw [h, cut_end k hm]
      simp [pfx_nil, Nat.add_assoc]
    | cons x t =>
      have hlen : l.length - gp false l = t.length + 1 := by rw [← List.length_drop, hm]; rfl
      rw [if_neg (by omega)] at hg
      have hd : (l ++ 10 :: b).drop (gp false (l ++ 10 :: b)) = (x :: t) ++ 10 :: b := by
        rw [hg, List.drop_append_of_le_length (by omega), hm]
      have hx' := lx_nl (x :: t) b (by simp)
      cases hx : lx (x :: t) with
      | inl e => rw [cut_err k hd (by simp) (hx'.trans hx), cut_err k hm (by simp) hx, hg]
      | inr p =>
        obtain ⟨w, m⟩ := p
        have hp := lx_pos hx
        rw [cut_wrd k hd (hx'.trans hx), cut_wrd k hm hx, hg, List.drop_append_of_le_length hp.2, ih _ _ (by rw [List.length_drop, List.length_cons]; omega)]
        have e : k + gp false l + m + ((x :: t).drop m).length + 1 = k + l.length + 1 := by
          rw [List.length_drop]
          have := hp.2
          rw [List.length_cons] at this ⊢
          omega
        rw [e]
        cases cut (k + gp false l + m) ((x :: t).drop m) with
        | inl e => rfl
        | inr ws => simp only [cns]; cases cut (k + l.length + 1) b <;> rfl
def shf (d : Nat) : Sum (Nat × Nat) (List Wd) → Sum (Nat × Nat) (List Wd)
  | .inl (e, o) => .inl (e, o + d)
  | .inr ws => .inr (ws.map fun w => { w with a := w.a + d })
theorem cut_shift (d : Nat) : ∀ (n : Nat) (l : List UInt8) (k : Nat), l.length ≤ n → cut (k + d) l = shf d (cut k l) := by
  intro n
  induction n with
  | zero =>
    intro l k hl
    have : l = [] := List.length_eq_zero_iff.1 (by omega)
    subst this
    rfl
  | succ n ih =>
    intro l k hl
    cases hm : l.drop (gp false l) with
    | nil => rw [cut_end _ hm, cut_end _ hm]; rfl
    | cons x t =>
      have hlen : l.length - gp false l = t.length + 1 := by rw [← List.length_drop, hm]; rfl
      cases hx : lx (x :: t) with
      | inl e =>
        obtain ⟨e, o⟩ := e
        rw [cut_err _ hm (by simp) hx, cut_err _ hm (by simp) hx]
        simp only [shf, Sum.inl.injEq, Prod.mk.injEq, true_and]
        omega
      | inr p =>
        obtain ⟨w, m⟩ := p
        have hp := lx_pos hx
        rw [cut_wrd _ hm hx, cut_wrd _ hm hx, show k + d + gp false l + m = k + gp false l + m + d by omega, ih _ _ (by rw [List.length_drop, List.length_cons]; omega)]
        have e : (((k + d + gp false l : Nat)) : Int) = ((k + gp false l : Nat) : Int) + d := by omega
        cases cut (k + gp false l + m) ((x :: t).drop m) with
        | inl q => rfl
        | inr ws => simp only [cns, shf, List.map_cons, e]
end Ythfijmabagjdkaa
end Go.Proofs
