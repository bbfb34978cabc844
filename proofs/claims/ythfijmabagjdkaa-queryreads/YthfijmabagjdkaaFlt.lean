import Derived.Test.YthfijmabagjdkaaCuj
namespace Go.Proofs.Ythfijmabagjdkaa
open Go.RowKit Go.Maps

theorem lx_code {l : List UInt8} {e o : Nat} (h : lx l = .inl (e, o)) : e ≠ 0 := by
  cases l with
  | nil => simp only [lx, Sum.inl.injEq, Prod.mk.injEq] at h; omega
  | cons x t =>
    simp only [lx] at h
    split at h
    · split at h
      · simp only [Sum.inl.injEq, Prod.mk.injEq] at h; omega
      · cases h
    · split at h
      · split at h
        · simp only [Sum.inl.injEq, Prod.mk.injEq] at h; omega
        · cases h
      · split at h
        · split at h
          · simp only [Sum.inl.injEq, Prod.mk.injEq] at h; omega
          · cases h
        · split at h
          · split at h
            · simp only [Sum.inl.injEq, Prod.mk.injEq] at h; omega
            · cases h
          · split at h
            · cases h
            · simp only [Sum.inl.injEq, Prod.mk.injEq] at h; omega
/-- The words, the error, its place, flat. -/
def wl (s : ByteArray) : List Wd := match cutR s with | .inr ws => ws | .inl _ => []
def cc (s : ByteArray) : Int := match cutR s with | .inr _ => 0 | .inl (c, _) => (c : Int)
def oo (s : ByteArray) : Int := match cutR s with | .inr _ => 0 | .inl (_, o) => (o : Int)
theorem cutE.flat {B : Nat} {s : ByteArray} {e : Ending} {w' : World} (h : cutE B s e w') : ∃ v, e = .returned (.tuple #[v, .int .i64 (cc s), .int .i64 (oo s)]) ∧ Wow B w' v (wl s) := by
  rcases h with ⟨ws, v, h1, h2, h3⟩ | ⟨c, o, _, h1, h2⟩
  · refine ⟨v, ?_, ?_⟩
    · rw [h2]; simp only [cc, oo, h1]
    · simp only [wl, h1]; exact h3
  · refine ⟨.slice none 0 0, ?_, ?_⟩
    · rw [h2]; simp only [cc, oo, h1]
    · simp only [wl, h1]; exact World.ownsRow_nil _ _ _ _
theorem cut_len : ∀ (n : Nat) (l : List UInt8) (k : Nat) (ws : List Wd), l.length ≤ n → cut k l = .inr ws → ws.length ≤ l.length := by
  intro n
  induction n with
  | zero =>
    intro l k ws hl h
    have : l = [] := List.length_eq_zero_iff.1 (by omega)
    subst this
    rw [cut_end k (by simp)] at h
    injection h with h
    subst h
    simp
  | succ n ih =>
    intro l k ws hl h
    cases hm : l.drop (gp false l) with
    | nil =>
      rw [cut_end _ hm] at h
      injection h with h
      subst h
      simp
    | cons x t =>
      have hlen : l.length - gp false l = t.length + 1 := by rw [← List.length_drop, hm]; rfl
      cases hx : lx (x :: t) with
      | inl e =>
        obtain ⟨e, o⟩ := e
        rw [cut_err _ hm (by simp) hx] at h
        cases h
      | inr p =>
        obtain ⟨w, m⟩ := p
        have hp := lx_pos hx
        rw [cut_wrd _ hm hx] at h
        cases hc : cut (k + gp false l + m) ((x :: t).drop m) with
        | inl e => rw [hc] at h; cases h
        | inr us =>
          rw [hc] at h
          simp only [cns] at h
          injection h with h
          subst h
          have h1 := ih _ _ us (by rw [List.length_drop, List.length_cons]; omega) hc
          rw [List.length_drop, List.length_cons] at h1
          rw [List.length_cons]
          omega
theorem wl_len (s : ByteArray) : (wl s).length ≤ 16384 := by
  unfold wl cutR
  by_cases h : 16384 < s.size
  · rw [if_pos h]; simp
  · rw [if_neg h]
    cases hc : cut 0 s.data.toList with
    | inl e => simp
    | inr ws =>
      have := cut_len _ _ _ _ (Nat.le_refl _) hc
      rw [lst_siz] at this
      simp only
      omega
theorem cut_code : ∀ (n : Nat) (l : List UInt8) (k : Nat) (c o : Nat), l.length ≤ n → cut k l = .inl (c, o) → c ≠ 0 := by
  intro n
  induction n with
  | zero =>
    intro l k c o hl h
    have : l = [] := List.length_eq_zero_iff.1 (by omega)
    subst this
    rw [cut_end k (by simp)] at h
    cases h
  | succ n ih =>
    intro l k c o hl h
    cases hm : l.drop (gp false l) with
    | nil =>
      rw [cut_end _ hm] at h
      cases h
    | cons x t =>
      have hlen : l.length - gp false l = t.length + 1 := by rw [← List.length_drop, hm]; rfl
      cases hx : lx (x :: t) with
      | inl e =>
        obtain ⟨e, o2⟩ := e
        rw [cut_err _ hm (by simp) hx] at h
        injection h with h
        injection h with h1 h2
        rw [← h1]
        exact lx_code hx
      | inr p =>
        obtain ⟨w, m⟩ := p
        have hp := lx_pos hx
        rw [cut_wrd _ hm hx] at h
        cases hc : cut (k + gp false l + m) ((x :: t).drop m) with
        | inl e =>
          rw [hc] at h
          simp only [cns] at h
          injection h with h
          subst h
          exact ih _ _ _ _ (by rw [List.length_drop, List.length_cons]; omega) hc
        | inr us => rw [hc] at h; cases h
theorem cutR_code {s : ByteArray} {c o : Nat} (h : cutR s = .inl (c, o)) : c ≠ 0 := by
  unfold cutR at h
  by_cases hz : 16384 < s.size
  · rw [if_pos hz] at h
    injection h with h
    injection h with h1 h2
    omega
  · rw [if_neg hz] at h
    exact cut_code _ _ _ _ _ (Nat.le_refl _) h
end Go.Proofs.Ythfijmabagjdkaa
