import Derived.Test.YteaanieohcanlaaDoorBcl
import Derived.Lib.ItoaLen
import Derived.Lib.LaidTab
import Derived.Lib.AppendIntMem
namespace Go.Proofs.YteaanieohcanlaaDoor
open Go.RowKit Go.Maps

theorem st_len : ∀ (l : List UInt8) (m : Nat) (h : Int) (o : Nat) (a a' : List UInt8) (n : Nat), st m h l o a = .inr (a', n) → a'.length + o ≤ a.length + n := by
  intro l
  induction l with
  | nil => intro m h o a a' n e; match m with
    | 0 => simp [st] at e
    | m + 1 => simp [st] at e
  | cons x t ih =>
    intro m h o a a' n e
    match m with
    | 0 =>
      simp only [st] at e
      split at e
      · injection e with e; injection e with e1 e2; subst e1; omega
      · split at e
        · simp at e
        · split at e
          · have := ih _ _ _ _ _ _ e; omega
          · have := ih _ _ _ _ _ _ e; rw [List.length_append] at this; simp at this; omega
    | 1 =>
      simp only [st] at e
      split at e
      · have := ih _ _ _ _ _ _ e; omega
      · split at e
        · simp at e
        · have := ih _ _ _ _ _ _ e; rw [List.length_append] at this; simp at this; omega
    | 2 =>
      simp only [st] at e
      split at e
      · simp at e
      · have := ih _ _ _ _ _ _ e; omega
    | m + 3 =>
      simp only [st] at e
      split at e
      · simp at e
      · have := ih _ _ _ _ _ _ e; rw [List.length_append] at this; simp at this; omega
theorem lx_tl {l : List UInt8} {w : Wd} {n : Nat} (h : lx l = .inr (w, n)) : w.t.length ≤ n := by
  cases l with
  | nil => simp [lx] at h
  | cons x t =>
    have hp := lx_pos h
    simp only [lx] at h
    split at h
    · split at h
      · cases h
      · injection h with h; injection h with h1 h2
        rw [← h1, ← h2]
        simp only [List.length_take]
        omega
    · split at h
      · split at h
        · cases h
        · injection h with h; injection h with h1 h2
          rw [← h1]
          simp
      · split at h
        · split at h
          · cases h
          · rename_i e
            injection h with h; injection h with h1 h2
            have := st_len _ _ _ _ _ _ _ e
            rw [← h1, ← h2]
            simp only [List.length_nil] at this ⊢
            omega
        · split at h
          · split at h
            · cases h
            · injection h with h; injection h with h1 h2
              rw [← h1, ← h2]
              simp only [List.length_take]
              omega
          · split at h
            · injection h with h; injection h with h1 h2
              rw [← h1, ← h2]
              simp
            · cases h
theorem cut_tl : ∀ (n : Nat) (l : List UInt8) (k : Nat) (ws : List Wd), l.length ≤ n → cut k l = .inr ws → ∀ x ∈ ws, x.t.length ≤ l.length := by
  intro n
  induction n with
  | zero =>
    intro l k ws hl h
    have : l = [] := List.length_eq_zero_iff.1 (by omega)
    subst this
    rw [cut_end k (by simp)] at h
    injection h with h
    subst h
    intro x hx
    cases hx
  | succ n ih =>
    intro l k ws hl h
    cases hm : l.drop (gp false l) with
    | nil =>
      rw [cut_end _ hm] at h
      injection h with h
      subst h
      intro x hx
      cases hx
    | cons x t =>
      have hlen : l.length - gp false l = t.length + 1 := by rw [← List.length_drop, hm]; rfl
      cases hx : lx (x :: t) with
      | inl e =>
        obtain ⟨e, o2⟩ := e
        rw [cut_err _ hm (by simp) hx] at h
        cases h
      | inr p =>
        obtain ⟨w, m⟩ := p
        have hp := lx_pos hx
        have hp2 := hp.2
        rw [List.length_cons] at hp2
        rw [cut_wrd _ hm hx] at h
        cases hc : cut (k + gp false l + m) ((x :: t).drop m) with
        | inl e => rw [hc] at h; cases h
        | inr us =>
          rw [hc] at h
          simp only [cns] at h
          injection h with h
          subst h
          intro y hy
          rcases List.mem_cons.1 hy with rfl | hy
          · have := lx_tl hx
            simp only
            omega
          · have h3 := ih _ _ _ (by rw [List.length_drop, List.length_cons]; omega) hc y hy
            rw [List.length_drop, List.length_cons] at h3
            omega
theorem spl_len (x : Wd) (h : x.t.length ≤ 16384) (hs : snd x = true) : (spl x).length ≤ 65600 := by
  unfold spl
  rw [if_neg (by rw [hs]; decide)]
  split
  · rename_i h4
    unfold snd at hs
    rw [h4] at hs
    simp only [show ¬ (4 : Int) = 1 by decide, show ¬ (4 : Int) = 2 by decide, show ¬ (4 : Int) = 3 by decide, if_false, if_true, Bool.and_eq_true, decide_eq_true_eq] at hs
    have := Lib.itoa_length_le x.n (by omega) (by omega)
    omega
  · split
    · simp; omega
    · split
      · unfold qt
        have := fm_len x.t
        simp only [List.length_append, List.length_cons, List.length_nil]
        omega
      · omega
theorem jna_bound : ∀ (l : List Wd), (∀ x ∈ l, (spl x).length ≤ 65600) → (jna l).length ≤ l.length * 65601
  | [], _ => by simp [jna]
  | [x], h => by have := h x (by simp); simp [jna]; omega
  | x :: y :: r, h => by
    have h1 := h x (by simp)
    have h2 := jna_bound (y :: r) (fun z hz => h z (by simp only [List.mem_cons] at hz ⊢; exact .inr hz))
    simp only [jna, List.length_append, List.length_cons] at h2 ⊢
    omega
/-- The table of powers of ten. -/
def Tab (w : World) : Prop := Lib.TabIs Tryd.prog w "internal/strconv.uint64pow10" .u64 Lib.pow10Tab
theorem gPow : Tryd.prog.globalNamed "internal/strconv.uint64pow10" = some 1 := by kernel_rfl
theorem Tab.up {W W' : World} (h : Tab W) (hb : Below W.heap.size W W') : Tab W' := by
  unfold Tab Lib.TabIs World.var? at h ⊢
  rw [gPow] at h ⊢
  simp only [Option.bind_some] at h ⊢
  have hlt : 1 < W.heap.size := by
    rcases Nat.lt_or_ge 1 W.heap.size with h1 | h1
    · exact h1
    · rw [Array.getElem?_eq_none h1] at h
      cases h
  rw [hb.block 1 hlt]
  exact h
theorem itoaOK_tab (w : World) (n : Int) (h0 : 0 ≤ n) (h1 : n ≤ 65535) (ht : Tab w) : ItoaOK w n := fun W hW =>
  (Tryd.strconv_Itoa n (by omega) (by omega) W (ht.up hW)).mono fun _ _ ⟨he, k, os, hw⟩ => ⟨he, by rw [hw]; exact Lib.below_grow _ _ (Nat.le_refl _) k os⟩
end Go.Proofs.YteaanieohcanlaaDoor
