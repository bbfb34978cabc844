import Derived.Test.YteaanieohcanlaaDoorStd
namespace Go.Proofs.YteaanieohcanlaaDoor
open Go.RowKit Go.Maps

/-- Where the first word begins, or the text's end. -/
def fst (ws : List Wd) (k n : Nat) : Nat := match ws with
  | [] => n
  | x :: _ => x.a.toNat - k
theorem cut_none {l : List UInt8} {g : Nat} (hg : g = gp false l) (j : Nat) : cut j (l.take g) = .inr [] := by
  subst hg
  refine cut_end j ?_
  rw [gp_take]
  exact List.drop_eq_nil_of_le (by rw [List.length_take]; omega)
/-- What stands ahead of the first word; every word by itself. -/
structure Plc (k : Nat) (l : List UInt8) (ws : List Wd) : Prop where
  f : fst ws k l.length ≤ l.length
  n : ∀ j, cut j (l.take (fst ws k l.length)) = .inr []
  w : ∀ i, i < ws.length → ∃ p q : Nat, (ws.getD i w0).a = ((k + p : Nat) : Int) ∧ (i + 1 < ws.length → (ws.getD (i + 1) w0).a = ((k + q : Nat) : Int)) ∧ (i + 1 = ws.length → q = l.length) ∧ p < q ∧ q ≤ l.length ∧ cut 0 ((l.drop p).take (q - p)) = .inr [{ (ws.getD i w0) with a := 0 }]
theorem cut_plc : ∀ (n : Nat) (l : List UInt8) (k : Nat) (ws : List Wd), l.length ≤ n → cut k l = .inr ws → Plc k l ws := by
  intro n
  induction n with
  | zero =>
    intro l k ws hl h
    have : l = [] := List.length_eq_zero_iff.1 (by omega)
    subst this
    rw [cut_end k (by simp)] at h
    injection h with h
    subst h
    exact ⟨Nat.le_refl _, fun j => by rw [List.take_nil]; exact cut_end j (by simp), fun i hi => by cases hi⟩
  | succ n ih =>
    intro l k ws hl h
    have hgl := gp_le false l
    cases hm : l.drop (gp false l) with
    | nil =>
      rw [cut_end _ hm] at h
      injection h with h
      subst h
      have hz : l.length - gp false l = 0 := by rw [← List.length_drop, hm]; rfl
      exact ⟨Nat.le_refl _, fun j => cut_none (by show l.length = _; omega) j, fun i hi => by cases hi⟩
    | cons x t =>
      have hlen : l.length - gp false l = t.length + 1 := by rw [← List.length_drop, hm]; rfl
      cases hx : lx (x :: t) with
      | inl e =>
        obtain ⟨e, o2⟩ := e
        rw [cut_err _ hm (by simp) hx] at h
        cases h
      | inr p =>
        obtain ⟨wd, m⟩ := p
        have hp := lx_pos hx
        have hp2 := hp.2
        rw [List.length_cons] at hp2
        rw [cut_wrd _ hm hx] at h
        have hdr : (x :: t).drop m = l.drop (gp false l + m) := by rw [← hm, List.drop_drop]
        rw [hdr] at h
        cases hc : cut (k + gp false l + m) (l.drop (gp false l + m)) with
        | inl e => rw [hc] at h; cases h
        | inr us =>
          rw [hc] at h
          simp only [cns] at h
          injection h with h
          have hlr : (l.drop (gp false l + m)).length = l.length - (gp false l + m) := List.length_drop
          have hI := ih _ _ us (by rw [hlr]; omega) hc
          have hIf := hI.f
          rw [hlr] at hIf
          obtain ⟨f, hf⟩ : ∃ f, fst us (k + gp false l + m) (l.length - (gp false l + m)) = f := ⟨_, rfl⟩
          have hIn := hI.n
          rw [hlr, hf] at hIn
          rw [hf] at hIf
          subst h
          have hfst : fst ({ wd with a := ((k + gp false l : Nat) : Int) } :: us) k l.length = gp false l := by
            show (((k + gp false l : Nat) : Int)).toNat - k = _
            omega
          refine ⟨by rw [hfst]; exact hgl, fun j => by rw [hfst]; exact cut_none rfl j, ?_⟩
          intro i hi
          cases i with
          | zero =>
            refine ⟨gp false l, gp false l + m + f, rfl, ?_, ?_, by omega, by omega, ?_⟩
            · intro h1
              cases us with
              | nil => simp at h1
              | cons u us =>
                show u.a = _
                have h2 := hI.w 0 (by simp)
                obtain ⟨p2, q2, h3, _⟩ := h2
                have h4 : u.a = ((k + gp false l + m + p2 : Nat) : Int) := h3
                have h5 : u.a.toNat - (k + gp false l + m) = f := hf
                omega
            · intro h1
              cases us with
              | nil =>
                have h5 : l.length - (gp false l + m) = f := hf
                omega
              | cons u us => simp at h1
            · show cut 0 ((l.drop (gp false l)).take (gp false l + m + f - gp false l)) = .inr [{ wd with a := 0 }]
              rw [show gp false l + m + f - gp false l = m + f by omega, hm]
              have hx2 := lx_take hx (m + f) (by omega)
              obtain ⟨hb1, hb2⟩ := gp_at false l hm
              have hg0 : gp false ((x :: t).take (m + f)) = 0 := by
                obtain ⟨m', hm'⟩ : ∃ m', m + f = m' + 1 := ⟨m + f - 1, by omega⟩
                rw [hm', List.take_succ_cons]
                exact gp_stay _ hb1 hb2 rfl
              rw [cut_wrd 0 (m := (x :: t).take (m + f)) (by rw [hg0]; rfl) hx2, hg0]
              have hrest : ((x :: t).take (m + f)).drop m = (l.drop (gp false l + m)).take f := by
                rw [List.drop_take, hdr, show m + f - m = f by omega]
              rw [hrest, hIn]
              rfl
          | succ i =>
            have hi2 : i < us.length := by simpa using hi
            obtain ⟨p2, q2, h1, h2, h3, h4, h5, h6⟩ := hI.w i hi2
            rw [hlr] at h3 h5
            refine ⟨gp false l + m + p2, gp false l + m + q2, ?_, ?_, ?_, by omega, by omega, ?_⟩
            · show (us.getD i w0).a = _
              rw [h1]
              congr 1
              omega
            · intro h7
              show (us.getD (i + 1) w0).a = _
              rw [h2 (by simpa using h7)]
              congr 1
              omega
            · intro h7
              have := h3 (by simpa using h7)
              omega
            · rw [show gp false l + m + q2 - (gp false l + m + p2) = q2 - p2 by omega, ← List.drop_drop]
              exact h6
end Go.Proofs.YteaanieohcanlaaDoor
