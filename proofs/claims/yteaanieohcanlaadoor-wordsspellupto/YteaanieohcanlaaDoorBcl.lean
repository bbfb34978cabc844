import Derived.Test.YteaanieohcanlaaDoorBck
namespace Go.Proofs.YteaanieohcanlaaDoor
open Go.RowKit Go.Maps

theorem lx_nb {x : UInt8} {t : List UInt8} {w : Wd} {n : Nat} (h : lx (x :: t) = .inr (w, n)) : isB (nI x) = false ∧ ¬ nI x = 35 := by
  have hB : ∀ b : Int, isB b = true ∨ b = 35 → isL b = false ∧ isD b = false ∧ (¬ b = 34) ∧ (¬ b = 47) ∧ isS b = false := by
    intro b hb
    simp only [isB, Bool.or_eq_true, beq_iff_eq] at hb
    rcases hb with (((rfl | rfl) | rfl) | rfl) | rfl <;> exact ⟨by decide, by decide, by decide, by decide, by decide⟩
  by_cases hc : isB (nI x) = true ∨ nI x = 35
  · obtain ⟨h1, h2, h3, h4, h5⟩ := hB _ hc
    simp only [lx, h1, h2, h3, h4, h5, Bool.false_eq_true, if_false] at h
    cases h
  · refine ⟨?_, fun e => hc (.inr e)⟩
    cases hb : isB (nI x) with
    | false => rfl
    | true => exact absurd (.inl hb) hc
/-- The words that are read of joined ones. -/
def plc : Nat → List Wd → List Wd
  | _, [] => []
  | k, x :: r => { nrm x with a := (k : Int) } :: plc (k + (spl x).length + 1) r
theorem cut_one (k : Nat) (x : Wd) (h : snd x = true) (r : List UInt8) (hr : Beh r) : cut k (spl x ++ r) = cns { nrm x with a := (k : Int) } (cut (k + (spl x).length) r) := by
  have hl := lx_spl x h r hr
  have hp := lx_pos hl
  cases hs : spl x ++ r with
  | nil => rw [hs] at hl; simp [lx] at hl
  | cons y t =>
    have hl2 := hl
    rw [hs] at hl2
    obtain ⟨h1, h2⟩ := lx_nb hl2
    rw [cut_begin k y t h1 h2, hl2]
    simp only
    rw [← hs, List.drop_left' rfl]
theorem cut_join : ∀ (ws : List Wd) (k : Nat), (∀ x ∈ ws, snd x = true) → cut k (jna ws) = .inr (plc k ws)
  | [], k, _ => cut_end k (by simp [jna])
  | [x], k, h => by
    have h1 := cut_one k x (h x (by simp)) [] (.inl rfl)
    rw [List.append_nil] at h1
    show cut k (spl x) = _
    rw [h1, cut_end _ (by simp)]
    rfl
  | x :: y :: r, k, h => by
    have h1 := cut_one k x (h x (by simp)) (32 :: jna (y :: r)) (.inr ⟨_, rfl⟩)
    show cut k (spl x ++ 32 :: jna (y :: r)) = _
    rw [h1, cut_blank, cut_join (y :: r) _ (fun z hz => h z (by simp only [List.mem_cons] at hz ⊢; exact .inr hz))]
    rfl
theorem rg_last : ∀ (l : List UInt8) (c : Bool) (o n : Nat), rg c l o = some n → ∃ u, l.take (n - o) = u ++ [47] ∧ u.length + 1 = n - o := by
  intro l
  induction l with
  | nil => intro c o n e; cases c <;> simp [rg] at e
  | cons x t ih =>
    intro c o n e
    have hp := rg_pos _ _ _ _ e
    obtain ⟨m, hm⟩ : ∃ m, n - o = m + 1 := ⟨n - o - 1, by omega⟩
    have step : ∀ c', rg c' t (o + 1) = some n → ∃ u, (x :: t).take (n - o) = u ++ [47] ∧ u.length + 1 = n - o := fun c' e' => by
      obtain ⟨u, h1, h2⟩ := ih c' (o + 1) n e'
      rw [show n - (o + 1) = m by omega] at h1 h2
      exact ⟨x :: u, by rw [hm, List.take_succ_cons, h1]; rfl, by rw [List.length_cons, h2, hm]⟩
    cases c
    · simp only [rg] at e
      split at e
      · rename_i h1
        injection e with e
        have : x = 47 := nI_inj (y := 47) h1
        subst this
        exact ⟨[], by rw [show n - o = 1 by omega]; rfl, by simp; omega⟩
      · split at e
        · cases e
        · split at e
          · exact step _ e
          · exact step _ e
    · simp only [rg] at e
      split at e
      · cases e
      · exact step _ e
theorem lx_snd {l : List UInt8} {w : Wd} {n : Nat} (h : lx l = .inr (w, n)) : snd w = true ∧ nrm w = w := by
  cases l with
  | nil => simp [lx] at h
  | cons x t =>
    simp only [lx] at h
    split at h
    · rename_i hx
      split at h
      · cases h
      · rename_i hk
        injection h with h; injection h with h1 h2
        subst h1
        refine ⟨?_, rfl⟩
        have hp := tw_pos isN x t (by simp [isN, hx])
        have hle := tw_le isN (x :: t)
        obtain ⟨m, hm⟩ : ∃ m, tw isN (x :: t) = m + 1 := ⟨tw isN (x :: t) - 1, by omega⟩
        have hall := tw_all isN (x :: t)
        show snm ((x :: t).take (tw isN (x :: t))) = true
        have hlen : ((x :: t).take (tw isN (x :: t))).length = tw isN (x :: t) := by rw [List.length_take]; omega
        have h0 : ((x :: t).take (tw isN (x :: t))).getD 0 0 = x := by rw [hm, List.take_succ_cons]; rfl
        have hnd : isD (nI x) = false := by
          cases hd : isD (nI x) with
          | false => rfl
          | true => rw [(lt_D hd).2.2] at hx; cases hx
        unfold snm
        rw [hlen, h0, hnd, decide_eq_true (by omega), decide_eq_true (by omega)]
        simp only [Bool.true_and, Bool.not_false]
        rw [List.all_eq_true]
        exact hall
    · split at h
      · rename_i hd
        split at h
        · cases h
        · rename_i hk
          injection h with h; injection h with h1 h2
          subst h1
          refine ⟨?_, rfl⟩
          have hge := nvf_ge 0 ((x :: t).take (tw isD (x :: t))) (by omega) (tw_all isD (x :: t))
          show (decide (0 ≤ nvf 0 ((x :: t).take (tw isD (x :: t)))) && decide (nvf 0 ((x :: t).take (tw isD (x :: t))) ≤ 65535)) = true
          rw [decide_eq_true hge, decide_eq_true (by omega)]
          rfl
      · split at h
        · split at h
          · cases h
          · injection h with h; injection h with h1 h2
            subst h1
            exact ⟨rfl, rfl⟩
        · split at h
          · split at h
            · cases h
            · rename_i m e
              injection h with h; injection h with h1 h2
              subst h1
              refine ⟨?_, rfl⟩
              obtain ⟨u, h3, h4⟩ := rg_last _ _ _ _ e
              have h5 := rg_take _ _ _ _ (m - 1) e (by omega)
              have h6 : t.take (m - 2) = u := by
                have := congrArg (List.take (m - 2)) h3
                rw [List.take_take, Nat.min_eq_left (by omega), List.take_left' (by omega)] at this
                exact this
              show srx (t.take (m - 2)) = true
              unfold srx
              rw [h6, ← h3, h5]
              refine decide_eq_true ?_
              congr 1
              omega
          · split at h
            · rename_i hs
              injection h with h; injection h with h1 h2
              subst h1
              refine ⟨?_, rfl⟩
              show ssg [x] = true
              unfold ssg
              simp only [List.length_cons, List.length_nil, List.getD_cons_zero]
              rw [hs]
              rfl
            · cases h
theorem cut_snd : ∀ (n : Nat) (l : List UInt8) (k : Nat) (ws : List Wd), l.length ≤ n → cut k l = .inr ws → ∀ x ∈ ws, snd x = true ∧ nrm x = nop x := by
  intro n
  induction n with
  | zero =>
    intro l k ws hl h
    have : l = [] := List.length_eq_zero_iff.1 (by omega)
    subst this
    rw [cut_end k (by simp)] at h
    injection h with h
    subst h
    intro x hx
    cases hx
  | succ n ih =>
    intro l k ws hl h
    cases hm : l.drop (gp false l) with
    | nil =>
      rw [cut_end _ hm] at h
      injection h with h
      subst h
      intro x hx
      cases hx
    | cons x t =>
      have hlen : l.length - gp false l = t.length + 1 := by rw [← List.length_drop, hm]; rfl
      cases hx : lx (x :: t) with
      | inl e =>
        obtain ⟨e, o2⟩ := e
        rw [cut_err _ hm (by simp) hx] at h
        cases h
      | inr p =>
        obtain ⟨w, m⟩ := p
        have hp := lx_pos hx
        rw [cut_wrd _ hm hx] at h
        cases hc : cut (k + gp false l + m) ((x :: t).drop m) with
        | inl e => rw [hc] at h; cases h
        | inr us =>
          rw [hc] at h
          simp only [cns] at h
          injection h with h
          subst h
          intro y hy
          rcases List.mem_cons.1 hy with rfl | hy
          · obtain ⟨h1, h2⟩ := lx_snd hx
            refine ⟨h1, ?_⟩
            have h3 : nrm { w with a := ((k + gp false l : Nat) : Int) } = nrm w := rfl
            have h4 : nop { w with a := ((k + gp false l : Nat) : Int) } = nop w := rfl
            rw [h3, h4, h2]
            have h5 : (nrm w).a = 0 := rfl
            rw [h2] at h5
            unfold nop
            rw [← h5]
          · exact ih _ _ _ (by rw [List.length_drop, List.length_cons]; omega) hc y hy
theorem spl_nop {x y : Wd} (h : nop x = nop y) : spl x = spl y ∧ snd x = snd y := by
  obtain ⟨a, b, c, d⟩ := x
  obtain ⟨e, f, g, i⟩ := y
  simp only [nop, Wd.mk.injEq, and_true] at h
  obtain ⟨rfl, rfl, rfl⟩ := h
  exact ⟨rfl, rfl⟩
theorem jna_nop : ∀ (l m : List Wd), l.map nop = m.map nop → jna l = jna m ∧ l.all snd = m.all snd
  | [], [], _ => ⟨rfl, rfl⟩
  | [], _ :: _, h => by cases h
  | _ :: _, [], h => by cases h
  | [x], [y], h => by
    injection h with h1 _
    obtain ⟨h2, h3⟩ := spl_nop h1
    exact ⟨h2, by simp [h3]⟩
  | [x], y :: z :: r, h => by injection h with _ h2; cases h2
  | x :: z :: r, [y], h => by injection h with _ h2; cases h2
  | x :: z :: r, y :: z' :: r', h => by
    injection h with h1 h4
    obtain ⟨h2, h3⟩ := spl_nop h1
    obtain ⟨h5, h6⟩ := jna_nop (z :: r) (z' :: r') h4
    refine ⟨?_, ?_⟩
    · show spl x ++ 32 :: jna (z :: r) = spl y ++ 32 :: jna (z' :: r')
      rw [h2, h5]
    · show (snd x && (z :: r).all snd) = (snd y && (z' :: r').all snd)
      rw [h3, h6]
theorem plc_nop : ∀ (l : List Wd) (k : Nat), (∀ x ∈ l, nrm x = nop x) → (plc k l).map nop = l.map nop
  | [], _, _ => rfl
  | x :: r, k, h => by
    show nop { nrm x with a := (k : Int) } :: (plc _ r).map nop = nop x :: r.map nop
    rw [plc_nop r _ (fun y hy => h y (by simp [hy])), h x (by simp)]
    rfl
theorem plc_len : ∀ (l : List Wd) (k : Nat), (plc k l).length = l.length
  | [], _ => rfl
  | _ :: r, k => by rw [plc, List.length_cons, List.length_cons, plc_len r]
end Go.Proofs.YteaanieohcanlaaDoor
