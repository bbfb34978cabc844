import Derived.Test.YtcfmpmhdjkchjabThk
namespace Go.Proofs.Ytcfmpmhdjkchjab
open Go.RowKit Go.Maps

/-- The nodes of a row, told by its block; each block bears a kind. -/
abbrev Cm := Nat → Nat × List Nd
def ct (C : Cm) (v : Value) : List Nd := match v.ownBlock with
  | none => []
  | some r => (C r).2
theorem ct_none {C : Cm} {v : Value} (h : v.ownBlock = none) : ct C v = [] := by unfold ct; rw [h]
theorem ct_some {C : Cm} {v : Value} {r : Nat} (h : v.ownBlock = some r) : ct C v = (C r).2 := by unfold ct; rw [h]
/-- A row of nodes of kind k. -/
def Z (B : Nat) (W : World) (C : Cm) (k : Nat) (v : Value) : Prop :=
  W.ownsRow B 65 7 v (ct C v).length (flat nf (ct C v)) ∧ ∀ r, v.ownBlock = some r → (C r).1 = k
theorem Z.ns {B k : Nat} {W : World} {C : Cm} {v : Value} (h : Z B W C k v) : Ns W v (ct C v) := row_rw h.1 (by decide)
/-- What a step keeps: all rows, and what those bear that are not of kind k. -/
def Tk (B k : Nat) (W : World) (C : Cm) (W' : World) (C' : Cm) : Prop :=
  ∀ j v, Z B W C j v → Z B W' C' j v ∧ (ct C' v).length = (ct C v).length ∧ (j ≠ k → ct C' v = ct C v)
theorem Tk.trans {B k : Nat} {W W' W'' : World} {C C' C'' : Cm} (h : Tk B k W C W' C') (h' : Tk B k W' C' W'' C'') : Tk B k W C W'' C'' := fun j v hv => by
  obtain ⟨a1, a2, a3⟩ := h j v hv
  obtain ⟨b1, b2, b3⟩ := h' j v a1
  exact ⟨b1, b2.trans a2, fun hj => (b3 hj).trans (a3 hj)⟩
theorem Tk.up {B k : Nat} {W W' : World} {C : Cm} (hb : Below W.heap.size W W') : Tk B k W C W' C := fun _ _ hv => ⟨⟨row_up hv.1 hb, hv.2⟩, rfl, fun _ => rfl⟩
theorem Tk.tag {B k : Nat} {W W' : World} {C : Cm} {B' e s n : Nat} {u : Value} {xs : List Value} (hu : W.ownsRow B' e s u n xs) (he : 65 ≠ e) (hg : W.grownBy W' u.ownBlock) : Tk B k W C W' C := fun _ _ hv => ⟨⟨hv.1.kept hg (tag_ne hv.1 hu he), hv.2⟩, rfl, fun _ => rfl⟩
theorem flat_nil {α : Type} (f : α → List Value) : flat f [] = [] := rfl
theorem birth {B : Nat} {W W' : World} (C : Cm) {v : Value} {t : List Nd} (k : Nat) (hB : B ≤ W.heap.size) (ho : W'.ownsRow W.heap.size 65 7 v t.length (flat nf t)) (hb : Below W.heap.size W W') :
    ∃ C', Z B W' C' k v ∧ ct C' v = t ∧ ∀ m, Tk B m W C W' C' := by
  have e1 : ct (fun r => if r < W.heap.size then C r else (k, t)) v = t := by
    cases hv : v.ownBlock with
    | none =>
      rw [ct_none hv]
      rcases ho.2 with ⟨_, h0⟩ | ⟨g, cap, cur, rfl, _⟩
      · exact (List.eq_nil_of_length_eq_zero h0).symm
      · cases hv
    | some r =>
      rw [ct_some hv]
      have := (ho.lt r hv).1
      show (if r < W.heap.size then C r else (k, t)).2 = t
      rw [if_neg (by omega)]
  refine ⟨fun r => if r < W.heap.size then C r else (k, t), ⟨?_, fun r hr => ?_⟩, e1, fun m j u hu => ?_⟩
  · rw [e1]; exact row_base ho hB
  · have := (ho.lt r hr).1
    show (if r < W.heap.size then C r else (k, t)).1 = k
    rw [if_neg (by omega)]
  · have e2 : ct (fun r => if r < W.heap.size then C r else (k, t)) u = ct C u := by
      cases hv : u.ownBlock with
      | none => rw [ct_none hv, ct_none hv]
      | some r =>
        rw [ct_some hv, ct_some hv]
        have := (hu.1.lt r hv).2
        show (if r < W.heap.size then C r else (k, t)).2 = _
        rw [if_pos this]
    refine ⟨⟨by rw [e2]; exact row_up hu.1 hb, fun r hr => ?_⟩, by rw [e2], fun _ => e2⟩
    have := (hu.1.lt r hr).2
    show (if r < W.heap.size then C r else (k, t)).1 = _
    rw [if_pos this]
    exact hu.2 r hr
theorem spoilt {B k : Nat} {W W' : World} {C : Cm} {v : Value} {t' : List Nd} (h : Z B W C k v) (ho : W'.ownsRow B 65 7 v t'.length (flat nf t')) (hl : t'.length = (ct C v).length) (hg : W.grownBy W' v.ownBlock) :
    ∃ C', Tk B k W C W' C' := by
  cases hv : v.ownBlock with
  | none =>
    rw [hv] at hg
    exact ⟨C, fun j u hu => ⟨⟨hu.1.kept hg (by cases u.ownBlock with | none => exact .inl rfl | some r => exact .inr (fun h => by cases h)), hu.2⟩, rfl, fun _ => rfl⟩⟩
  | some g =>
    refine ⟨fun r => if r = g then (k, t') else C r, fun j u hu => ?_⟩
    cases hu' : u.ownBlock with
    | none =>
      have e2 : ct (fun r => if r = g then (k, t') else C r) u = ct C u := by rw [ct_none hu', ct_none hu']
      exact ⟨⟨by rw [e2]; exact hu.1.kept hg (.inl hu'), fun r hr => by rw [hu'] at hr; cases hr⟩, by rw [e2], fun _ => e2⟩
    | some r =>
      by_cases hrg : r = g
      · subst hrg
        have hct : ct C u = ct C v := by rw [ct_some hu', ct_some hv]
        have huv : u = v := by
          rcases h.1.2 with ⟨rfl, _⟩ | ⟨g1, cap1, cur1, e1, _, q1, _, _, q2, _⟩
          · cases hv
          · rcases hu.1.2 with ⟨rfl, _⟩ | ⟨g2, cap2, cur2, e2, _, q3, _, _, q4, _⟩
            · cases hu'
            · rw [e1] at hv
              rw [e2] at hu'
              cases hv
              cases hu'
              rw [q1] at q3
              cases q3
              have hc : cap1 = cap2 := by omega
              rw [e1, e2, hct, hc]
        subst huv
        have e2 : ct (fun x => if x = r then (k, t') else C x) u = t' := by rw [ct_some hu']; show (if r = r then (k, t') else C r).2 = t'; rw [if_pos rfl]
        have hjk : j = k := (hu.2 r hu').symm.trans (h.2 r hu')
        refine ⟨⟨by rw [e2]; exact ho, fun x hx => ?_⟩, by rw [e2, hl], fun hj => absurd hjk hj⟩
        rw [hu'] at hx
        cases hx
        show (if r = r then (k, t') else C r).1 = j
        rw [if_pos rfl, hjk]
      · have e2 : ct (fun x => if x = g then (k, t') else C x) u = ct C u := by rw [ct_some hu', ct_some hu']; show (if r = g then (k, t') else C r).2 = _; rw [if_neg hrg]
        refine ⟨⟨by rw [e2]; exact hu.1.kept hg (.inr (by rw [hu', hv]; exact fun h => hrg (Option.some.inj h))), fun x hx => ?_⟩, by rw [e2], fun _ => e2⟩
        rw [hu'] at hx
        cases hx
        show (if r = g then (k, t') else C r).1 = j
        rw [if_neg hrg]
        exact hu.2 r hu'
/-- Two rows that do not share a block. -/
def Nb (x y : Value) : Prop := x.ownBlock = none ∨ x.ownBlock ≠ y.ownBlock
theorem Nb.symm {x y : Value} (h : Nb x y) : Nb y x := by
  rcases h with h | h
  · cases hy : y.ownBlock with
    | none => exact .inl hy
    | some r => exact .inr (by rw [hy, h]; exact fun e => by cases e)
  · exact .inr (fun e => h e.symm)
theorem Nb.nil (x : Value) : Nb (.slice none 0 0) x := .inl rfl
theorem Nb.app {W : World} {B e s n : Nat} {u v v' : Value} {xs : List Value} (h : Nb u v) (hu : W.ownsRow B e s u n xs) (hv : v'.ownBlock = v.ownBlock ∨ v'.ownBlock = some W.heap.size) : Nb u v' := by
  rcases hv with hv | hv
  · unfold Nb; rw [hv]; exact h
  · cases hx : u.ownBlock with
    | none => exact .inl hx
    | some r =>
      refine .inr ?_
      rw [hx, hv]
      have := (hu.lt r hx).2
      exact fun e => by have := Option.some.inj e; omega
end Go.Proofs.Ytcfmpmhdjkchjab
