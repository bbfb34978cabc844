import Derived.Test.YthfijmabagjdkaaQpu
namespace Go.Proofs.Ythfijmabagjdkaa.Qy
open Go.RowKit Go.Maps

/-- All children that nodes have. -/
def ks : List Pn → Int
  | [] => 0
  | p :: l => p.kd + ks l
theorem ks_app : ∀ (l k : List Pn), ks (l ++ k) = ks l + ks k
  | [], k => by simp [ks]
  | p :: l, k => by rw [List.cons_append, ks, ks_app l k, ks]; omega
theorem ks_set (x : Pn) : ∀ (l : List Pn) (i : Nat), i < l.length → ks (l.set i x) = ks l - (l.getD i pz).kd + x.kd
  | [], _, h => by cases h
  | p :: l, 0, _ => by
    show x.kd + ks l = p.kd + ks l - p.kd + x.kd
    omega
  | p :: l, i + 1, h => by
    show p.kd + ks (l.set i x) = p.kd + ks l - (l.getD i pz).kd + x.kd
    rw [ks_set x l i (by simpa using h)]; omega
theorem ks_le : ∀ (l : List Pn), (∀ p ∈ l, 0 ≤ p.kd) → 0 ≤ ks l ∧ ∀ p ∈ l, p.kd ≤ ks l
  | [], _ => ⟨Int.le_refl _, fun p hp => by cases hp⟩
  | p :: l, h => by
    obtain ⟨h1, h2⟩ := ks_le l (fun q hq => h q (by simp [hq]))
    have h3 := h p (by simp)
    refine ⟨by show 0 ≤ p.kd + ks l; omega, fun q hq => ?_⟩
    show q.kd ≤ p.kd + ks l
    rcases List.mem_cons.1 hq with rfl | hq
    · omega
    · have := h2 q hq; omega
/-- Sizes of a reader's state. -/
structure Iv (s : Rs) : Prop where
  nl : s.ns.length ≤ 32
  kb : ∀ p ∈ s.ns, 0 ≤ p.kd
  ks : ks s.ns ≤ (s.ns.length : Int)
/-- Words go, nodes come; what stays of nodes that are no child is at least d more. -/
structure Dn (s s' : Rs) (d : Int) : Prop where
  iv : Iv s'
  ws : s'.ws.length ≤ s.ws.length
  ns : s.ns.length ≤ s'.ns.length
  dz : (s.ns.length : Int) - ks s.ns + d ≤ (s'.ns.length : Int) - Qy.ks s'.ns
theorem Dn.refl {s : Rs} (h : Iv s) : Dn s s 0 := ⟨h, Nat.le_refl _, Nat.le_refl _, by omega⟩
theorem Dn.trans {a b c : Rs} {d e : Int} (h : Dn a b d) (k : Dn b c e) : Dn a c (d + e) := ⟨k.iv, Nat.le_trans k.ws h.ws, Nat.le_trans h.ns k.ns, by have := h.dz; have := k.dz; omega⟩
theorem Dn.trans0 {a b c : Rs} {d : Int} (h : Dn a b d) (k : Dn b c 0) : Dn a c d := by have := h.trans k; rwa [Int.add_zero] at this
theorem Iv.less {s : Rs} (h : Iv s) (ws : List Wd) (hw : ws.length ≤ s.ws.length) (cs : List Cd) (co : Int) : Dn s ⟨ws, s.ns, cs, co⟩ 0 :=
  ⟨⟨h.nl, h.kb, h.ks⟩, hw, Nat.le_refl _, by show _ ≤ (s.ns.length : Int) - Qy.ks s.ns; omega⟩
theorem Iv.tl {s : Rs} (h : Iv s) : Dn s (tl s) 0 := h.less _ (by simp) _ _
theorem getD_mem {l : List Pn} {i : Nat} (h : i < l.length) : l.getD i pz ∈ l := by
  rw [List.getD_eq_getElem?_getD, List.getElem?_eq_getElem h]; exact List.getElem_mem h
theorem Iv.up {s : Rs} (h : Iv s) (i : Nat) (f : Pn → Pn) (hf : ∀ p, (f p).kd = p.kd) (hi : i < s.ns.length) : Dn s (upN s i f) 0 := by
  have hk := ks_set (f (s.ns.getD i pz)) s.ns i hi
  rw [hf] at hk
  have hl : (s.ns.set i (f (s.ns.getD i pz))).length = s.ns.length := List.length_set
  refine ⟨⟨by show (s.ns.set i _).length ≤ 32; rw [hl]; exact h.nl, fun p hp => ?_, ?_⟩, Nat.le_refl _, by show _ ≤ (s.ns.set i _).length; rw [hl]; exact Nat.le_refl _, ?_⟩
  · rcases List.mem_or_eq_of_mem_set hp with hp | rfl
    · exact h.kb p hp
    · rw [hf]; exact h.kb _ (getD_mem hi)
  · show Qy.ks (s.ns.set i _) ≤ ((s.ns.set i _).length : Int)
    rw [hl, hk]; have := h.ks; omega
  · show _ ≤ ((s.ns.set i _).length : Int) - Qy.ks (s.ns.set i _)
    rw [hl, hk]; omega
theorem Iv.kid {s : Rs} (h : Iv s) (i : Nat) (hi : i < s.ns.length) (hd : 1 ≤ (s.ns.length : Int) - Qy.ks s.ns) : Dn s (upN s i fun p => { p with kd := p.kd + 1 }) (-1) := by
  have hk := ks_set { (s.ns.getD i pz) with kd := (s.ns.getD i pz).kd + 1 } s.ns i hi
  have hl : (s.ns.set i { (s.ns.getD i pz) with kd := (s.ns.getD i pz).kd + 1 }).length = s.ns.length := List.length_set
  simp only at hk
  refine ⟨⟨by show (s.ns.set i _).length ≤ 32; rw [hl]; exact h.nl, fun p hp => ?_, ?_⟩, Nat.le_refl _, by show _ ≤ (s.ns.set i _).length; rw [hl]; exact Nat.le_refl _, ?_⟩
  · rcases List.mem_or_eq_of_mem_set hp with hp | rfl
    · exact h.kb p hp
    · have := h.kb _ (getD_mem hi)
      show 0 ≤ (s.ns.getD i pz).kd + 1
      omega
  · show Qy.ks (s.ns.set i _) ≤ ((s.ns.set i _).length : Int)
    rw [hl, hk]; omega
  · show _ ≤ ((s.ns.set i _).length : Int) - Qy.ks (s.ns.set i _)
    rw [hl, hk]; omega
theorem Iv.kd {s : Rs} (h : Iv s) (i : Nat) (hi : i < s.ns.length) : 0 ≤ (s.ns.getD i pz).kd ∧ (s.ns.getD i pz).kd ≤ 32 := by
  have h1 := (ks_le s.ns h.kb).2 _ (getD_mem hi)
  have h2 := h.kb _ (getD_mem hi)
  have := h.ks
  have := h.nl
  exact ⟨h2, by omega⟩
theorem cpt_dn {s s' : Rs} {i : Nat} (h : Iv s) (hi : i < s.ns.length) (he : cpt s i = (true, s')) : Dn s s' 0 := by
  unfold cpt at he
  split at he
  · cases hc : cnm (Qy.tl s) false with
    | mk b s1 =>
      rw [hc] at he
      cases b with
      | false => simp at he
      | true =>
        simp only [Prod.mk.injEq, true_and] at he
        unfold cnm at hc
        split at hc
        · split at hc
          · simp only [Prod.mk.injEq, true_and] at hc
            subst hc he
            have h2 : Dn s (Qy.tl (Qy.tl s)) 0 := h.tl.trans0 h.tl.iv.tl
            refine h2.trans0 ?_
            exact Iv.up h2.iv _ _ (by intro p; rfl) hi
          · simp at hc
        · simp at hc
  · simp only [Prod.mk.injEq, true_and] at he
    subst he
    exact Dn.refl h
theorem opn_dn {s : Rs} (h : Iv s) (hl : s.ns.length ≠ 32) : Dn s (opn s) 1 ∧ (opn s).ns.length = s.ns.length + 1 := by
  have hk : Qy.ks (s.ns ++ [pz]) = Qy.ks s.ns := by rw [ks_app]; show _ + (0 + 0) = _; omega
  have h1 : Dn s ⟨s.ws, s.ns ++ [pz], s.cs, s.co⟩ 1 := by
    refine ⟨⟨?_, fun p hp => ?_, ?_⟩, Nat.le_refl _, by simp, ?_⟩
    · have := h.nl; simp; omega
    · rcases List.mem_append.1 hp with hp | hp
      · exact h.kb p hp
      · rw [List.mem_singleton] at hp
        subst hp
        exact Int.le_refl _
    · simp only [hk, List.length_append, List.length_cons, List.length_nil]; have := h.ks; omega
    · simp only [hk, List.length_append, List.length_cons, List.length_nil]; omega
  unfold opn fld
  split
  · have h2 := h1.iv.less (s.ws.drop 2) (by simp) s.cs s.co
    refine ⟨h1.trans0 (h2.trans0 ?_), ?_⟩
    · exact Iv.up h2.iv _ _ (by intro p; rfl) (by simp)
    · simp [upN]
  · exact ⟨h1, by simp⟩
/-- A node without its field and capture. -/
def ndS (n : Nat) (s : Rs) (i : Nat) : Bool × Rs :=
  if !ndA s then (false, fl s 200)
  else if (hd s).k = 2 then (true, upN (tl s) i fun p => { p with lit := true, nm := bs (hd s).t })
  else if (hd (tl s)).k ≠ 1 then (false, fl (tl s) 200)
  else rdP n (some i) (tl (if nmA (tl s) then upN (tl s) i fun p => { p with nm := bs (hd (tl s)).t } else tl s))
theorem rdP_node (n : Nat) (s : Rs) : rdP (n + 1) none s = if !fdA s && !ndA s then (false, fl s 200) else if s.ns.length = 32 then (false, fl s 202) else match ndS n (opn s) s.ns.length with
    | (true, s1) => cpt s1 s.ns.length
    | (false, s1) => (false, s1) := by
  conv => lhs; unfold rdP
  unfold ndS
  split
  · rfl
  · split
    · rfl
    · split
      · rfl
      · split
        · rfl
        · split
          · rfl
          · rfl
theorem ndA_ne {s : Rs} (h : ndA s = true) : (tl s).ws.length + 1 = s.ws.length := by
  obtain ⟨ws, ns, cs, co⟩ := s
  cases ws with
  | nil => simp [ndA, se, hd, w0] at h
  | cons x l => simp [tl]
/-- The state behind a node's name. -/
theorem nms_dn {s : Rs} (h : Iv s) (i : Nat) (hi : i < s.ns.length) : Dn s (tl (if nmA s then upN s i fun p => { p with nm := bs (hd s).t } else s)) 0 := by
  split
  · have h1 : Dn s (upN s i fun p => { p with nm := bs (hd s).t }) 0 := Iv.up h _ _ (by intro p; rfl) hi
    exact h1.trans0 h1.iv.tl
  · exact h.tl
theorem rdP_dn : ∀ (n : Nat), (∀ s s', rdP n none s = (true, s') → Iv s → Dn s s' 1 ∧ s'.ws.length < s.ws.length) ∧ (∀ i s s', rdP n (some i) s = (true, s') → Iv s → i < s.ns.length → Dn s s' 0) := by
  intro n
  induction n with
  | zero => exact ⟨fun s s' h => by simp [rdP] at h, fun i s s' h => by simp [rdP] at h⟩
  | succ n ih =>
    obtain ⟨ih1, ih2⟩ := ih
    constructor
    · intro s s' he h
      rw [rdP_node] at he
      split at he
      · simp at he
      · split at he
        · simp at he
        · next hl =>
          obtain ⟨h1, h2⟩ := opn_dn h hl
          have h3 : ∀ s1, ndS n (opn s) s.ns.length = (true, s1) → Dn (opn s) s1 0 ∧ s1.ws.length < (opn s).ws.length := by
            intro s1 hs1
            unfold ndS at hs1
            split at hs1
            · simp at hs1
            · next hnd =>
              have hne := ndA_ne (s := opn s) (by simpa using hnd)
              split at hs1
              · simp only [Prod.mk.injEq, true_and] at hs1
                have h4 := Iv.up h1.iv.tl.iv s.ns.length (fun p => { p with lit := true, nm := bs (hd (opn s)).t }) (by intro p; rfl) (by show _ < (opn s).ns.length; omega)
                rw [hs1] at h4
                exact ⟨h1.iv.tl.trans0 h4, by have := h4.ws; omega⟩
              · split at hs1
                · simp at hs1
                · have h4 := nms_dn h1.iv.tl.iv s.ns.length (by show _ < (opn s).ns.length; omega)
                  have h5 := ih2 _ _ _ hs1 h4.iv (by have := h4.ns; have h9 : (tl (opn s)).ns.length = (opn s).ns.length := rfl; omega)
                  exact ⟨h1.iv.tl.trans0 (h4.trans0 h5), by have := h4.ws; have := h5.ws; omega⟩
          cases hc : ndS n (opn s) s.ns.length with
          | mk b s1 =>
            rw [hc] at he
            cases b with
            | false => simp at he
            | true =>
              simp only at he
              obtain ⟨h4, h5⟩ := h3 s1 hc
              have h6 := cpt_dn h4.iv (by have := h4.ns; omega) he
              exact ⟨(h1.trans0 h4).trans0 h6, by have := h6.ws; have := h1.ws; omega⟩
    · intro i s s' he h hi
      unfold rdP at he
      split at he
      · simp only [Prod.mk.injEq, true_and] at he
        subst he
        exact h.tl
      · cases hc : rdP n none s with
        | mk b s1 =>
          rw [hc] at he
          cases b with
          | false => simp at he
          | true =>
            simp only at he
            obtain ⟨h1, h2⟩ := ih1 _ _ hc h
            have h3 := h1.iv.kid i (by have := h1.ns; omega) (by have := h1.dz; have := h.ks; omega)
            have h4 := ih2 i _ _ he h3.iv (by have := h1.ns; have := h3.ns; omega)
            have h5 := (h1.trans h3).trans0 h4
            exact h5
end Go.Proofs.Ythfijmabagjdkaa.Qy
