import Derived.Test.YthfijmabagjdkaaQtc
namespace Go.Proofs.Ythfijmabagjdkaa.Qy
open Go.RowKit Go.Maps

/-! The reference's reading of a pattern, step by step. -/
def fdR (L : List Wd) (i : Nat) : Bool := nmR L i && seR L (i + 1) 5 [58]
def opR (L : List Wd) (m : Rm) : Rm × Pn := if fdR L m.at_ = true then (⟨m.at_ + 2, m.ns ++ [pz], m.cs, 0, m.po⟩, { pz with fd := bs (L.getD m.at_ w0).t }) else (⟨m.at_, m.ns ++ [pz], m.cs, 0, m.po⟩, pz)
/-- A node's beginning: are there children to be read? -/
def ndH (L : List Wd) (m : Rm) (p : Pn) : Bool × Rm × Pn :=
  if txR L m.at_ = true then (false, ⟨m.at_ + 1, m.ns, m.cs, 0, m.po⟩, { p with lit := true, nm := bs (L.getD m.at_ w0).t })
  else if seR L m.at_ 5 [40] = true then
    if seR L (m.at_ + 1) 1 [95] = true then (true, ⟨m.at_ + 2, m.ns, m.cs, 0, m.po⟩, p)
    else if nmR L (m.at_ + 1) = true then (true, ⟨m.at_ + 2, m.ns, m.cs, 0, m.po⟩, { p with nm := bs (L.getD (m.at_ + 1) w0).t })
    else (true, ⟨m.at_ + 1, m.ns, m.cs, 200, m.at_ + 1⟩, { p with nm := ⟨#[]⟩ })
  else (true, ⟨m.at_ + 1, m.ns, m.cs, 200, m.at_⟩, p)
def upA (m : Rm) : Rm := ⟨m.at_ + 1, m.ns, m.cs, m.e, m.po⟩
/-- A node's capture. -/
def clR (L : List Wd) (m : Rm) (p : Pn) : Rm × Pn :=
  if m.e = 0 ∧ seR L m.at_ 5 [64] = true then
    if nmR L (m.at_ + 1) = true then
      (if 0 ≤ cap m.ns (bs (L.getD (m.at_ + 1) w0).t) then ⟨m.at_ + 2, m.ns, m.cs, 201, m.at_ + 1⟩ else ⟨m.at_ + 2, m.ns, m.cs, 0, m.po⟩, { p with cp := bs (L.getD (m.at_ + 1) w0).t })
    else (⟨m.at_ + 1, m.ns, m.cs, 200, m.at_ + 1⟩, { p with cp := ⟨#[]⟩ })
  else (m, p)
def stR (m : Rm) (i : Nat) (p : Pn) : Rm := ⟨m.at_, m.ns.set i p, m.cs, m.e, m.po⟩
/-- A pattern; a node's children. -/
def prR (L : List Wd) : Nat → Option Pn → Rm → Rm × Pn
  | 0, q, m => (⟨m.at_, m.ns, m.cs, 1, 0⟩, q.getD pz)
  | n + 1, none, m =>
    if (fdR L m.at_ || txR L m.at_ || seR L m.at_ 5 [40]) = false then (⟨m.at_, m.ns, m.cs, 200, m.at_⟩, pz)
    else if 32 ≤ m.ns.length then (⟨m.at_, m.ns, m.cs, 202, m.at_⟩, pz)
    else
      let h := ndH L (opR L m).1 (opR L m).2
      let k : Rm × Pn := if h.1 = true then (upA (prR L n (some h.2.2) h.2.1).1, (prR L n (some h.2.2) h.2.1).2) else (h.2.1, h.2.2)
      (stR (clR L k.1 k.2).1 m.ns.length (clR L k.1 k.2).2, pz)
  | n + 1, some p, m => if m.e = 0 ∧ seR L m.at_ 5 [41] = false then prR L n (some { p with kd := p.kd + 1 }) (prR L n none m).1 else (m, p)
theorem prR_pat (L : List Wd) (n : Nat) (m : Rm) : (prR L (n + 1) none m).1 = if (fdR L m.at_ || txR L m.at_ || seR L m.at_ 5 [40]) = false then ⟨m.at_, m.ns, m.cs, 200, m.at_⟩ else if 32 ≤ m.ns.length then ⟨m.at_, m.ns, m.cs, 202, m.at_⟩ else
      stR (clR L (if (ndH L (opR L m).1 (opR L m).2).1 = true then (upA (prR L n (some (ndH L (opR L m).1 (opR L m).2).2.2) (ndH L (opR L m).1 (opR L m).2).2.1).1, (prR L n (some (ndH L (opR L m).1 (opR L m).2).2.2) (ndH L (opR L m).1 (opR L m).2).2.1).2) else ((ndH L (opR L m).1 (opR L m).2).2.1, (ndH L (opR L m).1 (opR L m).2).2.2)).1 (if (ndH L (opR L m).1 (opR L m).2).1 = true then (upA (prR L n (some (ndH L (opR L m).1 (opR L m).2).2.2) (ndH L (opR L m).1 (opR L m).2).2.1).1, (prR L n (some (ndH L (opR L m).1 (opR L m).2).2.2) (ndH L (opR L m).1 (opR L m).2).2.1).2) else ((ndH L (opR L m).1 (opR L m).2).2.1, (ndH L (opR L m).1 (opR L m).2).2.2)).2).1 m.ns.length (clR L (if (ndH L (opR L m).1 (opR L m).2).1 = true then (upA (prR L n (some (ndH L (opR L m).1 (opR L m).2).2.2) (ndH L (opR L m).1 (opR L m).2).2.1).1, (prR L n (some (ndH L (opR L m).1 (opR L m).2).2.2) (ndH L (opR L m).1 (opR L m).2).2.1).2) else ((ndH L (opR L m).1 (opR L m).2).2.1, (ndH L (opR L m).1 (opR L m).2).2.2)).1 (if (ndH L (opR L m).1 (opR L m).2).1 = true then (upA (prR L n (some (ndH L (opR L m).1 (opR L m).2).2.2) (ndH L (opR L m).1 (opR L m).2).2.1).1, (prR L n (some (ndH L (opR L m).1 (opR L m).2).2.2) (ndH L (opR L m).1 (opR L m).2).2.1).2) else ((ndH L (opR L m).1 (opR L m).2).2.1, (ndH L (opR L m).1 (opR L m).2).2.2)).2).2 := by
  rw [prR]
  split
  · rfl
  · split <;> rfl
/-- Places stay near the words. -/
structure Nr (L : List Wd) (n : Nat) (m : Rm) : Prop where
  ok : m.e = 0 → m.at_ ≤ L.length
  le : m.at_ ≤ L.length + 3 + n
theorem fdR_lt {L : List Wd} {i : Nat} (h : fdR L i = true) : i + 1 < L.length := by
  unfold fdR at h
  rw [Bool.and_eq_true] at h
  exact (seR_lt h.2).1
theorem opR_nr {L : List Wd} {m : Rm} (h : m.at_ ≤ L.length) : (opR L m).1.at_ ≤ L.length ∧ (opR L m).1.e = 0 ∧ (opR L m).1.ns = m.ns ++ [pz] := by
  unfold opR
  split
  · next k => exact ⟨by have := fdR_lt k; show m.at_ + 2 ≤ _; omega, rfl, rfl⟩
  · exact ⟨h, rfl, rfl⟩
theorem ndH_nr {L : List Wd} {m : Rm} {p : Pn} (h : m.at_ ≤ L.length) : ((ndH L m p).2.1.e = 0 → (ndH L m p).2.1.at_ ≤ L.length) ∧ (ndH L m p).2.1.at_ ≤ L.length + 1 ∧ (ndH L m p).2.1.ns = m.ns ∧ (ndH L m p).2.2.kd = p.kd ∧ ((ndH L m p).1 = false → (ndH L m p).2.1.e = 0) := by
  unfold ndH
  split
  · next k => have := (txR_lt k).1; exact ⟨fun _ => by show m.at_ + 1 ≤ _; omega, by show m.at_ + 1 ≤ _; omega, rfl, rfl, fun _ => rfl⟩
  · split
    · next k =>
      have := (seR_lt k).1
      split
      · next k2 => have := (seR_lt k2).1; exact ⟨fun _ => by show m.at_ + 2 ≤ _; omega, by show m.at_ + 2 ≤ _; omega, rfl, rfl, fun e => by cases e⟩
      · split
        · next k2 => have := (nmR_lt k2).1; exact ⟨fun _ => by show m.at_ + 2 ≤ _; omega, by show m.at_ + 2 ≤ _; omega, rfl, rfl, fun e => by cases e⟩
        · exact ⟨fun e => (by cases e), by show m.at_ + 1 ≤ _; omega, rfl, rfl, fun e => by cases e⟩
    · exact ⟨fun e => (by cases e), by show m.at_ + 1 ≤ _; omega, rfl, rfl, fun e => by cases e⟩
theorem clR_nr {L : List Wd} {m : Rm} {p : Pn} : ((m.e = 0 → m.at_ ≤ L.length) → (clR L m p).1.e = 0 → (clR L m p).1.at_ ≤ L.length) ∧ ((clR L m p).1.at_ ≤ m.at_ ∨ (clR L m p).1.at_ ≤ L.length) ∧ (clR L m p).1.ns = m.ns := by
  unfold clR
  split
  · next k =>
    have k1 := (seR_lt k.2).1
    split
    · next k2 =>
      have := (nmR_lt k2).1
      split
      · exact ⟨fun _ e => (by cases e), .inr (by show m.at_ + 2 ≤ _; omega), rfl⟩
      · exact ⟨fun _ _ => by show m.at_ + 2 ≤ _; omega, .inr (by show m.at_ + 2 ≤ _; omega), rfl⟩
    · exact ⟨fun _ e => (by cases e), .inr (by show m.at_ + 1 ≤ _; omega), rfl⟩
  · exact ⟨fun h e => h e, .inl (Nat.le_refl _), rfl⟩
theorem ndH_up {L : List Wd} {m : Rm} {p : Pn} (_h : m.at_ ≤ L.length) : (ndH L m p).2.1.e = 0 → m.at_ < (ndH L m p).2.1.at_ ∧ ((ndH L m p).1 = true → m.at_ + 2 ≤ (ndH L m p).2.1.at_) := by
  unfold ndH
  split
  · exact fun _ => ⟨by show m.at_ < m.at_ + 1; omega, fun e => by cases e⟩
  · split
    · split
      · exact fun _ => ⟨by show m.at_ < m.at_ + 2; omega, fun _ => Nat.le_refl _⟩
      · split
        · exact fun _ => ⟨by show m.at_ < m.at_ + 2; omega, fun _ => Nat.le_refl _⟩
        · exact fun e => by cases e
    · exact fun e => by cases e
theorem opR_up {L : List Wd} {m : Rm} : m.at_ ≤ (opR L m).1.at_ := by
  unfold opR
  split
  · show m.at_ ≤ m.at_ + 2; omega
  · exact Nat.le_refl _
theorem clR_up {L : List Wd} {m : Rm} {p : Pn} : (clR L m p).1.e = 0 → m.e = 0 ∧ m.at_ ≤ (clR L m p).1.at_ := by
  unfold clR
  split
  · next k =>
    split
    · split
      · exact fun e => by cases e
      · exact fun _ => ⟨k.1, by show m.at_ ≤ m.at_ + 2; omega⟩
    · exact fun e => by cases e
  · exact fun e => ⟨e, Nat.le_refl _⟩
theorem prR_stop {L : List Wd} {n : Nat} {p : Pn} {m : Rm} (h : m.e ≠ 0) : prR L (n + 1) (some p) m = (m, p) := by
  rw [prR, if_neg (fun k => h k.1)]
theorem prR_ne {L : List Wd} {n : Nat} {p : Pn} {m : Rm} (h : m.e ≠ 0) : (prR L n (some p) m).1.e ≠ 0 := by
  cases n with
  | zero => exact fun e => by cases e
  | succ n => rw [prR_stop h]; exact h
/-- What reading does to the sizes. -/
structure Nq (L : List Wd) (n : Nat) (d : Nat) (m m' : Rm) : Prop where
  ok : m'.e = 0 → m.at_ + d ≤ m'.at_ ∧ m'.at_ ≤ L.length
  le : m'.at_ ≤ L.length + 3 + n
  nl : m'.ns.length ≤ 32
  ng : m.ns.length ≤ m'.ns.length
theorem prR_nq (L : List Wd) : ∀ n, (∀ m : Rm, m.e = 0 → m.at_ ≤ L.length → m.ns.length ≤ 32 → Nq L n 1 m (prR L n none m).1) ∧ (∀ (p : Pn) (m : Rm) (n' : Nat), n ≤ n' → (m.e = 0 → m.at_ ≤ L.length) → m.at_ ≤ L.length + 3 + n' → m.ns.length ≤ 32 → Nq L n' 0 m (prR L n (some p) m).1 ∧ ((prR L n (some p) m).1.e = 0 → seR L (prR L n (some p) m).1.at_ 5 [41] = true))
  | 0 => ⟨fun m _ h1 h2 => ⟨fun e => (by cases e), by show m.at_ ≤ _; omega, h2, Nat.le_refl _⟩, fun p m n' _ _ h1 h2 => ⟨⟨fun e => (by cases e), h1, h2, Nat.le_refl _⟩, fun e => by cases e⟩⟩
  | n + 1 => by
    obtain ⟨ih1, ih2⟩ := prR_nq L n
    refine ⟨fun m h0 h1 h2 => ?_, fun p m n' hn h0 h1 h2 => ?_⟩
    · rw [prR_pat]
      split
      · exact ⟨fun e => (by cases e), by show m.at_ ≤ _; omega, h2, Nat.le_refl _⟩
      · split
        · exact ⟨fun e => (by cases e), by show m.at_ ≤ _; omega, h2, Nat.le_refl _⟩
        · next hl =>
          obtain ⟨o1, o2, o3⟩ := opR_nr (L := L) (m := m) h1
          have o4 := opR_up (L := L) (m := m)
          obtain ⟨a1, a2, a3, a4, a5⟩ := ndH_nr (L := L) (m := (opR L m).1) (p := (opR L m).2) o1
          have a6 := ndH_up (L := L) (m := (opR L m).1) (p := (opR L m).2) o1
          have hln : (opR L m).1.ns.length = m.ns.length + 1 := by rw [o3]; simp
          -- the state behind the children
          have key : ∀ K : Rm × Pn, K = (if (ndH L (opR L m).1 (opR L m).2).1 = true then (upA (prR L n (some (ndH L (opR L m).1 (opR L m).2).2.2) (ndH L (opR L m).1 (opR L m).2).2.1).1, (prR L n (some (ndH L (opR L m).1 (opR L m).2).2.2) (ndH L (opR L m).1 (opR L m).2).2.1).2) else ((ndH L (opR L m).1 (opR L m).2).2.1, (ndH L (opR L m).1 (opR L m).2).2.2)) → (K.1.e = 0 → m.at_ + 1 ≤ K.1.at_ ∧ K.1.at_ ≤ L.length) ∧ K.1.at_ ≤ L.length + 3 + (n + 1) ∧ K.1.ns.length ≤ 32 ∧ m.ns.length ≤ K.1.ns.length := fun K hK => by
            by_cases hb : (ndH L (opR L m).1 (opR L m).2).1 = true
            · rw [if_pos hb] at hK
              obtain ⟨q, hq⟩ := ih2 (ndH L (opR L m).1 (opR L m).2).2.2 (ndH L (opR L m).1 (opR L m).2).2.1 n (Nat.le_refl _) a1 (by omega) (by rw [a3, hln]; omega)
              rw [hK]
              refine ⟨fun e => ?_, ?_, q.nl, ?_⟩
              · have e' : (prR L n (some (ndH L (opR L m).1 (opR L m).2).2.2) (ndH L (opR L m).1 (opR L m).2).2.1).1.e = 0 := e
                have q1 := q.ok e'
                have q2 := (seR_lt (hq e')).1
                have hz : (ndH L (opR L m).1 (opR L m).2).2.1.e = 0 := by
                  rcases Classical.em ((ndH L (opR L m).1 (opR L m).2).2.1.e = 0) with z | z
                  · exact z
                  · exact absurd e' (prR_ne z)
                have := a6 hz
                refine ⟨?_, ?_⟩
                · show m.at_ + 1 ≤ (prR L n _ _).1.at_ + 1; omega
                · show (prR L n _ _).1.at_ + 1 ≤ _; omega
              · show (prR L n _ _).1.at_ + 1 ≤ _
                have := q.le; omega
              · have := q.ng
                rw [a3, hln] at this
                show m.ns.length ≤ (prR L n _ _).1.ns.length
                omega
            · rw [if_neg hb] at hK
              rw [hK]
              refine ⟨fun e => ?_, ?_, ?_, ?_⟩
              · have := a6 e; have := a1 e
                show m.at_ + 1 ≤ (ndH L (opR L m).1 (opR L m).2).2.1.at_ ∧ (ndH L (opR L m).1 (opR L m).2).2.1.at_ ≤ _
                omega
              · show (ndH L (opR L m).1 (opR L m).2).2.1.at_ ≤ _; omega
              · show (ndH L (opR L m).1 (opR L m).2).2.1.ns.length ≤ 32; rw [a3, hln]; omega
              · show m.ns.length ≤ (ndH L (opR L m).1 (opR L m).2).2.1.ns.length; rw [a3, hln]; omega
          obtain ⟨K, hK⟩ : ∃ K, K = (if (ndH L (opR L m).1 (opR L m).2).1 = true then (upA (prR L n (some (ndH L (opR L m).1 (opR L m).2).2.2) (ndH L (opR L m).1 (opR L m).2).2.1).1, (prR L n (some (ndH L (opR L m).1 (opR L m).2).2.2) (ndH L (opR L m).1 (opR L m).2).2.1).2) else ((ndH L (opR L m).1 (opR L m).2).2.1, (ndH L (opR L m).1 (opR L m).2).2.2)) := ⟨_, rfl⟩
          rw [← hK]
          obtain ⟨k1, k2, k3, k4⟩ := key K hK
          obtain ⟨c1, c2, c3⟩ := clR_nr (L := L) (m := K.1) (p := K.2)
          have c4 := clR_up (L := L) (m := K.1) (p := K.2)
          refine ⟨fun e => ?_, ?_, ?_, ?_⟩
          · have e' : (clR L K.1 K.2).1.e = 0 := e
            have x1 := c4 e'
            have x2 := k1 x1.1
            have x3 := c1 (fun z => (k1 z).2) e'
            show m.at_ + 1 ≤ (clR L K.1 K.2).1.at_ ∧ (clR L K.1 K.2).1.at_ ≤ _
            omega
          · show (clR L K.1 K.2).1.at_ ≤ _
            omega
          · show ((clR L K.1 K.2).1.ns.set _ _).length ≤ 32
            rw [List.length_set, c3]; exact k3
          · show m.ns.length ≤ ((clR L K.1 K.2).1.ns.set _ _).length
            rw [List.length_set, c3]; exact k4
    · rw [prR]
      split
      · next hc =>
        have x := ih1 m hc.1 (h0 hc.1) h2
        obtain ⟨y, hy⟩ := ih2 { p with kd := p.kd + 1 } (prR L n none m).1 n' (by omega) (fun e => (x.ok e).2) (by have := x.le; omega) x.nl
        refine ⟨⟨fun e => ?_, y.le, y.nl, Nat.le_trans x.ng y.ng⟩, hy⟩
        have z1 := y.ok e
        have hz : (prR L n none m).1.e = 0 := by
          rcases Classical.em ((prR L n none m).1.e = 0) with z | z
          · exact z
          · exact absurd e (prR_ne z)
        have z2 := x.ok hz
        exact ⟨by omega, z1.2⟩
      · next hc =>
        refine ⟨⟨fun e => ⟨Nat.le_refl _, h0 e⟩, h1, h2, Nat.le_refl _⟩, fun e => ?_⟩
        have e' : m.e = 0 := e
        rcases Bool.eq_false_or_eq_true (seR L m.at_ 5 [41]) with z | z
        · exact z
        · exact absurd ⟨e', z⟩ hc
end Go.Proofs.Ythfijmabagjdkaa.Qy
