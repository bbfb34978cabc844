import Derived.Test.YthfijmabagjdkaaCue
import Derived.ScopeJumps
import Derived.WalkMore
namespace Go
/-- As Q; by a goto: J of that label. -/
def Exit.jumps (J : Nat → Act → World → Prop) (Q : Exit → Act → World → Prop) : Exit → Act → World → Prop
  | .goto l, a, w => J l a w
  | e, a, w => Q e a w
/-- A scope with several labels, and a number that falls from jump to jump. -/
theorem wp_scope_labels {P : Program} {a : Act} {w : World} {Q : Exit → Act → World → Prop} {c : Code} (J : Nat → Nat → Act → World → Prop)
    (first : c.wp P (Exit.jumps (fun l a' w' => ∃ g, J l g a' w') Q) a w)
    (pass : ∀ l g a w, J l g a w → ∃ rest, findLabel c l = some rest ∧ rest.wp P (Exit.jumps (fun l' a' w' => ∃ g', g' < g ∧ J l' g' a' w') Q) a w) : (Code.scope c).wp P Q a w := by
  intro b k cs
  have key : ∀ n l a w, J l n a w → ∃ rest, findLabel c l = some rest ∧ ∃ e a' w', Q e a' w' ∧ Arrives P (lone (b.at a (.code rest :: .inScope c :: k)) cs w) b k cs e a' w' := by
    intro n
    induction n using Nat.strongRecOn with
    | _ n ih =>
      intro l a w hJ
      obtain ⟨rest, hf, hp⟩ := pass l n a w hJ
      obtain ⟨e, a₁, w₁, hq, harr⟩ := hp b (.inScope c :: k) cs
      refine ⟨rest, hf, ?_⟩
      cases e with
      | normal => exact ⟨.normal, a₁, w₁, hq, Steps.trans harr (.one step_inScope)⟩
      | exit id => exact ⟨.exit id, a₁, w₁, hq, fun k' hk => harr k' (by simp [exitTo, hk])⟩
      | goto l' =>
        obtain ⟨g', hlt, hJ'⟩ := hq
        obtain ⟨rest', hf', e₂, a₂, w₂, hq₂, harr₂⟩ := ih g' hlt l' a₁ w₁ hJ'
        have hg : gotoIn l' (.inScope c :: k) = some (.code rest' :: .inScope c :: k) := by simp [gotoIn, hf']
        exact ⟨e₂, a₂, w₂, hq₂, .of_steps (harr _ hg) harr₂⟩
      | ret => exact ⟨_, a₁, w₁, hq, harr⟩
      | panic ch => exact ⟨_, a₁, w₁, hq, harr⟩
      | outgrown => exact ⟨_, a₁, w₁, hq, harr⟩
  obtain ⟨e, a₁, w₁, hq, harr⟩ := first b (.inScope c :: k) cs
  cases e with
  | normal => exact ⟨.normal, a₁, w₁, hq, .head step_scope (Steps.trans harr (.one step_inScope))⟩
  | exit id => exact ⟨.exit id, a₁, w₁, hq, fun k' hk => .head step_scope (harr k' (by simp [exitTo, hk]))⟩
  | goto l' =>
    obtain ⟨g', hJ'⟩ := hq
    obtain ⟨rest', hf', e₂, a₂, w₂, hq₂, harr₂⟩ := key g' l' a₁ w₁ hJ'
    have hg : gotoIn l' (.inScope c :: k) = some (.code rest' :: .inScope c :: k) := by simp [gotoIn, hf']
    exact ⟨e₂, a₂, w₂, hq₂, .of_steps (.head step_scope (harr _ hg)) harr₂⟩
  | ret => exact ⟨_, a₁, w₁, hq, .of_steps (.one step_scope) harr⟩
  | panic ch => exact ⟨_, a₁, w₁, hq, .of_steps (.one step_scope) harr⟩
  | outgrown => exact ⟨_, a₁, w₁, hq, .of_steps (.one step_scope) harr⟩
end Go
namespace Go.Proofs.Ythfijmabagjdkaa
open Go.RowKit Go.Maps

theorem cut_gap (k : Nat) (l : List UInt8) : cut k l = cut (k + gp false l) (l.drop (gp false l)) := by
  have hle := gp_le false l
  have h := cut_skip k (l.take (gp false l)) (l.drop (gp false l)) (by
    rw [List.take_append_drop, List.length_take, Nat.min_eq_left hle]
    cases hd : l.drop (gp false l) with
    | nil => simp [gp]
    | cons x t =>
      obtain ⟨h1, h2⟩ := gp_at false l hd
      rw [gp_stay t h1 h2 rfl]; rfl)
  rw [List.take_append_drop, List.length_take, Nat.min_eq_left hle] at h
  exact h
/-- The words behind a comment's beginning. -/
def cutC (k : Nat) (l : List UInt8) : Sum (Nat × Nat) (List Wd) := cut (k + gp true l) (l.drop (gp true l))
theorem cut_hash (k : Nat) (x : UInt8) (t : List UInt8) (h : nI x = 35) : cut k (x :: t) = cutC (k + 1) t := by
  rw [cut_gap, gp_c x t h]
  unfold cutC
  rw [List.drop_succ_cons, Nat.add_assoc, Nat.add_comm 1]
theorem cutC_nil (k : Nat) : cutC k [] = cut k [] := rfl
theorem cutC_nl (k : Nat) (x : UInt8) (t : List UInt8) (h : nI x = 10) : cutC k (x :: t) = cut k (x :: t) := by
  rw [cut_gap k (x :: t), gp_b x t (by rw [h]; rfl)]
  unfold cutC
  rw [gp_e x t h]
theorem cutC_on (k : Nat) (x : UInt8) (t : List UInt8) (h : ¬ nI x = 10) : cutC k (x :: t) = cutC (k + 1) t := by
  unfold cutC
  rw [gp_o x t h, List.drop_succ_cons, Nat.add_assoc, Nat.add_comm 1]
theorem cut_bl (k : Nat) (x : UInt8) (t : List UInt8) (h : isB (nI x) = true) : cut k (x :: t) = cut (k + 1) t := by
  rw [cut_gap k (x :: t), cut_gap (k + 1) t, gp_b x t h, List.drop_succ_cons, Nat.add_assoc, Nat.add_comm 1]
/-- What the words are where one begins. -/
theorem cut_begin (k : Nat) (x : UInt8) (t : List UInt8) (h1 : isB (nI x) = false) (h2 : ¬ nI x = 35) : cut k (x :: t) = match lx (x :: t) with
    | .inl (e, o) => .inl (e, k + o)
    | .inr (w, n) => cns { w with a := (k : Int) } (cut (k + n) ((x :: t).drop n)) := by
  have hg : gp false (x :: t) = 0 := gp_stay t h1 h2 rfl
  have hd : (x :: t).drop (gp false (x :: t)) = x :: t := by rw [hg]; rfl
  cases hx : lx (x :: t) with
  | inl p =>
    obtain ⟨e, o⟩ := p
    rw [cut_err k hd (by simp) hx, hg]; rfl
  | inr p =>
    obtain ⟨w, n⟩ := p
    rw [cut_wrd k hd hx, hg]; rfl
/-- What the cutter ends with. -/
def Res (A : Sum (Nat × Nat) (List Wd)) (c : Cs) : Prop := (c.co = 0 ∧ A = .inr c.ws) ∨ ∃ e o : Nat, e ≠ 0 ∧ c.co = (e : Int) ∧ c.pl = (o : Int) ∧ A = .inl (e, o)
/-- Between words: the next place is k. -/
structure Mid (A : Sum (Nat × Nat) (List Wd)) (s : ByteArray) (k : Nat) (c : Cs) : Prop where
  hs : c.s = s
  co : c.co = 0
  n : c.n = 0
  bs : c.bs = []
  wl : c.ws.length ≤ k
  a : A = pfx c.ws (cut k (s.data.toList.drop k))
/-- An error has been come to. -/
def Bad (A : Sum (Nat × Nat) (List Wd)) (s : ByteArray) (c : Cs) : Prop := c.s = s ∧ ∃ e o : Nat, e ≠ 0 ∧ c.co = (e : Int) ∧ c.pl = (o : Int) ∧ A = .inl (e, o)
/-- A word begins at f: what it comes to. -/
structure Wrd (A : Sum (Nat × Nat) (List Wd)) (s : ByteArray) (f : Nat) (c : Cs) : Prop where
  hs : c.s = s
  co : c.co = 0
  fr : c.f = (f : Int)
  fs : f < s.size
  wl : c.ws.length ≤ f
def stR (L : List UInt8) (f : Nat) : Sum Nat (List UInt8 × Nat) → Sum (Nat × Nat) (List Wd)
  | .inl e => .inl (82, f + e)
  | .inr (a, n) => cns ⟨2, a, 0, (f : Int)⟩ (cut (f + n) (L.drop (f + n)))
def rgR (L : List UInt8) (f : Nat) : Option Nat → Sum (Nat × Nat) (List Wd)
  | none => .inl (82, f)
  | some n => cns ⟨3, (L.drop (f + 1)).take (n - 2), 0, (f : Int)⟩ (cut (f + n) (L.drop (f + n)))
theorem rd_at {s : ByteArray} {k : Nat} (h : k < s.size) : rd s k = nI (s.get! k) := if_pos h
theorem rd_in {s : ByteArray} {k : Nat} {x : Int} (h : rd s k = x) (hx : x ≠ -1) : k < s.size ∧ nI (s.get! k) = x := by
  have h1 := rd_lt (by rw [h]; exact hx)
  exact ⟨h1, by rw [← rd_at h1]; exact h⟩
theorem rd_out {s : ByteArray} {k : Nat} (h : rd s k = -1) : s.size ≤ k := by
  unfold rd nI at h
  split at h
  · omega
  · omega
theorem isN_L {x : Int} (h : isL x = true) : isN x = true := by simp [isN, h]
end Go.Proofs.Ythfijmabagjdkaa
