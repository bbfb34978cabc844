import Derived.Test.YtkjcnnecdclgfaaDoorGla
namespace Go.Proofs
namespace YtkjcnnecdclgfaaDoor
/-! What a tree matches, and that the ways from class to class match just that (pure). -/
inductive Rx where
  | cl (m : Nat → Bool)
  | em
  | cat (a b : Rx)
  | alt (a b : Rx)
  | st (a : Rx)
  | pl (a : Rx)
  | op (a : Rx)
def Rx.sz : Rx → Nat
  | .cl _ => 1
  | .em => 1
  | .cat a b => a.sz + b.sz + 1
  | .alt a b => a.sz + b.sz + 1
  | .st a => a.sz + 1
  | .pl a => a.sz + 1
  | .op a => a.sz + 1
theorem Rx.sz_pos : ∀ t : Rx, 1 ≤ t.sz
  | .cl _ | .em => Nat.le_refl _
  | .cat _ _ | .alt _ _ | .st _ | .pl _ | .op _ => Nat.succ_le_succ (Nat.zero_le _)
inductive Str (L : List UInt8 → Prop) : List UInt8 → Prop where
  | nil : Str L []
  | cons (u v : List UInt8) : u ≠ [] → L u → Str L v → Str L (u ++ v)
def Lang : Rx → List UInt8 → Prop
  | .cl m, s => ∃ c : UInt8, s = [c] ∧ m c.toNat = true
  | .em, s => s = []
  | .cat a b, s => ∃ x y, s = x ++ y ∧ Lang a x ∧ Lang b y
  | .alt a b, s => Lang a s ∨ Lang b s
  | .st a, s => Str (Lang a) s
  | .pl a, s => ∃ x y, s = x ++ y ∧ Lang a x ∧ Str (Lang a) y
  | .op a, s => s = [] ∨ Lang a s
/-- The nodes of a tree, the first of them at o. -/
def Tr (re : List Nd) : Rx → Nat → Prop
  | .cl m, o => ∃ n, re[o]? = some n ∧ n.op = 1 ∧ n.m = m
  | .em, o => ∃ n, re[o]? = some n ∧ n.op = 2
  | .cat a b, o => Tr re a o ∧ Tr re b (o + a.sz) ∧ ∃ n, re[o + a.sz + b.sz]? = some n ∧ n.op = 3 ∧ n.a.toNat = o + a.sz - 1 ∧ n.b.toNat = o + a.sz + b.sz - 1
  | .alt a b, o => Tr re a o ∧ Tr re b (o + a.sz) ∧ ∃ n, re[o + a.sz + b.sz]? = some n ∧ n.op = 4 ∧ n.a.toNat = o + a.sz - 1 ∧ n.b.toNat = o + a.sz + b.sz - 1
  | .st a, o => Tr re a o ∧ ∃ n, re[o + a.sz]? = some n ∧ n.op = 5 ∧ n.a.toNat = o + a.sz - 1
  | .pl a, o => Tr re a o ∧ ∃ n, re[o + a.sz]? = some n ∧ n.op = 6 ∧ n.a.toNat = o + a.sz - 1
  | .op a, o => Tr re a o ∧ ∃ n, re[o + a.sz]? = some n ∧ n.op = 7 ∧ n.a.toNat = o + a.sz - 1
def PT : Rx → Nat → Pt
  | .cl _, o => ptC o
  | .em, _ => ptE
  | .cat a b, o => ptCat (PT a o) (PT b (o + a.sz))
  | .alt a b, o => ptOr (PT a o) (PT b (o + a.sz))
  | .st a, o => ptAg (PT a o) 5
  | .pl a, o => ptAg (PT a o) 6
  | .op a, o => ptAg (PT a o) 7
def FT : Rx → Nat → Nat → Nat → Bool
  | .cl _, _ => fun _ _ => false
  | .em, _ => fun _ _ => false
  | .cat a b, o => fun p q => FT a o p q || FT b (o + a.sz) p q || ((PT a o).ls p && (PT b (o + a.sz)).fs q)
  | .alt a b, o => fun p q => FT a o p q || FT b (o + a.sz) p q
  | .st a, o => fun p q => FT a o p q || ((PT a o).ls p && (PT a o).fs q)
  | .pl a, o => fun p q => FT a o p q || ((PT a o).ls p && (PT a o).fs q)
  | .op a, o => FT a o
/-- Where a tree's classes stand. -/
structure Rng (o n : Nat) (X : Pt) (F : Nat → Nat → Bool) : Prop where
  fs : ∀ p, X.fs p = true → o ≤ p ∧ p < n
  ls : ∀ p, X.ls p = true → o ≤ p ∧ p < n
  F : ∀ p q, F p q = true → (o ≤ p ∧ p < n) ∧ (o ≤ q ∧ q < n)
theorem rng (t : Rx) : ∀ o, Rng o (o + t.sz) (PT t o) (FT t o) := by
  induction t with
  | cl m =>
    intro o
    refine ⟨fun p h => ?_, fun p h => ?_, fun p q h => by cases h⟩
    · have := eq_of_beq h; simp only [Rx.sz]; omega
    · have := eq_of_beq h; simp only [Rx.sz]; omega
  | em => intro o; exact ⟨fun p h => (by cases h), fun p h => (by cases h), fun p q h => (by cases h)⟩
  | cat a b iha ihb =>
    intro o
    have h1 := iha o
    have h2 := ihb (o + a.sz)
    simp only [Rx.sz]
    refine ⟨fun p h => ?_, fun p h => ?_, fun p q h => ?_⟩
    · simp only [PT, ptCat, Bool.or_eq_true, Bool.and_eq_true] at h
      rcases h with h | h
      · have := h1.fs p h; omega
      · have := h2.fs p h.2; omega
    · simp only [PT, ptCat, Bool.or_eq_true, Bool.and_eq_true] at h
      rcases h with h | h
      · have := h2.ls p h; omega
      · have := h1.ls p h.2; omega
    · simp only [FT, Bool.or_eq_true, Bool.and_eq_true] at h
      rcases h with (h | h) | h
      · have := h1.F p q h; omega
      · have := h2.F p q h; omega
      · have := h1.ls p h.1; have := h2.fs q h.2; omega
  | alt a b iha ihb =>
    intro o
    have h1 := iha o
    have h2 := ihb (o + a.sz)
    simp only [Rx.sz]
    refine ⟨fun p h => ?_, fun p h => ?_, fun p q h => ?_⟩
    · simp only [PT, ptOr, Bool.or_eq_true] at h
      rcases h with h | h
      · have := h1.fs p h; omega
      · have := h2.fs p h; omega
    · simp only [PT, ptOr, Bool.or_eq_true] at h
      rcases h with h | h
      · have := h1.ls p h; omega
      · have := h2.ls p h; omega
    · simp only [FT, Bool.or_eq_true] at h
      rcases h with h | h
      · have := h1.F p q h; omega
      · have := h2.F p q h; omega
  | st a iha | pl a iha =>
    intro o
    have h1 := iha o
    simp only [Rx.sz]
    refine ⟨fun p h => ?_, fun p h => ?_, fun p q h => ?_⟩
    · have := h1.fs p h; omega
    · have := h1.ls p h; omega
    · simp only [FT, Bool.or_eq_true, Bool.and_eq_true] at h
      rcases h with h | h
      · have := h1.F p q h; omega
      · have := h1.ls p h.1; have := h1.fs q h.2; omega
  | op a iha =>
    intro o
    have h1 := iha o
    simp only [Rx.sz]
    refine ⟨fun p h => ?_, fun p h => ?_, fun p q h => ?_⟩
    · have := h1.fs p h; omega
    · have := h1.ls p h; omega
    · have := h1.F p q h; omega
/-- From a class on: the rest is taken. -/
def acc (F : Nat → Nat → Bool) (C : Nat → Nat → Bool) (L : Nat → Bool) : Nat → List UInt8 → Prop
  | p, [] => L p = true
  | p, c :: s => ∃ q, F p q = true ∧ C q c.toNat = true ∧ acc F C L q s
def aut (X : Pt) (F : Nat → Nat → Bool) (C : Nat → Nat → Bool) : List UInt8 → Prop
  | [] => X.nl = true
  | c :: s => ∃ p, X.fs p = true ∧ C p c.toNat = true ∧ acc F C X.ls p s
theorem acc_congr {F F' C : Nat → Nat → Bool} {L L' : Nat → Bool} (lo hi : Nat) (hF : ∀ p, lo ≤ p → p < hi → ∀ q, F p q = F' p q) (hL : ∀ p, lo ≤ p → p < hi → L p = L' p) (hr : ∀ p q, F' p q = true → lo ≤ q ∧ q < hi) :
    ∀ (s : List UInt8) (p : Nat), lo ≤ p → p < hi → (acc F C L p s ↔ acc F' C L' p s)
  | [], p, h1, h2 => by simp only [acc, hL p h1 h2]
  | c :: s, p, h1, h2 => by
    simp only [acc]
    constructor
    · rintro ⟨q, k1, k2, k3⟩
      rw [hF p h1 h2] at k1
      have := hr p q k1
      exact ⟨q, k1, k2, (acc_congr lo hi hF hL hr s q this.1 this.2).1 k3⟩
    · rintro ⟨q, k1, k2, k3⟩
      have := hr p q k1
      exact ⟨q, by rw [hF p h1 h2]; exact k1, k2, (acc_congr lo hi hF hL hr s q this.1 this.2).2 k3⟩
theorem aut_cat (a b : Rx) (o : Nat) (C : Nat → Nat → Bool) (s : List UInt8) :
    aut (PT (.cat a b) o) (FT (.cat a b) o) C s ↔ ∃ x y, s = x ++ y ∧ aut (PT a o) (FT a o) C x ∧ aut (PT b (o + a.sz)) (FT b (o + a.sz)) C y := by
  have h1 := rng a o
  have h2 := rng b (o + a.sz)
  have nA : ∀ p, o + a.sz ≤ p → (PT a o).ls p = false := fun p hp => by
    cases h : (PT a o).ls p
    · rfl
    · have := h1.ls p h; omega
  have nB : ∀ p, p < o + a.sz → (PT b (o + a.sz)).ls p = false := fun p hp => by
    cases h : (PT b (o + a.sz)).ls p
    · rfl
    · have := h2.ls p h; omega
  have nFA : ∀ p q, o + a.sz ≤ p → FT a o p q = false := fun p q hp => by
    cases h : FT a o p q
    · rfl
    · have := h1.F p q h; omega
  have nFB : ∀ p q, p < o + a.sz → FT b (o + a.sz) p q = false := fun p q hp => by
    cases h : FT b (o + a.sz) p q
    · rfl
    · have := h2.F p q h; omega
  have inB : ∀ (s : List UInt8) (p : Nat), o + a.sz ≤ p → p < o + a.sz + b.sz → (acc (FT (.cat a b) o) C (PT (.cat a b) o).ls p s ↔ acc (FT b (o + a.sz)) C (PT b (o + a.sz)).ls p s) := by
    intro s p k1 k2
    refine acc_congr (o + a.sz) (o + a.sz + b.sz) (fun p k1 k2 q => ?_) (fun p k1 k2 => ?_) (fun p q h => (h2.F p q h).2) s p k1 k2
    · simp only [FT, nFA p q k1, nA p k1, Bool.false_or, Bool.false_and, Bool.or_false]
    · simp only [PT, ptCat, nA p k1, Bool.and_false, Bool.or_false]
  have inA : ∀ (s : List UInt8) (p : Nat), p < o + a.sz → (acc (FT (.cat a b) o) C (PT (.cat a b) o).ls p s ↔ ∃ x y, s = x ++ y ∧ acc (FT a o) C (PT a o).ls p x ∧ aut (PT b (o + a.sz)) (FT b (o + a.sz)) C y) := by
    intro s
    induction s with
    | nil =>
      intro p hp
      simp only [acc, PT, ptCat, nB p hp, Bool.false_or, Bool.and_eq_true]
      constructor
      · rintro ⟨k1, k2⟩
        exact ⟨[], [], rfl, k2, k1⟩
      · rintro ⟨x, y, e, k1, k2⟩
        obtain ⟨rfl, rfl⟩ := List.append_eq_nil_iff.1 e.symm
        exact ⟨k2, k1⟩
    | cons c s ih =>
      intro p hp
      show (∃ q, FT (.cat a b) o p q = true ∧ C q c.toNat = true ∧ acc (FT (.cat a b) o) C (PT (.cat a b) o).ls q s) ↔ _
      constructor
      · rintro ⟨q, k1, k2, k3⟩
        simp only [FT, nFB p q hp, Bool.or_false, Bool.or_eq_true, Bool.and_eq_true] at k1
        rcases k1 with k1 | k1
        · obtain ⟨x, y, rfl, k4, k5⟩ := (ih q (h1.F p q k1).2.2).1 k3
          exact ⟨c :: x, y, rfl, ⟨q, k1, k2, k4⟩, k5⟩
        · have := h2.fs q k1.2
          exact ⟨[], c :: s, rfl, k1.1, ⟨q, k1.2, k2, (inB s q this.1 this.2).1 k3⟩⟩
      · rintro ⟨x, y, e, k1, k2⟩
        cases x with
        | nil =>
          rw [List.nil_append] at e
          subst e
          obtain ⟨q, k3, k4, k5⟩ := k2
          have := h2.fs q k3
          refine ⟨q, ?_, k4, (inB s q this.1 this.2).2 k5⟩
          have k1' : (PT a o).ls p = true := k1
          simp only [FT, k1', k3, Bool.and_self, Bool.or_true]
        | cons d x =>
          rw [List.cons_append] at e
          injection e with e1 e2
          subst e1
          obtain ⟨q, k3, k4, k5⟩ := k1
          refine ⟨q, ?_, k4, (ih q (h1.F p q k3).2.2).2 ⟨x, y, e2, k5, k2⟩⟩
          simp only [FT, k3, Bool.true_or]
  cases s with
  | nil =>
    simp only [aut, PT, ptCat, Bool.and_eq_true]
    constructor
    · rintro ⟨k1, k2⟩
      exact ⟨[], [], rfl, k1, k2⟩
    · rintro ⟨x, y, e, k1, k2⟩
      obtain ⟨rfl, rfl⟩ := List.append_eq_nil_iff.1 e.symm
      exact ⟨k1, k2⟩
  | cons c s =>
    show (∃ q, (PT (.cat a b) o).fs q = true ∧ C q c.toNat = true ∧ acc (FT (.cat a b) o) C (PT (.cat a b) o).ls q s) ↔ _
    constructor
    · rintro ⟨q, k1, k2, k3⟩
      simp only [PT, ptCat, Bool.or_eq_true, Bool.and_eq_true] at k1
      rcases k1 with k1 | k1
      · obtain ⟨x, y, rfl, k4, k5⟩ := (inA s q (h1.fs q k1).2).1 k3
        exact ⟨c :: x, y, rfl, ⟨q, k1, k2, k4⟩, k5⟩
      · have := h2.fs q k1.2
        exact ⟨[], c :: s, rfl, k1.1, ⟨q, k1.2, k2, (inB s q this.1 this.2).1 k3⟩⟩
    · rintro ⟨x, y, e, k1, k2⟩
      cases x with
      | nil =>
        rw [List.nil_append] at e
        subst e
        obtain ⟨q, k3, k4, k5⟩ := k2
        have := h2.fs q k3
        refine ⟨q, ?_, k4, (inB s q this.1 this.2).2 k5⟩
        have k1' : (PT a o).nl = true := k1
        simp only [PT, ptCat, k1', k3, Bool.and_self, Bool.or_true]
      | cons d x =>
        rw [List.cons_append] at e
        injection e with e1 e2
        subst e1
        obtain ⟨q, k3, k4, k5⟩ := k1
        refine ⟨q, ?_, k4, (inA s q (h1.fs q k3).2).2 ⟨x, y, e2, k5, k2⟩⟩
        simp only [PT, ptCat, k3, Bool.true_or]
theorem aut_alt (a b : Rx) (o : Nat) (C : Nat → Nat → Bool) (s : List UInt8) :
    aut (PT (.alt a b) o) (FT (.alt a b) o) C s ↔ aut (PT a o) (FT a o) C s ∨ aut (PT b (o + a.sz)) (FT b (o + a.sz)) C s := by
  have h1 := rng a o
  have h2 := rng b (o + a.sz)
  have inA : ∀ (s : List UInt8) (p : Nat), o ≤ p → p < o + a.sz → (acc (FT (.alt a b) o) C (PT (.alt a b) o).ls p s ↔ acc (FT a o) C (PT a o).ls p s) := by
    intro s p k1 k2
    refine acc_congr o (o + a.sz) (fun p k1 k2 q => ?_) (fun p k1 k2 => ?_) (fun p q h => (h1.F p q h).2) s p k1 k2
    · have : FT b (o + a.sz) p q = false := by
        cases h : FT b (o + a.sz) p q
        · rfl
        · have := h2.F p q h; omega
      simp only [FT, this, Bool.or_false]
    · have : (PT b (o + a.sz)).ls p = false := by
        cases h : (PT b (o + a.sz)).ls p
        · rfl
        · have := h2.ls p h; omega
      simp only [PT, ptOr, this, Bool.or_false]
  have inB : ∀ (s : List UInt8) (p : Nat), o + a.sz ≤ p → p < o + a.sz + b.sz → (acc (FT (.alt a b) o) C (PT (.alt a b) o).ls p s ↔ acc (FT b (o + a.sz)) C (PT b (o + a.sz)).ls p s) := by
    intro s p k1 k2
    refine acc_congr (o + a.sz) (o + a.sz + b.sz) (fun p k1 k2 q => ?_) (fun p k1 k2 => ?_) (fun p q h => (h2.F p q h).2) s p k1 k2
    · have : FT a o p q = false := by
        cases h : FT a o p q
        · rfl
        · have := h1.F p q h; omega
      simp only [FT, this, Bool.false_or]
    · have : (PT a o).ls p = false := by
        cases h : (PT a o).ls p
        · rfl
        · have := h1.ls p h; omega
      simp only [PT, ptOr, this, Bool.false_or]
  cases s with
  | nil => simp only [aut, PT, ptOr, Bool.or_eq_true]
  | cons c s =>
    constructor
    · rintro ⟨q, k1, k2, k3⟩
      simp only [PT, ptOr, Bool.or_eq_true] at k1
      rcases k1 with k1 | k1
      · have := h1.fs q k1
        exact .inl ⟨q, k1, k2, (inA s q this.1 this.2).1 k3⟩
      · have := h2.fs q k1
        exact .inr ⟨q, k1, k2, (inB s q this.1 this.2).1 k3⟩
    · rintro (⟨q, k1, k2, k3⟩ | ⟨q, k1, k2, k3⟩)
      · have := h1.fs q k1
        exact ⟨q, by simp only [PT, ptOr, k1, Bool.true_or], k2, (inA s q this.1 this.2).2 k3⟩
      · have := h2.fs q k1
        exact ⟨q, by simp only [PT, ptOr, k1, Bool.or_true], k2, (inB s q this.1 this.2).2 k3⟩
theorem acc_star (X : Pt) (F C : Nat → Nat → Bool) : ∀ (s : List UInt8) (p : Nat), acc (fun p q => F p q || (X.ls p && X.fs q)) C X.ls p s ↔ ∃ x y, s = x ++ y ∧ acc F C X.ls p x ∧ Str (aut X F C) y := by
  intro s
  induction s with
  | nil =>
    intro p
    simp only [acc]
    constructor
    · intro h
      exact ⟨[], [], rfl, h, .nil⟩
    · rintro ⟨x, y, e, k1, k2⟩
      obtain ⟨rfl, rfl⟩ := List.append_eq_nil_iff.1 e.symm
      exact k1
  | cons c s ih =>
    intro p
    constructor
    · rintro ⟨q, k1, k2, k3⟩
      obtain ⟨x, y, rfl, k4, k5⟩ := (ih q).1 k3
      simp only [Bool.or_eq_true, Bool.and_eq_true] at k1
      rcases k1 with k1 | k1
      · exact ⟨c :: x, y, rfl, ⟨q, k1, k2, k4⟩, k5⟩
      · exact ⟨[], c :: (x ++ y), rfl, k1.1, .cons (c :: x) y (by simp) ⟨q, k1.2, k2, k4⟩ k5⟩
    · rintro ⟨x, y, e, k1, k2⟩
      cases x with
      | nil =>
        rw [List.nil_append] at e
        subst e
        generalize hv : c :: s = w at k2
        cases k2 with
        | nil => cases hv
        | cons u v hu k3 k4 =>
          cases u with
          | nil => exact absurd rfl hu
          | cons d u =>
            rw [List.cons_append] at hv
            injection hv with e1 e2
            subst e1
            obtain ⟨q, k5, k6, k7⟩ := k3
            refine ⟨q, ?_, k6, (by have k8 := (ih q).2 ⟨u, v, e2, k7, k4⟩; rw [e2] at k8; exact k8)⟩
            have k1' : X.ls p = true := k1
            simp only [k1', k5, Bool.and_self, Bool.or_true]
      | cons d x =>
        rw [List.cons_append] at e
        injection e with e1 e2
        subst e1
        obtain ⟨q, k3, k4, k5⟩ := k1
        refine ⟨q, ?_, k4, (ih q).2 ⟨x, y, e2, k5, k2⟩⟩
        simp only [k3, Bool.true_or]
theorem str_app {L : List UInt8 → Prop} {x y : List UInt8} (h : L x) (k : Str L y) : Str L (x ++ y) := by
  cases x with
  | nil => exact k
  | cons c x => exact .cons _ _ (by simp) h k
theorem aut_st (a : Rx) (o : Nat) (C : Nat → Nat → Bool) (s : List UInt8) :
    aut (PT (.st a) o) (FT (.st a) o) C s ↔ Str (aut (PT a o) (FT a o) C) s := by
  cases s with
  | nil => simp only [aut, PT, ptAg]; exact ⟨fun _ => .nil, fun _ => by simp⟩
  | cons c s =>
    constructor
    · rintro ⟨q, k1, k2, k3⟩
      obtain ⟨x, y, rfl, k4, k5⟩ := (acc_star (PT a o) (FT a o) C s q).1 k3
      exact .cons (c :: x) y (by simp) ⟨q, k1, k2, k4⟩ k5
    · intro h
      generalize hv : c :: s = w at h
      cases h with
      | nil => cases hv
      | cons u v hu k3 k4 =>
        cases u with
        | nil => exact absurd rfl hu
        | cons d u =>
          obtain ⟨q, k5, k6, k7⟩ := k3
          exact ⟨q, k5, k6, (acc_star (PT a o) (FT a o) C _ q).2 ⟨u, v, rfl, k7, k4⟩⟩
theorem aut_pl (a : Rx) (o : Nat) (C : Nat → Nat → Bool) (s : List UInt8) :
    aut (PT (.pl a) o) (FT (.pl a) o) C s ↔ ∃ x y, s = x ++ y ∧ aut (PT a o) (FT a o) C x ∧ Str (aut (PT a o) (FT a o) C) y := by
  cases s with
  | nil =>
    simp only [aut, PT, ptAg, decide_true, Bool.not_true, Bool.or_false]
    constructor
    · intro h
      exact ⟨[], [], rfl, h, .nil⟩
    · rintro ⟨x, y, e, k1, k2⟩
      obtain ⟨rfl, rfl⟩ := List.append_eq_nil_iff.1 e.symm
      exact k1
  | cons c s =>
    constructor
    · rintro ⟨q, k1, k2, k3⟩
      obtain ⟨x, y, rfl, k4, k5⟩ := (acc_star (PT a o) (FT a o) C s q).1 k3
      exact ⟨c :: x, y, rfl, ⟨q, k1, k2, k4⟩, k5⟩
    · rintro ⟨x, y, e, k1, k2⟩
      have h : Str (aut (PT a o) (FT a o) C) (c :: s) := by rw [e]; exact str_app k1 k2
      exact (aut_st a o C (c :: s)).2 h
theorem aut_op (a : Rx) (o : Nat) (C : Nat → Nat → Bool) (s : List UInt8) :
    aut (PT (.op a) o) (FT (.op a) o) C s ↔ s = [] ∨ aut (PT a o) (FT a o) C s := by
  cases s with
  | nil => simp [aut, PT, ptAg]
  | cons c s => simp only [reduceCtorEq, false_or]; exact Iff.rfl
theorem aut_lang (re : List Nd) (t : Rx) : ∀ (o : Nat), Tr re t o → aut (PT t o) (FT t o) (fun p => (re.getD p nd0).m) = Lang t := by
  induction t with
  | cl m =>
    rintro o ⟨n, h1, h2, rfl⟩
    have hc : re.getD o nd0 = n := by rw [List.getD_eq_getElem?_getD, h1]; rfl
    funext s
    refine propext ?_
    cases s with
    | nil => simp [aut, PT, ptC, Lang]
    | cons c s =>
      simp only [aut, PT, ptC, Lang]
      constructor
      · rintro ⟨p, k1, k2, k3⟩
        obtain rfl := eq_of_beq k1
        rw [hc] at k2
        cases s with
        | nil => exact ⟨c, rfl, k2⟩
        | cons d s => obtain ⟨q, k4, _⟩ := k3; cases k4
      · rintro ⟨d, e, k⟩
        injection e with e1 e2
        subst e1 e2
        exact ⟨o, by simp, by rw [hc]; exact k, by simp [acc]⟩
  | em =>
    intro o _
    funext s
    refine propext ?_
    cases s with
    | nil => simp [aut, PT, ptE, Lang]
    | cons c s => simp [aut, PT, ptE, Lang]
  | cat a b iha ihb =>
    rintro o ⟨h1, h2, _⟩
    funext s
    rw [propext (aut_cat a b o _ s), iha o h1, ihb _ h2]
    rfl
  | alt a b iha ihb =>
    rintro o ⟨h1, h2, _⟩
    funext s
    rw [propext (aut_alt a b o _ s), iha o h1, ihb _ h2]
    rfl
  | st a iha =>
    rintro o ⟨h1, _⟩
    funext s
    rw [propext (aut_st a o _ s), iha o h1]
    rfl
  | pl a iha =>
    rintro o ⟨h1, _⟩
    funext s
    rw [propext (aut_pl a o _ s), iha o h1]
    rfl
  | op a iha =>
    rintro o ⟨h1, _⟩
    funext s
    rw [propext (aut_op a o _ s), iha o h1]
    rfl
end YtkjcnnecdclgfaaDoor
end Go.Proofs
namespace Go.Proofs
namespace YtkjcnnecdclgfaaDoor
/-- The ways behind the first k nodes. -/
def wk (re : List Nd) (k : Nat) : Wy := svy (re.take k) 0 wy0
theorem wk_succ {re : List Nd} {k : Nat} {n : Nd} (h : re[k]? = some n) : wk re (k + 1) = svs (wk re k) k n := by
  have hk : k < re.length := (List.getElem?_eq_some_iff.1 h).1
  have e : re.take (k + 1) = re.take k ++ [n] := by
    rw [List.take_add_one, h]; rfl
  unfold wk
  rw [e, svy_snoc, List.length_take]
  congr 1
  omega
theorem put_same (W : Wy) (i : Nat) (x : Pt) : (W.put i x).pt i = x := by simp [Wy.put]
theorem put_other (W : Wy) (i j : Nat) (x : Pt) (h : j ≠ i) : (W.put i x).pt j = W.pt j := by simp [Wy.put, h]
/-- Behind a tree's nodes. -/
structure Behind (re : List Nd) (t : Rx) (o : Nat) : Prop where
  pt : (wk re (o + t.sz)).pt (o + t.sz - 1) = PT t o
  old : ∀ j, j < o → (wk re (o + t.sz)).pt j = (wk re o).pt j
  bh : ∀ p q, (wk re (o + t.sz)).bh p q = ((wk re o).bh p q || FT t o p q)
theorem behind (re : List Nd) (t : Rx) : ∀ o, Tr re t o → Behind re t o := by
  induction t with
  | cl m =>
    rintro o ⟨n, h1, h2, _⟩
    have e : wk re (o + Rx.sz (.cl m)) = (wk re o).put o (ptC o) := by
      show wk re (o + 1) = _
      rw [wk_succ h1]
      simp [svs, h2]
    refine ⟨?_, fun j hj => ?_, fun p q => ?_⟩
    · rw [e]; exact put_same _ _ _
    · rw [e]; exact put_other _ _ _ _ (by omega)
    · rw [e]; show (wk re o).bh p q = _; simp [FT]
  | em =>
    rintro o ⟨n, h1, h2⟩
    have e : wk re (o + Rx.sz .em) = (wk re o).put o ptE := by
      show wk re (o + 1) = _
      rw [wk_succ h1]
      simp [svs, h2]
    refine ⟨?_, fun j hj => ?_, fun p q => ?_⟩
    · rw [e]; exact put_same _ _ _
    · rw [e]; exact put_other _ _ _ _ (by omega)
    · rw [e]; show (wk re o).bh p q = _; simp [FT]
  | cat a b iha ihb =>
    rintro o ⟨h1, h2, n, h3, h4, h5, h6⟩
    have ha := iha o h1
    have hb := ihb _ h2
    have pa := a.sz_pos
    have pb := b.sz_pos
    have e : wk re (o + Rx.sz (.cat a b)) = Wy.put ⟨(wk re (o + a.sz + b.sz)).pt, lnk (wk re (o + a.sz + b.sz)).bh (PT a o).ls (PT b (o + a.sz)).fs⟩ (o + a.sz + b.sz) (ptCat (PT a o) (PT b (o + a.sz))) := by
      show wk re (o + (a.sz + b.sz + 1)) = _
      rw [show o + (a.sz + b.sz + 1) = o + a.sz + b.sz + 1 by omega, wk_succ h3]
      simp only [svs, h4, h5, h6]
      rw [hb.pt, hb.old _ (by omega), ha.pt]
      simp
    have e1 : o + Rx.sz (.cat a b) - 1 = o + a.sz + b.sz := by simp only [Rx.sz]; omega
    refine ⟨?_, fun j hj => ?_, fun p q => ?_⟩
    · rw [e, e1]; exact put_same _ _ _
    · rw [e, put_other _ _ _ _ (by omega)]
      show (wk re (o + a.sz + b.sz)).pt j = _
      rw [hb.old j (by omega), ha.old j hj]
    · rw [e]
      show lnk (wk re (o + a.sz + b.sz)).bh (PT a o).ls (PT b (o + a.sz)).fs p q = _
      simp only [lnk, FT, hb.bh, ha.bh, Bool.or_assoc]
  | alt a b iha ihb =>
    rintro o ⟨h1, h2, n, h3, h4, h5, h6⟩
    have ha := iha o h1
    have hb := ihb _ h2
    have pa := a.sz_pos
    have pb := b.sz_pos
    have e : wk re (o + Rx.sz (.alt a b)) = Wy.put (wk re (o + a.sz + b.sz)) (o + a.sz + b.sz) (ptOr (PT a o) (PT b (o + a.sz))) := by
      show wk re (o + (a.sz + b.sz + 1)) = _
      rw [show o + (a.sz + b.sz + 1) = o + a.sz + b.sz + 1 by omega, wk_succ h3]
      simp only [svs, h4, h5, h6]
      rw [hb.pt, hb.old _ (by omega), ha.pt]
      simp
    have e1 : o + Rx.sz (.alt a b) - 1 = o + a.sz + b.sz := by simp only [Rx.sz]; omega
    refine ⟨?_, fun j hj => ?_, fun p q => ?_⟩
    · rw [e, e1]; exact put_same _ _ _
    · rw [e, put_other _ _ _ _ (by omega)]
      rw [hb.old j (by omega), ha.old j hj]
    · rw [e]
      show (wk re (o + a.sz + b.sz)).bh p q = _
      simp only [FT, hb.bh, ha.bh, Bool.or_assoc]
  | st a iha =>
    rintro o ⟨h1, n, h3, h4, h5⟩
    have ha := iha o h1
    have pa := a.sz_pos
    have e : wk re (o + Rx.sz (.st a)) = Wy.put ⟨(wk re (o + a.sz)).pt, lnk (wk re (o + a.sz)).bh (PT a o).ls (PT a o).fs⟩ (o + a.sz) (ptAg (PT a o) 5) := by
      show wk re (o + (a.sz + 1)) = _
      rw [show o + (a.sz + 1) = o + a.sz + 1 by omega, wk_succ h3]
      simp only [svs, h4, h5]
      rw [ha.pt]
      simp
    have e1 : o + Rx.sz (.st a) - 1 = o + a.sz := by simp only [Rx.sz]; omega
    refine ⟨?_, fun j hj => ?_, fun p q => ?_⟩
    · rw [e, e1]; exact put_same _ _ _
    · rw [e, put_other _ _ _ _ (by omega)]
      exact ha.old j hj
    · rw [e]
      show lnk (wk re (o + a.sz)).bh (PT a o).ls (PT a o).fs p q = _
      simp only [lnk, FT, ha.bh, Bool.or_assoc]
  | pl a iha =>
    rintro o ⟨h1, n, h3, h4, h5⟩
    have ha := iha o h1
    have pa := a.sz_pos
    have e : wk re (o + Rx.sz (.pl a)) = Wy.put ⟨(wk re (o + a.sz)).pt, lnk (wk re (o + a.sz)).bh (PT a o).ls (PT a o).fs⟩ (o + a.sz) (ptAg (PT a o) 6) := by
      show wk re (o + (a.sz + 1)) = _
      rw [show o + (a.sz + 1) = o + a.sz + 1 by omega, wk_succ h3]
      simp only [svs, h4, h5]
      rw [ha.pt]
      simp
    have e1 : o + Rx.sz (.pl a) - 1 = o + a.sz := by simp only [Rx.sz]; omega
    refine ⟨?_, fun j hj => ?_, fun p q => ?_⟩
    · rw [e, e1]; exact put_same _ _ _
    · rw [e, put_other _ _ _ _ (by omega)]
      exact ha.old j hj
    · rw [e]
      show lnk (wk re (o + a.sz)).bh (PT a o).ls (PT a o).fs p q = _
      simp only [lnk, FT, ha.bh, Bool.or_assoc]
  | op a iha =>
    rintro o ⟨h1, n, h3, h4, h5⟩
    have ha := iha o h1
    have pa := a.sz_pos
    have e : wk re (o + Rx.sz (.op a)) = Wy.put (wk re (o + a.sz)) (o + a.sz) (ptAg (PT a o) 7) := by
      show wk re (o + (a.sz + 1)) = _
      rw [show o + (a.sz + 1) = o + a.sz + 1 by omega, wk_succ h3]
      simp only [svs, h4, h5]
      rw [ha.pt]
      simp
    have e1 : o + Rx.sz (.op a) - 1 = o + a.sz := by simp only [Rx.sz]; omega
    refine ⟨?_, fun j hj => ?_, fun p q => ?_⟩
    · rw [e, e1]; exact put_same _ _ _
    · rw [e, put_other _ _ _ _ (by omega)]
      exact ha.old j hj
    · rw [e]
      show (wk re (o + a.sz)).bh p q = _
      simp only [FT, ha.bh]
theorem get_at (p : List Nd) (n : Nd) (s : List Nd) : (p ++ n :: s)[p.length]? = some n := by simp
/-- Every node of a well shaped list is the root of a tree. -/
theorem tree_of (re : List Nd) (z : List Nat) (h : szs re [] = some z) : ∀ i, i < re.length → ∃ t : Rx, t.sz = z.getD i 0 ∧ z.getD i 0 ≤ i + 1 ∧ Tr re t (i + 1 - z.getD i 0) := by
  have hzo := (szs_ok h zok_nil).1
  have hzl : z.length = re.length := by rw [(szs_ok h zok_nil).2]; simp
  intro i
  induction i using Nat.strongRecOn with
  | ind i ih =>
    intro hi
    have hle := (hzo i (by omega)).2
    obtain ⟨p, n, s, hre, hp, _⟩ := split_at re i hi
    have hk := kind_of p n s z (by rw [← hre]; exact h)
    have hn : re[i]? = some n := by rw [hre, ← hp]; exact get_at p n s
    rw [hp] at hk
    cases hk with
    | leaf h1 _ _ _ hz =>
      rw [hz, show i + 1 - 1 = i by omega]
      rcases h1 with h1 | h1
      · exact ⟨.cl n.m, rfl, by omega, n, hn, h1, rfl⟩
      · exact ⟨.em, rfl, by omega, n, hn, h1⟩
    | un h1 _ h2 ha _ hz =>
      obtain ⟨t, k1, k2, k3⟩ := ih (i - 1) (by omega) (by omega)
      have pos := t.sz_pos
      have e0 : i + 1 - z.getD i 0 = i - 1 + 1 - z.getD (i - 1) 0 := by omega
      have e1 : i - 1 + 1 - z.getD (i - 1) 0 + t.sz = i := by omega
      rw [e0]
      have hn' : re[i - 1 + 1 - z.getD (i - 1) 0 + t.sz]? = some n := by rw [e1]; exact hn
      rcases h1 with h1 | h1 | h1
      · exact ⟨.st t, by simp only [Rx.sz]; omega, by omega, k3, n, hn', h1, by omega⟩
      · exact ⟨.pl t, by simp only [Rx.sz]; omega, by omega, k3, n, hn', h1, by omega⟩
      · exact ⟨.op t, by simp only [Rx.sz]; omega, by omega, k3, n, hn', h1, by omega⟩
    | bin h1 _ a hi2 h3 ha hb hz =>
      obtain ⟨t, k1, k2, k3⟩ := ih a (by omega) (by omega)
      obtain ⟨u, l1, l2, l3⟩ := ih (i - 1) (by omega) (by omega)
      have pos := t.sz_pos
      have pos2 := u.sz_pos
      have e0 : i + 1 - z.getD i 0 = a + 1 - z.getD a 0 := by omega
      have e1 : a + 1 - z.getD a 0 + t.sz = i - 1 + 1 - z.getD (i - 1) 0 := by omega
      have e2 : a + 1 - z.getD a 0 + t.sz + u.sz = i := by omega
      rw [e0]
      have hn' : re[a + 1 - z.getD a 0 + t.sz + u.sz]? = some n := by rw [e2]; exact hn
      have l3' : Tr re u (a + 1 - z.getD a 0 + t.sz) := by rw [e1]; exact l3
      rcases h1 with h1 | h1
      · exact ⟨.cat t u, by simp only [Rx.sz]; omega, by omega, k3, l3', n, hn', h1, by omega, by omega⟩
      · exact ⟨.alt t u, by simp only [Rx.sz]; omega, by omega, k3, l3', n, hn', h1, by omega, by omega⟩
theorem Sh_parts {re : List Nd} (h : Sh re = true) : ∃ z, szs re [] = some z ∧ re.length ≠ 0 ∧ re.length ≤ 128 ∧ z.getD (re.length - 1) 0 = re.length := by
  unfold Sh at h
  split at h
  · cases h
  · rename_i z hz
    simp only [Bool.and_eq_true, decide_eq_true_eq] at h
    exact ⟨z, hz, h.1.1, h.1.2, h.2⟩
theorem tree_sh {re : List Nd} (h : Sh re = true) : ∃ t : Rx, t.sz = re.length ∧ Tr re t 0 ∧ re.length ≤ 128 := by
  obtain ⟨z, h1, h2, h3, h4⟩ := Sh_parts h
  obtain ⟨t, k1, k2, k3⟩ := tree_of re z h1 (re.length - 1) (by omega)
  rw [h4] at k1 k2 k3
  rw [show re.length - 1 + 1 - re.length = 0 by omega] at k3
  exact ⟨t, k1, k3, h3⟩
theorem sv_tree {re : List Nd} {t : Rx} (h : t.sz = re.length) (ht : Tr re t 0) : (SV re).pt (re.length - 1) = PT t 0 ∧ (SV re).bh = FT t 0 := by
  have hb := behind re t 0 ht
  have e : wk re (0 + t.sz) = SV re := by
    unfold wk SV
    rw [Nat.zero_add, h, List.take_length]
  have h1 := hb.pt
  have h2 := hb.bh
  rw [e] at h1 h2
  rw [Nat.zero_add, h] at h1
  refine ⟨h1, ?_⟩
  funext p q
  rw [h2]
  simp [wk, svy, wy0]
/-- The rounds of read: the ways. -/
theorem rds_acc (re : List Nd) (W : Wy) (L : Nat → Bool) (hW : Wok re.length W) (hl : re.length ≤ 128) : ∀ (s : List UInt8) (c : UInt8) (b : Bool) (nx : Nat → Bool), Un re.length nx →
    ((rds re W L (c :: s) (b, nx)).1 = true ↔ ∃ p, nx p = true ∧ (re.getD p nd0).m c.toNat = true ∧ acc W.bh (fun p => (re.getD p nd0).m) L p s) := by
  intro s
  induction s with
  | nil =>
    intro c b nx hn
    show mt (tk re nx c.toNat) L = true ↔ _
    unfold mt
    rw [List.any_eq_true]
    constructor
    · rintro ⟨p, _, h⟩
      simp only [tk, Bool.and_eq_true] at h
      exact ⟨p, h.1.1, h.1.2, h.2⟩
    · rintro ⟨p, h1, h2, h3⟩
      have h3' : L p = true := h3
      exact ⟨p, List.mem_range.2 (by have := hn p h1; omega), by simp only [tk, h1, h2, h3', Bool.and_self]⟩
  | cons d s ih =>
    intro c b nx hn
    have := ih d (mt (tk re nx c.toNat) L) (fu W.bh (tk re nx c.toNat)) (un_fu hW _)
    show (rds re W L (d :: s) (mt (tk re nx c.toNat) L, fu W.bh (tk re nx c.toNat))).1 = true ↔ _
    rw [this]
    constructor
    · rintro ⟨q, h1, h2, h3⟩
      obtain ⟨p, _, hp⟩ := List.any_eq_true.1 h1
      simp only [tk, Bool.and_eq_true] at hp
      exact ⟨p, hp.1.1, hp.1.2, q, hp.2, h2, h3⟩
    · rintro ⟨p, h1, h2, q, h3, h4, h5⟩
      refine ⟨q, ?_, h4, h5⟩
      exact List.any_eq_true.2 ⟨p, List.mem_range.2 (by have := hn p h1; omega), by simp only [tk, h1, h2, h3, Bool.and_self]⟩
/-- **WHAT IS READ AS A MATCH IS WHAT THE TREE MEANS.** -/
theorem RD_lang {re : List Nd} {t : Rx} (hs : Sh re = true) (h : t.sz = re.length) (ht : Tr re t 0) (s : List UInt8) : (RD re s).1 = true ↔ Lang t s := by
  obtain ⟨h1, h2⟩ := sv_tree h ht
  obtain ⟨z, _, _, hl, _⟩ := Sh_parts hs
  have hW := wok_SV re
  unfold RD
  rw [if_pos hs, ← aut_lang re t 0 ht]
  cases s with
  | nil => rw [h1]; exact Iff.rfl
  | cons c s =>
    rw [rds_acc re (SV re) _ hW hl s c _ _ (hW.fs _), h1, h2]
    exact Iff.rfl
end YtkjcnnecdclgfaaDoor
end Go.Proofs
