import Derived.Test.YtbkhhegmmkcbbaaDoorBas
namespace Go.Proofs.YtbkhhegmmkcbbaaDoor
open Go.RowKit Go.Maps

/-- How many trees a list of numbers of children is. -/
def rt : List Int → Option Nat
  | [] => some 0
  | x :: l => match rt l with
    | none => none
    | some r => if 0 ≤ x ∧ x ≤ (r : Int) then some (r + 1 - x.toNat) else none
/-- How many nodes the first k trees have. -/
def sk : List Int → Nat → Nat
  | _, 0 => 0
  | [], _ + 1 => 0
  | x :: l, k + 1 => 1 + sk l (k + x.toNat)
theorem sk_zero (l : List Int) : sk l 0 = 0 := by cases l <;> rfl
theorem rt_cons {x : Int} {l : List Int} {r : Nat} (h : rt (x :: l) = some r) : ∃ q, rt l = some q ∧ 0 ≤ x ∧ x ≤ (q : Int) ∧ r = q + 1 - x.toNat := by
  unfold rt at h
  cases hq : rt l with
  | none => rw [hq] at h; cases h
  | some q =>
    rw [hq] at h
    dsimp only at h
    split at h
    · next hx => exact ⟨q, rfl, hx.1, hx.2, (Option.some.inj h).symm⟩
    · cases h
theorem rt_le : ∀ (l : List Int) (r : Nat), rt l = some r → r ≤ l.length
  | [], r, h => by cases h; exact Nat.le_refl _
  | x :: l, r, h => by
    obtain ⟨q, hq, h0, h1, rfl⟩ := rt_cons h
    have := rt_le l q hq
    simp only [List.length_cons]; omega
theorem rt_pos {l : List Int} {r : Nat} (h : rt l = some r) (hl : 0 < l.length) : 0 < r := by
  cases l with
  | nil => simp at hl
  | cons x l => obtain ⟨q, hq, h0, h1, rfl⟩ := rt_cons h; omega
theorem sk_ok : ∀ (l : List Int) (r k : Nat), rt l = some r → k ≤ r → sk l k ≤ l.length ∧ rt (l.drop (sk l k)) = some (r - k) ∧ k ≤ sk l k
  | l, r, 0, h, _ => by rw [sk_zero]; exact ⟨Nat.zero_le _, h, Nat.le_refl _⟩
  | [], r, k + 1, h, hk => by cases h; omega
  | x :: l, r, k + 1, h, hk => by
    obtain ⟨q, hq, h0, h1, rfl⟩ := rt_cons h
    obtain ⟨i1, i2, i3⟩ := sk_ok l q (k + x.toNat) hq (by omega)
    unfold sk
    refine ⟨by simp only [List.length_cons]; omega, ?_, by omega⟩
    rw [Nat.add_comm 1, List.drop_succ_cons, i2]
    congr 1; omega
theorem sk_add : ∀ (l : List Int) (r a b : Nat), rt l = some r → a + b ≤ r → sk l (a + b) = sk l a + sk (l.drop (sk l a)) b
  | l, r, 0, b, h, _ => by rw [sk_zero]; simp
  | [], r, a + 1, b, h, hk => by cases h; omega
  | x :: l, r, a + 1, b, h, hk => by
    obtain ⟨q, hq, h0, h1, rfl⟩ := rt_cons h
    have ih := sk_add l q (a + x.toNat) b hq (by omega)
    rw [show a + 1 + b = (a + b) + 1 by omega]
    show 1 + sk l (a + b + x.toNat) = 1 + sk l (a + x.toNat) + sk ((x :: l).drop (1 + sk l (a + x.toNat))) b
    rw [show a + b + x.toNat = a + x.toNat + b by omega, ih, Nat.add_comm 1 (sk l (a + x.toNat)), List.drop_succ_cons]; omega
theorem rt_drop : ∀ (l : List Int) (r a : Nat), rt l = some r → ∃ q, rt (l.drop a) = some q
  | l, r, 0, h => ⟨r, h⟩
  | [], r, a + 1, h => ⟨0, by simp [rt]⟩
  | x :: l, r, a + 1, h => by
    obtain ⟨q, hq, _⟩ := rt_cons h
    exact rt_drop l q a hq
/-- A forest. -/
def Fo (l : List Int) : Prop := ∃ r, rt l = some r
/-- How many trees stand from a place on. -/
def rA (l : List Int) (a : Nat) : Nat := (rt (l.drop a)).getD 0
/-- How many children. -/
def kA (l : List Int) (a : Nat) : Nat := (l.getD a 0).toNat
/-- The place behind k trees from a place on. -/
def wA (l : List Int) (a k : Nat) : Nat := a + sk (l.drop a) k
/-- The place behind a subtree. -/
def eA (l : List Int) (a : Nat) : Nat := wA l a 1
theorem Fo.r {l : List Int} (h : Fo l) (a : Nat) : rt (l.drop a) = some (rA l a) := by
  obtain ⟨r, h⟩ := h
  obtain ⟨q, hq⟩ := rt_drop l r a h
  unfold rA; rw [hq]; rfl
theorem Fo.top {l : List Int} {r : Nat} (h : rt l = some r) : rA l 0 = r := by unfold rA; rw [List.drop_zero, h]; rfl
theorem drop_at (l : List Int) (a : Nat) (h : a < l.length) : l.drop a = l.getD a 0 :: l.drop (a + 1) := by
  rw [List.drop_eq_getElem_cons h, List.getD_eq_getElem?_getD, List.getElem?_eq_getElem h]; rfl
theorem Fo.step {l : List Int} (h : Fo l) (a : Nat) (ha : a < l.length) : 0 ≤ l.getD a 0 ∧ l.getD a 0 = (kA l a : Int) ∧ kA l a ≤ rA l (a + 1) ∧ rA l a = rA l (a + 1) + 1 - kA l a := by
  have h0 := h.r a
  rw [drop_at l a ha] at h0
  obtain ⟨q, hq, h1, h2, h3⟩ := rt_cons h0
  have h4 := h.r (a + 1)
  rw [hq] at h4
  have h5 := Option.some.inj h4
  unfold kA
  exact ⟨h1, by omega, by omega, by omega⟩
theorem Fo.le {l : List Int} (h : Fo l) (a : Nat) : rA l a ≤ l.length - a := by
  have := rt_le _ _ (h.r a)
  simpa using this
theorem Fo.pos {l : List Int} (h : Fo l) (a : Nat) (ha : a < l.length) : 0 < rA l a := rt_pos (h.r a) (by simp; omega)
theorem wA_zero (l : List Int) (a : Nat) : wA l a 0 = a := by unfold wA; rw [sk_zero]; rfl
theorem Fo.end {l : List Int} (h : Fo l) (a k : Nat) (ha : a ≤ l.length) (hk : k ≤ rA l a) : wA l a k ≤ l.length ∧ rA l (wA l a k) = rA l a - k ∧ a + k ≤ wA l a k := by
  obtain ⟨h1, h2, h3⟩ := sk_ok _ _ k (h.r a) hk
  unfold wA
  refine ⟨by simp at h1; omega, ?_, by omega⟩
  rw [List.drop_drop] at h2
  unfold rA; rw [h2]; rfl
theorem Fo.add {l : List Int} (h : Fo l) (a j k : Nat) (hk : j + k ≤ rA l a) : wA l a (j + k) = wA l (wA l a j) k := by
  have := sk_add _ _ j k (h.r a) hk
  unfold wA
  rw [this, List.drop_drop]; omega
theorem Fo.down {l : List Int} (_h : Fo l) (a k : Nat) (ha : a < l.length) : wA l a (k + 1) = wA l (a + 1) (kA l a + k) := by
  unfold wA kA
  rw [drop_at l a ha]
  show a + (1 + sk _ (k + _)) = _
  rw [Nat.add_comm k]; omega
theorem Fo.eq {l : List Int} (h : Fo l) (a : Nat) (ha : a < l.length) : eA l a = wA l (a + 1) (kA l a) := by
  have := h.down a 0 ha
  exact this
theorem Fo.elt {l : List Int} (h : Fo l) (a : Nat) (ha : a < l.length) : a < eA l a ∧ eA l a ≤ l.length ∧ rA l (eA l a) = rA l a - 1 := by
  obtain ⟨h1, h2, h3⟩ := h.end a 1 (by omega) (h.pos a ha)
  exact ⟨by unfold eA; omega, h1, h2⟩
theorem Fo.next {l : List Int} (h : Fo l) (a k : Nat) (hk : k + 1 ≤ rA l a) : wA l a (k + 1) = eA l (wA l a k) := h.add a k 1 hk
theorem Fo.mono {l : List Int} (h : Fo l) (a j k : Nat) (ha : a ≤ l.length) (hj : j ≤ k) (hk : k ≤ rA l a) : wA l a j + (k - j) ≤ wA l a k := by
  obtain ⟨d, rfl⟩ : ∃ d, k = j + d := ⟨k - j, by omega⟩
  rw [h.add a j d hk]
  obtain ⟨h1, h2, h3⟩ := h.end a j ha (by omega)
  have := (h.end (wA l a j) d h1 (by omega)).2.2
  omega
theorem Fo.lt {l : List Int} (h : Fo l) (a k : Nat) (ha : a ≤ l.length) (hk : k < rA l a) : wA l a k < l.length := by
  have h1 := h.mono a k (k + 1) ha (by omega) hk
  have h2 := (h.end a (k + 1) ha hk).1
  omega
theorem sk_lam : ∀ (l : List Int) (r k b : Nat), rt l = some r → k ≤ r → b < sk l k → b + sk (l.drop b) 1 ≤ sk l k
  | l, r, 0, b, h, _, hb => by rw [sk_zero] at hb; omega
  | [], r, k + 1, b, h, hk, _ => by cases h; omega
  | x :: l, r, k + 1, 0, h, hk, hb => by
    have h1 := sk_add (x :: l) r 1 k h (by omega)
    rw [show 1 + k = k + 1 by omega] at h1
    rw [List.drop_zero]; omega
  | x :: l, r, k + 1, b + 1, h, hk, hb => by
    obtain ⟨q, hq, h0, h1, rfl⟩ := rt_cons h
    have hb' : b < sk l (k + x.toNat) := by have : b + 1 < 1 + sk l (k + x.toNat) := hb; omega
    have ih := sk_lam l q (k + x.toNat) b hq (by omega) hb'
    rw [List.drop_succ_cons]
    show _ ≤ 1 + sk l (k + x.toNat)
    omega
/-- What begins within some trees ends within them. -/
theorem Fo.lam {l : List Int} (h : Fo l) (a k b : Nat) (hk : k ≤ rA l a) (hab : a ≤ b) (hb : b < wA l a k) : eA l b ≤ wA l a k := by
  have h1 := sk_lam _ _ k (b - a) (h.r a) hk (by unfold wA at hb; omega)
  rw [List.drop_drop, show a + (b - a) = b by omega] at h1
  unfold eA wA
  omega
/-- The i-th child. -/
def Ch (l : List Int) (p i c : Nat) : Prop := p < l.length ∧ i < kA l p ∧ wA l (p + 1) i = c
/-- The i-th root. -/
def Ro (l : List Int) (i c : Nat) : Prop := i < rA l 0 ∧ wA l 0 i = c
theorem Ch.in {l : List Int} (h : Fo l) {p i c : Nat} (hc : Ch l p i c) : p < c ∧ c < l.length ∧ eA l c ≤ eA l p ∧ c < eA l p ∧ c < eA l c ∧ wA l (p + 1) (i + 1) = eA l c := by
  obtain ⟨hp, hi, rfl⟩ := hc
  obtain ⟨s1, s2, s3, s4⟩ := h.step p hp
  have h1 := h.lt (p + 1) i (by omega) (by omega)
  have h2 := h.next (p + 1) i (by omega)
  have h3 := h.mono (p + 1) (i + 1) (kA l p) (by omega) (by omega) s3
  have h4 := (h.end (p + 1) i (by omega) (by omega)).2.2
  have h5 := (h.elt _ h1).1
  have h6 := h.eq p hp
  exact ⟨by omega, h1, by omega, by omega, h5, h2⟩
theorem Ch.no {l : List Int} (h : Fo l) {q j c a i : Nat} (hc : Ch l q j c) (hi : i ≤ rA l a) (ha : a ≤ q) (hw : wA l a i = c) : False := by
  obtain ⟨h1, h2, h3, h4, h5, _⟩ := hc.in h
  have := h.lam a i q hi ha (by omega)
  omega
theorem Ch.one {l : List Int} (h : Fo l) {p q i j c : Nat} (hc : Ch l p i c) (hd : Ch l q j c) : p = q := by
  obtain ⟨hp, hi, he⟩ := hc
  obtain ⟨hq, hj, hf⟩ := hd
  rcases Nat.lt_trichotomy p q with hl | hl | hl
  · exact (Ch.no h ⟨hq, hj, hf⟩ (by have := (h.step p hp).2.2.1; omega) (show p + 1 ≤ q by omega) he).elim
  · exact hl
  · exact (Ch.no h ⟨hp, hi, he⟩ (by have := (h.step q hq).2.2.1; omega) (show q + 1 ≤ p by omega) hf).elim
theorem Ch.root {l : List Int} (h : Fo l) {p i j c : Nat} (hc : Ch l p i c) (hd : Ro l j c) : False :=
  Ch.no h hc (by have := hd.1; omega) (Nat.zero_le _) hd.2
/-- Parent's search. -/
def pg (l : List Int) : Nat → Nat → Int
  | 0, _ => -1
  | p + 1, b => if b ≤ kA l p then (p : Int) else pg l p (b + 1 - kA l p)
/-- The parent, or -1. -/
def pl (l : List Int) (c : Nat) : Int := pg l c 1
theorem pg_is {l : List Int} (h : Fo l) (c : Nat) : ∀ (p b : Nat), p ≤ l.length → 0 < b → b ≤ rA l p → wA l p (b - 1) = c → (pg l p b = -1 ∧ ∃ i, Ro l i c) ∨ ∃ q i : Nat, pg l p b = (q : Int) ∧ q < p ∧ Ch l q i c
  | 0, b, _, hb, hr, hw => .inl ⟨rfl, b - 1, by omega, hw⟩
  | p + 1, b, hp, hb, hr, hw => by
    obtain ⟨s1, s2, s3, s4⟩ := h.step p (by omega)
    unfold pg
    by_cases hk : b ≤ kA l p
    · rw [if_pos hk]
      exact .inr ⟨p, b - 1, rfl, by omega, by omega, by omega, hw⟩
    · rw [if_neg hk]
      have hd := h.down p (b - 1 - kA l p) (by omega)
      rw [show kA l p + (b - 1 - kA l p) = b - 1 by omega, hw] at hd
      rcases pg_is h c p (b + 1 - kA l p) (by omega) (by omega) (by omega) (by rw [← hd]; congr 1; omega) with h1 | ⟨q, i, h1, h2, h3⟩
      · exact .inl h1
      · exact .inr ⟨q, i, h1, by omega, h3⟩
theorem pl_is {l : List Int} (h : Fo l) (c : Nat) (hc : c < l.length) : (pl l c = -1 ∧ ∃ i, Ro l i c) ∨ ∃ q i : Nat, pl l c = (q : Int) ∧ q < c ∧ Ch l q i c :=
  pg_is h c c 1 (by omega) (by omega) (h.pos c hc) (wA_zero l c)
theorem pl_ch {l : List Int} (h : Fo l) {p i c : Nat} (hc : Ch l p i c) : pl l c = (p : Int) := by
  rcases pl_is h c (hc.in h).2.1 with ⟨_, j, h2⟩ | ⟨q, j, h1, _, h2⟩
  · exact (hc.root h h2).elim
  · rw [h1, Ch.one h hc h2]
theorem Ro.lt {l : List Int} (h : Fo l) {i c : Nat} (hc : Ro l i c) : c < l.length := by rw [← hc.2]; exact h.lt 0 i (by omega) hc.1
theorem sk_eq (l : List Int) (x : Int) (k : Nat) : sk (x :: l) (k + 1) = 1 + sk l (k + x.toNat) := rfl
end Go.Proofs.YtbkhhegmmkcbbaaDoor
