import Derived.Test.YtcmhbcfgikmblabGreatDoorBay
namespace Go.Proofs.YtcmhbcfgikmblabGreatDoor.Tr
open Go.RowKit Go.Maps

/-- How many trees a list of numbers of children is. -/
def rt : List Int → Option Nat
  | [] => some 0
  | x :: l => match rt l with
    | none => none
    | some r => if 0 ≤ x ∧ x ≤ (r : Int) then some (r + 1 - x.toNat) else none
/-- How many nodes the first k trees have. -/
def sk : List Int → Nat → Nat
  | _, 0 => 0
  | [], _ + 1 => 0
  | x :: l, k + 1 => 1 + sk l (k + x.toNat)
theorem sk_zero (l : List Int) : sk l 0 = 0 := by cases l <;> rfl
theorem rt_cons {x : Int} {l : List Int} {r : Nat} (h : rt (x :: l) = some r) : ∃ q, rt l = some q ∧ 0 ≤ x ∧ x ≤ (q : Int) ∧ r = q + 1 - x.toNat := by
  unfold rt at h
  cases hq : rt l with
  | none => rw [hq] at h; cases h
  | some q =>
    rw [hq] at h
    dsimp only at h
    split at h
    · next hx => exact ⟨q, rfl, hx.1, hx.2, (Option.some.inj h).symm⟩
    · cases h
theorem rt_le : ∀ (l : List Int) (r : Nat), rt l = some r → r ≤ l.length
  | [], r, h => by cases h; exact Nat.le_refl _
  | x :: l, r, h => by
    obtain ⟨q, hq, h0, h1, rfl⟩ := rt_cons h
    have := rt_le l q hq
    simp only [List.length_cons]; omega
theorem rt_pos {l : List Int} {r : Nat} (h : rt l = some r) (hl : 0 < l.length) : 0 < r := by
  cases l with
  | nil => simp at hl
  | cons x l => obtain ⟨q, hq, h0, h1, rfl⟩ := rt_cons h; omega
theorem sk_ok : ∀ (l : List Int) (r k : Nat), rt l = some r → k ≤ r → sk l k ≤ l.length ∧ rt (l.drop (sk l k)) = some (r - k) ∧ k ≤ sk l k
  | l, r, 0, h, _ => by rw [sk_zero]; exact ⟨Nat.zero_le _, h, Nat.le_refl _⟩
  | [], r, k + 1, h, hk => by cases h; omega
  | x :: l, r, k + 1, h, hk => by
    obtain ⟨q, hq, h0, h1, rfl⟩ := rt_cons h
    obtain ⟨i1, i2, i3⟩ := sk_ok l q (k + x.toNat) hq (by omega)
    unfold sk
    refine ⟨by simp only [List.length_cons]; omega, ?_, by omega⟩
    rw [Nat.add_comm 1, List.drop_succ_cons, i2]
    congr 1; omega
theorem sk_add : ∀ (l : List Int) (r a b : Nat), rt l = some r → a + b ≤ r → sk l (a + b) = sk l a + sk (l.drop (sk l a)) b
  | l, r, 0, b, h, _ => by rw [sk_zero]; simp
  | [], r, a + 1, b, h, hk => by cases h; omega
  | x :: l, r, a + 1, b, h, hk => by
    obtain ⟨q, hq, h0, h1, rfl⟩ := rt_cons h
    have ih := sk_add l q (a + x.toNat) b hq (by omega)
    rw [show a + 1 + b = (a + b) + 1 by omega]
    show 1 + sk l (a + b + x.toNat) = 1 + sk l (a + x.toNat) + sk ((x :: l).drop (1 + sk l (a + x.toNat))) b
    rw [show a + b + x.toNat = a + x.toNat + b by omega, ih, Nat.add_comm 1 (sk l (a + x.toNat)), List.drop_succ_cons]; omega
theorem rt_drop : ∀ (l : List Int) (r a : Nat), rt l = some r → ∃ q, rt (l.drop a) = some q
  | l, r, 0, h => ⟨r, h⟩
  | [], r, a + 1, h => ⟨0, by simp [rt]⟩
  | x :: l, r, a + 1, h => by
    obtain ⟨q, hq, _⟩ := rt_cons h
    exact rt_drop l q a hq
/-- A forest. -/
def Fo (l : List Int) : Prop := ∃ r, rt l = some r
/-- How many trees stand from a place on. -/
def rA (l : List Int) (a : Nat) : Nat := (rt (l.drop a)).getD 0
/-- How many children. -/
def kA (l : List Int) (a : Nat) : Nat := (l.getD a 0).toNat
/-- The place behind k trees from a place on. -/
def wA (l : List Int) (a k : Nat) : Nat := a + sk (l.drop a) k
/-- The place behind a subtree. -/
def eA (l : List Int) (a : Nat) : Nat := wA l a 1
theorem Fo.r {l : List Int} (h : Fo l) (a : Nat) : rt (l.drop a) = some (rA l a) := by
  obtain ⟨r, h⟩ := h
  obtain ⟨q, hq⟩ := rt_drop l r a h
  unfold rA; rw [hq]; rfl
theorem Fo.top {l : List Int} {r : Nat} (h : rt l = some r) : rA l 0 = r := by unfold rA; rw [List.drop_zero, h]; rfl
theorem drop_at (l : List Int) (a : Nat) (h : a < l.length) : l.drop a = l.getD a 0 :: l.drop (a + 1) := by
  rw [List.drop_eq_getElem_cons h, List.getD_eq_getElem?_getD, List.getElem?_eq_getElem h]; rfl
theorem Fo.step {l : List Int} (h : Fo l) (a : Nat) (ha : a < l.length) : 0 ≤ l.getD a 0 ∧ l.getD a 0 = (kA l a : Int) ∧ kA l a ≤ rA l (a + 1) ∧ rA l a = rA l (a + 1) + 1 - kA l a := by
  have h0 := h.r a
  rw [drop_at l a ha] at h0
  obtain ⟨q, hq, h1, h2, h3⟩ := rt_cons h0
  have h4 := h.r (a + 1)
  rw [hq] at h4
  have h5 := Option.some.inj h4
  unfold kA
  exact ⟨h1, by omega, by omega, by omega⟩
theorem Fo.le {l : List Int} (h : Fo l) (a : Nat) : rA l a ≤ l.length - a := by
  have := rt_le _ _ (h.r a)
  simpa using this
theorem Fo.pos {l : List Int} (h : Fo l) (a : Nat) (ha : a < l.length) : 0 < rA l a := rt_pos (h.r a) (by simp; omega)
theorem wA_zero (l : List Int) (a : Nat) : wA l a 0 = a := by unfold wA; rw [sk_zero]; rfl
theorem Fo.end {l : List Int} (h : Fo l) (a k : Nat) (ha : a ≤ l.length) (hk : k ≤ rA l a) : wA l a k ≤ l.length ∧ rA l (wA l a k) = rA l a - k ∧ a + k ≤ wA l a k := by
  obtain ⟨h1, h2, h3⟩ := sk_ok _ _ k (h.r a) hk
  unfold wA
  refine ⟨by simp at h1; omega, ?_, by omega⟩
  rw [List.drop_drop] at h2
  unfold rA; rw [h2]; rfl
theorem Fo.add {l : List Int} (h : Fo l) (a j k : Nat) (hk : j + k ≤ rA l a) : wA l a (j + k) = wA l (wA l a j) k := by
  have := sk_add _ _ j k (h.r a) hk
  unfold wA
  rw [this, List.drop_drop]; omega
theorem Fo.down {l : List Int} (_h : Fo l) (a k : Nat) (ha : a < l.length) : wA l a (k + 1) = wA l (a + 1) (kA l a + k) := by
  unfold wA kA
  rw [drop_at l a ha]
  show a + (1 + sk _ (k + _)) = _
  rw [Nat.add_comm k]; omega
theorem Fo.eq {l : List Int} (h : Fo l) (a : Nat) (ha : a < l.length) : eA l a = wA l (a + 1) (kA l a) := by
  have := h.down a 0 ha
  exact this
theorem Fo.elt {l : List Int} (h : Fo l) (a : Nat) (ha : a < l.length) : a < eA l a ∧ eA l a ≤ l.length ∧ rA l (eA l a) = rA l a - 1 := by
  obtain ⟨h1, h2, h3⟩ := h.end a 1 (by omega) (h.pos a ha)
  exact ⟨by unfold eA; omega, h1, h2⟩
theorem Fo.next {l : List Int} (h : Fo l) (a k : Nat) (hk : k + 1 ≤ rA l a) : wA l a (k + 1) = eA l (wA l a k) := h.add a k 1 hk
theorem Fo.mono {l : List Int} (h : Fo l) (a j k : Nat) (ha : a ≤ l.length) (hj : j ≤ k) (hk : k ≤ rA l a) : wA l a j + (k - j) ≤ wA l a k := by
  obtain ⟨d, rfl⟩ : ∃ d, k = j + d := ⟨k - j, by omega⟩
  rw [h.add a j d hk]
  obtain ⟨h1, h2, h3⟩ := h.end a j ha (by omega)
  have := (h.end (wA l a j) d h1 (by omega)).2.2
  omega
theorem Fo.lt {l : List Int} (h : Fo l) (a k : Nat) (ha : a ≤ l.length) (hk : k < rA l a) : wA l a k < l.length := by
  have h1 := h.mono a k (k + 1) ha (by omega) hk
  have h2 := (h.end a (k + 1) ha hk).1
  omega
theorem sk_lam : ∀ (l : List Int) (r k b : Nat), rt l = some r → k ≤ r → b < sk l k → b + sk (l.drop b) 1 ≤ sk l k
  | l, r, 0, b, h, _, hb => by rw [sk_zero] at hb; omega
  | [], r, k + 1, b, h, hk, _ => by cases h; omega
  | x :: l, r, k + 1, 0, h, hk, hb => by
    have h1 := sk_add (x :: l) r 1 k h (by omega)
    rw [show 1 + k = k + 1 by omega] at h1
    rw [List.drop_zero]; omega
  | x :: l, r, k + 1, b + 1, h, hk, hb => by
    obtain ⟨q, hq, h0, h1, rfl⟩ := rt_cons h
    have hb' : b < sk l (k + x.toNat) := by have : b + 1 < 1 + sk l (k + x.toNat) := hb; omega
    have ih := sk_lam l q (k + x.toNat) b hq (by omega) hb'
    rw [List.drop_succ_cons]
    show _ ≤ 1 + sk l (k + x.toNat)
    omega
/-- What begins within some trees ends within them. -/
theorem Fo.lam {l : List Int} (h : Fo l) (a k b : Nat) (hk : k ≤ rA l a) (hab : a ≤ b) (hb : b < wA l a k) : eA l b ≤ wA l a k := by
  have h1 := sk_lam _ _ k (b - a) (h.r a) hk (by unfold wA at hb; omega)
  rw [List.drop_drop, show a + (b - a) = b by omega] at h1
  unfold eA wA
  omega
/-- The i-th child. -/
def Ch (l : List Int) (p i c : Nat) : Prop := p < l.length ∧ i < kA l p ∧ wA l (p + 1) i = c
/-- The i-th root. -/
def Ro (l : List Int) (i c : Nat) : Prop := i < rA l 0 ∧ wA l 0 i = c
theorem Ch.in {l : List Int} (h : Fo l) {p i c : Nat} (hc : Ch l p i c) : p < c ∧ c < l.length ∧ eA l c ≤ eA l p ∧ c < eA l p ∧ c < eA l c ∧ wA l (p + 1) (i + 1) = eA l c := by
  obtain ⟨hp, hi, rfl⟩ := hc
  obtain ⟨s1, s2, s3, s4⟩ := h.step p hp
  have h1 := h.lt (p + 1) i (by omega) (by omega)
  have h2 := h.next (p + 1) i (by omega)
  have h3 := h.mono (p + 1) (i + 1) (kA l p) (by omega) (by omega) s3
  have h4 := (h.end (p + 1) i (by omega) (by omega)).2.2
  have h5 := (h.elt _ h1).1
  have h6 := h.eq p hp
  exact ⟨by omega, h1, by omega, by omega, h5, h2⟩
theorem Ch.no {l : List Int} (h : Fo l) {q j c a i : Nat} (hc : Ch l q j c) (hi : i ≤ rA l a) (ha : a ≤ q) (hw : wA l a i = c) : False := by
  obtain ⟨h1, h2, h3, h4, h5, _⟩ := hc.in h
  have := h.lam a i q hi ha (by omega)
  omega
theorem Ch.one {l : List Int} (h : Fo l) {p q i j c : Nat} (hc : Ch l p i c) (hd : Ch l q j c) : p = q := by
  obtain ⟨hp, hi, he⟩ := hc
  obtain ⟨hq, hj, hf⟩ := hd
  rcases Nat.lt_trichotomy p q with hl | hl | hl
  · exact (Ch.no h ⟨hq, hj, hf⟩ (by have := (h.step p hp).2.2.1; omega) (show p + 1 ≤ q by omega) he).elim
  · exact hl
  · exact (Ch.no h ⟨hp, hi, he⟩ (by have := (h.step q hq).2.2.1; omega) (show q + 1 ≤ p by omega) hf).elim
theorem Ch.root {l : List Int} (h : Fo l) {p i j c : Nat} (hc : Ch l p i c) (hd : Ro l j c) : False :=
  Ch.no h hc (by have := hd.1; omega) (Nat.zero_le _) hd.2
/-- Parent's search. -/
def pg (l : List Int) : Nat → Nat → Int
  | 0, _ => -1
  | p + 1, b => if b ≤ kA l p then (p : Int) else pg l p (b + 1 - kA l p)
/-- The parent, or -1. -/
def pl (l : List Int) (c : Nat) : Int := pg l c 1
theorem pg_is {l : List Int} (h : Fo l) (c : Nat) : ∀ (p b : Nat), p ≤ l.length → 0 < b → b ≤ rA l p → wA l p (b - 1) = c → (pg l p b = -1 ∧ ∃ i, Ro l i c) ∨ ∃ q i : Nat, pg l p b = (q : Int) ∧ q < p ∧ Ch l q i c
  | 0, b, _, hb, hr, hw => .inl ⟨rfl, b - 1, by omega, hw⟩
  | p + 1, b, hp, hb, hr, hw => by
    obtain ⟨s1, s2, s3, s4⟩ := h.step p (by omega)
    unfold pg
    by_cases hk : b ≤ kA l p
    · rw [if_pos hk]
      exact .inr ⟨p, b - 1, rfl, by omega, by omega, by omega, hw⟩
    · rw [if_neg hk]
      have hd := h.down p (b - 1 - kA l p) (by omega)
      rw [show kA l p + (b - 1 - kA l p) = b - 1 by omega, hw] at hd
      rcases pg_is h c p (b + 1 - kA l p) (by omega) (by omega) (by omega) (by rw [← hd]; congr 1; omega) with h1 | ⟨q, i, h1, h2, h3⟩
      · exact .inl h1
      · exact .inr ⟨q, i, h1, by omega, h3⟩
theorem pl_is {l : List Int} (h : Fo l) (c : Nat) (hc : c < l.length) : (pl l c = -1 ∧ ∃ i, Ro l i c) ∨ ∃ q i : Nat, pl l c = (q : Int) ∧ q < c ∧ Ch l q i c :=
  pg_is h c c 1 (by omega) (by omega) (h.pos c hc) (wA_zero l c)
theorem pl_ch {l : List Int} (h : Fo l) {p i c : Nat} (hc : Ch l p i c) : pl l c = (p : Int) := by
  rcases pl_is h c (hc.in h).2.1 with ⟨_, j, h2⟩ | ⟨q, j, h1, _, h2⟩
  · exact (hc.root h h2).elim
  · rw [h1, Ch.one h hc h2]
theorem Ro.lt {l : List Int} (h : Fo l) {i c : Nat} (hc : Ro l i c) : c < l.length := by rw [← hc.2]; exact h.lt 0 i (by omega) hc.1
theorem pl_ro {l : List Int} (h : Fo l) {i c : Nat} (hc : Ro l i c) : pl l c = -1 := by
  rcases pl_is h c (hc.lt h) with ⟨h1, _⟩ | ⟨q, j, _, _, h2⟩
  · exact h1
  · exact (h2.root h hc).elim
/-- Where the next is, from a leaf's end on: the node that ends there and what stands there have the same parent, or the parent ends there too. -/
theorem climb {l : List Int} (h : Fo l) (x : Nat) (hx : x < l.length) :
    (eA l x < l.length ∧ pl l (eA l x) = pl l x) ∨ (pl l x = -1 ∧ eA l x = l.length) ∨ ∃ y : Nat, pl l x = (y : Int) ∧ y < x ∧ eA l y = eA l x ∧ (eA l x < l.length → pl l (eA l x) ≠ (y : Int)) := by
  rcases pl_is h x hx with ⟨h1, i, hi, hw⟩ | ⟨q, i, h1, h2, hq, hi, hw⟩
  · have hn := h.next 0 i hi
    rw [hw] at hn
    by_cases hl : i + 1 < rA l 0
    · exact .inl ⟨by rw [← hn]; exact h.lt 0 _ (by omega) hl, by rw [h1]; exact pl_ro h ⟨hl, hn⟩⟩
    · refine .inr (.inl ⟨h1, ?_⟩)
      have h3 := (h.elt x hx).2.1
      have h4 := (h.end 0 (i + 1) (by omega) hi).2.1
      rw [hn] at h4
      rcases Nat.lt_or_ge (eA l x) l.length with h5 | h5
      · have := h.pos _ h5; omega
      · omega
  · obtain ⟨s1, s2, s3, s4⟩ := h.step q hq
    have hn := h.next (q + 1) i (by omega)
    rw [hw] at hn
    by_cases hl : i + 1 < kA l q
    · have hc : Ch l q (i + 1) (eA l x) := ⟨hq, hl, hn⟩
      exact .inl ⟨(hc.in h).2.1, by rw [h1]; exact pl_ch h hc⟩
    · have e : eA l q = eA l x := by rw [h.eq q hq, ← hn]; congr 1; omega
      refine .inr (.inr ⟨q, h1, h2, e, fun hlt hp => ?_⟩)
      rcases pl_is h (eA l x) hlt with ⟨h5, _⟩ | ⟨q', j, h5, h6, h7⟩
      · rw [h5] at hp; omega
      · rw [h5] at hp
        have : q' = q := by omega
        subst this
        have := (h7.in h).2.2.2.1
        omega
theorem sk_eq (l : List Int) (x : Int) (k : Nat) : sk (x :: l) (k + 1) = 1 + sk l (k + x.toNat) := rfl
end Go.Proofs.YtcmhbcfgikmblabGreatDoor.Tr
namespace Go.Proofs.YtcmhbcfgikmblabGreatDoor.Tr
open Go.RowKit Go.Maps

/-- A node. -/
structure Nd where
  nm : ByteArray
  nd : Bool
  fd : ByteArray
  fr : Int
  tt : Int
  kd : Int
  lf : Int
def nf (x : Nd) : List Value := [.string x.nm, .bool x.nd, .string x.fd, .int .i64 x.fr, .int .i64 x.tt, .int .i64 x.kd, .int .i64 x.lf]
def ndd : Nd := ⟨⟨#[]⟩, false, ⟨#[]⟩, 0, 0, 0, 0⟩
theorem nf_len (x : Nd) : (nf x).length = 7 := rfl
theorem nf_one (x : Nd) : ∀ u ∈ nf x, u.oneCell' = true := fun u hu => by
  simp only [nf, List.mem_cons, List.not_mem_nil, or_false] at hu
  rcases hu with rfl | rfl | rfl | rfl | rfl | rfl | rfl <;> rfl
/-- The numbers of children. -/
def kds (t : List Nd) : List Int := t.map Nd.kd
theorem kds_len (t : List Nd) : (kds t).length = t.length := List.length_map _
theorem kds_get (t : List Nd) (i : Nat) : (kds t).getD i 0 = (t.getD i ndd).kd := by
  unfold kds
  rw [List.getD_eq_getElem?_getD, List.getElem?_map, List.getD_eq_getElem?_getD]
  cases t[i]? <;> rfl
/-- Nodes in memory. -/
def Ns (W : World) (v : Value) (t : List Nd) : Prop := Rw W v t.length (flat nf t)
theorem Ns.up {W W' : World} {v : Value} {t : List Nd} (h : Ns W v t) (hb : Below W.heap.size W W') : Ns W' v t := Rw.up h hb
theorem Ns.form {W : World} {v : Value} {t : List Nd} (h : Ns W v t) : ∃ a cap, v = .slice a t.length cap := Rw.form h
/-- The cells of a node. -/
theorem Ns.cells {W : World} {v : Value} {t : List Nd} (h : Ns W v t) (i : Nat) (hi : i < t.length) : ∃ g o cap, v = .slice (some ⟨g, o, none⟩) t.length cap ∧ ∀ j u, (nf (t.getD i ndd))[j]? = some u → W.cell? ⟨g, o + (i * 7 + j), none⟩ = some u := by
  obtain ⟨g, o, cap, e, hc⟩ := Rw.place h (by omega)
  refine ⟨g, o, cap, e, fun j u hu => hc _ _ ?_⟩
  have hj : j < 7 := by
    have := (List.getElem?_eq_some_iff.1 hu).1
    rwa [nf_len] at this
  rw [flat_get nf_len ndd t i j hi hj]
  exact hu
theorem Ns.kid {W : World} {a : Option Addr} {n cap : Nat} {t : List Nd} (h : Ns W (.slice a n cap) t) (i : Nat) (hi : i < t.length) : ∃ g o, a = some ⟨g, o, none⟩ ∧ W.cell? ⟨g, o + i * 7 + 5, none⟩ = some (.int .i64 (t.getD i ndd).kd) := by
  obtain ⟨g, o, cap', e, hc⟩ := h.cells i hi
  obtain ⟨rfl, -, -⟩ := Value.slice.inj e
  refine ⟨g, o, rfl, ?_⟩
  rw [Nat.add_assoc]
  exact hc 5 _ rfl
/-- Small enough. -/
def Sm (t : List Nd) : Prop := t.length * 72 + 4096 ≤ 140737488355328
/-- The answer of Roots. -/
def rts (t : List Nd) : Int := match rt (kds t) with
  | none => -1
  | some r => (r : Int)
theorem rts_some {t : List Nd} {r : Nat} (h : rt (kds t) = some r) : rts t = (r : Int) := by unfold rts; rw [h]
theorem rts_none {t : List Nd} (h : rt (kds t) = none) : rts t = -1 := by unfold rts; rw [h]
theorem rt_bad : ∀ (l : List Int) (a : Nat), rt (l.drop a) = none → rt l = none
  | l, 0, h => h
  | [], a + 1, h => by simp [rt] at h
  | x :: l, a + 1, h => by
    have := rt_bad l a h
    unfold rt; rw [this]
theorem w64 (z : Int) (h0 : -9223372036854775808 ≤ z) (h1 : z ≤ 9223372036854775807) : IntKind.i64.wrap z = z := by rw [IntKind.wrap_i64]; omega
set_option maxRecDepth 100000 in
set_option maxHeartbeats 8000000 in
theorem roots_any {v : Value} {t : List Nd} (w : World) (h : Ns w v t) (hs : Sm t) :
    Calls Tryz.prog 10 #[v] w fun e w' => e = .returned (.int .i64 (rts t)) ∧ w = w' := by
  have HT : Hid (Ns w v t) := h
  have HS : Hid (Sm t) := hs
  obtain ⟨a, cap, rfl⟩ := h.form
  clear h hs
  obtain ⟨n, hn⟩ : ∃ n, t.length = n := ⟨_, rfl⟩
  have HN : Hid (t.length = n) := hn
  rw [hn] at HT ⊢
  have HSZ : Hid (n * 72 + 4096 ≤ 140737488355328) := by have := HS.out; unfold Sm at this; rw [hn] at this; exact this
  clear hn
  have hw0 : IntKind.i64.wrap ((n : Int) - 1) = (n : Int) - 1 := w64 _ (by omega) (by have := HSZ.out; omega)
  obtain ⟨z0, hz0⟩ : ∃ z0, (n : Int) - 1 = z0 := ⟨_, rfl⟩
  have HZ0 : Hid ((n : Int) - 1 = z0) := hz0
  rw [hz0] at hw0
  have hw1 : IntKind.i64.wrap ((n : Int) - 1) = z0 := by rw [hz0]; exact hw0
  clear hz0 hw0
  go_enter Tryz.func10, Tryz.ntmps10
  go_upto_region 3 with fail
  clear hw1
  go_loopg [3, 4] n (fun gm v3 v4 wr => ∃ (r k : Nat) (z : Int), v3 = .int .i64 (r : Int) ∧ v4 = .int .i64 z ∧ Hid (z = (k : Int) - 1) ∧ Hid (gm = k ∧ k ≤ n ∧ r + k ≤ n ∧ rt ((kds t).drop k) = some r) ∧ w = wr)
  case atStart => exact ⟨0, n, z0, rfl, rfl, HZ0.out.symm, ⟨rfl, Nat.le_refl _, by omega, by rw [List.drop_of_length_le (by rw [kds_len, HN.out]; exact Nat.le_refl _)]; rfl⟩, rfl⟩
  case round =>
    obtain ⟨r, k, z, rfl, rfl, HZ, HI, hw9⟩ := hrel
    subst hw9
    clear HZ0
    cases k with
    | zero =>
      have e1 : z = -1 := by have := HZ.out; omega
      subst e1
      have HE : Hid (rts t = (r : Int)) := rts_some HI.out.2.2.2
      go_wp2_with fail
      go_ret
      exact ⟨by rw [HE.out]; rfl, rfl⟩
    | succ p =>
      have e1 : z = (p : Int) := by have := HZ.out; omega
      subst e1
      clear HZ
      have hp : p < t.length := by have := HI.out; have := HN.out; omega
      obtain ⟨g, o, rfl, hc⟩ := HT.out.kid p hp
      have hx0 : (kds t).getD p 0 = (t.getD p ndd).kd := kds_get t p
      obtain ⟨x, hx⟩ : ∃ x, (t.getD p ndd).kd = x := ⟨_, rfl⟩
      rw [hx] at hc hx0
      clear hx
      have HD : Hid ((kds t).drop p = x :: (kds t).drop (p + 1)) := by rw [← hx0]; exact drop_at _ _ (by rw [kds_len]; exact hp)
      have e2 : decide ((0 : Int) ≤ (p : Int)) = true := by rw [decide_eq_true_eq]; omega
      have e3 : (p : Int) < (n : Int) := by have := HN.out; omega
      have e4 : p < n := by omega
      clear hx0 hp
      by_cases h1 : x < 0
      · have e5 : decide (x < 0) = true := by rw [decide_eq_true_eq]; exact h1
        have HE : Hid (rts t = -1) := rts_none (rt_bad _ p (by rw [HD.out]; unfold rt; rw [HI.out.2.2.2]; dsimp only; rw [if_neg (by omega)]))
        clear h1
        go_wp2_with fail
        go_ret
        exact ⟨by rw [HE.out]; rfl, rfl⟩
      · have e5 : decide (x < 0) = false := by rw [decide_eq_false_iff_not]; exact h1
        by_cases h2 : (r : Int) < x
        · have e6 : decide ((r : Int) < x) = true := by rw [decide_eq_true_eq]; exact h2
          have HE : Hid (rts t = -1) := rts_none (rt_bad _ p (by rw [HD.out]; unfold rt; rw [HI.out.2.2.2]; dsimp only; rw [if_neg (by omega)]))
          clear h1 h2
          go_wp2_with fail
          go_ret
          exact ⟨by rw [HE.out]; rfl, rfl⟩
        · obtain ⟨y, rfl⟩ : ∃ y : Nat, x = (y : Int) := ⟨x.toNat, by omega⟩
          have e6 : decide ((r : Int) < (y : Int)) = false := by rw [decide_eq_false_iff_not]; exact h2
          have e7 : decide (r < y) = false := by rw [decide_eq_false_iff_not]; omega
          have HY : Hid (y ≤ r) := by show y ≤ r; omega
          have HE : Hid (rt ((kds t).drop p) = some (r + 1 - y)) := by rw [HD.out]; unfold rt; rw [HI.out.2.2.2]; dsimp only; rw [if_pos (by omega)]; rfl
          have hA : IntKind.i64.wrap ((y : Int) - 1) = (y : Int) - 1 := w64 _ (by omega) (by have := HSZ.out; have := HI.out; omega)
          have hB : IntKind.i64.wrap ((r : Int) - ((y : Int) - 1)) = ((r + 1 - y : Nat) : Int) := by rw [w64 _ (by omega) (by have := HSZ.out; have := HI.out; omega)]; omega
          have hC : IntKind.i64.wrap ((p : Int) - 1) = (p : Int) - 1 := w64 _ (by omega) (by have := HSZ.out; have := HI.out; omega)
          obtain ⟨q, hq⟩ : ∃ q, r + 1 - y = q := ⟨_, rfl⟩
          rw [hq] at hB HE
          have HQ : Hid (q = r + 1 - y ∧ q + p ≤ n) := by have := HI.out; show _ ∧ _; omega
          clear h1 h2 hq
          go_wp2_with fail
          go_roundg p
          case measure => have := HI.out.1; omega
          case rel => exact ⟨q, p, _, rfl, rfl, rfl, ⟨rfl, by have := HI.out; omega, HQ.out.2, HE.out⟩, rfl⟩
/-- The place behind a subtree. -/
theorem sk_stop {l : List Int} {a : Nat} (h : a < l.length) (k : Nat) : wA l a (k + 1) = wA l (a + 1) (kA l a + k) := by
  unfold wA kA
  rw [drop_at l a h]
  show a + (1 + sk _ (k + _)) = _
  rw [Nat.add_comm k]; omega
set_option maxRecDepth 100000 in
set_option maxHeartbeats 8000000 in
theorem behind_any {v : Value} {t : List Nd} (w : World) (h : Ns w v t) (hs : Sm t) (hf : Fo (kds t)) (a0 : Nat) (ha : a0 < t.length) :
    Calls Tryz.prog 29 #[v, .int .i64 (a0 : Int)] w fun e w' => e = .returned (.int .i64 (eA (kds t) a0 : Nat)) ∧ w = w' := by
  have HT : Hid (Ns w v t) := h
  have HS : Hid (Sm t) := hs
  have HF : Hid (Fo (kds t)) := hf
  obtain ⟨a, cap, rfl⟩ := h.form
  clear h hs hf
  obtain ⟨n, hn⟩ : ∃ n, t.length = n := ⟨_, rfl⟩
  have HN : Hid (t.length = n) := hn
  rw [hn] at HT ⊢
  have HSZ : Hid (n * 72 + 4096 ≤ 140737488355328) := by have := HS.out; unfold Sm at this; rw [hn] at this; exact this
  have HA : Hid (a0 < n) := by rw [hn] at ha; exact ha
  clear hn ha
  obtain ⟨E, hE⟩ : ∃ E, eA (kds t) a0 = E := ⟨_, rfl⟩
  rw [hE]
  have HE : Hid (eA (kds t) a0 = E) := hE
  clear hE
  go_enter Tryz.func29, Tryz.ntmps29
  go_upto_region 2 with fail
  go_loopg [1, 5] (n + 1) (fun gm v1 v5 wr => ∃ (p r : Nat), v1 = .int .i64 (p : Int) ∧ v5 = .int .i64 (r : Int) ∧ Hid (n + 1 - p ≤ gm ∧ p ≤ n ∧ r ≤ rA (kds t) p ∧ wA (kds t) p r = E) ∧ w = wr)
  case atStart => exact ⟨a0, 1, rfl, rfl, ⟨by omega, by have := HA.out; omega, HF.out.pos _ (by rw [kds_len, HN.out]; exact HA.out), HE.out⟩, rfl⟩
  case round =>
    obtain ⟨p, r, rfl, rfl, HI, hw9⟩ := hrel
    subst hw9
    cases r with
    | zero =>
      have HEE : Hid (p = E) := by have := HI.out.2.2.2; rw [wA_zero] at this; exact this
      go_wp2_with fail
      go_ret
      exact ⟨by rw [HEE.out]; rfl, rfl⟩
    | succ q =>
      have hp : p < t.length := by
        have h1 := HI.out.2.2.1
        have h2 := HF.out.le p
        rw [kds_len] at h2; omega
      obtain ⟨g, o, rfl, hc⟩ := HT.out.kid p hp
      obtain ⟨s1, s2, s3, s4⟩ := HF.out.step p (by rw [kds_len]; exact hp)
      rw [← kds_get, s2] at hc
      have HR : Hid (wA (kds t) (p + 1) (kA (kds t) p + q) = E) := by rw [← sk_stop (by rw [kds_len]; exact hp)]; exact HI.out.2.2.2
      have HK : Hid (kA (kds t) p + q ≤ rA (kds t) (p + 1) ∧ rA (kds t) (p + 1) ≤ n) := by
        have h1 := HI.out.2.2.1
        have h2 := HF.out.le (p + 1)
        have h3 := HN.out
        rw [kds_len] at h2
        show _ ∧ _; omega
      obtain ⟨y, hy⟩ : ∃ y, kA (kds t) p = y := ⟨_, rfl⟩
      rw [hy] at hc HR HK
      have e3 : (p : Int) < (n : Int) := by have := HN.out; omega
      have e4 : p < n := by omega
      have e5 : decide ((0 : Int) < ((q + 1 : Nat) : Int)) = true := by rw [decide_eq_true_eq]; omega
      obtain ⟨r, hr⟩ : ∃ r, q + 1 = r := ⟨_, rfl⟩
      rw [hr] at e5 ⊢
      have e6 : decide (0 < r) = true := by rw [decide_eq_true_eq]; omega
      have e7 : 0 < r := by omega
      have hA : IntKind.i64.wrap ((y : Int) - 1) = (y : Int) - 1 := w64 _ (by omega) (by have := HSZ.out; have := HK.out; omega)
      have hB : IntKind.i64.wrap ((r : Int) + ((y : Int) - 1)) = ((y + q : Nat) : Int) := by rw [w64 _ (by omega) (by have := HSZ.out; have := HK.out; omega)]; omega
      have hC := w64n p (by have := HSZ.out; omega)
      clear s1 s2 s3 s4 hy hp hr
      obtain ⟨z, hz⟩ : ∃ z, y + q = z := ⟨_, rfl⟩
      rw [hz] at hB HK HR
      obtain ⟨p', hp'⟩ : ∃ p', p + 1 = p' := ⟨_, rfl⟩
      rw [hp'] at hC HK HR
      have HP : Hid (p + 1 = p' ∧ p' ≤ n) := ⟨hp', by omega⟩
      clear hz hp'
      go_wp2_with fail
      go_roundg (n + 1 - p')
      case measure => have := HI.out.1; have := HP.out; omega
      case rel => exact ⟨p', z, rfl, rfl, ⟨Nat.le_refl _, HP.out.2, HK.out.1, HR.out⟩, rfl⟩
end Go.Proofs.YtcmhbcfgikmblabGreatDoor.Tr
