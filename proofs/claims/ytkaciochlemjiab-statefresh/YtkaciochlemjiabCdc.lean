import Derived.Test.YtkaciochlemjiabNum
namespace Go.Proofs.Ytkaciochlemjiab
/-! Numbers as bytes: what is written is read, and only that. -/

/-- The value of bytes of which each is followed by another. -/
def gv : List UInt8 → Nat
  | [] => 0
  | b :: p => b.toNat % 128 + 128 * gv p
theorem gv_app (p q : List UInt8) : gv (p ++ q) = gv p + gv q * 128 ^ p.length := by
  induction p with
  | nil => simp [gv]
  | cons b p ih =>
    simp only [List.cons_append, gv, ih, List.length_cons, Nat.pow_succ]
    rw [Nat.mul_add, ← Nat.add_assoc, ← Nat.mul_assoc, Nat.mul_comm 128 (gv q), Nat.mul_assoc, Nat.mul_comm 128 (128 ^ p.length)]
/-- A number's bytes, told as they stand. -/
structure Nmf (pre : List UInt8) (b : UInt8) : Prop where
  more : ∀ c ∈ pre, 128 ≤ c.toNat
  last : b.toNat < 128
  least : pre = [] ∨ b ≠ 0
theorem nm_of {pre : List UInt8} {b : UInt8} (h : Nmf pre b) : nm (gv pre + b.toNat * 128 ^ pre.length) = pre ++ [b] := by
  induction pre with
  | nil =>
    simp only [gv, List.length_nil, Nat.pow_zero, Nat.mul_one, Nat.zero_add, List.nil_append]
    unfold nm
    rw [if_pos h.last]
    simp
  | cons c p ih =>
    have hb : b ≠ 0 := h.least.resolve_left (by simp)
    have ih := ih ⟨fun x hx => h.more x (by simp [hx]), h.last, .inr hb⟩
    have hc := h.more c (by simp)
    have hcl : c.toNat < 256 := c.toNat_lt
    have hbn : 0 < b.toNat := by
      rcases Nat.eq_zero_or_pos b.toNat with h0 | h0
      · exact absurd (UInt8.toNat_inj.1 (by rw [h0]; rfl)) hb
      · exact h0
    have hpos : 0 < b.toNat * 128 ^ p.length := Nat.mul_pos hbn (Nat.pow_pos (by omega))
    have e : gv (c :: p) + b.toNat * 128 ^ (c :: p).length = c.toNat % 128 + 128 * (gv p + b.toNat * 128 ^ p.length) := by
      simp only [gv, List.length_cons, Nat.pow_succ]
      rw [Nat.mul_add, ← Nat.add_assoc, ← Nat.mul_assoc b.toNat, Nat.mul_comm _ 128]
    rw [e]
    unfold nm
    rw [if_neg (by omega)]
    have e1 : (c.toNat % 128 + 128 * (gv p + b.toNat * 128 ^ p.length)) % 128 = c.toNat % 128 := by omega
    have e2 : (c.toNat % 128 + 128 * (gv p + b.toNat * 128 ^ p.length)) / 128 = gv p + b.toNat * 128 ^ p.length := by omega
    rw [e1, e2, ih, show 128 + c.toNat % 128 = c.toNat by omega]
    simp
theorem nm_form (n : Nat) : ∃ pre b, nm n = pre ++ [b] ∧ Nmf pre b ∧ n = gv pre + b.toNat * 128 ^ pre.length := by
  induction n using Nat.strongRecOn with
  | _ n ih =>
    by_cases hn : n < 128
    · refine ⟨[], UInt8.ofNat n, ?_, ⟨fun c hc => (by cases hc), ?_, .inl rfl⟩, ?_⟩
      · unfold nm; rw [if_pos hn]; rfl
      · rw [UInt8.toNat_ofNat']; omega
      · simp only [gv, List.length_nil, Nat.pow_zero, Nat.mul_one, Nat.zero_add, UInt8.toNat_ofNat']; omega
    · obtain ⟨pre, b, h1, h2, h3⟩ := ih (n / 128) (by omega)
      have hb : b ≠ 0 := by
        intro h0
        subst h0
        have : n / 128 = gv pre := by rw [h3]; simp
        rcases h2.least with hp | hp
        · subst hp
          simp [gv] at this
          omega
        · exact hp rfl
      have ec : (UInt8.ofNat (128 + n % 128)).toNat = 128 + n % 128 := by rw [UInt8.toNat_ofNat']; omega
      refine ⟨UInt8.ofNat (128 + n % 128) :: pre, b, ?_, ⟨fun c hc => ?_, h2.last, .inr hb⟩, ?_⟩
      · rw [nm, if_neg hn, h1]; rfl
      · rcases List.mem_cons.1 hc with rfl | hc
        · rw [ec]; omega
        · exact h2.more c hc
      · simp only [gv, ec, List.length_cons, Nat.pow_succ]
        have : b.toNat * (128 ^ pre.length * 128) = 128 * (b.toNat * 128 ^ pre.length) := by rw [← Nat.mul_assoc, Nat.mul_comm]
        rw [this]
        omega
/-- The first byte below 128 ends the number. -/
theorem nmf_at {pre pre' r r' : List UInt8} {b b' : UInt8} (h : ∀ c ∈ pre, 128 ≤ c.toNat) (hb : b.toNat < 128) (h' : ∀ c ∈ pre', 128 ≤ c.toNat) (hb' : b'.toNat < 128) (e : pre ++ b :: r = pre' ++ b' :: r') : pre = pre' ∧ b = b' ∧ r = r' := by
  induction pre generalizing pre' with
  | nil =>
    cases pre' with
    | nil => cases e; exact ⟨rfl, rfl, rfl⟩
    | cons c p =>
      cases e
      have := h' b (by simp)
      omega
  | cons c p ih =>
    cases pre' with
    | nil =>
      cases e
      have := h b' (by simp)
      omega
    | cons c' p' =>
      simp only [List.cons_append, List.cons.injEq] at e
      obtain ⟨rfl, e⟩ := e
      obtain ⟨h1, h2, h3⟩ := ih (fun x hx => h x (by simp [hx])) (fun x hx => h' x (by simp [hx])) e
      exact ⟨by rw [h1], h2, h3⟩
/-- A number is read in one way. -/
theorem nm_pf {n n' : Nat} {r r' : List UInt8} (e : nm n ++ r = nm n' ++ r') : n = n' ∧ r = r' := by
  obtain ⟨p, b, h1, h2, h3⟩ := nm_form n
  obtain ⟨p', b', h1', h2', h3'⟩ := nm_form n'
  rw [h1, h1', List.append_assoc, List.append_assoc] at e
  obtain ⟨rfl, rfl, e3⟩ := nmf_at h2.more h2.last h2'.more h2'.last e
  exact ⟨by rw [h3, h3'], e3⟩
/-- No number of so few groups stands there. -/
theorem nm_none {l pre : List UInt8} {n : Nat} (h : ∀ c ∈ pre, 128 ≤ c.toNat) (hn : n < 128 ^ 3) (hp : pre.length = 3 ∨ pre = l) (hl : ∃ q, l = pre ++ q) (r : List UInt8) : l ≠ nm n ++ r := by
  intro e
  obtain ⟨p, b, h1, h2, _⟩ := nm_form n
  obtain ⟨q, hq⟩ := hl
  have hlen := nm_len n 3 hn (by omega)
  rw [h1, List.length_append] at hlen
  simp at hlen
  rw [h1, List.append_assoc] at e
  have hmem : b ∈ pre := by
    rcases hp with hp | hp
    · have h5 : (pre ++ q)[p.length]? = some b := by rw [← hq, e]; simp
      rw [List.getElem?_append_left (by omega)] at h5
      exact List.mem_of_getElem? h5
    · rw [hp, e]; simp
  have := h b hmem
  have := h2.last
  omega
end Go.Proofs.Ytkaciochlemjiab
