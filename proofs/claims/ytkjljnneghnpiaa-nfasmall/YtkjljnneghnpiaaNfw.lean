import Derived.Test.YtkjljnneghnpiaaNfp
namespace Go.Proofs.Ytkjljnneghnpiaa

/-- How many are not. -/
def dd (L : Nat → Bool) : Nat → Nat
  | 0 => 0
  | n + 1 => dd L n + (if L n then 0 else 1)
def upd (L : Nat → Bool) (p : Nat) : Nat → Bool := fun t => if t = p then true else L t
theorem upd_mono {L : Nat → Bool} {p t : Nat} (h : L t = true) : upd L p t = true := by unfold upd; split <;> simp_all
theorem upd_self {L : Nat → Bool} {p : Nat} : upd L p p = true := by simp [upd]
theorem upd_inv {L : Nat → Bool} {p t : Nat} (h : upd L p t = true) : t = p ∨ L t = true := by
  unfold upd at h
  split at h
  · exact .inl ‹_›
  · exact .inr h
theorem dd_le (L : Nat → Bool) (n : Nat) : dd L n ≤ n := by
  induction n with
  | zero => simp [dd]
  | succ n ih => unfold dd; split <;> omega
theorem dd_upd_ge {L : Nat → Bool} {p n : Nat} (h : n ≤ p) : dd (upd L p) n = dd L n := by
  induction n with
  | zero => rfl
  | succ n ih =>
    have e : upd L p n = L n := by unfold upd; rw [if_neg (by omega)]
    simp only [dd, e, ih (by omega)]
theorem dd_upd {L : Nat → Bool} {p n : Nat} (hp : p < n) (h : L p = false) : dd (upd L p) n + 1 = dd L n := by
  induction n with
  | zero => omega
  | succ n ih =>
    by_cases e : p = n
    · subst e
      simp only [dd, upd_self, h, dd_upd_ge (Nat.le_refl _)]
      simp
    · have e2 : upd L p n = L n := by unfold upd; rw [if_neg (by omega)]
      have := ih (by omega)
      simp only [dd, e2]
      omega
/-- Woken by q. -/
inductive Wk (G : Nat → List Nat) (q : Nat) : Nat → Prop
  | self : Wk G q q
  | step {t p : Nat} : Wk G q t → p ∈ G t → Wk G q p
/-- What is known while states are woken: S are still to be gone through; of 'at' the first j. -/
structure WSi (G : Nat → List Nat) (n : Nat) (L : Nat → Bool) (q : Nat) (L' : Nat → Bool) (S : List Nat) (at_ : Option (Nat × Nat)) : Prop where
  mono : ∀ t, L t = true → L' t = true
  self : L' q = true
  only : ∀ t, L' t = true → L t = true ∨ Wk G q t
  shut : ∀ t, L' t = true → (L t = false ∨ t = q) → t ∈ S ∨ (∀ p ∈ G t, L' p = true) ∨ ∃ j, at_ = some (t, j) ∧ ∀ p ∈ (G t).take j, L' p = true
  stk : ∀ t ∈ S, t < n ∧ Wk G q t
  wk : ∀ t j, at_ = some (t, j) → Wk G q t
variable {G : Nat → List Nat} {n q : Nat} {L L' : Nat → Bool} {S : List Nat}
theorem WSi.start (hq : q < n) : WSi G n L q (upd L q) [q] none := by
  refine ⟨fun t h => upd_mono h, upd_self, fun t h => (upd_inv h).elim (fun e => .inr (e ▸ .self)) .inl, fun t h h1 => ?_, fun t ht => ?_, fun t j h => by cases h⟩
  · rcases upd_inv h with rfl | h2
    · exact .inl (by simp)
    · rcases h1 with h1 | rfl
      · rw [h1] at h2; cases h2
      · exact .inl (by simp)
  · simp at ht; subst ht; exact ⟨hq, .self⟩
theorem WSi.pop {a : Nat} (h : WSi G n L q L' (S ++ [a]) none) : WSi G n L q L' S (some (a, 0)) := by
  refine ⟨h.mono, h.self, h.only, fun t h1 h2 => ?_, fun t ht => h.stk t (List.mem_append_left _ ht), fun t j e => ?_⟩
  · rcases h.shut t h1 h2 with h3 | h3 | ⟨j, h3, _⟩
    · rcases List.mem_append.1 h3 with h4 | h4
      · exact .inl h4
      · simp at h4; subst h4; exact .inr (.inr ⟨0, rfl, by simp⟩)
    · exact .inr (.inl h3)
    · cases h3
  · cases e; exact (h.stk _ (List.mem_append_right _ (by simp))).2
theorem take_mem_succ {l : List Nat} {j p : Nat} (hj : j < l.length) (h : p ∈ l.take (j + 1)) : p ∈ l.take j ∨ p = l[j] := by
  rw [List.take_add_one, List.getElem?_eq_getElem hj] at h
  rcases List.mem_append.1 h with h | h
  · exact .inl h
  · exact .inr (by simpa using h)
theorem WSi.old {a j : Nat} (h : WSi G n L q L' S (some (a, j))) (hj : j < (G a).length) (hp : L' (G a)[j] = true) : WSi G n L q L' S (some (a, j + 1)) := by
  refine ⟨h.mono, h.self, h.only, fun t h1 h2 => ?_, h.stk, fun t j e => by cases e; exact h.wk a _ rfl⟩
  rcases h.shut t h1 h2 with h3 | h3 | ⟨j', h3, h4⟩
  · exact .inl h3
  · exact .inr (.inl h3)
  · cases h3
    refine .inr (.inr ⟨_, rfl, fun p hp' => ?_⟩)
    rcases take_mem_succ hj hp' with h5 | rfl
    · exact h4 p h5
    · exact hp
theorem WSi.new {a j : Nat} (h : WSi G n L q L' S (some (a, j))) (hj : j < (G a).length) (hpn : (G a)[j] < n) : WSi G n L q (upd L' (G a)[j]) (S ++ [(G a)[j]]) (some (a, j + 1)) := by
  have hw := h.wk a j rfl
  have hwp : Wk G q (G a)[j] := hw.step (List.getElem_mem hj)
  refine ⟨fun t ht => upd_mono (h.mono t ht), upd_mono h.self, fun t ht => ?_, fun t h1 h2 => ?_, fun t ht => ?_, fun t j e => by cases e; exact hw⟩
  · rcases upd_inv ht with rfl | h3
    · exact .inr hwp
    · exact h.only t h3
  · rcases upd_inv h1 with rfl | h1
    · exact .inl (by simp)
    · rcases h.shut t h1 h2 with h3 | h3 | ⟨j', h3, h4⟩
      · exact .inl (List.mem_append_left _ h3)
      · exact .inr (.inl fun p hp => upd_mono (h3 p hp))
      · cases h3
        refine .inr (.inr ⟨_, rfl, fun p hp' => ?_⟩)
        rcases take_mem_succ hj hp' with h5 | rfl
        · exact upd_mono (h4 p h5)
        · exact upd_self
  · rcases List.mem_append.1 ht with h3 | h3
    · exact h.stk t h3
    · simp at h3; subst h3; exact ⟨hpn, hwp⟩
theorem WSi.over {a j : Nat} (h : WSi G n L q L' S (some (a, j))) (hj : (G a).length ≤ j) : WSi G n L q L' S none := by
  refine ⟨h.mono, h.self, h.only, fun t h1 h2 => ?_, h.stk, fun t j e => by cases e⟩
  rcases h.shut t h1 h2 with h3 | h3 | ⟨j', h3, h4⟩
  · exact .inl h3
  · exact .inr (.inl h3)
  · cases h3
    rw [List.take_of_length_le hj] at h4
    exact .inr (.inl h4)
/-- What has come of it. -/
structure Woken (G : Nat → List Nat) (L : Nat → Bool) (q : Nat) (L' : Nat → Bool) : Prop where
  mono : ∀ t, L t = true → L' t = true
  self : L' q = true
  only : ∀ t, L' t = true → L t = true ∨ Wk G q t
  shut : ∀ t, L' t = true → (L t = false ∨ t = q) → ∀ p ∈ G t, L' p = true
theorem WSi.done (h : WSi G n L q L' [] none) : Woken G L q L' := by
  refine ⟨h.mono, h.self, h.only, fun t h1 h2 => ?_⟩
  rcases h.shut t h1 h2 with h3 | h3 | ⟨j', h3, h4⟩
  · cases h3
  · exact h3
  · cases h3

/-- What is known while the states are gone through: those below q are done. -/
structure LvI (N : Mc) (q : Nat) (L : Nat → Bool) (G : Nat → List Nat) : Prop where
  live : ∀ t, L t = true → N.Live t
  fin : L N.fin.toNat = true
  shut : ∀ p, p < q → L p = false → ∀ t ∈ N.nxt p, L t = false ∧ p ∈ G t
  wait : ∀ t p, p ∈ G t → p < N.on.length ∧ t ∈ N.nxt p
variable {N : Mc}
theorem LvI.start (hf : N.isS N.fin = true) : LvI N 0 (upd (fun _ => false) N.fin.toNat) (fun _ => []) := by
  refine ⟨fun t h => ?_, upd_self, fun p hp => by omega, fun t p h => by cases h⟩
  rcases upd_inv h with rfl | h
  · exact .fin hf
  · cases h
theorem LvI.pass (h : LvI N q L G) (hq : L q = true) : LvI N (q + 1) L G := by
  refine ⟨h.live, h.fin, fun p hp h1 => ?_, h.wait⟩
  by_cases e : p = q
  · subst e; rw [hq] at h1; cases h1
  · exact h.shut p (by omega) h1
theorem Wk.live (h : LvI N q L G) (hl : N.Live q) {t : Nat} (w : Wk G q t) : N.Live t := by
  induction w with
  | self => exact hl
  | step _ hp ih => obtain ⟨h1, h2⟩ := h.wait _ _ hp; exact .step h1 h2 ih
theorem LvI.wake (h : LvI N q L G) (hq : q < N.on.length) {t : Nat} (ht : t ∈ N.nxt q) (hl : L t = true) (hw : Woken G L q L') : LvI N (q + 1) L' G := by
  have hlq : N.Live q := .step hq ht (h.live t hl)
  refine ⟨fun t ht => ?_, hw.mono _ h.fin, fun p hp h1 t ht => ?_, h.wait⟩
  · rcases hw.only t ht with h1 | h1
    · exact h.live t h1
    · exact Wk.live h hlq h1
  · have h0 : L p = false := by
      cases hc : L p with
      | false => rfl
      | true => rw [hw.mono p hc] at h1; cases h1
    by_cases e : p = q
    · subst e; rw [hw.self] at h1; cases h1
    · obtain ⟨h2, h3⟩ := h.shut p (by omega) h0 t ht
      refine ⟨?_, h3⟩
      cases hc : L' t with
      | false => rfl
      | true => rw [hw.shut t hc (.inl h2) p h3] at h1; cases h1
/-- The state q waits at all to which it goes. -/
def addW (G : Nat → List Nat) (q : Nat) (ts : List Nat) : Nat → List Nat := fun t => G t ++ (ts.filter (· == t)).map fun _ => q
theorem addW_nil : addW G q [] = G := by funext t; simp [addW]
theorem addW_snoc {ts : List Nat} {x t : Nat} : addW G q (ts ++ [x]) t = if t = x then addW G q ts t ++ [q] else addW G q ts t := by
  unfold addW
  by_cases h : t = x
  · subst h; simp
  · have : (x == t) = false := by simp; omega
    simp [this, h]
theorem addW_mem {ts : List Nat} {t p : Nat} : p ∈ addW G q ts t ↔ p ∈ G t ∨ (p = q ∧ t ∈ ts) := by
  unfold addW
  simp only [List.mem_append, List.mem_map, List.mem_filter, beq_iff_eq]
  constructor
  · rintro (h | ⟨x, ⟨h1, rfl⟩, rfl⟩)
    · exact .inl h
    · exact .inr ⟨rfl, h1⟩
  · rintro (h | ⟨rfl, h⟩)
    · exact .inl h
    · exact .inr ⟨t, ⟨h, rfl⟩, rfl⟩
theorem LvI.waits (h : LvI N q L G) (hq : q < N.on.length) (hl : L q = false) {ts : List Nat} (hts : ∀ t, t ∈ ts ↔ t ∈ N.nxt q) (hn : ∀ t ∈ ts, L t = false) : LvI N (q + 1) L (addW G q ts) := by
  refine ⟨h.live, h.fin, fun p hp h1 t ht => ?_, fun t p hp => ?_⟩
  · by_cases e : p = q
    · subst e
      exact ⟨hn t ((hts t).2 ht), addW_mem.2 (.inr ⟨rfl, (hts t).2 ht⟩)⟩
    · obtain ⟨h2, h3⟩ := h.shut p (by omega) h1 t ht
      exact ⟨h2, addW_mem.2 (.inl h3)⟩
  · rcases addW_mem.1 hp with h1 | ⟨rfl, h1⟩
    · exact h.wait t p h1
    · exact ⟨hq, (hts t).1 h1⟩
theorem LvI.done (h : LvI N N.on.length L G) : ∀ t, t < N.on.length → (L t = true ↔ N.Live t) := by
  intro t ht
  refine ⟨h.live t, fun hl => ?_⟩
  induction hl with
  | fin _ => exact h.fin
  | @step p t hp hn _ ih =>
    cases hc : L p with
    | true => rfl
    | false =>
      have := (h.shut p hp hc t hn).1
      rw [ih (nxt_lt hn)] at this; cases this
end Go.Proofs.Ytkjljnneghnpiaa
