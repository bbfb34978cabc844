import Derived.Test.YtkjljnneghnpiaaNfw
namespace Go.Proofs.Ytkjljnneghnpiaa
variable {N : Mc} {L I I' : Nat → Bool}
/-- What comes by free steps over states that live. -/
inductive Cl (N : Mc) (L I : Nat → Bool) : Nat → Prop
  | base {t : Nat} : I t = true → Cl N L I t
  | step {p : Nat} {x : Int} : Cl N L I p → x ∈ N.frees p → N.isS x = true → L x.toNat = true → Cl N L I x.toNat
/-- The front behind s. -/
def Fnt (N : Mc) (s : List Nat) (I : Nat → Bool) : Prop := ∀ t, t < N.on.length → (I t = true ↔ N.At s t ∧ N.Live t)
def LvOk (N : Mc) (L : Nat → Bool) : Prop := ∀ t, t < N.on.length → (L t = true ↔ N.Live t)
theorem Cl.lt (h0 : ∀ t, I t = true → t < N.on.length) {t : Nat} (h : Cl N L I t) : t < N.on.length := by
  cases h with
  | base h => exact h0 _ h
  | step _ _ h _ => exact isS_lt h
theorem fnt_start (hL : LvOk N L) (hs : N.isS N.start = true) (h : ∀ t, t < N.on.length → (I' t = true ↔ Cl N L (fun t => L t && decide (t = N.start.toNat)) t)) : Fnt N [] I' := by
  intro t ht
  rw [h t ht]
  constructor
  · intro hc
    clear h ht
    have : ∀ t, Cl N L (fun t => L t && decide (t = N.start.toNat)) t → N.At [] t ∧ N.Live t := by
      intro t hc
      induction hc with
      | base h =>
        simp at h
        obtain ⟨h1, rfl⟩ := h
        exact ⟨.start hs, (hL _ (isS_lt hs)).1 h1⟩
      | step _ hx his hl ih => exact ⟨.free ih.1 hx his, (hL _ (isS_lt his)).1 hl⟩
    exact this t hc
  · rintro ⟨ha, hl⟩
    have : ∀ s t, N.At s t → s = [] → N.Live t → Cl N L (fun t => L t && decide (t = N.start.toNat)) t := by
      intro s t ha
      induction ha with
      | start h => intro _ hl; exact .base (by simp [(hL _ (isS_lt h)).2 hl])
      | free hp hx his ih =>
        intro e hl
        exact .step (ih e (.step (Mc.At.lt hp) (free_nxt hx his) hl)) hx his ((hL _ (isS_lt his)).2 hl)
      | byte => intro e; simp at e
    exact this [] t ha rfl hl
theorem fnt_read {s : List Nat} {b : Nat} (hL : LvOk N L) (hI : Fnt N s I) {I1 : Nat → Bool} (h1 : ∀ t, t < N.on.length → (I1 t = true ↔ ∃ p, p < N.on.length ∧ I p = true ∧ N.toOf p = some t ∧ N.cls p b = true ∧ L t = true)) (h1' : ∀ t, I1 t = true → t < N.on.length)
    (h : ∀ t, t < N.on.length → (I' t = true ↔ Cl N L I1 t)) : Fnt N (s ++ [b]) I' := by
  intro t ht
  rw [h t ht]
  constructor
  · intro hc
    clear h ht
    induction hc with
    | base h =>
      obtain ⟨p, hp, h2, h3, h4, h5⟩ := (h1 _ (h1' _ h)).1 h
      exact ⟨.byte ((hI p hp).1 h2).1 h3 h4, (hL _ (toOf_lt h3)).1 h5⟩
    | step _ hx his hl ih => exact ⟨.free ih.1 hx his, (hL _ (isS_lt his)).1 hl⟩
  · rintro ⟨ha, hl⟩
    have : ∀ u t, N.At u t → u = s ++ [b] → N.Live t → Cl N L I1 t := by
      intro u t ha
      induction ha with
      | start h => intro e; have := congrArg List.length e; simp at this
      | free hp hx his ih =>
        intro e hl
        exact .step (ih e (.step (Mc.At.lt hp) (free_nxt hx his) hl)) hx his ((hL _ (isS_lt his)).2 hl)
      | @byte s0 p0 q0 b0 hp ht hc ih =>
        intro e hl
        obtain ⟨rfl, e2⟩ := List.append_inj' e rfl
        cases e2
        have hp' := Mc.At.lt hp
        exact .base ((h1 _ (toOf_lt ht)).2 ⟨p0, hp', (hI p0 hp').2 ⟨hp, .step hp' (toOf_nxt ht) hl⟩, ht, hc, (hL _ (toOf_lt ht)).2 hl⟩)
    exact this _ t ha rfl hl
theorem fnt_whole {s : List Nat} (hI : Fnt N s I) (hf : N.isS N.fin = true) : I N.fin.toNat = true ↔ N.Tk s := by
  rw [hI _ (isS_lt hf)]
  exact ⟨fun h => ⟨hf, h.1⟩, fun h => ⟨h.2, .fin hf⟩⟩
theorem toOf_some {p t : Nat} (h : N.toOf p = some t) : Mc.some_ (N.cls p) = true := by
  unfold Mc.toOf at h
  split at h
  · rename_i c; exact c.2.2
  · cases h
theorem fnt_open {s : List Nat} {m : Nat → Bool} (hL : LvOk N L) (hI : Fnt N s I) (hm : ∀ b, b < 256 → (m b = true ↔ ∃ p t, p < N.on.length ∧ I p = true ∧ N.toOf p = some t ∧ L t = true ∧ N.cls p b = true)) : Mc.some_ m = true ↔ N.Op s := by
  unfold Mc.some_
  rw [List.any_eq_true]
  constructor
  · rintro ⟨b, hb, h⟩
    obtain ⟨p, t, hp, h1, h2, h3, _⟩ := (hm b (List.mem_range.1 hb)).1 h
    exact ⟨p, t, ((hI p hp).1 h1).1, h2, (hL _ (toOf_lt h2)).1 h3⟩
  · rintro ⟨p, t, h1, h2, h3⟩
    have h4 := toOf_some h2
    unfold Mc.some_ at h4
    obtain ⟨b, hb, h5⟩ := List.any_eq_true.1 h4
    have hp := Mc.At.lt h1
    exact ⟨b, hb, (hm b (List.mem_range.1 hb)).2 ⟨p, t, hp, (hI p hp).2 ⟨h1, .step hp (toOf_nxt h2) h3⟩, h2, (hL _ (toOf_lt h2)).2 h3, h5⟩⟩
/-- What is known while the front is spread: of the states S the first i have been gone through, of that at i the first j free steps. -/
structure Spr (N : Mc) (L I0 I : Nat → Bool) (S : List Nat) (m : Nat → Bool) (i j : Nat) : Prop where
  lt : ∀ t ∈ S, t < N.on.length
  mem : ∀ t, t < N.on.length → (I t = true ↔ t ∈ S)
  out : ∀ t, I t = true → t < N.on.length
  sub : ∀ t, I0 t = true → I t = true
  cl : ∀ t, I t = true → Cl N L I0 t
  shut : ∀ k (hk : k < S.length), k < i → ∀ x ∈ N.frees S[k], N.isS x = true → L x.toNat = true → I x.toNat = true
  part : ∀ (hi : i < S.length), ∀ x ∈ (N.frees S[i]).take j, N.isS x = true → L x.toNat = true → I x.toNat = true
  cls : ∀ b, b < 256 → (m b = true ↔ ∃ k, ∃ (hk : k < S.length), k < i ∧ ∃ t, N.toOf S[k] = some t ∧ L t = true ∧ N.cls S[k] b = true)
variable {I0 : Nat → Bool} {S : List Nat} {m : Nat → Bool} {i j : Nat}
theorem Spr.enter {t : Nat} (h : Spr N L I0 I S m i j) (hi : i < S.length) {x : Int} (hx : x ∈ N.frees S[i]) (his : N.isS x = true) (hl : L x.toNat = true) (ht : t = x.toNat) : Spr N L I0 (upd I t) (S ++ [t]) m i j := by
  subst ht
  have hlt := isS_lt his
  have hcl : Cl N L I0 x.toNat := .step (h.cl _ ((h.mem _ (h.lt _ (List.getElem_mem hi))).2 (List.getElem_mem hi))) hx his hl
  refine ⟨fun t ht => ?_, fun t ht => ?_, fun t ht => ?_, fun t ht => upd_mono (h.sub t ht), fun t ht => ?_, fun k hk hki y hy h1 h2 => ?_, fun hi' y hy h1 h2 => ?_, fun b hb => ?_⟩
  · rcases List.mem_append.1 ht with h1 | h1
    · exact h.lt t h1
    · simp at h1; subst h1; exact hlt
  · rw [List.mem_append]
    constructor
    · intro h1
      rcases upd_inv h1 with rfl | h1
      · exact .inr (by simp)
      · exact .inl ((h.mem t ht).1 h1)
    · rintro (h1 | h1)
      · exact upd_mono ((h.mem t ht).2 h1)
      · simp at h1; subst h1; exact upd_self
  · rcases upd_inv ht with rfl | h1
    · exact hlt
    · exact h.out t h1
  · rcases upd_inv ht with rfl | h1
    · exact hcl
    · exact h.cl t h1
  · have hk' : k < S.length := by omega
    rw [List.getElem_append_left hk'] at hy
    exact upd_mono (h.shut k hk' hki y hy h1 h2)
  · rw [List.getElem_append_left hi] at hy
    exact upd_mono (h.part hi y hy h1 h2)
  · rw [h.cls b hb]
    constructor
    · rintro ⟨k, hk, hki, t, h1, h2, h3⟩
      exact ⟨k, by simp; omega, hki, t, by rw [List.getElem_append_left hk]; exact h1, h2, by rw [List.getElem_append_left hk]; exact h3⟩
    · rintro ⟨k, hk, hki, t, h1, h2, h3⟩
      have hk' : k < S.length := by omega
      rw [List.getElem_append_left hk'] at h1 h3
      exact ⟨k, hk', hki, t, h1, h2, h3⟩
theorem Spr.next (h : Spr N L I0 I S m i j) (hi : i < S.length) (hj : j < (N.frees S[i]).length) (hx : N.isS ((N.frees S[i]).getD j 0) = true → L ((N.frees S[i]).getD j 0).toNat = true → I ((N.frees S[i]).getD j 0).toNat = true) : Spr N L I0 I S m i (j + 1) := by
  refine ⟨h.lt, h.mem, h.out, h.sub, h.cl, h.shut, fun _ y hy h1 h2 => ?_, h.cls⟩
  rw [List.take_add_one, List.getElem?_eq_getElem hj] at hy
  rcases List.mem_append.1 hy with h3 | h3
  · exact h.part hi y h3 h1 h2
  · have e : (N.frees S[i]).getD j 0 = (N.frees S[i])[j] := by rw [List.getD_eq_getElem?_getD, List.getElem?_eq_getElem hj]; rfl
    simp at h3
    subst h3
    rw [e] at hx
    exact hx h1 h2
theorem Spr.over (h : Spr N L I0 I S m i j) (hi : i < S.length) (hj : (N.frees S[i]).length ≤ j) {m' : Nat → Bool} (hm : ∀ b, b < 256 → (m' b = true ↔ m b = true ∨ ∃ t, N.toOf S[i] = some t ∧ L t = true ∧ N.cls S[i] b = true)) : Spr N L I0 I S m' (i + 1) 0 := by
  refine ⟨h.lt, h.mem, h.out, h.sub, h.cl, fun k hk hki y hy h1 h2 => ?_, fun _ y hy => by simp at hy, fun b hb => ?_⟩
  · by_cases e : k = i
    · subst e
      exact h.part hk y (by rw [List.take_of_length_le hj]; exact hy) h1 h2
    · exact h.shut k hk (by omega) y hy h1 h2
  · rw [hm b hb, h.cls b hb]
    constructor
    · rintro (⟨k, hk, hki, h1⟩ | h1)
      · exact ⟨k, hk, by omega, h1⟩
      · exact ⟨i, hi, by omega, h1⟩
    · rintro ⟨k, hk, hki, h1⟩
      by_cases e : k = i
      · subst e; exact .inr h1
      · exact .inl ⟨k, hk, by omega, h1⟩
theorem Spr.begin (h1 : ∀ t ∈ S, t < N.on.length) (h2 : ∀ t, t < N.on.length → (I t = true ↔ t ∈ S)) (h3 : ∀ t, I t = true → t < N.on.length) : Spr N L I I S (fun _ => false) 0 0 :=
  ⟨h1, h2, h3, fun _ h => h, fun _ h => .base h, fun k hk hki => by omega, fun _ y hy => by simp at hy, fun b _ => ⟨fun h => by simp at h, fun ⟨k, _, hk, _⟩ => by omega⟩⟩
theorem Spr.done (h : Spr N L I0 I S m i j) (hi : S.length ≤ i) : (∀ t, t < N.on.length → (I t = true ↔ Cl N L I0 t)) ∧ ∀ b, b < 256 → (m b = true ↔ ∃ p t, p < N.on.length ∧ I p = true ∧ N.toOf p = some t ∧ L t = true ∧ N.cls p b = true) := by
  constructor
  · intro t ht
    refine ⟨h.cl t, fun hc => ?_⟩
    clear ht
    induction hc with
    | base h1 => exact h.sub _ h1
    | step _ hx his hl ih =>
      obtain ⟨k, hk, e⟩ := List.getElem_of_mem ((h.mem _ (h.out _ ih)).1 ih)
      subst e
      exact h.shut k hk (by omega) _ hx his hl
  · intro b hb
    rw [h.cls b hb]
    constructor
    · rintro ⟨k, hk, _, t, h1, h2, h3⟩
      have hk' := h.lt _ (List.getElem_mem hk)
      exact ⟨S[k], t, hk', (h.mem _ hk').2 (List.getElem_mem hk), h1, h2, h3⟩
    · rintro ⟨p, t, hp, h1, h2, h3, h4⟩
      obtain ⟨k, hk, e⟩ := List.getElem_of_mem ((h.mem p hp).1 h1)
      subst e
      exact ⟨k, hk, by omega, t, h2, h3, h4⟩
end Go.Proofs.Ytkjljnneghnpiaa
