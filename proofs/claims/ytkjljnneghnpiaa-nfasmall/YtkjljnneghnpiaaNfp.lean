import Derived.ProofKit
namespace Go.Proofs.Ytkjljnneghnpiaa

/-- A machine: by state the class (as a set of bytes), where it goes on it, where freely; the start, the end. -/
structure Mc where
  on : List (Nat → Bool)
  tos : List Int
  free : List (List Int)
  start : Int
  fin : Int

namespace Mc
variable (N : Mc)
/-- How many states. -/
def n : Nat := N.on.length
def isS (q : Int) : Bool := decide (0 ≤ q) && decide (q < (N.on.length : Int))
def cls (p : Nat) : Nat → Bool := N.on.getD p (fun _ => false)
/-- Has the class a byte? -/
def some_ (m : Nat → Bool) : Bool := (List.range 256).any m
def toOf (p : Nat) : Option Nat := if p < N.tos.length ∧ N.isS (N.tos.getD p 0) = true ∧ some_ (N.cls p) = true then some (N.tos.getD p 0).toNat else none
def frees (p : Nat) : List Int := N.free.getD p []
/-- The states to which p goes. -/
def nxt (p : Nat) : List Nat := (N.toOf p).toList ++ ((N.frees p).filter N.isS).map Int.toNat
/-- The end can be come to. -/
inductive Live : Nat → Prop
  | fin : N.isS N.fin = true → Live N.fin.toNat
  | step {p t : Nat} : p < N.on.length → t ∈ N.nxt p → Live t → Live p
/-- What has been read leads there. -/
inductive At : List Nat → Nat → Prop
  | start : N.isS N.start = true → At [] N.start.toNat
  | free {s : List Nat} {p : Nat} {q : Int} : At s p → q ∈ N.frees p → N.isS q = true → At s q.toNat
  | byte {s : List Nat} {p q b : Nat} : At s p → N.toOf p = some q → N.cls p b = true → At (s ++ [b]) q
def Tk (s : List Nat) : Prop := N.isS N.fin = true ∧ N.At s N.fin.toNat
def Op (s : List Nat) : Prop := ∃ p q, N.At s p ∧ N.toOf p = some q ∧ N.Live q
/-- The answer of a run over what stands from the place on, counted from the place on. -/
structure Ans (s : List Nat) (e : Int) (f : Nat) : Prop where
  le : f ≤ s.length + 1
  op : ∀ i, i < f → N.Op (s.take i)
  shut : f ≤ s.length → ¬ N.Op (s.take f)
  top : (e = -1 ∧ ∀ i, i ≤ f → i ≤ s.length → ¬ N.Tk (s.take i)) ∨ (∃ k : Nat, e = (k : Int) ∧ k ≤ f ∧ k ≤ s.length ∧ N.Tk (s.take k) ∧ ∀ i, k < i → i ≤ f → i ≤ s.length → ¬ N.Tk (s.take i))
end Mc
variable {N : Mc}

theorem isS_lt {q : Int} (h : N.isS q = true) : q.toNat < N.on.length := by simp [Mc.isS] at h; omega
theorem isS_nat {q : Nat} (h : q < N.on.length) : N.isS (q : Int) = true := by simp [Mc.isS]; omega
theorem toOf_lt {p q : Nat} (h : N.toOf p = some q) : q < N.on.length := by
  unfold Mc.toOf at h
  split at h
  · rename_i c; cases h; exact isS_lt c.2.1
  · cases h
theorem nxt_lt {p t : Nat} (h : t ∈ N.nxt p) : t < N.on.length := by
  simp only [Mc.nxt, List.mem_append, Option.mem_toList, List.mem_map, List.mem_filter] at h
  rcases h with h | ⟨q, ⟨_, h⟩, rfl⟩
  · exact toOf_lt h
  · exact isS_lt h
theorem cls_lt {p : Nat} (h : Mc.some_ (N.cls p) = true) : p < N.on.length := by
  rcases Nat.lt_or_ge p N.on.length with c | c
  · exact c
  · simp [Mc.some_, Mc.cls, List.getElem?_eq_none c] at h
theorem Mc.Live.lt {q : Nat} (h : N.Live q) : q < N.on.length := by
  cases h with
  | fin h => exact isS_lt h
  | step h _ _ => exact h
theorem Mc.At.lt {s : List Nat} {q : Nat} (h : N.At s q) : q < N.on.length := by
  cases h with
  | start h => exact isS_lt h
  | free _ _ h => exact isS_lt h
  | byte _ h _ => exact toOf_lt h
theorem free_nxt {p : Nat} {q : Int} (h : q ∈ N.frees p) (hs : N.isS q = true) : q.toNat ∈ N.nxt p := by
  simp only [Mc.nxt, List.mem_append, List.mem_map, List.mem_filter]
  exact .inr ⟨q, ⟨h, hs⟩, rfl⟩
theorem toOf_nxt {p q : Nat} (h : N.toOf p = some q) : q ∈ N.nxt p := by
  simp [Mc.nxt, h]

/-- From a state some way leads to another. -/
inductive Mc.Way (N : Mc) : Nat → Nat → Prop
  | refl (p : Nat) : Way N p p
  | tail {p q r : Nat} : Way N p q → q < N.on.length → r ∈ N.nxt q → Way N p r
theorem Mc.Way.live {p q : Nat} (h : N.Way p q) : N.Live q → N.Live p := by
  induction h with
  | refl => exact id
  | tail _ hq hn ih => exact fun h => ih (.step hq hn h)
theorem at_split {u : List Nat} {q : Nat} (h : N.At u q) : ∀ s r, u = s ++ r → r ≠ [] → ∃ p t, N.At s p ∧ N.toOf p = some t ∧ N.Way t q := by
  induction h with
  | start _ => intro s r e hr; exact absurd (List.append_eq_nil_iff.1 e.symm).2 hr
  | free hp hf hs ih =>
    intro s r e hr
    obtain ⟨p, t, h1, h2, h3⟩ := ih s r e hr
    exact ⟨p, t, h1, h2, h3.tail (Mc.At.lt hp) (free_nxt hf hs)⟩
  | @byte s0 p0 q0 b hp ht hc ih =>
    intro s r e hr
    obtain ⟨r', x, rfl⟩ : ∃ r' x, r = r' ++ [x] := ⟨r.dropLast, r.getLast hr, (List.dropLast_concat_getLast hr).symm⟩
    rw [← List.append_assoc] at e
    obtain ⟨e1, e2⟩ := List.append_inj' e rfl
    cases r' with
    | nil => simp at e1; subst e1; exact ⟨p0, q0, hp, ht, .refl _⟩
    | cons y r' =>
      obtain ⟨p, t, h1, h2, h3⟩ := ih s (y :: r') e1 (by simp)
      exact ⟨p, t, h1, h2, h3.tail (Mc.At.lt hp) (toOf_nxt ht)⟩
theorem shut_tk {s r : List Nat} (h : ¬ N.Op s) (hr : r ≠ []) : ¬ N.Tk (s ++ r) := by
  rintro ⟨hf, ha⟩
  obtain ⟨p, t, h1, h2, h3⟩ := at_split ha s r rfl hr
  exact h ⟨p, t, h1, h2, h3.live (.fin hf)⟩
theorem shut_op {s r : List Nat} (h : ¬ N.Op s) : ¬ N.Op (s ++ r) := by
  rcases r with _ | ⟨b, r⟩
  · simpa using h
  rintro ⟨p', q', ha, ht, hl⟩
  obtain ⟨p, t, h1, h2, h3⟩ := at_split ha s (b :: r) rfl (by simp)
  exact h ⟨p, t, h1, h2, (h3.tail (Mc.At.lt ha) (toOf_nxt ht)).live hl⟩
theorem shut_take {s : List Nat} {i j : Nat} (h : ¬ N.Op (s.take i)) (hij : i < j) (hj : j ≤ s.length) : ¬ N.Tk (s.take j) := by
  have e : s.take j = s.take i ++ (s.take j).drop i := by
    conv => lhs; rw [← List.take_append_drop i (s.take j), List.take_take, Nat.min_eq_left (by omega)]
  rw [e]
  exact shut_tk h (by intro e; have := congrArg List.length e; simp at this; omega)

/-- One answer alone. -/
theorem Mc.Ans.one {s : List Nat} {e e' : Int} {f f' : Nat} (h : N.Ans s e f) (h' : N.Ans s e' f') : e = e' ∧ f = f' := by
  have hf : f = f' := by
    rcases Nat.lt_trichotomy f f' with c | c | c
    · exact absurd (h'.op f c) (h.shut (by have := h'.le; omega))
    · exact c
    · exact absurd (h.op f' c) (h'.shut (by have := h.le; omega))
  subst hf
  refine ⟨?_, rfl⟩
  rcases h.top with ⟨rfl, a⟩ | ⟨k, rfl, a1, a2, a3, a4⟩ <;> rcases h'.top with ⟨rfl, b⟩ | ⟨k', rfl, b1, b2, b3, b4⟩
  · rfl
  · exact absurd b3 (a k' b1 b2)
  · exact absurd a3 (b k a1 a2)
  · rcases Nat.lt_trichotomy k k' with c | c | c
    · exact absurd b3 (a4 k' c b1 b2)
    · rw [c]
    · exact absurd a3 (b4 k c a1 a2)
/-- The same of what begins alike as far as was looked. -/
theorem Mc.Ans.looks {s s' : List Nat} {e : Int} {f : Nat} (h : N.Ans s e f) (hf : f ≤ s.length) (hs : s'.take f = s.take f) (hl : f ≤ s'.length) : N.Ans s' e f := by
  have ht : ∀ i, i ≤ f → s'.take i = s.take i := fun i hi => by
    have := congrArg (List.take i) hs
    simpa [List.take_take, Nat.min_eq_left hi] using this
  refine ⟨by omega, fun i hi => by rw [ht i (by omega)]; exact h.op i hi, fun _ => by rw [hs]; exact h.shut hf, ?_⟩
  rcases h.top with ⟨rfl, a⟩ | ⟨k, rfl, a1, a2, a3, a4⟩
  · exact .inl ⟨rfl, fun i hi _ => by rw [ht i hi]; exact a i hi (by omega)⟩
  · exact .inr ⟨k, rfl, a1, by omega, by rw [ht k a1]; exact a3, fun i h1 h2 _ => by rw [ht i h2]; exact a4 i h1 h2 (by omega)⟩
/-- The whole is taken just if the run ends at its end. -/
theorem Mc.Ans.whole {s : List Nat} {e : Int} {f : Nat} (h : N.Ans s e f) : e = (s.length : Int) ↔ N.Tk s := by
  constructor
  · intro he
    rcases h.top with ⟨rfl, _⟩ | ⟨k, rfl, _, _, a3, _⟩
    · omega
    · have : k = s.length := by omega
      subst this
      rwa [List.take_length] at a3
  · intro ht
    have hf : s.length ≤ f := by
      rcases Nat.lt_or_ge f s.length with c | c
      · exact absurd (by rw [List.take_length]; exact ht) (shut_take (h.shut (by omega)) c (Nat.le_refl _))
      · exact c
    rcases h.top with ⟨rfl, a⟩ | ⟨k, rfl, a1, a2, a3, a4⟩
    · exact absurd (by rw [List.take_length]; exact ht) (a s.length hf (Nat.le_refl _))
    · rcases Nat.lt_or_ge k s.length with c | c
      · exact absurd (by rw [List.take_length]; exact ht) (a4 s.length c hf (Nat.le_refl _))
      · have : k = s.length := by omega
        rw [this]
/-- Of a longer text than the end none is taken. -/
theorem Mc.Ans.longer {s : List Nat} {e : Int} {f i : Nat} (h : N.Ans s e f) (hi : i ≤ s.length) (he : e < (i : Int)) : ¬ N.Tk (s.take i) := by
  rcases Nat.lt_or_ge f i with c | c
  · exact shut_take (h.shut (by omega)) c hi
  · rcases h.top with ⟨rfl, a⟩ | ⟨k, rfl, a1, a2, a3, a4⟩
    · exact a i c hi
    · exact a4 i (by omega) c hi
/-- A machine whose start or end is no state. -/
theorem Mc.Ans.none_ {s : List Nat} (h : N.isS N.start = false ∨ N.isS N.fin = false) : N.Ans s (-1) 0 := by
  have h1 : ∀ u, ¬ N.Tk u := by
    rintro u ⟨hf, ha⟩
    rcases h with h | h
    · have : ∀ u q, N.At u q → False := fun u q ha => by induction ha <;> simp_all
      exact this _ _ ha
    · simp_all
  have h2 : ∀ u, ¬ N.Op u := by
    rintro u ⟨p, q, ha, ht, hl⟩
    rcases h with h | h
    · have : ∀ u q, N.At u q → False := fun u q ha => by induction ha <;> simp_all
      exact this _ _ ha
    · have : ∀ q, N.Live q → False := fun q ha => by induction ha <;> simp_all
      exact this _ hl
  exact ⟨by omega, fun i hi => by omega, fun _ => h2 _, .inl ⟨rfl, fun i _ _ => h1 _⟩⟩
end Go.Proofs.Ytkjljnneghnpiaa
