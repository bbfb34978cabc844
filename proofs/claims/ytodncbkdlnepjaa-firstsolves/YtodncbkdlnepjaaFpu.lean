import Derived.Test.YtodncbkdlnepjaaBas
namespace Go.Proofs.Ytodncbkdlnepjaa
open Go.RowKit Go.Maps

/-- What is known of each symbol: the tokens that may stand first, and whether it vanishes. -/
abbrev Ss := Nat → Nat × Bool
/-- What a row begins with, and whether it vanishes. -/
def alg (S : Ss) : List Nat → Nat × Bool
  | [] => (0, true)
  | x :: r => if (S x).2 = true then ((S x).1 ||| (alg S r).1, (alg S r).2) else ((S x).1, false)
theorem alg_nil (S : Ss) : alg S [] = (0, true) := rfl
theorem alg_yes (S : Ss) (x : Nat) (r : List Nat) (h : (S x).2 = true) : alg S (x :: r) = ((S x).1 ||| (alg S r).1, (alg S r).2) := by simp only [alg]; rw [if_pos h]
theorem alg_no (S : Ss) (x : Nat) (r : List Nat) (h : (S x).2 = false) : alg S (x :: r) = ((S x).1, false) := by simp only [alg]; rw [if_neg (by rw [h]; decide)]
theorem alg_app (S : Ss) (a b : List Nat) : alg S (a ++ b) = if (alg S a).2 = true then ((alg S a).1 ||| (alg S b).1, (alg S b).2) else alg S a := by
  induction a with
  | nil => simp [alg]
  | cons x r ih =>
    cases h : (S x).2 with
    | false => rw [List.cons_append, alg_no S x _ h, alg_no S x _ h]; rfl
    | true =>
      rw [List.cons_append, alg_yes S x _ h, alg_yes S x _ h, ih]
      dsimp only
      cases h2 : (alg S r).2 with
      | false => rw [if_neg (by decide), if_neg (by decide), h2]
      | true => rw [if_pos rfl, if_pos rfl, Nat.or_assoc]
/-- All that is known is below a bound. -/
theorem alg_lt (S : Ss) (h : ∀ x, (S x).1 < 2 ^ 64) : ∀ r, (alg S r).1 < 2 ^ 64
  | [] => by show 0 < 2 ^ 64; decide
  | x :: r => by
    cases e : (S x).2 with
    | false => rw [alg_no S x r e]; exact h x
    | true => rw [alg_yes S x r e]; exact Nat.or_lt_two_pow (h x) (alg_lt S h r)
/-- A production says more of its symbol. -/
def stp (S : Ss) (p : Nat × List Nat) : Ss := fun i => if i = p.1 then ((S i).1 ||| (alg S p.2).1, (S i).2 || (alg S p.2).2) else S i
def anw (l : List (Nat × List Nat)) (S : Ss) : Ss := l.foldl stp S
def its (l : List (Nat × List Nat)) (S : Ss) : Nat → Ss
  | 0 => S
  | n + 1 => anw l (its l S n)
theorem stp_lt (S : Ss) (p : Nat × List Nat) (h : ∀ x, (S x).1 < 2 ^ 64) : ∀ x, (stp S p x).1 < 2 ^ 64 := fun x => by
  unfold stp
  split
  · exact Nat.or_lt_two_pow (h x) (alg_lt S h _)
  · exact h x
theorem anw_lt (l : List (Nat × List Nat)) : ∀ (S : Ss) (_ : ∀ x, (S x).1 < 2 ^ 64), ∀ x, (anw l S x).1 < 2 ^ 64 := by
  induction l with
  | nil => intro S h; exact h
  | cons p l ih => intro S h; exact ih _ (stp_lt S p h)
theorem its_lt (l : List (Nat × List Nat)) (S : Ss) (h : ∀ x, (S x).1 < 2 ^ 64) : ∀ n, ∀ x, (its l S n x).1 < 2 ^ 64
  | 0 => h
  | n + 1 => anw_lt l _ (its_lt l S h n)
/-- Symbols that no production is about stay as they are. -/
theorem stp_out (S : Ss) (p : Nat × List Nat) (i : Nat) (h : i ≠ p.1) : stp S p i = S i := by unfold stp; rw [if_neg h]
theorem anw_out (l : List (Nat × List Nat)) (i : Nat) (h : ∀ p ∈ l, i ≠ p.1) : ∀ S : Ss, anw l S i = S i := by
  induction l with
  | nil => intro S; rfl
  | cons p l ih => intro S; exact (ih (fun q hq => h q (List.mem_cons_of_mem _ hq)) _).trans (stp_out S p i (h p List.mem_cons_self))
theorem its_out (l : List (Nat × List Nat)) (i : Nat) (h : ∀ p ∈ l, i ≠ p.1) (S : Ss) : ∀ n, its l S n i = S i
  | 0 => rfl
  | n + 1 => (anw_out l i h _).trans (its_out l i h S n)
/-- More is known. -/
def Leq (S T : Ss) : Prop := ∀ i, (S i).1 ||| (T i).1 = (T i).1 ∧ ((S i).2 = true → (T i).2 = true)
theorem Leq.refl (S : Ss) : Leq S S := fun _ => ⟨Nat.or_self _, id⟩
theorem or_le_trans {a b c : Nat} (h : a ||| b = b) (k : b ||| c = c) : a ||| c = c := by rw [← k, ← Nat.or_assoc, h]
theorem or_le_or {a b c d : Nat} (h : a ||| b = b) (k : c ||| d = d) : (a ||| c) ||| (b ||| d) = b ||| d := by
  rw [Nat.or_assoc, ← Nat.or_assoc c, Nat.or_comm c b, Nat.or_assoc b, k, ← Nat.or_assoc, h]
theorem or_le_left (a b : Nat) : a ||| (a ||| b) = a ||| b := by rw [← Nat.or_assoc, Nat.or_self]
theorem or_le_lub {a b c : Nat} (h : a ||| c = c) (k : b ||| c = c) : (a ||| b) ||| c = c := by rw [Nat.or_assoc, k, h]
theorem Leq.trans {S T U : Ss} (h : Leq S T) (k : Leq T U) : Leq S U := fun i => ⟨or_le_trans (h i).1 (k i).1, fun e => (k i).2 ((h i).2 e)⟩
theorem stp_up (S : Ss) (p : Nat × List Nat) : Leq S (stp S p) := fun i => by
  unfold stp
  split
  · exact ⟨or_le_left _ _, fun h => by rw [h]; rfl⟩
  · exact ⟨Nat.or_self _, id⟩
theorem anw_up (l : List (Nat × List Nat)) : ∀ S : Ss, Leq S (anw l S) := by
  induction l with
  | nil => intro S; exact Leq.refl S
  | cons p l ih => intro S; exact (stp_up S p).trans (ih _)
/-- A row begins with more where more is known. -/
theorem alg_mono {S T : Ss} (h : Leq S T) : ∀ r, (alg S r).1 ||| (alg T r).1 = (alg T r).1 ∧ ((alg S r).2 = true → (alg T r).2 = true)
  | [] => ⟨Nat.or_self _, id⟩
  | x :: r => by
    obtain ⟨h1, h2⟩ := h x
    obtain ⟨k1, k2⟩ := alg_mono h r
    cases e : (S x).2 with
    | false =>
      rw [alg_no S x r e]
      refine ⟨?_, fun h => by cases h⟩
      cases e2 : (T x).2 with
      | false => rw [alg_no T x r e2]; exact h1
      | true => rw [alg_yes T x r e2]; dsimp only; rw [← Nat.or_assoc, h1]
    | true =>
      rw [alg_yes S x r e, alg_yes T x r (h2 e)]
      exact ⟨or_le_or h1 k1, k2⟩
theorem leq_anti {S T : Ss} (h : Leq S T) (k : Leq T S) : S = T := funext fun i => by
  obtain ⟨h1, h2⟩ := h i
  obtain ⟨k1, k2⟩ := k i
  refine Prod.ext ?_ ?_
  · rw [← h1, Nat.or_comm]; exact k1.symm
  · cases a : (S i).2 <;> cases b : (T i).2
    · rfl
    · rw [k2 b] at a; cases a
    · rw [h2 a] at b; cases b
    · rfl
/-- What is made anew is the same: each production has been heeded. -/
theorem anw_fix : ∀ (l : List (Nat × List Nat)) (S : Ss), anw l S = S → ∀ p ∈ l, stp S p = S := by
  intro l
  induction l with
  | nil => intro S _ p hp; cases hp
  | cons q l ih =>
    intro S h p hp
    have e1 : stp S q = S := by
      refine leq_anti ?_ (stp_up S q)
      have := anw_up l (stp S q)
      rw [show anw l (stp S q) = S from h] at this
      exact this
    rcases List.mem_cons.1 hp with rfl | hp
    · exact e1
    · refine ih S ?_ p hp
      have : anw l (stp S q) = S := h
      rw [e1] at this
      exact this
/-- Whatever is closed stays above. -/
theorem anw_least (l : List (Nat × List Nat)) (T : Ss) (hT : ∀ p ∈ l, Leq (stp T p) T) : ∀ S : Ss, Leq S T → Leq (anw l S) T := by
  induction l with
  | nil => intro S h; exact h
  | cons p l ih =>
    intro S h
    refine ih (fun q hq => hT q (List.mem_cons_of_mem _ hq)) _ (Leq.trans ?_ (hT p List.mem_cons_self))
    intro i
    obtain ⟨a1, a2⟩ := alg_mono h p.2
    obtain ⟨b1, b2⟩ := h i
    unfold stp
    split
    · refine ⟨or_le_or b1 a1, fun e => ?_⟩
      dsimp only at e ⊢
      rw [Bool.or_eq_true] at e ⊢
      exact e.imp b2 a2
    · exact ⟨b1, b2⟩
theorem its_least (l : List (Nat × List Nat)) (S T : Ss) (hT : ∀ p ∈ l, Leq (stp T p) T) (h : Leq S T) : ∀ n, Leq (its l S n) T
  | 0 => h
  | n + 1 => anw_least l T hT _ (its_least l S T hT h n)
theorem its_up (l : List (Nat × List Nat)) (S : Ss) : ∀ n, Leq S (its l S n)
  | 0 => Leq.refl S
  | n + 1 => (its_up l S n).trans (anw_up l _)
/-- The end of all rounds. -/
noncomputable def stl (l : List (Nat × List Nat)) (S : Ss) : Ss :=
  open Classical in if h : ∃ k, anw l (its l S k) = its l S k then its l S h.choose else S
theorem its_add (l : List (Nat × List Nat)) (S : Ss) (k : Nat) (h : anw l (its l S k) = its l S k) : ∀ j, its l S (k + j) = its l S k
  | 0 => rfl
  | j + 1 => by show anw l (its l S (k + j)) = _; rw [its_add l S k h j, h]
theorem stl_eq (l : List (Nat × List Nat)) (S : Ss) (k : Nat) (h : anw l (its l S k) = its l S k) : stl l S = its l S k := by
  unfold stl
  have hx : ∃ k, anw l (its l S k) = its l S k := ⟨k, h⟩
  rw [dif_pos hx]
  have h2 := hx.choose_spec
  rcases Nat.le_total k hx.choose with h3 | h3
  · obtain ⟨j, e⟩ := Nat.exists_eq_add_of_le h3
    rw [e]; exact its_add l S k h j
  · obtain ⟨j, e⟩ := Nat.exists_eq_add_of_le h3
    conv => rhs; rw [e]
    exact (its_add l S _ h2 j).symm
/-- The row up to its first token, each symbol once. -/
def opn (nT : Nat) : List Nat → List Nat → List Nat
  | _, [] => []
  | seen, x :: r => (if x ∈ seen then [] else [x]) ++ (if x < nT then [] else opn nT (x :: seen) r)
theorem alg_opn_go (S : Ss) (nT : Nat) (hS : ∀ x, x < nT → (S x).2 = false) : ∀ (r seen : List Nat) (acc : Nat), (∀ x ∈ seen, (S x).2 = true ∧ (S x).1 ||| acc = acc) → acc ||| (alg S (opn nT seen r)).1 = acc ||| (alg S r).1 ∧ (alg S (opn nT seen r)).2 = (alg S r).2
  | [], seen, acc, _ => ⟨rfl, rfl⟩
  | x :: r, seen, acc, h => by
    unfold opn
    by_cases hx : x ∈ seen
    · rw [if_pos hx, List.nil_append]
      obtain ⟨h1, h2⟩ := h x hx
      have hn : ¬ x < nT := fun e => by rw [hS x e] at h1; cases h1
      rw [if_neg hn, alg_yes S x r h1]
      obtain ⟨k1, k2⟩ := alg_opn_go S nT hS r (x :: seen) acc (fun y hy => by
        rcases List.mem_cons.1 hy with rfl | hy
        · exact ⟨h1, h2⟩
        · exact h y hy)
      refine ⟨?_, k2⟩
      rw [k1]
      dsimp only
      rw [← Nat.or_assoc acc, Nat.or_comm acc (S x).1, h2]
    · rw [if_neg hx, List.singleton_append]
      cases e : (S x).2 with
      | false => rw [alg_no S x _ e, alg_no S x _ e]; exact ⟨rfl, rfl⟩
      | true =>
        have hn : ¬ x < nT := fun e' => by rw [hS x e'] at e; cases e
        rw [if_neg hn, alg_yes S x _ e, alg_yes S x _ e]
        obtain ⟨k1, k2⟩ := alg_opn_go S nT hS r (x :: seen) (acc ||| (S x).1) (fun y hy => by
          rcases List.mem_cons.1 hy with rfl | hy
          · refine ⟨e, ?_⟩
            rw [Nat.or_comm acc, ← Nat.or_assoc, Nat.or_self]
          · refine ⟨(h y hy).1, ?_⟩
            rw [← Nat.or_assoc, (h y hy).2])
        refine ⟨?_, k2⟩
        dsimp only
        rw [← Nat.or_assoc, k1, Nat.or_assoc]
theorem alg_opn (S : Ss) (nT : Nat) (hS : ∀ x, x < nT → (S x).2 = false) (r : List Nat) : alg S (opn nT [] r) = alg S r := by
  obtain ⟨h1, h2⟩ := alg_opn_go S nT hS r [] 0 (fun x h => by cases h)
  rw [Nat.zero_or, Nat.zero_or] at h1
  exact Prod.ext h1 h2
/-- The productions as far as they count. -/
def prd (nT : Nat) : List (Int × List Nat) → List (Nat × List Nat)
  | [] => []
  | p :: l => (if 0 ≤ p.1 then [(nT + p.1.toNat, opn nT [] p.2)] else []) ++ prd nT l
theorem prd_app (nT : Nat) (a b : List (Int × List Nat)) : prd nT (a ++ b) = prd nT a ++ prd nT b := by
  induction a with
  | nil => rfl
  | cons p l ih => simp only [List.cons_append, prd, ih, List.append_assoc]
theorem prd_len (nT : Nat) (a : List (Int × List Nat)) : (prd nT a).length ≤ a.length := by
  induction a with
  | nil => exact Nat.le_refl _
  | cons p l ih => simp only [prd, List.length_append, List.length_cons]; split <;> simp <;> omega
theorem prd_mem {nT : Nat} {q : Nat × List Nat} : ∀ {a : List (Int × List Nat)}, q ∈ prd nT a ↔ ∃ p ∈ a, 0 ≤ p.1 ∧ q = (nT + p.1.toNat, opn nT [] p.2)
  | [] => by simp [prd]
  | p :: l => by
    simp only [prd, List.mem_append, prd_mem (a := l), List.mem_cons]
    constructor
    · rintro (h | ⟨p', h1, h2⟩)
      · split at h
        · rename_i h0
          exact ⟨p, .inl rfl, h0, by simpa using h⟩
        · cases h
      · exact ⟨p', .inr h1, h2⟩
    · rintro ⟨p', rfl | h1, h0, h2⟩
      · left; rw [if_pos h0]; simpa using h2
      · exact .inr ⟨p', h1, h0, h2⟩
theorem opn_mem {nT x : Nat} : ∀ {seen r : List Nat}, x ∈ opn nT seen r → x ∈ r
  | _, [] => by simp [opn]
  | seen, y :: r => by
    simp only [opn, List.mem_append, List.mem_cons]
    rintro (h | h)
    · split at h
      · cases h
      · exact .inl (by simpa using h)
    · split at h
      · cases h
      · exact .inr (opn_mem h)
/-- Each token begins itself. -/
def bar (nT : Nat) : Ss := fun i => if i < nT then (2 ^ i, false) else (0, false)
theorem bar_lt (nT : Nat) (h : nT ≤ 64) : ∀ x, (bar nT x).1 < 2 ^ 64 := fun x => by
  unfold bar
  split
  · exact Nat.pow_lt_pow_right (by decide) (by omega)
  · show 0 < 2 ^ 64; decide
/-- The sets of a grammar. -/
noncomputable def fin (nT : Nat) (P : List (Int × List Nat)) : Ss := stl (prd nT P) (bar nT)
end Go.Proofs.Ytodncbkdlnepjaa
