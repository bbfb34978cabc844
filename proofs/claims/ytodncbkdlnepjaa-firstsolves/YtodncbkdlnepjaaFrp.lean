import Derived.Test.YtodncbkdlnepjaaFlc
namespace Go.Proofs.Ytodncbkdlnepjaa
open Go.RowKit Go.Maps

theorem alg_snd (S : Ss) : ∀ r, (alg S r).2 = r.all fun x => (S x).2
  | [] => rfl
  | x :: r => by
    cases h : (S x).2 with
    | false => rw [alg_no S x r h, List.all_cons, h]; rfl
    | true => rw [alg_yes S x r h, List.all_cons, h, Bool.true_and]; exact alg_snd S r
/-- The reference's rounds: what is known to vanish. -/
def nst (nT : Nat) (k : Nat → Bool) (p : Pd) : Nat → Bool := fun x => k x || (decide (0 ≤ p.1) && ((syl p.2.2).all k && decide (x = nT + p.1.toNat)))
def nrd (nT : Nat) (P : List Pd) (k : Nat → Bool) : Nat → Bool := P.foldl (nst nT) k
def nit (nT : Nat) (P : List Pd) : Nat → Nat → Bool
  | 0 => fun _ => false
  | n + 1 => nrd nT P (nit nT P n)
def ble (k m : Nat → Bool) : Prop := ∀ x, k x = true → m x = true
theorem nst_up (nT : Nat) (k : Nat → Bool) (p : Pd) : ble k (nst nT k p) := fun x h => by unfold nst; rw [h]; rfl
theorem nrd_up (nT : Nat) : ∀ (P : List Pd) (k : Nat → Bool), ble k (nrd nT P k)
  | [], _ => fun _ h => h
  | p :: P, k => fun x h => nrd_up nT P (nst nT k p) x (nst_up nT k p x h)
theorem ble_anti {k m : Nat → Bool} (h : ble k m) (g : ble m k) : k = m := funext fun x => by
  cases a : k x <;> cases b : m x
  · rfl
  · rw [g x b] at a; cases a
  · rw [h x a] at b; cases b
  · rfl
theorem nrd_fix (nT : Nat) : ∀ (P : List Pd) (k : Nat → Bool), nrd nT P k = k → ∀ p ∈ P, nst nT k p = k
  | [], _, _, p, hp => by cases hp
  | q :: P, k, h, p, hp => by
    have e1 : nst nT k q = k := by
      refine ble_anti ?_ (nst_up nT k q)
      have := nrd_up nT P (nst nT k q)
      rw [show nrd nT P (nst nT k q) = k from h] at this
      exact this
    rcases List.mem_cons.1 hp with rfl | hp
    · exact e1
    · refine nrd_fix nT P k ?_ p hp
      have : nrd nT P (nst nT k q) = k := h
      rw [e1] at this
      exact this
theorem nst_out (nT nS : Nat) (k : Nat → Bool) (p : Pd) (hp : p.1 < (nS : Int)) (x : Nat) (hx : x < nT ∨ nT + nS ≤ x) : nst nT k p x = k x := by
  unfold nst
  by_cases h : 0 ≤ p.1
  · rw [decide_eq_false (p := x = nT + p.1.toNat) (by omega), Bool.and_false, Bool.and_false, Bool.or_false]
  · rw [decide_eq_false h, Bool.false_and, Bool.or_false]
theorem nrd_out (nT nS : Nat) (x : Nat) (hx : x < nT ∨ nT + nS ≤ x) : ∀ (P : List Pd) (_ : ∀ p ∈ P, p.1 < (nS : Int)) (k : Nat → Bool), nrd nT P k x = k x
  | [], _, _ => rfl
  | p :: P, h, k => (nrd_out nT nS x hx P (fun q hq => h q (List.mem_cons_of_mem _ hq)) _).trans (nst_out nT nS k p (h p List.mem_cons_self) x hx)
/-- How many are known. -/
def cnt (nT nS : Nat) (k : Nat → Bool) : Nat := (List.range nS).countP fun j => k (nT + j)
theorem cnt_le (nT nS : Nat) (k : Nat → Bool) : cnt nT nS k ≤ nS := by
  unfold cnt
  have := List.countP_le_length (p := fun j => k (nT + j)) (l := List.range nS)
  rw [List.length_range] at this
  exact this
theorem countP_lt {p q : Nat → Bool} : ∀ (l : List Nat), (∀ x ∈ l, p x = true → q x = true) → ∀ z ∈ l, p z = false → q z = true → l.countP p < l.countP q
  | [], _, z, hz, _, _ => by cases hz
  | x :: l, h, z, hz, h1, h2 => by
    have hl : ∀ y ∈ l, p y = true → q y = true := fun y hy => h y (List.mem_cons_of_mem _ hy)
    have hm : l.countP p ≤ l.countP q := List.countP_mono_left hl
    rw [List.countP_cons, List.countP_cons]
    rcases List.mem_cons.1 hz with rfl | hz
    · rw [h1, h2]; simp; omega
    · have := countP_lt l hl z hz h1 h2
      have := h x List.mem_cons_self
      cases a : p x with
      | false => simp; split <;> omega
      | true => rw [this a]; simp; omega
theorem cnt_lt {nT nS : Nat} {k m : Nat → Bool} (h : ble k m) (hne : k ≠ m) (ho : ∀ x, x < nT ∨ nT + nS ≤ x → m x = k x) : cnt nT nS k < cnt nT nS m := by
  have : ∃ x, k x = false ∧ m x = true := by
    refine Classical.byContradiction fun hn => hne (ble_anti h fun x hx => ?_)
    cases a : k x with
    | true => rfl
    | false => exact absurd ⟨x, a, hx⟩ hn
  obtain ⟨x, h1, h2⟩ := this
  have hx : nT ≤ x ∧ x < nT + nS := by
    refine Classical.byContradiction fun hn => ?_
    have := ho x (by omega)
    rw [h1, h2] at this
    cases this
  unfold cnt
  refine countP_lt _ (fun j _ hj => h _ hj) (x - nT) (List.mem_range.2 (by omega)) ?_ ?_
  · rw [show nT + (x - nT) = x by omega]; exact h1
  · rw [show nT + (x - nT) = x by omega]; exact h2
theorem cnt_all {nT nS : Nat} {k : Nat → Bool} (h : nS ≤ cnt nT nS k) (j : Nat) (hj : j < nS) : k (nT + j) = true := by
  cases a : k (nT + j) with
  | true => rfl
  | false =>
    exfalso
    have h1 := countP_lt (p := fun j => k (nT + j)) (q := fun _ => true) (List.range nS) (fun _ _ _ => rfl) j (List.mem_range.2 hj) a rfl
    rw [show (List.range nS).countP (fun _ => true) = nS from by simp] at h1
    unfold cnt at h
    omega
theorem nit_stable {nT nS : Nat} {P : List Pd} (hP : ∀ p ∈ P, p.1 < (nS : Int)) : nrd nT P (nit nT P nS) = nit nT P nS := by
  have key : ∀ n, nrd nT P (nit nT P n) = nit nT P n ∨ n ≤ cnt nT nS (nit nT P n) := by
    intro n
    induction n with
    | zero => exact Or.inr (Nat.zero_le _)
    | succ n ih =>
      rcases ih with ih | ih
      · left
        show nrd nT P (nrd nT P (nit nT P n)) = nrd nT P (nit nT P n)
        rw [ih, ih]
      · by_cases e : nrd nT P (nit nT P n) = nit nT P n
        · left
          show nrd nT P (nrd nT P (nit nT P n)) = nrd nT P (nit nT P n)
          rw [e, e]
        · right
          have := cnt_lt (nT := nT) (nS := nS) (nrd_up nT P (nit nT P n)) (fun h => e h.symm) (fun x hx => nrd_out nT nS x hx P hP _)
          show n + 1 ≤ cnt nT nS (nrd nT P (nit nT P n))
          omega
  rcases key nS with h | h
  · exact h
  · refine (ble_anti (nrd_up nT P _) fun x hx => ?_).symm
    by_cases hr : x < nT ∨ nT + nS ≤ x
    · rw [nrd_out nT nS x hr P hP] at hx; exact hx
    · have := cnt_all h (x - nT) (by omega)
      rw [show nT + (x - nT) = x by omega] at this
      exact this
theorem nst_snd {nT : Nat} {P : List Pd} {S : Ss} (h : Fk nT (P.map pq) S) {k : Nat → Bool} (hk : ∀ x, k x = true → (S x).2 = true) {p : Pd} (hp : p ∈ P) : ∀ x, nst nT k p x = true → (S x).2 = true := fun x hx => by
  unfold nst at hx
  rw [Bool.or_eq_true, Bool.and_eq_true, Bool.and_eq_true, decide_eq_true_eq, decide_eq_true_eq] at hx
  rcases hx with hx | ⟨h0, h1, rfl⟩
  · exact hk x hx
  · refine (fk_prod h hp h0).2 ?_
    rw [alg_snd]
    exact List.all_eq_true.2 fun y hy => hk y (List.all_eq_true.1 h1 y hy)
theorem nrd_snd {nT : Nat} {P : List Pd} {S : Ss} (h : Fk nT (P.map pq) S) : ∀ (L : List Pd) (_ : ∀ p ∈ L, p ∈ P) (k : Nat → Bool), (∀ x, k x = true → (S x).2 = true) → ∀ x, nrd nT L k x = true → (S x).2 = true
  | [], _, _, hk => hk
  | p :: L, hL, _, hk => nrd_snd h L (fun q hq => hL q (List.mem_cons_of_mem _ hq)) _ (nst_snd h hk (hL p List.mem_cons_self))
/-- As many rounds as there are Syms tell all that vanishes. -/
theorem nit_fin {nT nS : Nat} {P : List Pd} {S : Ss} (h : Fk nT (P.map pq) S) (hP : ∀ p ∈ P, p.1 < (nS : Int)) : nit nT P nS = fun x => (S x).2 := by
  have hlo : ∀ n x, nit nT P n x = true → (S x).2 = true := by
    intro n
    induction n with
    | zero => intro x hx; cases hx
    | succ n ih => exact nrd_snd h P (fun _ hp => hp) _ ih
  have hst := nrd_fix nT P _ (nit_stable (nT := nT) hP)
  obtain ⟨k, hk⟩ : ∃ k, nit nT P nS = k := ⟨_, rfl⟩
  rw [hk] at hst ⊢
  have hlk : ∀ x, k x = true → (S x).2 = true := by rw [← hk]; exact hlo nS
  obtain ⟨T, hT⟩ : ∃ T : Ss, T = fun x => ((S x).1, k x) := ⟨_, rfl⟩
  have hTS : Leq T S := fun x => by rw [hT]; exact ⟨Nat.or_self _, hlk x⟩
  have hc : Cl nT P T := by
    refine ⟨fun t ht => ?_, fun p hp h0 => ?_⟩
    · rw [hT]; show (S t).1.testBit t = true; rw [h.tok t ht]; exact Nat.testBit_two_pow_self
    · refine ⟨?_, fun e => ?_⟩
      · have h1 := or_le_trans (alg_mono hTS (syl p.2.2)).1 (fk_prod h hp h0).1
        rw [hT] at h1 ⊢
        exact h1
      · rw [alg_snd] at e
        have h2 := congrFun (hst p hp) (nT + p.1.toNat)
        rw [hT] at e ⊢
        show k (nT + p.1.toNat) = true
        rw [← h2]
        unfold nst
        rw [decide_eq_true h0, show (syl p.2.2).all k = true from e]
        simp
  have hS := fk_least h hc
  refine ble_anti hlk fun x hx => ?_
  have := (hS x).2 hx
  rw [hT] at this
  exact this

/-- The symbols that come to stand first in a row are marked. -/
def lin (nl R : Nat → Bool) : List Nat → Prop
  | [] => True
  | x :: r => R x = true ∧ (nl x = true → lin nl R r)
theorem lin_mono {nl R R' : Nat → Bool} (h : ble R R') : ∀ r, lin nl R r → lin nl R' r
  | [], _ => trivial
  | x :: r, hr => ⟨h x hr.1, fun e => lin_mono h r (hr.2 e)⟩
/-- A symbol comes to stand first. -/
inductive Rch (nl : Nat → Bool) (nT : Nat) (P : List Pd) : List Nat → Nat → Prop
  | here (x : Nat) (r : List Nat) : Rch nl nT P (x :: r) x
  | skip {x : Nat} {r : List Nat} {y : Nat} : nl x = true → Rch nl nT P r y → Rch nl nT P (x :: r) y
  | down {p : Pd} {r : List Nat} {y : Nat} : p ∈ P → 0 ≤ p.1 → Rch nl nT P (syl p.2.2) y → Rch nl nT P ((nT + p.1.toNat) :: r) y
theorem rch_le {nT : Nat} {P : List Pd} {S : Ss} (h : Fk nT (P.map pq) S) {r : List Nat} {y : Nat} (hr : Rch (fun x => (S x).2) nT P r y) : (S y).1 ||| (alg S r).1 = (alg S r).1 := by
  have hd : ∀ x r, (S x).1 ||| (alg S (x :: r)).1 = (alg S (x :: r)).1 := fun x r => by
    cases e : (S x).2 with
    | false => rw [alg_no S x r e]; exact Nat.or_self _
    | true => rw [alg_yes S x r e]; exact or_le_left _ _
  induction hr with
  | here x r => exact hd x r
  | skip hx _ ih => rw [alg_yes S _ _ hx]; exact or_le_trans ih (by dsimp only; rw [Nat.or_comm, Nat.or_assoc, Nat.or_self])
  | down hp h0 _ ih => exact or_le_trans (or_le_trans ih (fk_prod h hp h0).1) (hd _ _)
/-- A set by its members. -/
def mk (f : Nat → Bool) : Nat → Nat
  | 0 => 0
  | n + 1 => mk f n ||| (if f n = true then 2 ^ n else 0)
theorem mk_bit (f : Nat → Bool) (t : Nat) : ∀ n, (mk f n).testBit t = (decide (t < n) && f t)
  | 0 => by simp [mk]
  | n + 1 => by
    show (mk f n ||| _).testBit t = _
    rw [Nat.testBit_or, mk_bit f t n]
    by_cases e : t = n
    · subst e
      cases h : f t <;> simp
    · have h1 : decide (t < n + 1) = decide (t < n) := by by_cases h : t < n <;> simp [h] <;> omega
      rw [h1]
      cases h : f n with
      | false => simp
      | true => rw [if_pos rfl, Nat.testBit_two_pow, decide_eq_false (p := n = t) (fun e' => e e'.symm), Bool.or_false]
theorem mk_lt (f : Nat → Bool) : ∀ n, n ≤ 64 → mk f n < 2 ^ 64
  | 0, _ => by show 0 < 2 ^ 64; decide
  | n + 1, h => by
    refine Nat.or_lt_two_pow (mk_lt f n (by omega)) ?_
    split
    · exact Nat.pow_lt_pow_right (by decide) (by omega)
    · decide
/-- What a search with marks has found. -/
structure Ld (nl : Nat → Bool) (nT : Nat) (P : List Pd) (l : List Nat) (Q R : Nat → Bool) : Prop where
  up : ble Q R
  row : lin nl R l
  cl : ∀ p ∈ P, 0 ≤ p.1 → R (nT + p.1.toNat) = true → Q (nT + p.1.toNat) = false → lin nl R (syl p.2.2)
  re : ∀ z, R z = true → Q z = true ∨ Rch nl nT P l z
theorem alg_lin {nl R : Nat → Bool} {T : Ss} {m : Nat} (hn : ∀ x, (T x).2 = nl x) (hR : ∀ x, R x = true → (T x).1 = m) : ∀ r, lin nl R r → (alg T r).1 ||| m = m
  | [], _ => Nat.zero_or _
  | x :: r, h => by
    cases e : (T x).2 with
    | false => rw [alg_no T x r e]; dsimp only; rw [hR x h.1, Nat.or_self]
    | true =>
      rw [alg_yes T x r e]
      have := alg_lin hn hR r (h.2 (by rw [← hn, e]))
      dsimp only
      rw [hR x h.1]
      exact or_le_lub (Nat.or_self _) this
theorem or_top {a : Nat} (h : a < 2 ^ 64) : a ||| 18446744073709551615 = 18446744073709551615 := by
  refine Nat.eq_of_testBit_eq fun i => ?_
  rw [show 18446744073709551615 = 2 ^ 64 - 1 from rfl, Nat.testBit_or, Nat.testBit_two_pow_sub_one]
  by_cases hi : i < 64
  · rw [decide_eq_true hi, Bool.or_true]
  · rw [Nat.testBit_lt_two_pow (Nat.lt_of_lt_of_le h (Nat.pow_le_pow_right (by decide) (by omega))), Bool.false_or]
/-- What is found from nothing is what the row begins with. -/
theorem ld_alg {nT : Nat} {P : List Pd} {S : Ss} (h64 : nT ≤ 64) (h : Fk nT (P.map pq) S) {row : List Nat} {R : Nat → Bool} (hR : Ld (fun x => (S x).2) nT P row (fun _ => false) R) : mk R nT = (alg S row).1 := by
  have hm : mk R nT < 2 ^ 64 := mk_lt R nT h64
  obtain ⟨T, hT⟩ : ∃ T : Ss, T = fun x => (if R x = true then mk R nT else 18446744073709551615, (S x).2) := ⟨_, rfl⟩
  have hT1 : ∀ x, R x = true → (T x).1 = mk R nT := fun x hx => by rw [hT]; exact if_pos hx
  have hT0 : ∀ x, R x = false → (T x).1 = 18446744073709551615 := fun x hx => by rw [hT]; exact if_neg (by rw [hx]; decide)
  have hT2 : ∀ x, (T x).2 = (S x).2 := fun x => by rw [hT]
  have hTL : ∀ x, (T x).1 < 2 ^ 64 := fun x => by
    cases e : R x with
    | true => rw [hT1 x e]; exact hm
    | false => rw [hT0 x e]; decide
  have hc : Cl nT P T := by
    refine ⟨fun t ht => ?_, fun p hp h0 => ⟨?_, fun e => ?_⟩⟩
    · cases e : R t with
      | true => rw [hT1 t e, mk_bit, e, decide_eq_true ht]; rfl
      | false =>
        rw [hT0 t e, show 18446744073709551615 = 2 ^ 64 - 1 from rfl, Nat.testBit_two_pow_sub_one]
        exact decide_eq_true (by omega)
    · cases e : R (nT + p.1.toNat) with
      | true => rw [hT1 _ e]; exact alg_lin hT2 hT1 _ (hR.cl p hp h0 e rfl)
      | false => rw [hT0 _ e]; exact or_top (alg_lt T hTL _)
    · rw [hT2]
      refine (fk_prod h hp h0).2 ?_
      rw [alg_snd] at e ⊢
      rw [← e]
      congr 1
      funext x
      exact (hT2 x).symm
  have hS := fk_least h hc
  have h1 : (alg S row).1 ||| mk R nT = mk R nT := or_le_trans (alg_mono hS row).1 (alg_lin hT2 hT1 row hR.row)
  have h2 : mk R nT ||| (alg S row).1 = (alg S row).1 := by
    refine Nat.eq_of_testBit_eq fun t => ?_
    rw [Nat.testBit_or, mk_bit]
    by_cases ht : t < nT
    · cases e : R t with
      | false => simp
      | true =>
        have h3 : (alg S row).1.testBit t = true := by
          rcases hR.re t e with h4 | h4
          · cases h4
          · have h5 := rch_le h h4
            rw [h.tok t ht] at h5
            rw [← h5, Nat.testBit_or, Nat.testBit_two_pow_self]; rfl
        rw [h3, Bool.or_true]
    · rw [decide_eq_false ht, Bool.false_and, Bool.false_or]
  rw [← h1, Nat.or_comm, h2]
end Go.Proofs.Ytodncbkdlnepjaa
