import Derived.Test.YtkjcnnecdclgfaaIte
namespace Go.Proofs.Ytkjcnnecdclgfaa
open Go.RowKit
theorem pesc_lt {s : ByteArray} {i v j : Nat} (h : pesc s i = .ok (v, j)) : v < 256 := by
  unfold pesc at h
  split at h
  · injection h with h; injection h with h1 h2; omega
  split at h
  · injection h with h; injection h with h1 h2; omega
  split at h
  · injection h with h; injection h with h1 h2; omega
  split at h
  · split at h
    · cases h
    · rename_i a ha
      split at h
      · cases h
      · rename_i c hc
        injection h with h; injection h with h1 h2
        have := hexd_lt ha
        have := hexd_lt hc
        omega
  split at h
  · injection h with h; injection h with h1 h2
    rw [← h1]
    exact pk_lt s i
  · cases h
theorem pone_lt {s : ByteArray} {i v j : Nat} {nt : List UInt8} (h : pone s i nt = .ok (v, j)) : v < 256 := by
  unfold pone at h
  split at h
  · exact pesc_lt h
  split at h
  · injection h with h; injection h with h1 h2
    rw [← h1]
    exact pk_lt s i
  · cases h
/-- What becomes of a class behind its items. -/
def pend (s : ByteArray) (i : Nat) (r : Except (Int × Nat) ((Nat → Bool) × Nat)) : Except (Int × Nat) ((Nat → Bool) × Nat) :=
  match r with
  | .error e => .error e
  | .ok (m2, l) => if bl (if pk s (i + 1) = 94 then fun b => !m2 b else m2) = true then .error (41, i) else .ok (if pk s (i + 1) = 94 then fun b => !m2 b else m2, l)
/-- An item and what follows. -/
def kst (s : ByteArray) (i j : Nat) (mm : Nat → Bool) : Except (Int × Nat) ((Nat → Bool) × Nat) :=
  match pitem s j with
  | .error e => .error e
  | .ok (m, k) => pend s i (pitF s k (fun b => mm b || m b))
theorem pclass_kst (s : ByteArray) (i : Nat) : pclass s i = kst s i (if pk s (i + 1) = 94 then i + 2 else i + 1) (fun _ => false) := by
  unfold pclass kst pend
  split
  · rename_i e h; rw [h]
  · rename_i m k h
    rw [h]
    simp only [Bool.false_or]
    rfl
theorem pend_kst (s : ByteArray) (i j : Nat) (mm : Nat → Bool) (h : ¬ pk s j = 93) : pend s i (pitF s j mm) = kst s i j mm := by
  unfold kst
  cases hp : pitem s j with
  | error e => rw [pitF_err s j mm h hp]; rfl
  | ok r =>
    obtain ⟨m, k⟩ := r
    rw [pitF_step s j mm h hp]
def Kr (s : ByteArray) (i : Nat) (first : Bool) (j : Nat) (mm : Nat → Bool) : Prop := if first then pclass s i = kst s i j mm else pclass s i = pend s i (pitF s j mm)
/-- Is there another item? -/
def cnd (s : ByteArray) (first : Bool) (j : Nat) : Bool := first || (decide (s.size ≤ j) || !(pk s j == 93))
theorem Kr.go {s : ByteArray} {i : Nat} {first : Bool} {j : Nat} {mm : Nat → Bool} (h : Kr s i first j mm) (hc : cnd s first j = true) : pclass s i = kst s i j mm := by
  unfold Kr at h
  cases first with
  | true => simpa using h
  | false =>
    have h' : pclass s i = pend s i (pitF s j mm) := by simpa using h
    rw [h']
    refine pend_kst s i j mm ?_
    intro h93
    unfold cnd at hc
    have := pk_in (s := s) (i := j) (by rw [h93]; decide)
    rw [h93] at hc
    simp at hc
    omega
theorem Kr.fin {s : ByteArray} {i : Nat} {first : Bool} {j : Nat} {mm : Nat → Bool} (h : Kr s i first j mm) (hc : cnd s first j = false) : pclass s i = pend s i (.ok (mm, j + 1)) ∧ j < s.size := by
  unfold cnd at hc
  unfold Kr at h
  cases first with
  | true => simp at hc
  | false =>
    have h' : pclass s i = pend s i (pitF s j mm) := by simpa using h
    have h93 : pk s j = 93 ∧ j < s.size := by
      simp at hc
      omega
    rw [h', pitF_end s j mm h93.1]
    exact ⟨rfl, h93.2⟩
/-- Is it a range? -/
def rng (s : ByteArray) (one : Bool) (k : Nat) : Bool := one && (decide (k < s.size) && pk s k == 45)
theorem item_cases (s : ByteArray) (j : Nat) : (∃ p, ires s j true = badV p ∧ pitem s j = .error (40, p)) ∨
    (∃ (m : Nat → Bool) (one : Bool) (v k : Nat), ires s j true = bitV m one (v : Int) (k : Int) (-1) ∧ j < k ∧ k ≤ s.size ∧ v < 256 ∧ (rng s one k = false → pitem s j = .ok (m, k)) ∧
      (rng s one k = true → pitem s j = match pone s (k + 1) wth with
        | .error p => .error (40, p)
        | .ok (l, k2) => if l < v then .error (41, j) else .ok (fun b => decide (v ≤ b) && decide (b ≤ l), k2))) := by
  cases hp : psets s j with
  | some m =>
    have hi : pitem s j = .ok (m, j + 2) := by unfold pitem; rw [hp]
    have hn := pitem_next hi
    refine .inr ⟨m, false, 0, j + 2, ?_, hn.1, hn.2, by omega, fun _ => hi, fun h => by simp [rng] at h⟩
    unfold ires
    rw [if_pos rfl, hp]
    rfl
  | none =>
    cases ho : pone s j wth with
    | error p =>
      refine .inl ⟨p, ?_, ?_⟩
      · unfold ires
        rw [if_pos rfl, hp, ho]
        rfl
      · unfold pitem
        rw [hp, ho]
    | ok r =>
      obtain ⟨v, k⟩ := r
      have hn := pone_next ho
      refine .inr ⟨sg v, true, v, k, ?_, hn.1, hn.2, pone_lt ho, ?_, ?_⟩
      · unfold ires
        rw [if_pos rfl, hp, ho]
        rfl
      · intro h
        have h45 : ¬ pk s k = 45 := by
          intro h45
          have := pk_in (s := s) (i := k) (by rw [h45]; decide)
          unfold rng at h
          rw [h45] at h
          simp at h
          omega
        unfold pitem
        rw [hp, ho]
        dsimp only
        rw [if_neg h45]
      · intro h
        have h45 : pk s k = 45 := by
          unfold rng at h
          simp at h
          exact h.2
        unfold pitem
        rw [hp, ho]
        dsimp only
        rw [if_pos h45]
        cases pone s (k + 1) wth <;> rfl
theorem item_one (s : ByteArray) (j : Nat) : ires s j false = oneV (pone s j wth) := rfl
/-- The cells of a class that is read: what is answered, the refusal, the set. -/
structure Kb (w wr : World) (mm : Nat → Bool) : Prop where
  a : AtC wr w.heap.size (fun _ => false)
  e : AtV wr (w.heap.size + 1) #[.int .i64 0, .int .i64 0] 66
  c : AtC wr (w.heap.size + 2) mm
  bel : Below w.heap.size w wr
theorem Kb.mono {w wr wr' : World} {mm : Nat → Bool} (h : Kb w wr mm) (hb : Below wr.heap.size wr wr') : Kb w wr' mm := ⟨h.a.mono hb, h.e.mono hb, h.c.mono hb, below_trans h.bel hb⟩
theorem Kb.put {w wr : World} {mm : Nat → Bool} (h : Kb w wr mm) (m : Nat → Bool) : Kb w ((((wr.setCell ⟨w.heap.size + 2, 0, none⟩ (.int .u64 (wd m 0 : Nat))).setCell ⟨w.heap.size + 2, 1, none⟩ (.int .u64 (wd m 1 : Nat))).setCell ⟨w.heap.size + 2, 2, none⟩ (.int .u64 (wd m 2 : Nat))).setCell ⟨w.heap.size + 2, 3, none⟩ (.int .u64 (wd m 3 : Nat))) m := by
  have n1 : w.heap.size ≠ w.heap.size + 2 := by omega
  have n2 : w.heap.size + 1 ≠ w.heap.size + 2 := by omega
  refine ⟨⟨?_⟩, ⟨?_⟩, h.c.set4 m, bel_set4 h.bel (by omega) _ _ _ _⟩
  · rw [Below.heap_setCell _ _ _ _ n1, Below.heap_setCell _ _ _ _ n1, Below.heap_setCell _ _ _ _ n1, Below.heap_setCell _ _ _ _ n1]
    exact h.a.h
  · rw [Below.heap_setCell _ _ _ _ n2, Below.heap_setCell _ _ _ _ n2, Below.heap_setCell _ _ _ _ n2, Below.heap_setCell _ _ _ _ n2]
    exact h.e.h
theorem AtV.put4 {W : World} {k q : Nat} {vs : Array Value} {t : TypeId} (h : AtV W k vs t) (hq : k ≠ q) (x y z u : Value) : AtV ((((W.setCell ⟨q, 0, none⟩ x).setCell ⟨q, 1, none⟩ y).setCell ⟨q, 2, none⟩ z).setCell ⟨q, 3, none⟩ u) k vs t := by
  refine ⟨?_⟩
  rw [Below.heap_setCell _ _ _ _ hq, Below.heap_setCell _ _ _ _ hq, Below.heap_setCell _ _ _ _ hq, Below.heap_setCell _ _ _ _ hq]
  exact h.h
theorem Kb.same {w wr : World} {m m' : Nat → Bool} (h : Kb w wr m) (he : ∀ b, b < 256 → m b = m' b) : Kb w wr m' := by
  have e : ∀ i, i < 4 → wd m i = wd m' i := fun i hi => wd_congr m m' i (fun j hj => he _ (by omega))
  refine ⟨h.a, h.e, ⟨?_⟩, h.bel⟩
  rw [← e 0 (by omega), ← e 1 (by omega), ← e 2 (by omega), ← e 3 (by omega)]
  exact h.c.h
theorem Kb.new (w : World) : Kb w (((w.alloc (.cells #[.int .u64 0, .int .u64 0, .int .u64 0, .int .u64 0] 32)).alloc (.cells #[.int .i64 0, .int .i64 0] 66)).alloc (.cells #[.int .u64 0, .int .u64 0, .int .u64 0, .int .u64 0] 32)) (fun _ => false) := by
  obtain ⟨w1, h1⟩ : ∃ w1, w.alloc (.cells #[.int .u64 0, .int .u64 0, .int .u64 0, .int .u64 0] 32) = w1 := ⟨_, rfl⟩
  have s1 : w1.heap.size = w.heap.size + 1 := by rw [← h1, World.size_alloc]
  have s2 : (w1.alloc (.cells #[.int .i64 0, .int .i64 0] 66)).heap.size = w.heap.size + 2 := by rw [World.size_alloc, s1]
  have a := one_box w
  have b1 := bel_up w (.cells #[.int .u64 0, .int .u64 0, .int .u64 0, .int .u64 0] 32)
  rw [h1] at a b1 ⊢
  have e := AtV.new w1 #[.int .i64 0, .int .i64 0] 66
  have c := one_box (w1.alloc (.cells #[.int .i64 0, .int .i64 0] 66))
  rw [s1] at e
  rw [s2] at c
  exact ⟨(a.mono (bel_up _ _)).mono (bel_up _ _), e.up _, c, below_trans (below_trans b1 (bel_up _ _)) (bel_up _ _)⟩
abbrev errV (c p : Int) : Value := .agg #[.int .i64 c, .int .i64 p]
def KRes (s : ByteArray) (i : Nat) (w : World) (e : Ending) (w' : World) : Prop :=
  (match pclass s i with
  | .ok (m, j) => e = .returned (.tuple #[CV m, .int .i64 (j : Int), errV 0 0])
  | .error (c, p) => ∃ m, e = .returned (.tuple #[CV m, .int .i64 0, errV c (p : Int)])) ∧ Below w.heap.size w w'
theorem KRes.bad {s : ByteArray} {i : Nat} {w w' : World} {c : Int} {p : Nat} {m : Nat → Bool} (h : pclass s i = .error (c, p)) (hb : Below w.heap.size w w') : KRes s i w (.returned (.tuple #[CV m, .int .i64 0, errV c (p : Int)])) w' := by
  unfold KRes
  rw [h]
  exact ⟨⟨m, rfl⟩, hb⟩
theorem KRes.good {s : ByteArray} {i : Nat} {w w' : World} {m : Nat → Bool} {j : Nat} (h : pclass s i = .ok (m, j)) (hb : Below w.heap.size w w') : KRes s i w (.returned (.tuple #[CV m, .int .i64 (j : Int), errV 0 0])) w' := by
  unfold KRes
  rw [h]
  exact ⟨rfl, hb⟩
theorem results_ctc {fn : Func} {p u q : Tmp} {ty tz : TypeId} (h : fn.results = #[.cell p ty, .tmp u, .cell q tz]) (tmps : Array Value) (P : Program) (w : World) :
    (results fn tmps).run P w = ((asAddr (tmps.getD p undef)).run P w).andThen fun a w₁ => ((loadVar ty a).run P w₁).andThen fun v w₂ => ((asAddr (tmps.getD q undef)).run P w₂).andThen fun b w₃ => ((loadVar tz b).run P w₃).andThen fun v' w₄ => .ok (.tuple #[v, tmps.getD u undef, v']) w₄ := by
  simp only [results, h]
  simp [Sem.run_bind, Result.andThen]
theorem bel_set6 {w W : World} (h : Below w.heap.size w W) (x y z u c p : Value) : Below w.heap.size w ((((((W.setCell ⟨w.heap.size, 0, none⟩ x).setCell ⟨w.heap.size, 1, none⟩ y).setCell ⟨w.heap.size, 2, none⟩ z).setCell ⟨w.heap.size, 3, none⟩ u).setCell ⟨w.heap.size + 1, 0, none⟩ c).setCell ⟨w.heap.size + 1, 1, none⟩ p) :=
  (Below.setCell (p := ⟨w.heap.size + 1, 0, none⟩) (bel_set4 h (Nat.le_refl _) x y z u) (by show w.heap.size ≤ w.heap.size + 1; omega) c).setCell (p := ⟨w.heap.size + 1, 1, none⟩) (by show w.heap.size ≤ w.heap.size + 1; omega) p
theorem blank_any (m : Nat → Bool) (w : World) : Calls Try.prog 36 #[CV m] w fun e w' => e = .returned (.bool (bl m)) ∧ Below w.heap.size w w' := blank_w _ _ _ _ w
end Go.Proofs.Ytkjcnnecdclgfaa
