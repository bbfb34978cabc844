import Derived.Test.YtbkhhegmmkcbbaaDoorSro
import Derived.Maps.RangeWalk
import Derived.Sort.KeysCollected
namespace Go.Proofs.YtbkhhegmmkcbbaaDoor
open Go.RowKit Go.Maps

/-! Maps of numbers to numbers. -/
def inI (x : Int) : Prop := -9223372036854775808 ≤ x ∧ x ≤ 9223372036854775807
theorem wfI {x : Int} (h : inI x) : (Lit.int .i64 x).wf = true := by
  obtain ⟨h1, h2⟩ := h
  simp [Lit.wf, IntKind.min, IntKind.max, IntKind.bits, IntKind.signed]; omega
theorem inI_wf {x : Int} (h : (Lit.int .i64 x).wf = true) : inI x := by
  simp [Lit.wf, IntKind.min, IntKind.max, IntKind.bits, IntKind.signed] at h
  exact ⟨by omega, by omega⟩
theorem keyI : Keyed Tryd.prog 3 := int_keyed Tryd.underlying3
abbrev li (t : Int) : Lit := .int .i64 t
theorem li_ne {s t : Int} (h : s ≠ t) : li s ≠ li t := fun e => h (by injection e)
/-- A map of numbers, by what stands at each key. -/
def Mi (W : World) (b n : Nat) (D : DataW Unit) (f : Int → Option Nat) : Prop := W.ownsMap Tryd.prog 3 (plainElem Tryd.prog 3) b n D ∧ ∀ t : Int, Maps.has D (li t) = (f t).isSome ∧ D.atKey (li t) (.lit (.int .i64 0)) = .lit (.int .i64 (((f t).getD 0 : Nat) : Int))
theorem Mi.made (w : World) : ∃ D, Mi (w.alloc (.map #[] 0)) w.heap.size 0 D (fun _ => none) := ⟨_, World.ownsMap_made w _ _ _, fun _ => ⟨rfl, rfl⟩⟩
theorem Mi.up {W W' : World} {b n : Nat} {D : DataW Unit} {f : Int → Option Nat} (h : Mi W b n D f) (hb : Below W.heap.size W W') : Mi W' b n D f := by
  obtain ⟨⟨es, c, h1, h3⟩, h2⟩ := h
  exact ⟨⟨es, c, (hb.block _ (lt_of_heap h1)).trans h1, h3⟩, h2⟩
theorem Mi.lt {W : World} {b n : Nat} {D : DataW Unit} {f : Int → Option Nat} (h : Mi W b n D f) : b < W.heap.size := h.1.lt
theorem Mi.kept {W W' : World} {b n : Nat} {D : DataW Unit} {f : Int → Option Nat} {r : Option Nat} (h : Mi W b n D f) (hg : W.grownBy W' r) (hne : some b ≠ r) : Mi W' b n D f := ⟨h.1.kept hg hne, h.2⟩
def iput (f : Int → Option Nat) (k : Int) (v : Nat) : Int → Option Nat := fun j => if j = k then some v else f j
theorem Mi.put {W : World} {b n : Nat} {D : DataW Unit} {f : Int → Option Nat} (h : Mi W b n D f) (hn : n < maxLen) {t : Int} (ht : inI t) (v : Nat) (hv : v ≤ 9223372036854775807) : ∃ W', (Instr.mapUpdate 60 (.map (some b)) (.int .i64 t) (.int .i64 (v : Int))).run Tryd.prog W = .ok () W' ∧ Mi W' b (n + 1) (D.put (li t) (.lit (.int .i64 (v : Int)))) (iput f t v) ∧ W.grownBy W' (some b) := by
  obtain ⟨h1, h2⟩ := h
  have him : IsMap D := h1.isMap
  have hk := keyOf_int_mk (P := Tryd.prog) Tryd.underlying3 (wfI ht)
  obtain ⟨W', r1, r2, r3⟩ := h1.update keyI Tryd.underlying60 hn hk (plainElem_int Tryd.underlying3 (a := (v : Int)) (wfI ⟨by omega, by omega⟩))
  refine ⟨W', r1, ⟨r2, fun j => ?_⟩, r3⟩
  unfold iput
  by_cases e : j = t
  · subst e
    rw [if_pos rfl, has_put_same him (keyI.key hk), atKey_put_same him (keyI.key hk)]
    exact ⟨rfl, rfl⟩
  · rw [if_neg e, has_put_other (li_ne e), atKey_put_other (li_ne e)]
    exact h2 j
/-- The keys met so far. -/
def Cki (D : DataW Unit) (left : Lit → Bool) (ss : List Int) : Prop := ss.Nodup ∧ ∀ x, x ∈ ss ↔ (has D (li x) = true ∧ left (li x) = false)
theorem Cki.start (D : DataW Unit) : Cki D (has D) [] := ⟨List.nodup_nil, fun x => by cases has D (li x) <;> simp⟩
theorem Cki.step {D : DataW Unit} {left : Lit → Bool} {ss : List Int} (h : Cki D left ss) {x : Int} {y : DataW Unit} (hlk : left (li x) = true) (hat : ∀ zd, D.atKey (li x) zd = y) : Cki D (fun z => left z && !z.sameKey (li x)) (ss ++ [x]) := by
  have hhas : has D (li x) = true := has_true_of_atKey hat
  have hnew : x ∉ ss := fun hx => by have := ((h.2 x).1 hx).2; rw [hlk] at this; cases this
  refine ⟨List.nodup_append.2 ⟨h.1, by simp, fun a ha b hb => by simp at hb; subst hb; exact fun e => hnew (e ▸ ha)⟩, fun y => ?_⟩
  by_cases hy : y = x
  · subst hy; simp [hhas, Lit.sameKey]
  · simp [h.2 y, hy, Lit.sameKey]
/-- The keys of an area's ends. -/
def fe (A : List Ar) : Int → Option Nat := fun x => if x ∈ eds A then some 0 else none
theorem fe_nil : fe [] = fun _ => none := by funext x; unfold fe eds; simp
theorem fe_step (A : List Ar) (a : Ar) : fe (A ++ [a]) = iput (iput (fe A) a.fr 0) a.tt 0 := by
  funext x
  unfold fe iput eds
  simp only [List.flatMap_append, List.flatMap_cons, List.flatMap_nil, List.append_nil, List.mem_append, List.mem_cons, List.not_mem_nil, or_false]
  by_cases h1 : x = a.tt
  · simp [h1]
  · by_cases h2 : x = a.fr
    · simp [h2]
    · simp [h1, h2]
theorem fe_step' (A : List Ar) (a : Ar) : fe (A ++ [a]) = iput (iput (fe A) a.tt 0) a.fr 0 := by
  rw [fe_step]
  funext x
  unfold iput
  by_cases h1 : x = a.tt <;> by_cases h2 : x = a.fr <;> simp [h1, h2]
/-- What was met is, sorted, the cuts. -/
theorem cts_met {A : List Ar} {ss : List Int} (hn : ss.Nodup) (hm : ∀ x, x ∈ ss ↔ x ∈ eds A) : (ss.mergeSort fun x y => decide (x ≤ y)) = cts A := by
  have hp : ss.Perm (ddp (eds A)) := by
    refine (List.perm_ext_iff_of_nodup hn (ddp_nodup _)).2 fun x => ?_
    rw [hm x, ddp_mem]
  have tr : ∀ a b c : Int, (decide (a ≤ b)) = true → (decide (b ≤ c)) = true → (decide (a ≤ c)) = true := fun a b c h1 h2 => by rw [decide_eq_true_eq] at *; omega
  have tot : ∀ a b : Int, (decide (a ≤ b) || decide (b ≤ a)) = true := fun a b => by simp only [Bool.or_eq_true, decide_eq_true_eq]; omega
  unfold cts
  refine List.Perm.eq_of_pairwise (le := fun a b : Int => decide (a ≤ b) = true) (fun a b _ _ h1 h2 => ?_) (List.pairwise_mergeSort tr tot ss) (List.pairwise_mergeSort tr tot _) (((List.mergeSort_perm ss _).trans hp).trans (List.mergeSort_perm _ _).symm)
  rw [decide_eq_true_eq] at h1 h2; omega
end Go.Proofs.YtbkhhegmmkcbbaaDoor
