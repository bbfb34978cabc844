import Derived.Test.YticheeacbajeeaaBas
import Derived.Test.YticheeacbajeeaaTra
import Derived.Sort.Grow
import Derived.Shelf.SlSortFuncK.ComposeK
import Derived.Shelf.SlSortCmp.InsertionK
namespace Go.Proofs.Yticheeacbajeeaa
open Go.RowKit

/-- A fold: its rows. -/
abbrev Fd := Nat × Nat
def fdz : Fd := (0, 0)
/-- Which folds are told: of one first row that with the greatest last one, in their order. -/
structure Cn (L out : List Fd) : Prop where
  inc : out.Pairwise (fun x y => x.1 < y.1)
  iff : ∀ x, x ∈ out ↔ x ∈ L ∧ ∀ y ∈ L, y.1 = x.1 → y.2 ≤ x.2
theorem sorted_ext : ∀ (a b : List Fd), a.Pairwise (fun x y => x.1 < y.1) → b.Pairwise (fun x y => x.1 < y.1) → (∀ x, x ∈ a ↔ x ∈ b) → a = b
  | [], [], _, _, _ => rfl
  | [], y :: b, _, _, h => by have := (h y).2 (List.mem_cons_self ..); cases this
  | x :: a, [], _, _, h => by have := (h x).1 (List.mem_cons_self ..); cases this
  | x :: a, y :: b, ha, hb, h => by
    obtain ⟨ha1, ha2⟩ := List.pairwise_cons.1 ha
    obtain ⟨hb1, hb2⟩ := List.pairwise_cons.1 hb
    have hxy : x = y := by
      rcases List.mem_cons.1 ((h x).1 (List.mem_cons_self ..)) with e | e
      · exact e
      · rcases List.mem_cons.1 ((h y).2 (List.mem_cons_self ..)) with e2 | e2
        · exact e2.symm
        · have h1 := hb1 x e
          have h2 := ha1 y e2
          omega
    subst hxy
    have e : a = b := by
      refine sorted_ext a b ha2 hb2 fun z => ⟨fun hz => ?_, fun hz => ?_⟩
      · rcases List.mem_cons.1 ((h z).1 (List.mem_cons_of_mem _ hz)) with e | e
        · subst e; exact absurd (ha1 z hz) (Nat.lt_irrefl _)
        · exact e
      · rcases List.mem_cons.1 ((h z).2 (List.mem_cons_of_mem _ hz)) with e | e
        · subst e; exact absurd (hb1 z hz) (Nat.lt_irrefl _)
        · exact e
    rw [e]
theorem Cn.uniq {L a b : List Fd} (h : Cn L a) (k : Cn L b) : a = b := sorted_ext a b h.inc k.inc fun x => (h.iff x).trans (k.iff x).symm
theorem Cn.perm {L L' a : List Fd} (h : Cn L a) (e : L.Perm L') : Cn L' a := ⟨h.inc, fun x => by
  rw [h.iff]
  exact ⟨fun ⟨h1, h2⟩ => ⟨e.mem_iff.1 h1, fun y hy => h2 y (e.mem_iff.2 hy)⟩, fun ⟨h1, h2⟩ => ⟨e.mem_iff.2 h1, fun y hy => h2 y (e.mem_iff.1 hy)⟩⟩⟩

/-- The order in which folds are sorted. -/
def flt (x y : Fd) : Prop := x.1 < y.1 ∨ (x.1 = y.1 ∧ y.2 < x.2)
/-- Is it the first of its row? -/
def kp (L : List Fd) (i : Nat) : Bool := decide (i = 0) || decide ((L.getD i fdz).1 ≠ (L.getD (i - 1) fdz).1)
def cpk (L : List Fd) (i : Nat) : List Fd := (List.range i).filterMap fun j => if kp L j then some (L.getD j fdz) else none
theorem cpk_step (L : List Fd) (i : Nat) : cpk L (i + 1) = cpk L i ++ (if kp L i then [L.getD i fdz] else []) := by
  unfold cpk
  rw [List.range_succ, List.filterMap_append]
  congr 1
  by_cases h : kp L i = true
  · simp [h]
  · simp [h]
theorem cpk_len (L : List Fd) (i : Nat) : (cpk L i).length ≤ i := by
  unfold cpk
  refine Nat.le_trans (List.length_filterMap_le _ _) ?_
  rw [List.length_range]; exact Nat.le_refl _
theorem cpk_mem {L : List Fd} {i : Nat} {x : Fd} : x ∈ cpk L i ↔ ∃ j, j < i ∧ kp L j = true ∧ L.getD j fdz = x := by
  unfold cpk
  rw [List.mem_filterMap]
  constructor
  · rintro ⟨j, hj, h⟩
    by_cases hk : kp L j = true
    · rw [if_pos hk] at h
      exact ⟨j, List.mem_range.1 hj, hk, Option.some.inj h⟩
    · rw [if_neg hk] at h; cases h
  · rintro ⟨j, hj, hk, h⟩
    exact ⟨j, List.mem_range.2 hj, by rw [if_pos hk, h]⟩
theorem mem_at {L : List Fd} {x : Fd} (h : x ∈ L) : ∃ j, j < L.length ∧ L.getD j fdz = x := by
  obtain ⟨j, hj, e⟩ := List.mem_iff_getElem.1 h
  exact ⟨j, hj, by rw [List.getD_eq_getElem?_getD, List.getElem?_eq_getElem hj, Option.getD_some, e]⟩
theorem at_mem {L : List Fd} {j : Nat} (h : j < L.length) : L.getD j fdz ∈ L := by
  rw [List.getD_eq_getElem?_getD, List.getElem?_eq_getElem h, Option.getD_some]; exact List.getElem_mem h
theorem srt_at {D : List Fd} (h : D.Pairwise (fun a b => ¬ flt b a)) {i j : Nat} (hij : i < j) (hj : j < D.length) : (D.getD i fdz).1 ≤ (D.getD j fdz).1 ∧ ((D.getD i fdz).1 = (D.getD j fdz).1 → (D.getD j fdz).2 ≤ (D.getD i fdz).2) := by
  have h1 := List.pairwise_iff_getElem.1 h i j (by omega) hj hij
  rw [List.getD_eq_getElem?_getD, List.getElem?_eq_getElem (show i < D.length by omega), List.getD_eq_getElem?_getD, List.getElem?_eq_getElem hj, Option.getD_some, Option.getD_some]
  unfold flt at h1
  omega
theorem kp_lt {D : List Fd} (h : D.Pairwise (fun a b => ¬ flt b a)) {i j : Nat} (hij : i < j) (hj : j < D.length) (hk : kp D j = true) : (D.getD i fdz).1 < (D.getD j fdz).1 := by
  unfold kp at hk
  rw [Bool.or_eq_true, decide_eq_true_eq, decide_eq_true_eq] at hk
  have h1 := (srt_at h (i := j - 1) (j := j) (by omega) hj).1
  have h2 : (D.getD i fdz).1 ≤ (D.getD (j - 1) fdz).1 := by
    rcases Nat.lt_or_ge i (j - 1) with h9 | h9
    · exact (srt_at h h9 (by omega)).1
    · rw [show i = j - 1 by omega]; exact Nat.le_refl _
  rcases hk with hk | hk
  · omega
  · omega
theorem cn_cpk {D : List Fd} (h : D.Pairwise (fun a b => ¬ flt b a)) : Cn D (cpk D D.length) := by
  refine ⟨?_, fun x => ?_⟩
  · have key : ∀ i, i ≤ D.length → (cpk D i).Pairwise (fun x y => x.1 < y.1) := by
      intro i
      induction i with
      | zero => intro _; exact List.Pairwise.nil
      | succ i ih =>
        intro hi
        rw [cpk_step]
        by_cases hk : kp D i = true
        · rw [if_pos hk]
          refine List.pairwise_append.2 ⟨ih (by omega), List.pairwise_singleton _ _, fun a ha b hb => ?_⟩
          obtain ⟨j, hj, -, rfl⟩ := cpk_mem.1 ha
          rw [List.mem_singleton] at hb
          subst hb
          exact kp_lt h hj (by omega) hk
        · rw [if_neg hk, List.append_nil]; exact ih (by omega)
    exact key _ (Nat.le_refl _)
  · rw [cpk_mem]
    constructor
    · rintro ⟨j, hj, hk, rfl⟩
      refine ⟨at_mem hj, fun y hy e => ?_⟩
      obtain ⟨i, hi, rfl⟩ := mem_at hy
      rcases Nat.lt_trichotomy i j with h9 | h9 | h9
      · have := kp_lt h h9 hj hk; omega
      · rw [h9]; exact Nat.le_refl _
      · exact (srt_at h h9 hi).2 e.symm
    · rintro ⟨hx, hm⟩
      obtain ⟨j, hj, rfl⟩ := mem_at hx
      have key : ∀ k, k ≤ j → ∃ i, i ≤ j ∧ (D.getD i fdz).1 = (D.getD j fdz).1 ∧ (kp D i = true ∨ i + k ≤ j) := by
        intro k
        induction k with
        | zero => intro _; exact ⟨j, Nat.le_refl _, rfl, Or.inr (by omega)⟩
        | succ k ih =>
          intro hk
          obtain ⟨i, h1, h2, h3⟩ := ih (by omega)
          by_cases hi : kp D i = true
          · exact ⟨i, h1, h2, Or.inl hi⟩
          · have h4 : i + k ≤ j := h3.resolve_left hi
            unfold kp at hi
            rw [Bool.or_eq_true, decide_eq_true_eq, decide_eq_true_eq] at hi
            have h5 : i ≠ 0 := fun e => hi (Or.inl e)
            have h6 : (D.getD i fdz).1 = (D.getD (i - 1) fdz).1 := by
              rcases Nat.decEq (D.getD i fdz).1 (D.getD (i - 1) fdz).1 with e | e
              · exact absurd (Or.inr e) hi
              · exact e
            exact ⟨i - 1, by omega, by omega, Or.inr (by omega)⟩
      obtain ⟨i, h1, h2, h3⟩ := key j (Nat.le_refl _)
      have hki : kp D i = true := by
        rcases h3 with h3 | h3
        · exact h3
        · have : i = 0 := by omega
          unfold kp; rw [this]; rfl
      refine ⟨i, by omega, hki, ?_⟩
      have h4 := hm _ (at_mem (L := D) (j := i) (by omega)) h2
      have h5 : (D.getD j fdz).2 ≤ (D.getD i fdz).2 := by
        rcases Nat.lt_or_ge i j with h9 | h9
        · exact (srt_at h h9 hj).2 h2
        · rw [show i = j by omega]; exact Nat.le_refl _
      exact Prod.ext h2 (by omega)

/-- The rows that have a last one behind them. -/
def ftl (g : Nat → Nat) (n : Nat) : List Fd := (List.range n).filterMap fun r => if r < g r then some (r, g r) else none
theorem ftl_step (g : Nat → Nat) (n : Nat) : ftl g (n + 1) = ftl g n ++ (if n < g n then [(n, g n)] else []) := by
  unfold ftl
  rw [List.range_succ, List.filterMap_append]
  congr 1
  by_cases h : n < g n
  · simp [h]
  · simp [h]
theorem ftl_len (g : Nat → Nat) (n : Nat) : (ftl g n).length ≤ n := by
  unfold ftl
  refine Nat.le_trans (List.length_filterMap_le _ _) ?_
  rw [List.length_range]; exact Nat.le_refl _
theorem ftl_mem {g : Nat → Nat} {n : Nat} {x : Fd} : x ∈ ftl g n ↔ x.1 < n ∧ x.1 < g x.1 ∧ x.2 = g x.1 := by
  unfold ftl
  rw [List.mem_filterMap]
  constructor
  · rintro ⟨j, hj, h⟩
    by_cases hk : j < g j
    · rw [if_pos hk] at h
      have e := Option.some.inj h
      subst e
      exact ⟨List.mem_range.1 hj, hk, rfl⟩
    · rw [if_neg hk] at h; cases h
  · rintro ⟨h1, h2, h3⟩
    exact ⟨x.1, List.mem_range.2 h1, by rw [if_pos h2, ← h3]⟩
theorem ftl_inc (g : Nat → Nat) : ∀ n, (ftl g n).Pairwise (fun x y => x.1 < y.1)
  | 0 => List.Pairwise.nil
  | n + 1 => by
    rw [ftl_step]
    by_cases hk : n < g n
    · rw [if_pos hk]
      refine List.pairwise_append.2 ⟨ftl_inc g n, List.pairwise_singleton _ _, fun a ha b hb => ?_⟩
      rw [List.mem_singleton] at hb
      subst hb
      exact (ftl_mem.1 ha).1
    · rw [if_neg hk, List.append_nil]; exact ftl_inc g n
/-- The furthest last row of each row, as the reference keeps it. -/
def Fz (L : List Fd) (g : Nat → Nat) : Prop := ∀ r, (∀ y ∈ L, y.1 = r → y.2 ≤ g r) ∧ (g r = 0 ∨ (r, g r) ∈ L)
theorem Fz.nil : Fz [] (fun _ => 0) := fun r => ⟨fun y hy => (by cases hy), Or.inl rfl⟩
theorem Fz.put {L : List Fd} {g : Nat → Nat} (h : Fz L g) {x : Fd} (hx : g x.1 < x.2) : Fz (L ++ [x]) (fun r => if r = x.1 then x.2 else g r) := by
  intro r
  obtain ⟨h1, h2⟩ := h r
  by_cases e : r = x.1
  · simp only [if_pos e]
    refine ⟨fun y hy hr => ?_, Or.inr (List.mem_append.2 (Or.inr (by rw [e]; exact List.mem_singleton.2 rfl)))⟩
    rcases List.mem_append.1 hy with hy | hy
    · have := h1 y hy hr; rw [e] at this; omega
    · rw [List.mem_singleton] at hy; rw [hy]; exact Nat.le_refl _
  · simp only [if_neg e]
    refine ⟨fun y hy hr => ?_, h2.imp id fun h => List.mem_append.2 (Or.inl h)⟩
    rcases List.mem_append.1 hy with hy | hy
    · exact h1 y hy hr
    · rw [List.mem_singleton] at hy; rw [hy] at hr; exact absurd hr.symm e
theorem Fz.keep {L : List Fd} {g : Nat → Nat} (h : Fz L g) {x : Fd} (hx : x.2 ≤ g x.1) : Fz (L ++ [x]) g := by
  intro r
  obtain ⟨h1, h2⟩ := h r
  refine ⟨fun y hy hr => ?_, h2.imp id fun h => List.mem_append.2 (Or.inl h)⟩
  rcases List.mem_append.1 hy with hy | hy
  · exact h1 y hy hr
  · rw [List.mem_singleton] at hy; rw [hy] at hr ⊢; rw [← hr]; exact hx
theorem cn_ftl {L : List Fd} {g : Nat → Nat} {n : Nat} (h : Fz L g) (hn : ∀ x ∈ L, x.1 < n) : Cn (L.filter (fun x => decide (x.1 < x.2))) (ftl g n) := by
  refine ⟨ftl_inc g n, fun x => ?_⟩
  rw [ftl_mem, List.mem_filter, decide_eq_true_eq]
  obtain ⟨h1, h2⟩ := h x.1
  constructor
  · rintro ⟨k1, k2, k3⟩
    have h3 : (x.1, g x.1) ∈ L := h2.resolve_left (by omega)
    refine ⟨⟨by rw [← k3] at h3; exact h3, by omega⟩, fun y hy e => ?_⟩
    rw [List.mem_filter] at hy
    rw [k3]; exact h1 y hy.1 e
  · rintro ⟨⟨k1, k2⟩, k3⟩
    have h3 := h1 x k1 rfl
    have h4 : (x.1, g x.1) ∈ L := h2.resolve_left (by omega)
    have h5 := k3 (x.1, g x.1) (List.mem_filter.2 ⟨h4, by rw [decide_eq_true_eq]; show x.1 < g x.1; omega⟩) rfl
    exact ⟨hn x k1, by omega, by have h6 : g x.1 ≤ x.2 := h5; omega⟩
end Go.Proofs.Yticheeacbajeeaa
namespace Go.Proofs.Yticheeacbajeeaa
open Go.RowKit Go.Maps

/-- Two numbers compared. -/
def cmpI (x y : Int) : Int := if x < y then -1 else if y < x then 1 else 0
/-- The first of two that is not 0. -/
def orI (x y : Int) : Int := if x = 0 then y else x

theorem ret_boolF {a b : Bool} (h : a = b) : Ending.returned (.bool a) = .returned (.bool b) := by rw [h]
theorem nan_any (x : Int) (w : World) : Calls Try.prog 57 #[.int .i64 x] w fun e w' => e = .returned (.bool false) ∧ w' = w := by
  have d : (x == x) = true := beq_self_eq_true x
  go_enter Try.func57, Try.ntmps57
  go_wp2_with fail
  go_ret
  exact ⟨ret_boolF (by simp), rfl⟩

theorem cmp_any (x y : Int) (w : World) : Calls Try.prog 45 #[.int .i64 x, .int .i64 y] w fun e w' => e = .returned (.int .i64 (cmpI x y)) ∧ w' = w := by
  have H1 : Hid (∀ (z : Int) (W : World), Calls Try.prog 57 #[.int .i64 z] W fun e w' => e = .returned (.bool false) ∧ w' = W) := fun z W => nan_any z W
  by_cases h1 : x < y
  · have HR : Hid (cmpI x y = -1) := by show cmpI x y = -1; unfold cmpI; rw [if_pos h1]
    go_enter Try.func45, Try.ntmps45
    go_wp2_with (go_at_call 57; refine (H1.out _ _).mono ?_; rintro e w' ⟨rfl, rfl⟩)
    go_ret
    exact ⟨by rw [HR.out]; rfl, rfl⟩
  by_cases h2 : y < x
  · have HR : Hid (cmpI x y = 1) := by show cmpI x y = 1; unfold cmpI; rw [if_neg h1, if_pos h2]
    go_enter Try.func45, Try.ntmps45
    go_wp2_with (go_at_call 57; refine (H1.out _ _).mono ?_; rintro e w' ⟨rfl, rfl⟩)
    go_ret
    exact ⟨by rw [HR.out]; rfl, rfl⟩
  · have HR : Hid (cmpI x y = 0) := by show cmpI x y = 0; unfold cmpI; rw [if_neg h1, if_neg h2]
    go_enter Try.func45, Try.ntmps45
    go_wp2_with (go_at_call 57; refine (H1.out _ _).mono ?_; rintro e w' ⟨rfl, rfl⟩)
    go_ret
    exact ⟨by rw [HR.out]; rfl, rfl⟩

set_option maxRecDepth 100000 in
theorem or_any (g : Nat) (a b : Int) (w : World) (h0 : w.cell? ⟨g, 0, none⟩ = some (.int .i64 a)) (h1 : w.cell? ⟨g, 1, none⟩ = some (.int .i64 b)) : Calls Try.prog 44 #[.slice (some ⟨g, 0, none⟩) 2 2] w fun e w' => e = .returned (.int .i64 (orI a b)) ∧ w' = w := by
  have H0 : Hid (w.cell? ⟨g, 0, none⟩ = some (.int .i64 a)) := h0
  have H1 : Hid (w.cell? ⟨g, 1, none⟩ = some (.int .i64 b)) := h1
  clear h0 h1
  go_enter Try.func44, Try.ntmps44
  go_upto_region 3 with fail
  go_loopg [8] 2 (fun gm v8 wr => ∃ i : Nat, v8 = .int .i64 (i : Int) ∧ Hid (wr = w) ∧ Hid (i ≤ 2 ∧ gm = 2 - i) ∧ Hid (0 < i → a = 0) ∧ Hid (1 < i → b = 0))
  case atStart => exact ⟨0, rfl, rfl, ⟨Nat.zero_le _, rfl⟩, fun h => absurd h (Nat.lt_irrefl _), fun h => absurd h (by decide)⟩
  case round =>
    obtain ⟨i, rfl, HW, HI, HA, HB⟩ := hrel
    obtain rfl := HW.out
    clear HW
    match i, HI, HA, HB with
    | 0, HI, HA, HB =>
      have k0 := H0.out
      by_cases ha : a = 0
      · subst ha
        go_wp2_with fail
        go_roundg 1
        case measure => have := HI.out; omega
        case rel => exact ⟨1, rfl, rfl, ⟨by decide, rfl⟩, fun _ => trivial, fun h => absurd h (by decide)⟩
      · have d : (a == 0) = false := by rw [beq_eq_false_iff_ne]; exact ha
        have HR : Hid (orI a b = a) := by show orI a b = a; unfold orI; rw [if_neg ha]
        go_wp2_with fail
        go_ret
        exact ⟨by rw [HR.out]; rfl, rfl⟩
    | 1, HI, HA, HB =>
      have k1 := H1.out
      have HZ : Hid (a = 0) := HA.out (by decide)
      by_cases hb : b = 0
      · subst hb
        go_wp2_with fail
        go_roundg 0
        case measure => have := HI.out; omega
        case rel => exact ⟨2, rfl, rfl, ⟨by decide, rfl⟩, fun _ => HZ.out, fun _ => trivial⟩
      · have d : (b == 0) = false := by rw [beq_eq_false_iff_ne]; exact hb
        have HR : Hid (orI a b = b) := by show orI a b = b; unfold orI; rw [if_pos HZ.out]
        go_wp2_with fail
        go_ret
        exact ⟨by rw [HR.out]; rfl, rfl⟩
    | 2, HI, HA, HB =>
      have HR : Hid (orI a b = 0) := by show orI a b = 0; unfold orI; rw [if_pos (HA.out (by decide))]; exact HB.out (by decide)
      go_wp2_with fail
      go_ret
      exact ⟨by rw [HR.out]; rfl, rfl⟩
    | i + 3, HI, HA, HB => exact absurd HI.out.1 (by omega)

/-- Two folds compared. -/
def cmpF (x y : Fd) : Int := orI (cmpI (x.1 : Int) (y.1 : Int)) (cmpI (y.2 : Int) (x.2 : Int))
/-- A fold's cells. -/
def fdf (x : Fd) : List Value := [.int .i64 (x.1 : Int), .int .i64 (x.2 : Int)]

set_option maxRecDepth 100000 in
set_option maxHeartbeats 4000000 in
theorem clo0 (x0 x1 y0 y1 : Int) (w : World) : Calls Try.prog 43 #[.agg #[.int .i64 x0, .int .i64 x1], .agg #[.int .i64 y0, .int .i64 y1]] w fun e w' => e = .returned (.int .i64 (orI (cmpI x0 y0) (cmpI y1 x1))) ∧ ∃ q os', w' = Go.Sort.grow (w.drewN q) os' := by
  obtain ⟨W1, hW1⟩ : ∃ W1, W1 = (w.alloc (.cells #[.int .i64 x0, .int .i64 x1] 57)).alloc (.cells #[.int .i64 y0, .int .i64 y1] 57) := ⟨_, rfl⟩
  have HX : Hid (W1.heap[w.heap.size]? = some (.cells #[.int .i64 x0, .int .i64 x1] 57 (0, 0)) ∧ W1.heap[w.heap.size + 1]? = some (.cells #[.int .i64 y0, .int .i64 y1] 57 (0, 0))) := by
    have e1 := heap_new w (.cells #[.int .i64 x0, .int .i64 x1] 57)
    have e2 := heap_new (w.alloc (.cells #[.int .i64 x0, .int .i64 x1] 57)) (.cells #[.int .i64 y0, .int .i64 y1] 57)
    rw [World.size_alloc] at e2
    rw [hW1]
    exact ⟨((bel_up _ _).block _ (lt_of_heap e1)).trans e1, e2⟩
  have HW1 : Hid (W1 = (w.alloc (.cells #[.int .i64 x0, .int .i64 x1] 57)).alloc (.cells #[.int .i64 y0, .int .i64 y1] 57)) := hW1
  go_enter Try.func43, Try.ntmps43
  go_upto_region 1 with fail
  rw [← hW1]
  clear hW1
  obtain ⟨gb, hgb⟩ : ∃ gb, w.heap.size = gb := ⟨_, rfl⟩
  rw [hgb] at HX ⊢
  clear hgb
  obtain ⟨rb, hrb⟩ : ∃ rb, gb + 1 = rb := ⟨_, rfl⟩
  rw [hrb] at HX ⊢
  clear hrb
  obtain ⟨WD, hWD⟩ : ∃ WD, W1.drew = WD := ⟨_, rfl⟩
  have HWD : Hid (W1.drew = WD) := hWD
  have BD : Hid (Below W1.heap.size W1 WD) := by rw [← hWD]; exact Below.drew (Below.refl _ _)
  have HS : Hid (WD.cell? ⟨gb, 0, none⟩ = some (.int .i64 x0) ∧ WD.cell? ⟨gb, 1, none⟩ = some (.int .i64 x1) ∧ WD.cell? ⟨rb, 0, none⟩ = some (.int .i64 y0) ∧ WD.cell? ⟨rb, 1, none⟩ = some (.int .i64 y1)) := ⟨below_cell BD.out (rcell HX.out.1 0 _ rfl), below_cell BD.out (rcell HX.out.1 1 _ rfl), below_cell BD.out (rcell HX.out.2 0 _ rfl), below_cell BD.out (rcell HX.out.2 1 _ rfl)⟩
  refine wp_region_noPanic ?_
  refine wp_region_held_drew (S := fun W => W.cell? ⟨gb, 0, none⟩ = some (.int .i64 x0) ∧ W.cell? ⟨gb, 1, none⟩ = some (.int .i64 x1) ∧ W.cell? ⟨rb, 0, none⟩ = some (.int .i64 y0) ∧ W.cell? ⟨rb, 1, none⟩ = some (.int .i64 y1)) (by kernel_rfl) (by rw [hWD]; exact HS.out) (fun hHeld => ?_)
  rw [hWD] at hHeld ⊢
  clear hWD
  refine wpAnyH_take (i := 0) (oi := { dst := _, op := _, type := _, pos := _, after := _, guard := _ }) (v := ?_) rfl (by kernel_rfl) (by kernel_rfl) (by kernel_rfl) (fun _ _ _ h => h) (Or.inl ⟨by rfl, ?_⟩) (by assumption) ?_
  rotate_left
  · intro W hSw
    (try dsimp only at hSw)
    go_simp
    (try with_reducible rfl)
  try simp only [Act.put, List.setIfInBounds_toArray, List.set_cons_zero, List.set_cons_succ]
  refine wpAnyH_take (i := 1) (oi := { dst := _, op := _, type := _, pos := _, after := _, guard := _ }) (v := ?_) rfl (by kernel_rfl) (by kernel_rfl) (by kernel_rfl) (fun _ _ _ h => h) (Or.inl ⟨by rfl, ?_⟩) (by assumption) ?_
  rotate_left
  · intro W hSw
    (try dsimp only at hSw)
    go_simp
    (try with_reducible rfl)
  try simp only [Act.put, List.setIfInBounds_toArray, List.set_cons_zero, List.set_cons_succ]
  refine wpAnyH_take (i := 2) (oi := { dst := _, op := _, type := _, pos := _, after := _, guard := _ }) (v := ?_) rfl (by kernel_rfl) (by kernel_rfl) (by kernel_rfl) (fun _ _ _ h => h) (Or.inl ⟨by rfl, ?_⟩) (by assumption) ?_
  rotate_left
  · intro W hSw
    (try dsimp only at hSw)
    go_simp
    (try with_reducible rfl)
  try simp only [Act.put, List.setIfInBounds_toArray, List.set_cons_zero, List.set_cons_succ]
  refine wpAnyH_take (i := 3) (oi := { dst := _, op := _, type := _, pos := _, after := _, guard := _ }) (v := ?_) rfl (by kernel_rfl) (by kernel_rfl) (by kernel_rfl) (fun _ _ _ h => h) (Or.inl ⟨by rfl, ?_⟩) (by assumption) ?_
  rotate_left
  · intro W hSw
    (try dsimp only at hSw)
    go_simp
    (try with_reducible rfl)
  try simp only [Act.put, List.setIfInBounds_toArray, List.set_cons_zero, List.set_cons_succ]
  refine wpAnyH_take (i := 5) (oi := { dst := _, op := _, type := _, pos := _, after := _, guard := _ }) (v := ?_) rfl (by kernel_rfl) (by kernel_rfl) (by kernel_rfl) (fun _ _ _ h => h) (Or.inl ⟨by rfl, ?_⟩) (by assumption) ?_
  rotate_left
  · intro W hSw
    (try dsimp only at hSw)
    go_simp
    (try with_reducible rfl)
  try simp only [Act.put, List.setIfInBounds_toArray, List.set_cons_zero, List.set_cons_succ]
  refine wpAnyH_take (i := 6) (oi := { dst := _, op := _, type := _, pos := _, after := _, guard := _ }) (v := ?_) rfl (by kernel_rfl) (by kernel_rfl) (by kernel_rfl) (fun _ _ _ h => h) (Or.inl ⟨by rfl, ?_⟩) (by assumption) ?_
  rotate_left
  · intro W hSw
    (try dsimp only at hSw)
    go_simp
    (try with_reducible rfl)
  try simp only [Act.put, List.setIfInBounds_toArray, List.set_cons_zero, List.set_cons_succ]
  refine wpAnyH_take (i := 7) (oi := { dst := _, op := _, type := _, pos := _, after := _, guard := _ }) (v := ?_) rfl (by kernel_rfl) (by kernel_rfl) (by kernel_rfl) (fun _ _ _ h => h) (Or.inl ⟨by rfl, ?_⟩) (by assumption) ?_
  rotate_left
  · intro W hSw
    (try dsimp only at hSw)
    go_simp
    (try with_reducible rfl)
  try simp only [Act.put, List.setIfInBounds_toArray, List.set_cons_zero, List.set_cons_succ]
  refine wpAnyH_take (i := 8) (oi := { dst := _, op := _, type := _, pos := _, after := _, guard := _ }) (v := ?_) rfl (by kernel_rfl) (by kernel_rfl) (by kernel_rfl) (fun _ _ _ h => h) (Or.inl ⟨by rfl, ?_⟩) (by assumption) ?_
  rotate_left
  · intro W hSw
    (try dsimp only at hSw)
    go_simp
    (try with_reducible rfl)
  try simp only [Act.put, List.setIfInBounds_toArray, List.set_cons_zero, List.set_cons_succ]
  refine wpAnyH_ready (rs := [4]) (by kernel_rfl) (by simp) ?_
  refine AllReadyH.cons (o := { dst := _, op := _, type := _, pos := _, after := _, guard := _ }) rfl (fun K hK => ?_) AllReadyH.nil
  go_simp
  go_at_call 45
  refine (cmp_any _ _ _).mono ?_
  rintro e wq ⟨rfl, hq⟩
  rw [hq]
  clear hq wq
  refine hK.out _ _ ?_ (fun hHeld => ?_)
  · exact HS.out
  clear hK K
  try simp only [Act.put, List.setIfInBounds_toArray, List.set_cons_zero, List.set_cons_succ]
  refine wpAnyH_ready (rs := [9]) (by kernel_rfl) (by simp) ?_
  refine AllReadyH.cons (o := { dst := _, op := _, type := _, pos := _, after := _, guard := _ }) rfl (fun K hK => ?_) AllReadyH.nil
  go_simp
  go_at_call 45
  refine (cmp_any _ _ _).mono ?_
  rintro e wq ⟨rfl, hq⟩
  rw [hq]
  clear hq wq
  refine hK.out _ _ ?_ (fun hHeld => ?_)
  · exact HS.out
  clear hK K
  try simp only [Act.put, List.setIfInBounds_toArray, List.set_cons_zero, List.set_cons_succ]
  refine wpAnyH_ready (rs := [10]) (by kernel_rfl) (by simp) ?_
  refine AllReadyH.cons (o := { dst := _, op := _, type := _, pos := _, after := _, guard := _ }) rfl (fun K hK => ?_) AllReadyH.nil
  go_simp
  obtain ⟨W4, hW4⟩ : ∃ W4, W4 = WD.alloc (.cells #[.int .i64 (cmpI x0 y0), .int .i64 (cmpI y1 x1)] 3) := ⟨_, rfl⟩
  have B4 : Hid (Below WD.heap.size WD W4) := by rw [hW4]; exact bel_up _ _
  have H4 : Hid (W4.heap[WD.heap.size]? = some (.cells #[.int .i64 (cmpI x0 y0), .int .i64 (cmpI y1 x1)] 3 (0, 0))) := by rw [hW4]; exact heap_new WD _
  have HW4 : Hid (W4 = WD.alloc (.cells #[.int .i64 (cmpI x0 y0), .int .i64 (cmpI y1 x1)] 3)) := hW4
  rw [← hW4]
  clear hW4
  refine hK.out _ _ ?_ (fun hHeld => ?_)
  · exact ⟨below_cell B4.out HS.out.1, below_cell B4.out HS.out.2.1, below_cell B4.out HS.out.2.2.1, below_cell B4.out HS.out.2.2.2⟩
  clear hK K
  try simp only [Act.put, List.setIfInBounds_toArray, List.set_cons_zero, List.set_cons_succ]
  refine wpAnyH_ready (rs := [11]) (by kernel_rfl) (by simp) ?_
  refine AllReadyH.cons (o := { dst := _, op := _, type := _, pos := _, after := _, guard := _ }) rfl (fun K hK => ?_) AllReadyH.nil
  go_simp
  go_at_call 44
  refine (or_any WD.heap.size (cmpI x0 y0) (cmpI y1 x1) W4 (rcell H4.out 0 _ rfl) (rcell H4.out 1 _ rfl)).mono ?_
  rintro e wq ⟨rfl, hq⟩
  rw [hq]
  clear hq wq
  refine hK.out _ _ ?_ (fun hHeld => ?_)
  · exact ⟨below_cell B4.out HS.out.1, below_cell B4.out HS.out.2.1, below_cell B4.out HS.out.2.2.1, below_cell B4.out HS.out.2.2.2⟩
  clear hK K
  try simp only [Act.put, List.setIfInBounds_toArray, List.set_cons_zero, List.set_cons_succ]
  refine wpAnyH_take (i := 12) (oi := { dst := _, op := _, type := _, pos := _, after := _, guard := _ }) (v := ?_) rfl (by kernel_rfl) (by kernel_rfl) (by kernel_rfl) (fun _ _ _ h => h) (Or.inl ⟨by rfl, ?_⟩) (by assumption) ?_
  rotate_left
  · intro W hSw
    (try dsimp only at hSw)
    go_simp
    (try with_reducible rfl)
  try simp only [Act.put, List.setIfInBounds_toArray, List.set_cons_zero, List.set_cons_succ]
  refine wpAnyH_done (by kernel_rfl) ?_ _
  refine NoPanic.normal ?_
  clear hHeld
  go_wp2_with fail
  go_ret
  refine ⟨by rfl, 1, (#[Obj.cells #[.int .i64 x0, .int .i64 x1] 57] ++ #[Obj.cells #[.int .i64 y0, .int .i64 y1] 57]) ++ #[Obj.cells #[.int .i64 (cmpI x0 y0), .int .i64 (cmpI y1 x1)] 3], ?_⟩
  rw [HW4.out, ← HWD.out, HW1.out, Go.Sort.alloc_eq_grow, Go.Sort.alloc_eq_grow, Go.Sort.alloc_eq_grow, Go.Sort.grow_grow, Go.Sort.drew_grow, Go.Sort.grow_grow]
  rfl

theorem clo_any (x y : Fd) (w : World) : Calls Try.prog 43 #[.agg (fdf x).toArray, .agg (fdf y).toArray] w fun e w' => e = .returned (.int .i64 (cmpF x y)) ∧ ∃ q os', w' = Go.Sort.grow (w.drewN q) os' := clo0 x.1 x.2 y.1 y.2 w

end Go.Proofs.Yticheeacbajeeaa
namespace Go.Proofs.Yticheeacbajeeaa
open Go.RowKit Go.Maps

theorem fdf_len (x : Fd) : (fdf x).length = 2 := rfl
theorem fdf_one (x : Fd) : ∀ v ∈ fdf x, v.oneCell' = true := by
  intro v hv
  unfold fdf at hv
  rcases List.mem_cons.1 hv with rfl | hv
  · rfl
  rcases List.mem_cons.1 hv with rfl | hv
  · rfl
  cases hv
theorem fdf_get (l : List Fd) (i : Nat) (h : i < l.length) : (flat fdf l)[i * 2]? = some (.int .i64 ((l.getD i fdz).1 : Int)) ∧ (flat fdf l)[i * 2 + 1]? = some (.int .i64 ((l.getD i fdz).2 : Int)) :=
  ⟨flat_get fdf_len fdz l i 0 h (by decide), flat_get fdf_len fdz l i 1 h (by decide)⟩

theorem flatK_flat (D : List Fd) : Go.Sort.flatK fdf 2 D.toArray = (flat fdf D).toArray := by
  refine Go.Sort.ext_get! ?_ fun t ht => ?_
  · rw [Go.Sort.size_flatK, List.size_toArray, List.size_toArray, flat_len fdf_len]
  · have ht' : t < D.length * 2 := by rw [Go.Sort.size_flatK, List.size_toArray] at ht; exact ht
    rw [Go.Sort.get_flatK _ _ _ t (by rw [List.size_toArray]; exact ht')]
    have hi : t / 2 < D.length := by omega
    have h1 := flat_get fdf_len fdz D (t / 2) (t % 2) hi (Nat.mod_lt _ (by decide))
    rw [show t / 2 * 2 + t % 2 = t by omega] at h1
    have hl : t < (flat fdf D).length := by rw [flat_len fdf_len]; exact ht'
    have hm : t % 2 < (fdf D[t / 2]).length := by rw [fdf_len]; exact Nat.mod_lt _ (by decide)
    have e1 : (flat fdf D).toArray[t]! = (flat fdf D)[t] := by rw [getElem!_pos _ t (by rw [List.size_toArray]; exact hl)]; rfl
    have e2 : D.toArray[t / 2]! = D[t / 2] := by rw [getElem!_pos _ (t / 2) (by rw [List.size_toArray]; exact hi)]; rfl
    rw [e1, e2, getElem!_pos _ (t % 2) hm]
    rw [List.getElem?_eq_getElem hl, List.getD_eq_getElem?_getD, List.getElem?_eq_getElem hi, Option.getD_some, List.getElem?_eq_getElem hm] at h1
    exact (Option.some.inj h1).symm

/-- A sort's world, by the row: it holds the new one, all else below is as it was. -/
theorem sorted_world {B g n cap m : Nat} {w : World} {G D : List Fd} {os : Array Obj} (h : w.ownsRow B 57 2 (.slice (some ⟨g, 0, none⟩) n cap) n (flat fdf G)) (hd : D.length = n) :
    (Go.Proofs.sortWorldK fdf 2 w g 0 m D.toArray os).ownsRow B 57 2 (.slice (some ⟨g, 0, none⟩) n cap) n (flat fdf D) ∧ Below B w (Go.Proofs.sortWorldK fdf 2 w g 0 m D.toArray os) := by
  obtain ⟨hl, ho⟩ := h
  rcases ho with ⟨hv, -⟩ | ⟨g', cap', cur, hv, hB, hh, h1, h2, h3, h4⟩
  · cases hv
  · obtain ⟨ha, -, hc⟩ := Value.slice.inj hv
    obtain ⟨rfl, -, -⟩ := Addr.mk.inj (Option.some.inj ha)
    obtain rfl := hc
    have hlt : g < w.heap.size := lt_of_heap hh
    have hblk : (Go.Proofs.sortWorldK fdf 2 w g 0 m D.toArray os).heap[g]? = some (.cells (Go.Sort.putCells id 0 (Go.Sort.flatK fdf 2 D.toArray) cur) 57 (0, 0)) := by
      unfold Go.Proofs.sortWorldK Go.Sort.grow Go.Sort.putRowK Go.Sort.putRow Go.Sort.mapBlock
      dsimp only
      rw [Array.getElem?_append_left (by rw [Array.size_modify]; exact hlt), Array.getElem?_modify, if_pos rfl, Go.Sort.heap_ahead, hh]
      rfl
    refine ⟨⟨by rw [flat_len fdf_len, hd], .inr ⟨g, cap, _, rfl, hB, hblk, h1, h2, ?_, ?_⟩⟩, ?_⟩
    · unfold Go.Sort.putCells
      rw [Array.size_mapIdx]
      exact h3
    · apply List.ext_getElem?
      intro t
      have hsz : (Go.Sort.putCells id 0 (Go.Sort.flatK fdf 2 D.toArray) cur).size = cap * 2 := by unfold Go.Sort.putCells; rw [Array.size_mapIdx]; exact h3
      have hle : n * 2 ≤ cap * 2 := Nat.mul_le_mul_right 2 h1
      by_cases ht : t < n * 2
      · rw [List.getElem?_take_of_lt ht]
        have hsd : (flat fdf D).length = n * 2 := by rw [flat_len fdf_len, hd]
        rw [Array.getElem?_toList]
        unfold Go.Sort.putCells
        rw [Array.getElem?_mapIdx, Array.getElem?_eq_getElem (by rw [h3]; omega), Option.map_some]
        rw [flatK_flat, List.size_toArray, if_pos ⟨Nat.zero_le _, by omega⟩, List.getElem?_eq_getElem (by omega)]
        rw [Nat.sub_zero, getElem!_pos _ t (by rw [List.size_toArray]; omega)]
        rfl
      · rw [List.getElem?_eq_none (by rw [List.length_take]; omega), List.getElem?_eq_none (by rw [flat_len fdf_len, hd]; omega)]
    · refine ⟨rfl, rfl, rfl, ?_, fun k hk => ?_⟩
      · unfold Go.Proofs.sortWorldK Go.Sort.grow Go.Sort.putRowK Go.Sort.putRow Go.Sort.mapBlock
        simp
      · unfold Go.Proofs.sortWorldK Go.Sort.grow Go.Sort.putRowK Go.Sort.putRow Go.Sort.mapBlock
        dsimp only
        rw [Array.getElem?_append_left (by rw [Array.size_modify]; show k < w.heap.size; omega), Array.getElem?_modify, if_neg (by omega)]
        rfl

/-- An owned row holds its groups, in the sort's words. -/
theorem holdsK_own {B g n cap : Nat} {w : World} {G : List Fd} (h : w.ownsRow B 57 2 (.slice (some ⟨g, 0, none⟩) n cap) n (flat fdf G)) (hn : G.length = n) : Go.Sort.HoldsK fdf 2 w g 0 G.toArray := by
  intro j hj
  rw [Go.Sort.size_flatK, List.size_toArray, hn] at hj
  have hl : j < (flat fdf G).length := by rw [flat_len fdf_len, hn]; exact hj
  refine ⟨?_, by rw [Nat.zero_add]; exact h.frozenAt j⟩
  rw [Nat.zero_add, h.cellAt j hj, flatK_flat, getElem!_pos _ j (by rw [List.size_toArray]; exact hl), List.getElem?_eq_getElem hl]
  rfl

end Go.Proofs.Yticheeacbajeeaa
