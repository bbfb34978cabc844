import Derived.Test.YtbkhhegmmkcbbaaDoorSsp
import Derived.Test.YtbkhhegmmkcbbaaDoorSpv
namespace Go.Proofs.YtbkhhegmmkcbbaaDoor
open Go.RowKit Go.Maps

theorem pth_no {t : List Nd} {z : Int} (h : ∀ n ∈ t, cvr n z = false) : ∀ f a k : Nat, pth t z f a k [] = []
  | 0, _, _ => rfl
  | f + 1, a, k => by
    unfold pth
    split
    · rfl
    · have e : cvr (t.getD a ndd) z = false := by
        by_cases ha : a < t.length
        · exact h _ (mem_getD t ndd a ha)
        · rw [List.getD_eq_getElem?_getD, List.getElem?_eq_none (by omega)]
          show (decide ((0 : Int) ≤ z) && decide (z < (0 : Int))) = false
          by_cases h0 : (0 : Int) ≤ z
          · rw [decide_eq_false (p := z < 0) (by omega), Bool.and_false]
          · rw [decide_eq_false h0]; rfl
      rw [if_neg (by rw [e]; decide)]
      exact pth_no h f _ _
theorem pat_no {t : List Nd} {z : Int} (h : ∀ n ∈ t, cvr n z = false) : pat t z = [] := by
  unfold pat
  split
  · rfl
  · exact pth_no h _ _ _
/-- The class of a byte. -/
def cz (C : ByteArray → Option ByteArray) (T : List Nd) (z : Int) : ByteArray := if z < 0 then ⟨#[]⟩ else pcl C T ⟨#[]⟩ (pat T z)
theorem cls_cz (L : List Pa) (T : List Nd) (z : Int) : cls L T z = cz (lcl L) T z := by
  unfold cls cz
  split
  · rfl
  · exact clr_pcl L T _
def fz (A : List Ar) (z : Int) : ByteArray := ((A.find? (hsa z)).map Ar.cl).getD ⟨#[]⟩
theorem fz_some {A : List Ar} {z : Int} (h : fz A z ≠ ⟨#[]⟩) : ∃ a ∈ A, a.fr ≤ z ∧ z < a.tt := by
  unfold fz at h
  cases hf : A.find? (hsa z) with
  | none => rw [hf] at h; exact absurd rfl h
  | some a =>
    have h2 := List.find?_some hf
    unfold hsa at h2
    rw [decide_eq_true_eq] at h2
    exact ⟨a, List.mem_of_find?_eq_some hf, h2.1, h2.2⟩
theorem ars_yes {C : ByteArray → Option ByteArray} {T : List Nd} {r : Nat} (hr : rt (kds T) = some r) (hb : T.length ≤ 1152921504606846976) : (ars C T).2.length = 1 ∧ (∀ x ∈ (ars C T).1, 0 ≤ x.fr ∧ x.tt ≤ 9223372036854775807) ∧ ∀ z, 0 ≤ z → z < 9223372036854775807 → fz (ars C T).1 z = pcl C T ⟨#[]⟩ (pat T z) := by
  have hF : Fo (kds T) := ⟨r, hr⟩
  have hp : ∀ z, pat T z = pth T z (T.length + 1) 0 r [] := fun z => by unfold pat; rw [hr]
  cases r with
  | zero =>
    have hT : T = [] := by
      cases T with
      | nil => rfl
      | cons x T => have := rt_pos hr (by simp [kds]); omega
    subst hT
    exact ⟨rfl, fun x hx => (by cases hx), fun z _ _ => (by rw [hp z, pth_zero]; rfl)⟩
  | succ k =>
    obtain ⟨A, h1, h2, h3⟩ := seg (C := C) hF hb (T.length + 1) 0 k 0 ⟨0, 9223372036854775807, ⟨#[]⟩⟩ [] [] (by omega) (Nat.zero_le _) (by rw [Fo.top hr]; exact Nat.le_refl _) (fun j hj hj2 => by
      have := rt_le _ _ hr
      rw [kds_len] at this
      rw [IntKind.wrap_i64]; omega)
    have hw := Fo.whole hF
    rw [Fo.top hr, kds_len] at hw
    rw [hw, List.drop_length, List.drop_zero] at h1
    have e : ars C T = (A, [⟨⟨0, 9223372036854775807, ⟨#[]⟩⟩, IntKind.i64.wrap (0 - ((k : Int) + 1))⟩]) := h1
    rw [e]
    refine ⟨rfl, h2, fun z h0 h9 => ?_⟩
    rw [hp z, ← h3 z (by unfold hsa; rw [decide_eq_true_eq]; exact ⟨h0, h9⟩)]; rfl
theorem ars_no {C : ByteArray → Option ByteArray} {T : List Nd} (hr : rt (kds T) = none) (hb : T.length ≤ 1152921504606846976) (hK : ∀ n ∈ T, inI n.kd) : (ars C T).2.length ≠ 1 := by
  obtain ⟨pre, x, l', q, e, h1, h2⟩ := rt_fail _ hr
  unfold kds at e
  obtain ⟨T1, T', rfl, -, e2⟩ := List.map_eq_append_iff.1 e
  obtain ⟨n, T2, rfl, hn, e3⟩ := List.map_eq_cons_iff.1 e2
  unfold ars
  rw [List.foldl_append, List.foldl_cons]
  have hne := fold_ne C T1 ar0 (List.cons_ne_nil _ _)
  obtain ⟨S, hS⟩ : ∃ S, T1.foldl (pstep C) ar0 = S := ⟨_, rfl⟩
  rw [hS] at hne ⊢
  obtain ⟨out, stk⟩ := S
  have hx := hK n (by simp)
  unfold inI at hx
  rw [← hn] at h2
  have hb2 : T2.length + 1 ≤ 1152921504606846976 := by simp only [List.length_append, List.length_cons] at hb; omega
  cases stk with
  | nil => exact absurd rfl hne
  | cons t R =>
    have e4 : pstep C (out, t :: R) n = (out, ⟨own1 C t.ar n, n.kd⟩ :: ⟨t.ar, dec1 t.lf⟩ :: R) := by
      show popr out (⟨own1 C t.ar n, n.kd⟩ :: ⟨t.ar, dec1 t.lf⟩ :: R) = _
      rw [popr_stay _ _ _ (by show n.kd ≠ 0; omega)]
    rw [e4]
    have h1' : rt (kds T2) = some q := by unfold kds; rw [e3]; exact h1
    cases q with
    | zero =>
      have hT : T2 = [] := by
        cases T2 with
        | nil => rfl
        | cons y T2 => have := rt_pos h1' (by simp [kds]); omega
      subst hT
      show R.length + 1 + 1 ≠ 1
      omega
    | succ k =>
      have hF : Fo (kds T2) := ⟨k + 1, h1'⟩
      have hle := rt_le _ _ h1'
      rw [kds_len] at hle
      obtain ⟨A, g1, -, -⟩ := seg (C := C) hF (by omega) (T2.length + 1) 0 k n.kd (own1 C t.ar n) (⟨t.ar, dec1 t.lf⟩ :: R) out (by omega) (Nat.zero_le _) (by rw [Fo.top h1']; exact Nat.le_refl _) (fun j hj hj2 => by rw [IntKind.wrap_i64]; omega)
      have hw := Fo.whole hF
      rw [Fo.top h1', kds_len] at hw
      rw [hw, List.drop_length, List.drop_zero, List.foldl_nil, popr_stay _ _ _ (by show IntKind.i64.wrap (n.kd - ((k : Int) + 1)) ≠ 0; rw [IntKind.wrap_i64]; omega)] at g1
      rw [g1]
      show R.length + 1 + 1 ≠ 1
      omega
theorem cts_lt (A : List Ar) : (cts A).Pairwise (· < ·) := by
  have tr : ∀ a b c : Int, (decide (a ≤ b)) = true → (decide (b ≤ c)) = true → (decide (a ≤ c)) = true := fun a b c h1 h2 => by rw [decide_eq_true_eq] at *; omega
  have tot : ∀ a b : Int, (decide (a ≤ b) || decide (b ≤ a)) = true := fun a b => by simp only [Bool.or_eq_true, decide_eq_true_eq]; omega
  have h1 := List.pairwise_mergeSort tr tot (ddp (eds A))
  have h2 := cts_nodup A
  refine (List.Pairwise.and h1 h2).imp fun {a b} h => ?_
  have h3 := h.1
  rw [decide_eq_true_eq] at h3
  have := h.2
  omega
theorem get_lt {P : List Int} (hP : P.Pairwise (· < ·)) {i j : Nat} (h : i < j) (hj : j < P.length) : P.getD i 0 < P.getD j 0 := by
  rw [List.getD_eq_getElem?_getD, List.getD_eq_getElem?_getD, List.getElem?_eq_getElem hj, List.getElem?_eq_getElem (by omega : i < P.length)]
  exact List.pairwise_iff_getElem.1 hP i j (by omega) hj h
theorem num_le_iff {P : List Int} (hP : P.Pairwise (· < ·)) {x : Int} (hx : x ∈ P) {c : Nat} (hc : c < P.length) : num P x ≤ c ↔ x ≤ P.getD c 0 := by
  have h1 := num_lt hx
  have h2 := num_get hx
  constructor
  · intro h
    rcases Nat.lt_or_ge (num P x) c with h3 | h3
    · have := get_lt hP h3 hc; omega
    · rw [← h2, show num P x = c by omega]; exact Int.le_refl _
  · intro h
    rcases Nat.lt_or_ge c (num P x) with h3 | h3
    · have := get_lt hP h3 h1; omega
    · exact h3
theorem find_congr' {α : Type} {p q : α → Bool} : ∀ {l : List α}, (∀ a ∈ l, p a = q a) → l.find? p = l.find? q
  | [], _ => rfl
  | a :: l, h => by
    rw [List.find?_cons, List.find?_cons, h a (List.mem_cons_self ..), find_congr' fun b hb => h b (List.mem_cons_of_mem _ hb)]
theorem eds_in {A : List Ar} {a : Ar} (h : a ∈ A) : a.fr ∈ cts A ∧ a.tt ∈ cts A := by
  rw [cts_mem, cts_mem]
  unfold eds
  exact ⟨List.mem_flatMap.2 ⟨a, h, List.mem_cons_self ..⟩, List.mem_flatMap.2 ⟨a, h, List.mem_cons_of_mem _ (List.mem_cons_self ..)⟩⟩
theorem fa_fz {A : List Ar} {c : Nat} {z : Int} (hc : c < (cts A).length) (h1 : (cts A).getD c 0 ≤ z) (h2 : c + 1 < (cts A).length → z < (cts A).getD (c + 1) 0) : fa A (cts A) c = fz A z := by
  have hP := cts_lt A
  have e : A.find? (fun a => decide (num (cts A) a.fr ≤ c ∧ c < num (cts A) a.tt)) = A.find? (hsa z) := by
    refine find_congr' fun a ha => ?_
    obtain ⟨k1, k2⟩ := eds_in ha
    have m1 := num_le_iff hP k1 hc
    have m2 := num_le_iff hP k2 hc
    have key : ∀ y, y ∈ cts A → (y ≤ (cts A).getD c 0 ↔ y ≤ z) := fun y hy => by
      constructor
      · intro h; omega
      · intro h
        have m3 := num_le_iff hP hy hc
        rcases Nat.lt_or_ge c (num (cts A) y) with h3 | h3
        · have h4 := num_lt hy
          have h5 := h2 (by omega)
          have m4 := num_le_iff hP hy (c := c + 1) (by omega)
          have h6 := num_get hy
          rcases Nat.lt_or_ge (c + 1) (num (cts A) y) with h7 | h7
          · have := get_lt hP h7 h4; omega
          · rw [show num (cts A) y = c + 1 by omega] at h6; omega
        · exact m3.1 h3
    unfold hsa
    have i1 := key _ k1
    have i2 := key _ k2
    congr 1
    apply propext
    constructor
    · intro h; exact ⟨i1.1 (m1.1 h.1), by have h3 : ¬(num (cts A) a.tt ≤ c) := by omega
                                          rw [m2, i2] at h3; omega⟩
    · intro h
      refine ⟨m1.2 (i1.2 h.1), ?_⟩
      have h3 : ¬(a.tt ≤ z) := by omega
      rw [← i2, ← m2] at h3; omega
  unfold fa fz
  rw [e]
  cases A.find? (hsa z) <;> rfl
end Go.Proofs.YtbkhhegmmkcbbaaDoor
