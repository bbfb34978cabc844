import Derived.Test.YtcmhbcfgikmblabGreatDoorQfh
namespace Go.Proofs.YtcmhbcfgikmblabGreatDoor.Qy
open Go.RowKit Go.Maps

/-- A place among the children of a node: the j-th child's, or the end. -/
def Wi (l : List Int) (e a : Nat) : Prop := ∃ v j, v < l.length ∧ j ≤ Tr.kA l v ∧ e = Tr.eA l v ∧ a = Tr.wA l (v + 1) j
theorem Wi.first {l : List Int} (v : Nat) (hv : v < l.length) : Wi l (Tr.eA l v) (v + 1) := ⟨v, 0, hv, Nat.zero_le _, rfl, by rw [Tr.wA_zero]⟩
theorem Wi.le {l : List Int} (h : Tr.Fo l) {e a : Nat} (hw : Wi l e a) : a ≤ e ∧ e ≤ l.length := by
  obtain ⟨v, j, hv, hj, rfl, rfl⟩ := hw
  obtain ⟨s1, s2, s3, s4⟩ := h.step v hv
  have h1 := h.mono (v + 1) j (Tr.kA l v) (by omega) hj s3
  rw [← h.eq v hv] at h1
  exact ⟨by omega, (h.elt v hv).2.1⟩
theorem Wi.next {l : List Int} (h : Tr.Fo l) {e a : Nat} (hw : Wi l e a) (ha : a < e) : Wi l e (Tr.eA l a) ∧ a < Tr.eA l a ∧ Tr.eA l a ≤ e ∧ a < l.length := by
  have hl := hw.le h
  obtain ⟨v, j, hv, hj, rfl, rfl⟩ := hw
  obtain ⟨s1, s2, s3, s4⟩ := h.step v hv
  have hjl : j < Tr.kA l v := by
    rcases Nat.lt_or_ge j (Tr.kA l v) with h9 | h9
    · exact h9
    · have : j = Tr.kA l v := by omega
      subst this
      rw [← h.eq v hv] at ha
      omega
  have h2 := h.next (v + 1) j (by omega)
  have h3 := h.elt _ (show Tr.wA l (v + 1) j < l.length by omega)
  have h4 : Wi l (Tr.eA l v) (Tr.eA l (Tr.wA l (v + 1) j)) := ⟨v, j + 1, hv, hjl, rfl, h2.symm⟩
  exact ⟨h4, h3.1, (h4.le h).1, by omega⟩
/-- With enough of it the fuel does not count. -/
theorem ft_fuel (P : List Pn) (T : List Tr.Nd) (hf : Tr.Fo (Tr.kds T)) : ∀ (n m : Nat),
    (∀ c v, v < T.length → 2 * (Tr.eA (Tr.kds T) v - v) ≤ n → 2 * (Tr.eA (Tr.kds T) v - v) ≤ m → ft P T n none [c] v = ft P T m none [c] v) ∧
    (∀ e L a, Wi (Tr.kds T) e a → 2 * (e - a) + 1 ≤ n → 2 * (e - a) + 1 ≤ m → ft P T n (some e) L a = ft P T m (some e) L a) := by
  have hkl := Tr.kds_len T
  intro n
  induction n with
  | zero =>
    intro m
    refine ⟨fun c v hv h1 _ => ?_, fun e L a _ h1 _ => by omega⟩
    have := (hf.elt v (by rw [hkl]; exact hv)).1
    omega
  | succ n ih =>
    intro m
    refine ⟨fun c v hv h1 h2 => ?_, fun e L a hw h1 h2 => ?_⟩
    · have h3 := (hf.elt v (by rw [hkl]; exact hv)).1
      cases m with
      | zero => omega
      | succ m =>
        unfold ft
        rw [(ih m).2 _ _ _ (Wi.first v (by rw [hkl]; exact hv)) (by omega) (by omega)]
    · cases m with
      | zero => omega
      | succ m =>
        cases L with
        | nil => unfold ft; rfl
        | cons c L =>
          unfold ft
          by_cases ha : a < e
          · obtain ⟨k1, k2, k3, k4⟩ := hw.next hf ha
            rw [hkl] at k4
            rw [if_pos ha, if_pos ha, (ih m).1 c a k4 (by omega) (by omega), (ih m).2 e L _ k1 (by omega) (by omega), (ih m).2 e (c :: L) _ k1 (by omega) (by omega)]
          · rw [if_neg ha, if_neg ha]
/-- A node of the pattern at a node. -/
def gN (P : List Pn) (T : List Tr.Nd) (c v : Nat) : Option (List Int) := ft P T (2 * (Tr.eA (Tr.kds T) v - v)) none [c] v
/-- Children of a pattern's node from a place on. -/
def gK (P : List Pn) (T : List Tr.Nd) (e : Nat) (L : List Nat) (a : Nat) : Option (List Int) := ft P T (2 * (e - a) + 1) (some e) L a
theorem gN_eq (P : List Pn) (T : List Tr.Nd) (hf : Tr.Fo (Tr.kds T)) (c v : Nat) (hv : v < T.length) : gN P T c v = if alk (P.getD c pz) (T.getD v Tr.ndd) then (gK P T (Tr.eA (Tr.kds T) v) (kN (pks P) c) (v + 1)).map ((v : Int) :: ·) else none := by
  have hkl := Tr.kds_len T
  have h3 := (hf.elt v (by rw [hkl]; exact hv)).1
  unfold gN gK
  obtain ⟨k, hk⟩ : ∃ k, 2 * (Tr.eA (Tr.kds T) v - v) = k + 1 := ⟨2 * (Tr.eA (Tr.kds T) v - v) - 1, by omega⟩
  rw [hk]
  show (if alk (P.getD c pz) (T.getD v Tr.ndd) then (ft P T k (some (Tr.eA (Tr.kds T) v)) (kN (pks P) c) (v + 1)).map ((v : Int) :: ·) else none) = _
  rw [(ft_fuel P T hf k (2 * (Tr.eA (Tr.kds T) v - (v + 1)) + 1)).2 _ _ _ (Wi.first v (by rw [hkl]; exact hv)) (by omega) (by omega)]
theorem gK_nil (P : List Pn) (T : List Tr.Nd) (e a : Nat) : gK P T e [] a = some [] := by unfold gK; rfl
theorem gK_out (P : List Pn) (T : List Tr.Nd) (e c : Nat) (L : List Nat) (a : Nat) (h : ¬ a < e) : gK P T e (c :: L) a = none := by unfold gK ft; rw [if_neg h]
theorem gK_hit (P : List Pn) (T : List Tr.Nd) (hf : Tr.Fo (Tr.kds T)) (e c : Nat) (L : List Nat) (a : Nat) (hw : Wi (Tr.kds T) e a) (h : a < e) (l : List Int) (hl : gN P T c a = some l) : gK P T e (c :: L) a = (gK P T e L (Tr.eA (Tr.kds T) a)).map (l ++ ·) := by
  obtain ⟨k1, k2, k3, k4⟩ := hw.next hf h
  rw [Tr.kds_len] at k4
  unfold gK
  conv => lhs; unfold ft
  rw [if_pos h, (ft_fuel P T hf _ (2 * (Tr.eA (Tr.kds T) a - a))).1 c a k4 (by omega) (by omega)]
  show (match gN P T c a with | some l => _ | none => _) = _
  rw [hl]
  show Option.map _ _ = _
  rw [(ft_fuel P T hf (2 * (e - a)) (2 * (e - Tr.eA (Tr.kds T) a) + 1)).2 e L _ k1 (by omega) (by omega)]
theorem gK_miss (P : List Pn) (T : List Tr.Nd) (hf : Tr.Fo (Tr.kds T)) (e c : Nat) (L : List Nat) (a : Nat) (hw : Wi (Tr.kds T) e a) (h : a < e) (hl : gN P T c a = none) : gK P T e (c :: L) a = gK P T e (c :: L) (Tr.eA (Tr.kds T) a) := by
  obtain ⟨k1, k2, k3, k4⟩ := hw.next hf h
  rw [Tr.kds_len] at k4
  unfold gK
  conv => lhs; unfold ft
  rw [if_pos h, (ft_fuel P T hf _ (2 * (Tr.eA (Tr.kds T) a - a))).1 c a k4 (by omega) (by omega)]
  show (match gN P T c a with | some l => _ | none => _) = _
  rw [hl]
  show ft P T (2 * (e - a)) (some e) (c :: L) _ = _
  rw [(ft_fuel P T hf (2 * (e - a)) (2 * (e - Tr.eA (Tr.kds T) a) + 1)).2 e (c :: L) _ k1 (by omega) (by omega)]
theorem gN_ft (P : List Pn) (T : List Tr.Nd) (hf : Tr.Fo (Tr.kds T)) (c v : Nat) (hv : v < T.length) : ft P T (2 * T.length + 1) none [c] v = gN P T c v := by
  have hkl := Tr.kds_len T
  have h3 := (hf.elt v (by rw [hkl]; exact hv)).2.1
  exact (ft_fuel P T hf _ _).1 c v hv (by omega) (Nat.le_refl _)
theorem gN_len (P : List Pn) (T : List Tr.Nd) (hp : Tr.Fo (pks P)) (c v : Nat) (l : List Int) (h : gN P T c v = some l) (hc : c < P.length) : l.length = Tr.eA (pks P) c - c := (ft_len P T hp _).1 c [] v l h hc
theorem gK_len (P : List Pn) (T : List Tr.Nd) (hp : Tr.Fo (pks P)) (e c j a : Nat) (l : List Int) (h : gK P T e (kF (pks P) c j) a = some l) (hc : c < P.length) (hj : j ≤ Tr.kA (pks P) c) : l.length = Tr.eA (pks P) c - Tr.wA (pks P) (c + 1) j := (ft_len P T hp _).2 e c j a l h hc hj
/-- Two rows of found places, the same outside of a part. -/
def Ag (F F' : List Int) (a b : Nat) : Prop := F'.length = F.length ∧ ∀ i, i < a ∨ b ≤ i → F'.getD i 0 = F.getD i 0
/-- A match stands in what has been found. -/
def Pt (F l : List Int) (a : Nat) : Prop := ∀ i, i < l.length → F.getD (a + i) 0 = l.getD i 0
theorem Ag.refl (F : List Int) (a b : Nat) : Ag F F a b := ⟨rfl, fun _ _ => rfl⟩
theorem Ag.trans {F G H : List Int} {a b c d x y : Nat} (h : Ag F G a b) (k : Ag G H c d) (h1 : x ≤ a) (h2 : b ≤ y) (h3 : x ≤ c) (h4 : d ≤ y) : Ag F H x y :=
  ⟨k.1.trans h.1, fun i hi => (k.2 i (by omega)).trans (h.2 i (by omega))⟩
theorem Ag.wide {F G : List Int} {a b x y : Nat} (h : Ag F G a b) (h1 : x ≤ a) (h2 : b ≤ y) : Ag F G x y := ⟨h.1, fun i hi => h.2 i (by omega)⟩
theorem Ag.set (F : List Int) (p : Nat) (z : Int) : Ag F (F.set p z) p (p + 1) := ⟨by simp, fun i hi => by
  rw [List.getD_eq_getElem?_getD, List.getElem?_set_ne (by omega), ← List.getD_eq_getElem?_getD]⟩
theorem Pt.nil (F : List Int) (a : Nat) : Pt F [] a := fun i hi => by simp at hi
theorem Pt.app {F l k : List Int} {a b : Nat} (h : Pt F l a) (h2 : Pt F k b) (hb : b = a + l.length) : Pt F (l ++ k) a := fun i hi => by
  subst hb
  by_cases hl : i < l.length
  · rw [h i hl, List.getD_eq_getElem?_getD, List.getD_eq_getElem?_getD, List.getElem?_append_left hl]
  · have h3 := h2 (i - l.length) (by rw [List.length_append] at hi; omega)
    rw [show a + l.length + (i - l.length) = a + i by omega] at h3
    rw [h3, List.getD_eq_getElem?_getD, List.getD_eq_getElem?_getD, List.getElem?_append_right (by omega)]
theorem Pt.keep {F G l : List Int} {a c d : Nat} (h : Pt F l a) (k : Ag F G c d) (hc : a + l.length ≤ c) : Pt G l a := fun i hi => by
  rw [k.2 _ (by omega)]; exact h i hi
theorem Pt.cons {F l : List Int} {p : Nat} {v : Int} (h0 : F.getD p 0 = v) (h : Pt F l (p + 1)) : Pt F (v :: l) p := fun i hi => by
  cases i with
  | zero => simpa using h0
  | succ i =>
    have h3 := h i (by simp at hi; omega)
    rw [show p + (i + 1) = p + 1 + i by omega, h3]
    simp
theorem Pt.all {F l : List Int} (h : Pt F l 0) (hl : l.length = F.length) : F = l := by
  refine List.ext_getElem hl.symm fun i h1 h2 => ?_
  have h3 := h i h2
  rw [Nat.zero_add] at h3
  simpa [List.getD_eq_getElem?_getD, List.getElem?_eq_getElem h1, List.getElem?_eq_getElem h2] using h3
/-- What is found are places. -/
theorem ft_mem (P : List Pn) (T : List Tr.Nd) (hf : Tr.Fo (Tr.kds T)) : ∀ (n : Nat),
    (∀ c cs v l, ft P T n none (c :: cs) v = some l → v < T.length → ∀ x ∈ l, ∃ b : Nat, x = (b : Int) ∧ b < T.length) ∧
    (∀ e L a l, ft P T n (some e) L a = some l → Wi (Tr.kds T) e a → ∀ x ∈ l, ∃ b : Nat, x = (b : Int) ∧ b < T.length) := by
  intro n
  induction n with
  | zero => exact ⟨fun c cs v l h => by simp [ft] at h, fun e L a l h => by simp [ft] at h⟩
  | succ n ih =>
    constructor
    · intro c cs v l h hv
      unfold ft at h
      split at h
      · cases hq : ft P T n (some (Tr.eA (Tr.kds T) v)) (kN (pks P) c) (v + 1) with
        | none => rw [hq] at h; simp at h
        | some k =>
          rw [hq] at h
          simp only [Option.map_some, Option.some.injEq] at h
          subst h
          intro x hx
          rcases List.mem_cons.1 hx with h1 | h1
          · exact ⟨v, h1, hv⟩
          · exact ih.2 _ _ _ k hq (Wi.first v (by rw [Tr.kds_len]; exact hv)) x h1
      · simp at h
    · intro e L a l h hw
      cases L with
      | nil =>
        unfold ft at h
        simp only [Option.some.injEq] at h
        subst h
        intro x hx; cases hx
      | cons c L =>
        unfold ft at h
        split at h
        · next ha =>
          obtain ⟨k1, k2, k3, k4⟩ := hw.next hf ha
          rw [Tr.kds_len] at k4
          cases hq : ft P T n none [c] a with
          | none =>
            rw [hq] at h
            exact ih.2 _ _ _ l h k1
          | some k =>
            rw [hq] at h
            simp only at h
            cases hr : ft P T n (some e) L (Tr.eA (Tr.kds T) a) with
            | none => rw [hr] at h; simp at h
            | some k2' =>
              rw [hr] at h
              simp only [Option.map_some, Option.some.injEq] at h
              subst h
              intro x hx
              rcases List.mem_append.1 hx with h1 | h1
              · exact ih.1 _ _ _ k hq k4 x h1
              · exact ih.2 _ _ _ k2' hr k1 x h1
        · simp at h
theorem gN_mem (P : List Pn) (T : List Tr.Nd) (hf : Tr.Fo (Tr.kds T)) (c v : Nat) (l : List Int) (h : gN P T c v = some l) (hv : v < T.length) : ∀ x ∈ l, ∃ b : Nat, x = (b : Int) ∧ b < T.length := (ft_mem P T hf _).1 c [] v l h hv
/-- What fits answers, and leaves in found. -/
def Nr (P : List Pn) (T : List Tr.Nd) (p v : Nat) (F G : List Int) : Prop := Ag F G p (Tr.eA (pks P) p) ∧ ∀ l, gN P T p v = some l → Pt G l p
def Kr (P : List Pn) (T : List Tr.Nd) (e p j a : Nat) (F G : List Int) : Prop := Ag F G (Tr.wA (pks P) (p + 1) j) (Tr.eA (pks P) p) ∧ ∀ l, gK P T e (kF (pks P) p j) a = some l → Pt G l (Tr.wA (pks P) (p + 1) j)
theorem Nr.of {P : List Pn} {T : List Tr.Nd} (hP : Tr.Fo (pks P)) (hT : Tr.Fo (Tr.kds T)) {p v : Nat} (hp : p < P.length) (hv : v < T.length) (ha : alk (P.getD p pz) (T.getD v Tr.ndd) = true) {F G : List Int} (hl : F.length = P.length) (h : Kr P T (Tr.eA (Tr.kds T) v) p 0 (v + 1) (F.set p (v : Int)) G) : Nr P T p v F G ∧ (gN P T p v).isSome = (gK P T (Tr.eA (Tr.kds T) v) (kF (pks P) p 0) (v + 1)).isSome := by
  have hpl : (pks P).length = P.length := by unfold pks; simp
  have h3 := (hP.elt p (by rw [hpl]; exact hp)).1
  have hg := gN_eq P T hT p v hv
  rw [if_pos ha] at hg
  obtain ⟨h1, h2⟩ := h
  rw [Tr.wA_zero] at h1 h2
  refine ⟨⟨(Ag.set F p (v : Int)).trans h1 (Nat.le_refl _) (by omega) (by omega) (Nat.le_refl _), fun l hl' => ?_⟩, by rw [hg]; unfold kF; rw [List.drop_zero]; simp⟩
  rw [hg] at hl'
  cases hq : gK P T (Tr.eA (Tr.kds T) v) (kN (pks P) p) (v + 1) with
  | none => rw [hq] at hl'; simp at hl'
  | some k =>
    rw [hq] at hl'
    simp only [Option.map_some, Option.some.injEq] at hl'
    subst hl'
    refine Pt.cons ?_ (h2 k (by unfold kF; rw [List.drop_zero]; exact hq))
    rw [h1.2 p (by omega), List.getD_eq_getElem?_getD, List.getElem?_set_self (by omega)]
    rfl
theorem Nr.no {P : List Pn} {T : List Tr.Nd} (hT : Tr.Fo (Tr.kds T)) {p v : Nat} (hv : v < T.length) (ha : alk (P.getD p pz) (T.getD v Tr.ndd) = false) (F : List Int) : Nr P T p v F F ∧ (gN P T p v).isSome = false := by
  have hg := gN_eq P T hT p v hv
  rw [ha] at hg
  simp only [Bool.false_eq_true, if_false] at hg
  exact ⟨⟨Ag.refl _ _ _, fun l h => by rw [hg] at h; cases h⟩, by rw [hg]; rfl⟩
theorem Kr.nil {P : List Pn} {T : List Tr.Nd} (e p a : Nat) (F : List Int) : Kr P T e p (Tr.kA (pks P) p) a F F ∧ (gK P T e (kF (pks P) p (Tr.kA (pks P) p)) a).isSome = true := by
  unfold Kr
  rw [kF_nil, gK_nil]
  exact ⟨⟨Ag.refl _ _ _, fun l h => by simp only [Option.some.injEq] at h; subst h; exact Pt.nil _ _⟩, rfl⟩
theorem Kr.out {P : List Pn} {T : List Tr.Nd} {e p j a : Nat} (hj : j < Tr.kA (pks P) p) (ha : ¬ a < e) (F : List Int) : Kr P T e p j a F F ∧ (gK P T e (kF (pks P) p j) a).isSome = false := by
  unfold Kr
  rw [kF_cons _ _ _ hj, gK_out P T e _ _ a ha]
  exact ⟨⟨Ag.refl _ _ _, fun l h => by cases h⟩, rfl⟩
theorem pat_in {P : List Pn} (hP : Tr.Fo (pks P)) {p j : Nat} (hp : p < P.length) (hj : j < Tr.kA (pks P) p) : Tr.wA (pks P) (p + 1) j < P.length ∧ Tr.wA (pks P) (p + 1) (j + 1) = Tr.eA (pks P) (Tr.wA (pks P) (p + 1) j) ∧ Tr.wA (pks P) (p + 1) j < Tr.eA (pks P) (Tr.wA (pks P) (p + 1) j) ∧ Tr.eA (pks P) (Tr.wA (pks P) (p + 1) j) ≤ Tr.eA (pks P) p := by
  have hpl : (pks P).length = P.length := by unfold pks; simp
  obtain ⟨h1, h2, h3, h4, h5, h6⟩ := (show Tr.Ch (pks P) p j (Tr.wA (pks P) (p + 1) j) from ⟨by rw [hpl]; exact hp, hj, rfl⟩).in hP
  rw [hpl] at h2
  exact ⟨h2, h6, h5, h3⟩
theorem Kr.miss {P : List Pn} {T : List Tr.Nd} (hP : Tr.Fo (pks P)) (hT : Tr.Fo (Tr.kds T)) {e p j a : Nat} (hp : p < P.length) (hj : j < Tr.kA (pks P) p) (hw : Wi (Tr.kds T) e a) (ha : a < e) {F G H : List Int} (h1 : Nr P T (Tr.wA (pks P) (p + 1) j) a F G) (hn : gN P T (Tr.wA (pks P) (p + 1) j) a = none) (h2 : Kr P T e p j (Tr.eA (Tr.kds T) a) G H) : Kr P T e p j a F H := by
  obtain ⟨q1, q2, q3, q4⟩ := pat_in hP hp hj
  have hg := gK_miss P T hT e _ (kF (pks P) p (j + 1)) a hw ha hn
  unfold Kr at h2 ⊢
  rw [kF_cons _ _ _ hj] at h2 ⊢
  rw [hg]
  exact ⟨h1.1.trans h2.1 (Nat.le_refl _) q4 (Nat.le_refl _) (Nat.le_refl _), h2.2⟩
theorem gK_misses {P : List Pn} {T : List Tr.Nd} (hT : Tr.Fo (Tr.kds T)) {e p j a : Nat} (hj : j < Tr.kA (pks P) p) (hw : Wi (Tr.kds T) e a) (ha : a < e) (hn : gN P T (Tr.wA (pks P) (p + 1) j) a = none) : gK P T e (kF (pks P) p j) a = gK P T e (kF (pks P) p j) (Tr.eA (Tr.kds T) a) := by
  rw [kF_cons _ _ _ hj]
  exact gK_miss P T hT e _ (kF (pks P) p (j + 1)) a hw ha hn
theorem Kr.hit {P : List Pn} {T : List Tr.Nd} (hP : Tr.Fo (pks P)) (hT : Tr.Fo (Tr.kds T)) {e p j a : Nat} (hp : p < P.length) (hj : j < Tr.kA (pks P) p) (hw : Wi (Tr.kds T) e a) (ha : a < e) {F G H : List Int} (h1 : Nr P T (Tr.wA (pks P) (p + 1) j) a F G) (hn : (gN P T (Tr.wA (pks P) (p + 1) j) a).isSome = true) (h2 : Kr P T e p (j + 1) (Tr.eA (Tr.kds T) a) G H) : Kr P T e p j a F H ∧ (gK P T e (kF (pks P) p j) a).isSome = (gK P T e (kF (pks P) p (j + 1)) (Tr.eA (Tr.kds T) a)).isSome := by
  obtain ⟨q1, q2, q3, q4⟩ := pat_in hP hp hj
  obtain ⟨l, hl⟩ := Option.isSome_iff_exists.1 hn
  have hg := gK_hit P T hT e _ (kF (pks P) p (j + 1)) a hw ha l hl
  have hll := gN_len P T hP _ _ l hl q1
  unfold Kr at h2 ⊢
  rw [kF_cons _ _ _ hj, hg]
  refine ⟨⟨h1.1.trans h2.1 (Nat.le_refl _) q4 (by omega) (Nat.le_refl _), fun k hk => ?_⟩, by simp⟩
  cases hq : gK P T e (kF (pks P) p (j + 1)) (Tr.eA (Tr.kds T) a) with
  | none => rw [hq] at hk; simp at hk
  | some k2 =>
    rw [hq] at hk
    simp only [Option.map_some, Option.some.injEq] at hk
    subst hk
    exact ((h1.2 l hl).keep h2.1 (by omega)).app (h2.2 k2 hq) (by omega)
end Go.Proofs.YtcmhbcfgikmblabGreatDoor.Qy
namespace Go.Proofs.YtcmhbcfgikmblabGreatDoor.Qy
open Go.RowKit Go.Maps

theorem Fs.far {f nb : Nat} {a b : World} (h : Fs f a b) (hn : a.heap.size ≤ nb) (k : Nat) (x : Value) : Fs f a (b.setCell ⟨nb, k, none⟩ x) := by
  have g := grown_set (W := b) (b := nb) (k := k) (v := x)
  exact ⟨g.os.trans h.os, g.tape.trans h.tape, g.output.trans h.output, Nat.le_trans h.sz g.size, fun y hy hne => (heap_far (by omega)).trans (h.bl y hy hne)⟩
theorem Fs.up {f : Nat} {a b c : World} (h : Fs f a b) (k : Below b.heap.size b c) : Fs f a c := h.trans (Fs.bel k)
theorem Fd.far {W : World} {f nb k : Nat} {F : List Int} {x : Value} (h : Fd W f F) (hn : f ≠ nb) : Fd (W.setCell ⟨nb, k, none⟩ x) f F := (heap_far hn).trans h
theorem Fd.up {W W' : World} {f : Nat} {F : List Int} (h : Fd W f F) (hb : Below W.heap.size W W') : Fd W' f F := (hb.block _ (lt_of_heap h)).trans h
/-- The boxes of children's closure: what is left, the next, the end, the search, the closure itself. -/
structure Bx (W : World) (f lb nb eb xb gb sb : Nat) (lv : Value) (a e : Nat) : Prop where
  l : W.heap[lb]? = some (.cells #[lv] 34 (0, 0))
  n : W.heap[nb]? = some (.cells #[.int .i64 (a : Int)] 3 (0, 0))
  e : W.heap[eb]? = some (.cells #[.int .i64 (e : Int)] 3 (0, 0))
  x : W.heap[xb]? = some (.cells #[.pointer (some ⟨sb, 0, none⟩)] 58 (0, 0))
  g : W.heap[gb]? = some (.cells #[.func (.func 54) #[] #[.pointer (some ⟨lb, 0, none⟩), .pointer (some ⟨nb, 0, none⟩), .pointer (some ⟨eb, 0, none⟩), .pointer (some ⟨xb, 0, none⟩), .pointer (some ⟨gb, 0, none⟩)]] 27 (0, 0))
  d : lb ≠ nb ∧ lb ≠ eb ∧ lb ≠ xb ∧ lb ≠ gb ∧ nb ≠ eb ∧ nb ≠ xb ∧ nb ≠ gb
  o : lb ≠ f ∧ nb ≠ f ∧ eb ≠ f ∧ xb ≠ f ∧ gb ≠ f
theorem Bx.keep {W W' : World} {f lb nb eb xb gb sb : Nat} {lv : Value} {a e : Nat} (h : Bx W f lb nb eb xb gb sb lv a e) (hf : Fs f W W') : Bx W' f lb nb eb xb gb sb lv a e :=
  ⟨(hf.bl _ (lt_of_heap h.l) h.o.1).trans h.l, (hf.bl _ (lt_of_heap h.n) h.o.2.1).trans h.n, (hf.bl _ (lt_of_heap h.e) h.o.2.2.1).trans h.e, (hf.bl _ (lt_of_heap h.x) h.o.2.2.2.1).trans h.x, (hf.bl _ (lt_of_heap h.g) h.o.2.2.2.2).trans h.g, h.d, h.o⟩
theorem Bx.next {W : World} {f lb nb eb xb gb sb : Nat} {lv : Value} {a e : Nat} (h : Bx W f lb nb eb xb gb sb lv a e) (b : Nat) : Bx (W.setCell ⟨nb, 0, none⟩ (.int .i64 (b : Int))) f lb nb eb xb gb sb lv b e := by
  obtain ⟨d1, d2, d3, d4, d5, d6, d7⟩ := h.d
  exact ⟨(heap_far d1).trans h.l, blk_set _ h.n, (heap_far (Ne.symm d5)).trans h.e, (heap_far (Ne.symm d6)).trans h.x, (heap_far (Ne.symm d7)).trans h.g, h.d, h.o⟩
theorem Bx.left {W : World} {f lb nb eb xb gb sb : Nat} {lv : Value} {a e : Nat} (h : Bx W f lb nb eb xb gb sb lv a e) (lv' : Value) : Bx (W.setCell ⟨lb, 0, none⟩ lv') f lb nb eb xb gb sb lv' a e := by
  obtain ⟨d1, d2, d3, d4, d5, d6, d7⟩ := h.d
  exact ⟨blk_set _ h.l, (heap_far (Ne.symm d1)).trans h.n, (heap_far (Ne.symm d2)).trans h.e, (heap_far (Ne.symm d3)).trans h.x, (heap_far (Ne.symm d4)).trans h.g, h.d, h.o⟩
/-- What fits promises for subtrees of at most n nodes. -/
def FC (P : List Pn) (cs : List Cd) (T : List Tr.Nd) (s : ByteArray) (sb f : Nat) (vp vr vk vt ve : Value) (n : Nat) : Prop := ∀ (W : World) (F : List Int) (p v : Nat), Sr W sb f P cs T s vp vr vk vt ve → Fd W f F → F.length = P.length → p < P.length → v < T.length → Tr.eA (Tr.kds T) v - v ≤ n →
  Calls Tryz.prog 21 #[.pointer (some ⟨sb, 0, none⟩), .int .i64 (p : Int), .int .i64 (v : Int)] W fun e w' => ∃ F', e = .returned (.bool (gN P T p v).isSome) ∧ Fs f W w' ∧ Fd w' f F' ∧ Nr P T p v F F'
theorem end_cell {f : Nat} {W : World} {v : Value} {T : List Tr.Nd} (h : RwN f W v T.length (iC (ends T))) (i : Nat) (hi : i < T.length) : ∃ g o cap, v = .slice (some ⟨g, o, none⟩) T.length cap ∧ g ≠ f ∧ W.cell? ⟨g, o + i, none⟩ = some (.int .i64 ((Tr.eA (Tr.kds T) i : Nat) : Int)) := by
  obtain ⟨g, o, cap, e, hn, hc⟩ := h.place (by omega)
  refine ⟨g, o, cap, e, hn, hc i _ ?_⟩
  have hl : i < (ends T).length := by unfold ends; simpa using hi
  rw [iC_get _ _ hl]
  have e9 : (ends T).getD i 0 = ((Tr.eA (Tr.kds T) i : Nat) : Int) := by
    have h9 := ew_get T 0 i (Nat.zero_le _) hi
    rw [ew_zero] at h9
    exact h9
  rw [e9]
end Go.Proofs.YtcmhbcfgikmblabGreatDoor.Qy
