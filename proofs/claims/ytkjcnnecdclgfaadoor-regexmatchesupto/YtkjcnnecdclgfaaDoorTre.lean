import Derived.Test.YtkjcnnecdclgfaaDoorTxt
namespace Go.Proofs.YtkjcnnecdclgfaaDoor
theorem getD_app1 {α : Type} (l k : List α) (j : Nat) (d : α) (h : j < l.length) : (l ++ k).getD j d = l.getD j d := by
  simp [List.getD_eq_getElem?_getD, List.getElem?_append_left h]
theorem getD_app2 {α : Type} (l k : List α) (j : Nat) (d : α) (h : l.length ≤ j) : (l ++ k).getD j d = k.getD (j - l.length) d := by
  simp [List.getD_eq_getElem?_getD, List.getElem?_append_right h]
theorem szs_pre (l : List Nd) : ∀ (z z' : List Nat), szs l z = some z' → ∃ r, z' = z ++ r := by
  induction l with
  | nil => intro z z' h; cases h; exact ⟨[], by simp⟩
  | cons n l ih =>
    intro z z' h
    simp only [szs, Option.bind_eq_some_iff] at h
    obtain ⟨s, _, h2⟩ := h
    obtain ⟨r, hr⟩ := ih _ _ h2
    exact ⟨s :: r, by rw [hr]; simp⟩
/-- The node at a place: the sizes ahead of it, and its own. -/
theorem szs_at (p : List Nd) (n : Nd) (s : List Nd) (z : List Nat) (h : szs (p ++ n :: s) [] = some z) : ∃ zp, szs p [] = some zp ∧ zp.length = p.length ∧ Zok zp ∧ ext n zp = some (z.getD p.length 0) ∧ ∀ j, j < p.length → zp.getD j 0 = z.getD j 0 := by
  rw [szs_app] at h
  simp only [Option.bind_eq_some_iff] at h
  obtain ⟨zp, h1, h2⟩ := h
  have hz := szs_ok h1 zok_nil
  have hl : zp.length = p.length := by rw [hz.2]; simp
  simp only [szs, Option.bind_eq_some_iff] at h2
  obtain ⟨s0, h3, h4⟩ := h2
  obtain ⟨r, hr⟩ := szs_pre _ _ _ h4
  refine ⟨zp, h1, hl, hz.1, ?_, ?_⟩
  · rw [h3, hr, getD_app1 _ _ _ _ (by rw [List.length_append]; simp only [List.length_cons, List.length_nil]; omega), getD_app2 _ _ _ _ (by omega), hl]
    simp
  · intro j hj
    rw [hr, getD_app1 _ _ _ _ (by rw [List.length_append]; simp only [List.length_cons, List.length_nil]; omega), getD_app1 _ _ _ _ (by omega)]
/-- What a node of a well shaped tree is. -/
inductive Kind (n : Nd) (i : Nat) (z : List Nat) : Prop where
  | leaf (h : n.op = 1 ∨ n.op = 2) (hb : bl n.m = decide (n.op = 2)) (ha : n.a = -1) (hbb : n.b = -1) (hz : z.getD i 0 = 1)
  | un (h : n.op = 5 ∨ n.op = 6 ∨ n.op = 7) (hb : bl n.m = true) (hi : 1 ≤ i) (ha : n.a = ((i - 1 : Nat) : Int)) (hbb : n.b = -1) (hz : z.getD i 0 = z.getD (i - 1) 0 + 1)
  | bin (h : n.op = 3 ∨ n.op = 4) (hb : bl n.m = true) (a : Nat) (hi : a + z.getD (i - 1) 0 + 1 = i) (h1 : 1 ≤ z.getD (i - 1) 0) (ha : n.a = (a : Int)) (hbb : n.b = ((i - 1 : Nat) : Int)) (hz : z.getD i 0 = z.getD a 0 + z.getD (i - 1) 0 + 1)
theorem kind_of (p : List Nd) (n : Nd) (s : List Nd) (z : List Nat) (h : szs (p ++ n :: s) [] = some z) : Kind n p.length z := by
  obtain ⟨zp, _, hl, hz, he, hj⟩ := szs_at p n s z h
  unfold ext at he
  rw [hl] at he
  split at he
  · rename_i h1
    split at he
    · rename_i h2
      injection he with he
      exact .leaf h1 h2.1 h2.2.1 h2.2.2 he.symm
    · cases he
  · split at he
    · rename_i h1
      split at he
      · rename_i h2
        injection he with he
        refine .un h1 h2.1 h2.2.1 (by omega) h2.2.2.2 ?_
        rw [← he, hj _ (by omega)]
      · cases he
    · split at he
      · rename_i h1
        split at he
        · rename_i h2
          injection he with he
          have h3 := hz (p.length - 1) (by omega)
          have e1 := hj (p.length - 1) (by omega)
          refine .bin h1 h2.1 (p.length - 1 - zp.getD (p.length - 1) 0) (by omega) (by omega) (by omega) (by omega) ?_
          rw [← he, e1, hj _ (by omega)]
        · cases he
      · cases he
theorem split_at {α : Type} (l : List α) (i : Nat) (h : i < l.length) : ∃ p n s, l = p ++ n :: s ∧ p.length = i ∧ n = l[i] :=
  ⟨l.take i, l[i], l.drop (i + 1), by rw [← List.drop_eq_getElem_cons h, List.take_append_drop], by rw [List.length_take]; omega, rfl⟩
/-- The text and level of the node at a place. -/
def TX (re : List Nd) (i : Nat) : List UInt8 × Nat := (tab re []).getD i ([], 0)
theorem TX_at (p : List Nd) (n : Nd) (s : List Nd) : TX (p ++ n :: s) p.length = ent n (tab p []) ∧ ∀ j, j < p.length → (tab p []).getD j ([], 0) = TX (p ++ n :: s) j := by
  unfold TX
  rw [tab_app]
  have hl : (tab p []).length = p.length := by rw [tab_len]; simp
  obtain ⟨r, h1, _⟩ := tab_pre s (tab p [] ++ [ent n (tab p [])])
  have e : tab (n :: s) (tab p []) = tab p [] ++ ([ent n (tab p [])] ++ r) := by
    show tab s (tab p [] ++ [ent n (tab p [])]) = _
    rw [h1]; simp
  rw [e]
  refine ⟨?_, ?_⟩
  · rw [getD_app2 _ _ _ _ (by omega), hl]; simp
  · intro j hj
    rw [getD_app1 _ _ _ _ (by omega)]
def lvl (op : Int) : Nat := if op = 1 ∨ op = 2 then 4 else if op = 4 then 1 else if op = 3 then 2 else 3
theorem ent_lvl (n : Nd) (t : List (List UInt8 × Nat)) : (ent n t).2 = lvl n.op := by
  unfold ent lvl
  by_cases h1 : n.op = 1
  · simp [h1]
  by_cases h2 : n.op = 2
  · simp [h2]
  by_cases h4 : n.op = 4
  · simp [h4]
  by_cases h3 : n.op = 3
  · simp [h3]
  simp [h1, h2, h3, h4]
  split
  · rfl
  · split <;> rfl
/-- How long a text may be. -/
theorem TX_len (re : List Nd) (z : List Nat) (h : szs re [] = some z) : ∀ i, i < re.length → (TX re i).1.length ≤ 2310 * z.getD i 0 := by
  intro i
  induction i using Nat.strongRecOn with
  | ind i ih =>
    intro hi
    obtain ⟨p, n, s, hre, hp, _⟩ := split_at re i hi
    have hk := kind_of p n s z (by rw [← hre]; exact h)
    obtain ⟨t1, t2⟩ := TX_at p n s
    rw [← hre, hp] at t1 t2
    rw [hp] at hk
    rw [t1]
    have bl : ∀ (t : List UInt8 × Nat) (k : Nat), (bnd t k).length ≤ t.1.length + 2 := by
      intro t k
      unfold bnd
      split
      · simp only [List.length_append, List.length_cons, List.length_nil]; omega
      · omega
    cases hk with
    | leaf h1 _ _ _ hz =>
      rw [hz]
      unfold ent
      rcases h1 with h1 | h1
      · rw [if_pos h1]; have := cst_len n.m; simp only; omega
      · rw [if_neg (by omega), if_pos h1]; simp
    | un h1 _ h2 ha _ hz =>
      have hc := ih (i - 1) (by omega) (by omega)
      have e : n.a.toNat = i - 1 := by omega
      rw [hz]
      unfold ent
      rw [e, t2 _ (by omega)]
      have b3 := bl (TX re (i - 1)) 3
      rw [if_neg (by omega), if_neg (by omega), if_neg (by omega), if_neg (by omega)]
      split
      · simp only [List.length_append, List.length_cons, List.length_nil]; omega
      · split
        · simp only [List.length_append, List.length_cons, List.length_nil]; omega
        · simp only [List.length_append, List.length_cons, List.length_nil]; omega
    | bin h1 _ a hi2 h3 ha hb hz =>
      have hc := ih (i - 1) (by omega) (by omega)
      have hd := ih a (by omega) (by omega)
      have e1 : n.a.toNat = a := by omega
      have e2 : n.b.toNat = i - 1 := by omega
      rw [hz]
      unfold ent
      rw [e1, e2, t2 _ (by omega), t2 _ (by omega)]
      have b2 := bl (TX re (i - 1)) 2
      have b3 := bl (TX re (i - 1)) 3
      have b4 := bl (TX re a) 2
      rcases h1 with h1 | h1
      · rw [if_neg (by omega), if_neg (by omega), if_neg (by omega), if_pos h1]
        simp only [List.length_append]; omega
      · rw [if_neg (by omega), if_neg (by omega), if_pos h1]
        simp only [List.length_append, List.length_cons, List.length_nil]; omega
theorem spl_ne (b : Nat) (mk : List UInt8) : spl b mk ≠ [] := by
  unfold spl
  repeat' split
  all_goals simp
theorem cst_ne (m : Nat → Bool) : cst m ≠ [] := by
  unfold cst
  repeat' split
  · exact spl_ne _ _
  all_goals simp
theorem TX_ne (re : List Nd) (z : List Nat) (h : szs re [] = some z) : ∀ i, i < re.length → (TX re i).1 ≠ [] := by
  intro i
  induction i using Nat.strongRecOn with
  | ind i ih =>
    intro hi
    obtain ⟨p, n, s, hre, hp, _⟩ := split_at re i hi
    have hk := kind_of p n s z (by rw [← hre]; exact h)
    obtain ⟨t1, t2⟩ := TX_at p n s
    rw [← hre, hp] at t1 t2
    rw [hp] at hk
    rw [t1]
    have bn : ∀ (t : List UInt8 × Nat) (k : Nat), t.1 ≠ [] → bnd t k ≠ [] := by
      intro t k ht
      unfold bnd
      split
      · simp
      · exact ht
    cases hk with
    | leaf h1 _ _ _ hz =>
      unfold ent
      rcases h1 with h1 | h1
      · rw [if_pos h1]; exact cst_ne _
      · rw [if_neg (by omega), if_pos h1]; simp
    | un h1 _ h2 ha _ hz =>
      unfold ent
      rw [if_neg (by omega), if_neg (by omega), if_neg (by omega), if_neg (by omega)]
      split
      · simp
      · split
        · simp
        · simp
    | bin h1 _ a hi2 h3 ha hb hz =>
      have hc := ih (i - 1) (by omega) (by omega)
      have e2 : n.b.toNat = i - 1 := by omega
      unfold ent
      rcases h1 with h1 | h1
      · rw [if_neg (by omega), if_neg (by omega), if_neg (by omega), if_pos h1]
        have e3 := t2 (i - 1) (by omega)
        rw [e2, e3]
        simp only [ne_eq, List.append_eq_nil_iff, not_and]
        intro _
        exact bn _ _ hc
      · rw [if_neg (by omega), if_neg (by omega), if_pos h1]
        simp
end Go.Proofs.YtkjcnnecdclgfaaDoor
