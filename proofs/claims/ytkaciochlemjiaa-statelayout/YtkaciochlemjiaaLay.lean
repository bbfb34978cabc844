import Derived.Test.YtkaciochlemjiaaMea
namespace Go.Proofs.Ytkaciochlemjiaa
/-! Layout: what a measured line leaves of the indentations. -/

/-- The law's own width of a line. -/
theorem wl_snoc (l : List UInt8) (i : Nat) (h : i < l.length) : wid 0 (lastL [] (l.take (i + 1))) = if l[i] = 10 then 0 else if l[i] = 9 then wid 0 (lastL [] (l.take i)) - wid 0 (lastL [] (l.take i)) % 8 + 8 else wid 0 (lastL [] (l.take i)) + 1 := by
  rw [List.take_add_one, List.getElem?_eq_getElem h]
  simp only [Option.toList_some]
  rw [lastL_app]
  by_cases h1 : l[i] = 10
  · rw [if_pos h1]
    simp only [lastL, h1, if_true]
    rfl
  · rw [if_neg h1]
    simp only [lastL, if_neg h1]
    rw [wid_app]
    show (if l[i] = 9 then _ else _) = _
    by_cases h2 : l[i] = 9
    · rw [if_pos h2, if_pos h2]
      omega
    · rw [if_neg h2, if_neg h2]
theorem wid_le (w : Nat) (l : List UInt8) : wid w l ≤ w + 8 * l.length := by
  induction l generalizing w with
  | nil => exact Nat.le_refl _
  | cons b l ih =>
    by_cases hb : b = 9
    · have h := ih (w + (8 - w % 8))
      simp only [wid, List.length_cons, if_pos hb]
      omega
    · have h := ih (w + 1)
      simp only [wid, List.length_cons, if_neg hb]
      omega
theorem lastL_len (l acc : List UInt8) : (lastL acc l).length ≤ acc.length + l.length := by
  induction l generalizing acc with
  | nil => simp [lastL]
  | cons b l ih =>
    simp only [lastL, List.length_cons]
    split
    · have := ih []; simp at this; omega
    · have := ih (acc ++ [b]); simp at this; omega
theorem wl_le (l : List UInt8) : wid 0 (lastL [] l) ≤ 8 * l.length := by
  have h1 := wid_le 0 (lastL [] l)
  have h2 := lastL_len l []
  simp at h2
  omega
/-- The indentations that are at most w are the first ones. -/
theorem ris_split (w : Int) : ∀ (l : List Int) (b : Int), ris b l = true → ∃ c, c ≤ l.length ∧ l.filter (fun x => decide (x ≤ w)) = l.take c ∧ (∀ i, i < c → l.getD i 0 ≤ w) ∧ ∀ i, c ≤ i → i < l.length → w < l.getD i 0
  | [], _, _ => ⟨0, by simp, by simp, fun i h => by omega, fun i _ h => by simp at h⟩
  | x :: l, b, h => by
    simp only [ris, Bool.and_eq_true, decide_eq_true_eq] at h
    by_cases hx : x ≤ w
    · obtain ⟨c, h1, h2, h3, h4⟩ := ris_split w l x h.2
      refine ⟨c + 1, by simp; omega, ?_, fun i hi => ?_, fun i hi hl => ?_⟩
      · rw [List.filter_cons_of_pos (by simpa using hx), h2, List.take_succ_cons]
      · cases i with
        | zero => exact hx
        | succ i => simpa using h3 i (by omega)
      · cases i with
        | zero => omega
        | succ i => simpa using h4 i (by omega) (by simpa using hl)
    · have hall : ∀ y ∈ x :: l, w < y := fun y hy => by
        rcases List.mem_cons.1 hy with rfl | hy
        · omega
        · have := ris_mem x l h.2 y hy; omega
      refine ⟨0, by simp, ?_, fun i hi => by omega, fun i _ hl => hall _ ?_⟩
      · rw [List.take_zero, List.filter_eq_nil_iff]
        intro y hy
        have := hall y hy
        simp; omega
      · rw [List.getD_eq_getElem?_getD, List.getElem?_eq_getElem hl]; exact List.getElem_mem hl
theorem top_take (l : List Int) (k : Nat) (hk : 0 < k) (hl : k ≤ l.length) : topI (l.take k) = l.getD (k - 1) 0 := by
  unfold topI
  obtain ⟨k, rfl⟩ : ∃ j, k = j + 1 := ⟨k - 1, by omega⟩
  rw [last_snoc l k (by omega), Nat.add_sub_cancel]
theorem settle_yes (t : Stt) (h : t.pen = topI t.ind) : t.settle = { t with pen := -1 } := if_pos h
theorem settle_no (t : Stt) (h : t.pen ≠ topI t.ind) : t.settle = t := if_neg h
/-- The state behind j dedents. -/
def lst (s : Stt) (w : Nat) (j : Nat) : Stt := { s with ind := s.ind.take (s.ind.length - j), pen := if topI (s.ind.take (s.ind.length - j)) = (w : Int) then -1 else (w : Int) }
theorem lst_zero (s : Stt) (w : Nat) : ({ s with pen := (w : Int) } : Stt).settle = lst s w 0 := by
  unfold lst
  rw [Nat.sub_zero, List.take_length]
  by_cases h : topI s.ind = (w : Int)
  · rw [settle_yes _ h.symm, if_pos h]
  · rw [settle_no _ (fun e => h e.symm), if_neg h]
theorem lst_next (s : Stt) (w j c : Nat) (hj : j < s.ind.length - c) (hc : ∀ i, c ≤ i → i < s.ind.length → (w : Int) < s.ind.getD i 0) (m : ByteArray) : (lst s w j).pen = (w : Int) ∧ (w : Int) < (lst s w j).top ∧ act (lst s w j) 3 0 0 m = .ok (lst s w (j + 1)) := by
  have ht : (w : Int) < topI (s.ind.take (s.ind.length - j)) := by
    rw [top_take _ _ (by omega) (by omega)]
    exact hc _ (by omega) (by omega)
  have hp : (lst s w j).pen = (w : Int) := by
    show (if topI (s.ind.take (s.ind.length - j)) = (w : Int) then (-1 : Int) else (w : Int)) = (w : Int)
    rw [if_neg (by omega)]
  refine ⟨hp, ht, ?_⟩
  show aDedent (lst s w j) = _
  unfold aDedent
  have hl : (lst s w j).ind.length = s.ind.length - j := by
    show (s.ind.take (s.ind.length - j)).length = _
    rw [List.length_take]; omega
  rw [if_neg (by omega), hl]
  have e : (lst s w j).ind.take (s.ind.length - j - 1) = s.ind.take (s.ind.length - (j + 1)) := by
    show (s.ind.take (s.ind.length - j)).take (s.ind.length - j - 1) = _
    rw [List.take_take, Nat.min_eq_left (by omega)]
    congr 1
  rw [e]
  unfold lst
  by_cases h : topI (s.ind.take (s.ind.length - (j + 1))) = (w : Int)
  · rw [settle_yes _ (by show (lst s w j).pen = _; rw [hp]; exact h.symm), if_pos h]
  · rw [settle_no _ (by show (lst s w j).pen ≠ _; rw [hp]; exact fun e => h e.symm), if_neg h]
    have hp2 : (if topI (s.ind.take (s.ind.length - j)) = (w : Int) then (-1 : Int) else (w : Int)) = (w : Int) := hp
    rw [hp2]
end Go.Proofs.Ytkaciochlemjiaa
