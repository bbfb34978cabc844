namespace Go.Proofs.Ytkaciochlemjiab
/-! States as data: what is shaped, what an action does. -/

structure Stt where
  ind : List Int
  pen : Int
  que : List ByteArray
  frm : List (Int × ByteArray)
  flg : Nat
  deriving DecidableEq

/-- Widths that rise, from below on. -/
def ris : Int → List Int → Bool
  | _, [] => true
  | b, w :: l => decide (b < w) && decide (w ≤ 65536) && ris w l
def hasNl (d : ByteArray) : Bool := d.data.toList.contains 10
def wai (d : ByteArray) : Bool := decide (0 < d.size) && decide (d.size ≤ 16) && !hasNl d
def isM (n : Int) : Bool := decide (0 ≤ n) && decide (n < 16)
def okF1 (f : Int × ByteArray) : Bool := isM f.1 && decide (f.2.size ≤ 16)
def Stt.oi (s : Stt) : Bool := decide (s.ind.length ≤ 32) && ris 0 s.ind
def Stt.oq (s : Stt) : Bool := decide (s.que.length ≤ 8) && s.que.all wai
def Stt.of (s : Stt) : Bool := decide (s.frm.length ≤ 16) && s.frm.all okF1
def Stt.shp (s : Stt) : Bool := s.oi && decide (-1 ≤ s.pen) && decide (s.pen ≤ 65536) && s.oq && s.of
/-- The top indentation. -/
def topI (l : List Int) : Int := l.getLastD 0
def Stt.top (s : Stt) : Int := topI s.ind
/-- What is the top indentation need not wait. -/
def Stt.settle (s : Stt) : Stt := if s.pen = s.top then { s with pen := -1 } else s
theorem ris_app (b : Int) (l : List Int) (x : Int) : ris b (l ++ [x]) = (ris b l && decide (l.getLastD b < x) && decide (x ≤ 65536)) := by
  induction l generalizing b with
  | nil => simp [ris]
  | cons w l ih =>
    simp only [List.cons_append, ris, ih, List.getLastD_cons]
    cases decide (b < w) <;> cases decide (w ≤ 65536) <;> simp
theorem ris_take (b : Int) (l : List Int) (n : Nat) (h : ris b l = true) : ris b (l.take n) = true := by
  induction l generalizing b n with
  | nil => simp [ris]
  | cons w l ih =>
    cases n with
    | zero => simp [ris]
    | succ n =>
      simp only [ris, Bool.and_eq_true, List.take_succ_cons] at h ⊢
      exact ⟨h.1, ih w n h.2⟩
theorem ris_mem (b : Int) (l : List Int) (h : ris b l = true) (x : Int) (hx : x ∈ l) : b < x ∧ x ≤ 65536 := by
  induction l generalizing b with
  | nil => cases hx
  | cons w l ih =>
    simp only [ris, Bool.and_eq_true, decide_eq_true_eq] at h
    rcases List.mem_cons.1 hx with rfl | h2
    · exact ⟨h.1.1, h.1.2⟩
    · have := ih w h.2 h2
      omega
theorem last_mem (l : List Int) (d : Int) (h : l ≠ []) : l.getLastD d ∈ l := by
  induction l generalizing d with
  | nil => exact absurd rfl h
  | cons w l ih =>
    rw [List.getLastD_cons]
    cases l with
    | nil => simp
    | cons x l => exact List.mem_cons_of_mem _ (ih w (by simp))
theorem ris_last (l : List Int) (h : ris 0 l = true) : 0 ≤ topI l ∧ topI l ≤ 65536 := by
  unfold topI
  by_cases hl : l = []
  · subst hl; simp
  · have := ris_mem 0 _ h _ (last_mem l 0 hl)
    omega

/-- The width of a line, tabs to eight. -/
def wid : Nat → List UInt8 → Nat
  | w, [] => w
  | w, b :: l => wid (if b = 9 then w + (8 - w % 8) else w + 1) l
/-- What stands behind the last line end. -/
def lastL : List UInt8 → List UInt8 → List UInt8
  | acc, [] => acc
  | acc, b :: l => if b = 10 then lastL [] l else lastL (acc ++ [b]) l
/-- The bytes from a place on. -/
def beh (m : ByteArray) (n : Nat) : ByteArray := m.extract (min n m.size) m.size

/-- What each action does to a shaped state: the state behind it, or the error. -/
def aMeasure (s : Stt) (m : ByteArray) : Except Int Stt := if 65536 < wid 0 (lastL [] m.data.toList) then .error 64 else .ok ({ s with pen := (wid 0 (lastL [] m.data.toList) : Nat) } : Stt).settle
def aIndent (s : Stt) : Except Int Stt := if s.pen ≤ s.top then .error 66 else if s.ind.length = 32 then .error 60 else .ok { s with ind := s.ind ++ [s.pen], pen := -1 }
def aDrop (s : Stt) : Except Int Stt := if s.ind.length = 0 then .error 66 else .ok { s with ind := s.ind.take (s.ind.length - 1) }
def aDedent (s : Stt) : Except Int Stt := if s.ind.length = 0 then .error 66 else .ok ({ s with ind := s.ind.take (s.ind.length - 1) } : Stt).settle
def aEnqueue (s : Stt) (n : Int) (m : ByteArray) : Except Int Stt := if n < 0 then .error 66 else if wai (beh m n.toNat) = false then .error 63 else if s.que.length = 8 then .error 61 else .ok { s with que := s.que ++ [beh m n.toNat] }
def aDequeue (s : Stt) : Except Int Stt := if s.que.length = 0 then .error 66 else .ok { s with que := s.que.drop 1 }
/-- A frame's delimiter. -/
def dlm (m : ByteArray) (n : Int) : ByteArray := if 0 ≤ n then beh m n.toNat else ⟨#[]⟩
def aEnter (s : Stt) (n mo : Int) (m : ByteArray) : Except Int Stt := if n < -1 ∨ isM mo = false then .error 66 else if 16 < (dlm m n).size then .error 63 else if s.frm.length = 16 then .error 62 else .ok { s with frm := s.frm ++ [(mo, dlm m n)] }
def aLeave (s : Stt) : Except Int Stt := if s.frm.length = 0 then .error 66 else .ok { s with frm := s.frm.take (s.frm.length - 1) }
def aTurn (s : Stt) (n : Int) (on : Bool) : Except Int Stt := if n < 0 ∨ 16 ≤ n then .error 66 else .ok { s with flg := if on then s.flg ||| 2 ^ n.toNat else s.flg &&& (65535 - 2 ^ n.toNat) }
def act (s : Stt) (k n mo : Int) (m : ByteArray) : Except Int Stt :=
  if k = 1 then aMeasure s m else if k = 2 then aIndent s else if k = 3 then aDedent s else if k = 4 then aDrop s else if k = 5 then aEnqueue s n m
  else if k = 6 then aDequeue s else if k = 7 then aEnter s n mo m else if k = 8 then aLeave s else if k = 9 then aTurn s n true else if k = 10 then aTurn s n false else .error 66
theorem act_cases {P : Except Int Stt → Prop} (s : Stt) (k n mo : Int) (m : ByteArray) (h1 : P (aMeasure s m)) (h2 : P (aIndent s)) (h3 : P (aDedent s)) (h4 : P (aDrop s)) (h5 : P (aEnqueue s n m)) (h6 : P (aDequeue s)) (h7 : P (aEnter s n mo m)) (h8 : P (aLeave s)) (h9 : ∀ on, P (aTurn s n on)) (h0 : P (.error 66)) : P (act s k n mo m) := by
  unfold act
  by_cases c1 : k = 1
  · rw [if_pos c1]; exact h1
  rw [if_neg c1]
  by_cases c2 : k = 2
  · rw [if_pos c2]; exact h2
  rw [if_neg c2]
  by_cases c3 : k = 3
  · rw [if_pos c3]; exact h3
  rw [if_neg c3]
  by_cases c4 : k = 4
  · rw [if_pos c4]; exact h4
  rw [if_neg c4]
  by_cases c5 : k = 5
  · rw [if_pos c5]; exact h5
  rw [if_neg c5]
  by_cases c6 : k = 6
  · rw [if_pos c6]; exact h6
  rw [if_neg c6]
  by_cases c7 : k = 7
  · rw [if_pos c7]; exact h7
  rw [if_neg c7]
  by_cases c8 : k = 8
  · rw [if_pos c8]; exact h8
  rw [if_neg c8]
  by_cases c9 : k = 9
  · rw [if_pos c9]; exact h9 true
  rw [if_neg c9]
  by_cases c10 : k = 10
  · rw [if_pos c10]; exact h9 false
  rw [if_neg c10]; exact h0
theorem settle_shp (s : Stt) (h : s.shp = true) : s.settle.shp = true := by
  unfold Stt.settle
  split
  · simp only [Stt.shp, Stt.oi, Stt.oq, Stt.of, Bool.and_eq_true, decide_eq_true_eq] at h ⊢
    obtain ⟨⟨⟨⟨h1, h2⟩, h3⟩, h4⟩, h5⟩ := h
    exact ⟨⟨⟨⟨h1, by omega⟩, by omega⟩, h4⟩, h5⟩
  · exact h
theorem all_take {α : Type} (p : α → Bool) (l : List α) (n : Nat) (h : l.all p = true) : (l.take n).all p = true := by
  rw [List.all_eq_true] at h ⊢
  exact fun x hx => h x (List.mem_of_mem_take hx)
theorem all_drop {α : Type} (p : α → Bool) (l : List α) (n : Nat) (h : l.all p = true) : (l.drop n).all p = true := by
  rw [List.all_eq_true] at h ⊢
  exact fun x hx => h x (List.mem_of_mem_drop hx)
/-- What an action makes of a shaped state is shaped; an error is one of six. -/
theorem act_ok (s : Stt) (k n mo : Int) (m : ByteArray) (h : s.shp = true) : (∀ t, act s k n mo m = .ok t → t.shp = true) ∧ (∀ e, act s k n mo m = .error e → 60 ≤ e ∧ e ≤ 66 ∧ e ≠ 65) := by
  have h0 := h
  simp only [Stt.shp, Stt.oi, Stt.oq, Stt.of, Bool.and_eq_true, decide_eq_true_eq] at h
  obtain ⟨⟨⟨⟨⟨h1, h1b⟩, h2⟩, h3⟩, h4, h4b⟩, h5, h5b⟩ := h
  have hd := ris_take 0 s.ind (s.ind.length - 1) h1b
  refine act_cases (P := fun x => (∀ t, x = .ok t → t.shp = true) ∧ (∀ e, x = .error e → 60 ≤ e ∧ e ≤ 66 ∧ e ≠ 65)) s k n mo m ?_ ?_ ?_ ?_ ?_ ?_ ?_ ?_ ?_ ?_
  · unfold aMeasure
    split
    · exact ⟨fun t ht => (by cases ht), fun e he => (by cases he; omega)⟩
    · refine ⟨fun t ht => ?_, fun e he => (by cases he)⟩
      cases ht
      refine settle_shp _ ?_
      simp only [Stt.shp, Stt.oi, Stt.oq, Stt.of, Bool.and_eq_true, decide_eq_true_eq]
      exact ⟨⟨⟨⟨⟨h1, h1b⟩, by omega⟩, by omega⟩, h4, h4b⟩, h5, h5b⟩
  · unfold aIndent
    split
    · exact ⟨fun t ht => (by cases ht), fun e he => (by cases he; omega)⟩
    split
    · exact ⟨fun t ht => (by cases ht), fun e he => (by cases he; omega)⟩
    refine ⟨fun t ht => ?_, fun e he => (by cases he)⟩
    cases ht
    rename_i c1 c2
    simp only [Stt.shp, Stt.oi, Stt.oq, Stt.of, Bool.and_eq_true, decide_eq_true_eq, List.length_append, List.length_singleton, ris_app]
    have c3 : s.ind.getLastD 0 < s.pen := by
      have c4 : ¬ s.pen ≤ s.ind.getLastD 0 := c1
      omega
    exact ⟨⟨⟨⟨⟨by omega, ⟨h1b, c3⟩, h3⟩, by omega⟩, by omega⟩, h4, h4b⟩, h5, h5b⟩
  · unfold aDedent
    split
    · exact ⟨fun t ht => (by cases ht), fun e he => (by cases he; omega)⟩
    refine ⟨fun t ht => ?_, fun e he => (by cases he)⟩
    cases ht
    refine settle_shp _ ?_
    simp only [Stt.shp, Stt.oi, Stt.oq, Stt.of, Bool.and_eq_true, decide_eq_true_eq]
    exact ⟨⟨⟨⟨⟨by rw [List.length_take]; omega, hd⟩, h2⟩, h3⟩, h4, h4b⟩, h5, h5b⟩
  · unfold aDrop
    split
    · exact ⟨fun t ht => (by cases ht), fun e he => (by cases he; omega)⟩
    refine ⟨fun t ht => ?_, fun e he => (by cases he)⟩
    cases ht
    simp only [Stt.shp, Stt.oi, Stt.oq, Stt.of, Bool.and_eq_true, decide_eq_true_eq]
    exact ⟨⟨⟨⟨⟨by rw [List.length_take]; omega, hd⟩, h2⟩, h3⟩, h4, h4b⟩, h5, h5b⟩
  · unfold aEnqueue
    split
    · exact ⟨fun t ht => (by cases ht), fun e he => (by cases he; omega)⟩
    split
    · exact ⟨fun t ht => (by cases ht), fun e he => (by cases he; omega)⟩
    split
    · exact ⟨fun t ht => (by cases ht), fun e he => (by cases he; omega)⟩
    refine ⟨fun t ht => ?_, fun e he => (by cases he)⟩
    cases ht
    rename_i c1 c2 c3
    simp only [Stt.shp, Stt.oi, Stt.oq, Stt.of, Bool.and_eq_true, decide_eq_true_eq, List.length_append, List.length_singleton, List.all_append, List.all_cons, List.all_nil, Bool.and_true]
    exact ⟨⟨⟨⟨⟨h1, h1b⟩, h2⟩, h3⟩, by omega, h4b, by cases hw : wai (beh m n.toNat) <;> simp_all⟩, h5, h5b⟩
  · unfold aDequeue
    split
    · exact ⟨fun t ht => (by cases ht), fun e he => (by cases he; omega)⟩
    refine ⟨fun t ht => ?_, fun e he => (by cases he)⟩
    cases ht
    simp only [Stt.shp, Stt.oi, Stt.oq, Stt.of, Bool.and_eq_true, decide_eq_true_eq]
    exact ⟨⟨⟨⟨⟨h1, h1b⟩, h2⟩, h3⟩, by rw [List.length_drop]; omega, all_drop _ _ _ h4b⟩, h5, h5b⟩
  · unfold aEnter
    split
    · exact ⟨fun t ht => (by cases ht), fun e he => (by cases he; omega)⟩
    split
    · exact ⟨fun t ht => (by cases ht), fun e he => (by cases he; omega)⟩
    split
    · exact ⟨fun t ht => (by cases ht), fun e he => (by cases he; omega)⟩
    refine ⟨fun t ht => ?_, fun e he => (by cases he)⟩
    cases ht
    rename_i c1 c2 c3
    simp only [Stt.shp, Stt.oi, Stt.oq, Stt.of, Bool.and_eq_true, decide_eq_true_eq, List.length_append, List.length_singleton, List.all_append, List.all_cons, List.all_nil, Bool.and_true, okF1]
    refine ⟨⟨⟨⟨⟨h1, h1b⟩, h2⟩, h3⟩, h4, h4b⟩, by omega, h5b, ?_, by omega⟩
    cases hm : isM mo
    · exact absurd (Or.inr hm) c1
    · rfl
  · unfold aLeave
    split
    · exact ⟨fun t ht => (by cases ht), fun e he => (by cases he; omega)⟩
    refine ⟨fun t ht => ?_, fun e he => (by cases he)⟩
    cases ht
    simp only [Stt.shp, Stt.oi, Stt.oq, Stt.of, Bool.and_eq_true, decide_eq_true_eq]
    exact ⟨⟨⟨⟨⟨h1, h1b⟩, h2⟩, h3⟩, h4, h4b⟩, by rw [List.length_take]; omega, all_take _ _ _ h5b⟩
  · intro on
    unfold aTurn
    split
    · exact ⟨fun t ht => (by cases ht), fun e he => (by cases he; omega)⟩
    refine ⟨fun t ht => ?_, fun e he => (by cases he)⟩
    cases ht
    exact h0
  · exact ⟨fun t ht => (by cases ht), fun e he => (by cases he; omega)⟩
end Go.Proofs.Ytkaciochlemjiab
