import Derived.Test.YtkaciochlemjiabAct
namespace Go.Proofs.Ytkaciochlemjiab
open Go.RowKit Go.Maps

theorem lastL_app (l k acc : List UInt8) : lastL acc (l ++ k) = lastL (lastL acc l) k := by
  induction l generalizing acc with
  | nil => rfl
  | cons b l ih =>
    simp only [List.cons_append, lastL]
    split
    · exact ih []
    · exact ih _
theorem lastL_no (l acc : List UInt8) (h : ∀ b ∈ l, b ≠ 10) : lastL acc l = acc ++ l := by
  induction l generalizing acc with
  | nil => simp [lastL]
  | cons b l ih =>
    simp only [lastL]
    rw [if_neg (h b (by simp)), ih _ (fun x hx => h x (by simp [hx]))]
    simp
theorem lastL_at (l : List UInt8) (k : Nat) (hk : k ≤ l.length) (h1 : ∀ j, k ≤ j → (hj : j < l.length) → l[j] ≠ 10) (h2 : k = 0 ∨ ∃ h : k - 1 < l.length, l[k - 1] = 10) : lastL [] l = l.drop k := by
  have hno : ∀ b ∈ l.drop k, b ≠ 10 := by
    intro b hb
    obtain ⟨j, hj, rfl⟩ := List.mem_iff_getElem.1 hb
    rw [List.getElem_drop]
    exact h1 _ (by omega) (by rw [List.length_drop] at hj; omega)
  rcases Nat.eq_zero_or_pos k with h0 | h0
  · subst h0
    rw [lastL_no l [] (by simpa using hno)]; simp
  · obtain ⟨hl, h10⟩ := h2.resolve_left (by omega)
    have e : l = l.take (k - 1) ++ (10 :: l.drop k) := by
      have := List.take_append_drop (k - 1) l
      rw [List.drop_eq_getElem_cons hl, h10, show k - 1 + 1 = k by omega] at this
      exact this.symm
    have e2 : lastL [] (l.take (k - 1) ++ (10 :: l.drop k)) = l.drop k := by
      rw [lastL_app]
      simp only [lastL, if_true]
      rw [lastL_no _ [] hno]; simp
    exact (congrArg (lastL []) e).trans e2
theorem wid_app (w : Nat) (l k : List UInt8) : wid w (l ++ k) = wid (wid w l) k := by
  induction l generalizing w with
  | nil => rfl
  | cons b l ih => simp only [List.cons_append, wid]; exact ih _
theorem wid_ge (w : Nat) (l : List UInt8) : w ≤ wid w l := by
  induction l generalizing w with
  | nil => exact Nat.le_refl _
  | cons b l ih =>
    simp only [wid]
    refine Nat.le_trans ?_ (ih _)
    split <;> omega
theorem wid_take (l : List UInt8) (i : Nat) : wid 0 (l.take i) ≤ wid 0 l := by
  have := wid_app 0 (l.take i) (l.drop i)
  rw [List.take_append_drop] at this
  rw [this]
  exact wid_ge _ _
theorem get_list (s : ByteArray) (i : Nat) (hi : i < s.size) : s.get! i = s.data.toList[i]'(by rw [Array.length_toList]; exact hi) := by
  rw [get_bang s i hi, Array.getElem_toList]; rfl
theorem ext_list (m : ByteArray) (k : Nat) : (m.extract k m.size).data.toList = m.data.toList.drop k := by
  rw [ByteArray.data_extract, Array.toList_extract, List.extract_eq_take_drop, List.take_of_length_le (by rw [List.length_drop, Array.length_toList]; exact Nat.le_refl _)]
theorem u8_eq (b : UInt8) (n : Nat) (hn : n < 256) : ((b.toNat : Int) == (n : Int)) = decide (b = UInt8.ofNat n) := by
  have h : ((b.toNat : Int) == (n : Int)) = decide (b.toNat = n) := by
    by_cases h : b.toNat = n
    · rw [decide_eq_true h, beq_iff_eq]; omega
    · rw [decide_eq_false h, beq_eq_false_iff_ne]; omega
  rw [h]
  congr 1
  apply propext
  constructor
  · intro h; rw [← h]; simp
  · rintro rfl; simp [Nat.mod_eq_of_lt hn]

set_option maxRecDepth 100000 in
set_option maxHeartbeats 4000000 in
theorem lastIx_any (s : ByteArray) (hs : s.size ≤ 4611686018427387904) (w : World) : Calls Try.prog 72 #[.string s, .int .u8 10] w fun e w' => ∃ k : Nat, e = .returned (.int .i64 ((k : Int) - 1)) ∧ w' = w ∧ k ≤ s.size ∧ lastL [] s.data.toList = s.data.toList.drop k := by
  have HS : Hid (s.size ≤ 4611686018427387904) := hs
  clear hs
  have hw0 : IntKind.i64.wrap ((s.size : Int) - 1) = (s.size : Int) - 1 := by rw [IntKind.wrap_i64]; have := HS.out; omega
  go_enter Try.func72, Try.ntmps72
  go_wp2_with fail
  clear hw0
  go_loopg [5] (s.size + 1) (fun gm v wr => ∃ (k : Nat) (x : Int), v = .int .i64 x ∧ wr = w ∧ Hid (x = (k : Int) - 1) ∧ Hid (k ≤ s.size ∧ gm = k + 1) ∧ Hid (∀ j, k ≤ j → j < s.size → s.get! j ≠ 10))
  case atStart => exact ⟨s.size, _, rfl, rfl, rfl, ⟨Nat.le_refl _, rfl⟩, fun j h1 h2 => by omega⟩
  case round =>
    obtain ⟨k, x, rfl, rfl, HX, HK, HN⟩ := hrel
    cases k with
    | zero =>
      have hx : x = -1 := by rw [HX.out]; rfl
      subst hx
      have HL : Hid (lastL [] s.data.toList = s.data.toList.drop 0) := lastL_at _ 0 (by omega) (fun j h1 h2 => by
        have := HN.out j h1 (by rw [Array.length_toList] at h2; exact h2)
        rw [get_list s j (by rw [Array.length_toList] at h2; exact h2)] at this
        exact this) (.inl rfl)
      go_wp2_with fail
      go_ret
      exact ⟨0, rfl, rfl, Nat.zero_le _, HL.out⟩
    | succ k =>
      have hx : x = (k : Int) := by rw [HX.out]; omega
      subst hx
      have hk : k < s.size := by have := HK.out.1; omega
      have e1 : decide ((0 : Int) ≤ (k : Int)) = true := by rw [decide_eq_true_eq]; omega
      have hix := idx_fact s k hk
      have hw1 : IntKind.i64.wrap ((k : Int) - 1) = (k : Int) - 1 := by rw [IntKind.wrap_i64]; have := HS.out; omega
      obtain ⟨c, hc⟩ : ∃ c, s.get! k = c := ⟨_, rfl⟩
      rw [hc] at hix
      have HC : Hid (s.get! k = c) := hc
      have HKS : Hid (k < s.size) := hk
      clear hc hk
      by_cases h10 : c = 10
      · have e2 : ((c.toNat : Int) == 10) = true := by rw [show (10 : Int) = ((10 : Nat) : Int) by rfl, u8_eq c 10 (by decide), decide_eq_true_eq, h10]; rfl
        have HL : Hid (lastL [] s.data.toList = s.data.toList.drop (k + 1)) := lastL_at _ (k + 1) (by rw [Array.length_toList]; exact HKS.out) (fun j h1 h2 => by
          have h3 : j < s.size := by rw [Array.length_toList] at h2; exact h2
          have := HN.out j h1 h3
          rw [get_list s j h3] at this
          exact this) (.inr ⟨by rw [Array.length_toList]; exact HKS.out, by
            have := get_list s k HKS.out
            rw [HC.out, h10] at this
            exact this.symm⟩)
        clear h10
        go_wp2_with fail
        go_ret
        exact ⟨k + 1, by rw [show ((k + 1 : Nat) : Int) - 1 = (k : Int) by omega]; rfl, rfl, HKS.out, HL.out⟩
      · have e2 : ((c.toNat : Int) == 10) = false := by rw [show (10 : Int) = ((10 : Nat) : Int) by rfl, u8_eq c 10 (by decide), decide_eq_false_iff_not]; exact h10
        have HNE : Hid (c ≠ 10) := h10
        clear h10
        go_wp2_with fail
        go_roundg (k + 1)
        case measure => have := HK.out; omega
        case rel => exact ⟨k, _, rfl, rfl, rfl, ⟨Nat.le_of_lt HKS.out, rfl⟩, fun j h1 h2 => (by omega : k + 1 ≤ j ∨ j = k).elim (fun h => HN.out j h h2) (fun e => by rw [e, HC.out]; exact HNE.out)⟩

set_option maxHeartbeats 1000000 in
theorem lastIxb_any (s : ByteArray) (hs : s.size ≤ 4611686018427387904) (w : World) : Calls Try.prog 60 #[.string s, .int .u8 10] w fun e w' => ∃ k : Nat, e = .returned (.int .i64 ((k : Int) - 1)) ∧ w' = w ∧ k ≤ s.size ∧ lastL [] s.data.toList = s.data.toList.drop k := by
  go_enter Try.func60, Try.ntmps60
  go_wp2_with fail
  refine (lastIx_any s hs w).mono ?_
  rintro e w9 ⟨k, rfl, rfl, h1, h2⟩
  have H1 : Hid _ := h1
  have H2 : Hid _ := h2
  clear h1 h2
  go_wp2_with fail
  go_ret
  exact ⟨k, rfl, rfl, H1.out, H2.out⟩

theorem wid_snoc (l : List UInt8) (i : Nat) (h : i < l.length) : wid 0 (l.take (i + 1)) = if l[i] = 9 then wid 0 (l.take i) + (8 - wid 0 (l.take i) % 8) else wid 0 (l.take i) + 1 := by
  rw [List.take_add_one, List.getElem?_eq_getElem h, wid_app]
  rfl

set_option maxRecDepth 100000 in
set_option maxHeartbeats 4000000 in
theorem width_any (s : ByteArray) (hs : s.size ≤ 4611686018427387904) (w : World) : Calls Try.prog 59 #[.string s] w fun e w' => ∃ x : Nat, e = .returned (.int .i64 (x : Int)) ∧ w' = w ∧ ((x = wid 0 s.data.toList ∧ x ≤ 65536) ∨ (65536 < x ∧ 65536 < wid 0 s.data.toList)) := by
  have HS : Hid (s.size ≤ 4611686018427387904) := hs
  clear hs
  go_enter Try.func59, Try.ntmps59
  go_wp2_with fail
  go_loopg [3, 4] s.size (fun gm v3 v4 wr => ∃ i x : Nat, v3 = .int .i64 (x : Int) ∧ v4 = .int .i64 (i : Int) ∧ wr = w ∧ Hid (x = wid 0 (s.data.toList.take i)) ∧ Hid (i ≤ s.size ∧ gm = s.size - i))
  case atStart => exact ⟨0, 0, rfl, rfl, rfl, rfl, ⟨Nat.zero_le _, rfl⟩⟩
  case round =>
    obtain ⟨i, x, rfl, rfl, rfl, HX, HI⟩ := hrel
    by_cases hi : i < s.size
    · have e1 : decide ((i : Int) < (s.size : Int)) = true := by rw [decide_eq_true_eq]; omega
      have e2 : decide (i < s.size) = true := by rw [decide_eq_true_eq]; omega
      have HIL : Hid (i < s.size) := hi
      by_cases hx : x ≤ 65536
      · have f1 : decide ((x : Int) ≤ 65536) = true := by rw [decide_eq_true_eq]; omega
        have f2 : decide (x ≤ 65536) = true := by rw [decide_eq_true_eq]; omega
        have hwi := w64n i (by have := HS.out; omega)
        have hwx := w64n x (by omega)
        have hix := idx_fact s i hi
        have HW : Hid (wid 0 (s.data.toList.take (i + 1)) = if s.get! i = 9 then x + (8 - x % 8) else x + 1) := by
          rw [wid_snoc _ i (by rw [Array.length_toList]; exact hi), ← get_list s i hi, ← HX.out]; exact rfl
        obtain ⟨c, hc⟩ : ∃ c, s.get! i = c := ⟨_, rfl⟩
        rw [hc] at hix HW
        have hr : (x : Int) % 8 = ((x % 8 : Nat) : Int) := by omega
        have hr2 : Int.tmod (x : Int) 8 = ((x % 8 : Nat) : Int) := by rw [Int.tmod_eq_emod_of_nonneg (by omega)]; omega
        have hw8 : IntKind.i64.wrap (8 - ((x % 8 : Nat) : Int)) = ((8 - x % 8 : Nat) : Int) := by rw [IntKind.wrap_i64]; omega
        have hwa : IntKind.i64.wrap ((x : Int) + ((8 - x % 8 : Nat) : Int)) = ((x + (8 - x % 8) : Nat) : Int) := by rw [IntKind.wrap_i64]; omega
        have HZ : Hid (wrap64 ((x : Int) + (8 - (x : Int) % 8)) = ((x + (8 - x % 8) : Nat) : Int)) := by show _ = _; unfold wrap64; omega
        clear hc hi hx hr
        by_cases h9 : c = 9
        · have g1 : ((c.toNat : Int) == 9) = true := by rw [show (9 : Int) = ((9 : Nat) : Int) by rfl, u8_eq c 9 (by decide), decide_eq_true_eq, h9]; rfl
          rw [if_pos h9] at HW
          clear h9
          go_wp2_with fail
          go_roundg (s.size - (i + 1))
          case measure => have := HI.out; have := HIL.out; omega
          case rel => exact ⟨i + 1, x + (8 - x % 8), by first | rfl | (rw [HZ.out]), by first | rfl | (rw [show (i : Int) + 1 = ((i + 1 : Nat) : Int) by omega]), rfl, HW.out.symm, ⟨HIL.out, rfl⟩⟩
        · have g1 : ((c.toNat : Int) == 9) = false := by rw [show (9 : Int) = ((9 : Nat) : Int) by rfl, u8_eq c 9 (by decide), decide_eq_false_iff_not]; exact h9
          rw [if_neg h9] at HW
          clear h9
          go_wp2_with fail
          go_roundg (s.size - (i + 1))
          case measure => have := HI.out; have := HIL.out; omega
          case rel => exact ⟨i + 1, x + 1, by first | rfl | (congr 1; omega), by first | rfl | (rw [show (i : Int) + 1 = ((i + 1 : Nat) : Int) by omega]), rfl, HW.out.symm, ⟨HIL.out, rfl⟩⟩
      · have f1 : decide ((x : Int) ≤ 65536) = false := by rw [decide_eq_false_iff_not]; omega
        have f2 : decide (x ≤ 65536) = false := by rw [decide_eq_false_iff_not]; omega
        have HXX : Hid (65536 < x) := by show 65536 < x; omega
        clear hi hx
        go_wp2_with fail
        go_ret
        refine ⟨x, rfl, rfl, .inr ⟨HXX.out, ?_⟩⟩
        have := wid_take s.data.toList i
        rw [← HX.out] at this
        have := HXX.out
        omega
    · have e1 : decide ((i : Int) < (s.size : Int)) = false := by rw [decide_eq_false_iff_not]; omega
      have e2 : decide (i < s.size) = false := by rw [decide_eq_false_iff_not]; omega
      have HXE : Hid (x = wid 0 s.data.toList) := by
        rw [HX.out, List.take_of_length_le (by rw [Array.length_toList]; show s.size ≤ i; omega)]; exact rfl
      clear hi
      go_wp2_with fail
      go_ret
      refine ⟨x, rfl, rfl, ?_⟩
      by_cases h : x ≤ 65536
      · exact .inl ⟨HXE.out, h⟩
      · exact .inr ⟨by omega, by rw [← HXE.out]; omega⟩

end Go.Proofs.Ytkaciochlemjiab
