import Derived.Test.YtkjljnneghnpiaaZext
namespace Go.Proofs.Ytkjljnneghnpiaa.Rg
open Go.RowKit
set_option maxRecDepth 100000 in
set_option maxHeartbeats 4000000 in
theorem extent_un (op : Int) (m : Nat → Bool) (a b : Int) (z : List Nat) (r : Nat) (w : World) (h : op = 5 ∨ op = 6 ∨ op = 7) (hz : ZAt w r z) (hok : Zok z) (hlen : z.length ≤ 128) : Calls Try.prog 46 #[ndV op m a b, .int .i64 (z.length : Int), .slice (some ⟨r, 0, none⟩) z.length 128] w fun e w' => ExtRes ⟨op, m, a, b⟩ z w e w' := by
  have hbq := cv_bare m
  obtain ⟨d, hd⟩ : ∃ d, d = bl m := ⟨_, rfl⟩
  rw [← hd] at hbq
  have HD : Hid _ := hd
  clear hd
  obtain ⟨i, hi⟩ : ∃ i, i = z.length := ⟨_, rfl⟩
  rw [← hi]
  have HI : Hid _ := hi
  have HL : Hid (i ≤ 128) := by rw [hi]; exact hlen
  have HZ : Hid _ := hz
  have HO : Hid _ := hok
  clear hi hlen hz hok
  have h1 : ¬ (op = 1 ∨ op = 2) := by omega
  have no : Hid (¬ (d = true ∧ 1 ≤ i ∧ a = (i : Int) - 1 ∧ b = -1) → ext ⟨op, m, a, b⟩ z = none) := by
    intro hn
    unfold ext
    rw [if_neg h1, if_pos h, if_neg (by rw [← HD.out, ← HI.out]; exact hn)]
  have yes : Hid ((d = true ∧ 1 ≤ i ∧ a = (i : Int) - 1 ∧ b = -1) → ext ⟨op, m, a, b⟩ z = some (z.getD (i - 1) 0 + 1)) := by
    intro hn
    unfold ext
    rw [if_neg h1, if_pos h, if_pos (by rw [← HD.out, ← HI.out]; exact hn), ← HI.out]
  clear h1
  rcases h with rfl | rfl | rfl
  · cases d
    · have hn := no.out (by rintro ⟨h, _⟩; cases h)
      have HY : Hid _ := hn
      clear hn
      go_enter Try.func46, Try.ntmps46
      go_wp2_with fail
      go_ret2
      exact ext_no HY.out (bel_up _ _)
    · rcases Nat.eq_zero_or_pos i with rfl | hpos
      · have hn := no.out (by rintro ⟨_, h, _⟩; omega)
        have HY : Hid _ := hn
        clear hn
        go_enter Try.func46, Try.ntmps46
        go_wp2_with fail
        go_ret2
        exact ext_no HY.out (bel_up _ _)
      · obtain ⟨j, hij⟩ : ∃ j, i = j + 1 := ⟨i - 1, by omega⟩
        have hlt1 : decide ((i : Int) < 1) = false := by rw [decide_eq_false_iff_not]; omega
        have hjw : wrap64 ((i : Int) - 1) = (j : Int) := by have := HL.out; unfold wrap64; omega
        have hji : j < i := by omega
        have HIJ : Hid _ := hij
        clear hpos hij
        by_cases ha : a = (j : Int)
        · subst ha
          by_cases hb : b = -1
          · subst hb
            have hy := yes.out ⟨rfl, by omega, by have := HIJ.out; omega, rfl⟩
            have HY : Hid _ := hy
            have cj := HZ.out.at' j (by have := HI.out; omega)
            have cj2 := cell_up (.cells #[.int .i64 5, .int .u64 (wd m 0 : Nat), .int .u64 (wd m 1 : Nat), .int .u64 (wd m 2 : Nat), .int .u64 (wd m 3 : Nat), .int .i64 (j : Int), .int .i64 (-1)] 58) cj
            have hs := HO.out j (by have := HI.out; omega)
            obtain ⟨s, hs0⟩ : ∃ s, s = z.getD j 0 := ⟨_, rfl⟩
            rw [← hs0] at cj2 hs
            have HS0 : Hid _ := hs0
            have hws : wrap64 ((s : Int) + 1) = ((s + 1 : Nat) : Int) := w64 s (by have := HL.out; omega)
            clear hy hs0 cj hs
            go_enter Try.func46, Try.ntmps46
            go_wp2_with fail
            go_ret2
            exact ext_yes (s := s + 1) (by rw [HY.out, HS0.out, show i - 1 = j by have := HIJ.out; omega]) (bel_up _ _)
          · have hn := no.out (by rintro ⟨_, _, _, h⟩; exact hb h)
            have HY : Hid _ := hn
            have hb3 : (b != -1) = true := by simpa using hb
            clear hn hb
            go_enter Try.func46, Try.ntmps46
            go_wp2_with fail
            go_ret2
            exact ext_no HY.out (bel_up _ _)
        · have hn := no.out (by rintro ⟨_, _, h, _⟩; exact ha (by have := HIJ.out; omega))
          have HY : Hid _ := hn
          have ha3 : (a != (j : Int)) = true := by simpa using ha
          clear hn ha
          go_enter Try.func46, Try.ntmps46
          go_wp2_with fail
          go_ret2
          exact ext_no HY.out (bel_up _ _)
  · cases d
    · have hn := no.out (by rintro ⟨h, _⟩; cases h)
      have HY : Hid _ := hn
      clear hn
      go_enter Try.func46, Try.ntmps46
      go_wp2_with fail
      go_ret2
      exact ext_no HY.out (bel_up _ _)
    · rcases Nat.eq_zero_or_pos i with rfl | hpos
      · have hn := no.out (by rintro ⟨_, h, _⟩; omega)
        have HY : Hid _ := hn
        clear hn
        go_enter Try.func46, Try.ntmps46
        go_wp2_with fail
        go_ret2
        exact ext_no HY.out (bel_up _ _)
      · obtain ⟨j, hij⟩ : ∃ j, i = j + 1 := ⟨i - 1, by omega⟩
        have hlt1 : decide ((i : Int) < 1) = false := by rw [decide_eq_false_iff_not]; omega
        have hjw : wrap64 ((i : Int) - 1) = (j : Int) := by have := HL.out; unfold wrap64; omega
        have hji : j < i := by omega
        have HIJ : Hid _ := hij
        clear hpos hij
        by_cases ha : a = (j : Int)
        · subst ha
          by_cases hb : b = -1
          · subst hb
            have hy := yes.out ⟨rfl, by omega, by have := HIJ.out; omega, rfl⟩
            have HY : Hid _ := hy
            have cj := HZ.out.at' j (by have := HI.out; omega)
            have cj2 := cell_up (.cells #[.int .i64 6, .int .u64 (wd m 0 : Nat), .int .u64 (wd m 1 : Nat), .int .u64 (wd m 2 : Nat), .int .u64 (wd m 3 : Nat), .int .i64 (j : Int), .int .i64 (-1)] 58) cj
            have hs := HO.out j (by have := HI.out; omega)
            obtain ⟨s, hs0⟩ : ∃ s, s = z.getD j 0 := ⟨_, rfl⟩
            rw [← hs0] at cj2 hs
            have HS0 : Hid _ := hs0
            have hws : wrap64 ((s : Int) + 1) = ((s + 1 : Nat) : Int) := w64 s (by have := HL.out; omega)
            clear hy hs0 cj hs
            go_enter Try.func46, Try.ntmps46
            go_wp2_with fail
            go_ret2
            exact ext_yes (s := s + 1) (by rw [HY.out, HS0.out, show i - 1 = j by have := HIJ.out; omega]) (bel_up _ _)
          · have hn := no.out (by rintro ⟨_, _, _, h⟩; exact hb h)
            have HY : Hid _ := hn
            have hb3 : (b != -1) = true := by simpa using hb
            clear hn hb
            go_enter Try.func46, Try.ntmps46
            go_wp2_with fail
            go_ret2
            exact ext_no HY.out (bel_up _ _)
        · have hn := no.out (by rintro ⟨_, _, h, _⟩; exact ha (by have := HIJ.out; omega))
          have HY : Hid _ := hn
          have ha3 : (a != (j : Int)) = true := by simpa using ha
          clear hn ha
          go_enter Try.func46, Try.ntmps46
          go_wp2_with fail
          go_ret2
          exact ext_no HY.out (bel_up _ _)
  · cases d
    · have hn := no.out (by rintro ⟨h, _⟩; cases h)
      have HY : Hid _ := hn
      clear hn
      go_enter Try.func46, Try.ntmps46
      go_wp2_with fail
      go_ret2
      exact ext_no HY.out (bel_up _ _)
    · rcases Nat.eq_zero_or_pos i with rfl | hpos
      · have hn := no.out (by rintro ⟨_, h, _⟩; omega)
        have HY : Hid _ := hn
        clear hn
        go_enter Try.func46, Try.ntmps46
        go_wp2_with fail
        go_ret2
        exact ext_no HY.out (bel_up _ _)
      · obtain ⟨j, hij⟩ : ∃ j, i = j + 1 := ⟨i - 1, by omega⟩
        have hlt1 : decide ((i : Int) < 1) = false := by rw [decide_eq_false_iff_not]; omega
        have hjw : wrap64 ((i : Int) - 1) = (j : Int) := by have := HL.out; unfold wrap64; omega
        have hji : j < i := by omega
        have HIJ : Hid _ := hij
        clear hpos hij
        by_cases ha : a = (j : Int)
        · subst ha
          by_cases hb : b = -1
          · subst hb
            have hy := yes.out ⟨rfl, by omega, by have := HIJ.out; omega, rfl⟩
            have HY : Hid _ := hy
            have cj := HZ.out.at' j (by have := HI.out; omega)
            have cj2 := cell_up (.cells #[.int .i64 7, .int .u64 (wd m 0 : Nat), .int .u64 (wd m 1 : Nat), .int .u64 (wd m 2 : Nat), .int .u64 (wd m 3 : Nat), .int .i64 (j : Int), .int .i64 (-1)] 58) cj
            have hs := HO.out j (by have := HI.out; omega)
            obtain ⟨s, hs0⟩ : ∃ s, s = z.getD j 0 := ⟨_, rfl⟩
            rw [← hs0] at cj2 hs
            have HS0 : Hid _ := hs0
            have hws : wrap64 ((s : Int) + 1) = ((s + 1 : Nat) : Int) := w64 s (by have := HL.out; omega)
            clear hy hs0 cj hs
            go_enter Try.func46, Try.ntmps46
            go_wp2_with fail
            go_ret2
            exact ext_yes (s := s + 1) (by rw [HY.out, HS0.out, show i - 1 = j by have := HIJ.out; omega]) (bel_up _ _)
          · have hn := no.out (by rintro ⟨_, _, _, h⟩; exact hb h)
            have HY : Hid _ := hn
            have hb3 : (b != -1) = true := by simpa using hb
            clear hn hb
            go_enter Try.func46, Try.ntmps46
            go_wp2_with fail
            go_ret2
            exact ext_no HY.out (bel_up _ _)
        · have hn := no.out (by rintro ⟨_, _, h, _⟩; exact ha (by have := HIJ.out; omega))
          have HY : Hid _ := hn
          have ha3 : (a != (j : Int)) = true := by simpa using ha
          clear hn ha
          go_enter Try.func46, Try.ntmps46
          go_wp2_with fail
          go_ret2
          exact ext_no HY.out (bel_up _ _)
set_option maxRecDepth 100000 in
set_option maxHeartbeats 4000000 in
theorem extent_bin (op : Int) (m : Nat → Bool) (a b : Int) (z : List Nat) (r : Nat) (w : World) (h : op = 3 ∨ op = 4) (hz : ZAt w r z) (hok : Zok z) (hlen : z.length ≤ 128) : Calls Try.prog 46 #[ndV op m a b, .int .i64 (z.length : Int), .slice (some ⟨r, 0, none⟩) z.length 128] w fun e w' => ExtRes ⟨op, m, a, b⟩ z w e w' := by
  have hbq := cv_bare m
  obtain ⟨d, hd⟩ : ∃ d, d = bl m := ⟨_, rfl⟩
  rw [← hd] at hbq
  have HD : Hid _ := hd
  clear hd
  obtain ⟨i, hi⟩ : ∃ i, i = z.length := ⟨_, rfl⟩
  rw [← hi]
  have HI : Hid _ := hi
  have HL : Hid (i ≤ 128) := by rw [hi]; exact hlen
  have HZ : Hid _ := hz
  have HO : Hid _ := hok
  clear hi hlen hz hok
  have h1 : ¬ (op = 1 ∨ op = 2) := by omega
  have h5 : ¬ (op = 5 ∨ op = 6 ∨ op = 7) := by omega
  have no : Hid (¬ (d = true ∧ 2 ≤ i ∧ b = (i : Int) - 1 ∧ z.getD (i - 1) 0 + 1 ≤ i ∧ a = (i : Int) - 1 - (z.getD (i - 1) 0 : Nat)) → ext ⟨op, m, a, b⟩ z = none) := by
    intro hn
    unfold ext
    rw [if_neg h1, if_neg h5, if_pos h, if_neg (by rw [← HD.out, ← HI.out]; exact hn)]
  have yes : Hid ((d = true ∧ 2 ≤ i ∧ b = (i : Int) - 1 ∧ z.getD (i - 1) 0 + 1 ≤ i ∧ a = (i : Int) - 1 - (z.getD (i - 1) 0 : Nat)) → ext ⟨op, m, a, b⟩ z = some (z.getD (i - 1 - z.getD (i - 1) 0) 0 + z.getD (i - 1) 0 + 1)) := by
    intro hn
    unfold ext
    rw [if_neg h1, if_neg h5, if_pos h, if_pos (by rw [← HD.out, ← HI.out]; exact hn), ← HI.out]
  clear h1 h5
  rcases h with rfl | rfl
  · cases d
    · have hn := no.out (by rintro ⟨h, _⟩; cases h)
      have HY : Hid _ := hn
      clear hn
      go_enter Try.func46, Try.ntmps46
      go_wp2_with fail
      go_ret2
      exact ext_no HY.out (bel_up _ _)
    · by_cases hi2 : i < 2
      · have hn := no.out (by rintro ⟨_, h, _⟩; omega)
        have HY : Hid _ := hn
        have hlt1 : decide ((i : Int) < 2) = true := by rw [decide_eq_true_eq]; omega
        clear hn hi2
        go_enter Try.func46, Try.ntmps46
        go_wp2_with fail
        go_ret2
        exact ext_no HY.out (bel_up _ _)
      · obtain ⟨j, hij⟩ : ∃ j, i = j + 1 := ⟨i - 1, by omega⟩
        have hlt1 : decide ((i : Int) < 2) = false := by rw [decide_eq_false_iff_not]; omega
        have hjw : wrap64 ((i : Int) - 1) = (j : Int) := by have := HL.out; unfold wrap64; omega
        have hji : j < i := by omega
        have HIJ : Hid _ := hij
        have HI2 : Hid _ := hi2
        clear hi2 hij
        by_cases hb : b = (j : Int)
        · subst hb
          have cj := HZ.out.at' j (by have := HI.out; omega)
          have hs := HO.out j (by have := HI.out; omega)
          have ij : i - 1 = j := by have := HIJ.out; omega
          rw [ij] at no yes
          clear ij
          obtain ⟨s, hs0⟩ : ∃ s, s = z.getD j 0 := ⟨_, rfl⟩
          rw [← hs0] at cj hs no yes
          have HS0 : Hid _ := hs0
          have HS : Hid _ := hs
          clear hs0 hs
          by_cases hsj : s ≤ j
          · obtain ⟨t, ht⟩ : ∃ t, t = j - s := ⟨_, rfl⟩
            have hjs : wrap64 ((j : Int) - (s : Int)) = (t : Int) := by have := HL.out; have := HIJ.out; unfold wrap64; omega
            have ht0 : decide ((t : Int) < 0) = false := by rw [decide_eq_false_iff_not]; omega
            have HT : Hid _ := ht
            have HSJ : Hid _ := hsj
            clear ht hsj
            by_cases ha : a = (t : Int)
            · subst ha
              have hy := yes.out ⟨rfl, by have h2 : ¬ i < 2 := HI2.out; omega, by have := HIJ.out; omega, by have := HIJ.out; have := HSJ.out; omega, by have := HT.out; have := HSJ.out; have := HIJ.out; omega⟩
              rw [← HT.out] at hy
              have HY : Hid _ := hy
              have ct := HZ.out.at' t (by have := HI.out; have := HT.out; omega)
              have hu := HO.out t (by have := HI.out; have := HT.out; omega)
              have hti : t < i := by have := HT.out; omega
              obtain ⟨u, hu0⟩ : ∃ u, u = z.getD t 0 := ⟨_, rfl⟩
              rw [← hu0] at ct hu
              have HU0 : Hid _ := hu0
              have cj2 := cell_up (.cells #[.int .i64 3, .int .u64 (wd m 0 : Nat), .int .u64 (wd m 1 : Nat), .int .u64 (wd m 2 : Nat), .int .u64 (wd m 3 : Nat), .int .i64 (t : Int), .int .i64 (j : Int)] 58) cj
              have ct2 := cell_up (.cells #[.int .i64 3, .int .u64 (wd m 0 : Nat), .int .u64 (wd m 1 : Nat), .int .u64 (wd m 2 : Nat), .int .u64 (wd m 3 : Nat), .int .i64 (t : Int), .int .i64 (j : Int)] 58) ct
              have hw1 : wrap64 ((u : Int) + (s : Int)) = ((u + s : Nat) : Int) := w64a u s (by have := HL.out; have := HS.out; omega)
              have hw2 : wrap64 (((u + s : Nat) : Int) + 1) = ((u + s + 1 : Nat) : Int) := w64 (u + s) (by have := HL.out; have := HS.out; omega)
              obtain ⟨us, hus⟩ : ∃ us, us = u + s := ⟨_, rfl⟩
              rw [← hus] at hw1 hw2
              have HUS : Hid _ := hus
              clear hus hy hu0 hu cj ct
              go_enter Try.func46, Try.ntmps46
              go_wp2_with fail
              go_region
              go_wp2_with fail
              go_ret2
              have q := fun w' hb => ext_yes (n := ⟨3, m, (t : Int), (j : Int)⟩) (z := z) (W := w) (w' := w') (s := us + 1) (by rw [HY.out, HUS.out, HU0.out]) hb
              rw [← hw2] at q
              exact q _ (Below.drew (bel_up _ _))
            · have hn := no.out (by rintro ⟨_, _, _, _, h⟩; exact ha (by have := HT.out; have := HSJ.out; have := HIJ.out; omega))
              have HY : Hid _ := hn
              have ha3 : (a != (t : Int)) = true := by simpa using ha
              have cj2 := cell_up (.cells #[.int .i64 3, .int .u64 (wd m 0 : Nat), .int .u64 (wd m 1 : Nat), .int .u64 (wd m 2 : Nat), .int .u64 (wd m 3 : Nat), .int .i64 a, .int .i64 (j : Int)] 58) cj
              clear hn ha cj
              go_enter Try.func46, Try.ntmps46
              go_wp2_with fail
              go_ret2
              exact ext_no HY.out (bel_up _ _)
          · have hn := no.out (by rintro ⟨_, _, _, h, _⟩; have := HIJ.out; omega)
            have HY : Hid _ := hn
            have hjs : wrap64 ((j : Int) - (s : Int)) = -1 := by have := HL.out; have := HIJ.out; have := HS.out; unfold wrap64; omega
            have cj2 := cell_up (.cells #[.int .i64 3, .int .u64 (wd m 0 : Nat), .int .u64 (wd m 1 : Nat), .int .u64 (wd m 2 : Nat), .int .u64 (wd m 3 : Nat), .int .i64 a, .int .i64 (j : Int)] 58) cj
            clear hn hsj cj
            go_enter Try.func46, Try.ntmps46
            go_wp2_with fail
            go_ret2
            exact ext_no HY.out (bel_up _ _)
        · have hn := no.out (by rintro ⟨_, _, h, _⟩; exact hb (by have := HIJ.out; omega))
          have HY : Hid _ := hn
          have hb3 : (b != (j : Int)) = true := by simpa using hb
          clear hn hb
          go_enter Try.func46, Try.ntmps46
          go_wp2_with fail
          go_ret2
          exact ext_no HY.out (bel_up _ _)
  · cases d
    · have hn := no.out (by rintro ⟨h, _⟩; cases h)
      have HY : Hid _ := hn
      clear hn
      go_enter Try.func46, Try.ntmps46
      go_wp2_with fail
      go_ret2
      exact ext_no HY.out (bel_up _ _)
    · by_cases hi2 : i < 2
      · have hn := no.out (by rintro ⟨_, h, _⟩; omega)
        have HY : Hid _ := hn
        have hlt1 : decide ((i : Int) < 2) = true := by rw [decide_eq_true_eq]; omega
        clear hn hi2
        go_enter Try.func46, Try.ntmps46
        go_wp2_with fail
        go_ret2
        exact ext_no HY.out (bel_up _ _)
      · obtain ⟨j, hij⟩ : ∃ j, i = j + 1 := ⟨i - 1, by omega⟩
        have hlt1 : decide ((i : Int) < 2) = false := by rw [decide_eq_false_iff_not]; omega
        have hjw : wrap64 ((i : Int) - 1) = (j : Int) := by have := HL.out; unfold wrap64; omega
        have hji : j < i := by omega
        have HIJ : Hid _ := hij
        have HI2 : Hid _ := hi2
        clear hi2 hij
        by_cases hb : b = (j : Int)
        · subst hb
          have cj := HZ.out.at' j (by have := HI.out; omega)
          have hs := HO.out j (by have := HI.out; omega)
          have ij : i - 1 = j := by have := HIJ.out; omega
          rw [ij] at no yes
          clear ij
          obtain ⟨s, hs0⟩ : ∃ s, s = z.getD j 0 := ⟨_, rfl⟩
          rw [← hs0] at cj hs no yes
          have HS0 : Hid _ := hs0
          have HS : Hid _ := hs
          clear hs0 hs
          by_cases hsj : s ≤ j
          · obtain ⟨t, ht⟩ : ∃ t, t = j - s := ⟨_, rfl⟩
            have hjs : wrap64 ((j : Int) - (s : Int)) = (t : Int) := by have := HL.out; have := HIJ.out; unfold wrap64; omega
            have ht0 : decide ((t : Int) < 0) = false := by rw [decide_eq_false_iff_not]; omega
            have HT : Hid _ := ht
            have HSJ : Hid _ := hsj
            clear ht hsj
            by_cases ha : a = (t : Int)
            · subst ha
              have hy := yes.out ⟨rfl, by have h2 : ¬ i < 2 := HI2.out; omega, by have := HIJ.out; omega, by have := HIJ.out; have := HSJ.out; omega, by have := HT.out; have := HSJ.out; have := HIJ.out; omega⟩
              rw [← HT.out] at hy
              have HY : Hid _ := hy
              have ct := HZ.out.at' t (by have := HI.out; have := HT.out; omega)
              have hu := HO.out t (by have := HI.out; have := HT.out; omega)
              have hti : t < i := by have := HT.out; omega
              obtain ⟨u, hu0⟩ : ∃ u, u = z.getD t 0 := ⟨_, rfl⟩
              rw [← hu0] at ct hu
              have HU0 : Hid _ := hu0
              have cj2 := cell_up (.cells #[.int .i64 4, .int .u64 (wd m 0 : Nat), .int .u64 (wd m 1 : Nat), .int .u64 (wd m 2 : Nat), .int .u64 (wd m 3 : Nat), .int .i64 (t : Int), .int .i64 (j : Int)] 58) cj
              have ct2 := cell_up (.cells #[.int .i64 4, .int .u64 (wd m 0 : Nat), .int .u64 (wd m 1 : Nat), .int .u64 (wd m 2 : Nat), .int .u64 (wd m 3 : Nat), .int .i64 (t : Int), .int .i64 (j : Int)] 58) ct
              have hw1 : wrap64 ((u : Int) + (s : Int)) = ((u + s : Nat) : Int) := w64a u s (by have := HL.out; have := HS.out; omega)
              have hw2 : wrap64 (((u + s : Nat) : Int) + 1) = ((u + s + 1 : Nat) : Int) := w64 (u + s) (by have := HL.out; have := HS.out; omega)
              obtain ⟨us, hus⟩ : ∃ us, us = u + s := ⟨_, rfl⟩
              rw [← hus] at hw1 hw2
              have HUS : Hid _ := hus
              clear hus hy hu0 hu cj ct
              go_enter Try.func46, Try.ntmps46
              go_wp2_with fail
              go_region
              go_wp2_with fail
              go_ret2
              have q := fun w' hb => ext_yes (n := ⟨4, m, (t : Int), (j : Int)⟩) (z := z) (W := w) (w' := w') (s := us + 1) (by rw [HY.out, HUS.out, HU0.out]) hb
              rw [← hw2] at q
              exact q _ (Below.drew (bel_up _ _))
            · have hn := no.out (by rintro ⟨_, _, _, _, h⟩; exact ha (by have := HT.out; have := HSJ.out; have := HIJ.out; omega))
              have HY : Hid _ := hn
              have ha3 : (a != (t : Int)) = true := by simpa using ha
              have cj2 := cell_up (.cells #[.int .i64 4, .int .u64 (wd m 0 : Nat), .int .u64 (wd m 1 : Nat), .int .u64 (wd m 2 : Nat), .int .u64 (wd m 3 : Nat), .int .i64 a, .int .i64 (j : Int)] 58) cj
              clear hn ha cj
              go_enter Try.func46, Try.ntmps46
              go_wp2_with fail
              go_ret2
              exact ext_no HY.out (bel_up _ _)
          · have hn := no.out (by rintro ⟨_, _, _, h, _⟩; have := HIJ.out; omega)
            have HY : Hid _ := hn
            have hjs : wrap64 ((j : Int) - (s : Int)) = -1 := by have := HL.out; have := HIJ.out; have := HS.out; unfold wrap64; omega
            have cj2 := cell_up (.cells #[.int .i64 4, .int .u64 (wd m 0 : Nat), .int .u64 (wd m 1 : Nat), .int .u64 (wd m 2 : Nat), .int .u64 (wd m 3 : Nat), .int .i64 a, .int .i64 (j : Int)] 58) cj
            clear hn hsj cj
            go_enter Try.func46, Try.ntmps46
            go_wp2_with fail
            go_ret2
            exact ext_no HY.out (bel_up _ _)
        · have hn := no.out (by rintro ⟨_, _, h, _⟩; exact hb (by have := HIJ.out; omega))
          have HY : Hid _ := hn
          have hb3 : (b != (j : Int)) = true := by simpa using hb
          clear hn hb
          go_enter Try.func46, Try.ntmps46
          go_wp2_with fail
          go_ret2
          exact ext_no HY.out (bel_up _ _)
set_option maxRecDepth 100000 in
set_option maxHeartbeats 4000000 in
theorem extent_other (op : Int) (m : Nat → Bool) (a b : Int) (z : List Nat) (r : Nat) (w : World) (h : ¬ (1 ≤ op ∧ op ≤ 7)) : Calls Try.prog 46 #[ndV op m a b, .int .i64 (z.length : Int), .slice (some ⟨r, 0, none⟩) z.length 128] w fun e w' => ExtRes ⟨op, m, a, b⟩ z w e w' := by
  have hbq := cv_bare m
  obtain ⟨d, hd⟩ : ∃ d, d = bl m := ⟨_, rfl⟩
  rw [← hd] at hbq
  clear hd
  have hn : ext ⟨op, m, a, b⟩ z = none := by
    unfold ext
    rw [if_neg (by dsimp only; omega), if_neg (by dsimp only; omega), if_neg (by dsimp only; omega)]
  have HY : Hid _ := hn
  have e1 : (op == 1) = false := by rw [beq_eq_false_iff_ne]; omega
  have e2 : (op == 2) = false := by rw [beq_eq_false_iff_ne]; omega
  have e3 : (op == 3) = false := by rw [beq_eq_false_iff_ne]; omega
  have e4 : (op == 4) = false := by rw [beq_eq_false_iff_ne]; omega
  have e5 : (op == 5) = false := by rw [beq_eq_false_iff_ne]; omega
  have e6 : (op == 6) = false := by rw [beq_eq_false_iff_ne]; omega
  have e7 : (op == 7) = false := by rw [beq_eq_false_iff_ne]; omega
  clear hn h
  go_enter Try.func46, Try.ntmps46
  go_wp2_with fail
  go_ret2
  exact ext_no HY.out (bel_up _ _)
theorem extent_any (op : Int) (m : Nat → Bool) (a b : Int) (z : List Nat) (r : Nat) (w : World) (hz : ZAt w r z) (hok : Zok z) (hlen : z.length ≤ 128) : Calls Try.prog 46 #[ndV op m a b, .int .i64 (z.length : Int), .slice (some ⟨r, 0, none⟩) z.length 128] w fun e w' => ExtRes ⟨op, m, a, b⟩ z w e w' := by
  by_cases h : 1 ≤ op ∧ op ≤ 7
  · rcases (by omega : (op = 1 ∨ op = 2) ∨ (op = 3 ∨ op = 4) ∨ (op = 5 ∨ op = 6 ∨ op = 7)) with h | h | h
    · exact extent_leaf op m a b z r w h
    · exact extent_bin op m a b z r w h hz hok hlen
    · exact extent_un op m a b z r w h hz hok hlen
  · exact extent_other op m a b z r w h
end Go.Proofs.Ytkjljnneghnpiaa.Rg
