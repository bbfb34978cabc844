import Derived.Test.YtjpmmihcnfedgaaOrig
import Derived.Test.YtjpmmihcnfedgaaMaps
namespace Go.Proofs.Ytjpmmihcnfedgaa
open Go.RowKit

set_option maxRecDepth 100000 in
set_option maxHeartbeats 1000000 in
theorem rmap_bad (n : Int) (p q : Int) (ins : ByteArray) (t : Int) (w : World) (hn : n < 0 ∨ 1048576 < n ∨ t < 0 ∨ n ≤ t) :
    Calls Try.prog 12 #[.int .i64 n, ed p q ins, .int .i64 t] w fun e w' => e = .returned (.tuple #[.int .i64 0, .bool false]) ∧ Below w.heap.size w w' := by
  by_cases h1 : n < 0
  · clear hn
    go_enter Try.func12, Try.ntmps12
    go_wp2_with fail
    go_ret2
    exact ⟨rfl, bel_up _ _⟩
  · by_cases h2 : 1048576 < n
    · clear hn
      go_enter Try.func12, Try.ntmps12
      go_wp2_with fail
      go_ret2
      exact ⟨rfl, bel_up _ _⟩
    · by_cases h3 : t < 0
      · clear hn
        go_enter Try.func12, Try.ntmps12
        go_wp2_with fail
        go_ret2
        exact ⟨rfl, bel_up _ _⟩
      · have h4 : n ≤ t := by omega
        clear hn
        go_enter Try.func12, Try.ntmps12
        go_wp2_with fail
        go_ret2
        exact ⟨rfl, bel_up _ _⟩

/-- the place at which a byte is found -/
theorem og_find (a d c n : Nat) (t : Int) (h : a + d ≤ n) (h0 : 0 ≤ t) (h1 : t < n) :
    (mvb t a d = true ∧ ∃ m : Nat, mvv t a d c = (m : Int) ∧ m < n - d + c ∧ og a d c m = t ∧ ∀ j, j < m → og a d c j ≠ t) ∨ (mvb t a d = false ∧ mvv t a d c = 0 ∧ ∀ j, j < n - d + c → og a d c j ≠ t) := by
  unfold mvb mvv og
  by_cases c1 : t < (a : Int)
  · left
    rw [if_pos c1, if_pos c1]
    refine ⟨rfl, t.toNat, by omega, by omega, by rw [if_pos (by omega)]; omega, fun j hj => by rw [if_pos (by omega)]; omega⟩
  · rw [if_neg c1, if_neg c1]
    by_cases c2 : t < (a : Int) + d
    · right
      rw [if_pos c2, if_pos c2]
      refine ⟨rfl, rfl, fun j hj => ?_⟩
      split
      · omega
      · split <;> omega
    · left
      rw [if_neg c2, if_neg c2]
      refine ⟨rfl, (t - d + c).toNat, by omega, by omega, by rw [if_neg (by omega), if_neg (by omega)]; omega, fun j hj => ?_⟩
      split
      · omega
      · split <;> omega

set_option maxRecDepth 1000000 in
set_option maxHeartbeats 2000000 in
theorem rmap_any (n : Nat) (p q : Int) (ins : ByteArray) (t : Int) (a d : Nat) (w : World) (hn : n ≤ 1048576) (hi : ins.size ≤ 1048576) (ha : ca n p = a) (hd : cd n p q = d) (h0 : 0 ≤ t) (h1 : t < n) :
    Calls Try.prog 12 #[.int .i64 (n : Int), ed p q ins, .int .i64 t] w fun e w' => e = .returned (.tuple #[.int .i64 (mvv t a d ins.size), .bool (mvb t a d)]) ∧ Below w.heap.size w w' := by
  have hle := cd_le n p q
  rw [ha, hd] at hle
  have C24 : Hid _ := fun W : World => origins_any n p q ins a d W hn hi ha hd
  have FD : Hid _ := og_find a d ins.size n t hle h0 h1
  have hN : n - d + ins.size ≤ 2097152 := by omega
  obtain ⟨N, hNe⟩ : ∃ N, n - d + ins.size = N := ⟨_, rfl⟩
  rw [hNe] at C24 FD hN
  clear hNe ha hd hle hi
  go_enter Try.func12, Try.ntmps12
  go_wp2_with fail
  refine (C24.out _).mono ?_
  rintro e' w1 ⟨v, rfl, hown, hb⟩
  have B1 : Hid (Below w.heap.size w w1) := below_trans (bel_up _ _) hb
  have HO : Hid (w1.ownsRow (w.alloc (.cells #[.int .i64 p, .int .i64 q, .string ins] 23)).heap.size 3 1 v N (ogs a d ins.size N)) := hown
  clear hb C24 hown
  obtain ⟨vp, vc, rfl⟩ := own_slice HO.out
  go_wp2_with fail
  go_loopg [9] N (fun g vi wr => ∃ i : Nat, vi = .int .i64 (i : Int) ∧ i ≤ N ∧ (∀ j, j < i → og a d ins.size j ≠ t) ∧ g = N - i ∧ wr = w1)
  case atStart => exact ⟨0, rfl, by omega, fun j hj => by omega, rfl, rfl⟩
  case round =>
    obtain ⟨i, rfl, hin, hno, hg, rfl⟩ := hrel
    have HNO : Hid (∀ j, j < i → og a d ins.size j ≠ t) := hno
    have HG : Hid _ := hg
    clear hno hg
    by_cases hi : i < N
    · have hiI : (i : Int) < (N : Int) := by omega
      have hil : i ≤ 2097152 := by omega
      obtain ⟨g, cap', hform, _, _, _⟩ := own_form HO.out (by omega)
      obtain ⟨rfl, rfl⟩ : vp = some ⟨g, 0, none⟩ ∧ vc = cap' := by
        injection hform with h1 h2 h3
        exact ⟨h1, h3⟩
      have k0 : wr.cell? ⟨g, i, none⟩ = some (.int .i64 (og a d ins.size i)) := by rw [HO.out.cellAt _ (by omega)]; exact ogs_at a d ins.size N i hi
      obtain ⟨y, hy⟩ : ∃ y, og a d ins.size i = y := ⟨_, rfl⟩
      rw [hy] at k0
      have HY : Hid _ := hy
      clear hform hy
      by_cases hyt : y = t
      · have hRES : Hid (mvv t a d ins.size = (i : Int) ∧ mvb t a d = true) := by
          rcases FD.out with ⟨f1, m, f2, f3, f4, f5⟩ | ⟨f1, f2, f3⟩
          · have : m = i := by
              rcases Nat.lt_trichotomy m i with h | h | h
              · exact absurd f4 (HNO.out m h)
              · exact h
              · exact absurd (HY.out.trans hyt) (f5 i h)
            subst this
            exact ⟨f2, f1⟩
          · exact absurd (HY.out.trans hyt) (f3 i hi)
        subst hyt
        clear hi hin
        go_wp2_with fail
        go_ret2
        exact ⟨by rw [hRES.out.1, hRES.out.2]; rfl, B1.out⟩
      · have hyb : (y == t) = false := by rw [beq_eq_false_iff_ne]; exact hyt
        have HYT : Hid _ := hyt
        have HI : Hid _ := hi
        clear hi hin hyt
        go_wp2_with fail
        go_roundg (N - (i + 1))
        case measure =>
          have := HG.out
          have := HI.out
          omega
        case rel =>
          have := HI.out
          refine ⟨i + 1, by simp, by omega, fun j hj => ?_, rfl, rfl⟩
          by_cases hji : j = i
          · rw [hji, HY.out]; exact HYT.out
          · exact HNO.out j (by omega)
    · have hiI : ¬ (i : Int) < (N : Int) := by omega
      have hRES : Hid (mvv t a d ins.size = 0 ∧ mvb t a d = false) := by
        rcases FD.out with ⟨f1, m, f2, f3, f4, f5⟩ | ⟨f1, f2, f3⟩
        · exact absurd f4 (HNO.out m (by omega))
        · exact ⟨f2, f1⟩
      clear hi hin
      go_wp2_with fail
      go_ret2
      exact ⟨by rw [hRES.out.1, hRES.out.2]; rfl, B1.out⟩

set_option maxRecDepth 100000 in
set_option maxHeartbeats 1000000 in
theorem rback_bad (n : Int) (p q : Int) (ins : ByteArray) (t : Int) (w : World) (hn : n < 0 ∨ 1048576 < n) :
    Calls Try.prog 13 #[.int .i64 n, ed p q ins, .int .i64 t] w fun e w' => e = .returned (.tuple #[.int .i64 0, .bool false]) ∧ Below w.heap.size w w' := by
  by_cases h1 : n < 0
  · clear hn
    go_enter Try.func13, Try.ntmps13
    go_wp2_with fail
    go_ret2
    exact ⟨rfl, bel_up _ _⟩
  · have h2 : 1048576 < n := by omega
    clear hn
    go_enter Try.func13, Try.ntmps13
    go_wp2_with fail
    go_ret2
    exact ⟨rfl, bel_up _ _⟩

theorem og_back (a d c : Nat) (i : Nat) : (mvb (i : Int) a c = true ∧ mvv (i : Int) a c d = og a d c i ∧ 0 ≤ og a d c i) ∨ (mvb (i : Int) a c = false ∧ mvv (i : Int) a c d = 0 ∧ og a d c i < 0) := by
  unfold mvb mvv og
  by_cases c1 : i < a
  · left
    rw [if_pos (by omega), if_pos (by omega), if_pos c1]
    exact ⟨rfl, rfl, by omega⟩
  · by_cases c2 : i < a + c
    · right
      rw [if_neg (by omega), if_pos (by omega), if_neg (by omega), if_pos (by omega), if_neg c1, if_pos c2]
      exact ⟨rfl, rfl, by omega⟩
    · left
      rw [if_neg (by omega), if_neg (by omega), if_neg (by omega), if_neg (by omega), if_neg c1, if_neg c2]
      exact ⟨rfl, rfl, by omega⟩

set_option maxRecDepth 1000000 in
set_option maxHeartbeats 2000000 in
theorem rback_out (n : Nat) (p q : Int) (ins : ByteArray) (t : Int) (a d : Nat) (w : World) (hn : n ≤ 1048576) (hi : ins.size ≤ 1048576) (ha : ca n p = a) (hd : cd n p q = d) (h : t < 0 ∨ ((n - d + ins.size : Nat) : Int) ≤ t) :
    Calls Try.prog 13 #[.int .i64 (n : Int), ed p q ins, .int .i64 t] w fun e w' => e = .returned (.tuple #[.int .i64 0, .bool false]) ∧ Below w.heap.size w w' := by
  have C24 : Hid _ := fun W : World => origins_any n p q ins a d W hn hi ha hd
  obtain ⟨N, hNe⟩ : ∃ N, n - d + ins.size = N := ⟨_, rfl⟩
  rw [hNe] at C24 h
  clear hNe ha hd hi
  by_cases h0 : t < 0
  · clear h
    go_enter Try.func13, Try.ntmps13
    go_wp2_with fail
    refine (C24.out _).mono ?_
    rintro e' w1 ⟨v, rfl, hown, hb⟩
    have B1 : Hid (Below w.heap.size w w1) := below_trans (bel_up _ _) hb
    clear hb C24 hown
    go_wp2_with fail
    go_ret2
    exact ⟨rfl, B1.out⟩
  · have h1 : (N : Int) ≤ t := by omega
    clear h
    go_enter Try.func13, Try.ntmps13
    go_wp2_with fail
    refine (C24.out _).mono ?_
    rintro e' w1 ⟨v, rfl, hown, hb⟩
    have B1 : Hid (Below w.heap.size w w1) := below_trans (bel_up _ _) hb
    obtain ⟨vp, vc, rfl⟩ := own_slice hown
    clear hb C24 hown
    go_wp2_with fail
    go_ret2
    exact ⟨rfl, B1.out⟩

set_option maxRecDepth 1000000 in
set_option maxHeartbeats 2000000 in
theorem rback_any (n : Nat) (p q : Int) (ins : ByteArray) (t : Nat) (a d : Nat) (w : World) (hn : n ≤ 1048576) (hi : ins.size ≤ 1048576) (ha : ca n p = a) (hd : cd n p q = d) (h : t < n - d + ins.size) :
    Calls Try.prog 13 #[.int .i64 (n : Int), ed p q ins, .int .i64 (t : Int)] w fun e w' => e = .returned (.tuple #[.int .i64 (mvv (t : Int) a ins.size d), .bool (mvb (t : Int) a ins.size)]) ∧ Below w.heap.size w w' := by
  have C24 : Hid _ := fun W : World => origins_any n p q ins a d W hn hi ha hd
  have FD : Hid _ := og_back a d ins.size t
  obtain ⟨N, hNe⟩ : ∃ N, n - d + ins.size = N := ⟨_, rfl⟩
  rw [hNe] at C24 h
  obtain ⟨y, hy⟩ : ∃ y, og a d ins.size t = y := ⟨_, rfl⟩
  rw [hy] at FD
  have HY : Hid _ := hy
  have hN : N ≤ 2097152 := by omega
  have h1 : (t : Int) < (N : Int) := by omega
  have HT : Hid _ := h
  clear hNe ha hd hi h hy
  rcases FD.out with ⟨f1, f2, f3⟩ | ⟨f1, f2, f3⟩
  · rw [f1, f2]
    clear f1 f2 FD
    go_enter Try.func13, Try.ntmps13
    go_wp2_with fail
    refine (C24.out _).mono ?_
    rintro e' w1 ⟨v, rfl, hown, hb⟩
    have B1 : Hid (Below w.heap.size w w1) := below_trans (bel_up _ _) hb
    obtain ⟨g, cap', rfl, _, _, _⟩ := own_form hown (by have := HT.out; omega)
    have k0 : w1.cell? ⟨g, t, none⟩ = some (.int .i64 y) := by rw [hown.cellAt _ (by have := HT.out; omega), ← HY.out]; exact ogs_at a d ins.size N t HT.out
    clear hb C24 hown
    go_wp2_with fail
    go_ret2
    exact ⟨rfl, B1.out⟩
  · rw [f1, f2]
    clear f1 f2 FD
    go_enter Try.func13, Try.ntmps13
    go_wp2_with fail
    refine (C24.out _).mono ?_
    rintro e' w1 ⟨v, rfl, hown, hb⟩
    have B1 : Hid (Below w.heap.size w w1) := below_trans (bel_up _ _) hb
    obtain ⟨g, cap', rfl, _, _, _⟩ := own_form hown (by have := HT.out; omega)
    have k0 : w1.cell? ⟨g, t, none⟩ = some (.int .i64 y) := by rw [hown.cellAt _ (by have := HT.out; omega), ← HY.out]; exact ogs_at a d ins.size N t HT.out
    clear hb C24 hown
    go_wp2_with fail
    go_ret2
    exact ⟨rfl, B1.out⟩

end Go.Proofs.Ytjpmmihcnfedgaa
