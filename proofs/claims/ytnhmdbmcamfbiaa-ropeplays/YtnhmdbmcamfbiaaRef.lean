import Derived.Test.YtnhmdbmcamfbiaaPiece
namespace Go.Proofs.Ytnhmdbmcamfbiaa
open Go.RowKit

/-- The reference's rope: its text. -/
structure ModelAt (w : World) (m : Nat) (s : ByteArray) : Prop where
  heap : w.heap[m]? = some (.cells #[.string s] 88 (0, 0))
  len : s.size ≤ 1048576
/-- The reference's cursor. -/
structure ReaderAt (w : World) (r : Nat) (s : ByteArray) (p f : Nat) : Prop where
  heap : w.heap[r]? = some (.cells #[.string s, .int .i64 (p : Int), .int .i64 (f : Int)] 109 (0, 0))
  at_ : p ≤ s.size
  far : f ≤ s.size + 1
  len : s.size ≤ 1048576
theorem ModelAt.cell {w : World} {m : Nat} {s : ByteArray} (h : ModelAt w m s) : w.cell? ⟨m, 0, none⟩ = some (.string s) := by rw [Lib.cell_of_heap h.heap]; rfl
theorem ModelAt.mono {w w' : World} {m : Nat} {s : ByteArray} (h : ModelAt w m s) (hb : Below w.heap.size w w') : ModelAt w' m s :=
  ⟨by rw [hb.block m (Array.getElem?_eq_some_iff.1 h.heap).1]; exact h.heap, h.len⟩
theorem ReaderAt.mono {w w' : World} {r p f : Nat} {s : ByteArray} (h : ReaderAt w r s p f) (hb : Below w.heap.size w w') : ReaderAt w' r s p f :=
  ⟨by rw [hb.block r (Array.getElem?_eq_some_iff.1 h.heap).1]; exact h.heap, h.at_, h.far, h.len⟩
theorem ReaderAt.cells {w : World} {r p f : Nat} {s : ByteArray} (h : ReaderAt w r s p f) :
    w.cell? ⟨r, 0, none⟩ = some (.string s) ∧ w.cell? ⟨r, 1, none⟩ = some (.int .i64 (p : Int)) ∧ w.cell? ⟨r, 2, none⟩ = some (.int .i64 (f : Int)) ∧ ∀ o, w.frozen? ⟨r, o, none⟩ = false := by
  refine ⟨?_, ?_, ?_, fun o => Lib.frozen_of_heap h.heap o⟩ <;> (rw [Lib.cell_of_heap h.heap]; rfl)

set_option maxRecDepth 100000 in
set_option maxHeartbeats 400000 in
theorem rwithin_any (n m : Int) (w : World) :
    Calls Try.prog 48 #[.int .i64 n, .int .i64 m] w fun e w' => e = .returned (.int .i64 (cl n m)) ∧ w = w' := by
  go_enter Try.func48, Try.ntmps48
  go_wp2
  all_goals
    go_ret
    exact ⟨ret_int (by unfold cl; split <;> (try split) <;> omega), rfl⟩

set_option maxRecDepth 100000 in
set_option maxHeartbeats 400000 in
theorem rnew_big (s : ByteArray) (w : World) (h : 1048576 < s.size) :
    Calls Try.prog 26 #[.string s] w fun e w' => e = .returned (.pointer none) ∧ w = w' := by
  go_enter Try.func26, Try.ntmps26
  go_wp2_with fail
  go_ret
  exact ⟨rfl, rfl⟩
set_option maxRecDepth 100000 in
set_option maxHeartbeats 400000 in
theorem rnew_any (s : ByteArray) (w : World) (h : s.size ≤ 1048576) :
    Calls Try.prog 26 #[.string s] w fun e w' => ∃ m : Nat, e = .returned (.pointer (some ⟨m, 0, none⟩)) ∧ ModelAt w' m s ∧ Below w.heap.size w w' := by
  go_enter Try.func26, Try.ntmps26
  go_wp2_with fail
  go_ret
  exact ⟨_, rfl, ⟨heap_alloc_new w _, h⟩, (Below.refl _ _).alloc (Nat.le_refl _) _⟩

set_option maxRecDepth 100000 in
set_option maxHeartbeats 400000 in
theorem rlen_any (m : Nat) (s : ByteArray) (w : World) (h : ModelAt w m s) :
    Calls Try.prog 53 #[.pointer (some ⟨m, 0, none⟩)] w fun e w' => e = .returned (.int .i64 (s.size : Int)) ∧ w = w' := by
  have c0 := h.cell
  clear h
  go_enter Try.func53, Try.ntmps53
  go_wp2
  go_ret
  exact ⟨rfl, rfl⟩
set_option maxRecDepth 100000 in
set_option maxHeartbeats 400000 in
theorem rstring_any (m : Nat) (s : ByteArray) (w : World) (h : ModelAt w m s) :
    Calls Try.prog 54 #[.pointer (some ⟨m, 0, none⟩)] w fun e w' => e = .returned (.string s) ∧ w = w' := by
  have c0 := h.cell
  clear h
  go_enter Try.func54, Try.ntmps54
  go_wp2
  go_ret
  exact ⟨rfl, rfl⟩

theorem sl_bytes (s : ByteArray) (a n : Int) : (⟨(sl s.data.toList a n).toArray⟩ : ByteArray) = s.extract (cl a s.size).toNat ((cl a s.size).toNat + (cl n (s.size - cl a s.size)).toNat) := by
  have hs := Lib.size_eq s
  have e4 : sl s.data.toList a n = (s.extract (cl a s.size).toNat ((cl a s.size).toNat + (cl n (s.size - cl a s.size)).toNat)).data.toList := by
    rw [Lib.extract_data, sl, ← hs, seg]
  rw [e4, bytes_back]

set_option maxRecDepth 100000 in
set_option maxHeartbeats 400000 in
theorem rslice_any (m : Nat) (s : ByteArray) (a n : Int) (w : World) (h : ModelAt w m s) :
    Calls Try.prog 55 #[.pointer (some ⟨m, 0, none⟩), .int .i64 a, .int .i64 n] w fun e w' => e = .returned (.string ⟨(sl s.data.toList a n).toArray⟩) ∧ w = w' := by
  have c0 := h.cell
  have hl := h.len
  rw [sl_bytes]
  have H1 := cl_bd a s.size (by omega)
  have H2 := cl_bd n (s.size - cl a s.size) (by omega)
  have hC1 : Hid (∀ W, Calls Try.prog 48 #[.int .i64 a, .int .i64 s.size] W fun e w' => e = .returned (.int .i64 (cl a s.size)) ∧ W = w') := fun W => rwithin_any a s.size W
  have hC2 : Hid (∀ W, Calls Try.prog 48 #[.int .i64 n, .int .i64 (s.size - cl a s.size)] W fun e w' => e = .returned (.int .i64 (cl n (s.size - cl a s.size))) ∧ W = w') := fun W => rwithin_any n _ W
  generalize cl a s.size = a' at *
  generalize cl n (s.size - a') = n' at *
  obtain ⟨A, rfl⟩ := Int.eq_ofNat_of_zero_le H1.1
  obtain ⟨N, rfl⟩ := Int.eq_ofNat_of_zero_le H2.1
  clear h
  go_enter Try.func55, Try.ntmps55
  go_wp2_with fail
  refine (hC1.out _).mono ?_
  rintro e w' ⟨rfl, rfl⟩
  go_wp2_with fail
  refine (hC2.out _).mono ?_
  rintro e w' ⟨rfl, rfl⟩
  go_wp2_with fail
  go_ret
  exact ⟨by simp only [Int.toNat_natCast]; rfl, rfl⟩

set_option maxRecDepth 100000 in
set_option maxHeartbeats 400000 in
theorem rbyte_no (m : Nat) (s : ByteArray) (a : Int) (w : World) (h : ModelAt w m s) (ha : a < 0 ∨ (s.size : Int) ≤ a) :
    Calls Try.prog 56 #[.pointer (some ⟨m, 0, none⟩), .int .i64 a] w fun e w' => e = .returned (.tuple #[.int .u8 0, .bool false]) ∧ w = w' := by
  have c0 := h.cell
  clear h
  by_cases h0 : a < 0
  · have hd : decide (a < 0) = true := by simpa using h0
    go_enter Try.func56, Try.ntmps56
    go_wp2_with fail
    go_ret2
    exact ⟨rfl, rfl⟩
  · have h1 : (s.size : Int) ≤ a := by omega
    have h2 : 0 ≤ a := by omega
    clear h0 ha
    go_enter Try.func56, Try.ntmps56
    go_wp2_with fail
    go_ret2
    exact ⟨rfl, rfl⟩
set_option maxRecDepth 100000 in
set_option maxHeartbeats 400000 in
theorem rbyte_yes (m : Nat) (s : ByteArray) (a : Nat) (w : World) (h : ModelAt w m s) (ha : a < s.size) :
    Calls Try.prog 56 #[.pointer (some ⟨m, 0, none⟩), .int .i64 (a : Int)] w fun e w' => e = .returned (.tuple #[.int .u8 ((s.data.toList[a]?.getD 0).toNat : Int), .bool true]) ∧ w = w' := by
  have c0 := h.cell
  have hI := idx_str s a ha
  obtain ⟨B, hB⟩ : ∃ B : Int, B = ((s.data.toList[a]?.getD 0).toNat : Int) := ⟨_, rfl⟩
  rw [← hB] at hI
  rw [← hB]
  clear h hB
  go_enter Try.func56, Try.ntmps56
  go_wp2_with fail
  go_ret2
  exact ⟨rfl, rfl⟩

set_option maxRecDepth 100000 in
set_option maxHeartbeats 400000 in
theorem rmost_any (m : Nat) (s : ByteArray) (w : World) (h : ModelAt w m s) :
    Calls Try.prog 57 #[.pointer (some ⟨m, 0, none⟩)] w fun e w' => e = .returned (.int .i64 ((2 + 2 * Rp.bits s.size : Nat) : Int)) ∧ w = w' := by
  have c0 := h.cell
  have hn : s.size ≤ 4194304 := by have := h.len; omega
  clear h
  obtain ⟨n, hnn⟩ : ∃ n, n = s.size := ⟨_, rfl⟩
  have hb : Rp.bits s.size ≤ 100 := by
    have h1 : ∀ k m, m < 2 ^ k → Rp.bits m ≤ k := by
      intro k
      induction k with
      | zero => intro m h; have : m = 0 := by omega
                rw [this, Rp.bits_zero]; omega
      | succ k ih =>
        intro m h
        by_cases h0 : m = 0
        · rw [h0, Rp.bits_zero]; omega
        · rw [Rp.bits_pos (by omega)]
          have := ih (m / 2) (by omega)
          omega
    have := h1 23 s.size (by omega)
    omega
  obtain ⟨B, hB⟩ : ∃ B, B = Rp.bits s.size := ⟨_, rfl⟩
  rw [← hB] at hb
  have HB : Hid _ := hB
  rw [← hB]
  clear hB hnn
  go_enter Try.func57, Try.ntmps57
  go_wp2_with fail
  go_loop [4, 3] (fun x y => ∃ m k : Nat, x = .int .i64 (m : Int) ∧ y = .int .i64 (k : Int) ∧ m ≤ 4194304 ∧ k ≤ 300 ∧ Hid (k + 2 * Rp.bits m = 2 + 2 * B)) (fun x _ => (intOf x).toNat)
  case atStart => exact ⟨s.size, 2, rfl, rfl, hn, by omega, show 2 + 2 * Rp.bits s.size = 2 + 2 * B by rw [HB.out]⟩
  case round =>
    obtain ⟨m, k, rfl, rfl, h1, h2, h3⟩ := hrel
    by_cases h0 : m = 0
    · subst h0
      have h4 : Hid (k = 2 + 2 * B) := by have := h3.out; rw [Rp.bits_zero] at this; exact (by omega : k = 2 + 2 * B)
      go_wp2_with fail
      go_ret
      have h4' := h4.out
      exact ⟨ret_int (a := (k : Int)) (b := ((2 + 2 * B : Nat) : Int)) (by omega), rfl⟩
    · have h5 : 0 < m := by omega
      have h6 : Hid (k + 2 + 2 * Rp.bits (m / 2) = 2 + 2 * B) := by have := h3.out; rw [Rp.bits_pos h5] at this; exact (by omega : k + 2 + 2 * Rp.bits (m / 2) = 2 + 2 * B)
      have h7 : k + 2 ≤ 300 := by have := h6.out; omega
      clear h0
      go_wp2_with fail
      go_round
      case rel => exact ⟨m / 2, k + 2, by go_num, by go_num, by omega, h7, h6⟩
      case measure => simp [intOf]; omega
end Go.Proofs.Ytnhmdbmcamfbiaa
