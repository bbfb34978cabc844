import Derived.Test.YtnhmdbmcamfbiaaFresh
namespace Go.Proofs.Ytnhmdbmcamfbiaa
open Go.RowKit

/-- Of what was there nothing but blocks c and r has turned. -/
structure Turned (c r : Nat) (w w' : World) : Prop where
  os : w'.os = w.os
  tape : w'.tape = w.tape
  output : w'.output = w.output
  size : w.heap.size ≤ w'.heap.size
  block : ∀ k, k < w.heap.size → k ≠ c → k ≠ r → w'.heap[k]? = w.heap[k]?
theorem Turned.of_below {c r : Nat} {w w' : World} (h : Below w.heap.size w w') : Turned c r w w' := ⟨h.os, h.tape, h.output, h.size, fun k hk _ _ => h.block k hk⟩
theorem Turned.of_left {c r : Nat} {w w' : World} (h : Moved c w w') : Turned c r w w' := ⟨h.os, h.tape, h.output, by rw [h.size]; exact Nat.le_refl _, fun k _ h1 _ => h.block k h1⟩
theorem Turned.of_right {c r : Nat} {w w' : World} (h : Moved r w w') : Turned c r w w' := ⟨h.os, h.tape, h.output, by rw [h.size]; exact Nat.le_refl _, fun k _ _ h2 => h.block k h2⟩
theorem Turned.trans {c r : Nat} {a b d : World} (h : Turned c r a b) (k : Turned c r b d) : Turned c r a d :=
  ⟨k.os.trans h.os, k.tape.trans h.tape, k.output.trans h.output, Nat.le_trans h.size k.size, fun i hi h1 h2 => (k.block i (Nat.lt_of_lt_of_le hi h.size) h1 h2).trans (h.block i hi h1 h2)⟩

theorem IsCur.mono {w w' : World} {c a f : Nat} {txt : List UInt8} (h : IsCur w c txt a f) (hb : Below w.heap.size w w') : IsCur w' c txt a f := by
  obtain ⟨⟨v, s, st, hr, ⟨t, h1, h2, h3⟩, hcut⟩, h4, h5, h6⟩ := h
  exact ⟨⟨v, s, st, by rw [hb.block c (Array.getElem?_eq_some_iff.1 hr).1]; exact hr, ⟨t, h1.mono hb, h2, h3⟩, hcut⟩, h4, h5, h6⟩
theorem IsCur.moved {w w' : World} {c r a f : Nat} {n : Int} {txt : List UInt8} (hc : w.cell? ⟨r, 1, none⟩ = some (.int .i64 n)) (hm : Moved r w w') (hne : c ≠ r) (h : IsCur w c txt a f) : IsCur w' c txt a f := by
  obtain ⟨⟨v, s, st, hr, ⟨t, h1, h2, h3⟩, hcut⟩, h4, h5, h6⟩ := h
  exact ⟨⟨v, s, st, by rw [hm.block c hne]; exact hr, ⟨t, h1.moved hc hm, h2, h3⟩, hcut⟩, h4, h5, h6⟩
theorem ReaderAt.moved {w w' : World} {c r p f : Nat} {s : ByteArray} (hm : Moved c w w') (hne : r ≠ c) (h : ReaderAt w r s p f) : ReaderAt w' r s p f :=
  ⟨by rw [hm.block r hne]; exact h.heap, h.at_, h.far, h.len⟩
theorem cur_reader {w : World} {c r a f p g : Nat} {txt : List UInt8} {s : ByteArray} (h : IsCur w c txt a f) (h2 : ReaderAt w r s p g) : c ≠ r := by
  rintro rfl
  obtain ⟨v, s', st, hr, _⟩ := h.row
  have := h2.heap
  rw [hr] at this
  simp at this

theorem box7 (w w1 : World) (x0 x1 x2 x3 x4 x5 x6 : Value) (h : Below (w.alloc (.cells #[x0, x1, x2, x3, x4, x5, x6] 66)).heap.size (w.alloc (.cells #[x0, x1, x2, x3, x4, x5, x6] 66)) w1) :
    w1.cell? ⟨w.heap.size, 5, none⟩ = some x5 ∧ w1.cell? ⟨w.heap.size, 6, none⟩ = some x6 := ⟨below_cell h (by simp), below_cell h (by simp)⟩

set_option maxRecDepth 100000 in
set_option maxHeartbeats 1000000 in
theorem moves_next (c r p f : Nat) (s : ByteArray) (q1 a d : Int) (ins : ByteArray) (A N : Int) (w : World) (hc : IsCur w c s.data.toList p f) (hr : ReaderAt w r s p f) :
    Calls Try.prog 39 #[.pointer (some ⟨c, 0, none⟩), .pointer (some ⟨r, 0, none⟩), .agg #[.int .i64 8, .int .i64 q1, .int .i64 a, .int .i64 d, .string ins, .int .i64 A, .int .i64 N]] w fun e w' => e = .returned (.bool true) ∧ ∃ p' f', IsCur w' c s.data.toList p' f' ∧ ReaderAt w' r s p' f' ∧ Turned c r w w' := by
  have hne := cur_reader hc hr
  have b0 : Below w.heap.size w (w.alloc (.cells #[.int .i64 8, .int .i64 q1, .int .i64 a, .int .i64 d, .string ins, .int .i64 A, .int .i64 N] 66)) := (Below.refl _ _).alloc (Nat.le_refl _) _
  have C0 : Hid _ := hc.mono b0
  have R0 : Hid _ := hr.mono b0
  have T0 : Hid (Turned c r w _) := Turned.of_below b0
  have hat := hr.at_
  have hs := Lib.size_eq s
  have HNE : Hid _ := hne
  by_cases hp : p < s.size
  · have hN := next_any c p f _ _ C0.out (by omega)
    have hM : ∀ W, ReaderAt W r s p f → Calls Try.prog 49 #[.pointer (some ⟨r, 0, none⟩)] W fun e w' => e = .returned (.tuple #[.int .u8 ((s.data.toList[p]?.getD 0).toNat : Int), .bool true]) ∧ ReaderAt w' r s (p + 1) (max f (p + 1)) ∧ Moved r W w' := fun W h => rnext_any r p f s W h hp
    obtain ⟨B, hB⟩ : ∃ B : Int, B = ((s.data.toList[p]?.getD 0).toNat : Int) := ⟨_, rfl⟩
    rw [← hB] at hN hM
    have QN : Hid _ := hN
    have QM : Hid _ := hM
    clear hc hr b0 hat hne hs hN hM hB
    go_enter Try.func39, Try.ntmps39
    go_wp2_with fail
    refine Calls.mono QN.out ?_
    rintro e w1 ⟨rfl, hcu, hm⟩
    have R1 : Hid _ := R0.out.moved hm (Ne.symm HNE.out)
    have C1 : Hid _ := hcu
    have T1 : Hid _ := T0.out.trans (Turned.of_left hm)
    clear hcu hm
    go_wp2_with fail
    refine (QM.out _ R1.out).mono ?_
    rintro e w2 ⟨rfl, hrd, hm⟩
    have C2 : Hid _ := C1.out.moved R1.out.cells.2.1 hm HNE.out
    have R2 : Hid _ := hrd
    have T2 : Hid _ := T1.out.trans (Turned.of_right hm)
    clear hrd hm
    go_wp2_with fail
    go_ret
    exact ⟨rfl, _, _, C2.out, R2.out, T2.out⟩
  · have he : p = s.size := by omega
    subst he
    have hN := next_end c f s.data.toList _ (by rw [← hs]; exact C0.out)
    rw [← hs] at hN
    have QN : Hid _ := hN
    clear hc hr b0 hat hne hN hp hs
    go_enter Try.func39, Try.ntmps39
    go_wp2_with fail
    refine Calls.mono QN.out ?_
    rintro e w1 ⟨rfl, hcu, hm⟩
    have R1 : Hid _ := R0.out.moved hm (Ne.symm HNE.out)
    have C1 : Hid _ := hcu
    have T1 : Hid _ := T0.out.trans (Turned.of_left hm)
    clear hcu hm
    go_wp2_with fail
    refine (rnext_end r f s _ R1.out).mono ?_
    rintro e w2 ⟨rfl, hrd, hm⟩
    have C2 : Hid _ := C1.out.moved R1.out.cells.2.1 hm HNE.out
    have R2 : Hid _ := hrd
    have T2 : Hid _ := T1.out.trans (Turned.of_right hm)
    clear hrd hm
    go_wp2_with fail
    go_ret
    exact ⟨rfl, _, _, C2.out, R2.out, T2.out⟩

set_option maxRecDepth 100000 in
set_option maxHeartbeats 1000000 in
theorem moves_back (c r p f : Nat) (s : ByteArray) (q1 a d : Int) (ins : ByteArray) (A N : Int) (w : World) (hc : IsCur w c s.data.toList p f) (hr : ReaderAt w r s p f) :
    Calls Try.prog 39 #[.pointer (some ⟨c, 0, none⟩), .pointer (some ⟨r, 0, none⟩), .agg #[.int .i64 9, .int .i64 q1, .int .i64 a, .int .i64 d, .string ins, .int .i64 A, .int .i64 N]] w fun e w' => e = .returned (.bool true) ∧ ∃ p' f', IsCur w' c s.data.toList p' f' ∧ ReaderAt w' r s p' f' ∧ Turned c r w w' := by
  have hne := cur_reader hc hr
  have b0 : Below w.heap.size w (w.alloc (.cells #[.int .i64 9, .int .i64 q1, .int .i64 a, .int .i64 d, .string ins, .int .i64 A, .int .i64 N] 66)) := (Below.refl _ _).alloc (Nat.le_refl _) _
  have C0 : Hid _ := hc.mono b0
  have R0 : Hid _ := hr.mono b0
  have T0 : Hid (Turned c r w _) := Turned.of_below b0
  have HNE : Hid _ := hne
  clear hc hr b0 hne
  cases p with
  | zero =>
    go_enter Try.func39, Try.ntmps39
    go_wp2_with fail
    refine (back_at0 c f _ _ C0.out).mono ?_
    rintro e w' ⟨rfl, rfl⟩
    go_wp2_with fail
    refine (rback_at0 r f s _ R0.out).mono ?_
    rintro e w' ⟨rfl, rfl⟩
    go_wp2_with fail
    go_ret
    exact ⟨rfl, _, _, C0.out, R0.out, T0.out⟩
  | succ p =>
    go_enter Try.func39, Try.ntmps39
    go_wp2_with fail
    refine (back_any' c p f _ _ C0.out).mono ?_
    rintro e w1 ⟨rfl, hcu, hm⟩
    have R1 : Hid _ := R0.out.moved hm (Ne.symm HNE.out)
    have C1 : Hid _ := hcu
    have T1 : Hid _ := T0.out.trans (Turned.of_left hm)
    clear hcu hm
    go_wp2_with fail
    refine (rback_any r p f s _ R1.out).mono ?_
    rintro e w2 ⟨rfl, hrd, hm⟩
    have C2 : Hid _ := C1.out.moved R1.out.cells.2.1 hm HNE.out
    have R2 : Hid _ := hrd
    have T2 : Hid _ := T1.out.trans (Turned.of_right hm)
    clear hrd hm
    go_wp2_with fail
    go_ret
    exact ⟨rfl, _, _, C2.out, R2.out, T2.out⟩

set_option maxRecDepth 100000 in
set_option maxHeartbeats 1000000 in
theorem moves_rest (c r p f : Nat) (s : ByteArray) (k q1 a d : Int) (ins : ByteArray) (A N : Int) (w : World) (hc : IsCur w c s.data.toList p f) (hr : ReaderAt w r s p f) (h8 : k ≠ 8) (h9 : k ≠ 9) :
    Calls Try.prog 39 #[.pointer (some ⟨c, 0, none⟩), .pointer (some ⟨r, 0, none⟩), .agg #[.int .i64 k, .int .i64 q1, .int .i64 a, .int .i64 d, .string ins, .int .i64 A, .int .i64 N]] w fun e w' => e = .returned (.bool true) ∧ ∃ p' f', IsCur w' c s.data.toList p' f' ∧ ReaderAt w' r s p' f' ∧ Turned c r w w' := by
  have b0 : Below w.heap.size w (w.alloc (.cells #[.int .i64 k, .int .i64 q1, .int .i64 a, .int .i64 d, .string ins, .int .i64 A, .int .i64 N] 66)) := (Below.refl _ _).alloc (Nat.le_refl _) _
  have C0 : Hid _ := hc.mono b0
  have R0 : Hid _ := hr.mono b0
  have T0 : Hid (Turned c r w _) := Turned.of_below b0
  have e8 : (k == 8) = false := by rw [beq_eq_false_iff_ne]; exact h8
  have e9 : (k == 9) = false := by rw [beq_eq_false_iff_ne]; exact h9
  clear hc hr b0 h8 h9
  by_cases h10 : k = 10
  · subst h10
    go_enter Try.func39, Try.ntmps39
    go_wp2_with fail
    refine (at_any c p f _ _ C0.out).mono ?_
    rintro e w' ⟨rfl, rfl⟩
    go_wp2_with fail
    refine (rat_any r p f s _ R0.out).mono ?_
    rintro e w' ⟨rfl, rfl⟩
    go_wp2_with fail
    go_ret
    exact ⟨rfl, _, _, C0.out, R0.out, T0.out⟩
  · have e10 : (k == 10) = false := by rw [beq_eq_false_iff_ne]; exact h10
    clear h10
    by_cases h11 : k = 11
    · subst h11
      go_enter Try.func39, Try.ntmps39
      go_wp2_with fail
      refine (far_any c p f _ _ C0.out).mono ?_
      rintro e w' ⟨rfl, rfl⟩
      go_wp2_with fail
      refine (rfar_any r p f s _ R0.out).mono ?_
      rintro e w' ⟨rfl, rfl⟩
      go_wp2_with fail
      go_ret
      exact ⟨rfl, _, _, C0.out, R0.out, T0.out⟩
    · have e11 : (k == 11) = false := by rw [beq_eq_false_iff_ne]; exact h11
      clear h11
      go_enter Try.func39, Try.ntmps39
      go_wp2_with fail
      go_ret
      exact ⟨rfl, _, _, C0.out, R0.out, T0.out⟩
theorem moves_any (c r p f : Nat) (s : ByteArray) (k q1 a d : Int) (ins : ByteArray) (A N : Int) (w : World) (hc : IsCur w c s.data.toList p f) (hr : ReaderAt w r s p f) :
    Calls Try.prog 39 #[.pointer (some ⟨c, 0, none⟩), .pointer (some ⟨r, 0, none⟩), .agg #[.int .i64 k, .int .i64 q1, .int .i64 a, .int .i64 d, .string ins, .int .i64 A, .int .i64 N]] w fun e w' => e = .returned (.bool true) ∧ ∃ p' f', IsCur w' c s.data.toList p' f' ∧ ReaderAt w' r s p' f' ∧ Turned c r w w' := by
  by_cases h8 : k = 8
  · subst h8; exact moves_next c r p f s q1 a d ins A N w hc hr
  · by_cases h9 : k = 9
    · subst h9; exact moves_back c r p f s q1 a d ins A N w hc hr
    · exact moves_rest c r p f s k q1 a d ins A N w hc hr h8 h9
end Go.Proofs.Ytnhmdbmcamfbiaa
