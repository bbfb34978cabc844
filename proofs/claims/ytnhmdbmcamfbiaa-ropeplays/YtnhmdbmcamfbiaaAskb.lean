import Derived.Test.YtnhmdbmcamfbiaaMove
import Derived.Deep.RegionHeld3
namespace Go.Proofs.Ytnhmdbmcamfbiaa
open Go.RowKit

/-- a question and its two answers -/
theorem byte_both (b m : Nat) (s : ByteArray) (A : Int) : ∃ (x : Int) (ok : Bool), (∀ W, IsRope W b s.data.toList → Calls Try.prog 23 #[.pointer (some ⟨b, 0, none⟩), .int .i64 A] W fun e w' => e = .returned (.tuple #[.int .u8 x, .bool ok]) ∧ W = w') ∧
    (∀ W, ModelAt W m s → Calls Try.prog 56 #[.pointer (some ⟨m, 0, none⟩), .int .i64 A] W fun e w' => e = .returned (.tuple #[.int .u8 x, .bool ok]) ∧ W = w') := by
  have hs := Lib.size_eq s
  by_cases h : A < 0 ∨ (s.size : Int) ≤ A
  · exact ⟨0, false, fun W hW => byte_no b _ A W hW (by omega), fun W hW => rbyte_no m s A W hW h⟩
  · obtain ⟨a, rfl⟩ := Int.eq_ofNat_of_zero_le (by omega : 0 ≤ A)
    exact ⟨_, true, fun W hW => byte_yes b _ a W hW (by omega), fun W hW => rbyte_yes m s a W hW (by omega)⟩

theorem held_mk {W0 W W' : World} {p : Nat} {A N : Int} (h : W.cell? ⟨p, 5, none⟩ = some (.int .i64 A) ∧ W.cell? ⟨p, 6, none⟩ = some (.int .i64 N) ∧ Below W0.heap.size W0 W) (hb : Below W.heap.size W W') :
    W'.cell? ⟨p, 5, none⟩ = some (.int .i64 A) ∧ W'.cell? ⟨p, 6, none⟩ = some (.int .i64 N) ∧ Below W0.heap.size W0 W' := ⟨below_cell hb h.1, below_cell hb h.2.1, below_trans h.2.2 hb⟩
theorem held_below {W0 W : World} {p : Nat} {A N : Int} (h : W.cell? ⟨p, 5, none⟩ = some (.int .i64 A) ∧ W.cell? ⟨p, 6, none⟩ = some (.int .i64 N) ∧ Below W0.heap.size W0 W) : Below W0.heap.size W0 W := h.2.2

set_option maxRecDepth 100000 in
set_option maxHeartbeats 1000000 in
theorem asks3 (b m : Nat) (s : ByteArray) (q1 a d : Int) (ins : ByteArray) (A N : Int) (w : World) (hr : IsRope w b s.data.toList) (hm : ModelAt w m s) :
    Calls Try.prog 40 #[.pointer (some ⟨b, 0, none⟩), .pointer (some ⟨m, 0, none⟩), .agg #[.int .i64 3, .int .i64 q1, .int .i64 a, .int .i64 d, .string ins, .int .i64 A, .int .i64 N]] w fun e w' => e = .returned (.bool true) ∧ Below w.heap.size w w' := by
  obtain ⟨X, HS, HM⟩ : ∃ X : ByteArray, Hid (∀ W, IsRope W b s.data.toList → Calls Try.prog 17 #[.pointer (some ⟨b, 0, none⟩), .int .i64 A, .int .i64 N] W fun e w' => e = .returned (.string X) ∧ Below W.heap.size W w') ∧ Hid (∀ W, ModelAt W m s → Calls Try.prog 55 #[.pointer (some ⟨m, 0, none⟩), .int .i64 A, .int .i64 N] W fun e w' => e = .returned (.string X) ∧ W = w') := ⟨_, fun W h => slice_any b _ A N W h, fun W h => rslice_any m s A N W h⟩
  obtain ⟨W0, hW0⟩ : ∃ W0, W0 = w.alloc (.cells #[.int .i64 3, .int .i64 q1, .int .i64 a, .int .i64 d, .string ins, .int .i64 A, .int .i64 N] 66) := ⟨_, rfl⟩
  have b0 : Below w.heap.size w W0 := by rw [hW0]; exact (Below.refl _ _).alloc (Nat.le_refl _) _
  have c5 : W0.cell? ⟨w.heap.size, 5, none⟩ = some (.int .i64 A) := by rw [hW0]; simp
  have c6 : W0.cell? ⟨w.heap.size, 6, none⟩ = some (.int .i64 N) := by rw [hW0]; simp
  have R0 : Hid _ := hr.mono b0
  have M0 : Hid _ := hm.mono b0
  have B0 : Hid _ := b0
  have HE : Hid _ := hW0
  clear hr hm b0 hW0
  go_enter Try.func40, Try.ntmps40
  go_wp2_with fail
  rw [← HE.out]
  go_region_held3 (fun W => W.cell? ⟨w.heap.size, 5, none⟩ = some (.int .i64 A) ∧ W.cell? ⟨w.heap.size, 6, none⟩ = some (.int .i64 N) ∧ Below W0.heap.size W0 W) (first | exact ⟨c5, c6, (Below.refl _ _).drew⟩ | exact held_mk (by assumption) hb | assumption)
    (first
    | (go_at_call 17; refine (HS.out _ ?_).mono ?_; exact R0.out.mono (held_below (p := w.heap.size) (A := A) (N := N) (by assumption)); rintro e w1 ⟨rfl, hb⟩)
    | (go_at_call 55; refine (HM.out _ ?_).mono ?_; exact M0.out.mono (held_below (p := w.heap.size) (A := A) (N := N) (by assumption)); rintro e w' ⟨rfl, rfl⟩))
  all_goals
    go_wp2_with fail
    go_ret
    exact ⟨rfl, below_trans B0.out (held_below (p := w.heap.size) (A := A) (N := N) (by assumption))⟩

set_option maxRecDepth 100000 in
set_option maxHeartbeats 2000000 in
theorem asks_any (b m : Nat) (s : ByteArray) (k q1 a d : Int) (ins : ByteArray) (A N : Int) (w : World) (hr : IsRope w b s.data.toList) (hm : ModelAt w m s) :
    Calls Try.prog 40 #[.pointer (some ⟨b, 0, none⟩), .pointer (some ⟨m, 0, none⟩), .agg #[.int .i64 k, .int .i64 q1, .int .i64 a, .int .i64 d, .string ins, .int .i64 A, .int .i64 N]] w fun e w' => e = .returned (.bool true) ∧ Below w.heap.size w w' := by
  have b0 : Below w.heap.size w (w.alloc (.cells #[.int .i64 k, .int .i64 q1, .int .i64 a, .int .i64 d, .string ins, .int .i64 A, .int .i64 N] 66)) := (Below.refl _ _).alloc (Nat.le_refl _) _
  have hs := Lib.size_eq s
  have R0 : Hid _ := hr.mono b0
  have M0 : Hid _ := hm.mono b0
  have B0 : Hid _ := b0
  have hL : Hid (∀ W, IsRope W b s.data.toList → Calls Try.prog 12 #[.pointer (some ⟨b, 0, none⟩)] W fun e w' => e = .returned (.int .i64 (s.size : Int)) ∧ W = w') := fun W h => by rw [hs]; exact len_any b _ W h
  have hD : Hid (∀ W, IsRope W b s.data.toList → Calls Try.prog 13 #[.pointer (some ⟨b, 0, none⟩)] W fun e w' => ∃ d : Nat, e = .returned (.int .i64 (d : Int)) ∧ 1 ≤ d ∧ d ≤ 2 + 2 * Rp.bits s.size ∧ W = w') := fun W h => by rw [hs]; exact depth_any b _ W h
  have hW : Hid (∀ W, ModelAt W m s → Calls Try.prog 57 #[.pointer (some ⟨m, 0, none⟩)] W fun e w' => e = .returned (.int .i64 ((2 + 2 * Rp.bits s.size : Nat) : Int)) ∧ W = w') := fun W h => rmost_any m s W h
  generalize 2 + 2 * Rp.bits s.size = most at *
  have HR : Hid _ := hr
  have HM0 : Hid _ := hm
  clear hr hm hs b0
  by_cases h1 : k = 1
  · subst h1
    go_enter Try.func40, Try.ntmps40
    go_wp2_with fail
    refine (hL.out _ R0.out).mono ?_
    rintro e w' ⟨rfl, rfl⟩
    go_wp2_with fail
    refine (rlen_any m s _ M0.out).mono ?_
    rintro e w' ⟨rfl, rfl⟩
    go_wp2_with fail
    go_ret
    exact ⟨rfl, B0.out⟩
  have e1 : (k == 1) = false := by rw [beq_eq_false_iff_ne]; exact h1
  clear h1
  by_cases h2 : k = 2
  · subst h2
    go_enter Try.func40, Try.ntmps40
    go_wp2_with fail
    refine (string_of b s _ R0.out).mono ?_
    rintro e w1 ⟨rfl, hb⟩
    have M1 : Hid _ := M0.out.mono hb
    have B1 : Hid _ := below_trans B0.out hb
    clear hb
    go_wp2_with fail
    refine (rstring_any m s _ M1.out).mono ?_
    rintro e w' ⟨rfl, rfl⟩
    go_wp2_with fail
    go_ret
    exact ⟨rfl, B1.out⟩
  have e2 : (k == 2) = false := by rw [beq_eq_false_iff_ne]; exact h2
  clear h2
  by_cases h3 : k = 3
  · subst h3
    exact asks3 b m s q1 a d ins A N w HR.out HM0.out
  have e3 : (k == 3) = false := by rw [beq_eq_false_iff_ne]; exact h3
  clear h3
  by_cases h4 : k = 4
  · subst h4
    obtain ⟨x, ok, hb1, hb2⟩ := byte_both b m s A
    have Q1 : Hid _ := hb1
    have Q2 : Hid _ := hb2
    clear hb1 hb2
    go_enter Try.func40, Try.ntmps40
    go_wp2_with fail
    refine (Q1.out _ R0.out).mono ?_
    rintro e w' ⟨rfl, rfl⟩
    go_wp2_with fail
    refine (Q2.out _ M0.out).mono ?_
    rintro e w' ⟨rfl, rfl⟩
    go_wp2_with fail
    go_ret
    exact ⟨by simp, B0.out⟩
  have e4 : (k == 4) = false := by rw [beq_eq_false_iff_ne]; exact h4
  clear h4
  by_cases h6 : k = 6
  · subst h6
    go_enter Try.func40, Try.ntmps40
    go_wp2_with fail
    refine (hD.out _ R0.out).mono ?_
    rintro e w' ⟨d', rfl, d1, d2, rfl⟩
    go_wp2_with fail
    refine (hW.out _ M0.out).mono ?_
    rintro e w' ⟨rfl, rfl⟩
    go_wp2_with fail
    go_ret
    exact ⟨rfl, B0.out⟩
  have e6 : (k == 6) = false := by rw [beq_eq_false_iff_ne]; exact h6
  clear h6
  go_enter Try.func40, Try.ntmps40
  go_wp2_with fail
  go_ret
  exact ⟨rfl, B0.out⟩
end Go.Proofs.Ytnhmdbmcamfbiaa
