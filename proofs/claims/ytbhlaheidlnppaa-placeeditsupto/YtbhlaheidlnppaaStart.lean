import Derived.Test.YtbhlaheidlnppaaUnits
namespace Go.Proofs.Ytbhlaheidlnppaa
open Go.RowKit

abbrev face : ByteArray := ⟨#[97, 10, 240, 159, 152, 128, 98]⟩
theorem face_rw : Rw face 0 face.size [(0, 1), (2, 7)] := by
  have h1 : Rw face 0 1 [(0, 1)] := Rw.one (by omega) (by decide) (fun k h1 h2 => by
    have : k = 0 := by omega
    subst this
    decide)
  have h2 : Rw face 2 7 [(2, 7)] := Rw.one (by omega) (by decide) (fun k h1 h2 => by
    have : k = 2 ∨ k = 3 ∨ k = 4 ∨ k = 5 ∨ k = 6 := by omega
    rcases this with rfl | rfl | rfl | rfl | rfl <;> decide)
  exact h1.app h2 (by decide)
theorem face_wide : (lastB (face.extract 2 7) (winAt 4)).2 = 2 := by decide +kernel
theorem face_atw : atW face [(0, 1), (2, 7)] 1 3 = 7 := by decide +kernel
theorem face_at : atS face [(0, 1), (2, 7)] 1 1 = 3 := by decide +kernel

set_option maxRecDepth 1000000 in
set_option maxHeartbeats 1000000 in
theorem started_any (w : World) : Calls Try.prog 18 #[] w fun e w' => e = .returned (.bool true) ∧ Below w.heap.size w w' := by
  have H : Hid _ := new_any face w (by decide)
  go_enter Try.func18, Try.ntmps18
  go_wp2_with fail
  refine Calls.mono H.out ?_
  rintro e w1 ⟨b, T, rfl, hI, hb⟩
  have hT := hI.rw.same face_rw
  have hl : T.length = 2 := by
    have := congrArg List.length hT
    simpa using this
  obtain ⟨x, hx⟩ := getT (T := T) (i := 1) (by omega)
  have hx1 : x.1 = (2, 7) := by
    have := map_get hx
    rw [hT] at this
    simpa using this.symm
  have e6 : cl 6 face.size = ((6 : Nat) : Int) := by decide
  have C12 : Hid (∀ W, Below w1.heap.size w1 W → Calls Try.prog 12 #[.pointer (some ⟨b, 0, none⟩)] W fun e w' => e = .returned (.int .i64 2) ∧ W = w') := fun W hW => by
    have := rows_any b face T W (hI.mono hW)
    rw [hl] at this
    exact this
  have C14 : Hid (∀ W, Below w1.heap.size w1 W → Calls Try.prog 14 #[.pointer (some ⟨b, 0, none⟩), .int .i64 6] W fun e w' => e = .returned (.agg #[.int .i64 1, .int .i64 4]) ∧ Below W.heap.size W w') := fun W hW => by
    have := pos_any b face T 6 6 1 x W (hI.mono hW) e6 hx (by rw [hx1]; decide) (by rw [hx1]; decide)
    rw [hx1] at this
    exact this
  have C19 : Hid (∀ W, Below w1.heap.size w1 W → Calls Try.prog 19 #[.pointer (some ⟨b, 0, none⟩), .int .i64 6] W fun e w' => e = .returned (.agg #[.int .i64 1, .int .i64 2]) ∧ Below W.heap.size W w') := fun W hW => by
    have := wide_any b face T 6 6 1 x W (hI.mono hW) e6 hx (by rw [hx1]; decide) (by rw [hx1]; decide)
    rw [hx1] at this
    simp only at this
    rw [show (((6 - 2 : Nat)) : Int) = 4 by decide, face_wide] at this
    exact this
  have C20 : Hid (∀ W, Below w1.heap.size w1 W → Calls Try.prog 20 #[.pointer (some ⟨b, 0, none⟩), .agg #[.int .i64 1, .int .i64 3]] W fun e w' => e = .returned (.int .i64 7) ∧ Below W.heap.size W w') := fun W hW => by
    have := atWide_any b face T 1 3 W (hI.mono hW)
    rw [hT, face_atw] at this
    exact this
  have C16 : Hid (∀ W, Below w1.heap.size w1 W → Calls Try.prog 16 #[.pointer (some ⟨b, 0, none⟩), .agg #[.int .i64 1, .int .i64 1]] W fun e w' => e = .returned (.int .i64 3) ∧ Below W.heap.size W w') := fun W hW => by
    have := at_any b face T 1 1 W (hI.mono hW)
    rw [hT, face_at] at this
    exact this
  have B1 : Hid _ := hb
  clear hI hb hT hx hx1 hl e6 H
  go_wp2_with fail
  refine (C12.out _ (Below.refl _ _)).mono ?_
  rintro e w' ⟨rfl, rfl⟩
  go_wp2_with fail
  refine (C14.out _ (Below.refl _ _)).mono ?_
  rintro e w2 ⟨rfl, hb⟩
  have B2 : Hid _ := hb
  clear hb
  go_wp2_with fail
  refine (C19.out _ B2.out).mono ?_
  rintro e w3 ⟨rfl, hb⟩
  have B3 : Hid (Below w1.heap.size w1 w3) := below_trans B2.out hb
  clear hb
  go_wp2_with fail
  refine (C20.out _ B3.out).mono ?_
  rintro e w4 ⟨rfl, hb⟩
  have B4 : Hid (Below w1.heap.size w1 w4) := below_trans B3.out hb
  clear hb
  go_wp2_with fail
  refine (C16.out _ B4.out).mono ?_
  rintro e w5 ⟨rfl, hb⟩
  have B5 : Hid (Below w1.heap.size w1 w5) := below_trans B4.out hb
  clear hb
  go_wp2_with fail
  go_ret
  exact ⟨by simp, below_trans B1.out B5.out⟩

set_option maxRecDepth 1000000 in
set_option maxHeartbeats 1000000 in
theorem before_any (a1 a2 b1 b2 : Int) (w : World) (h : a1 < b1 ∨ (a1 = b1 ∧ a2 ≤ b2)) : Calls Try.prog 21 #[.agg #[.int .i64 a1, .int .i64 a2], .agg #[.int .i64 b1, .int .i64 b2]] w fun e w' => e = .returned (.bool true) ∧ Below w.heap.size w w' := by
  by_cases h1 : a1 < b1
  · clear h
    go_enter Try.func21, Try.ntmps21
    go_wp2_with fail
    go_ret
    exact ⟨by simp, below_trans (bel_up _ _) (bel_up _ _)⟩
  · have h2 : a1 = b1 := by omega
    have h3 : a2 ≤ b2 := by omega
    subst h2
    clear h h1
    go_enter Try.func21, Try.ntmps21
    go_wp2_with fail
    go_ret
    exact ⟨by simp, below_trans (bel_up _ _) (bel_up _ _)⟩

end Go.Proofs.Ytbhlaheidlnppaa
