import Derived.Test.YthfijmabagjdkaaCui
namespace Go.Proofs.Ythfijmabagjdkaa
open Go.RowKit Go.Maps

/-- What Cut answers. -/
def cutR (s : ByteArray) : Sum (Nat × Nat) (List Wd) := if 16384 < s.size then .inl (80, 16384) else cut 0 s.data.toList
def cutE (B : Nat) (s : ByteArray) (e : Ending) (w' : World) : Prop :=
  (∃ ws v, cutR s = .inr ws ∧ e = .returned (.tuple #[v, .int .i64 0, .int .i64 0]) ∧ Wow B w' v ws) ∨
  (∃ c o : Nat, c ≠ 0 ∧ cutR s = .inl (c, o) ∧ e = .returned (.tuple #[.slice none 0 0, .int .i64 (c : Int), .int .i64 (o : Int)]))

set_option maxRecDepth 100000 in
set_option maxHeartbeats 8000000 in
theorem wcut_any (s : ByteArray) (w : World) : Calls Try.prog 12 #[.string s] w fun e w' => cutE w.heap.size s e w' ∧ Below w.heap.size w w' := by
  by_cases hz : 16384 < s.size
  · have d1 : decide ((16384 : Int) < (s.size : Int)) = true := by rw [decide_eq_true_eq]; omega
    have d2 : decide (16384 < s.size) = true := by rw [decide_eq_true_eq]; omega
    have HR : Hid (cutR s = .inl (80, 16384)) := if_pos hz
    clear hz
    go_enter Try.func12, Try.ntmps12
    go_wp2_with fail
    go_ret3
    exact ⟨.inr ⟨80, 16384, by decide, HR.out, rfl⟩, Below.refl _ _⟩
  · have d1 : decide ((16384 : Int) < (s.size : Int)) = false := by rw [decide_eq_false_iff_not]; omega
    have d2 : decide (16384 < s.size) = false := by rw [decide_eq_false_iff_not]; omega
    obtain ⟨A, hA⟩ : ∃ A, cut 0 s.data.toList = A := ⟨_, rfl⟩
    have HR : Hid (cutR s = A) := by rw [← hA]; exact if_neg hz
    obtain ⟨c, hc⟩ : ∃ c : Cs, c = ⟨s, -1, 0, 0, [], [], 0, 0⟩ := ⟨_, rfl⟩
    obtain ⟨w1, hw1⟩ : ∃ w1, w1 = w.alloc (.cells #[.string s, .int .i64 (-1), .int .i64 0, .int .i64 0, .slice none 0 0, .slice none 0 0, .int .i64 0, .int .i64 0] 60) := ⟨_, rfl⟩
    have HC : Hid (Cu w.heap.size w1 w.heap.size (.slice none 0 0) (.slice none 0 0) c) := by
      rw [hw1, hc]
      exact ⟨heap_new w _, World.ownsRow_nil _ _ _ _, World.ownsRow_nil _ _ _ _, Nat.le_refl _⟩
    have HB1 : Hid (Below w.heap.size w w1) := by rw [hw1]; exact bel_up _ _
    have HW1 : Hid (w1 = w.alloc (.cells #[.string s, .int .i64 (-1), .int .i64 0, .int .i64 0, .slice none 0 0, .slice none 0 0, .int .i64 0, .int .i64 0] 60)) := hw1
    have HM : Hid (Mid A c.s 0 c) := by
      rw [hc, ← hA]
      exact ⟨rfl, rfl, rfl, rfl, Nat.le_refl _, (pfx_nil _).symm⟩
    have HS : Hid (c.s.size ≤ 1000000000) := by rw [hc]; show s.size ≤ _; omega
    have HP : Hid (c.p = -1) := by rw [hc]; exact rfl
    clear hz hA hc hw1
    go_enter Try.func12, Try.ntmps12
    go_upto_region 4 with fail
    rw [← HW1.out]
    go_wp2_with fail
    refine (run_any HP.out HS.out HM.out w1 HC.out).mono ?_
    rintro e w2 ⟨rfl, b2, vb, vw, c2, h2, hres⟩
    have H2 : Hid (Cu w.heap.size w2 w.heap.size vb vw c2) := h2
    have B2 : Hid (Below w.heap.size w w2) := HB1.out.trans b2
    clear h2 b2 HC HM HS HP HW1 HB1
    rcases hres with ⟨h1, h2⟩ | ⟨x, o, hx, h1, h2, h3⟩
    · have k6 := H2.out.k6 h1
      have k5 := H2.out.c5
      have HE : Hid (A = .inr c2.ws) := h2
      obtain ⟨ra, rc, hrv⟩ := row_shape H2.out.hw
      subst hrv
      clear h1 h2
      go_wp2_with fail
      go_ret3
      exact ⟨.inl ⟨c2.ws, _, HR.out.trans HE.out, rfl, H2.out.hw⟩, B2.out⟩
    · have k6 := H2.out.k6 h1
      have k7 : w2.cell? ⟨w.heap.size, 7, none⟩ = some (.int .i64 (o : Int)) := by rw [← h2]; exact H2.out.c7
      have n6 : ¬ ((x : Int) = 0) := by omega
      have n7 : ((x : Int) != 0) = true := by simpa using hx
      have n8 : (x != 0) = true := by simpa using hx
      have HE : Hid (A = .inl (x, o)) := h3
      have HX : Hid (x ≠ 0) := hx
      clear h1 h2 h3 hx
      go_upto_region 6 with fail
      have j6 : w2.drew.cell? ⟨w.heap.size, 6, none⟩ = some (.int .i64 (x : Int)) := k6
      have j7 : w2.drew.cell? ⟨w.heap.size, 7, none⟩ = some (.int .i64 (o : Int)) := k7
      go_region
      go_wp2_with fail
      go_ret3
      exact ⟨.inr ⟨x, o, HX.out, HR.out.trans HE.out, rfl⟩, B2.out.trans (Below.drew (Below.refl _ _))⟩
end Go.Proofs.Ythfijmabagjdkaa
