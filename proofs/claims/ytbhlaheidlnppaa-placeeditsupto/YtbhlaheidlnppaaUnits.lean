import Derived.Test.YtbhlaheidlnppaaWideb
import Derived.Test.YtbhlaheidlnppaaBytes
namespace Go.Proofs.Ytbhlaheidlnppaa
open Go.RowKit

set_option maxRecDepth 1000000 in
set_option maxHeartbeats 4000000 in
theorem placeUnits_any (s : ByteArray) (n row col : Int) (w : World) (hs : s.size ≤ 1099511627776) :
    Calls Try.prog 8 #[.string s, .int .i64 n, .agg #[.int .i64 row, .int .i64 col]] w fun e w' => e = .returned (.bool true) ∧ Below w.heap.size w w' := by
  have H : Hid _ := new_any s (w.alloc (.cells #[.int .i64 row, .int .i64 col] 33)) hs
  have HS : Hid _ := hs
  clear hs
  go_enter Try.func8, Try.ntmps8
  go_wp2_with fail
  refine Calls.mono H.out ?_
  rintro e w1 ⟨b, T, rfl, hI, hb⟩
  obtain ⟨t, j, x, ht, hx, h1, h2, h3⟩ := hI.find n
  have k0 := below_cell hb (cells2 w (.int .i64 row) (.int .i64 col) 33).1
  have k1 := below_cell hb (cells2 w (.int .i64 row) (.int .i64 col) 33).2
  have C14 : Hid (∀ W, Below w1.heap.size w1 W → Calls Try.prog 19 #[.pointer (some ⟨b, 0, none⟩), .int .i64 n] W fun e w' => e = .returned (.agg #[.int .i64 (j : Int), .int .i64 ((lastB (s.extract x.1.1 x.1.2) (winAt ((t - x.1.1 : Nat) : Int))).2 : Int)]) ∧ Below W.heap.size W w') := fun W hW => wide_any b s T n t j x W (hI.mono hW) ht hx h1 h2
  have C15 : Hid (∀ W, Calls Try.prog 25 #[.string s, .int .i64 n] W fun e w' => e = .returned (.agg #[.int .i64 (j : Int), .int .i64 ((lastB (s.extract x.1.1 x.1.2) (winAt ((t - x.1.1 : Nat) : Int))).2 : Int)]) ∧ Below W.heap.size W w') := fun W => rwide_any s _ n t j x.1 W hI.rw HS.out ht (map_get hx) h1 h2
  have C16 : Hid (∀ W, Below w1.heap.size w1 W → Calls Try.prog 20 #[.pointer (some ⟨b, 0, none⟩), .agg #[.int .i64 row, .int .i64 col]] W fun e w' => e = .returned (.int .i64 (atW s (T.map (·.1)) row col)) ∧ Below W.heap.size W w') := fun W hW => atWide_any b s T row col W (hI.mono hW)
  have C17 : Hid (∀ W, Calls Try.prog 26 #[.string s, .agg #[.int .i64 row, .int .i64 col]] W fun e w' => e = .returned (.int .i64 (atW s (T.map (·.1)) row col)) ∧ Below W.heap.size W w') := fun W => ratw_any s _ row col W hI.rw HS.out
  generalize atW s (T.map (·.1)) row col = r at C16 C17
  generalize ((lastB (s.extract x.1.1 x.1.2) (winAt ((t - x.1.1 : Nat) : Int))).2 : Int) = c at C14 C15
  have B1 : Hid _ := hb
  have HP : Hid (∀ W, Below w1.heap.size w1 W → W.cell? ⟨w.heap.size, 0, none⟩ = some (.int .i64 row) ∧ W.cell? ⟨w.heap.size, 1, none⟩ = some (.int .i64 col) ∧ Below w1.heap.size w1 W) := fun W hW => ⟨below_cell hW k0, below_cell hW k1, hW⟩
  have HB : Hid (∀ W, (W.cell? ⟨w.heap.size, 0, none⟩ = some (.int .i64 row) ∧ W.cell? ⟨w.heap.size, 1, none⟩ = some (.int .i64 col) ∧ Below w1.heap.size w1 W) → Below w1.heap.size w1 W) := fun W h => h.2.2
  clear hI hb k0 k1 ht hx h1 h2 h3 H
  go_wp2_with fail
  go_region_held3 (fun W => W.cell? ⟨w.heap.size, 0, none⟩ = some (.int .i64 row) ∧ W.cell? ⟨w.heap.size, 1, none⟩ = some (.int .i64 col) ∧ Below w1.heap.size w1 W) (first | exact HP.out _ (Below.drew (Below.refl _ _)) | exact HP.out _ (below_trans (HB.out _ (by assumption)) hb) | assumption)
    (first
    | (go_at_call 19; refine (C14.out _ ?_).mono ?_; exact HB.out _ (by assumption); rintro e w1 ⟨rfl, hb⟩)
    | (go_at_call 25; refine (C15.out _).mono ?_; rintro e w1 ⟨rfl, hb⟩)
    | (go_at_call 20; refine (C16.out _ ?_).mono ?_; exact HB.out _ (by assumption); rintro e w1 ⟨rfl, hb⟩)
    | (go_at_call 26; refine (C17.out _).mono ?_; rintro e w1 ⟨rfl, hb⟩))
  all_goals
    go_wp2_with fail
    go_ret
    exact ⟨by simp, below_trans (below_trans (bel_up _ _) B1.out) (HB.out _ (by assumption))⟩

end Go.Proofs.Ytbhlaheidlnppaa
