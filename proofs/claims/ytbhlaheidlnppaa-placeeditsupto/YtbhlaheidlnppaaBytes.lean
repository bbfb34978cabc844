import Derived.Test.YtbhlaheidlnppaaNew
namespace Go.Proofs.Ytbhlaheidlnppaa
open Go.RowKit

/-- the row of a place -/
theorem Ix.find {w : World} {b : Nat} {s : ByteArray} {T : List ((Nat × Nat) × Value)} (h : Ix w b s T) (n : Int) : ∃ (t j : Nat) (x : (Nat × Nat) × Value), cl n s.size = t ∧ T[j]? = some x ∧ x.1.1 ≤ t ∧ t ≤ x.1.2 ∧ t ≤ s.size := by
  have hb := cl_bd n s.size (by omega)
  obtain ⟨t, ht⟩ : ∃ t : Nat, cl n s.size = t := ⟨(cl n s.size).toNat, by omega⟩
  obtain ⟨j, r, hj, h1, h2⟩ := h.rw.find (t := t) (Nat.zero_le _) (by omega)
  obtain ⟨x, hx, rfl⟩ := get_of_map hj
  exact ⟨t, j, x, ht, hx, h1, h2, by omega⟩

set_option maxRecDepth 1000000 in
set_option maxHeartbeats 4000000 in
theorem placeBytes_any (s : ByteArray) (n row col : Int) (w : World) (hs : s.size ≤ 1099511627776) :
    Calls Try.prog 4 #[.string s, .int .i64 n, .agg #[.int .i64 row, .int .i64 col]] w fun e w' => e = .returned (.bool true) ∧ Below w.heap.size w w' := by
  have H : Hid _ := new_any s (w.alloc (.cells #[.int .i64 row, .int .i64 col] 33)) hs
  have HS : Hid _ := hs
  clear hs
  go_enter Try.func4, Try.ntmps4
  go_wp2_with fail
  refine Calls.mono H.out ?_
  rintro e w1 ⟨b, T, rfl, hI, hb⟩
  obtain ⟨t, j, x, ht, hx, h1, h2, h3⟩ := hI.find n
  have k0 := below_cell hb (cells2 w (.int .i64 row) (.int .i64 col) 33).1
  have k1 := below_cell hb (cells2 w (.int .i64 row) (.int .i64 col) 33).2
  have C14 : Hid (∀ W, Below w1.heap.size w1 W → Calls Try.prog 14 #[.pointer (some ⟨b, 0, none⟩), .int .i64 n] W fun e w' => e = .returned (.agg #[.int .i64 (j : Int), .int .i64 ((t - x.1.1 : Nat) : Int)]) ∧ Below W.heap.size W w') := fun W hW => pos_any b s T n t j x W (hI.mono hW) ht hx h1 h2
  have C15 : Hid (∀ W, Calls Try.prog 15 #[.string s, .int .i64 n] W fun e w' => e = .returned (.agg #[.int .i64 (j : Int), .int .i64 ((t - x.1.1 : Nat) : Int)]) ∧ Below W.heap.size W w') := fun W => rpos_any s _ n t j x.1 W hI.rw HS.out ht (map_get hx) h1 h2
  have C16 : Hid (∀ W, Below w1.heap.size w1 W → Calls Try.prog 16 #[.pointer (some ⟨b, 0, none⟩), .agg #[.int .i64 row, .int .i64 col]] W fun e w' => e = .returned (.int .i64 (atS s (T.map (·.1)) row col)) ∧ Below W.heap.size W w') := fun W hW => at_any b s T row col W (hI.mono hW)
  have C17 : Hid (∀ W, Calls Try.prog 17 #[.string s, .agg #[.int .i64 row, .int .i64 col]] W fun e w' => e = .returned (.int .i64 (atS s (T.map (·.1)) row col)) ∧ Below W.heap.size W w') := fun W => rat_any s _ row col W hI.rw HS.out
  generalize atS s (T.map (·.1)) row col = r at C16 C17
  generalize ((t - x.1.1 : Nat) : Int) = c at C14 C15
  have B1 : Hid _ := hb
  have HP : Hid (∀ W, Below w1.heap.size w1 W → W.cell? ⟨w.heap.size, 0, none⟩ = some (.int .i64 row) ∧ W.cell? ⟨w.heap.size, 1, none⟩ = some (.int .i64 col) ∧ Below w1.heap.size w1 W) := fun W hW => ⟨below_cell hW k0, below_cell hW k1, hW⟩
  have HB : Hid (∀ W, (W.cell? ⟨w.heap.size, 0, none⟩ = some (.int .i64 row) ∧ W.cell? ⟨w.heap.size, 1, none⟩ = some (.int .i64 col) ∧ Below w1.heap.size w1 W) → Below w1.heap.size w1 W) := fun W h => h.2.2
  clear hI hb k0 k1 ht hx h1 h2 h3 H
  go_wp2_with fail
  go_region_held3 (fun W => W.cell? ⟨w.heap.size, 0, none⟩ = some (.int .i64 row) ∧ W.cell? ⟨w.heap.size, 1, none⟩ = some (.int .i64 col) ∧ Below w1.heap.size w1 W) (first | exact HP.out _ (Below.drew (Below.refl _ _)) | exact HP.out _ (below_trans (HB.out _ (by assumption)) hb) | assumption)
    (first
    | (go_at_call 14; refine (C14.out _ ?_).mono ?_; exact HB.out _ (by assumption); rintro e w1 ⟨rfl, hb⟩)
    | (go_at_call 15; refine (C15.out _).mono ?_; rintro e w1 ⟨rfl, hb⟩)
    | (go_at_call 16; refine (C16.out _ ?_).mono ?_; exact HB.out _ (by assumption); rintro e w1 ⟨rfl, hb⟩)
    | (go_at_call 17; refine (C17.out _).mono ?_; rintro e w1 ⟨rfl, hb⟩))
  all_goals
    go_wp2_with fail
    go_ret
    exact ⟨by simp, below_trans (below_trans (bel_up _ _) B1.out) (HB.out _ (by assumption))⟩

end Go.Proofs.Ytbhlaheidlnppaa
