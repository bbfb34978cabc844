import Derived.Test.YtbhlaheidlnppaaFind
import Derived.Deep.RegionHeld3
namespace Go.Proofs.Ytbhlaheidlnppaa
open Go.RowKit

set_option maxRecDepth 1000000 in
set_option maxHeartbeats 1000000 in
theorem inRow_neg (b : Nat) (n : Int) (f : Value) (w : World) (hn : n < 0) :
    Calls Try.prog 32 #[.pointer (some ⟨b, 0, none⟩), .int .i64 n, f] w fun e w' => e = .returned (.int .i64 0) ∧ w = w' := by
  go_enter Try.func32, Try.ntmps32
  go_wp2_with fail
  go_ret
  exact ⟨rfl, rfl⟩
set_option maxRecDepth 1000000 in
set_option maxHeartbeats 1000000 in
theorem inRow_past (b : Nat) (s : ByteArray) (T : List ((Nat × Nat) × Value)) (n : Int) (f : Value) (w : World) (h : Ix w b s T) (hn : (T.length : Int) ≤ n) :
    Calls Try.prog 32 #[.pointer (some ⟨b, 0, none⟩), .int .i64 n, f] w fun e w' => e = .returned (.int .i64 (s.size : Int)) ∧ w = w' := by
  obtain ⟨g, cap, C⟩ := h.cells
  have c0 := C.c0
  have c1 := C.c1
  have hl := C.len
  have h0 : 0 ≤ n := by omega
  clear h C
  go_enter Try.func32, Try.ntmps32
  go_wp2_with fail
  go_ret
  exact ⟨rfl, rfl⟩
set_option maxRecDepth 1000000 in
set_option maxHeartbeats 2000000 in
theorem inRow_some (b : Nat) (s : ByteArray) (T : List ((Nat × Nat) × Value)) (n : Nat) (x : (Nat × Nat) × Value) (f : Nat) (cb : Array Value) (off : Int) (w : World) (h : Ix w b s T) (hx : T[n]? = some x)
    (eg : ∀ args W, (callFunc f args).run Try.prog W = .ok (.enter f args) W) (h0 : 0 ≤ off) (h1 : off ≤ 1099511627776)
    (hf : ∀ W : World, Below w.heap.size w W → Calls Try.prog f (#[.agg #[.int .i64 (x.1.1 : Int), .int .i64 (x.1.2 : Int), x.2]] ++ cb) W fun e w' => e = .returned (.int .i64 off) ∧ Below W.heap.size W w') :
    Calls Try.prog 32 #[.pointer (some ⟨b, 0, none⟩), .int .i64 (n : Int), .func (.func f) #[] cb] w fun e w' => e = .returned (.int .i64 ((x.1.1 : Int) + off)) ∧ Below w.heap.size w w' := by
  obtain ⟨g, cap, C⟩ := h.cells
  have c1 := C.c1
  have hl := C.len
  have hn : n < T.length := (List.getElem?_eq_some_iff.1 hx).1
  obtain ⟨r0, r1, r2⟩ := C.row n x hx
  have hle := h.rw.le _ _ (map_get hx)
  have hz := h.size
  have hfr : x.1.1 ≤ 1099511627776 := by omega
  obtain ⟨mp, mn, mc, he⟩ := (h.mem hx).form
  obtain ⟨⟨a, e⟩, v⟩ := x
  simp only at he r0 r1 r2 hfr hf ⊢
  subst he
  have HF : Hid _ := hf
  generalize hln : T.length = len at *
  have hw := IntKind.wrap_i64 ((a : Int) + off)
  have hwr : IntKind.i64.wrap ((a : Int) + off) = (a : Int) + off := by rw [IntKind.wrap_i64]; omega
  have HP : Hid (∀ W, Below w.heap.size w W → W.cell? ⟨b, 1, none⟩ = some (.slice (some ⟨g, 0, none⟩) len cap) ∧ W.cell? ⟨g, n * 3, none⟩ = some (.int .i64 (a : Int)) ∧ W.cell? ⟨g, n * 3 + 1, none⟩ = some (.int .i64 (e : Int)) ∧ W.cell? ⟨g, n * 3 + 2, none⟩ = some (.slice mp mn mc) ∧ Below w.heap.size w W) := fun W hW => ⟨below_cell hW c1, below_cell hW r0, below_cell hW r1, below_cell hW r2, hW⟩
  have HB : Hid (∀ W, (W.cell? ⟨b, 1, none⟩ = some (.slice (some ⟨g, 0, none⟩) len cap) ∧ W.cell? ⟨g, n * 3, none⟩ = some (.int .i64 (a : Int)) ∧ W.cell? ⟨g, n * 3 + 1, none⟩ = some (.int .i64 (e : Int)) ∧ W.cell? ⟨g, n * 3 + 2, none⟩ = some (.slice mp mn mc) ∧ Below w.heap.size w W) → Below w.heap.size w W) := fun W h => h.2.2.2.2
  clear h C hx hle hz hf hw hln
  go_enter Try.func32, Try.ntmps32
  go_wp2_with fail
  go_region_held3 (fun W => W.cell? ⟨b, 1, none⟩ = some (.slice (some ⟨g, 0, none⟩) len cap) ∧ W.cell? ⟨g, n * 3, none⟩ = some (.int .i64 (a : Int)) ∧ W.cell? ⟨g, n * 3 + 1, none⟩ = some (.int .i64 (e : Int)) ∧ W.cell? ⟨g, n * 3 + 2, none⟩ = some (.slice mp mn mc) ∧ Below w.heap.size w W) (first | exact HP.out _ (Below.drew (Below.refl _ _)) | exact HP.out _ (below_trans (HB.out _ (by assumption)) hb) | assumption)
    (first
    | (go_at_fn f; refine (HF.out _ ?_).mono ?_; exact HB.out _ (by assumption); rintro e w1 ⟨rfl, hb⟩))
  all_goals
    go_wp2_with fail
    go_ret
    exact ⟨rfl, HB.out _ (by assumption)⟩

set_option maxRecDepth 1000000 in
set_option maxHeartbeats 1000000 in
theorem at1_any (a e : Nat) (v : Value) (bp : Nat) (col : Int) (W : World) (hae : a ≤ e) (he : e ≤ 1099511627776) (hv : ∃ p n c, v = .slice p n c) (k1 : W.cell? ⟨bp, 1, none⟩ = some (.int .i64 col)) :
    Calls Try.prog 33 (#[.agg #[.int .i64 (a : Int), .int .i64 (e : Int), v]] ++ #[.pointer (some ⟨bp, 0, none⟩)]) W fun e' w' => e' = .returned (.int .i64 (cl col ((e : Int) - (a : Int)))) ∧ Below W.heap.size W w' := by
  obtain ⟨p, n, c, rfl⟩ := hv
  have k2 := cell_up (.cells #[.int .i64 (a : Int), .int .i64 (e : Int), .slice p n c] 58) k1
  have HK : Hid _ := fun W : World => clamp_any col ((e : Int) - (a : Int)) W (by omega)
  go_enter Try.func33, Try.ntmps33
  go_wp2_with fail
  refine (HK.out _).mono ?_
  rintro e w' ⟨rfl, rfl⟩
  go_wp2_with fail
  go_ret
  exact ⟨rfl, bel_up _ _⟩
theorem enters33 : ∀ args W, (callFunc 33 args).run Try.prog W = .ok (.enter 33 args) W := enters_of Try.func33 (by kernel_rfl) rfl

set_option maxRecDepth 1000000 in
set_option maxHeartbeats 1000000 in
theorem at_any (b : Nat) (s : ByteArray) (T : List ((Nat × Nat) × Value)) (row col : Int) (w : World) (h : Ix w b s T) :
    Calls Try.prog 16 #[.pointer (some ⟨b, 0, none⟩), .agg #[.int .i64 row, .int .i64 col]] w fun e w' => e = .returned (.int .i64 (atS s (T.map (·.1)) row col)) ∧ Below w.heap.size w w' := by
  have b1 := bel_up w (.cells #[.int .i64 row, .int .i64 col] 33)
  have hI := h.mono b1
  have k1 := (cells2 w (.int .i64 row) (.int .i64 col) 33).2
  have H : Calls Try.prog 32 #[.pointer (some ⟨b, 0, none⟩), .int .i64 row, .func (.func 33) #[] #[.pointer (some ⟨w.heap.size, 0, none⟩)]] (w.alloc (.cells #[.int .i64 row, .int .i64 col] 33)) fun e w' => e = .returned (.int .i64 (atS s (T.map (·.1)) row col)) ∧ Below (w.alloc (.cells #[.int .i64 row, .int .i64 col] 33)).heap.size (w.alloc (.cells #[.int .i64 row, .int .i64 col] 33)) w' := by
    by_cases h0 : row < 0
    · have ha : atS s (T.map (·.1)) row col = 0 := by unfold atS; rw [if_pos h0]
      rw [ha]
      exact (inRow_neg b row _ _ h0).mono fun _ _ ⟨e, q⟩ => ⟨e, q ▸ Below.refl _ _⟩
    · by_cases h1 : (T.length : Int) ≤ row
      · have ha : atS s (T.map (·.1)) row col = s.size := by
          unfold atS
          rw [if_neg h0, List.getElem?_eq_none (by simp; omega)]
        rw [ha]
        exact (inRow_past b s T row _ _ hI h1).mono fun _ _ ⟨e, q⟩ => ⟨e, q ▸ Below.refl _ _⟩
      · obtain ⟨n, hn⟩ : ∃ n : Nat, row = n := ⟨row.toNat, by omega⟩
        subst hn
        obtain ⟨x, hx⟩ := getT (T := T) (i := n) (by omega)
        have ha : atS s (T.map (·.1)) n col = x.1.1 + cl col (x.1.2 - x.1.1) := by
          unfold atS
          rw [if_neg h0, show ((n : Int)).toNat = n by omega, map_get hx]
        rw [ha]
        have hle := h.rw.le _ _ (map_get hx)
        have hz := h.size
        have hc := cl_bd col ((x.1.2 : Int) - x.1.1) (by omega)
        exact inRow_some b s T n x 33 _ _ _ hI hx enters33 hc.1 (by omega) (fun W hW => at1_any _ _ _ _ col W hle.2.1 (by omega) (h.mem hx).form (below_cell hW k1))
  have HH : Hid _ := H
  have B1 : Hid _ := b1
  clear H b1 hI h k1
  have hmf := make_func
  go_enter Try.func16, Try.ntmps16
  go_wp2_with fail
  refine Calls.mono HH.out ?_
  rintro e w1 ⟨rfl, q⟩
  have B2 : Hid _ := q
  clear q
  go_wp2_with fail
  go_ret
  exact ⟨rfl, below_trans B1.out B2.out⟩

end Go.Proofs.Ytbhlaheidlnppaa
