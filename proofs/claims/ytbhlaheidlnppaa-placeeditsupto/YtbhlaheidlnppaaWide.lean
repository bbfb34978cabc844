import Derived.Test.YtbhlaheidlnppaaLastb
import Derived.Test.YtbhlaheidlnppaaRefw
namespace Go.Proofs.Ytbhlaheidlnppaa
open Go.RowKit

set_option maxRecDepth 1000000 in
set_option maxHeartbeats 1000000 in
theorem wide1_any (k u bp : Nat) (col : Int) (W : World) (k1 : W.cell? ⟨bp, 1, none⟩ = some (.int .i64 col)) :
    Calls Try.prog 35 (#[.agg #[.int .i64 (k : Int), .int .i64 (u : Int)]] ++ #[.pointer (some ⟨bp, 0, none⟩)]) W fun e w' => e = .returned (.bool (winAt col k u)) ∧ Below W.heap.size W w' := by
  have k2 := cell_up (.cells #[.int .i64 (k : Int), .int .i64 (u : Int)] 65) k1
  unfold winAt
  go_enter Try.func35, Try.ntmps35
  go_wp2_with fail
  go_ret
  exact ⟨rfl, bel_up _ _⟩
set_option maxRecDepth 1000000 in
set_option maxHeartbeats 1000000 in
theorem atWide11_any (k u bp : Nat) (col : Int) (W : World) (k1 : W.cell? ⟨bp, 1, none⟩ = some (.int .i64 col)) :
    Calls Try.prog 37 (#[.agg #[.int .i64 (k : Int), .int .i64 (u : Int)]] ++ #[.pointer (some ⟨bp, 0, none⟩)]) W fun e w' => e = .returned (.bool (winUn col k u)) ∧ Below W.heap.size W w' := by
  have k2 := cell_up (.cells #[.int .i64 (k : Int), .int .i64 (u : Int)] 65) k1
  unfold winUn
  go_enter Try.func37, Try.ntmps37
  go_wp2_with fail
  go_ret
  exact ⟨rfl, bel_up _ _⟩
theorem fld65_0 (x y : Int) (W : World) : (Instr.field 65 (.agg #[.int .i64 x, .int .i64 y]) 0).run Try.prog W = .ok (.int .i64 x) W := by kernel_rfl
theorem fld33_0 (x y : Int) (W : World) : (Instr.field 33 (.agg #[.int .i64 x, .int .i64 y]) 0).run Try.prog W = .ok (.int .i64 x) W := by kernel_rfl
theorem fld33_1 (x y : Int) (W : World) : (Instr.field 33 (.agg #[.int .i64 x, .int .i64 y]) 1).run Try.prog W = .ok (.int .i64 y) W := by kernel_rfl
theorem enters35 : ∀ args W, (callFunc 35 args).run Try.prog W = .ok (.enter 35 args) W := enters_of Try.func35 (by kernel_rfl) rfl
theorem enters37 : ∀ args W, (callFunc 37 args).run Try.prog W = .ok (.enter 37 args) W := enters_of Try.func37 (by kernel_rfl) rfl
theorem enters36 : ∀ args W, (callFunc 36 args).run Try.prog W = .ok (.enter 36 args) W := enters_of Try.func36 (by kernel_rfl) rfl
theorem win_at {W : World} {bp : Nat} {col : Int} (k1 : W.cell? ⟨bp, 1, none⟩ = some (.int .i64 col)) : Win W 35 #[.pointer (some ⟨bp, 0, none⟩)] (winAt col) :=
  ⟨enters35, fun W' k u hW => wide1_any k u bp col W' (below_cell hW k1)⟩
theorem win_un {W : World} {bp : Nat} {col : Int} (k1 : W.cell? ⟨bp, 1, none⟩ = some (.int .i64 col)) : Win W 37 #[.pointer (some ⟨bp, 0, none⟩)] (winUn col) :=
  ⟨enters37, fun W' k u hW => atWide11_any k u bp col W' (below_cell hW k1)⟩

set_option maxRecDepth 1000000 in
set_option maxHeartbeats 2000000 in
theorem atWide1_any (b : Nat) (s : ByteArray) (T : List ((Nat × Nat) × Value)) (n : Nat) (x : (Nat × Nat) × Value) (bx bp : Nat) (col : Int) (W : World) (h : Ix W b s T) (hx : T[n]? = some x)
    (k0 : W.cell? ⟨bx, 0, none⟩ = some (.pointer (some ⟨b, 0, none⟩))) (k1 : W.cell? ⟨bp, 1, none⟩ = some (.int .i64 col)) :
    Calls Try.prog 36 (#[.agg #[.int .i64 (x.1.1 : Int), .int .i64 (x.1.2 : Int), x.2]] ++ #[.pointer (some ⟨bx, 0, none⟩), .pointer (some ⟨bp, 0, none⟩)]) W fun e w' => e = .returned (.int .i64 ((lastB (s.extract x.1.1 x.1.2) (winUn col)).1 : Int)) ∧ Below W.heap.size W w' := by
  obtain ⟨mp, mn, mc, he⟩ := (h.mem hx).form
  have hmk := h.mem hx
  have hle := h.rw.le _ _ (map_get hx)
  obtain ⟨⟨a, e⟩, v⟩ := x
  simp only at he hmk hle ⊢
  subst he
  have b1 := bel_up W (.cells #[.int .i64 (a : Int), .int .i64 (e : Int), .slice mp mn mc] 58)
  have hI := h.mono b1
  have k0' := below_cell b1 k0
  have k1' := below_cell b1 k1
  obtain ⟨z0, z1, z2⟩ := cells3 W (.int .i64 (a : Int)) (.int .i64 (e : Int)) (.slice mp mn mc) 58
  have hmk' := hmk.mono b1
  have c0 := hI.text
  have hmf := make_func
  have hfd := fun (x y : Int) (W : World) => fld65_0 x y W
  have HL : Hid (∀ W', Below (W.alloc (.cells #[.int .i64 (a : Int), .int .i64 (e : Int), .slice mp mn mc] 58)).heap.size (W.alloc (.cells #[.int .i64 (a : Int), .int .i64 (e : Int), .slice mp mn mc] 58)) W' → Calls Try.prog 34 #[.agg #[.int .i64 (a : Int), .int .i64 (e : Int), .slice mp mn mc], .string s, .func (.func 37) #[] #[.pointer (some ⟨bp, 0, none⟩)]] W' fun e' w' => e' = .returned (.agg #[.int .i64 ((lastB (s.extract a e) (winUn col)).1 : Int), .int .i64 ((lastB (s.extract a e) (winUn col)).2 : Int)]) ∧ Below W'.heap.size W' w') :=
    fun W' hW => last_any a e (.slice mp mn mc) s 37 _ (winUn col) W' (hmk'.mono hW) hle.2.1 hle.2.2 h.size (win_un (below_cell hW k1')) (winUn_mono col)
  generalize lastB (s.extract a e) (winUn col) = r at HL ⊢
  obtain ⟨W0, hW0⟩ : ∃ W0, W0 = W.alloc (.cells #[.int .i64 (a : Int), .int .i64 (e : Int), .slice mp mn mc] 58) := ⟨_, rfl⟩
  rw [← hW0] at HL k0' k1' z0 z1 z2 c0 b1
  have HE : Hid _ := hW0
  have B1 : Hid _ := b1
  have HP : Hid (∀ W', Below W0.heap.size W0 W' → W'.cell? ⟨bx, 0, none⟩ = some (.pointer (some ⟨b, 0, none⟩)) ∧ W'.cell? ⟨b, 0, none⟩ = some (.string s) ∧ W'.cell? ⟨W.heap.size, 0, none⟩ = some (.int .i64 (a : Int)) ∧ W'.cell? ⟨W.heap.size, 1, none⟩ = some (.int .i64 (e : Int)) ∧ W'.cell? ⟨W.heap.size, 2, none⟩ = some (.slice mp mn mc) ∧ Below W0.heap.size W0 W') := fun W' hW => ⟨below_cell hW k0', below_cell hW c0, below_cell hW z0, below_cell hW z1, below_cell hW z2, hW⟩
  have HB : Hid (∀ W', (W'.cell? ⟨bx, 0, none⟩ = some (.pointer (some ⟨b, 0, none⟩)) ∧ W'.cell? ⟨b, 0, none⟩ = some (.string s) ∧ W'.cell? ⟨W.heap.size, 0, none⟩ = some (.int .i64 (a : Int)) ∧ W'.cell? ⟨W.heap.size, 1, none⟩ = some (.int .i64 (e : Int)) ∧ W'.cell? ⟨W.heap.size, 2, none⟩ = some (.slice mp mn mc) ∧ Below W0.heap.size W0 W') → Below W0.heap.size W0 W') := fun W' h => h.2.2.2.2.2
  clear hI hmk hmk' h hx hle b1 hW0 k0 k1 k1'
  go_enter Try.func36, Try.ntmps36
  go_wp2_with fail
  rw [← HE.out]
  go_region_held3 (fun W' => W'.cell? ⟨bx, 0, none⟩ = some (.pointer (some ⟨b, 0, none⟩)) ∧ W'.cell? ⟨b, 0, none⟩ = some (.string s) ∧ W'.cell? ⟨W.heap.size, 0, none⟩ = some (.int .i64 (a : Int)) ∧ W'.cell? ⟨W.heap.size, 1, none⟩ = some (.int .i64 (e : Int)) ∧ W'.cell? ⟨W.heap.size, 2, none⟩ = some (.slice mp mn mc) ∧ Below W0.heap.size W0 W') (first | exact HP.out _ (Below.drew (Below.refl _ _)) | exact HP.out _ (below_trans (HB.out _ (by assumption)) hb) | assumption)
    (first
    | (go_at_call 34; refine (HL.out _ ?_).mono ?_; exact HB.out _ (by assumption); rintro e w1 ⟨rfl, hb⟩))
  all_goals
    go_wp2_with fail
    go_ret
    exact ⟨rfl, below_trans B1.out (HB.out _ (by assumption))⟩

set_option maxRecDepth 1000000 in
set_option maxHeartbeats 1000000 in
theorem atWide_any (b : Nat) (s : ByteArray) (T : List ((Nat × Nat) × Value)) (row col : Int) (w : World) (h : Ix w b s T) :
    Calls Try.prog 20 #[.pointer (some ⟨b, 0, none⟩), .agg #[.int .i64 row, .int .i64 col]] w fun e w' => e = .returned (.int .i64 (atW s (T.map (·.1)) row col)) ∧ Below w.heap.size w w' := by
  have b1 := below_trans (bel_up w (.cells #[.pointer (some ⟨b, 0, none⟩)] 22)) (bel_up _ (.cells #[.int .i64 row, .int .i64 col] 33))
  have hI := h.mono b1
  have k0 := cell_up (.cells #[.int .i64 row, .int .i64 col] 33) (cell1 w (.pointer (some ⟨b, 0, none⟩)) 22)
  have k1 := (cells2 (w.alloc (.cells #[.pointer (some ⟨b, 0, none⟩)] 22)) (.int .i64 row) (.int .i64 col) 33).2
  rw [World.size_alloc] at k1
  obtain ⟨W0, hW0⟩ : ∃ W0, W0 = (w.alloc (.cells #[.pointer (some ⟨b, 0, none⟩)] 22)).alloc (.cells #[.int .i64 row, .int .i64 col] 33) := ⟨_, rfl⟩
  rw [← hW0] at b1 hI k0 k1
  have H : Calls Try.prog 32 #[.pointer (some ⟨b, 0, none⟩), .int .i64 row, .func (.func 36) #[] #[.pointer (some ⟨w.heap.size, 0, none⟩), .pointer (some ⟨w.heap.size + 1, 0, none⟩)]] W0 fun e w' => e = .returned (.int .i64 (atW s (T.map (·.1)) row col)) ∧ Below W0.heap.size W0 w' := by
    by_cases h0 : row < 0
    · have ha : atW s (T.map (·.1)) row col = 0 := by unfold atW; rw [if_pos h0]
      rw [ha]
      exact (inRow_neg b row _ _ h0).mono fun _ _ ⟨e, q⟩ => ⟨e, q ▸ Below.refl _ _⟩
    · by_cases h1 : (T.length : Int) ≤ row
      · have ha : atW s (T.map (·.1)) row col = s.size := by
          unfold atW
          rw [if_neg h0, List.getElem?_eq_none (by simp; omega)]
        rw [ha]
        exact (inRow_past b s T row _ _ hI h1).mono fun _ _ ⟨e, q⟩ => ⟨e, q ▸ Below.refl _ _⟩
      · obtain ⟨n, hn⟩ : ∃ n : Nat, row = n := ⟨row.toNat, by omega⟩
        subst hn
        obtain ⟨x, hx⟩ := getT (T := T) (i := n) (by omega)
        have ha : atW s (T.map (·.1)) n col = x.1.1 + ((lastB (s.extract x.1.1 x.1.2) (winUn col)).1 : Nat) := by
          unfold atW
          rw [if_neg h0, show ((n : Int)).toNat = n by omega, map_get hx]
        rw [ha]
        have hle := h.rw.le _ _ (map_get hx)
        have hz := h.size
        have hc : (lastB (s.extract x.1.1 x.1.2) (winUn col)).1 ≤ (s.extract x.1.1 x.1.2).size := by
          by_cases hw : winUn col 0 0 = true
          · obtain ⟨k, u, e1, e2, _⟩ := lastB_spec (s.extract x.1.1 x.1.2) (winUn col) hw
            rw [e1]
            exact e2.le.1
          · rw [lastB_none _ _ (by simpa using hw)]
            exact Nat.zero_le _
        rw [ext_size s x.1.1 x.1.2 hle.2.1 hle.2.2] at hc
        exact inRow_some b s T n x 36 _ _ _ hI hx enters36 (by omega) (by omega) (fun W hW => atWide1_any b s T n x _ _ col W (hI.mono hW) hx (below_cell hW k0) (below_cell hW k1))
  have HH : Hid _ := H
  have B1 : Hid _ := b1
  have HE : Hid _ := hW0
  clear H b1 hI h k0 k1 hW0
  have hmf := make_func
  go_enter Try.func20, Try.ntmps20
  go_wp2_with fail
  rw [← HE.out]
  refine Calls.mono HH.out ?_
  rintro e w1 ⟨rfl, q⟩
  have B2 : Hid _ := q
  clear q
  go_wp2_with fail
  go_ret
  exact ⟨rfl, below_trans B1.out B2.out⟩

end Go.Proofs.Ytbhlaheidlnppaa
