import Derived.Test.YtkaciochlemjiabCop
namespace Go.Proofs.Ytkaciochlemjiab
open Go.RowKit Go.Maps

/-! What Decode answers of the start's bytes. -/

set_option maxRecDepth 100000 in
set_option maxHeartbeats 4000000 in
theorem num0_any {r : Nat} {d : ByteArray} (most : Int) (hm : 0 ≤ most) (hd : 0 < d.size) (hz : d.size ≤ 100) (h0 : d.get! 0 = 0) (W : World) (hc : W.cell? ⟨r, 0, none⟩ = some (.string d)) (hf : W.frozen? ⟨r, 0, none⟩ = false) :
    Calls Try.prog 51 #[.pointer (some ⟨r, 0, none⟩), .int .i64 most] W fun e W' => e = .returned (.tuple #[.int .i64 0, .int .i64 0]) ∧ W' = W.setCell ⟨r, 0, none⟩ (.string (d.extract 1 d.size)) := by
  have hmin : decide ((0 : Int) < min 3 (d.size : Int)) = true := by rw [decide_eq_true_eq]; omega
  have hmin2 : (0 : Int) < min 3 (d.size : Int) := by omega
  have hix : ∀ W : World, (Instr.index 9 (.string d) (.int .i64 0)).run Try.prog W = .ok (.int .u8 0) W := fun W => by
    have := idx_fact d 0 hd W
    rw [h0] at this
    exact this
  have hmo : decide (most < 0) = false := by rw [decide_eq_false_iff_not]; omega
  have hs1 : (1 : Int) ≤ (d.size : Int) := by omega
  have hs2 : 1 ≤ d.size := hd
  clear h0 hd hm
  go_enter Try.func51, Try.ntmps51
  go_wp2_with fail
  go_loopg [6, 15] 1 (fun gm v6 v15 wr => v6 = .int .i64 0 ∧ v15 = .int .i64 0 ∧ wr = W ∧ gm = 1)
  case atStart => exact ⟨rfl, rfl, rfl, rfl⟩
  case round =>
    obtain ⟨rfl, rfl, hwr, -⟩ := hrel
    subst hwr
    go_wp2_with fail
    go_ret2
    exact ⟨rfl, rfl⟩

set_option maxHeartbeats 1000000 in
theorem grow72_any (W : World) : Calls Try.prog 68 #[.slice none 0 0, .int .i64 0] W fun e W' => e = .returned (.slice none 0 0) ∧ W' = W := by
  go_enter Try.func68, Try.ntmps68
  go_wp2_with fail
  go_ret
  exact ⟨rfl, rfl⟩

set_option maxHeartbeats 1000000 in
theorem grow73_any (W : World) : Calls Try.prog 69 #[.slice none 0 0, .int .i64 0] W fun e W' => e = .returned (.slice none 0 0) ∧ W' = W := by
  go_enter Try.func69, Try.ntmps69
  go_wp2_with fail
  go_ret
  exact ⟨rfl, rfl⟩

set_option maxHeartbeats 1000000 in
theorem grow74_any (W : World) : Calls Try.prog 70 #[.slice none 0 0, .int .i64 0] W fun e W' => e = .returned (.slice none 0 0) ∧ W' = W := by
  go_enter Try.func70, Try.ntmps70
  go_wp2_with fail
  go_ret
  exact ⟨rfl, rfl⟩

set_option maxRecDepth 100000 in
set_option maxHeartbeats 4000000 in
theorem lst53_any {r : Nat} {d : ByteArray} (most : Int) (fv : Value) (hm : 0 ≤ most) (hd : 0 < d.size) (hz : d.size ≤ 100) (h0 : d.get! 0 = 0) (W : World) (hc : W.cell? ⟨r, 0, none⟩ = some (.string d)) (hf : W.frozen? ⟨r, 0, none⟩ = false) :
    Calls Try.prog 49 #[.pointer (some ⟨r, 0, none⟩), .int .i64 most, fv] W fun e W' => e = .returned (.tuple #[.slice none 0 0, .int .i64 0]) ∧ W' = W.setCell ⟨r, 0, none⟩ (.string (d.extract 1 d.size)) := by
  have HN : Hid _ := num0_any (r := r) (d := d) most hm hd hz h0 W hc hf
  clear hm hd hz h0 hc hf
  go_enter Try.func49, Try.ntmps49
  go_wp2_with fail
  refine Calls.mono HN.out ?_
  rintro e w2 ⟨rfl, hw2⟩
  have HW2 : Hid _ := hw2
  clear hw2
  go_wp2_with fail
  refine (grow72_any w2).mono ?_
  rintro e w3 ⟨rfl, rfl⟩
  go_wp2_with fail
  go_loopg [10, 25] 1 (fun gm v10 v wr => v10 = .slice none 0 0 ∧ v = .int .i64 0 ∧ wr = w3 ∧ gm = 1)
  case atStart => exact ⟨rfl, rfl, rfl, rfl⟩
  case round =>
    obtain ⟨rfl, rfl, hwr, -⟩ := hrel
    subst hwr
    go_wp2_with fail
    go_ret2
    exact ⟨rfl, HW2.out⟩

set_option maxRecDepth 100000 in
set_option maxHeartbeats 4000000 in
theorem lst56_any {r : Nat} {d : ByteArray} (most : Int) (fv : Value) (hm : 0 ≤ most) (hd : 0 < d.size) (hz : d.size ≤ 100) (h0 : d.get! 0 = 0) (W : World) (hc : W.cell? ⟨r, 0, none⟩ = some (.string d)) (hf : W.frozen? ⟨r, 0, none⟩ = false) :
    Calls Try.prog 52 #[.pointer (some ⟨r, 0, none⟩), .int .i64 most, fv] W fun e W' => e = .returned (.tuple #[.slice none 0 0, .int .i64 0]) ∧ W' = W.setCell ⟨r, 0, none⟩ (.string (d.extract 1 d.size)) := by
  have HN : Hid _ := num0_any (r := r) (d := d) most hm hd hz h0 W hc hf
  clear hm hd hz h0 hc hf
  go_enter Try.func52, Try.ntmps52
  go_wp2_with fail
  refine Calls.mono HN.out ?_
  rintro e w2 ⟨rfl, hw2⟩
  have HW2 : Hid _ := hw2
  clear hw2
  go_wp2_with fail
  refine (grow73_any w2).mono ?_
  rintro e w3 ⟨rfl, rfl⟩
  go_wp2_with fail
  go_loopg [10, 25] 1 (fun gm v10 v wr => v10 = .slice none 0 0 ∧ v = .int .i64 0 ∧ wr = w3 ∧ gm = 1)
  case atStart => exact ⟨rfl, rfl, rfl, rfl⟩
  case round =>
    obtain ⟨rfl, rfl, hwr, -⟩ := hrel
    subst hwr
    go_wp2_with fail
    go_ret2
    exact ⟨rfl, HW2.out⟩

set_option maxRecDepth 100000 in
set_option maxHeartbeats 4000000 in
theorem lst58_any {r : Nat} {d : ByteArray} (most : Int) (fv : Value) (hm : 0 ≤ most) (hd : 0 < d.size) (hz : d.size ≤ 100) (h0 : d.get! 0 = 0) (W : World) (hc : W.cell? ⟨r, 0, none⟩ = some (.string d)) (hf : W.frozen? ⟨r, 0, none⟩ = false) :
    Calls Try.prog 54 #[.pointer (some ⟨r, 0, none⟩), .int .i64 most, fv] W fun e W' => e = .returned (.tuple #[.slice none 0 0, .int .i64 0]) ∧ W' = W.setCell ⟨r, 0, none⟩ (.string (d.extract 1 d.size)) := by
  have HN : Hid _ := num0_any (r := r) (d := d) most hm hd hz h0 W hc hf
  clear hm hd hz h0 hc hf
  go_enter Try.func54, Try.ntmps54
  go_wp2_with fail
  refine Calls.mono HN.out ?_
  rintro e w2 ⟨rfl, hw2⟩
  have HW2 : Hid _ := hw2
  clear hw2
  go_wp2_with fail
  refine (grow74_any w2).mono ?_
  rintro e w3 ⟨rfl, rfl⟩
  go_wp2_with fail
  go_loopg [10, 25] 1 (fun gm v10 v wr => v10 = .slice none 0 0 ∧ v = .int .i64 0 ∧ wr = w3 ∧ gm = 1)
  case atStart => exact ⟨rfl, rfl, rfl, rfl⟩
  case round =>
    obtain ⟨rfl, rfl, hwr, -⟩ := hrel
    subst hwr
    go_wp2_with fail
    go_ret2
    exact ⟨rfl, HW2.out⟩

set_option maxRecDepth 100000 in
set_option maxHeartbeats 4000000 in
theorem dpart0_any {B r b : Nat} {d : ByteArray} {x : Int} (W : World) (hbr : b ≠ r) (hB1 : B ≤ b) (hB2 : B ≤ r) (hd : 0 < d.size) (hz : d.size ≤ 100) (h0 : d.get! 0 = 0) (hr : W.heap[r]? = some (.cells #[.string d] 56 (0, 0))) (hb : W.heap[b]? = some (.cells #[.slice none 0 0, .int .i64 x, .slice none 0 0, .slice none 0 0, .int .u16 0] 27 (0, 0))) :
    Calls Try.prog 26 #[.pointer (some ⟨r, 0, none⟩), .pointer (some ⟨b, 0, none⟩), .int .i64 0] W fun e W' => e = .returned (.int .i64 0) ∧ Below B W W' ∧ W'.heap[r]? = some (.cells #[.string (d.extract 1 d.size)] 56 (0, 0)) ∧ W'.heap[b]? = some (.cells #[.slice none 0 0, .int .i64 (x), .slice none 0 0, .slice none 0 0, .int .u16 0] 27 (0, 0)) := by
  obtain ⟨W2, hW2⟩ : ∃ W2, W2 = W.setCell ⟨r, 0, none⟩ (.string (d.extract 1 d.size)) := ⟨_, rfl⟩
  have hr2 : W2.heap[r]? = some (.cells #[.string (d.extract 1 d.size)] 56 (0, 0)) := by rw [hW2, blk_set _ hr]; rfl
  have hb2 : W2.heap[b]? = some (.cells #[.slice none 0 0, .int .i64 x, .slice none 0 0, .slice none 0 0, .int .u16 0] 27 (0, 0)) := by rw [hW2, Below.heap_setCell _ _ _ _ hbr]; exact hb
  have HB2 : Hid (Below B W W2) := by rw [hW2]; exact (Below.refl B W).setCell (p := ⟨r, 0, none⟩) hB2 _
  have hc : W.cell? ⟨r, 0, none⟩ = some (.string d) := by rw [Lib.cell_of_heap hr]; rfl
  have hf := Lib.frozen_of_heap hr 0
  have HC : Hid (∀ fv : Value, Calls Try.prog 49 #[.pointer (some ⟨r, 0, none⟩), .int .i64 32, fv] W fun e W' => e = .returned (.tuple #[.slice none 0 0, .int .i64 0]) ∧ W' = W.setCell ⟨r, 0, none⟩ (.string (d.extract 1 d.size))) := fun fv => lst53_any (r := r) (d := d) 32 fv (by decide) hd hz h0 W hc hf
  have k0 : W2.cell? ⟨b, 0, none⟩ = some (.slice none 0 0) := by rw [Lib.cell_of_heap hb2]; rfl
  have kf := Lib.frozen_of_heap hb2 0
  have HR2 : Hid _ := hr2
  have HBB : Hid _ := hb2
  have HBR : Hid (r ≠ b) := fun e => hbr e.symm
  have HB1 : Hid (B ≤ b) := hB1
  have HW2 : Hid (W2 = W.setCell ⟨r, 0, none⟩ (.string (d.extract 1 d.size))) := hW2
  clear hbr hB1 hB2 hd hz h0 hr hb hr2 hb2 hW2 hc hf
  go_enter Try.func26, Try.ntmps26
  go_wp2_with fail
  refine Calls.mono (HC.out _) ?_
  rintro e w2 ⟨rfl, hw2⟩
  rw [← HW2.out] at hw2
  subst hw2
  go_wp2_with fail
  go_ret
  refine ⟨rfl, HB2.out.trans ((Below.refl B w2).setCell (p := ⟨b, 0, none⟩) HB1.out _), ?_, ?_⟩
  · rw [Below.heap_setCell _ _ _ _ HBR.out]; exact HR2.out
  · rw [blk_set _ HBB.out]; rfl

set_option maxRecDepth 100000 in
set_option maxHeartbeats 4000000 in
theorem dpart1_any {B r b : Nat} {d : ByteArray} {x : Int} (W : World) (hbr : b ≠ r) (hB1 : B ≤ b) (hB2 : B ≤ r) (hd : 0 < d.size) (hz : d.size ≤ 100) (h0 : d.get! 0 = 0) (hr : W.heap[r]? = some (.cells #[.string d] 56 (0, 0))) (hb : W.heap[b]? = some (.cells #[.slice none 0 0, .int .i64 x, .slice none 0 0, .slice none 0 0, .int .u16 0] 27 (0, 0))) :
    Calls Try.prog 26 #[.pointer (some ⟨r, 0, none⟩), .pointer (some ⟨b, 0, none⟩), .int .i64 1] W fun e W' => e = .returned (.int .i64 0) ∧ Below B W W' ∧ W'.heap[r]? = some (.cells #[.string (d.extract 1 d.size)] 56 (0, 0)) ∧ W'.heap[b]? = some (.cells #[.slice none 0 0, .int .i64 (-1), .slice none 0 0, .slice none 0 0, .int .u16 0] 27 (0, 0)) := by
  obtain ⟨W2, hW2⟩ : ∃ W2, W2 = W.setCell ⟨r, 0, none⟩ (.string (d.extract 1 d.size)) := ⟨_, rfl⟩
  have hr2 : W2.heap[r]? = some (.cells #[.string (d.extract 1 d.size)] 56 (0, 0)) := by rw [hW2, blk_set _ hr]; rfl
  have hb2 : W2.heap[b]? = some (.cells #[.slice none 0 0, .int .i64 x, .slice none 0 0, .slice none 0 0, .int .u16 0] 27 (0, 0)) := by rw [hW2, Below.heap_setCell _ _ _ _ hbr]; exact hb
  have HB2 : Hid (Below B W W2) := by rw [hW2]; exact (Below.refl B W).setCell (p := ⟨r, 0, none⟩) hB2 _
  have hc : W.cell? ⟨r, 0, none⟩ = some (.string d) := by rw [Lib.cell_of_heap hr]; rfl
  have hf := Lib.frozen_of_heap hr 0
  have HC : Hid (Calls Try.prog 51 #[.pointer (some ⟨r, 0, none⟩), .int .i64 65537] W fun e W' => e = .returned (.tuple #[.int .i64 0, .int .i64 0]) ∧ W' = W.setCell ⟨r, 0, none⟩ (.string (d.extract 1 d.size))) := num0_any (r := r) (d := d) 65537 (by decide) hd hz h0 W hc hf
  have k0 : W2.cell? ⟨b, 1, none⟩ = some (.int .i64 x) := by rw [Lib.cell_of_heap hb2]; rfl
  have kf := Lib.frozen_of_heap hb2 1
  have HR2 : Hid _ := hr2
  have HBB : Hid _ := hb2
  have HBR : Hid (r ≠ b) := fun e => hbr e.symm
  have HB1 : Hid (B ≤ b) := hB1
  have HW2 : Hid (W2 = W.setCell ⟨r, 0, none⟩ (.string (d.extract 1 d.size))) := hW2
  clear hbr hB1 hB2 hd hz h0 hr hb hr2 hb2 hW2 hc hf
  go_enter Try.func26, Try.ntmps26
  go_wp2_with fail
  refine Calls.mono HC.out ?_
  rintro e w2 ⟨rfl, hw2⟩
  rw [← HW2.out] at hw2
  subst hw2
  go_wp2_with fail
  go_ret
  refine ⟨rfl, HB2.out.trans (((Below.refl B w2).setCell (p := ⟨b, 1, none⟩) HB1.out _).setCell (p := ⟨b, 1, none⟩) HB1.out _), ?_, ?_⟩
  · rw [Below.heap_setCell _ _ _ _ HBR.out, Below.heap_setCell _ _ _ _ HBR.out]; exact HR2.out
  · rw [blk_set _ (blk_set _ HBB.out)]; rfl

set_option maxRecDepth 100000 in
set_option maxHeartbeats 4000000 in
theorem dpart2_any {B r b : Nat} {d : ByteArray} {x : Int} (W : World) (hbr : b ≠ r) (hB1 : B ≤ b) (hB2 : B ≤ r) (hd : 0 < d.size) (hz : d.size ≤ 100) (h0 : d.get! 0 = 0) (hr : W.heap[r]? = some (.cells #[.string d] 56 (0, 0))) (hb : W.heap[b]? = some (.cells #[.slice none 0 0, .int .i64 x, .slice none 0 0, .slice none 0 0, .int .u16 0] 27 (0, 0))) :
    Calls Try.prog 26 #[.pointer (some ⟨r, 0, none⟩), .pointer (some ⟨b, 0, none⟩), .int .i64 2] W fun e W' => e = .returned (.int .i64 0) ∧ Below B W W' ∧ W'.heap[r]? = some (.cells #[.string (d.extract 1 d.size)] 56 (0, 0)) ∧ W'.heap[b]? = some (.cells #[.slice none 0 0, .int .i64 (x), .slice none 0 0, .slice none 0 0, .int .u16 0] 27 (0, 0)) := by
  obtain ⟨W2, hW2⟩ : ∃ W2, W2 = W.setCell ⟨r, 0, none⟩ (.string (d.extract 1 d.size)) := ⟨_, rfl⟩
  have hr2 : W2.heap[r]? = some (.cells #[.string (d.extract 1 d.size)] 56 (0, 0)) := by rw [hW2, blk_set _ hr]; rfl
  have hb2 : W2.heap[b]? = some (.cells #[.slice none 0 0, .int .i64 x, .slice none 0 0, .slice none 0 0, .int .u16 0] 27 (0, 0)) := by rw [hW2, Below.heap_setCell _ _ _ _ hbr]; exact hb
  have HB2 : Hid (Below B W W2) := by rw [hW2]; exact (Below.refl B W).setCell (p := ⟨r, 0, none⟩) hB2 _
  have hc : W.cell? ⟨r, 0, none⟩ = some (.string d) := by rw [Lib.cell_of_heap hr]; rfl
  have hf := Lib.frozen_of_heap hr 0
  have HC : Hid (∀ fv : Value, Calls Try.prog 52 #[.pointer (some ⟨r, 0, none⟩), .int .i64 8, fv] W fun e W' => e = .returned (.tuple #[.slice none 0 0, .int .i64 0]) ∧ W' = W.setCell ⟨r, 0, none⟩ (.string (d.extract 1 d.size))) := fun fv => lst56_any (r := r) (d := d) 8 fv (by decide) hd hz h0 W hc hf
  have k0 : W2.cell? ⟨b, 2, none⟩ = some (.slice none 0 0) := by rw [Lib.cell_of_heap hb2]; rfl
  have kf := Lib.frozen_of_heap hb2 2
  have HR2 : Hid _ := hr2
  have HBB : Hid _ := hb2
  have HBR : Hid (r ≠ b) := fun e => hbr e.symm
  have HB1 : Hid (B ≤ b) := hB1
  have HW2 : Hid (W2 = W.setCell ⟨r, 0, none⟩ (.string (d.extract 1 d.size))) := hW2
  clear hbr hB1 hB2 hd hz h0 hr hb hr2 hb2 hW2 hc hf
  go_enter Try.func26, Try.ntmps26
  go_wp2_with fail
  refine Calls.mono (HC.out _) ?_
  rintro e w2 ⟨rfl, hw2⟩
  rw [← HW2.out] at hw2
  subst hw2
  go_wp2_with fail
  go_ret
  refine ⟨rfl, HB2.out.trans ((Below.refl B w2).setCell (p := ⟨b, 2, none⟩) HB1.out _), ?_, ?_⟩
  · rw [Below.heap_setCell _ _ _ _ HBR.out]; exact HR2.out
  · rw [blk_set _ HBB.out]; rfl

set_option maxRecDepth 100000 in
set_option maxHeartbeats 4000000 in
theorem dpart3_any {B r b : Nat} {d : ByteArray} {x : Int} (W : World) (hbr : b ≠ r) (hB1 : B ≤ b) (hB2 : B ≤ r) (hd : 0 < d.size) (hz : d.size ≤ 100) (h0 : d.get! 0 = 0) (hr : W.heap[r]? = some (.cells #[.string d] 56 (0, 0))) (hb : W.heap[b]? = some (.cells #[.slice none 0 0, .int .i64 x, .slice none 0 0, .slice none 0 0, .int .u16 0] 27 (0, 0))) :
    Calls Try.prog 26 #[.pointer (some ⟨r, 0, none⟩), .pointer (some ⟨b, 0, none⟩), .int .i64 3] W fun e W' => e = .returned (.int .i64 0) ∧ Below B W W' ∧ W'.heap[r]? = some (.cells #[.string (d.extract 1 d.size)] 56 (0, 0)) ∧ W'.heap[b]? = some (.cells #[.slice none 0 0, .int .i64 (x), .slice none 0 0, .slice none 0 0, .int .u16 0] 27 (0, 0)) := by
  obtain ⟨W2, hW2⟩ : ∃ W2, W2 = W.setCell ⟨r, 0, none⟩ (.string (d.extract 1 d.size)) := ⟨_, rfl⟩
  have hr2 : W2.heap[r]? = some (.cells #[.string (d.extract 1 d.size)] 56 (0, 0)) := by rw [hW2, blk_set _ hr]; rfl
  have hb2 : W2.heap[b]? = some (.cells #[.slice none 0 0, .int .i64 x, .slice none 0 0, .slice none 0 0, .int .u16 0] 27 (0, 0)) := by rw [hW2, Below.heap_setCell _ _ _ _ hbr]; exact hb
  have HB2 : Hid (Below B W W2) := by rw [hW2]; exact (Below.refl B W).setCell (p := ⟨r, 0, none⟩) hB2 _
  have hc : W.cell? ⟨r, 0, none⟩ = some (.string d) := by rw [Lib.cell_of_heap hr]; rfl
  have hf := Lib.frozen_of_heap hr 0
  have HC : Hid (∀ fv : Value, Calls Try.prog 54 #[.pointer (some ⟨r, 0, none⟩), .int .i64 16, fv] W fun e W' => e = .returned (.tuple #[.slice none 0 0, .int .i64 0]) ∧ W' = W.setCell ⟨r, 0, none⟩ (.string (d.extract 1 d.size))) := fun fv => lst58_any (r := r) (d := d) 16 fv (by decide) hd hz h0 W hc hf
  have k0 : W2.cell? ⟨b, 3, none⟩ = some (.slice none 0 0) := by rw [Lib.cell_of_heap hb2]; rfl
  have kf := Lib.frozen_of_heap hb2 3
  have HR2 : Hid _ := hr2
  have HBB : Hid _ := hb2
  have HBR : Hid (r ≠ b) := fun e => hbr e.symm
  have HB1 : Hid (B ≤ b) := hB1
  have HW2 : Hid (W2 = W.setCell ⟨r, 0, none⟩ (.string (d.extract 1 d.size))) := hW2
  clear hbr hB1 hB2 hd hz h0 hr hb hr2 hb2 hW2 hc hf
  go_enter Try.func26, Try.ntmps26
  go_wp2_with fail
  refine Calls.mono (HC.out _) ?_
  rintro e w2 ⟨rfl, hw2⟩
  rw [← HW2.out] at hw2
  subst hw2
  go_wp2_with fail
  go_ret
  refine ⟨rfl, HB2.out.trans ((Below.refl B w2).setCell (p := ⟨b, 3, none⟩) HB1.out _), ?_, ?_⟩
  · rw [Below.heap_setCell _ _ _ _ HBR.out]; exact HR2.out
  · rw [blk_set _ HBB.out]; rfl

set_option maxRecDepth 100000 in
set_option maxHeartbeats 4000000 in
theorem dpart4_any {B r b : Nat} {d : ByteArray} {x : Int} (W : World) (hbr : b ≠ r) (hB1 : B ≤ b) (hB2 : B ≤ r) (hd : 0 < d.size) (hz : d.size ≤ 100) (h0 : d.get! 0 = 0) (hr : W.heap[r]? = some (.cells #[.string d] 56 (0, 0))) (hb : W.heap[b]? = some (.cells #[.slice none 0 0, .int .i64 x, .slice none 0 0, .slice none 0 0, .int .u16 0] 27 (0, 0))) :
    Calls Try.prog 26 #[.pointer (some ⟨r, 0, none⟩), .pointer (some ⟨b, 0, none⟩), .int .i64 4] W fun e W' => e = .returned (.int .i64 0) ∧ Below B W W' ∧ W'.heap[r]? = some (.cells #[.string (d.extract 1 d.size)] 56 (0, 0)) ∧ W'.heap[b]? = some (.cells #[.slice none 0 0, .int .i64 (x), .slice none 0 0, .slice none 0 0, .int .u16 0] 27 (0, 0)) := by
  obtain ⟨W2, hW2⟩ : ∃ W2, W2 = W.setCell ⟨r, 0, none⟩ (.string (d.extract 1 d.size)) := ⟨_, rfl⟩
  have hr2 : W2.heap[r]? = some (.cells #[.string (d.extract 1 d.size)] 56 (0, 0)) := by rw [hW2, blk_set _ hr]; rfl
  have hb2 : W2.heap[b]? = some (.cells #[.slice none 0 0, .int .i64 x, .slice none 0 0, .slice none 0 0, .int .u16 0] 27 (0, 0)) := by rw [hW2, Below.heap_setCell _ _ _ _ hbr]; exact hb
  have HB2 : Hid (Below B W W2) := by rw [hW2]; exact (Below.refl B W).setCell (p := ⟨r, 0, none⟩) hB2 _
  have hc : W.cell? ⟨r, 0, none⟩ = some (.string d) := by rw [Lib.cell_of_heap hr]; rfl
  have hf := Lib.frozen_of_heap hr 0
  have HC : Hid (Calls Try.prog 51 #[.pointer (some ⟨r, 0, none⟩), .int .i64 65535] W fun e W' => e = .returned (.tuple #[.int .i64 0, .int .i64 0]) ∧ W' = W.setCell ⟨r, 0, none⟩ (.string (d.extract 1 d.size))) := num0_any (r := r) (d := d) 65535 (by decide) hd hz h0 W hc hf
  have k0 : W2.cell? ⟨b, 4, none⟩ = some (.int .u16 0) := by rw [Lib.cell_of_heap hb2]; rfl
  have kf := Lib.frozen_of_heap hb2 4
  have HR2 : Hid _ := hr2
  have HBB : Hid _ := hb2
  have HBR : Hid (r ≠ b) := fun e => hbr e.symm
  have HB1 : Hid (B ≤ b) := hB1
  have HW2 : Hid (W2 = W.setCell ⟨r, 0, none⟩ (.string (d.extract 1 d.size))) := hW2
  clear hbr hB1 hB2 hd hz h0 hr hb hr2 hb2 hW2 hc hf
  go_enter Try.func26, Try.ntmps26
  go_wp2_with fail
  refine Calls.mono HC.out ?_
  rintro e w2 ⟨rfl, hw2⟩
  rw [← HW2.out] at hw2
  subst hw2
  go_wp2_with fail
  go_ret
  refine ⟨rfl, HB2.out.trans ((Below.refl B w2).setCell (p := ⟨b, 4, none⟩) HB1.out _), ?_, ?_⟩
  · rw [Below.heap_setCell _ _ _ _ HBR.out]; exact HR2.out
  · rw [blk_set _ HBB.out]; rfl
end Go.Proofs.Ytkaciochlemjiab
