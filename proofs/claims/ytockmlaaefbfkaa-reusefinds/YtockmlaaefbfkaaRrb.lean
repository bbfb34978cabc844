import Derived.Test.YtockmlaaefbfkaaRra
namespace Go.Proofs.Ytockmlaaefbfkaa
open Go.RowKit Go.Maps

set_option maxRecDepth 100000 in
set_option maxHeartbeats 4000000 in
theorem znum0 (w : World) : Calls Try.prog 46 #[.int .i64 0] w fun e w' => e = .returned (.string ⟨#[0]⟩) ∧ Below w.heap.size w w' := by
  have hcv : (convert 75 9 (.slice (some ⟨w.heap.size, 0, none⟩) 1 1)).run Try.prog (w.alloc (.cells #[.int .u8 0] 5)) = .ok (.string ⟨#[0]⟩) (w.alloc (.cells #[.int .u8 0] 5)) := by
    refine run_convert_bytes_back _ 75 9 5 ⟨w.heap.size, 0, none⟩ 1 [0] Try.underlying75 Try.underlying5 Try.underlying9 (fun j hj => ?_)
    rw [addPl, Lib.cell_of_heap (heap_new w _)]
    have : j = 0 := by simp at hj; exact hj
    subst this
    rfl
  go_enter Try.func46, Try.ntmps46
  go_wp2_with fail
  go_ret
  exact ⟨rfl, bel_up _ _⟩
set_option maxRecDepth 100000 in
theorem zstart_any (w : World) : Calls Try.prog 33 #[] w fun e w' => e = .returned startv ∧ Below w.heap.size w w' := by
  go_enter Try.func33, Try.ntmps33
  go_wp2_with fail
  exact bodyPost_ret (v := startv) (res5 rfl rfl (heap_new w _)) rfl ⟨rfl, bel_up _ _⟩
set_option maxRecDepth 100000 in
set_option maxHeartbeats 8000000 in
theorem zshaped (w : World) : Calls Try.prog 41 #[startv] w fun e w' => e = .returned (.bool true) ∧ Below w.heap.size w w' := by
  obtain ⟨W1, hW1⟩ : ∃ W1, W1 = w.alloc (.cells #[.slice none 0 0, .int .i64 (-1), .slice none 0 0, .slice none 0 0, .int .u16 0] 55) := ⟨_, rfl⟩
  have HB1 : Hid (Below w.heap.size w W1) := by rw [hW1]; exact bel_up _ _
  have HX : Hid (W1.heap[w.heap.size]? = some (.cells #[.slice none 0 0, .int .i64 (-1), .slice none 0 0, .slice none 0 0, .int .u16 0] 55 (0, 0))) := by rw [hW1]; exact heap_new w _
  unfold startv
  go_enter Try.func41, Try.ntmps41
  go_upto_region 1 with fail
  rw [← hW1]
  clear hW1
  have x0 := rcell HX.out 0 _ rfl; have x1 := rcell HX.out 1 _ rfl; have x2 := rcell HX.out 2 _ rfl; have x3 := rcell HX.out 3 _ rfl
  go_upto_region 4 with fail
  go_loopg [3] 0 (fun gm v3 wr => v3 = .int .i64 0 ∧ W1 = wr)
  case atStart => exact ⟨rfl, rfl⟩
  case round =>
    obtain ⟨rfl, rfl⟩ := hrel
    go_upto_region 9 with fail
    go_loopg [4] 0 (fun gm v4 wr => v4 = .int .i64 0 ∧ W1 = wr)
    case atStart => exact ⟨rfl, rfl⟩
    case round =>
      obtain ⟨rfl, rfl⟩ := hrel
      go_upto_region 15 with fail
      go_loopg [6] 0 (fun gm v6 wr => v6 = .int .i64 0 ∧ W1 = wr)
      case atStart => exact ⟨rfl, rfl⟩
      case round =>
        obtain ⟨rfl, rfl⟩ := hrel
        go_wp2_with fail
        go_ret
        exact ⟨rfl, HB1.out⟩
def st5 : Array Value := #[.slice none 0 0, .int .i64 (-1), .slice none 0 0, .slice none 0 0, .int .u16 0]
set_option maxRecDepth 100000 in
set_option maxHeartbeats 8000000 in
theorem zwritten (w : World) : Calls Try.prog 42 #[startv] w fun e w' => e = .returned (.string sb0) ∧ Below w.heap.size w w' := by
  obtain ⟨W1, hW1⟩ : ∃ W1, W1 = w.alloc (.cells #[.slice none 0 0, .int .i64 (-1), .slice none 0 0, .slice none 0 0, .int .u16 0] 55) := ⟨_, rfl⟩
  have HB1 : Hid (Below w.heap.size w W1) := by rw [hW1]; exact bel_up _ _
  have HX : Hid (∀ W, Below W1.heap.size W1 W → W.heap[w.heap.size]? = some (.cells #[.slice none 0 0, .int .i64 (-1), .slice none 0 0, .slice none 0 0, .int .u16 0] 55 (0, 0))) := fun W hb => by rw [hb.block _ (by rw [hW1]; simp), hW1]; exact heap_new w _
  have a1 : ∀ W : World, (Op.stringOp .add ⟨#[83]⟩ ⟨#[0]⟩).run Try.prog W = .ok (.string ⟨#[83, 0]⟩) W := fun W => by kernel_rfl
  have a2 : ∀ W : World, (Op.stringOp .add ⟨#[83, 0]⟩ ⟨#[0]⟩).run Try.prog W = .ok (.string ⟨#[83, 0, 0]⟩) W := fun W => by kernel_rfl
  have a3 : ∀ W : World, (Op.stringOp .add ⟨#[83, 0, 0]⟩ ⟨#[0]⟩).run Try.prog W = .ok (.string ⟨#[83, 0, 0, 0]⟩) W := fun W => by kernel_rfl
  have a4 : ∀ W : World, (Op.stringOp .add ⟨#[83, 0, 0, 0]⟩ ⟨#[0]⟩).run Try.prog W = .ok (.string ⟨#[83, 0, 0, 0, 0]⟩) W := fun W => by kernel_rfl
  have a5 : ∀ W : World, (Op.stringOp .add ⟨#[83, 0, 0, 0, 0]⟩ ⟨#[0]⟩).run Try.prog W = .ok (.string ⟨#[83, 0, 0, 0, 0, 0]⟩) W := fun W => by kernel_rfl
  unfold startv
  go_enter Try.func42, Try.ntmps42
  go_upto_region 1 with fail
  rw [← hW1]
  clear hW1
  have h0 := HX.out W1 (Below.refl _ _)
  have x0 := rcell h0 0 _ rfl
  clear h0
  go_upto_region 3 with (go_at_call 46; refine Calls.mono (znum0 _) ?_; rintro ee W2 ⟨rfl, hb2⟩; have HB2 : Hid (Below W1.heap.size W1 W2) := hb2; clear hb2)
  clear x0
  go_loopg [3, 4] 0 (fun gm v3 v4 wr => v3 = .string ⟨#[83, 0]⟩ ∧ v4 = .int .i64 0 ∧ W2 = wr)
  case atStart => exact ⟨rfl, rfl, rfl⟩
  case round =>
    obtain ⟨rfl, rfl, rfl⟩ := hrel
    have h0 := HX.out W2 HB2.out
    have x0 := rcell h0 0 _ rfl
    clear h0
    go_upto_region 6 with fail
    clear x0
    refine wp_region_noPanic ?_
    refine wp_region_held_drew (S := fun V => V.cell? ⟨w.heap.size, 1, none⟩ = some (.int .i64 (-1)) ∧ V.cell? ⟨w.heap.size, 2, none⟩ = some (.slice none 0 0)) (by kernel_rfl) ⟨rcell (HX.out _ (Below.drew HB2.out)) 1 _ rfl, rcell (HX.out _ (Below.drew HB2.out)) 2 _ rfl⟩ (fun hHeld => ?_)
    obtain ⟨WD, hWD⟩ : ∃ WD, W2.drew = WD := ⟨_, rfl⟩
    have HBD : Hid (Below W1.heap.size W1 WD) := by rw [← hWD]; exact Below.drew HB2.out
    rw [hWD] at hHeld ⊢
    clear hWD
    refine wpAnyH_take (i := 0) (oi := { dst := _, op := _, type := _, pos := _, after := _, guard := _ }) (v := ?_) rfl (by kernel_rfl) (by kernel_rfl) (by kernel_rfl) (fun _ _ _ h => h) (Or.inl ⟨by rfl, ?_⟩) (by assumption) ?_
    rotate_left
    · intro W hSw
      (try dsimp only at hSw)
      obtain ⟨t0, t1⟩ := hSw
      go_simp
      (try with_reducible rfl)
    try simp only [Act.put, List.setIfInBounds_toArray, List.set_cons_zero, List.set_cons_succ]
    refine wpAnyH_take (i := 1) (oi := { dst := _, op := _, type := _, pos := _, after := _, guard := _ }) (v := ?_) rfl (by kernel_rfl) (by kernel_rfl) (by kernel_rfl) (fun _ _ _ h => h) (Or.inl ⟨by rfl, ?_⟩) (by assumption) ?_
    rotate_left
    · intro W hSw
      (try dsimp only at hSw)
      obtain ⟨t0, t1⟩ := hSw
      go_simp
      (try with_reducible rfl)
    try simp only [Act.put, List.setIfInBounds_toArray, List.set_cons_zero, List.set_cons_succ]
    refine wpAnyH_take (i := 2) (oi := { dst := _, op := _, type := _, pos := _, after := _, guard := _ }) (v := ?_) rfl (by kernel_rfl) (by kernel_rfl) (by kernel_rfl) (fun _ _ _ h => h) (Or.inl ⟨by rfl, ?_⟩) (by assumption) ?_
    rotate_left
    · intro W hSw
      (try dsimp only at hSw)
      obtain ⟨t0, t1⟩ := hSw
      go_simp
      (try with_reducible rfl)
    try simp only [Act.put, List.setIfInBounds_toArray, List.set_cons_zero, List.set_cons_succ]
    refine wpAnyH_take (i := 3) (oi := { dst := _, op := _, type := _, pos := _, after := _, guard := _ }) (v := ?_) rfl (by kernel_rfl) (by kernel_rfl) (by kernel_rfl) (fun _ _ _ h => h) (Or.inl ⟨by rfl, ?_⟩) (by assumption) ?_
    rotate_left
    · intro W hSw
      (try dsimp only at hSw)
      obtain ⟨t0, t1⟩ := hSw
      go_simp
      (try with_reducible rfl)
    try simp only [Act.put, List.setIfInBounds_toArray, List.set_cons_zero, List.set_cons_succ]
    refine wpAnyH_take (i := 6) (oi := { dst := _, op := _, type := _, pos := _, after := _, guard := _ }) (v := ?_) rfl (by kernel_rfl) (by kernel_rfl) (by kernel_rfl) (fun _ _ _ h => h) (Or.inl ⟨by rfl, ?_⟩) (by assumption) ?_
    rotate_left
    · intro W hSw
      (try dsimp only at hSw)
      obtain ⟨t0, t1⟩ := hSw
      go_simp
      (try with_reducible rfl)
    try simp only [Act.put, List.setIfInBounds_toArray, List.set_cons_zero, List.set_cons_succ]
    refine wpAnyH_take (i := 7) (oi := { dst := _, op := _, type := _, pos := _, after := _, guard := _ }) (v := ?_) rfl (by kernel_rfl) (by kernel_rfl) (by kernel_rfl) (fun _ _ _ h => h) (Or.inl ⟨by rfl, ?_⟩) (by assumption) ?_
    rotate_left
    · intro W hSw
      (try dsimp only at hSw)
      obtain ⟨t0, t1⟩ := hSw
      go_simp
      (try with_reducible rfl)
    try simp only [Act.put, List.setIfInBounds_toArray, List.set_cons_zero, List.set_cons_succ]
    refine wpAnyH_take (i := 8) (oi := { dst := _, op := _, type := _, pos := _, after := _, guard := _ }) (v := ?_) rfl (by kernel_rfl) (by kernel_rfl) (by kernel_rfl) (fun _ _ _ h => h) (Or.inl ⟨by rfl, ?_⟩) (by assumption) ?_
    rotate_left
    · intro W hSw
      (try dsimp only at hSw)
      obtain ⟨t0, t1⟩ := hSw
      go_simp
      (try with_reducible rfl)
    try simp only [Act.put, List.setIfInBounds_toArray, List.set_cons_zero, List.set_cons_succ]
    refine wpAnyH_ready (rs := [4]) (by kernel_rfl) (by simp) ?_
    refine AllReadyH.cons (o := { dst := _, op := _, type := _, pos := _, after := _, guard := _ }) rfl (fun K hK => ?_) AllReadyH.nil
    go_simp
    refine Calls.mono (znum0 _) ?_
    rintro ee W3 ⟨rfl, hb3⟩
    have HB3 : Hid (Below W1.heap.size W1 W3) := below_trans HBD.out hb3
    clear hb3
    refine hK.out _ _ ?_ (fun hHeld => ?_)
    · first | exact trivial | (exact ⟨rcell (HX.out _ HB3.out) 1 _ rfl, rcell (HX.out _ HB3.out) 2 _ rfl⟩)
    clear hK K
    try simp only [Act.put, List.setIfInBounds_toArray, List.set_cons_zero, List.set_cons_succ]
    refine wpAnyH_take (i := 5) (oi := { dst := _, op := _, type := _, pos := _, after := _, guard := _ }) (v := ?_) rfl (by kernel_rfl) (by kernel_rfl) (by kernel_rfl) (fun _ _ _ h => h) (Or.inl ⟨by rfl, ?_⟩) (by assumption) ?_
    rotate_left
    · intro W hSw
      (try dsimp only at hSw)
      obtain ⟨t0, t1⟩ := hSw
      go_simp
      (try with_reducible rfl)
    try simp only [Act.put, List.setIfInBounds_toArray, List.set_cons_zero, List.set_cons_succ]
    refine wpAnyH_ready (rs := [9]) (by kernel_rfl) (by simp) ?_
    refine AllReadyH.cons (o := { dst := _, op := _, type := _, pos := _, after := _, guard := _ }) rfl (fun K hK => ?_) AllReadyH.nil
    go_simp
    refine Calls.mono (znum0 _) ?_
    rintro ee W4 ⟨rfl, hb4⟩
    have HB4 : Hid (Below W1.heap.size W1 W4) := below_trans HB3.out hb4
    clear hb4
    refine hK.out _ _ ?_ (fun hHeld => ?_)
    · first | exact trivial | (exact ⟨rcell (HX.out _ HB4.out) 1 _ rfl, rcell (HX.out _ HB4.out) 2 _ rfl⟩)
    clear hK K
    try simp only [Act.put, List.setIfInBounds_toArray, List.set_cons_zero, List.set_cons_succ]
    refine wpAnyH_take (i := 10) (oi := { dst := _, op := _, type := _, pos := _, after := _, guard := _ }) (v := ?_) rfl (by kernel_rfl) (by kernel_rfl) (by kernel_rfl) (fun _ _ _ h => h) (Or.inl ⟨by rfl, ?_⟩) (by assumption) ?_
    rotate_left
    · intro W hSw
      (try dsimp only at hSw)
      obtain ⟨t0, t1⟩ := hSw
      go_simp
      (try with_reducible rfl)
    try simp only [Act.put, List.setIfInBounds_toArray, List.set_cons_zero, List.set_cons_succ]
    refine wpAnyH_take (i := 11) (oi := { dst := _, op := _, type := _, pos := _, after := _, guard := _ }) (v := ?_) rfl (by kernel_rfl) (by kernel_rfl) (by kernel_rfl) (fun _ _ _ h => h) (Or.inl ⟨by rfl, ?_⟩) (by assumption) ?_
    rotate_left
    · intro W hSw
      (try dsimp only at hSw)
      obtain ⟨t0, t1⟩ := hSw
      go_simp
      (try with_reducible rfl)
    try simp only [Act.put, List.setIfInBounds_toArray, List.set_cons_zero, List.set_cons_succ]
    refine wpAnyH_done (by kernel_rfl) ?_ _
    refine NoPanic.normal ?_
    go_upto_region 8 with fail
    go_loopg [3, 5] 0 (fun gm v3 v5 wr => v3 = .string ⟨#[83, 0, 0, 0]⟩ ∧ v5 = .int .i64 0 ∧ W4 = wr)
    case atStart => exact ⟨rfl, rfl, rfl⟩
    case round =>
      obtain ⟨rfl, rfl, rfl⟩ := hrel
      have h0 := HX.out W4 HB4.out
      have x2 := rcell h0 2 _ rfl
      have x3 := rcell h0 3 _ rfl
      clear h0
      go_upto_region 13 with (go_at_call 46; refine Calls.mono (znum0 _) ?_; rintro ee W5 ⟨rfl, hb5⟩; have HB5 : Hid (Below W1.heap.size W1 W5) := below_trans HB4.out hb5; clear hb5)
      clear x2 x3
      go_loopg [3, 6] 0 (fun gm v3 v6 wr => v3 = .string ⟨#[83, 0, 0, 0, 0]⟩ ∧ v6 = .int .i64 0 ∧ W5 = wr)
      case atStart => exact ⟨rfl, rfl, rfl⟩
      case round =>
        obtain ⟨rfl, rfl, rfl⟩ := hrel
        have h0 := HX.out W5 HB5.out
        have x3 := rcell h0 3 _ rfl
        have x4 := rcell h0 4 _ rfl
        clear h0
        go_wp2_with (go_at_call 46; refine Calls.mono (znum0 _) ?_; rintro ee W6 ⟨rfl, hb6⟩; have HB6 : Hid (Below W1.heap.size W1 W6) := below_trans HB5.out hb6; clear hb6)
        go_ret
        exact ⟨rfl, below_trans HB1.out HB6.out⟩
set_option maxRecDepth 100000 in
set_option maxHeartbeats 8000000 in
theorem zencode (w : World) : Calls Try.prog 34 #[startv] w fun e w' => e = .returned (.tuple #[.string sb0, .int .i64 0]) ∧ Below w.heap.size w w' := by
  obtain ⟨W1, hW1⟩ : ∃ W1, W1 = w.alloc (.cells #[.slice none 0 0, .int .i64 (-1), .slice none 0 0, .slice none 0 0, .int .u16 0] 55) := ⟨_, rfl⟩
  have HB1 : Hid (Below w.heap.size w W1) := by rw [hW1]; exact bel_up _ _
  have HX : Hid (∀ W, Below W1.heap.size W1 W → W.heap[w.heap.size]? = some (.cells #[.slice none 0 0, .int .i64 (-1), .slice none 0 0, .slice none 0 0, .int .u16 0] 55 (0, 0))) := fun W hb => by rw [hb.block _ (by rw [hW1]; simp), hW1]; exact heap_new w _
  have HS : Hid (∀ W, Calls Try.prog 41 #[startv] W fun e w' => e = .returned (.bool true) ∧ Below W.heap.size W w') := zshaped
  have HW : Hid (∀ W, Calls Try.prog 42 #[startv] W fun e w' => e = .returned (.string sb0) ∧ Below W.heap.size W w') := zwritten
  generalize hsb : sb0 = sb at HW
  clear hsb
  unfold startv at HS HW ⊢
  go_enter Try.func34, Try.ntmps34
  go_upto_region 1 with fail
  rw [← hW1]
  clear hW1
  have h0 := HX.out W1 (Below.refl _ _)
  have x0 := rcell h0 0 _ rfl; have x1 := rcell h0 1 _ rfl; have x2 := rcell h0 2 _ rfl; have x3 := rcell h0 3 _ rfl; have x4 := rcell h0 4 _ rfl
  clear h0
  go_upto_region 2 with (go_at_call 41; refine Calls.mono (HS.out _) ?_; rintro ee W2 ⟨rfl, hb2⟩; have HB2 : Hid (Below W1.heap.size W1 W2) := hb2; clear hb2)
  clear x0 x1 x2 x3 x4
  have h0 := HX.out W2 HB2.out
  have x0 := rcell h0 0 _ rfl; have x1 := rcell h0 1 _ rfl; have x2 := rcell h0 2 _ rfl; have x3 := rcell h0 3 _ rfl; have x4 := rcell h0 4 _ rfl
  clear h0
  go_wp2_with (go_at_call 42; refine Calls.mono (HW.out _) ?_; rintro ee W3 ⟨rfl, hb3⟩; have HB3 : Hid (Below W1.heap.size W1 W3) := below_trans HB2.out hb3; clear hb3)
  go_ret2
  exact ⟨rfl, below_trans HB1.out HB3.out⟩
/-- The state ahead of a leaf. -/
def ahs (L : List Lf) (i : Nat) : ByteArray := if 0 < i then (L.getD (i - 1) lfd).a else sb0
set_option maxRecDepth 100000 in
set_option maxHeartbeats 8000000 in
theorem ahead_any {B p : Nat} {v : Value} {L : List Lf} {A D I : Int} (w : World) (h : Mo B w p v L A D I) (hl : L.length ≤ 140737488355328) (i : Nat) (hi : i < L.length) :
    Calls Try.prog 26 #[.pointer (some ⟨p, 0, none⟩), .int .i64 (i : Int)] w fun e w' => e = .returned (.string (ahs L i)) ∧ Below w.heap.size w w' := by
  obtain ⟨a, cap, rfl⟩ := row_shape h.r
  by_cases h0 : 0 < i
  · have e1 : decide ((0 : Int) < (i : Int)) = true := by rw [decide_eq_true_eq]; omega
    have e2 : decide (0 < i) = true := by rw [decide_eq_true_eq]; omega
    obtain ⟨k, rfl⟩ : ∃ k, i = k + 1 := ⟨i - 1, by omega⟩
    have HE : Hid (ahs L (k + 1) = (L.getD k lfd).a) := by show _ = _; unfold ahs; rw [if_pos h0]; rfl
    rw [HE.out]
    obtain ⟨m, hm⟩ : ∃ m, L.length = m := ⟨_, rfl⟩
    rw [hm] at h hi hl
    have b1 : (k : Int) < (m : Int) := by omega
    have b2 : k < m := by omega
    have hrw := row_rw h.r (by decide)
    rw [hm] at hrw
    obtain ⟨g, o, rfl, hc⟩ := Lv.at hrw hm k b2
    obtain ⟨-, -, -, -, -, c5⟩ := hc w (Below.refl _ _)
    have p0 := rcell h.h 0 _ rfl
    obtain ⟨x, hx⟩ : ∃ x, L.getD k lfd = x := ⟨_, rfl⟩
    rw [hx] at c5 ⊢
    have w2 : IntKind.i64.wrap (k : Int) = (k : Int) := by rw [IntKind.wrap_i64]; omega
    clear h hi hl hm hrw hc hx h0 HE
    go_enter Try.func26, Try.ntmps26
    go_wp2_with fail
    go_ret
    exact ⟨rfl, Below.refl _ _⟩
  · have e1 : decide ((0 : Int) < (i : Int)) = false := by rw [decide_eq_false_iff_not]; omega
    have e2 : decide (0 < i) = false := by rw [decide_eq_false_iff_not]; omega
    have HE : Hid (ahs L i = sb0) := by show _ = _; unfold ahs; rw [if_neg h0]
    rw [HE.out]
    clear h hi hl h0 HE
    have HEN : Hid (∀ W, Calls Try.prog 34 #[startv] W fun e w' => e = .returned (.tuple #[.string sb0, .int .i64 0]) ∧ Below W.heap.size W w') := zencode
    have HST : Hid (∀ W, Calls Try.prog 33 #[] W fun e w' => e = .returned startv ∧ Below W.heap.size W w') := zstart_any
    generalize hsb : sb0 = sb at HEN
    clear hsb
    unfold startv at HEN HST
    go_enter Try.func26, Try.ntmps26
    go_upto_region 4 with (go_at_call 33; refine Calls.mono (HST.out _) ?_; rintro ee W2 ⟨rfl, hb2⟩; have HB2 : Hid (Below w.heap.size w W2) := hb2; clear hb2)
    have HB3 : Hid (∀ o, Below w.heap.size w (W2.alloc o)) := fun o => below_trans HB2.out (bel_up _ _)
    go_wp2_with (go_at_call 34; refine Calls.mono (HEN.out _) ?_; rintro ee W4 ⟨rfl, hb4⟩; have HB4 : Hid (Below w.heap.size w W4) := below_trans (HB3.out _) hb4; clear hb4)
    go_ret
    exact ⟨rfl, HB4.out⟩
end Go.Proofs.Ytockmlaaefbfkaa
