import Derived.Test.YtockmlaaefbfkaaRsm
namespace Go.Proofs.Ytockmlaaefbfkaa
open Go.RowKit Go.Maps

theorem put3_heap {W : World} {b : Nat} {x0 x1 x2 : Value} {t : TypeId} (v0 v1 v2 : Value) (h : W.heap[b]? = some (.cells #[x0, x1, x2] t (0, 0))) : (((W.setCell ⟨b, 0, none⟩ v0).setCell ⟨b, 1, none⟩ v1).setCell ⟨b, 2, none⟩ v2).heap[b]? = some (.cells #[v0, v1, v2] t (0, 0)) := by
  have h0 := blk_set (k := 0) v0 h
  have h1 := blk_set (k := 1) v1 h0
  have h2 := blk_set (k := 2) v2 h1
  exact h2
theorem put3_bel {B : Nat} {W : World} {b : Nat} {v0 v1 v2 : Value} (hb : B ≤ b) : Below B W (((W.setCell ⟨b, 0, none⟩ v0).setCell ⟨b, 1, none⟩ v1).setCell ⟨b, 2, none⟩ v2) :=
  (((Below.refl _ _).setCell (p := ⟨b, 0, none⟩) hb v0).setCell (p := ⟨b, 1, none⟩) hb v1).setCell (p := ⟨b, 2, none⟩) hb v2
set_option maxRecDepth 100000 in
theorem res3 {fn : Func} {p : Tmp} (hf : fn.results = #[.cell p 24]) {tmps : Array Value} {b : Nat} (ht : tmps.getD p undef = .pointer (some ⟨b, 0, none⟩)) {W : World} {A D : Int} {I : ByteArray} (h : W.heap[b]? = some (.cells #[.int .i64 A, .int .i64 D, .string I] 24 (0, 0))) : (results fn tmps).run Try.prog W = .ok (edv A D I) W := by
  rw [results_cell1 hf, ht]
  have r0 := rcell h 0 (.int .i64 A) rfl
  have r1 := rcell h 1 (.int .i64 D) rfl
  have r2 := rcell h 2 (.string I) rfl
  unfold edv
  clear h
  go_simp
set_option maxRecDepth 100000 in
set_option maxHeartbeats 8000000 in
theorem eclamped_any (n A D : Int) (I : ByteArray) (w : World) (hn : 0 ≤ n ∧ n ≤ 1048576) : Calls Try.prog 31 #[.int .i64 n, edv A D I] w fun e w' => e = .returned (edv (clm A n) (clm D (n - clm A n)) I) ∧ Below w.heap.size w w' := by
  have hw : IntKind.i64.wrap (n - clm A n) = n - clm A n := by rw [IntKind.wrap_i64]; unfold clm; omega
  obtain ⟨M, hM⟩ : ∃ M, clm A n = M := ⟨_, rfl⟩
  have HC : Hid (∀ W, Calls Try.prog 40 #[.int .i64 A, .int .i64 n] W fun e w' => e = .returned (.int .i64 M) ∧ W = w') := fun W => by rw [← hM]; exact eclamp_any A n W
  rw [hM] at hw ⊢
  clear hM hn
  obtain ⟨W1, hW1⟩ : ∃ W1, W1 = (w.alloc (.cells #[.int .i64 A, .int .i64 D, .string I] 24)).alloc (.cells #[.int .i64 0, .int .i64 0, .string ⟨#[]⟩] 24) := ⟨_, rfl⟩
  obtain ⟨N, hN⟩ : ∃ N, w.heap.size = N := ⟨_, rfl⟩
  have HB1 : Hid (Below w.heap.size w W1) := by rw [hW1]; exact below_trans (bel_up _ _) (bel_up _ _)
  have HX : Hid (W1.heap[N]? = some (.cells #[.int .i64 A, .int .i64 D, .string I] 24 (0, 0))) := by
    show _ = _
    rw [hW1, ← hN, Below.heap_alloc _ _ _ (by simp)]; exact heap_new w _
  have HY : Hid (W1.heap[N + 1]? = some (.cells #[.int .i64 0, .int .i64 0, .string ⟨#[]⟩] 24 (0, 0))) := by
    show _ = _
    have h1 := heap_new (w.alloc (.cells #[.int .i64 A, .int .i64 D, .string I] 24)) (.cells #[.int .i64 0, .int .i64 0, .string ⟨#[]⟩] 24)
    rw [show (w.alloc (.cells #[.int .i64 A, .int .i64 D, .string I] 24)).heap.size = w.heap.size + 1 by simp] at h1
    rw [hW1, ← hN]; exact h1
  unfold edv
  go_enter Try.func31, Try.ntmps31
  go_upto_region 2 with (go_at_call 40; refine Calls.mono (HC.out _) ?_; rintro ee w1 ⟨rfl, rfl⟩)
  rw [← hW1]
  clear hW1
  refine wp_region_noPanic ?_
  refine wp_region_held_drew (S := fun V => V.cell? ⟨N, 1, none⟩ = some (.int .i64 D) ∧ V.cell? ⟨N, 2, none⟩ = some (.string I)) (by kernel_rfl) ⟨rcell (W := W1.drew) HX.out 1 _ rfl, rcell (W := W1.drew) HX.out 2 _ rfl⟩ (fun hHeld => ?_)
  obtain ⟨WD, hWD⟩ : ∃ WD, W1.drew = WD := ⟨_, rfl⟩
  have HXD : Hid (WD.heap[N]? = some (.cells #[.int .i64 A, .int .i64 D, .string I] 24 (0, 0))) := by rw [← hWD]; exact HX.out
  have HYD : Hid (WD.heap[N + 1]? = some (.cells #[.int .i64 0, .int .i64 0, .string ⟨#[]⟩] 24 (0, 0))) := by rw [← hWD]; exact HY.out
  have HBD : Hid (Below w.heap.size w WD) := by rw [← hWD]; exact Below.drew HB1.out
  rw [hWD] at hHeld ⊢
  clear hWD HX HY HB1
  refine wpAnyH_take (i := 0) (oi := { dst := _, op := _, type := _, pos := _, after := _, guard := _ }) (v := ?_) rfl (by kernel_rfl) (by kernel_rfl) (by kernel_rfl) (fun _ _ _ h => h) (Or.inl ⟨by rfl, ?_⟩) (by assumption) ?_
  rotate_left
  · intro W hSw
    (try dsimp only at hSw)
    obtain ⟨w1, w2⟩ := hSw
    go_simp
    (try with_reducible rfl)
  try simp only [Act.put, List.setIfInBounds_toArray, List.set_cons_zero, List.set_cons_succ]
  refine wpAnyH_take (i := 1) (oi := { dst := _, op := _, type := _, pos := _, after := _, guard := _ }) (v := ?_) rfl (by kernel_rfl) (by kernel_rfl) (by kernel_rfl) (fun _ _ _ h => h) (Or.inl ⟨by rfl, ?_⟩) (by assumption) ?_
  rotate_left
  · intro W hSw
    (try dsimp only at hSw)
    obtain ⟨w1, w2⟩ := hSw
    go_simp
    (try with_reducible rfl)
  try simp only [Act.put, List.setIfInBounds_toArray, List.set_cons_zero, List.set_cons_succ]
  refine wpAnyH_take (i := 2) (oi := { dst := _, op := _, type := _, pos := _, after := _, guard := _ }) (v := ?_) rfl (by kernel_rfl) (by kernel_rfl) (by kernel_rfl) (fun _ _ _ h => h) (Or.inl ⟨by rfl, ?_⟩) (by assumption) ?_
  rotate_left
  · intro W hSw
    (try dsimp only at hSw)
    obtain ⟨w1, w2⟩ := hSw
    go_simp
    (try with_reducible rfl)
  try simp only [Act.put, List.setIfInBounds_toArray, List.set_cons_zero, List.set_cons_succ]
  refine wpAnyH_take (i := 3) (oi := { dst := _, op := _, type := _, pos := _, after := _, guard := _ }) (v := ?_) rfl (by kernel_rfl) (by kernel_rfl) (by kernel_rfl) (fun _ _ _ h => h) (Or.inl ⟨by rfl, ?_⟩) (by assumption) ?_
  rotate_left
  · intro W hSw
    (try dsimp only at hSw)
    obtain ⟨w1, w2⟩ := hSw
    go_simp
    (try with_reducible rfl)
  try simp only [Act.put, List.setIfInBounds_toArray, List.set_cons_zero, List.set_cons_succ]
  refine wpAnyH_take (i := 4) (oi := { dst := _, op := _, type := _, pos := _, after := _, guard := _ }) (v := ?_) rfl (by kernel_rfl) (by kernel_rfl) (by kernel_rfl) (fun _ _ _ h => h) (Or.inl ⟨by rfl, ?_⟩) (by assumption) ?_
  rotate_left
  · intro W hSw
    (try dsimp only at hSw)
    obtain ⟨w1, w2⟩ := hSw
    go_simp
    (try with_reducible rfl)
  try simp only [Act.put, List.setIfInBounds_toArray, List.set_cons_zero, List.set_cons_succ]
  refine wpAnyH_take (i := 5) (oi := { dst := _, op := _, type := _, pos := _, after := _, guard := _ }) (v := ?_) rfl (by kernel_rfl) (by kernel_rfl) (by kernel_rfl) (fun _ _ _ h => h) (Or.inl ⟨by rfl, ?_⟩) (by assumption) ?_
  rotate_left
  · intro W hSw
    (try dsimp only at hSw)
    obtain ⟨w1, w2⟩ := hSw
    go_simp
    (try with_reducible rfl)
  try simp only [Act.put, List.setIfInBounds_toArray, List.set_cons_zero, List.set_cons_succ]
  refine wpAnyH_take (i := 7) (oi := { dst := _, op := _, type := _, pos := _, after := _, guard := _ }) (v := ?_) rfl (by kernel_rfl) (by kernel_rfl) (by kernel_rfl) (fun _ _ _ h => h) (Or.inl ⟨by rfl, ?_⟩) (by assumption) ?_
  rotate_left
  · intro W hSw
    (try dsimp only at hSw)
    obtain ⟨w1, w2⟩ := hSw
    go_simp
    (try with_reducible rfl)
  try simp only [Act.put, List.setIfInBounds_toArray, List.set_cons_zero, List.set_cons_succ]
  refine wpAnyH_take (i := 8) (oi := { dst := _, op := _, type := _, pos := _, after := _, guard := _ }) (v := ?_) rfl (by kernel_rfl) (by kernel_rfl) (by kernel_rfl) (fun _ _ _ h => h) (Or.inl ⟨by rfl, ?_⟩) (by assumption) ?_
  rotate_left
  · intro W hSw
    (try dsimp only at hSw)
    obtain ⟨w1, w2⟩ := hSw
    go_simp
    (try with_reducible rfl)
  try simp only [Act.put, List.setIfInBounds_toArray, List.set_cons_zero, List.set_cons_succ]
  refine wpAnyH_ready (rs := [6]) (by kernel_rfl) (by simp) ?_
  refine AllReadyH.cons (o := { dst := _, op := _, type := _, pos := _, after := _, guard := _ }) rfl (fun K hK => ?_) AllReadyH.nil
  go_simp
  refine Calls.mono (eclamp_any D (n - M) WD) ?_
  rintro ee w1 ⟨rfl, rfl⟩
  refine hK.out _ _ ?_ (fun hHeld => ?_)
  · first | exact trivial | (exact hHeld)
  clear hK K
  try simp only [Act.put, List.setIfInBounds_toArray, List.set_cons_zero, List.set_cons_succ]
  refine wpAnyH_take (i := 9) (oi := { dst := _, op := _, type := _, pos := _, after := _, guard := _ }) (v := ?_) rfl (by kernel_rfl) (by kernel_rfl) (by kernel_rfl) (fun _ _ _ h => h) (Or.inl ⟨by rfl, ?_⟩) (by assumption) ?_
  rotate_left
  · intro W hSw
    (try dsimp only at hSw)
    obtain ⟨w1, w2⟩ := hSw
    go_simp
    (try with_reducible rfl)
  try simp only [Act.put, List.setIfInBounds_toArray, List.set_cons_zero, List.set_cons_succ]
  have y0 := rcell HYD.out 0 _ rfl
  have y1 := rcell HYD.out 1 _ rfl
  have y2 := rcell HYD.out 2 _ rfl
  have z0 := Lib.frozen_of_heap HYD.out 0
  have z1 := Lib.frozen_of_heap HYD.out 1
  have z2 := Lib.frozen_of_heap HYD.out 2
  refine wpAnyH_ready (rs := [10]) (by kernel_rfl) (by simp) ?_
  refine AllReadyH.cons (o := { dst := _, op := _, type := _, pos := _, after := _, guard := _ }) rfl (fun K hK => ?_) AllReadyH.nil
  go_simp
  have HZ : Hid ((((WD.setCell ⟨N + 1, 0, none⟩ (.int .i64 M)).setCell ⟨N + 1, 1, none⟩ (.int .i64 (clm D (n - M)))).setCell ⟨N + 1, 2, none⟩ (.string I)).heap[N + 1]? = some (.cells #[.int .i64 M, .int .i64 (clm D (n - M)), .string I] 24 (0, 0))) := put3_heap _ _ _ HYD.out
  have HB2 : Hid (Below w.heap.size w (((WD.setCell ⟨N + 1, 0, none⟩ (.int .i64 M)).setCell ⟨N + 1, 1, none⟩ (.int .i64 (clm D (n - M)))).setCell ⟨N + 1, 2, none⟩ (.string I))) := HBD.out.trans (put3_bel (by omega))
  have HX2 : Hid ((((WD.setCell ⟨N + 1, 0, none⟩ (.int .i64 M)).setCell ⟨N + 1, 1, none⟩ (.int .i64 (clm D (n - M)))).setCell ⟨N + 1, 2, none⟩ (.string I)).heap[N]? = some (.cells #[.int .i64 A, .int .i64 D, .string I] 24 (0, 0))) := ((put3_bel (B := N + 1) (Nat.le_refl _)).block N (by omega)).trans HXD.out
  clear y0 y1 y2 z0 z1 z2
  refine hK.out _ _ ?_ (fun hHeld => ?_)
  · first | exact trivial | (exact ⟨rcell HX2.out 1 _ rfl, rcell HX2.out 2 _ rfl⟩)
  clear hK K
  try simp only [Act.put, List.setIfInBounds_toArray, List.set_cons_zero, List.set_cons_succ]
  refine wpAnyH_done (by kernel_rfl) ?_ _
  refine NoPanic.normal ?_
  go_wp2_with fail
  refine bodyPost_ret (v := edv M (clm D (n - M)) I) (res3 rfl rfl HZ.out) rfl ⟨rfl, HB2.out⟩
/-- The clamped edit. -/
def cA (n A : Int) : Int := clm A n
def cD (n A D : Int) : Int := clm D (n - clm A n)
set_option maxRecDepth 100000 in
set_option maxHeartbeats 8000000 in
theorem eClamp_any (n A D : Int) (I : ByteArray) (w : World) (hn : 0 ≤ n ∧ n ≤ 1048576) (hI : I.size ≤ 140737488355328) : Calls Try.prog 18 #[.int .i64 n, edv A D I] w fun e w' => e = .returned (edv (cA n A) (cD n A D) I) ∧ Below w.heap.size w w' := by
  have HR : Hid (ert n = true) := by show _ = _; unfold ert; simp [hn]
  have HCL : Hid (∀ W, Calls Try.prog 31 #[.int .i64 n, edv A D I] W fun e w' => e = .returned (edv (cA n A) (cD n A D) I) ∧ Below W.heap.size W w') := fun W => eclamped_any n A D I W hn
  have HCI : Hid (∀ W, Calls Try.prog 19 #[.string I] W fun e w' => e = .returned (.string I) ∧ Below W.heap.size W w') := fun W => clone_any I W hI
  obtain ⟨M, hM⟩ : ∃ M, cA n A = M := ⟨_, rfl⟩
  obtain ⟨L, hL⟩ : ∃ L, cD n A D = L := ⟨_, rfl⟩
  rw [hM, hL] at HCL ⊢
  clear hM hL hn hI
  obtain ⟨W1, hW1⟩ : ∃ W1, W1 = (w.alloc (.cells #[.int .i64 A, .int .i64 D, .string I] 24)).alloc (.cells #[.int .i64 0, .int .i64 0, .string ⟨#[]⟩] 24) := ⟨_, rfl⟩
  obtain ⟨N, hN⟩ : ∃ N, w.heap.size = N := ⟨_, rfl⟩
  have HB1 : Hid (Below w.heap.size w W1) := by rw [hW1]; exact below_trans (bel_up _ _) (bel_up _ _)
  have HX : Hid (W1.heap[N]? = some (.cells #[.int .i64 A, .int .i64 D, .string I] 24 (0, 0))) := by
    show _ = _
    rw [hW1, ← hN, Below.heap_alloc _ _ _ (by simp)]; exact heap_new w _
  have HY : Hid (W1.heap[N + 1]? = some (.cells #[.int .i64 0, .int .i64 0, .string ⟨#[]⟩] 24 (0, 0))) := by
    show _ = _
    have h1 := heap_new (w.alloc (.cells #[.int .i64 A, .int .i64 D, .string I] 24)) (.cells #[.int .i64 0, .int .i64 0, .string ⟨#[]⟩] 24)
    rw [show (w.alloc (.cells #[.int .i64 A, .int .i64 D, .string I] 24)).heap.size = w.heap.size + 1 by simp] at h1
    rw [hW1, ← hN]; exact h1
  unfold edv at HCL ⊢
  go_enter Try.func18, Try.ntmps18
  go_upto_region 3 with (go_at_call 30; refine Calls.mono (eright_any n _) ?_; rintro ee w1 ⟨rfl, rfl⟩; rw [HR.out])
  rw [← hW1]
  clear hW1
  have x0 := rcell HX.out 0 _ rfl; have x1 := rcell HX.out 1 _ rfl; have x2 := rcell HX.out 2 _ rfl
  go_upto_region 4 with (go_at_call 31; refine Calls.mono (HCL.out _) ?_; rintro ee w2 ⟨rfl, hb2⟩; have HX2 : Hid (w2.heap[N]? = some (.cells #[.int .i64 A, .int .i64 D, .string I] 24 (0, 0))) := (hb2.block _ (lt_of_heap HX.out)).trans HX.out; have HY2 : Hid (w2.heap[N + 1]? = some (.cells #[.int .i64 0, .int .i64 0, .string ⟨#[]⟩] 24 (0, 0))) := (hb2.block _ (lt_of_heap HY.out)).trans HY.out; have HB2 : Hid (Below w.heap.size w w2) := below_trans HB1.out hb2; clear x0 x1 x2; have x0 := rcell HX2.out 0 _ rfl; have x1 := rcell HX2.out 1 _ rfl; have x2 := rcell HX2.out 2 _ rfl; have z0 := Lib.frozen_of_heap HX2.out 0; have z1 := Lib.frozen_of_heap HX2.out 1; have z2 := Lib.frozen_of_heap HX2.out 2; clear hb2)
  clear HX HY HB1 x0 x1 x2 z0 z1 z2
  obtain ⟨W3, hW3⟩ : ∃ W3, W3 = ((w2.setCell ⟨N, 0, none⟩ (.int .i64 M)).setCell ⟨N, 1, none⟩ (.int .i64 L)).setCell ⟨N, 2, none⟩ (.string I) := ⟨_, rfl⟩
  have HX3 : Hid (W3.heap[N]? = some (.cells #[.int .i64 M, .int .i64 L, .string I] 24 (0, 0))) := by rw [hW3]; exact put3_heap _ _ _ HX2.out
  have HB3 : Hid (Below w.heap.size w W3) := by rw [hW3]; exact HB2.out.trans (put3_bel (by omega))
  have HY3 : Hid (W3.heap[N + 1]? = some (.cells #[.int .i64 0, .int .i64 0, .string ⟨#[]⟩] 24 (0, 0))) := by
    show _ = _
    rw [hW3]
    have n1 : N + 1 ≠ N := by omega
    rw [Below.heap_setCell _ _ _ _ (by exact n1), Below.heap_setCell _ _ _ _ (by exact n1), Below.heap_setCell _ _ _ _ (by exact n1)]; exact HY2.out
  rw [← hW3]
  clear hW3 HX2 HY2 HB2
  have x2 := rcell HX3.out 2 _ rfl
  go_upto_region 5 with (go_at_call 19; refine Calls.mono (HCI.out _) ?_; rintro ee w4 ⟨rfl, hb4⟩; have HX4 : Hid (w4.heap[N]? = some (.cells #[.int .i64 M, .int .i64 L, .string I] 24 (0, 0))) := (hb4.block _ (lt_of_heap HX3.out)).trans HX3.out; have HY4 : Hid (w4.heap[N + 1]? = some (.cells #[.int .i64 0, .int .i64 0, .string ⟨#[]⟩] 24 (0, 0))) := (hb4.block _ (lt_of_heap HY3.out)).trans HY3.out; have HB4 : Hid (Below w.heap.size w w4) := below_trans HB3.out hb4; clear x2; have x2 := rcell HX4.out 2 _ rfl; have z2 := Lib.frozen_of_heap HX4.out 2; clear hb4)
  clear HX3 HY3 HB3 x2 z2
  obtain ⟨W5, hW5⟩ : ∃ W5, W5 = w4.setCell ⟨N, 2, none⟩ (.string I) := ⟨_, rfl⟩
  have HX5 : Hid (W5.heap[N]? = some (.cells #[.int .i64 M, .int .i64 L, .string I] 24 (0, 0))) := by rw [hW5]; exact blk_set _ HX4.out
  have HY5 : Hid (W5.heap[N + 1]? = some (.cells #[.int .i64 0, .int .i64 0, .string ⟨#[]⟩] 24 (0, 0))) := by
    show _ = _
    rw [hW5, Below.heap_setCell _ _ _ _ (by show N + 1 ≠ N; omega)]; exact HY4.out
  have HB5 : Hid (Below w.heap.size w W5) := by rw [hW5]; exact HB4.out.setCell (by show _ ≤ N; omega) _
  rw [← hW5]
  clear hW5 HX4 HY4 HB4
  have x0 := rcell HX5.out 0 _ rfl; have x1 := rcell HX5.out 1 _ rfl; have x2 := rcell HX5.out 2 _ rfl
  have y0 := rcell HY5.out 0 _ rfl; have y1 := rcell HY5.out 1 _ rfl; have y2 := rcell HY5.out 2 _ rfl; have z0 := Lib.frozen_of_heap HY5.out 0; have z1 := Lib.frozen_of_heap HY5.out 1; have z2 := Lib.frozen_of_heap HY5.out 2
  go_wp2_with fail
  exact bodyPost_ret (v := edv M L I) (res3 rfl rfl (put3_heap _ _ _ HY5.out)) rfl ⟨rfl, HB5.out.trans (put3_bel (by omega))⟩
end Go.Proofs.Ytockmlaaefbfkaa
