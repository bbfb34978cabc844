import Derived.Test.YtockmlaaefbfkaaRol
namespace Go.Proofs.Ytockmlaaefbfkaa
open Go.RowKit Go.Maps

/-- An Old behind a call on it. -/
def Kpo (B : Nat) (w w' : World) (p b m : Nat) (S : List (Int × St)) (c : Int) : Prop := ∃ n' f', n' ≤ m ∧ Ol B w' p b n' f' S c ∧ Below B w w' ∧ Fk w w'
def sfv (s : St) : Value := .agg #[.string s.1, .int .i64 s.2.t, .int .i64 s.2.p, .int .i64 s.2.l, .int .i64 s.2.k, .int .u64 s.2.v, .string s.2.a]
def edv (A D : Int) (I : ByteArray) : Value := .agg #[.int .i64 A, .int .i64 D, .string I]
theorem cel_same {W W' : World} {q : Nat} (h : W'.heap[q]? = W.heap[q]?) {k : Nat} {v : Value} (hc : W.cell? ⟨q, k, none⟩ = some v) : W'.cell? ⟨q, k, none⟩ = some v := by
  rw [World.cell?_of_block (w := W) (w' := W') (a := ⟨q, k, none⟩) h]; exact hc
/-- What the walk holds: the Old's map, the leaf. -/
def Sk (p b N : Nat) (s : St) (V : World) : Prop := V.cell? ⟨p, 0, none⟩ = some (.map (some b)) ∧ V.cell? ⟨N, 0, none⟩ = some (.string s.1) ∧ V.cell? ⟨N, 1, none⟩ = some (.int .i64 s.2.t) ∧ V.cell? ⟨N, 2, none⟩ = some (.int .i64 s.2.p) ∧ V.cell? ⟨N, 3, none⟩ = some (.int .i64 s.2.l) ∧ V.cell? ⟨N, 4, none⟩ = some (.int .i64 s.2.k) ∧ V.cell? ⟨N, 5, none⟩ = some (.int .u64 s.2.v) ∧ V.cell? ⟨N, 6, none⟩ = some (.string s.2.a)
def Bs (N : Nat) (s : St) (V : World) : Prop := V.heap[N]? = some (.cells (sf s).toArray 65 (0, 0))
theorem Sk.of {B p b n N : Nat} {f : Int → Value} {S : List (Int × St)} {c : Int} {s : St} {V : World} (h : Ol B V p b n f S c) (h2 : Bs N s V) : Sk p b N s V :=
  ⟨rcell h.h 0 _ rfl, rcell h2 0 _ rfl, rcell h2 1 _ rfl, rcell h2 2 _ rfl, rcell h2 3 _ rfl, rcell h2 4 _ rfl, rcell h2 5 _ rfl, rcell h2 6 _ rfl⟩
theorem Sk.up {p b N : Nat} {s : St} {V V' : World} (h : Sk p b N s V) (hb : Below V.heap.size V V') : Sk p b N s V' := by
  obtain ⟨h0, h1, h2, h3, h4, h5, h6, h7⟩ := h
  exact ⟨below_cell hb h0, below_cell hb h1, below_cell hb h2, below_cell hb h3, below_cell hb h4, below_cell hb h5, below_cell hb h6, below_cell hb h7⟩
theorem Sk.same {p b N : Nat} {s : St} {V V' : World} (h : Sk p b N s V) (e1 : V'.heap[p]? = V.heap[p]?) (e2 : V'.heap[N]? = V.heap[N]?) : Sk p b N s V' := by
  obtain ⟨h0, h1, h2, h3, h4, h5, h6, h7⟩ := h
  exact ⟨cel_same e1 h0, cel_same e2 h1, cel_same e2 h2, cel_same e2 h3, cel_same e2 h4, cel_same e2 h5, cel_same e2 h6, cel_same e2 h7⟩
set_option maxRecDepth 100000 in
set_option maxHeartbeats 16000000 in
theorem keep_any {B p b n : Nat} {f : Int → Value} {S : List (Int × St)} {c : Int} (w : World) (h : Ol B w p b n f S c) (s : St) (o A D : Int) (I : ByteArray) (ho : 0 ≤ o ∧ o ≤ 1048576) (hk : 0 ≤ s.2.k ∧ s.2.k ≤ 1048577) (hA : 0 ≤ A ∧ A ≤ 1048576) (hD : 0 ≤ D ∧ D ≤ 1048576) (hI : I.size ≤ 140737488355328) (hn : n + 2 < maxLen) (hl : ∀ k, (lst S k).length * 56 ≤ 140737488355328) (hc : 0 ≤ c ∧ c ≤ 140737488355328) :
    Calls Try.prog 20 #[.pointer (some ⟨p, 0, none⟩), sfv s, .int .i64 o, edv A D I] w fun e w' => e = .returned (.tuple #[]) ∧ Kpo B w w' p b (n + 2) (S ++ (kp1 A o s ++ kp2 A D I.size o s)) (c + cn1 A D o s.2) := by
  have HO : Hid (Ol B w p b n f S c) := h
  have HN : Hid (n + 2 < maxLen) := hn
  have HL : Hid (∀ k, (lst S k).length * 56 ≤ 140737488355328) := hl
  have HW : Hid (wfi o ∧ wfi (mov D I.size o)) := ⟨⟨by omega, by omega⟩, by unfold mov; exact ⟨by omega, by omega⟩⟩
  have x1 : IntKind.i64.wrap (o + s.2.k) = o + s.2.k := by rw [IntKind.wrap_i64]; omega
  have x2 : IntKind.i64.wrap (A + D) = A + D := by rw [IntKind.wrap_i64]; omega
  have x3 : IntKind.i64.wrap (o - D) = o - D := by rw [IntKind.wrap_i64]; omega
  have x4 : IntKind.i64.wrap (o - D + (I.size : Int)) = mov D I.size o := by rw [IntKind.wrap_i64]; unfold mov; omega
  have x5 : IntKind.i64.wrap (c + 1) = c + 1 := by rw [IntKind.wrap_i64]; omega
  obtain ⟨M, hM⟩ : ∃ M, mov D I.size o = M := ⟨_, rfl⟩
  obtain ⟨bA, yA⟩ : ∃ bA, decide (o + s.2.k ≤ A) = bA := ⟨_, rfl⟩
  obtain ⟨bB, yB⟩ : ∃ bB, decide (A + D ≤ o) = bB := ⟨_, rfl⟩
  obtain ⟨bM, yM⟩ : ∃ bM, (M == o) = bM := ⟨_, rfl⟩
  rw [hM] at x4 HW
  have HK1 : Hid (kp1 A o s = if bA then [(o, s)] else []) := by show _ = _; unfold kp1 ahd; rw [yA]
  have HK2 : Hid (kp2 A D I.size o s = if bB && (!bA || !bM) then [(M, s)] else []) := by
    show _ = _
    unfold kp2 cn2 ahd beh
    rw [yA, yB, hM]
    have e9 : decide (M ≠ o) = !bM := by
      rw [← yM]
      by_cases e : M = o
      · simp [e]
      · simp [e]
    rw [e9]
  have HC1 : Hid (cn1 A D o s.2 = if bA || bB then 1 else 0) := by show _ = _; unfold cn1 ahd beh; rw [yA, yB]
  clear h hn hl hM ho hk hA hD hI hc
  obtain ⟨W1, hW1⟩ : ∃ W1, W1 = (w.alloc (.cells #[.string s.1, .int .i64 s.2.t, .int .i64 s.2.p, .int .i64 s.2.l, .int .i64 s.2.k, .int .u64 s.2.v, .string s.2.a] 65)).alloc (.cells #[.int .i64 A, .int .i64 D, .string I] 24) := ⟨_, rfl⟩
  obtain ⟨N, hN⟩ : ∃ N, w.heap.size = N := ⟨_, rfl⟩
  have HB0 : Hid (Below w.heap.size w W1) := by rw [hW1]; exact below_trans (bel_up _ _) (bel_up _ _)
  have HX : Hid (Bs N s W1) := by
    show _ = _
    rw [hW1, ← hN]
    rw [Below.heap_alloc _ _ _ (by simp)]; exact heap_new w _
  have HY : Hid (W1.heap[N + 1]? = some (.cells #[.int .i64 A, .int .i64 D, .string I] 24 (0, 0))) := by
    rw [hW1, ← hN]
    show _ = _
    have h1 := heap_new (w.alloc (.cells #[.string s.1, .int .i64 s.2.t, .int .i64 s.2.p, .int .i64 s.2.l, .int .i64 s.2.k, .int .u64 s.2.v, .string s.2.a] 65)) (.cells #[.int .i64 A, .int .i64 D, .string I] 24)
    rw [show (w.alloc (.cells #[.string s.1, .int .i64 s.2.t, .int .i64 s.2.p, .int .i64 s.2.l, .int .i64 s.2.k, .int .u64 s.2.v, .string s.2.a] 65)).heap.size = w.heap.size + 1 by simp] at h1
    exact h1
  have HO1 : Hid (Ol B W1 p b n f S c) := HO.out.up HB0.out
  have HQ : Hid (∀ k, wfi k → (f k).ownBlock ≠ some N) := fun k hk h7 => by
    have := own_lt (HO.out.r k hk) h7
    omega
  have HBS : Hid (B ≤ w.heap.size) := Nat.le_of_lt (Nat.lt_of_le_of_lt HO.out.pb (lt_of_heap HO.out.h))
  have hWs : w.heap.size + 1 = N + 1 := by rw [hN]
  unfold sfv edv
  go_enter Try.func20, Try.ntmps20
  go_upto_region 1 with fail
  rw [← hW1]
  clear hW1 hWs
  have c0 := rcell HX.out 0 _ rfl; have c1 := rcell HX.out 1 _ rfl; have c2 := rcell HX.out 2 _ rfl; have c3 := rcell HX.out 3 _ rfl; have c4 := rcell HX.out 4 _ rfl; have c5 := rcell HX.out 5 _ rfl; have c6 := rcell HX.out 6 _ rfl
  have d0 := rcell HY.out 0 _ rfl; have d1 := rcell HY.out 1 _ rfl; have d2 := rcell HY.out 2 _ rfl
  have p0 := rcell HO1.out.h 0 _ rfl; have p1 := rcell HO1.out.h 1 _ rfl
  have HB1 : Hid (Below B w W1 ∧ Fk w W1) := ⟨HB0.out.mono HBS.out, Fk.of_below HB0.out⟩
  refine wp_region_noPanic ?_
  refine wp_region_held_drew (S := fun V => Sk p b N s V ∧ V.cell? ⟨N + 1, 0, none⟩ = some (.int .i64 A) ∧ V.cell? ⟨N + 1, 1, none⟩ = some (.int .i64 D)) (by kernel_rfl) ⟨Sk.of (HO1.out.up (Below.drew (Below.refl _ _))) HX.out, d0, d1⟩ (fun hHeld => ?_)
  clear c0 c1 c2 c3 c4 c5 c6 d0 d1 d2 p0 p1
  refine wpAnyH_take (i := 0) (oi := { dst := _, op := _, type := _, pos := _, after := _, guard := _ }) (v := ?_) rfl (by kernel_rfl) (by kernel_rfl) (by kernel_rfl) (fun _ _ _ h => h) (Or.inl ⟨by rfl, ?_⟩) (by assumption) ?_
  rotate_left
  · intro W hSw
    (try dsimp only at hSw)
    obtain ⟨⟨z0, z1, z2, z3, z4, z5, z6, z7⟩, z8, z9⟩ := hSw
    go_simp
    (try with_reducible rfl)
  try simp only [Act.put, List.setIfInBounds_toArray, List.set_cons_zero, List.set_cons_succ]
  refine wpAnyH_take (i := 1) (oi := { dst := _, op := _, type := _, pos := _, after := _, guard := _ }) (v := ?_) rfl (by kernel_rfl) (by kernel_rfl) (by kernel_rfl) (fun _ _ _ h => h) (Or.inl ⟨by rfl, ?_⟩) (by assumption) ?_
  rotate_left
  · intro W hSw
    (try dsimp only at hSw)
    obtain ⟨⟨z0, z1, z2, z3, z4, z5, z6, z7⟩, z8, z9⟩ := hSw
    go_simp
    (try with_reducible rfl)
  try simp only [Act.put, List.setIfInBounds_toArray, List.set_cons_zero, List.set_cons_succ]
  refine wpAnyH_take (i := 2) (oi := { dst := _, op := _, type := _, pos := _, after := _, guard := _ }) (v := ?_) rfl (by kernel_rfl) (by kernel_rfl) (by kernel_rfl) (fun _ _ _ h => h) (Or.inl ⟨by rfl, ?_⟩) (by assumption) ?_
  rotate_left
  · intro W hSw
    (try dsimp only at hSw)
    obtain ⟨⟨z0, z1, z2, z3, z4, z5, z6, z7⟩, z8, z9⟩ := hSw
    go_simp
    (try with_reducible rfl)
  try simp only [Act.put, List.setIfInBounds_toArray, List.set_cons_zero, List.set_cons_succ]
  refine wpAnyH_take (i := 3) (oi := { dst := _, op := _, type := _, pos := _, after := _, guard := _ }) (v := ?_) rfl (by kernel_rfl) (by kernel_rfl) (by kernel_rfl) (fun _ _ _ h => h) (Or.inl ⟨by rfl, ?_⟩) (by assumption) ?_
  rotate_left
  · intro W hSw
    (try dsimp only at hSw)
    obtain ⟨⟨z0, z1, z2, z3, z4, z5, z6, z7⟩, z8, z9⟩ := hSw
    go_simp
    (try with_reducible rfl)
  try simp only [Act.put, List.setIfInBounds_toArray, List.set_cons_zero, List.set_cons_succ]
  refine wpAnyH_take (i := 4) (oi := { dst := _, op := _, type := _, pos := _, after := _, guard := _ }) (v := ?_) rfl (by kernel_rfl) (by kernel_rfl) (by kernel_rfl) (fun _ _ _ h => h) (Or.inl ⟨by rfl, ?_⟩) (by assumption) ?_
  rotate_left
  · intro W hSw
    (try dsimp only at hSw)
    obtain ⟨⟨z0, z1, z2, z3, z4, z5, z6, z7⟩, z8, z9⟩ := hSw
    go_simp
    (try with_reducible rfl)
  try simp only [Act.put, List.setIfInBounds_toArray, List.set_cons_zero, List.set_cons_succ]
  refine wpAnyH_take (i := 5) (oi := { dst := _, op := _, type := _, pos := _, after := _, guard := _ }) (v := ?_) rfl (by kernel_rfl) (by kernel_rfl) (by kernel_rfl) (fun _ _ _ h => h) (Or.inl ⟨by rfl, ?_⟩) (by assumption) ?_
  rotate_left
  · intro W hSw
    (try dsimp only at hSw)
    obtain ⟨⟨z0, z1, z2, z3, z4, z5, z6, z7⟩, z8, z9⟩ := hSw
    go_simp
    (try with_reducible rfl)
  try simp only [Act.put, List.setIfInBounds_toArray, List.set_cons_zero, List.set_cons_succ]
  refine wpAnyH_take (i := 6) (oi := { dst := _, op := _, type := _, pos := _, after := _, guard := _ }) (v := ?_) rfl (by kernel_rfl) (by kernel_rfl) (by kernel_rfl) (fun _ _ _ h => h) (Or.inl ⟨by rfl, ?_⟩) (by assumption) ?_
  rotate_left
  · intro W hSw
    (try dsimp only at hSw)
    obtain ⟨⟨z0, z1, z2, z3, z4, z5, z6, z7⟩, z8, z9⟩ := hSw
    go_simp
    (try with_reducible rfl)
  try simp only [Act.put, List.setIfInBounds_toArray, List.set_cons_zero, List.set_cons_succ]
  refine wpAnyH_take (i := 7) (oi := { dst := _, op := _, type := _, pos := _, after := _, guard := _ }) (v := ?_) rfl (by kernel_rfl) (by kernel_rfl) (by kernel_rfl) (fun _ _ _ h => h) (Or.inl ⟨by rfl, ?_⟩) (by assumption) ?_
  rotate_left
  · intro W hSw
    (try dsimp only at hSw)
    obtain ⟨⟨z0, z1, z2, z3, z4, z5, z6, z7⟩, z8, z9⟩ := hSw
    go_simp
    (try with_reducible rfl)
  try simp only [Act.put, List.setIfInBounds_toArray, List.set_cons_zero, List.set_cons_succ]
  refine wpAnyH_take (i := 8) (oi := { dst := _, op := _, type := _, pos := _, after := _, guard := _ }) (v := ?_) rfl (by kernel_rfl) (by kernel_rfl) (by kernel_rfl) (fun _ _ _ h => h) (Or.inl ⟨by rfl, ?_⟩) (by assumption) ?_
  rotate_left
  · intro W hSw
    (try dsimp only at hSw)
    obtain ⟨⟨z0, z1, z2, z3, z4, z5, z6, z7⟩, z8, z9⟩ := hSw
    go_simp
    (try with_reducible rfl)
  try simp only [Act.put, List.setIfInBounds_toArray, List.set_cons_zero, List.set_cons_succ]
  refine wpAnyH_take (i := 9) (oi := { dst := _, op := _, type := _, pos := _, after := _, guard := _ }) (v := ?_) rfl (by kernel_rfl) (by kernel_rfl) (by kernel_rfl) (fun _ _ _ h => h) (Or.inl ⟨by rfl, ?_⟩) (by assumption) ?_
  rotate_left
  · intro W hSw
    (try dsimp only at hSw)
    obtain ⟨⟨z0, z1, z2, z3, z4, z5, z6, z7⟩, z8, z9⟩ := hSw
    go_simp
    (try with_reducible rfl)
  try simp only [Act.put, List.setIfInBounds_toArray, List.set_cons_zero, List.set_cons_succ]
  refine wpAnyH_take (i := 10) (oi := { dst := _, op := _, type := _, pos := _, after := _, guard := _ }) (v := ?_) rfl (by kernel_rfl) (by kernel_rfl) (by kernel_rfl) (fun _ _ _ h => h) (Or.inl ⟨by rfl, ?_⟩) (by assumption) ?_
  rotate_left
  · intro W hSw
    (try dsimp only at hSw)
    obtain ⟨⟨z0, z1, z2, z3, z4, z5, z6, z7⟩, z8, z9⟩ := hSw
    go_simp
    (try with_reducible rfl)
  try simp only [Act.put, List.setIfInBounds_toArray, List.set_cons_zero, List.set_cons_succ]
  refine wpAnyH_take (i := 11) (oi := { dst := _, op := _, type := _, pos := _, after := _, guard := _ }) (v := ?_) rfl (by kernel_rfl) (by kernel_rfl) (by kernel_rfl) (fun _ _ _ h => h) (Or.inl ⟨by rfl, ?_⟩) (by assumption) ?_
  rotate_left
  · intro W hSw
    (try dsimp only at hSw)
    obtain ⟨⟨z0, z1, z2, z3, z4, z5, z6, z7⟩, z8, z9⟩ := hSw
    go_simp
    (try with_reducible rfl)
  try simp only [Act.put, List.setIfInBounds_toArray, List.set_cons_zero, List.set_cons_succ]
  refine wpAnyH_take (i := 12) (oi := { dst := _, op := _, type := _, pos := _, after := _, guard := _ }) (v := ?_) rfl (by kernel_rfl) (by kernel_rfl) (by kernel_rfl) (fun _ _ _ h => h) (Or.inl ⟨by rfl, ?_⟩) (by assumption) ?_
  rotate_left
  · intro W hSw
    (try dsimp only at hSw)
    obtain ⟨⟨z0, z1, z2, z3, z4, z5, z6, z7⟩, z8, z9⟩ := hSw
    go_simp
    (try with_reducible rfl)
  try simp only [Act.put, List.setIfInBounds_toArray, List.set_cons_zero, List.set_cons_succ]
  refine wpAnyH_take (i := 13) (oi := { dst := _, op := _, type := _, pos := _, after := _, guard := _ }) (v := ?_) rfl (by kernel_rfl) (by kernel_rfl) (by kernel_rfl) (fun _ _ _ h => h) (Or.inl ⟨by rfl, ?_⟩) (by assumption) ?_
  rotate_left
  · intro W hSw
    (try dsimp only at hSw)
    obtain ⟨⟨z0, z1, z2, z3, z4, z5, z6, z7⟩, z8, z9⟩ := hSw
    go_simp
    (try with_reducible rfl)
  try simp only [Act.put, List.setIfInBounds_toArray, List.set_cons_zero, List.set_cons_succ]
  refine wpAnyH_take (i := 14) (oi := { dst := _, op := _, type := _, pos := _, after := _, guard := _ }) (v := ?_) rfl (by kernel_rfl) (by kernel_rfl) (by kernel_rfl) (fun _ _ _ h => h) (Or.inl ⟨by rfl, ?_⟩) (by assumption) ?_
  rotate_left
  · intro W hSw
    (try dsimp only at hSw)
    obtain ⟨⟨z0, z1, z2, z3, z4, z5, z6, z7⟩, z8, z9⟩ := hSw
    go_simp
    (try with_reducible rfl)
  try simp only [Act.put, List.setIfInBounds_toArray, List.set_cons_zero, List.set_cons_succ]
  refine wpAnyH_take (i := 15) (oi := { dst := _, op := _, type := _, pos := _, after := _, guard := _ }) (v := ?_) rfl (by kernel_rfl) (by kernel_rfl) (by kernel_rfl) (fun _ _ _ h => h) (Or.inl ⟨by rfl, ?_⟩) (by assumption) ?_
  rotate_left
  · intro W hSw
    (try dsimp only at hSw)
    obtain ⟨⟨z0, z1, z2, z3, z4, z5, z6, z7⟩, z8, z9⟩ := hSw
    go_simp
    (try with_reducible rfl)
  try simp only [Act.put, List.setIfInBounds_toArray, List.set_cons_zero, List.set_cons_succ]
  refine wpAnyH_take (i := 16) (oi := { dst := _, op := _, type := _, pos := _, after := _, guard := _ }) (v := ?_) rfl (by kernel_rfl) (by kernel_rfl) (by kernel_rfl) (fun _ _ _ h => h) (Or.inl ⟨by rfl, ?_⟩) (by assumption) ?_
  rotate_left
  · intro W hSw
    (try dsimp only at hSw)
    obtain ⟨⟨z0, z1, z2, z3, z4, z5, z6, z7⟩, z8, z9⟩ := hSw
    go_simp
    (try with_reducible rfl)
  try simp only [Act.put, List.setIfInBounds_toArray, List.set_cons_zero, List.set_cons_succ]
  refine wpAnyH_done (by kernel_rfl) ?_ _
  refine NoPanic.normal ?_
  have HOD : Hid (Ol B W1.drew p b n f S c) := HO1.out.up (Below.drew (Below.refl _ _))
  have HXD : Hid (Bs N s W1.drew) := HX.out
  have HBD : Hid (Below B w W1.drew ∧ Fk w W1.drew) := ⟨Below.drew HB1.out.1, HB1.out.2.trans (Fk.of_below (Below.drew (Below.refl _ _)))⟩
  have d1 := rcell (W := W1.drew) HY.out 1 _ rfl
  have d2 := rcell (W := W1.drew) HY.out 2 _ rfl
  clear HO1 HX HB1 HY HB0 hHeld
  obtain ⟨W0, hW0⟩ : ∃ W0, W1.drew = W0 := ⟨_, rfl⟩
  rw [hW0] at HOD HXD HBD d1 d2 ⊢
  clear hW0 W1
  go_upto_region 3 with fail
  clear d1 d2 x1 x2 x3 x4
  cases bA with
  | true =>
    go_upto_region 4 with fail
    refine wp_region_noPanic ?_
    refine wp_region_held_drew (S := Sk p b N s) (by kernel_rfl) (Sk.of (HOD.out.up (Below.drew (Below.refl _ _))) HXD.out) (fun hHeld => ?_)
    obtain ⟨WDa, hWD⟩ : ∃ WD, W0.drew = WD := ⟨_, rfl⟩
    have HODa : Hid (Ol B WDa p b (n) (f) (S) c) := by rw [← hWD]; exact HOD.out.up (Below.drew (Below.refl _ _))
    have HXDa : Hid (Bs N s WDa) := by rw [← hWD]; exact HXD.out
    have HBDa : Hid (Below B w WDa ∧ Fk w WDa) := by rw [← hWD]; exact ⟨Below.drew HBD.out.1, HBD.out.2.trans (Fk.of_below (Below.drew (Below.refl _ _)))⟩
    rw [hWD] at hHeld ⊢
    clear hWD
    refine wpAnyH_take (i := 0) (oi := { dst := _, op := _, type := _, pos := _, after := _, guard := _ }) (v := ?_) rfl (by kernel_rfl) (by kernel_rfl) (by kernel_rfl) (fun _ _ _ h => h) (Or.inl ⟨by rfl, ?_⟩) (by assumption) ?_
    rotate_left
    · intro W hSw
      (try dsimp only at hSw)
      obtain ⟨z0, z1, z2, z3, z4, z5, z6, z7⟩ := hSw
      go_simp
      (try with_reducible rfl)
    try simp only [Act.put, List.setIfInBounds_toArray, List.set_cons_zero, List.set_cons_succ]
    refine wpAnyH_take (i := 1) (oi := { dst := _, op := _, type := _, pos := _, after := _, guard := _ }) (v := ?_) rfl (by kernel_rfl) (by kernel_rfl) (by kernel_rfl) (fun _ _ _ h => h) (Or.inl ⟨by rfl, ?_⟩) (by assumption) ?_
    rotate_left
    · intro W hSw
      (try dsimp only at hSw)
      obtain ⟨z0, z1, z2, z3, z4, z5, z6, z7⟩ := hSw
      go_simp
      (try with_reducible rfl)
    try simp only [Act.put, List.setIfInBounds_toArray, List.set_cons_zero, List.set_cons_succ]
    refine wpAnyH_take (i := 2) (oi := { dst := _, op := _, type := _, pos := _, after := _, guard := _ }) (v := ?_) rfl (by kernel_rfl) (by kernel_rfl) (by kernel_rfl) (fun _ _ _ h => h) (Or.inl ⟨by rfl, ?_⟩) (by assumption) ?_
    rotate_left
    · intro W hSw
      (try dsimp only at hSw)
      obtain ⟨z0, z1, z2, z3, z4, z5, z6, z7⟩ := hSw
      go_simp
      (try with_reducible rfl)
    try simp only [Act.put, List.setIfInBounds_toArray, List.set_cons_zero, List.set_cons_succ]
    refine wpAnyH_take (i := 3) (oi := { dst := _, op := _, type := _, pos := _, after := _, guard := _ }) (v := ?_) rfl (by kernel_rfl) (by kernel_rfl) (by kernel_rfl) (fun _ _ _ h => h) (Or.inl ⟨by rfl, ?_⟩) (by assumption) ?_
    rotate_left
    · intro W hSw
      (try dsimp only at hSw)
      obtain ⟨z0, z1, z2, z3, z4, z5, z6, z7⟩ := hSw
      go_simp
      (try with_reducible rfl)
    try simp only [Act.put, List.setIfInBounds_toArray, List.set_cons_zero, List.set_cons_succ]
    refine wpAnyH_take (i := 4) (oi := { dst := _, op := _, type := _, pos := _, after := _, guard := _ }) (v := ?_) rfl (by kernel_rfl) (by kernel_rfl) (by kernel_rfl) (fun _ _ _ h => h) (Or.inl ⟨by rfl, ?_⟩) (by assumption) ?_
    rotate_left
    · intro W hSw
      (try dsimp only at hSw)
      obtain ⟨z0, z1, z2, z3, z4, z5, z6, z7⟩ := hSw
      go_simp
      (try with_reducible rfl)
    try simp only [Act.put, List.setIfInBounds_toArray, List.set_cons_zero, List.set_cons_succ]
    refine wpAnyH_take (i := 5) (oi := { dst := _, op := _, type := _, pos := _, after := _, guard := _ }) (v := ?_) rfl (by kernel_rfl) (by kernel_rfl) (by kernel_rfl) (fun _ _ _ h => h) (Or.inl ⟨by rfl, ?_⟩) (by assumption) ?_
    rotate_left
    · intro W hSw
      (try dsimp only at hSw)
      obtain ⟨z0, z1, z2, z3, z4, z5, z6, z7⟩ := hSw
      go_simp
      (try with_reducible rfl)
    try simp only [Act.put, List.setIfInBounds_toArray, List.set_cons_zero, List.set_cons_succ]
    refine wpAnyH_take (i := 6) (oi := { dst := _, op := _, type := _, pos := _, after := _, guard := _ }) (v := ?_) rfl (by kernel_rfl) (by kernel_rfl) (by kernel_rfl) (fun _ _ _ h => h) (Or.inl ⟨by rfl, ?_⟩) (by assumption) ?_
    rotate_left
    · intro W hSw
      (try dsimp only at hSw)
      obtain ⟨z0, z1, z2, z3, z4, z5, z6, z7⟩ := hSw
      go_simp
      (try with_reducible rfl)
    try simp only [Act.put, List.setIfInBounds_toArray, List.set_cons_zero, List.set_cons_succ]
    refine wpAnyH_take (i := 7) (oi := { dst := _, op := _, type := _, pos := _, after := _, guard := _ }) (v := ?_) rfl (by kernel_rfl) (by kernel_rfl) (by kernel_rfl) (fun _ _ _ h => h) (Or.inl ⟨by rfl, ?_⟩) (by assumption) ?_
    rotate_left
    · intro W hSw
      (try dsimp only at hSw)
      obtain ⟨z0, z1, z2, z3, z4, z5, z6, z7⟩ := hSw
      go_simp
      (try with_reducible rfl)
    try simp only [Act.put, List.setIfInBounds_toArray, List.set_cons_zero, List.set_cons_succ]
    refine wpAnyH_take (i := 8) (oi := { dst := _, op := _, type := _, pos := _, after := _, guard := _ }) (v := ?_) rfl (by kernel_rfl) (by kernel_rfl) (by kernel_rfl) (fun _ _ _ h => h) (Or.inl ⟨by rfl, ?_⟩) (by assumption) ?_
    rotate_left
    · intro W hSw
      (try dsimp only at hSw)
      obtain ⟨z0, z1, z2, z3, z4, z5, z6, z7⟩ := hSw
      go_simp
      (try with_reducible rfl)
    try simp only [Act.put, List.setIfInBounds_toArray, List.set_cons_zero, List.set_cons_succ]
    refine wpAnyH_take (i := 9) (oi := { dst := _, op := _, type := _, pos := _, after := _, guard := _ }) (v := ?_) rfl (by kernel_rfl) (by kernel_rfl) (by kernel_rfl) (fun _ _ _ h => h) (Or.inl ⟨by rfl, ?_⟩) (by assumption) ?_
    rotate_left
    · intro W hSw
      (try dsimp only at hSw)
      obtain ⟨z0, z1, z2, z3, z4, z5, z6, z7⟩ := hSw
      go_simp
      (try with_reducible rfl)
    try simp only [Act.put, List.setIfInBounds_toArray, List.set_cons_zero, List.set_cons_succ]
    refine wpAnyH_take (i := 11) (oi := { dst := _, op := _, type := _, pos := _, after := _, guard := _ }) (v := ?_) rfl (by kernel_rfl) (by kernel_rfl) (by kernel_rfl) (fun _ _ _ h => h) (Or.inl ⟨by rfl, ?_⟩) (by assumption) ?_
    rotate_left
    · intro W hSw
      (try dsimp only at hSw)
      obtain ⟨z0, z1, z2, z3, z4, z5, z6, z7⟩ := hSw
      go_simp
      (try with_reducible rfl)
    try simp only [Act.put, List.setIfInBounds_toArray, List.set_cons_zero, List.set_cons_succ]
    obtain ⟨va, W2a, W3a, r2, r3, hO3, hB3, q2, q3, q4, q5⟩ := HODa.out.add s HW.out.1 (by have := HN.out; omega) (HL.out _) 66
    have HR2a : Hid _ := r2
    have HR3a : Hid _ := r3
    have HO3a : Hid (Ol B W3a p b (n + 1) (fput (f) o va) ((S) ++ [(o, s)]) c) := hO3
    have HFOa : Hid (((f) o).ownBlock ≠ some p ∧ ((f) o).ownBlock ≠ some N ∧ p ≠ b ∧ N ≠ b) := ⟨tag_ne_blk (HODa.out.r o HW.out.1) HODa.out.h (by decide), HQ.out o HW.out.1, fun e => (by obtain ⟨es, cl, hm⟩ := HODa.out.m.heap; have h8 := HODa.out.h; rw [e, hm] at h8; cases h8), fun e => (by obtain ⟨es, cl, hm⟩ := HODa.out.m.heap; have h8 := HXDa.out; unfold Bs at h8; rw [e, hm] at h8; cases h8)⟩
    have HS2a : Hid (Sk p b N s WDa → Sk p b N s W2a) := fun h => h.same (q2 p (lt_of_heap HODa.out.h) HFOa.out.1) (q2 N (lt_of_heap HXDa.out) HFOa.out.2.1)
    have HS3a : Hid (Sk p b N s WDa → Sk p b N s W3a) := fun h => h.same (q3 p (lt_of_heap HODa.out.h) HFOa.out.2.2.1 HFOa.out.1) (q3 N (lt_of_heap HXDa.out) HFOa.out.2.2.2 HFOa.out.2.1)
    have HX3a : Hid (Bs N s W3a) := (q3 N (lt_of_heap HXDa.out) HFOa.out.2.2.2 HFOa.out.2.1).trans HXDa.out
    have HQ3a : Hid (∀ k, wfi k → (fput (f) o va k).ownBlock ≠ some N) := q4 N (lt_of_heap HXDa.out) HQ.out
    have HB3a : Hid (Below B w W3a ∧ Fk w W3a) := ⟨HBDa.out.1.trans hB3, HBDa.out.2.trans q5⟩
    have HSDa : Hid (Sk p b N s WDa) := hHeld
    clear r2 r3 hO3 hB3 q2 q3 q4 q5
    refine wpAnyH_ready (rs := [10, 12]) (by kernel_rfl) (by simp) ?_
    refine AllReadyH.cons (o := { dst := _, op := _, type := _, pos := _, after := _, guard := _ }) rfl (fun K hK => ?_) (AllReadyH.cons (o := { dst := _, op := _, type := _, pos := _, after := _, guard := _ }) rfl (fun K hK => ?_) AllReadyH.nil)
    · refine step_look rfl _ _ 57 rfl _ _ _ rfl rfl (HODa.out.m.look HW.out.1) ?_
      refine hK.out _ _ ?_ (fun hHeld => ?_)
      · exact HSDa.out
      clear hK K hHeld
      try simp only [Act.put, List.setIfInBounds_toArray, List.set_cons_zero, List.set_cons_succ]
      refine wpAnyH_ready (rs := [12]) (by kernel_rfl) (by simp) ?_
      refine AllReadyH.cons (o := { dst := _, op := _, type := _, pos := _, after := _, guard := _ }) rfl (fun K hK => ?_) AllReadyH.nil
      go_simp
      refine hK.out _ _ ?_ (fun hHeld => ?_)
      · exact HSDa.out.up (bel_up _ _)
      clear hK K hHeld
      try simp only [Act.put, List.setIfInBounds_toArray, List.set_cons_zero, List.set_cons_succ]
      refine wpAnyH_ready (rs := [13]) (by kernel_rfl) (by simp) ?_
      refine AllReadyH.cons (o := { dst := _, op := _, type := _, pos := _, after := _, guard := _ }) rfl (fun K hK => ?_) AllReadyH.nil
      refine step_append rfl _ _ 66 rfl _ _ va W2a rfl rfl HR2a.out ?_
      refine hK.out _ _ ?_ (fun hHeld => ?_)
      · exact HS2a.out HSDa.out
      clear hK K hHeld
      try simp only [Act.put, List.setIfInBounds_toArray, List.set_cons_zero, List.set_cons_succ]
      refine wpAnyH_ready (rs := [14]) (by kernel_rfl) (by simp) ?_
      refine AllReadyH.cons (o := { dst := _, op := _, type := _, pos := _, after := _, guard := _ }) rfl (fun K hK => ?_) AllReadyH.nil
      refine step_update rfl _ _ _ 57 rfl _ _ _ W3a rfl rfl rfl HR3a.out ?_
      refine hK.out _ _ ?_ (fun hHeld => ?_)
      · exact HS3a.out HSDa.out
      clear hK K hHeld
      try simp only [Act.put]
      refine wpAnyH_done (by kernel_rfl) ?_ _
      refine NoPanic.normal ?_
      clear HR2a HR3a HS2a HS3a HSDa HFOa HXDa HODa HBDa
      cases bB with
      | true =>
        cases bM with
        | false =>
          go_upto_region 6 with fail
          refine wp_region_noPanic ?_
          refine wp_region_held_drew (S := Sk p b N s) (by kernel_rfl) (Sk.of (HO3a.out.up (Below.drew (Below.refl _ _))) HX3a.out) (fun hHeld => ?_)
          obtain ⟨WDb, hWD⟩ : ∃ WD, W3a.drew = WD := ⟨_, rfl⟩
          have HODb : Hid (Ol B WDb p b (n + 1) (fput f o va) (S ++ [(o, s)]) c) := by rw [← hWD]; exact HO3a.out.up (Below.drew (Below.refl _ _))
          have HXDb : Hid (Bs N s WDb) := by rw [← hWD]; exact HX3a.out
          have HBDb : Hid (Below B w WDb ∧ Fk w WDb) := by rw [← hWD]; exact ⟨Below.drew HB3a.out.1, HB3a.out.2.trans (Fk.of_below (Below.drew (Below.refl _ _)))⟩
          rw [hWD] at hHeld ⊢
          clear hWD
          refine wpAnyH_take (i := 0) (oi := { dst := _, op := _, type := _, pos := _, after := _, guard := _ }) (v := ?_) rfl (by kernel_rfl) (by kernel_rfl) (by kernel_rfl) (fun _ _ _ h => h) (Or.inl ⟨by rfl, ?_⟩) (by assumption) ?_
          rotate_left
          · intro W hSw
            (try dsimp only at hSw)
            obtain ⟨z0, z1, z2, z3, z4, z5, z6, z7⟩ := hSw
            go_simp
            (try with_reducible rfl)
          try simp only [Act.put, List.setIfInBounds_toArray, List.set_cons_zero, List.set_cons_succ]
          refine wpAnyH_take (i := 1) (oi := { dst := _, op := _, type := _, pos := _, after := _, guard := _ }) (v := ?_) rfl (by kernel_rfl) (by kernel_rfl) (by kernel_rfl) (fun _ _ _ h => h) (Or.inl ⟨by rfl, ?_⟩) (by assumption) ?_
          rotate_left
          · intro W hSw
            (try dsimp only at hSw)
            obtain ⟨z0, z1, z2, z3, z4, z5, z6, z7⟩ := hSw
            go_simp
            (try with_reducible rfl)
          try simp only [Act.put, List.setIfInBounds_toArray, List.set_cons_zero, List.set_cons_succ]
          refine wpAnyH_take (i := 2) (oi := { dst := _, op := _, type := _, pos := _, after := _, guard := _ }) (v := ?_) rfl (by kernel_rfl) (by kernel_rfl) (by kernel_rfl) (fun _ _ _ h => h) (Or.inl ⟨by rfl, ?_⟩) (by assumption) ?_
          rotate_left
          · intro W hSw
            (try dsimp only at hSw)
            obtain ⟨z0, z1, z2, z3, z4, z5, z6, z7⟩ := hSw
            go_simp
            (try with_reducible rfl)
          try simp only [Act.put, List.setIfInBounds_toArray, List.set_cons_zero, List.set_cons_succ]
          refine wpAnyH_take (i := 3) (oi := { dst := _, op := _, type := _, pos := _, after := _, guard := _ }) (v := ?_) rfl (by kernel_rfl) (by kernel_rfl) (by kernel_rfl) (fun _ _ _ h => h) (Or.inl ⟨by rfl, ?_⟩) (by assumption) ?_
          rotate_left
          · intro W hSw
            (try dsimp only at hSw)
            obtain ⟨z0, z1, z2, z3, z4, z5, z6, z7⟩ := hSw
            go_simp
            (try with_reducible rfl)
          try simp only [Act.put, List.setIfInBounds_toArray, List.set_cons_zero, List.set_cons_succ]
          refine wpAnyH_take (i := 4) (oi := { dst := _, op := _, type := _, pos := _, after := _, guard := _ }) (v := ?_) rfl (by kernel_rfl) (by kernel_rfl) (by kernel_rfl) (fun _ _ _ h => h) (Or.inl ⟨by rfl, ?_⟩) (by assumption) ?_
          rotate_left
          · intro W hSw
            (try dsimp only at hSw)
            obtain ⟨z0, z1, z2, z3, z4, z5, z6, z7⟩ := hSw
            go_simp
            (try with_reducible rfl)
          try simp only [Act.put, List.setIfInBounds_toArray, List.set_cons_zero, List.set_cons_succ]
          refine wpAnyH_take (i := 5) (oi := { dst := _, op := _, type := _, pos := _, after := _, guard := _ }) (v := ?_) rfl (by kernel_rfl) (by kernel_rfl) (by kernel_rfl) (fun _ _ _ h => h) (Or.inl ⟨by rfl, ?_⟩) (by assumption) ?_
          rotate_left
          · intro W hSw
            (try dsimp only at hSw)
            obtain ⟨z0, z1, z2, z3, z4, z5, z6, z7⟩ := hSw
            go_simp
            (try with_reducible rfl)
          try simp only [Act.put, List.setIfInBounds_toArray, List.set_cons_zero, List.set_cons_succ]
          refine wpAnyH_take (i := 6) (oi := { dst := _, op := _, type := _, pos := _, after := _, guard := _ }) (v := ?_) rfl (by kernel_rfl) (by kernel_rfl) (by kernel_rfl) (fun _ _ _ h => h) (Or.inl ⟨by rfl, ?_⟩) (by assumption) ?_
          rotate_left
          · intro W hSw
            (try dsimp only at hSw)
            obtain ⟨z0, z1, z2, z3, z4, z5, z6, z7⟩ := hSw
            go_simp
            (try with_reducible rfl)
          try simp only [Act.put, List.setIfInBounds_toArray, List.set_cons_zero, List.set_cons_succ]
          refine wpAnyH_take (i := 7) (oi := { dst := _, op := _, type := _, pos := _, after := _, guard := _ }) (v := ?_) rfl (by kernel_rfl) (by kernel_rfl) (by kernel_rfl) (fun _ _ _ h => h) (Or.inl ⟨by rfl, ?_⟩) (by assumption) ?_
          rotate_left
          · intro W hSw
            (try dsimp only at hSw)
            obtain ⟨z0, z1, z2, z3, z4, z5, z6, z7⟩ := hSw
            go_simp
            (try with_reducible rfl)
          try simp only [Act.put, List.setIfInBounds_toArray, List.set_cons_zero, List.set_cons_succ]
          refine wpAnyH_take (i := 8) (oi := { dst := _, op := _, type := _, pos := _, after := _, guard := _ }) (v := ?_) rfl (by kernel_rfl) (by kernel_rfl) (by kernel_rfl) (fun _ _ _ h => h) (Or.inl ⟨by rfl, ?_⟩) (by assumption) ?_
          rotate_left
          · intro W hSw
            (try dsimp only at hSw)
            obtain ⟨z0, z1, z2, z3, z4, z5, z6, z7⟩ := hSw
            go_simp
            (try with_reducible rfl)
          try simp only [Act.put, List.setIfInBounds_toArray, List.set_cons_zero, List.set_cons_succ]
          refine wpAnyH_take (i := 9) (oi := { dst := _, op := _, type := _, pos := _, after := _, guard := _ }) (v := ?_) rfl (by kernel_rfl) (by kernel_rfl) (by kernel_rfl) (fun _ _ _ h => h) (Or.inl ⟨by rfl, ?_⟩) (by assumption) ?_
          rotate_left
          · intro W hSw
            (try dsimp only at hSw)
            obtain ⟨z0, z1, z2, z3, z4, z5, z6, z7⟩ := hSw
            go_simp
            (try with_reducible rfl)
          try simp only [Act.put, List.setIfInBounds_toArray, List.set_cons_zero, List.set_cons_succ]
          refine wpAnyH_take (i := 11) (oi := { dst := _, op := _, type := _, pos := _, after := _, guard := _ }) (v := ?_) rfl (by kernel_rfl) (by kernel_rfl) (by kernel_rfl) (fun _ _ _ h => h) (Or.inl ⟨by rfl, ?_⟩) (by assumption) ?_
          rotate_left
          · intro W hSw
            (try dsimp only at hSw)
            obtain ⟨z0, z1, z2, z3, z4, z5, z6, z7⟩ := hSw
            go_simp
            (try with_reducible rfl)
          try simp only [Act.put, List.setIfInBounds_toArray, List.set_cons_zero, List.set_cons_succ]
          obtain ⟨vb, W2b, W3b, r2, r3, hO3, hB3, q2, q3, q4, q5⟩ := HODb.out.add s HW.out.2 (by have := HN.out; omega) (by rw [lst_app, lst_one, if_neg (by intro e; rw [e] at yM; simp at yM), List.append_nil]; exact HL.out _) 66
          have HR2b : Hid _ := r2
          have HR3b : Hid _ := r3
          have HO3b : Hid (Ol B W3b p b (n + 1 + 1) (fput (fput f o va) M vb) ((S ++ [(o, s)]) ++ [(M, s)]) c) := hO3
          have HFOb : Hid (((fput f o va) M).ownBlock ≠ some p ∧ ((fput f o va) M).ownBlock ≠ some N ∧ p ≠ b ∧ N ≠ b) := ⟨tag_ne_blk (HODb.out.r M HW.out.2) HODb.out.h (by decide), HQ3a.out M HW.out.2, fun e => (by obtain ⟨es, cl, hm⟩ := HODb.out.m.heap; have h8 := HODb.out.h; rw [e, hm] at h8; cases h8), fun e => (by obtain ⟨es, cl, hm⟩ := HODb.out.m.heap; have h8 := HXDb.out; unfold Bs at h8; rw [e, hm] at h8; cases h8)⟩
          have HS2b : Hid (Sk p b N s WDb → Sk p b N s W2b) := fun h => h.same (q2 p (lt_of_heap HODb.out.h) HFOb.out.1) (q2 N (lt_of_heap HXDb.out) HFOb.out.2.1)
          have HS3b : Hid (Sk p b N s WDb → Sk p b N s W3b) := fun h => h.same (q3 p (lt_of_heap HODb.out.h) HFOb.out.2.2.1 HFOb.out.1) (q3 N (lt_of_heap HXDb.out) HFOb.out.2.2.2 HFOb.out.2.1)
          have HX3b : Hid (Bs N s W3b) := (q3 N (lt_of_heap HXDb.out) HFOb.out.2.2.2 HFOb.out.2.1).trans HXDb.out
          have HQ3b : Hid (∀ k, wfi k → (fput (fput f o va) M vb k).ownBlock ≠ some N) := q4 N (lt_of_heap HXDb.out) HQ3a.out
          have HB3b : Hid (Below B w W3b ∧ Fk w W3b) := ⟨HBDb.out.1.trans hB3, HBDb.out.2.trans q5⟩
          have HSDb : Hid (Sk p b N s WDb) := hHeld
          clear r2 r3 hO3 hB3 q2 q3 q4 q5
          refine wpAnyH_ready (rs := [10, 12]) (by kernel_rfl) (by simp) ?_
          refine AllReadyH.cons (o := { dst := _, op := _, type := _, pos := _, after := _, guard := _ }) rfl (fun K hK => ?_) (AllReadyH.cons (o := { dst := _, op := _, type := _, pos := _, after := _, guard := _ }) rfl (fun K hK => ?_) AllReadyH.nil)
          · refine step_look rfl _ _ 57 rfl _ _ _ rfl rfl (HODb.out.m.look HW.out.2) ?_
            refine hK.out _ _ ?_ (fun hHeld => ?_)
            · exact HSDb.out
            clear hK K hHeld
            try simp only [Act.put, List.setIfInBounds_toArray, List.set_cons_zero, List.set_cons_succ]
            refine wpAnyH_ready (rs := [12]) (by kernel_rfl) (by simp) ?_
            refine AllReadyH.cons (o := { dst := _, op := _, type := _, pos := _, after := _, guard := _ }) rfl (fun K hK => ?_) AllReadyH.nil
            go_simp
            refine hK.out _ _ ?_ (fun hHeld => ?_)
            · exact HSDb.out.up (bel_up _ _)
            clear hK K hHeld
            try simp only [Act.put, List.setIfInBounds_toArray, List.set_cons_zero, List.set_cons_succ]
            refine wpAnyH_ready (rs := [13]) (by kernel_rfl) (by simp) ?_
            refine AllReadyH.cons (o := { dst := _, op := _, type := _, pos := _, after := _, guard := _ }) rfl (fun K hK => ?_) AllReadyH.nil
            refine step_append rfl _ _ 66 rfl _ _ vb W2b rfl rfl HR2b.out ?_
            refine hK.out _ _ ?_ (fun hHeld => ?_)
            · exact HS2b.out HSDb.out
            clear hK K hHeld
            try simp only [Act.put, List.setIfInBounds_toArray, List.set_cons_zero, List.set_cons_succ]
            refine wpAnyH_ready (rs := [14]) (by kernel_rfl) (by simp) ?_
            refine AllReadyH.cons (o := { dst := _, op := _, type := _, pos := _, after := _, guard := _ }) rfl (fun K hK => ?_) AllReadyH.nil
            refine step_update rfl _ _ _ 57 rfl _ _ _ W3b rfl rfl rfl HR3b.out ?_
            refine hK.out _ _ ?_ (fun hHeld => ?_)
            · exact HS3b.out HSDb.out
            clear hK K hHeld
            try simp only [Act.put]
            refine wpAnyH_done (by kernel_rfl) ?_ _
            refine NoPanic.normal ?_
            clear HR2b HR3b HS2b HS3b HSDb HFOb HXDb HODb HBDb
            have p1 := rcell HO3b.out.h 1 _ rfl
            have f1 := Lib.frozen_of_heap HO3b.out.h 1
            go_wp2_with fail
            refine bodyPost_end (v := .tuple #[]) (by simp [results, Try.results20, go_sem]) rfl ?_
            refine ⟨rfl, n + 1 + 1, fput (fput f o va) M vb, ?_, ?_, HB3b.out.1.trans (HO3b.out.cntk _).2, HB3b.out.2.trans (HO3b.out.cntk _).1⟩
            · omega
            · have h9 := HO3b.out.cnt (c + 1)
              rw [HK1.out, HK2.out, HC1.out]
              simpa using h9
          · go_simp
            refine hK.out _ _ ?_ (fun hHeld => ?_)
            · exact HSDb.out.up (bel_up _ _)
            clear hK K hHeld
            try simp only [Act.put, List.setIfInBounds_toArray, List.set_cons_zero, List.set_cons_succ]
            refine wpAnyH_ready (rs := [10]) (by kernel_rfl) (by simp) ?_
            refine AllReadyH.cons (o := { dst := _, op := _, type := _, pos := _, after := _, guard := _ }) rfl (fun K hK => ?_) AllReadyH.nil
            refine step_look rfl _ _ 57 rfl _ _ _ rfl rfl ((HODb.out.up (bel_up _ _)).m.look HW.out.2) ?_
            refine hK.out _ _ ?_ (fun hHeld => ?_)
            · exact HSDb.out.up (bel_up _ _)
            clear hK K hHeld
            try simp only [Act.put, List.setIfInBounds_toArray, List.set_cons_zero, List.set_cons_succ]
            refine wpAnyH_ready (rs := [13]) (by kernel_rfl) (by simp) ?_
            refine AllReadyH.cons (o := { dst := _, op := _, type := _, pos := _, after := _, guard := _ }) rfl (fun K hK => ?_) AllReadyH.nil
            refine step_append rfl _ _ 66 rfl _ _ vb W2b rfl rfl HR2b.out ?_
            refine hK.out _ _ ?_ (fun hHeld => ?_)
            · exact HS2b.out HSDb.out
            clear hK K hHeld
            try simp only [Act.put, List.setIfInBounds_toArray, List.set_cons_zero, List.set_cons_succ]
            refine wpAnyH_ready (rs := [14]) (by kernel_rfl) (by simp) ?_
            refine AllReadyH.cons (o := { dst := _, op := _, type := _, pos := _, after := _, guard := _ }) rfl (fun K hK => ?_) AllReadyH.nil
            refine step_update rfl _ _ _ 57 rfl _ _ _ W3b rfl rfl rfl HR3b.out ?_
            refine hK.out _ _ ?_ (fun hHeld => ?_)
            · exact HS3b.out HSDb.out
            clear hK K hHeld
            try simp only [Act.put]
            refine wpAnyH_done (by kernel_rfl) ?_ _
            refine NoPanic.normal ?_
            clear HR2b HR3b HS2b HS3b HSDb HFOb HXDb HODb HBDb
            have p1 := rcell HO3b.out.h 1 _ rfl
            have f1 := Lib.frozen_of_heap HO3b.out.h 1
            go_wp2_with fail
            refine bodyPost_end (v := .tuple #[]) (by simp [results, Try.results20, go_sem]) rfl ?_
            refine ⟨rfl, n + 1 + 1, fput (fput f o va) M vb, ?_, ?_, HB3b.out.1.trans (HO3b.out.cntk _).2, HB3b.out.2.trans (HO3b.out.cntk _).1⟩
            · omega
            · have h9 := HO3b.out.cnt (c + 1)
              rw [HK1.out, HK2.out, HC1.out]
              simpa using h9
        | true =>
          have p1 := rcell HO3a.out.h 1 _ rfl
          have f1 := Lib.frozen_of_heap HO3a.out.h 1
          go_wp2_with fail
          refine bodyPost_end (v := .tuple #[]) (by simp [results, Try.results20, go_sem]) rfl ?_
          refine ⟨rfl, n + 1, fput f o va, ?_, ?_, HB3a.out.1.trans (HO3a.out.cntk _).2, HB3a.out.2.trans (HO3a.out.cntk _).1⟩
          · omega
          · have h9 := HO3a.out.cnt (c + 1)
            rw [HK1.out, HK2.out, HC1.out]
            simpa using h9
      | false =>
        have p1 := rcell HO3a.out.h 1 _ rfl
        have f1 := Lib.frozen_of_heap HO3a.out.h 1
        go_wp2_with fail
        refine bodyPost_end (v := .tuple #[]) (by simp [results, Try.results20, go_sem]) rfl ?_
        refine ⟨rfl, n + 1, fput f o va, ?_, ?_, HB3a.out.1.trans (HO3a.out.cntk _).2, HB3a.out.2.trans (HO3a.out.cntk _).1⟩
        · omega
        · have h9 := HO3a.out.cnt (c + 1)
          rw [HK1.out, HK2.out, HC1.out]
          simpa using h9
    · go_simp
      refine hK.out _ _ ?_ (fun hHeld => ?_)
      · exact HSDa.out.up (bel_up _ _)
      clear hK K hHeld
      try simp only [Act.put, List.setIfInBounds_toArray, List.set_cons_zero, List.set_cons_succ]
      refine wpAnyH_ready (rs := [10]) (by kernel_rfl) (by simp) ?_
      refine AllReadyH.cons (o := { dst := _, op := _, type := _, pos := _, after := _, guard := _ }) rfl (fun K hK => ?_) AllReadyH.nil
      refine step_look rfl _ _ 57 rfl _ _ _ rfl rfl ((HODa.out.up (bel_up _ _)).m.look HW.out.1) ?_
      refine hK.out _ _ ?_ (fun hHeld => ?_)
      · exact HSDa.out.up (bel_up _ _)
      clear hK K hHeld
      try simp only [Act.put, List.setIfInBounds_toArray, List.set_cons_zero, List.set_cons_succ]
      refine wpAnyH_ready (rs := [13]) (by kernel_rfl) (by simp) ?_
      refine AllReadyH.cons (o := { dst := _, op := _, type := _, pos := _, after := _, guard := _ }) rfl (fun K hK => ?_) AllReadyH.nil
      refine step_append rfl _ _ 66 rfl _ _ va W2a rfl rfl HR2a.out ?_
      refine hK.out _ _ ?_ (fun hHeld => ?_)
      · exact HS2a.out HSDa.out
      clear hK K hHeld
      try simp only [Act.put, List.setIfInBounds_toArray, List.set_cons_zero, List.set_cons_succ]
      refine wpAnyH_ready (rs := [14]) (by kernel_rfl) (by simp) ?_
      refine AllReadyH.cons (o := { dst := _, op := _, type := _, pos := _, after := _, guard := _ }) rfl (fun K hK => ?_) AllReadyH.nil
      refine step_update rfl _ _ _ 57 rfl _ _ _ W3a rfl rfl rfl HR3a.out ?_
      refine hK.out _ _ ?_ (fun hHeld => ?_)
      · exact HS3a.out HSDa.out
      clear hK K hHeld
      try simp only [Act.put]
      refine wpAnyH_done (by kernel_rfl) ?_ _
      refine NoPanic.normal ?_
      clear HR2a HR3a HS2a HS3a HSDa HFOa HXDa HODa HBDa
      cases bB with
      | true =>
        cases bM with
        | false =>
          go_upto_region 6 with fail
          refine wp_region_noPanic ?_
          refine wp_region_held_drew (S := Sk p b N s) (by kernel_rfl) (Sk.of (HO3a.out.up (Below.drew (Below.refl _ _))) HX3a.out) (fun hHeld => ?_)
          obtain ⟨WDb, hWD⟩ : ∃ WD, W3a.drew = WD := ⟨_, rfl⟩
          have HODb : Hid (Ol B WDb p b (n + 1) (fput f o va) (S ++ [(o, s)]) c) := by rw [← hWD]; exact HO3a.out.up (Below.drew (Below.refl _ _))
          have HXDb : Hid (Bs N s WDb) := by rw [← hWD]; exact HX3a.out
          have HBDb : Hid (Below B w WDb ∧ Fk w WDb) := by rw [← hWD]; exact ⟨Below.drew HB3a.out.1, HB3a.out.2.trans (Fk.of_below (Below.drew (Below.refl _ _)))⟩
          rw [hWD] at hHeld ⊢
          clear hWD
          refine wpAnyH_take (i := 0) (oi := { dst := _, op := _, type := _, pos := _, after := _, guard := _ }) (v := ?_) rfl (by kernel_rfl) (by kernel_rfl) (by kernel_rfl) (fun _ _ _ h => h) (Or.inl ⟨by rfl, ?_⟩) (by assumption) ?_
          rotate_left
          · intro W hSw
            (try dsimp only at hSw)
            obtain ⟨z0, z1, z2, z3, z4, z5, z6, z7⟩ := hSw
            go_simp
            (try with_reducible rfl)
          try simp only [Act.put, List.setIfInBounds_toArray, List.set_cons_zero, List.set_cons_succ]
          refine wpAnyH_take (i := 1) (oi := { dst := _, op := _, type := _, pos := _, after := _, guard := _ }) (v := ?_) rfl (by kernel_rfl) (by kernel_rfl) (by kernel_rfl) (fun _ _ _ h => h) (Or.inl ⟨by rfl, ?_⟩) (by assumption) ?_
          rotate_left
          · intro W hSw
            (try dsimp only at hSw)
            obtain ⟨z0, z1, z2, z3, z4, z5, z6, z7⟩ := hSw
            go_simp
            (try with_reducible rfl)
          try simp only [Act.put, List.setIfInBounds_toArray, List.set_cons_zero, List.set_cons_succ]
          refine wpAnyH_take (i := 2) (oi := { dst := _, op := _, type := _, pos := _, after := _, guard := _ }) (v := ?_) rfl (by kernel_rfl) (by kernel_rfl) (by kernel_rfl) (fun _ _ _ h => h) (Or.inl ⟨by rfl, ?_⟩) (by assumption) ?_
          rotate_left
          · intro W hSw
            (try dsimp only at hSw)
            obtain ⟨z0, z1, z2, z3, z4, z5, z6, z7⟩ := hSw
            go_simp
            (try with_reducible rfl)
          try simp only [Act.put, List.setIfInBounds_toArray, List.set_cons_zero, List.set_cons_succ]
          refine wpAnyH_take (i := 3) (oi := { dst := _, op := _, type := _, pos := _, after := _, guard := _ }) (v := ?_) rfl (by kernel_rfl) (by kernel_rfl) (by kernel_rfl) (fun _ _ _ h => h) (Or.inl ⟨by rfl, ?_⟩) (by assumption) ?_
          rotate_left
          · intro W hSw
            (try dsimp only at hSw)
            obtain ⟨z0, z1, z2, z3, z4, z5, z6, z7⟩ := hSw
            go_simp
            (try with_reducible rfl)
          try simp only [Act.put, List.setIfInBounds_toArray, List.set_cons_zero, List.set_cons_succ]
          refine wpAnyH_take (i := 4) (oi := { dst := _, op := _, type := _, pos := _, after := _, guard := _ }) (v := ?_) rfl (by kernel_rfl) (by kernel_rfl) (by kernel_rfl) (fun _ _ _ h => h) (Or.inl ⟨by rfl, ?_⟩) (by assumption) ?_
          rotate_left
          · intro W hSw
            (try dsimp only at hSw)
            obtain ⟨z0, z1, z2, z3, z4, z5, z6, z7⟩ := hSw
            go_simp
            (try with_reducible rfl)
          try simp only [Act.put, List.setIfInBounds_toArray, List.set_cons_zero, List.set_cons_succ]
          refine wpAnyH_take (i := 5) (oi := { dst := _, op := _, type := _, pos := _, after := _, guard := _ }) (v := ?_) rfl (by kernel_rfl) (by kernel_rfl) (by kernel_rfl) (fun _ _ _ h => h) (Or.inl ⟨by rfl, ?_⟩) (by assumption) ?_
          rotate_left
          · intro W hSw
            (try dsimp only at hSw)
            obtain ⟨z0, z1, z2, z3, z4, z5, z6, z7⟩ := hSw
            go_simp
            (try with_reducible rfl)
          try simp only [Act.put, List.setIfInBounds_toArray, List.set_cons_zero, List.set_cons_succ]
          refine wpAnyH_take (i := 6) (oi := { dst := _, op := _, type := _, pos := _, after := _, guard := _ }) (v := ?_) rfl (by kernel_rfl) (by kernel_rfl) (by kernel_rfl) (fun _ _ _ h => h) (Or.inl ⟨by rfl, ?_⟩) (by assumption) ?_
          rotate_left
          · intro W hSw
            (try dsimp only at hSw)
            obtain ⟨z0, z1, z2, z3, z4, z5, z6, z7⟩ := hSw
            go_simp
            (try with_reducible rfl)
          try simp only [Act.put, List.setIfInBounds_toArray, List.set_cons_zero, List.set_cons_succ]
          refine wpAnyH_take (i := 7) (oi := { dst := _, op := _, type := _, pos := _, after := _, guard := _ }) (v := ?_) rfl (by kernel_rfl) (by kernel_rfl) (by kernel_rfl) (fun _ _ _ h => h) (Or.inl ⟨by rfl, ?_⟩) (by assumption) ?_
          rotate_left
          · intro W hSw
            (try dsimp only at hSw)
            obtain ⟨z0, z1, z2, z3, z4, z5, z6, z7⟩ := hSw
            go_simp
            (try with_reducible rfl)
          try simp only [Act.put, List.setIfInBounds_toArray, List.set_cons_zero, List.set_cons_succ]
          refine wpAnyH_take (i := 8) (oi := { dst := _, op := _, type := _, pos := _, after := _, guard := _ }) (v := ?_) rfl (by kernel_rfl) (by kernel_rfl) (by kernel_rfl) (fun _ _ _ h => h) (Or.inl ⟨by rfl, ?_⟩) (by assumption) ?_
          rotate_left
          · intro W hSw
            (try dsimp only at hSw)
            obtain ⟨z0, z1, z2, z3, z4, z5, z6, z7⟩ := hSw
            go_simp
            (try with_reducible rfl)
          try simp only [Act.put, List.setIfInBounds_toArray, List.set_cons_zero, List.set_cons_succ]
          refine wpAnyH_take (i := 9) (oi := { dst := _, op := _, type := _, pos := _, after := _, guard := _ }) (v := ?_) rfl (by kernel_rfl) (by kernel_rfl) (by kernel_rfl) (fun _ _ _ h => h) (Or.inl ⟨by rfl, ?_⟩) (by assumption) ?_
          rotate_left
          · intro W hSw
            (try dsimp only at hSw)
            obtain ⟨z0, z1, z2, z3, z4, z5, z6, z7⟩ := hSw
            go_simp
            (try with_reducible rfl)
          try simp only [Act.put, List.setIfInBounds_toArray, List.set_cons_zero, List.set_cons_succ]
          refine wpAnyH_take (i := 11) (oi := { dst := _, op := _, type := _, pos := _, after := _, guard := _ }) (v := ?_) rfl (by kernel_rfl) (by kernel_rfl) (by kernel_rfl) (fun _ _ _ h => h) (Or.inl ⟨by rfl, ?_⟩) (by assumption) ?_
          rotate_left
          · intro W hSw
            (try dsimp only at hSw)
            obtain ⟨z0, z1, z2, z3, z4, z5, z6, z7⟩ := hSw
            go_simp
            (try with_reducible rfl)
          try simp only [Act.put, List.setIfInBounds_toArray, List.set_cons_zero, List.set_cons_succ]
          obtain ⟨vb, W2b, W3b, r2, r3, hO3, hB3, q2, q3, q4, q5⟩ := HODb.out.add s HW.out.2 (by have := HN.out; omega) (by rw [lst_app, lst_one, if_neg (by intro e; rw [e] at yM; simp at yM), List.append_nil]; exact HL.out _) 66
          have HR2b : Hid _ := r2
          have HR3b : Hid _ := r3
          have HO3b : Hid (Ol B W3b p b (n + 1 + 1) (fput (fput f o va) M vb) ((S ++ [(o, s)]) ++ [(M, s)]) c) := hO3
          have HFOb : Hid (((fput f o va) M).ownBlock ≠ some p ∧ ((fput f o va) M).ownBlock ≠ some N ∧ p ≠ b ∧ N ≠ b) := ⟨tag_ne_blk (HODb.out.r M HW.out.2) HODb.out.h (by decide), HQ3a.out M HW.out.2, fun e => (by obtain ⟨es, cl, hm⟩ := HODb.out.m.heap; have h8 := HODb.out.h; rw [e, hm] at h8; cases h8), fun e => (by obtain ⟨es, cl, hm⟩ := HODb.out.m.heap; have h8 := HXDb.out; unfold Bs at h8; rw [e, hm] at h8; cases h8)⟩
          have HS2b : Hid (Sk p b N s WDb → Sk p b N s W2b) := fun h => h.same (q2 p (lt_of_heap HODb.out.h) HFOb.out.1) (q2 N (lt_of_heap HXDb.out) HFOb.out.2.1)
          have HS3b : Hid (Sk p b N s WDb → Sk p b N s W3b) := fun h => h.same (q3 p (lt_of_heap HODb.out.h) HFOb.out.2.2.1 HFOb.out.1) (q3 N (lt_of_heap HXDb.out) HFOb.out.2.2.2 HFOb.out.2.1)
          have HX3b : Hid (Bs N s W3b) := (q3 N (lt_of_heap HXDb.out) HFOb.out.2.2.2 HFOb.out.2.1).trans HXDb.out
          have HQ3b : Hid (∀ k, wfi k → (fput (fput f o va) M vb k).ownBlock ≠ some N) := q4 N (lt_of_heap HXDb.out) HQ3a.out
          have HB3b : Hid (Below B w W3b ∧ Fk w W3b) := ⟨HBDb.out.1.trans hB3, HBDb.out.2.trans q5⟩
          have HSDb : Hid (Sk p b N s WDb) := hHeld
          clear r2 r3 hO3 hB3 q2 q3 q4 q5
          refine wpAnyH_ready (rs := [10, 12]) (by kernel_rfl) (by simp) ?_
          refine AllReadyH.cons (o := { dst := _, op := _, type := _, pos := _, after := _, guard := _ }) rfl (fun K hK => ?_) (AllReadyH.cons (o := { dst := _, op := _, type := _, pos := _, after := _, guard := _ }) rfl (fun K hK => ?_) AllReadyH.nil)
          · refine step_look rfl _ _ 57 rfl _ _ _ rfl rfl (HODb.out.m.look HW.out.2) ?_
            refine hK.out _ _ ?_ (fun hHeld => ?_)
            · exact HSDb.out
            clear hK K hHeld
            try simp only [Act.put, List.setIfInBounds_toArray, List.set_cons_zero, List.set_cons_succ]
            refine wpAnyH_ready (rs := [12]) (by kernel_rfl) (by simp) ?_
            refine AllReadyH.cons (o := { dst := _, op := _, type := _, pos := _, after := _, guard := _ }) rfl (fun K hK => ?_) AllReadyH.nil
            go_simp
            refine hK.out _ _ ?_ (fun hHeld => ?_)
            · exact HSDb.out.up (bel_up _ _)
            clear hK K hHeld
            try simp only [Act.put, List.setIfInBounds_toArray, List.set_cons_zero, List.set_cons_succ]
            refine wpAnyH_ready (rs := [13]) (by kernel_rfl) (by simp) ?_
            refine AllReadyH.cons (o := { dst := _, op := _, type := _, pos := _, after := _, guard := _ }) rfl (fun K hK => ?_) AllReadyH.nil
            refine step_append rfl _ _ 66 rfl _ _ vb W2b rfl rfl HR2b.out ?_
            refine hK.out _ _ ?_ (fun hHeld => ?_)
            · exact HS2b.out HSDb.out
            clear hK K hHeld
            try simp only [Act.put, List.setIfInBounds_toArray, List.set_cons_zero, List.set_cons_succ]
            refine wpAnyH_ready (rs := [14]) (by kernel_rfl) (by simp) ?_
            refine AllReadyH.cons (o := { dst := _, op := _, type := _, pos := _, after := _, guard := _ }) rfl (fun K hK => ?_) AllReadyH.nil
            refine step_update rfl _ _ _ 57 rfl _ _ _ W3b rfl rfl rfl HR3b.out ?_
            refine hK.out _ _ ?_ (fun hHeld => ?_)
            · exact HS3b.out HSDb.out
            clear hK K hHeld
            try simp only [Act.put]
            refine wpAnyH_done (by kernel_rfl) ?_ _
            refine NoPanic.normal ?_
            clear HR2b HR3b HS2b HS3b HSDb HFOb HXDb HODb HBDb
            have p1 := rcell HO3b.out.h 1 _ rfl
            have f1 := Lib.frozen_of_heap HO3b.out.h 1
            go_wp2_with fail
            refine bodyPost_end (v := .tuple #[]) (by simp [results, Try.results20, go_sem]) rfl ?_
            refine ⟨rfl, n + 1 + 1, fput (fput f o va) M vb, ?_, ?_, HB3b.out.1.trans (HO3b.out.cntk _).2, HB3b.out.2.trans (HO3b.out.cntk _).1⟩
            · omega
            · have h9 := HO3b.out.cnt (c + 1)
              rw [HK1.out, HK2.out, HC1.out]
              simpa using h9
          · go_simp
            refine hK.out _ _ ?_ (fun hHeld => ?_)
            · exact HSDb.out.up (bel_up _ _)
            clear hK K hHeld
            try simp only [Act.put, List.setIfInBounds_toArray, List.set_cons_zero, List.set_cons_succ]
            refine wpAnyH_ready (rs := [10]) (by kernel_rfl) (by simp) ?_
            refine AllReadyH.cons (o := { dst := _, op := _, type := _, pos := _, after := _, guard := _ }) rfl (fun K hK => ?_) AllReadyH.nil
            refine step_look rfl _ _ 57 rfl _ _ _ rfl rfl ((HODb.out.up (bel_up _ _)).m.look HW.out.2) ?_
            refine hK.out _ _ ?_ (fun hHeld => ?_)
            · exact HSDb.out.up (bel_up _ _)
            clear hK K hHeld
            try simp only [Act.put, List.setIfInBounds_toArray, List.set_cons_zero, List.set_cons_succ]
            refine wpAnyH_ready (rs := [13]) (by kernel_rfl) (by simp) ?_
            refine AllReadyH.cons (o := { dst := _, op := _, type := _, pos := _, after := _, guard := _ }) rfl (fun K hK => ?_) AllReadyH.nil
            refine step_append rfl _ _ 66 rfl _ _ vb W2b rfl rfl HR2b.out ?_
            refine hK.out _ _ ?_ (fun hHeld => ?_)
            · exact HS2b.out HSDb.out
            clear hK K hHeld
            try simp only [Act.put, List.setIfInBounds_toArray, List.set_cons_zero, List.set_cons_succ]
            refine wpAnyH_ready (rs := [14]) (by kernel_rfl) (by simp) ?_
            refine AllReadyH.cons (o := { dst := _, op := _, type := _, pos := _, after := _, guard := _ }) rfl (fun K hK => ?_) AllReadyH.nil
            refine step_update rfl _ _ _ 57 rfl _ _ _ W3b rfl rfl rfl HR3b.out ?_
            refine hK.out _ _ ?_ (fun hHeld => ?_)
            · exact HS3b.out HSDb.out
            clear hK K hHeld
            try simp only [Act.put]
            refine wpAnyH_done (by kernel_rfl) ?_ _
            refine NoPanic.normal ?_
            clear HR2b HR3b HS2b HS3b HSDb HFOb HXDb HODb HBDb
            have p1 := rcell HO3b.out.h 1 _ rfl
            have f1 := Lib.frozen_of_heap HO3b.out.h 1
            go_wp2_with fail
            refine bodyPost_end (v := .tuple #[]) (by simp [results, Try.results20, go_sem]) rfl ?_
            refine ⟨rfl, n + 1 + 1, fput (fput f o va) M vb, ?_, ?_, HB3b.out.1.trans (HO3b.out.cntk _).2, HB3b.out.2.trans (HO3b.out.cntk _).1⟩
            · omega
            · have h9 := HO3b.out.cnt (c + 1)
              rw [HK1.out, HK2.out, HC1.out]
              simpa using h9
        | true =>
          have p1 := rcell HO3a.out.h 1 _ rfl
          have f1 := Lib.frozen_of_heap HO3a.out.h 1
          go_wp2_with fail
          refine bodyPost_end (v := .tuple #[]) (by simp [results, Try.results20, go_sem]) rfl ?_
          refine ⟨rfl, n + 1, fput f o va, ?_, ?_, HB3a.out.1.trans (HO3a.out.cntk _).2, HB3a.out.2.trans (HO3a.out.cntk _).1⟩
          · omega
          · have h9 := HO3a.out.cnt (c + 1)
            rw [HK1.out, HK2.out, HC1.out]
            simpa using h9
      | false =>
        have p1 := rcell HO3a.out.h 1 _ rfl
        have f1 := Lib.frozen_of_heap HO3a.out.h 1
        go_wp2_with fail
        refine bodyPost_end (v := .tuple #[]) (by simp [results, Try.results20, go_sem]) rfl ?_
        refine ⟨rfl, n + 1, fput f o va, ?_, ?_, HB3a.out.1.trans (HO3a.out.cntk _).2, HB3a.out.2.trans (HO3a.out.cntk _).1⟩
        · omega
        · have h9 := HO3a.out.cnt (c + 1)
          rw [HK1.out, HK2.out, HC1.out]
          simpa using h9
  | false =>
    cases bB with
    | true =>
      go_upto_region 6 with fail
      refine wp_region_noPanic ?_
      refine wp_region_held_drew (S := Sk p b N s) (by kernel_rfl) (Sk.of (HOD.out.up (Below.drew (Below.refl _ _))) HXD.out) (fun hHeld => ?_)
      obtain ⟨WDb, hWD⟩ : ∃ WD, W0.drew = WD := ⟨_, rfl⟩
      have HODb : Hid (Ol B WDb p b (n) (f) (S) c) := by rw [← hWD]; exact HOD.out.up (Below.drew (Below.refl _ _))
      have HXDb : Hid (Bs N s WDb) := by rw [← hWD]; exact HXD.out
      have HBDb : Hid (Below B w WDb ∧ Fk w WDb) := by rw [← hWD]; exact ⟨Below.drew HBD.out.1, HBD.out.2.trans (Fk.of_below (Below.drew (Below.refl _ _)))⟩
      rw [hWD] at hHeld ⊢
      clear hWD
      refine wpAnyH_take (i := 0) (oi := { dst := _, op := _, type := _, pos := _, after := _, guard := _ }) (v := ?_) rfl (by kernel_rfl) (by kernel_rfl) (by kernel_rfl) (fun _ _ _ h => h) (Or.inl ⟨by rfl, ?_⟩) (by assumption) ?_
      rotate_left
      · intro W hSw
        (try dsimp only at hSw)
        obtain ⟨z0, z1, z2, z3, z4, z5, z6, z7⟩ := hSw
        go_simp
        (try with_reducible rfl)
      try simp only [Act.put, List.setIfInBounds_toArray, List.set_cons_zero, List.set_cons_succ]
      refine wpAnyH_take (i := 1) (oi := { dst := _, op := _, type := _, pos := _, after := _, guard := _ }) (v := ?_) rfl (by kernel_rfl) (by kernel_rfl) (by kernel_rfl) (fun _ _ _ h => h) (Or.inl ⟨by rfl, ?_⟩) (by assumption) ?_
      rotate_left
      · intro W hSw
        (try dsimp only at hSw)
        obtain ⟨z0, z1, z2, z3, z4, z5, z6, z7⟩ := hSw
        go_simp
        (try with_reducible rfl)
      try simp only [Act.put, List.setIfInBounds_toArray, List.set_cons_zero, List.set_cons_succ]
      refine wpAnyH_take (i := 2) (oi := { dst := _, op := _, type := _, pos := _, after := _, guard := _ }) (v := ?_) rfl (by kernel_rfl) (by kernel_rfl) (by kernel_rfl) (fun _ _ _ h => h) (Or.inl ⟨by rfl, ?_⟩) (by assumption) ?_
      rotate_left
      · intro W hSw
        (try dsimp only at hSw)
        obtain ⟨z0, z1, z2, z3, z4, z5, z6, z7⟩ := hSw
        go_simp
        (try with_reducible rfl)
      try simp only [Act.put, List.setIfInBounds_toArray, List.set_cons_zero, List.set_cons_succ]
      refine wpAnyH_take (i := 3) (oi := { dst := _, op := _, type := _, pos := _, after := _, guard := _ }) (v := ?_) rfl (by kernel_rfl) (by kernel_rfl) (by kernel_rfl) (fun _ _ _ h => h) (Or.inl ⟨by rfl, ?_⟩) (by assumption) ?_
      rotate_left
      · intro W hSw
        (try dsimp only at hSw)
        obtain ⟨z0, z1, z2, z3, z4, z5, z6, z7⟩ := hSw
        go_simp
        (try with_reducible rfl)
      try simp only [Act.put, List.setIfInBounds_toArray, List.set_cons_zero, List.set_cons_succ]
      refine wpAnyH_take (i := 4) (oi := { dst := _, op := _, type := _, pos := _, after := _, guard := _ }) (v := ?_) rfl (by kernel_rfl) (by kernel_rfl) (by kernel_rfl) (fun _ _ _ h => h) (Or.inl ⟨by rfl, ?_⟩) (by assumption) ?_
      rotate_left
      · intro W hSw
        (try dsimp only at hSw)
        obtain ⟨z0, z1, z2, z3, z4, z5, z6, z7⟩ := hSw
        go_simp
        (try with_reducible rfl)
      try simp only [Act.put, List.setIfInBounds_toArray, List.set_cons_zero, List.set_cons_succ]
      refine wpAnyH_take (i := 5) (oi := { dst := _, op := _, type := _, pos := _, after := _, guard := _ }) (v := ?_) rfl (by kernel_rfl) (by kernel_rfl) (by kernel_rfl) (fun _ _ _ h => h) (Or.inl ⟨by rfl, ?_⟩) (by assumption) ?_
      rotate_left
      · intro W hSw
        (try dsimp only at hSw)
        obtain ⟨z0, z1, z2, z3, z4, z5, z6, z7⟩ := hSw
        go_simp
        (try with_reducible rfl)
      try simp only [Act.put, List.setIfInBounds_toArray, List.set_cons_zero, List.set_cons_succ]
      refine wpAnyH_take (i := 6) (oi := { dst := _, op := _, type := _, pos := _, after := _, guard := _ }) (v := ?_) rfl (by kernel_rfl) (by kernel_rfl) (by kernel_rfl) (fun _ _ _ h => h) (Or.inl ⟨by rfl, ?_⟩) (by assumption) ?_
      rotate_left
      · intro W hSw
        (try dsimp only at hSw)
        obtain ⟨z0, z1, z2, z3, z4, z5, z6, z7⟩ := hSw
        go_simp
        (try with_reducible rfl)
      try simp only [Act.put, List.setIfInBounds_toArray, List.set_cons_zero, List.set_cons_succ]
      refine wpAnyH_take (i := 7) (oi := { dst := _, op := _, type := _, pos := _, after := _, guard := _ }) (v := ?_) rfl (by kernel_rfl) (by kernel_rfl) (by kernel_rfl) (fun _ _ _ h => h) (Or.inl ⟨by rfl, ?_⟩) (by assumption) ?_
      rotate_left
      · intro W hSw
        (try dsimp only at hSw)
        obtain ⟨z0, z1, z2, z3, z4, z5, z6, z7⟩ := hSw
        go_simp
        (try with_reducible rfl)
      try simp only [Act.put, List.setIfInBounds_toArray, List.set_cons_zero, List.set_cons_succ]
      refine wpAnyH_take (i := 8) (oi := { dst := _, op := _, type := _, pos := _, after := _, guard := _ }) (v := ?_) rfl (by kernel_rfl) (by kernel_rfl) (by kernel_rfl) (fun _ _ _ h => h) (Or.inl ⟨by rfl, ?_⟩) (by assumption) ?_
      rotate_left
      · intro W hSw
        (try dsimp only at hSw)
        obtain ⟨z0, z1, z2, z3, z4, z5, z6, z7⟩ := hSw
        go_simp
        (try with_reducible rfl)
      try simp only [Act.put, List.setIfInBounds_toArray, List.set_cons_zero, List.set_cons_succ]
      refine wpAnyH_take (i := 9) (oi := { dst := _, op := _, type := _, pos := _, after := _, guard := _ }) (v := ?_) rfl (by kernel_rfl) (by kernel_rfl) (by kernel_rfl) (fun _ _ _ h => h) (Or.inl ⟨by rfl, ?_⟩) (by assumption) ?_
      rotate_left
      · intro W hSw
        (try dsimp only at hSw)
        obtain ⟨z0, z1, z2, z3, z4, z5, z6, z7⟩ := hSw
        go_simp
        (try with_reducible rfl)
      try simp only [Act.put, List.setIfInBounds_toArray, List.set_cons_zero, List.set_cons_succ]
      refine wpAnyH_take (i := 11) (oi := { dst := _, op := _, type := _, pos := _, after := _, guard := _ }) (v := ?_) rfl (by kernel_rfl) (by kernel_rfl) (by kernel_rfl) (fun _ _ _ h => h) (Or.inl ⟨by rfl, ?_⟩) (by assumption) ?_
      rotate_left
      · intro W hSw
        (try dsimp only at hSw)
        obtain ⟨z0, z1, z2, z3, z4, z5, z6, z7⟩ := hSw
        go_simp
        (try with_reducible rfl)
      try simp only [Act.put, List.setIfInBounds_toArray, List.set_cons_zero, List.set_cons_succ]
      obtain ⟨vb, W2b, W3b, r2, r3, hO3, hB3, q2, q3, q4, q5⟩ := HODb.out.add s HW.out.2 (by have := HN.out; omega) (HL.out _) 66
      have HR2b : Hid _ := r2
      have HR3b : Hid _ := r3
      have HO3b : Hid (Ol B W3b p b (n + 1) (fput (f) M vb) ((S) ++ [(M, s)]) c) := hO3
      have HFOb : Hid (((f) M).ownBlock ≠ some p ∧ ((f) M).ownBlock ≠ some N ∧ p ≠ b ∧ N ≠ b) := ⟨tag_ne_blk (HODb.out.r M HW.out.2) HODb.out.h (by decide), HQ.out M HW.out.2, fun e => (by obtain ⟨es, cl, hm⟩ := HODb.out.m.heap; have h8 := HODb.out.h; rw [e, hm] at h8; cases h8), fun e => (by obtain ⟨es, cl, hm⟩ := HODb.out.m.heap; have h8 := HXDb.out; unfold Bs at h8; rw [e, hm] at h8; cases h8)⟩
      have HS2b : Hid (Sk p b N s WDb → Sk p b N s W2b) := fun h => h.same (q2 p (lt_of_heap HODb.out.h) HFOb.out.1) (q2 N (lt_of_heap HXDb.out) HFOb.out.2.1)
      have HS3b : Hid (Sk p b N s WDb → Sk p b N s W3b) := fun h => h.same (q3 p (lt_of_heap HODb.out.h) HFOb.out.2.2.1 HFOb.out.1) (q3 N (lt_of_heap HXDb.out) HFOb.out.2.2.2 HFOb.out.2.1)
      have HX3b : Hid (Bs N s W3b) := (q3 N (lt_of_heap HXDb.out) HFOb.out.2.2.2 HFOb.out.2.1).trans HXDb.out
      have HQ3b : Hid (∀ k, wfi k → (fput (f) M vb k).ownBlock ≠ some N) := q4 N (lt_of_heap HXDb.out) HQ.out
      have HB3b : Hid (Below B w W3b ∧ Fk w W3b) := ⟨HBDb.out.1.trans hB3, HBDb.out.2.trans q5⟩
      have HSDb : Hid (Sk p b N s WDb) := hHeld
      clear r2 r3 hO3 hB3 q2 q3 q4 q5
      refine wpAnyH_ready (rs := [10, 12]) (by kernel_rfl) (by simp) ?_
      refine AllReadyH.cons (o := { dst := _, op := _, type := _, pos := _, after := _, guard := _ }) rfl (fun K hK => ?_) (AllReadyH.cons (o := { dst := _, op := _, type := _, pos := _, after := _, guard := _ }) rfl (fun K hK => ?_) AllReadyH.nil)
      · refine step_look rfl _ _ 57 rfl _ _ _ rfl rfl (HODb.out.m.look HW.out.2) ?_
        refine hK.out _ _ ?_ (fun hHeld => ?_)
        · exact HSDb.out
        clear hK K hHeld
        try simp only [Act.put, List.setIfInBounds_toArray, List.set_cons_zero, List.set_cons_succ]
        refine wpAnyH_ready (rs := [12]) (by kernel_rfl) (by simp) ?_
        refine AllReadyH.cons (o := { dst := _, op := _, type := _, pos := _, after := _, guard := _ }) rfl (fun K hK => ?_) AllReadyH.nil
        go_simp
        refine hK.out _ _ ?_ (fun hHeld => ?_)
        · exact HSDb.out.up (bel_up _ _)
        clear hK K hHeld
        try simp only [Act.put, List.setIfInBounds_toArray, List.set_cons_zero, List.set_cons_succ]
        refine wpAnyH_ready (rs := [13]) (by kernel_rfl) (by simp) ?_
        refine AllReadyH.cons (o := { dst := _, op := _, type := _, pos := _, after := _, guard := _ }) rfl (fun K hK => ?_) AllReadyH.nil
        refine step_append rfl _ _ 66 rfl _ _ vb W2b rfl rfl HR2b.out ?_
        refine hK.out _ _ ?_ (fun hHeld => ?_)
        · exact HS2b.out HSDb.out
        clear hK K hHeld
        try simp only [Act.put, List.setIfInBounds_toArray, List.set_cons_zero, List.set_cons_succ]
        refine wpAnyH_ready (rs := [14]) (by kernel_rfl) (by simp) ?_
        refine AllReadyH.cons (o := { dst := _, op := _, type := _, pos := _, after := _, guard := _ }) rfl (fun K hK => ?_) AllReadyH.nil
        refine step_update rfl _ _ _ 57 rfl _ _ _ W3b rfl rfl rfl HR3b.out ?_
        refine hK.out _ _ ?_ (fun hHeld => ?_)
        · exact HS3b.out HSDb.out
        clear hK K hHeld
        try simp only [Act.put]
        refine wpAnyH_done (by kernel_rfl) ?_ _
        refine NoPanic.normal ?_
        clear HR2b HR3b HS2b HS3b HSDb HFOb HXDb HODb HBDb
        have p1 := rcell HO3b.out.h 1 _ rfl
        have f1 := Lib.frozen_of_heap HO3b.out.h 1
        go_wp2_with fail
        refine bodyPost_end (v := .tuple #[]) (by simp [results, Try.results20, go_sem]) rfl ?_
        refine ⟨rfl, n + 1, fput f M vb, ?_, ?_, HB3b.out.1.trans (HO3b.out.cntk _).2, HB3b.out.2.trans (HO3b.out.cntk _).1⟩
        · omega
        · have h9 := HO3b.out.cnt (c + 1)
          rw [HK1.out, HK2.out, HC1.out]
          simpa using h9
      · go_simp
        refine hK.out _ _ ?_ (fun hHeld => ?_)
        · exact HSDb.out.up (bel_up _ _)
        clear hK K hHeld
        try simp only [Act.put, List.setIfInBounds_toArray, List.set_cons_zero, List.set_cons_succ]
        refine wpAnyH_ready (rs := [10]) (by kernel_rfl) (by simp) ?_
        refine AllReadyH.cons (o := { dst := _, op := _, type := _, pos := _, after := _, guard := _ }) rfl (fun K hK => ?_) AllReadyH.nil
        refine step_look rfl _ _ 57 rfl _ _ _ rfl rfl ((HODb.out.up (bel_up _ _)).m.look HW.out.2) ?_
        refine hK.out _ _ ?_ (fun hHeld => ?_)
        · exact HSDb.out.up (bel_up _ _)
        clear hK K hHeld
        try simp only [Act.put, List.setIfInBounds_toArray, List.set_cons_zero, List.set_cons_succ]
        refine wpAnyH_ready (rs := [13]) (by kernel_rfl) (by simp) ?_
        refine AllReadyH.cons (o := { dst := _, op := _, type := _, pos := _, after := _, guard := _ }) rfl (fun K hK => ?_) AllReadyH.nil
        refine step_append rfl _ _ 66 rfl _ _ vb W2b rfl rfl HR2b.out ?_
        refine hK.out _ _ ?_ (fun hHeld => ?_)
        · exact HS2b.out HSDb.out
        clear hK K hHeld
        try simp only [Act.put, List.setIfInBounds_toArray, List.set_cons_zero, List.set_cons_succ]
        refine wpAnyH_ready (rs := [14]) (by kernel_rfl) (by simp) ?_
        refine AllReadyH.cons (o := { dst := _, op := _, type := _, pos := _, after := _, guard := _ }) rfl (fun K hK => ?_) AllReadyH.nil
        refine step_update rfl _ _ _ 57 rfl _ _ _ W3b rfl rfl rfl HR3b.out ?_
        refine hK.out _ _ ?_ (fun hHeld => ?_)
        · exact HS3b.out HSDb.out
        clear hK K hHeld
        try simp only [Act.put]
        refine wpAnyH_done (by kernel_rfl) ?_ _
        refine NoPanic.normal ?_
        clear HR2b HR3b HS2b HS3b HSDb HFOb HXDb HODb HBDb
        have p1 := rcell HO3b.out.h 1 _ rfl
        have f1 := Lib.frozen_of_heap HO3b.out.h 1
        go_wp2_with fail
        refine bodyPost_end (v := .tuple #[]) (by simp [results, Try.results20, go_sem]) rfl ?_
        refine ⟨rfl, n + 1, fput f M vb, ?_, ?_, HB3b.out.1.trans (HO3b.out.cntk _).2, HB3b.out.2.trans (HO3b.out.cntk _).1⟩
        · omega
        · have h9 := HO3b.out.cnt (c + 1)
          rw [HK1.out, HK2.out, HC1.out]
          simpa using h9
    | false =>
      go_wp2_with fail
      refine bodyPost_end (v := .tuple #[]) (by simp [results, Try.results20, go_sem]) rfl ?_
      refine ⟨rfl, n, f, ?_, ?_, HBD.out.1, HBD.out.2⟩
      · omega
      · have h9 := HOD.out
        rw [HK1.out, HK2.out, HC1.out]
        simpa using h9
end Go.Proofs.Ytockmlaaefbfkaa
