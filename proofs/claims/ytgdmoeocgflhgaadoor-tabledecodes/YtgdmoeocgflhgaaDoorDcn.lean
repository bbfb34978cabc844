import Derived.Test.YtgdmoeocgflhgaaDoorDmc
namespace Go.Proofs.YtgdmoeocgflhgaaDoor
open Go.RowKit Go.Maps

theorem num_le {s : ByteArray} {lo hi p v q : Nat} (h : num s lo hi p = .ok (v, q)) (hp : p ≤ s.size) : q ≤ s.size ∧ lo ≤ v ∧ v ≤ hi ∧ v < 2 ^ 63 ∧ p < q := by
  unfold num at h
  cases hc : cr 0 0 (s.data.toList.drop p) with
  | none => rw [hc] at h; cases h
  | some y =>
    obtain ⟨v', z⟩ := y
    rw [hc] at h
    dsimp only at h
    by_cases hl : lo ≤ v' ∧ v' ≤ hi
    · rw [if_pos hl] at h
      cases h
      have := cr_bound _ 0 0 _ _ hc (by decide)
      rw [List.length_drop, ba_len] at this
      exact ⟨by omega, hl.1, hl.2, this.1, by omega⟩
    · rw [if_neg hl] at h; cases h
theorem num_err {s : ByteArray} {lo hi p b : Nat} (h : num s lo hi p = .error b) : b = p := by
  unfold num at h
  cases hc : cr 0 0 (s.data.toList.drop p) with
  | none => rw [hc] at h; cases h; rfl
  | some y =>
    obtain ⟨v', z⟩ := y
    rw [hc] at h
    dsimp only at h
    by_cases hl : lo ≤ v' ∧ v' ≤ hi
    · rw [if_pos hl] at h; cases h
    · rw [if_neg hl] at h; cases h; rfl
/-- What reading something answers: it, and the reader is behind it; or nothing, and an error that tells the place. -/
def Cr {α : Type} (r : Nat) (s : ByteArray) (sa : Addr) (val : α → Value) (zero : Value) (x : Except Nat (α × Nat)) (e : Ending) (w' : World) : Prop := match x with
  | .ok (v, q) => e = .returned (.tuple #[val v, .nilIface]) ∧ Rd w' r s q
  | .error b => ∃ ev q, e = .returned (.tuple #[zero, ev]) ∧ Er w' sa ev b ∧ Rd w' r s q ∧ q ≤ s.size
theorem Fr.set {W W' : World} {r k : Nat} {v : Value} (h : Fr W W' r) : Fr W (W'.setCell ⟨r, k, none⟩ v) r := h.trans grown_set
theorem Fr.lt {W W' : World} {r : Nat} (h : Fr W W' r) : W.heap.size ≤ W'.heap.size := h.size
theorem ba_drop (s : ByteArray) (p : Nat) (_hp : p ≤ s.size) : (s.extract p s.size).data.toList = s.data.toList.drop p := by
  simp [ByteArray.extract, ByteArray.copySlice]
  rw [List.take_of_length_le]
  rw [List.length_drop, ba_len]
  exact Nat.le_refl _
set_option maxRecDepth 100000 in
set_option maxHeartbeats 16000000 in
theorem count_any {r p lo hi : Nat} {s : ByteArray} {sa : Addr} (hs : s.size ≤ 140737488355328) (hp : p ≤ s.size) (hlo : lo ≤ 128) (hhi : hi ≤ 9223372036854775807) (w : World) (hr : Rd w r s p) (hn : Sn w sa) (h0 : r ≠ 0) :
    Calls Tryd.prog 30 #[.pointer (some ⟨r, 0, none⟩), .int .i64 (lo : Int), .int .i64 (hi : Int)] w fun e w' => Cr r s sa (fun v : Nat => .int .i64 (v : Int)) (.int .i64 0) (num s lo hi p) e w' ∧ Fr w w' r ∧ Sn w' sa := by
  have HS : Hid (s.size ≤ 140737488355328 ∧ p ≤ s.size) := ⟨hs, hp⟩
  have HR : Hid (Rd w r s p) := hr
  have HN : Hid (Sn w sa) := hn
  have HL : Hid (lo ≤ 128 ∧ hi ≤ 9223372036854775807 ∧ r ≠ 0) := ⟨hlo, hhi, h0⟩
  have e1 : (p : Int) ≤ (s.size : Int) := by omega
  have e2 : p ≤ s.size := hp
  have cl : IntKind.u64.wrap (lo : Int) = (lo : Int) := u64_wrap' _ (by omega)
  have ch : IntKind.u64.wrap (hi : Int) = (hi : Int) := u64_wrap' _ (by omega)
  clear hs hr hn hlo hhi h0
  obtain ⟨x, hx⟩ : ∃ x, s.extract p s.size = x := ⟨_, rfl⟩
  have HX : Hid (x.data.toList = s.data.toList.drop p ∧ x.size ≤ 140737488355328) := by
    refine ⟨by rw [← hx]; exact ba_drop s p e2, ?_⟩
    rw [← ba_len, ← hx, ba_drop s p e2, List.length_drop, ba_len]
    have := HS.out.1
    omega
  have HXE : Hid (s.extract p s.size = x) := hx
  go_enter Tryd.func30, Tryd.ntmps30
  go_upto_region 1 with fail
  obtain ⟨WD, hWD⟩ : ∃ WD, w.drew = WD := ⟨_, rfl⟩
  have BD : Hid (Below w.heap.size w WD) := by rw [← hWD]; exact Below.drew (Below.refl _ _)
  have RD : Hid (Rd WD r s p) := HR.out.up BD.out
  have ND : Hid (Sn WD sa) := HN.out.up BD.out
  have HFC : Hid (Calls Tryd.prog 35 #[.string x] WD fun e w' => e = .returned (fcV sa (cr 0 0 (s.data.toList.drop p))) ∧ Below WD.heap.size WD w') := by
    have h9 := firstCount_any x HX.out.2 sa WD ND.out
    rw [HX.out.1] at h9
    exact h9
  refine wp_region_noPanic ?_
  refine wp_region_held_drew (S := fun W => W.cell? ⟨r, 0, none⟩ = some (.string s) ∧ W.cell? ⟨r, 1, none⟩ = some (.int .i64 (p : Int))) (by kernel_rfl) (by rw [hWD]; exact ⟨rcell RD.out 0 _ rfl, rcell RD.out 1 _ rfl⟩) (fun hHeld => ?_)
  rw [hWD] at hHeld ⊢
  clear hWD
  obtain ⟨C, hC⟩ : ∃ C, cr 0 0 (s.data.toList.drop p) = C := ⟨_, rfl⟩
  have HC : Hid (cr 0 0 (s.data.toList.drop p) = C) := hC
  rw [hC] at HFC
  clear hC
  cases C with
  | none =>
    refine wpAnyH_take (i := 0) (oi := { dst := _, op := _, type := _, pos := _, after := _, guard := _ }) (v := ?_) rfl (by kernel_rfl) (by kernel_rfl) (by kernel_rfl) (fun _ _ _ h => h) (Or.inl ⟨by rfl, ?_⟩) (by assumption) ?_
    rotate_left
    · intro W hSw
      (try dsimp only at hSw)
      go_simp
      (try with_reducible rfl)
    try simp only [Act.put, List.setIfInBounds_toArray, List.set_cons_zero, List.set_cons_succ]
    refine wpAnyH_take (i := 1) (oi := { dst := _, op := _, type := _, pos := _, after := _, guard := _ }) (v := ?_) rfl (by kernel_rfl) (by kernel_rfl) (by kernel_rfl) (fun _ _ _ h => h) (Or.inl ⟨by rfl, ?_⟩) (by assumption) ?_
    rotate_left
    · intro W hSw
      (try dsimp only at hSw)
      go_simp
      (try with_reducible rfl)
    try simp only [Act.put, List.setIfInBounds_toArray, List.set_cons_zero, List.set_cons_succ]
    refine wpAnyH_take (i := 2) (oi := { dst := _, op := _, type := _, pos := _, after := _, guard := _ }) (v := ?_) rfl (by kernel_rfl) (by kernel_rfl) (by kernel_rfl) (fun _ _ _ h => h) (Or.inl ⟨by rfl, ?_⟩) (by assumption) ?_
    rotate_left
    · intro W hSw
      (try dsimp only at hSw)
      go_simp
      (try with_reducible rfl)
    try simp only [Act.put, List.setIfInBounds_toArray, List.set_cons_zero, List.set_cons_succ]
    refine wpAnyH_take (i := 3) (oi := { dst := _, op := _, type := _, pos := _, after := _, guard := _ }) (v := ?_) rfl (by kernel_rfl) (by kernel_rfl) (by kernel_rfl) (fun _ _ _ h => h) (Or.inl ⟨by rfl, ?_⟩) (by assumption) ?_
    rotate_left
    · intro W hSw
      (try dsimp only at hSw)
      go_simp
      (try with_reducible rfl)
    try simp only [Act.put, List.setIfInBounds_toArray, List.set_cons_zero, List.set_cons_succ]
    refine wpAnyH_take (i := 4) (oi := { dst := _, op := _, type := _, pos := _, after := _, guard := _ }) (v := ?_) rfl (by kernel_rfl) (by kernel_rfl) (by kernel_rfl) (fun _ _ _ h => h) (Or.inl ⟨by rfl, ?_⟩) (by assumption) ?_
    rotate_left
    · intro W hSw
      (try dsimp only at hSw)
      go_simp
      (try with_reducible rfl)
    try simp only [Act.put, List.setIfInBounds_toArray, List.set_cons_zero, List.set_cons_succ]
    refine wpAnyH_take (i := 5) (oi := { dst := _, op := _, type := _, pos := _, after := _, guard := _ }) (v := ?_) rfl (by kernel_rfl) (by kernel_rfl) (by kernel_rfl) (fun _ _ _ h => h) (Or.inl ⟨by rfl, ?_⟩) (by assumption) ?_
    rotate_left
    · intro W hSw
      (try dsimp only at hSw)
      go_simp
      (try with_reducible rfl)
    try simp only [Act.put, List.setIfInBounds_toArray, List.set_cons_zero, List.set_cons_succ]
    refine wpAnyH_take (i := 6) (oi := { dst := _, op := _, type := _, pos := _, after := _, guard := _ }) (v := ?_) rfl (by kernel_rfl) (by kernel_rfl) (by kernel_rfl) (fun _ _ _ h => h) (Or.inl ⟨by rfl, ?_⟩) (by assumption) ?_
    rotate_left
    · intro W hSw
      (try dsimp only at hSw)
      go_simp
      (try with_reducible rfl)
    try simp only [Act.put, List.setIfInBounds_toArray, List.set_cons_zero, List.set_cons_succ]
    refine wpAnyH_take (i := 7) (oi := { dst := _, op := _, type := _, pos := _, after := _, guard := _ }) (v := ?_) rfl (by kernel_rfl) (by kernel_rfl) (by kernel_rfl) (fun _ _ _ h => h) (Or.inl ⟨by rfl, ?_⟩) (by assumption) ?_
    rotate_left
    · intro W hSw
      (try dsimp only at hSw)
      go_simp
      (try with_reducible rfl)
    try simp only [Act.put, List.setIfInBounds_toArray, List.set_cons_zero, List.set_cons_succ]
    refine wpAnyH_take (i := 8) (oi := { dst := _, op := _, type := _, pos := _, after := _, guard := _ }) (v := ?_) rfl (by kernel_rfl) (by kernel_rfl) (by kernel_rfl) (fun _ _ _ h => h) (Or.inl ⟨by rfl, ?_⟩) (by assumption) ?_
    rotate_left
    · intro W hSw
      (try dsimp only at hSw)
      go_simp
      (try with_reducible rfl)
    try simp only [Act.put, List.setIfInBounds_toArray, List.set_cons_zero, List.set_cons_succ]
    refine wpAnyH_ready (rs := [9]) (by kernel_rfl) (by simp) ?_
    refine AllReadyH.cons (o := { dst := _, op := _, type := _, pos := _, after := _, guard := _ }) rfl (fun K hK => ?_) AllReadyH.nil
    go_simp
    go_at_call 35
    refine Calls.mono HFC.out ?_
    rintro e W2 ⟨rfl, hb2⟩
    have B2 : Hid (Below WD.heap.size WD W2) := hb2
    clear hb2
    simp only [fcV]
    refine hK.out _ _ ?_ (fun hHeld => ?_)
    · exact ⟨below_cell B2.out (rcell RD.out 0 _ rfl), below_cell B2.out (rcell RD.out 1 _ rfl)⟩
    clear hK K
    try simp only [Act.put, List.setIfInBounds_toArray, List.set_cons_zero, List.set_cons_succ]
    refine wpAnyH_take (i := 10) (oi := { dst := _, op := _, type := _, pos := _, after := _, guard := _ }) (v := ?_) rfl (by kernel_rfl) (by kernel_rfl) (by kernel_rfl) (fun _ _ _ h => h) (Or.inl ⟨by rfl, ?_⟩) (by assumption) ?_
    rotate_left
    · intro W hSw
      (try dsimp only at hSw)
      go_simp
      (try with_reducible rfl)
    try simp only [Act.put, List.setIfInBounds_toArray, List.set_cons_zero, List.set_cons_succ]
    refine wpAnyH_take (i := 11) (oi := { dst := _, op := _, type := _, pos := _, after := _, guard := _ }) (v := ?_) rfl (by kernel_rfl) (by kernel_rfl) (by kernel_rfl) (fun _ _ _ h => h) (Or.inl ⟨by rfl, ?_⟩) (by assumption) ?_
    rotate_left
    · intro W hSw
      (try dsimp only at hSw)
      go_simp
      (try with_reducible rfl)
    try simp only [Act.put, List.setIfInBounds_toArray, List.set_cons_zero, List.set_cons_succ]
    refine wpAnyH_take (i := 12) (oi := { dst := _, op := _, type := _, pos := _, after := _, guard := _ }) (v := ?_) rfl (by kernel_rfl) (by kernel_rfl) (by kernel_rfl) (fun _ _ _ h => h) (Or.inl ⟨by rfl, ?_⟩) (by assumption) ?_
    rotate_left
    · intro W hSw
      (try dsimp only at hSw)
      go_simp
      (try with_reducible rfl)
    try simp only [Act.put, List.setIfInBounds_toArray, List.set_cons_zero, List.set_cons_succ]
    refine wpAnyH_take (i := 13) (oi := { dst := _, op := _, type := _, pos := _, after := _, guard := _ }) (v := ?_) rfl (by kernel_rfl) (by kernel_rfl) (by kernel_rfl) (fun _ _ _ h => h) (Or.inl ⟨by rfl, ?_⟩) (by assumption) ?_
    rotate_left
    · intro W hSw
      (try dsimp only at hSw)
      go_simp
      (try with_reducible rfl)
    try simp only [Act.put, List.setIfInBounds_toArray, List.set_cons_zero, List.set_cons_succ]
    refine wpAnyH_take (i := 14) (oi := { dst := _, op := _, type := _, pos := _, after := _, guard := _ }) (v := ?_) rfl (by kernel_rfl) (by kernel_rfl) (by kernel_rfl) (fun _ _ _ h => h) (Or.inl ⟨by rfl, ?_⟩) (by assumption) ?_
    rotate_left
    · intro W hSw
      (try dsimp only at hSw)
      go_simp
      (try with_reducible rfl)
    try simp only [Act.put, List.setIfInBounds_toArray, List.set_cons_zero, List.set_cons_succ]
    refine wpAnyH_take (i := 15) (oi := { dst := _, op := _, type := _, pos := _, after := _, guard := _ }) (v := ?_) rfl (by kernel_rfl) (by kernel_rfl) (by kernel_rfl) (fun _ _ _ h => h) (Or.inl ⟨by rfl, ?_⟩) (by assumption) ?_
    rotate_left
    · intro W hSw
      (try dsimp only at hSw)
      go_simp
      (try with_reducible rfl)
    try simp only [Act.put, List.setIfInBounds_toArray, List.set_cons_zero, List.set_cons_succ]
    refine wpAnyH_take (i := 16) (oi := { dst := _, op := _, type := _, pos := _, after := _, guard := _ }) (v := ?_) rfl (by kernel_rfl) (by kernel_rfl) (by kernel_rfl) (fun _ _ _ h => h) (Or.inl ⟨by rfl, ?_⟩) (by assumption) ?_
    rotate_left
    · intro W hSw
      (try dsimp only at hSw)
      go_simp
      (try with_reducible rfl)
    try simp only [Act.put, List.setIfInBounds_toArray, List.set_cons_zero, List.set_cons_succ]
    refine wpAnyH_done (by kernel_rfl) ?_ _
    refine NoPanic.normal ?_
    clear hHeld
    have HNU : Hid (num s lo hi p = .error p) := num_no HC.out
    have R2 : Hid (Rd W2 r s p) := RD.out.up B2.out
    have BW : Hid (Below w.heap.size w W2) := below_trans BD.out B2.out
    go_upto_region 3 with fail
    obtain ⟨WE, hWE⟩ : ∃ WE, W2.drew = WE := ⟨_, rfl⟩
    have BE : Hid (Below W2.heap.size W2 WE) := by rw [← hWE]; exact Below.drew (Below.refl _ _)
    have RE : Hid (Rd WE r s p) := R2.out.up BE.out
    have RF : Hid (Rd (WE.alloc (.cells #[.int .i64 (p : Int), .iface 111 (.pointer (some sa))] 43)) r s p) := RE.out.up (bel_up _ _)
    refine wp_region_noPanic ?_
    refine wp_region_held_drew (S := fun W => W.cell? ⟨r, 1, none⟩ = some (.int .i64 (p : Int))) (by kernel_rfl) (by rw [hWE]; exact rcell RE.out 1 _ rfl) (fun hHeld => ?_)
    rw [hWE] at hHeld ⊢
    clear hWE
    refine wpAnyH_take (i := 0) (oi := { dst := _, op := _, type := _, pos := _, after := _, guard := _ }) (v := ?_) rfl (by kernel_rfl) (by kernel_rfl) (by kernel_rfl) (fun _ _ _ h => h) (Or.inl ⟨by rfl, ?_⟩) (by assumption) ?_
    rotate_left
    · intro W hSw
      (try dsimp only at hSw)
      go_simp
      (try with_reducible rfl)
    try simp only [Act.put, List.setIfInBounds_toArray, List.set_cons_zero, List.set_cons_succ]
    refine wpAnyH_take (i := 1) (oi := { dst := _, op := _, type := _, pos := _, after := _, guard := _ }) (v := ?_) rfl (by kernel_rfl) (by kernel_rfl) (by kernel_rfl) (fun _ _ _ h => h) (Or.inl ⟨by rfl, ?_⟩) (by assumption) ?_
    rotate_left
    · intro W hSw
      (try dsimp only at hSw)
      go_simp
      (try with_reducible rfl)
    try simp only [Act.put, List.setIfInBounds_toArray, List.set_cons_zero, List.set_cons_succ]
    refine wpAnyH_take (i := 2) (oi := { dst := _, op := _, type := _, pos := _, after := _, guard := _ }) (v := ?_) rfl (by kernel_rfl) (by kernel_rfl) (by kernel_rfl) (fun _ _ _ h => h) (Or.inl ⟨by rfl, ?_⟩) (by assumption) ?_
    rotate_left
    · intro W hSw
      (try dsimp only at hSw)
      go_simp
      (try with_reducible rfl)
    try simp only [Act.put, List.setIfInBounds_toArray, List.set_cons_zero, List.set_cons_succ]
    refine wpAnyH_take (i := 3) (oi := { dst := _, op := _, type := _, pos := _, after := _, guard := _ }) (v := ?_) rfl (by kernel_rfl) (by kernel_rfl) (by kernel_rfl) (fun _ _ _ h => h) (Or.inl ⟨by rfl, ?_⟩) (by assumption) ?_
    rotate_left
    · intro W hSw
      (try dsimp only at hSw)
      go_simp
      (try with_reducible rfl)
    try simp only [Act.put, List.setIfInBounds_toArray, List.set_cons_zero, List.set_cons_succ]
    refine wpAnyH_take (i := 4) (oi := { dst := _, op := _, type := _, pos := _, after := _, guard := _ }) (v := ?_) rfl (by kernel_rfl) (by kernel_rfl) (by kernel_rfl) (fun _ _ _ h => h) (Or.inl ⟨by rfl, ?_⟩) (by assumption) ?_
    rotate_left
    · intro W hSw
      (try dsimp only at hSw)
      go_simp
      (try with_reducible rfl)
    try simp only [Act.put, List.setIfInBounds_toArray, List.set_cons_zero, List.set_cons_succ]
    refine wpAnyH_take (i := 5) (oi := { dst := _, op := _, type := _, pos := _, after := _, guard := _ }) (v := ?_) rfl (by kernel_rfl) (by kernel_rfl) (by kernel_rfl) (fun _ _ _ h => h) (Or.inl ⟨by rfl, ?_⟩) (by assumption) ?_
    rotate_left
    · intro W hSw
      (try dsimp only at hSw)
      go_simp
      (try with_reducible rfl)
    try simp only [Act.put, List.setIfInBounds_toArray, List.set_cons_zero, List.set_cons_succ]
    refine wpAnyH_take (i := 8) (oi := { dst := _, op := _, type := _, pos := _, after := _, guard := _ }) (v := ?_) rfl (by kernel_rfl) (by kernel_rfl) (by kernel_rfl) (fun _ _ _ h => h) (Or.inl ⟨by rfl, ?_⟩) (by assumption) ?_
    rotate_left
    · intro W hSw
      (try dsimp only at hSw)
      go_simp
      (try with_reducible rfl)
    try simp only [Act.put, List.setIfInBounds_toArray, List.set_cons_zero, List.set_cons_succ]
    refine wpAnyH_ready (rs := [6]) (by kernel_rfl) (by simp) ?_
    refine AllReadyH.cons (o := { dst := _, op := _, type := _, pos := _, after := _, guard := _ }) rfl (fun K hK => ?_) AllReadyH.nil
    go_simp
    refine hK.out _ _ ?_ (fun hHeld => ?_)
    · exact rcell RF.out 1 _ rfl
    clear hK K
    try simp only [Act.put, List.setIfInBounds_toArray, List.set_cons_zero, List.set_cons_succ]
    refine wpAnyH_take (i := 7) (oi := { dst := _, op := _, type := _, pos := _, after := _, guard := _ }) (v := ?_) rfl (by kernel_rfl) (by kernel_rfl) (by kernel_rfl) (fun _ _ _ h => h) (Or.inl ⟨by rfl, ?_⟩) (by assumption) ?_
    rotate_left
    · intro W hSw
      (try dsimp only at hSw)
      go_simp
      (try with_reducible rfl)
    try simp only [Act.put, List.setIfInBounds_toArray, List.set_cons_zero, List.set_cons_succ]
    refine wpAnyH_take (i := 9) (oi := { dst := _, op := _, type := _, pos := _, after := _, guard := _ }) (v := ?_) rfl (by kernel_rfl) (by kernel_rfl) (by kernel_rfl) (fun _ _ _ h => h) (Or.inl ⟨by rfl, ?_⟩) (by assumption) ?_
    rotate_left
    · intro W hSw
      (try dsimp only at hSw)
      go_simp
      (try with_reducible rfl)
    try simp only [Act.put, List.setIfInBounds_toArray, List.set_cons_zero, List.set_cons_succ]
    refine wpAnyH_done (by kernel_rfl) ?_ _
    refine NoPanic.normal ?_
    clear hHeld
    go_wp2_with fail
    go_ret2
    exact ⟨by rw [HNU.out]; exact ⟨_, p, rfl, Or.inl ⟨WE.heap.size, rfl, heap_new _ _⟩, RF.out, HS.out.2⟩, Fr.of_below (below_trans BW.out (below_trans BE.out (bel_up _ _))), HN.out.up (below_trans BW.out (below_trans BE.out (bel_up _ _)))⟩
  | some y =>
    obtain ⟨v, z⟩ := y
    refine wpAnyH_take (i := 0) (oi := { dst := _, op := _, type := _, pos := _, after := _, guard := _ }) (v := ?_) rfl (by kernel_rfl) (by kernel_rfl) (by kernel_rfl) (fun _ _ _ h => h) (Or.inl ⟨by rfl, ?_⟩) (by assumption) ?_
    rotate_left
    · intro W hSw
      (try dsimp only at hSw)
      go_simp
      (try with_reducible rfl)
    try simp only [Act.put, List.setIfInBounds_toArray, List.set_cons_zero, List.set_cons_succ]
    refine wpAnyH_take (i := 1) (oi := { dst := _, op := _, type := _, pos := _, after := _, guard := _ }) (v := ?_) rfl (by kernel_rfl) (by kernel_rfl) (by kernel_rfl) (fun _ _ _ h => h) (Or.inl ⟨by rfl, ?_⟩) (by assumption) ?_
    rotate_left
    · intro W hSw
      (try dsimp only at hSw)
      go_simp
      (try with_reducible rfl)
    try simp only [Act.put, List.setIfInBounds_toArray, List.set_cons_zero, List.set_cons_succ]
    refine wpAnyH_take (i := 2) (oi := { dst := _, op := _, type := _, pos := _, after := _, guard := _ }) (v := ?_) rfl (by kernel_rfl) (by kernel_rfl) (by kernel_rfl) (fun _ _ _ h => h) (Or.inl ⟨by rfl, ?_⟩) (by assumption) ?_
    rotate_left
    · intro W hSw
      (try dsimp only at hSw)
      go_simp
      (try with_reducible rfl)
    try simp only [Act.put, List.setIfInBounds_toArray, List.set_cons_zero, List.set_cons_succ]
    refine wpAnyH_take (i := 3) (oi := { dst := _, op := _, type := _, pos := _, after := _, guard := _ }) (v := ?_) rfl (by kernel_rfl) (by kernel_rfl) (by kernel_rfl) (fun _ _ _ h => h) (Or.inl ⟨by rfl, ?_⟩) (by assumption) ?_
    rotate_left
    · intro W hSw
      (try dsimp only at hSw)
      go_simp
      (try with_reducible rfl)
    try simp only [Act.put, List.setIfInBounds_toArray, List.set_cons_zero, List.set_cons_succ]
    refine wpAnyH_take (i := 4) (oi := { dst := _, op := _, type := _, pos := _, after := _, guard := _ }) (v := ?_) rfl (by kernel_rfl) (by kernel_rfl) (by kernel_rfl) (fun _ _ _ h => h) (Or.inl ⟨by rfl, ?_⟩) (by assumption) ?_
    rotate_left
    · intro W hSw
      (try dsimp only at hSw)
      go_simp
      (try with_reducible rfl)
    try simp only [Act.put, List.setIfInBounds_toArray, List.set_cons_zero, List.set_cons_succ]
    refine wpAnyH_take (i := 5) (oi := { dst := _, op := _, type := _, pos := _, after := _, guard := _ }) (v := ?_) rfl (by kernel_rfl) (by kernel_rfl) (by kernel_rfl) (fun _ _ _ h => h) (Or.inl ⟨by rfl, ?_⟩) (by assumption) ?_
    rotate_left
    · intro W hSw
      (try dsimp only at hSw)
      go_simp
      (try with_reducible rfl)
    try simp only [Act.put, List.setIfInBounds_toArray, List.set_cons_zero, List.set_cons_succ]
    refine wpAnyH_take (i := 6) (oi := { dst := _, op := _, type := _, pos := _, after := _, guard := _ }) (v := ?_) rfl (by kernel_rfl) (by kernel_rfl) (by kernel_rfl) (fun _ _ _ h => h) (Or.inl ⟨by rfl, ?_⟩) (by assumption) ?_
    rotate_left
    · intro W hSw
      (try dsimp only at hSw)
      go_simp
      (try with_reducible rfl)
    try simp only [Act.put, List.setIfInBounds_toArray, List.set_cons_zero, List.set_cons_succ]
    refine wpAnyH_take (i := 7) (oi := { dst := _, op := _, type := _, pos := _, after := _, guard := _ }) (v := ?_) rfl (by kernel_rfl) (by kernel_rfl) (by kernel_rfl) (fun _ _ _ h => h) (Or.inl ⟨by rfl, ?_⟩) (by assumption) ?_
    rotate_left
    · intro W hSw
      (try dsimp only at hSw)
      go_simp
      (try with_reducible rfl)
    try simp only [Act.put, List.setIfInBounds_toArray, List.set_cons_zero, List.set_cons_succ]
    refine wpAnyH_take (i := 8) (oi := { dst := _, op := _, type := _, pos := _, after := _, guard := _ }) (v := ?_) rfl (by kernel_rfl) (by kernel_rfl) (by kernel_rfl) (fun _ _ _ h => h) (Or.inl ⟨by rfl, ?_⟩) (by assumption) ?_
    rotate_left
    · intro W hSw
      (try dsimp only at hSw)
      go_simp
      (try with_reducible rfl)
    try simp only [Act.put, List.setIfInBounds_toArray, List.set_cons_zero, List.set_cons_succ]
    refine wpAnyH_ready (rs := [9]) (by kernel_rfl) (by simp) ?_
    refine AllReadyH.cons (o := { dst := _, op := _, type := _, pos := _, after := _, guard := _ }) rfl (fun K hK => ?_) AllReadyH.nil
    go_simp
    go_at_call 35
    refine Calls.mono HFC.out ?_
    rintro e W2 ⟨rfl, hb2⟩
    have B2 : Hid (Below WD.heap.size WD W2) := hb2
    clear hb2
    simp only [fcV]
    refine hK.out _ _ ?_ (fun hHeld => ?_)
    · exact ⟨below_cell B2.out (rcell RD.out 0 _ rfl), below_cell B2.out (rcell RD.out 1 _ rfl)⟩
    clear hK K
    try simp only [Act.put, List.setIfInBounds_toArray, List.set_cons_zero, List.set_cons_succ]
    refine wpAnyH_take (i := 10) (oi := { dst := _, op := _, type := _, pos := _, after := _, guard := _ }) (v := ?_) rfl (by kernel_rfl) (by kernel_rfl) (by kernel_rfl) (fun _ _ _ h => h) (Or.inl ⟨by rfl, ?_⟩) (by assumption) ?_
    rotate_left
    · intro W hSw
      (try dsimp only at hSw)
      go_simp
      (try with_reducible rfl)
    try simp only [Act.put, List.setIfInBounds_toArray, List.set_cons_zero, List.set_cons_succ]
    refine wpAnyH_take (i := 11) (oi := { dst := _, op := _, type := _, pos := _, after := _, guard := _ }) (v := ?_) rfl (by kernel_rfl) (by kernel_rfl) (by kernel_rfl) (fun _ _ _ h => h) (Or.inl ⟨by rfl, ?_⟩) (by assumption) ?_
    rotate_left
    · intro W hSw
      (try dsimp only at hSw)
      go_simp
      (try with_reducible rfl)
    try simp only [Act.put, List.setIfInBounds_toArray, List.set_cons_zero, List.set_cons_succ]
    refine wpAnyH_take (i := 12) (oi := { dst := _, op := _, type := _, pos := _, after := _, guard := _ }) (v := ?_) rfl (by kernel_rfl) (by kernel_rfl) (by kernel_rfl) (fun _ _ _ h => h) (Or.inl ⟨by rfl, ?_⟩) (by assumption) ?_
    rotate_left
    · intro W hSw
      (try dsimp only at hSw)
      go_simp
      (try with_reducible rfl)
    try simp only [Act.put, List.setIfInBounds_toArray, List.set_cons_zero, List.set_cons_succ]
    refine wpAnyH_take (i := 13) (oi := { dst := _, op := _, type := _, pos := _, after := _, guard := _ }) (v := ?_) rfl (by kernel_rfl) (by kernel_rfl) (by kernel_rfl) (fun _ _ _ h => h) (Or.inl ⟨by rfl, ?_⟩) (by assumption) ?_
    rotate_left
    · intro W hSw
      (try dsimp only at hSw)
      go_simp
      (try with_reducible rfl)
    try simp only [Act.put, List.setIfInBounds_toArray, List.set_cons_zero, List.set_cons_succ]
    refine wpAnyH_take (i := 14) (oi := { dst := _, op := _, type := _, pos := _, after := _, guard := _ }) (v := ?_) rfl (by kernel_rfl) (by kernel_rfl) (by kernel_rfl) (fun _ _ _ h => h) (Or.inl ⟨by rfl, ?_⟩) (by assumption) ?_
    rotate_left
    · intro W hSw
      (try dsimp only at hSw)
      go_simp
      (try with_reducible rfl)
    try simp only [Act.put, List.setIfInBounds_toArray, List.set_cons_zero, List.set_cons_succ]
    refine wpAnyH_take (i := 15) (oi := { dst := _, op := _, type := _, pos := _, after := _, guard := _ }) (v := ?_) rfl (by kernel_rfl) (by kernel_rfl) (by kernel_rfl) (fun _ _ _ h => h) (Or.inl ⟨by rfl, ?_⟩) (by assumption) ?_
    rotate_left
    · intro W hSw
      (try dsimp only at hSw)
      go_simp
      (try with_reducible rfl)
    try simp only [Act.put, List.setIfInBounds_toArray, List.set_cons_zero, List.set_cons_succ]
    refine wpAnyH_take (i := 16) (oi := { dst := _, op := _, type := _, pos := _, after := _, guard := _ }) (v := ?_) rfl (by kernel_rfl) (by kernel_rfl) (by kernel_rfl) (fun _ _ _ h => h) (Or.inl ⟨by rfl, ?_⟩) (by assumption) ?_
    rotate_left
    · intro W hSw
      (try dsimp only at hSw)
      go_simp
      (try with_reducible rfl)
    try simp only [Act.put, List.setIfInBounds_toArray, List.set_cons_zero, List.set_cons_succ]
    refine wpAnyH_done (by kernel_rfl) ?_ _
    refine NoPanic.normal ?_
    clear hHeld
    have R2 : Hid (Rd W2 r s p) := RD.out.up B2.out
    have BW : Hid (Below w.heap.size w W2) := below_trans BD.out B2.out
    have HB := cr_bound _ 0 0 _ _ HC.out (by decide)
    rw [List.length_drop, ba_len] at HB
    have HVZ : Hid (v < 9223372036854775808 ∧ p + z ≤ s.size) := by have := HS.out.2; show _ ∧ _; omega
    clear HB
    have c0 := rcell R2.out 0 _ rfl
    have c1 := rcell R2.out 1 _ rfl
    have z1 : W2.frozen? ⟨r, 1, none⟩ = false := Lib.frozen_of_heap R2.out 1
    by_cases h1 : v < lo
    · have f1 : decide ((v : Int) < (lo : Int)) = true := by rw [decide_eq_true_eq]; omega
      have f2 : decide (v < lo) = true := by rw [decide_eq_true_eq]; omega
      have HNU : Hid (num s lo hi p = .error p) := num_out HC.out (by omega)
      clear h1 z1
      go_wp2_with (go_at_call 11; refine (broken_any p sa W2).mono ?_; rintro e W3 ⟨ev, rfl, her, hb3⟩; have B3 : Hid (Below W2.heap.size W2 W3) := hb3; have HE : Hid (Er W3 sa ev p) := her; clear her hb3)
      go_ret2
      exact ⟨by rw [HNU.out]; exact ⟨_, p, rfl, HE.out, R2.out.up B3.out, HS.out.2⟩, Fr.of_below (below_trans BW.out B3.out), HN.out.up (below_trans BW.out B3.out)⟩
    have f1 : decide ((v : Int) < (lo : Int)) = false := by rw [decide_eq_false_iff_not]; omega
    have f2 : decide (v < lo) = false := by rw [decide_eq_false_iff_not]; omega
    by_cases h2 : hi < v
    · have f3 : decide ((hi : Int) < (v : Int)) = true := by rw [decide_eq_true_eq]; omega
      have f4 : decide (hi < v) = true := by rw [decide_eq_true_eq]; omega
      have HNU : Hid (num s lo hi p = .error p) := num_out HC.out (by omega)
      clear h1 h2 z1
      go_wp2_with (go_at_call 11; refine (broken_any p sa W2).mono ?_; rintro e W3 ⟨ev, rfl, her, hb3⟩; have B3 : Hid (Below W2.heap.size W2 W3) := hb3; have HE : Hid (Er W3 sa ev p) := her; clear her hb3)
      go_ret2
      exact ⟨by rw [HNU.out]; exact ⟨_, p, rfl, HE.out, R2.out.up B3.out, HS.out.2⟩, Fr.of_below (below_trans BW.out B3.out), HN.out.up (below_trans BW.out B3.out)⟩
    have f3 : decide ((hi : Int) < (v : Int)) = false := by rw [decide_eq_false_iff_not]; omega
    have f4 : decide (hi < v) = false := by rw [decide_eq_false_iff_not]; omega
    have HNU : Hid (num s lo hi p = .ok (v, p + z)) := num_yes HC.out (by omega) (by omega)
    have hwa : IntKind.i64.wrap ((p : Int) + (z : Int)) = ((p + z : Nat) : Int) := by have := HVZ.out; have := HS.out; rw [IntKind.wrap_i64]; omega
    have hwv : IntKind.i64.wrap (v : Int) = (v : Int) := by have := HVZ.out; rw [IntKind.wrap_i64]; omega
    clear h1 h2
    go_wp2_with fail
    go_ret2
    refine ⟨by rw [HNU.out]; refine ⟨rfl, ?_⟩; show (W2.setCell _ _).heap[r]? = _; rw [blk_set _ R2.out]; rfl, (Fr.of_below BW.out).set, ?_⟩
    show (W2.setCell _ _).cell? _ = _
    exact Fr.cel (Fr.set (r := r) (World.grownBy.refl _ _)) (HN.out.up BW.out) (fun e => HL.out.2.2 e.symm)
end Go.Proofs.YtgdmoeocgflhgaaDoor
