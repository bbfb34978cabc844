import Derived.Test.YtdchopljojlcpaaRap
namespace Go.Proofs.Ytdchopljojlcpaa
open Go.RowKit Go.Maps

/-- stands, of a state that is shaped. -/
def sta (r : Rul) (s : Stt) (ended : Bool) (x : Nat) : Bool := wan r.trm x && r.inn.contains (mod s) && r.tes.all (fun t => hld s t.1 t.2 ended) && (decide (s.pen = -1) || ask r 1 || ask r 2)
def dsh (t : Int × Int) : Bool := decide (t.1 = 1) || decide (t.1 = 2)
theorem sta_dsh (r : Rul) : (ask r 1 || ask r 2) = r.tes.any dsh := by
  unfold ask dsh
  induction r.tes with
  | nil => rfl
  | cons t l ih => simp only [List.any_cons, ← ih]; cases decide (t.1 = 1) <;> cases decide (t.1 = 2) <;> simp
theorem any_snoc {α : Type} (p : α → Bool) (l : List α) (d : α) (i : Nat) (h : i < l.length) : (l.take (i + 1)).any p = ((l.take i).any p || p (l.getD i d)) := by
  rw [take_snoc l d i h, List.any_append]; simp

set_option maxRecDepth 100000 in
set_option maxHeartbeats 8000000 in
theorem stands_any {ve vi vt va wi wq wf : Value} {r : Rul} {s : Stt} {rb sb : Nat} (ended : Bool) (x : Nat) (w : World) (hr : Rlm w ve vi vt va r) (hrb : w.heap[rb]? = some (.cells (rvC ve vi vt va r) 28 (0, 0))) (hs : Stm w wi wq wf s) (hsb : w.heap[sb]? = some (.cells (stC wi wq wf s) 33 (0, 0))) (hx : x < 18446744073709551616) (hf : s.flg < 65536) (z1 : s.ind.length ≤ 4611686018427387904) (z2 : s.frm.length ≤ 4611686018427387904) (z3 : r.inn.length ≤ 4611686018427387904) (z4 : r.tes.length ≤ 4611686018427387904) :
    Calls Try.prog 16 #[.pointer (some ⟨rb, 0, none⟩), .pointer (some ⟨sb, 0, none⟩), .bool ended, .int .u64 (x : Int)] w fun e w' => e = .returned (.bool (sta r s ended x)) ∧ Below w.heap.size w w' := by
  have HR : Hid (Rlm w ve vi vt va r) := hr
  have HS : Hid (Stm w wi wq wf s) := hs
  obtain ⟨a1, c1, a2, c2, a3, c3, a4, c4, rfl, rfl, rfl, rfl⟩ := hr.form
  obtain ⟨b1, d1, b2, d2, b3, d3, rfl, rfl, rfl⟩ := hs.form
  clear hr hs
  have HRB : Hid _ := hrb
  have HSB : Hid _ := hsb
  have HX : Hid _ := hx
  have HF : Hid _ := hf
  have Z1 : Hid _ := z1
  have Z2 : Hid _ := z2
  have Z3 : Hid _ := z3
  have Z4 : Hid _ := z4
  clear hx hf z1 z2 z3 z4
  have HCR : Hid (∀ W, Below w.heap.size w W → (W.cell? ⟨rb, 0, none⟩ = some (.int .i64 r.trm) ∧ W.cell? ⟨rb, 4, none⟩ = some (.slice a2 r.inn.length c2) ∧ W.cell? ⟨rb, 5, none⟩ = some (.slice a3 r.tes.length c3))) := fun W hW => ⟨below_cell hW (rcell hrb 0 _ rfl), below_cell hW (rcell hrb 4 _ rfl), below_cell hW (rcell hrb 5 _ rfl)⟩
  have HCS : Hid (∀ W, Below w.heap.size w W → (W.cell? ⟨sb, 0, none⟩ = some (.slice b1 s.ind.length d1) ∧ W.cell? ⟨sb, 1, none⟩ = some (.int .i64 s.pen) ∧ W.cell? ⟨sb, 2, none⟩ = some (.slice b2 s.que.length d2) ∧ W.cell? ⟨sb, 3, none⟩ = some (.slice b3 s.frm.length d3) ∧ W.cell? ⟨sb, 4, none⟩ = some (.int .u16 (s.flg : Int)))) := fun W hW => ⟨below_cell hW (rcell hsb 0 _ rfl), below_cell hW (rcell hsb 1 _ rfl), below_cell hW (rcell hsb 2 _ rfl), below_cell hW (rcell hsb 3 _ rfl), below_cell hW (rcell hsb 4 _ rfl)⟩
  have HSBu : Hid (∀ W, Below w.heap.size w W → W.heap[sb]? = some (.cells (stC (.slice b1 s.ind.length d1) (.slice b2 s.que.length d2) (.slice b3 s.frm.length d3) s) 33 (0, 0))) := fun W hW => (hW.block _ (lt_of_heap hsb)).trans hsb
  clear hrb hsb
  cases hwn : wan r.trm x with
  | false =>
    have HWN : Hid _ := hwn
    have HRES : Hid (sta r s ended x = false) := by show sta r s ended x = false; unfold sta; rw [hwn]; rfl
    clear hwn
    go_enter Try.func16, Try.ntmps16
    go_upto_region 1 with fail
    obtain ⟨WD, hWD⟩ : ∃ WD, w.drew = WD := ⟨_, rfl⟩
    have BD : Hid (Below w.heap.size w WD) := by rw [← hWD]; exact Below.drew (Below.refl _ _)
    refine wp_region_noPanic ?_
    refine wp_region_held_drew (S := fun W => W.cell? ⟨rb, 0, none⟩ = some (.int .i64 r.trm) ∧ W.cell? ⟨rb, 4, none⟩ = some (.slice a2 r.inn.length c2) ∧ W.cell? ⟨rb, 5, none⟩ = some (.slice a3 r.tes.length c3)) (by kernel_rfl) (by rw [hWD]; exact HCR.out _ BD.out) (fun hHeld => ?_)
    rw [hWD] at hHeld ⊢
    clear hWD
    refine wpAnyH_take (i := 0) (oi := { dst := _, op := _, type := _, pos := _, after := _, guard := _ }) (v := ?_) rfl (by kernel_rfl) (by kernel_rfl) (by kernel_rfl) (fun _ _ _ h => h) (Or.inl ⟨by rfl, ?_⟩) (by assumption) ?_
    rotate_left
    · intro W hSw
      (try dsimp only at hSw)
      go_simp
      (try with_reducible rfl)
    try simp only [Act.put, List.setIfInBounds_toArray, List.set_cons_zero, List.set_cons_succ]
    refine wpAnyH_take (i := 1) (oi := { dst := _, op := _, type := _, pos := _, after := _, guard := _ }) (v := ?_) rfl (by kernel_rfl) (by kernel_rfl) (by kernel_rfl) (fun _ _ _ h => h) (Or.inl ⟨by rfl, ?_⟩) (by assumption) ?_
    rotate_left
    · intro W hSw
      (try dsimp only at hSw)
      go_simp
      (try with_reducible rfl)
    try simp only [Act.put, List.setIfInBounds_toArray, List.set_cons_zero, List.set_cons_succ]
    refine wpAnyH_take (i := 2) (oi := { dst := _, op := _, type := _, pos := _, after := _, guard := _ }) (v := ?_) rfl (by kernel_rfl) (by kernel_rfl) (by kernel_rfl) (fun _ _ _ h => h) (Or.inl ⟨by rfl, ?_⟩) (by assumption) ?_
    rotate_left
    · intro W hSw
      (try dsimp only at hSw)
      go_simp
      (try with_reducible rfl)
    try simp only [Act.put, List.setIfInBounds_toArray, List.set_cons_zero, List.set_cons_succ]
    refine wpAnyH_take (i := 3) (oi := { dst := _, op := _, type := _, pos := _, after := _, guard := _ }) (v := ?_) rfl (by kernel_rfl) (by kernel_rfl) (by kernel_rfl) (fun _ _ _ h => h) (Or.inl ⟨by rfl, ?_⟩) (by assumption) ?_
    rotate_left
    · intro W hSw
      (try dsimp only at hSw)
      go_simp
      (try with_reducible rfl)
    try simp only [Act.put, List.setIfInBounds_toArray, List.set_cons_zero, List.set_cons_succ]
    refine wpAnyH_take (i := 4) (oi := { dst := _, op := _, type := _, pos := _, after := _, guard := _ }) (v := ?_) rfl (by kernel_rfl) (by kernel_rfl) (by kernel_rfl) (fun _ _ _ h => h) (Or.inl ⟨by rfl, ?_⟩) (by assumption) ?_
    rotate_left
    · intro W hSw
      (try dsimp only at hSw)
      go_simp
      (try with_reducible rfl)
    try simp only [Act.put, List.setIfInBounds_toArray, List.set_cons_zero, List.set_cons_succ]
    refine wpAnyH_ready (rs := [5]) (by kernel_rfl) (by simp) ?_
    refine AllReadyH.cons (o := { dst := _, op := _, type := _, pos := _, after := _, guard := _ }) rfl (fun K hK => ?_) AllReadyH.nil
    go_simp
    refine (wanted_any r.trm x HX.out WD).mono ?_
    rintro e w2 ⟨rfl, hw2⟩
    rw [hw2, HWN.out]
    clear hw2 w2
    go_wp2_with fail
    refine hK.out _ _ ?_ (fun hHeld => ?_)
    · exact hHeld
    clear hK K
    try simp only [Act.put, List.setIfInBounds_toArray, List.set_cons_zero, List.set_cons_succ]
    refine wpAnyH_take (i := 6) (oi := { dst := _, op := _, type := _, pos := _, after := _, guard := _ }) (v := ?_) rfl (by kernel_rfl) (by kernel_rfl) (by kernel_rfl) (fun _ _ _ h => h) (Or.inl ⟨by rfl, ?_⟩) (by assumption) ?_
    rotate_left
    · intro W hSw
      (try dsimp only at hSw)
      go_simp
      (try with_reducible rfl)
    try simp only [Act.put, List.setIfInBounds_toArray, List.set_cons_zero, List.set_cons_succ]
    refine wpAnyH_take (i := 7) (oi := { dst := _, op := _, type := _, pos := _, after := _, guard := _ }) (v := ?_) rfl (by kernel_rfl) (by kernel_rfl) (by kernel_rfl) (fun _ _ _ h => h) (Or.inl ⟨by rfl, ?_⟩) (by assumption) ?_
    rotate_left
    · intro W hSw
      (try dsimp only at hSw)
      go_simp
      (try with_reducible rfl)
    try simp only [Act.put, List.setIfInBounds_toArray, List.set_cons_zero, List.set_cons_succ]
    refine wpAnyH_take (i := 8) (oi := { dst := _, op := _, type := _, pos := _, after := _, guard := _ }) rfl (by kernel_rfl) (by kernel_rfl) (by kernel_rfl) (fun _ _ _ h => h) (Or.inr ⟨by rfl, rfl⟩) (by assumption) ?_
    try simp only [Act.put, List.setIfInBounds_toArray, List.set_cons_zero, List.set_cons_succ]
    refine wpAnyH_take (i := 9) (oi := { dst := _, op := _, type := _, pos := _, after := _, guard := _ }) rfl (by kernel_rfl) (by kernel_rfl) (by kernel_rfl) (fun _ _ _ h => h) (Or.inr ⟨by rfl, rfl⟩) (by assumption) ?_
    try simp only [Act.put, List.setIfInBounds_toArray, List.set_cons_zero, List.set_cons_succ]
    refine wpAnyH_take (i := 10) (oi := { dst := _, op := _, type := _, pos := _, after := _, guard := _ }) rfl (by kernel_rfl) (by kernel_rfl) (by kernel_rfl) (fun _ _ _ h => h) (Or.inr ⟨by rfl, rfl⟩) (by assumption) ?_
    try simp only [Act.put, List.setIfInBounds_toArray, List.set_cons_zero, List.set_cons_succ]
    refine wpAnyH_take (i := 11) (oi := { dst := _, op := _, type := _, pos := _, after := _, guard := _ }) rfl (by kernel_rfl) (by kernel_rfl) (by kernel_rfl) (fun _ _ _ h => h) (Or.inr ⟨by rfl, rfl⟩) (by assumption) ?_
    try simp only [Act.put, List.setIfInBounds_toArray, List.set_cons_zero, List.set_cons_succ]
    refine wpAnyH_take (i := 12) (oi := { dst := _, op := _, type := _, pos := _, after := _, guard := _ }) rfl (by kernel_rfl) (by kernel_rfl) (by kernel_rfl) (fun _ _ _ h => h) (Or.inr ⟨by rfl, rfl⟩) (by assumption) ?_
    try simp only [Act.put, List.setIfInBounds_toArray, List.set_cons_zero, List.set_cons_succ]
    refine wpAnyH_take (i := 13) (oi := { dst := _, op := _, type := _, pos := _, after := _, guard := _ }) rfl (by kernel_rfl) (by kernel_rfl) (by kernel_rfl) (fun _ _ _ h => h) (Or.inr ⟨by rfl, rfl⟩) (by assumption) ?_
    try simp only [Act.put, List.setIfInBounds_toArray, List.set_cons_zero, List.set_cons_succ]
    refine wpAnyH_take (i := 14) (oi := { dst := _, op := _, type := _, pos := _, after := _, guard := _ }) rfl (by kernel_rfl) (by kernel_rfl) (by kernel_rfl) (fun _ _ _ h => h) (Or.inr ⟨by rfl, rfl⟩) (by assumption) ?_
    try simp only [Act.put, List.setIfInBounds_toArray, List.set_cons_zero, List.set_cons_succ]
    refine wpAnyH_take (i := 15) (oi := { dst := _, op := _, type := _, pos := _, after := _, guard := _ }) rfl (by kernel_rfl) (by kernel_rfl) (by kernel_rfl) (fun _ _ _ h => h) (Or.inr ⟨by rfl, rfl⟩) (by assumption) ?_
    try simp only [Act.put, List.setIfInBounds_toArray, List.set_cons_zero, List.set_cons_succ]
    refine wpAnyH_take (i := 16) (oi := { dst := _, op := _, type := _, pos := _, after := _, guard := _ }) (v := ?_) rfl (by kernel_rfl) (by kernel_rfl) (by kernel_rfl) (fun _ _ _ h => h) (Or.inl ⟨by rfl, ?_⟩) (by assumption) ?_
    rotate_left
    · intro W hSw
      (try dsimp only at hSw)
      go_simp
      (try with_reducible rfl)
    try simp only [Act.put, List.setIfInBounds_toArray, List.set_cons_zero, List.set_cons_succ]
    refine wpAnyH_done (by kernel_rfl) ?_ _
    refine NoPanic.normal ?_
    clear hHeld
    go_wp2_with fail
    go_ret
    exact ⟨by rw [HRES.out]; rfl, BD.out⟩
  | true =>
    have HWN : Hid _ := hwn
    cases hcn : r.inn.contains (mod s) with
    | false =>
      have HCN : Hid _ := hcn
      have HRES : Hid (sta r s ended x = false) := by show sta r s ended x = false; unfold sta; rw [hwn, hcn]; rfl
      clear hwn hcn
      go_enter Try.func16, Try.ntmps16
      go_upto_region 1 with fail
      obtain ⟨WD, hWD⟩ : ∃ WD, w.drew = WD := ⟨_, rfl⟩
      have BD : Hid (Below w.heap.size w WD) := by rw [← hWD]; exact Below.drew (Below.refl _ _)
      refine wp_region_noPanic ?_
      refine wp_region_held_drew (S := fun W => W.cell? ⟨rb, 0, none⟩ = some (.int .i64 r.trm) ∧ W.cell? ⟨rb, 4, none⟩ = some (.slice a2 r.inn.length c2) ∧ W.cell? ⟨rb, 5, none⟩ = some (.slice a3 r.tes.length c3)) (by kernel_rfl) (by rw [hWD]; exact HCR.out _ BD.out) (fun hHeld => ?_)
      rw [hWD] at hHeld ⊢
      clear hWD
      refine wpAnyH_take (i := 0) (oi := { dst := _, op := _, type := _, pos := _, after := _, guard := _ }) (v := ?_) rfl (by kernel_rfl) (by kernel_rfl) (by kernel_rfl) (fun _ _ _ h => h) (Or.inl ⟨by rfl, ?_⟩) (by assumption) ?_
      rotate_left
      · intro W hSw
        (try dsimp only at hSw)
        go_simp
        (try with_reducible rfl)
      try simp only [Act.put, List.setIfInBounds_toArray, List.set_cons_zero, List.set_cons_succ]
      refine wpAnyH_take (i := 1) (oi := { dst := _, op := _, type := _, pos := _, after := _, guard := _ }) (v := ?_) rfl (by kernel_rfl) (by kernel_rfl) (by kernel_rfl) (fun _ _ _ h => h) (Or.inl ⟨by rfl, ?_⟩) (by assumption) ?_
      rotate_left
      · intro W hSw
        (try dsimp only at hSw)
        go_simp
        (try with_reducible rfl)
      try simp only [Act.put, List.setIfInBounds_toArray, List.set_cons_zero, List.set_cons_succ]
      refine wpAnyH_take (i := 2) (oi := { dst := _, op := _, type := _, pos := _, after := _, guard := _ }) (v := ?_) rfl (by kernel_rfl) (by kernel_rfl) (by kernel_rfl) (fun _ _ _ h => h) (Or.inl ⟨by rfl, ?_⟩) (by assumption) ?_
      rotate_left
      · intro W hSw
        (try dsimp only at hSw)
        go_simp
        (try with_reducible rfl)
      try simp only [Act.put, List.setIfInBounds_toArray, List.set_cons_zero, List.set_cons_succ]
      refine wpAnyH_take (i := 3) (oi := { dst := _, op := _, type := _, pos := _, after := _, guard := _ }) (v := ?_) rfl (by kernel_rfl) (by kernel_rfl) (by kernel_rfl) (fun _ _ _ h => h) (Or.inl ⟨by rfl, ?_⟩) (by assumption) ?_
      rotate_left
      · intro W hSw
        (try dsimp only at hSw)
        go_simp
        (try with_reducible rfl)
      try simp only [Act.put, List.setIfInBounds_toArray, List.set_cons_zero, List.set_cons_succ]
      refine wpAnyH_take (i := 4) (oi := { dst := _, op := _, type := _, pos := _, after := _, guard := _ }) (v := ?_) rfl (by kernel_rfl) (by kernel_rfl) (by kernel_rfl) (fun _ _ _ h => h) (Or.inl ⟨by rfl, ?_⟩) (by assumption) ?_
      rotate_left
      · intro W hSw
        (try dsimp only at hSw)
        go_simp
        (try with_reducible rfl)
      try simp only [Act.put, List.setIfInBounds_toArray, List.set_cons_zero, List.set_cons_succ]
      refine wpAnyH_ready (rs := [5]) (by kernel_rfl) (by simp) ?_
      refine AllReadyH.cons (o := { dst := _, op := _, type := _, pos := _, after := _, guard := _ }) rfl (fun K hK => ?_) AllReadyH.nil
      go_simp
      refine (wanted_any r.trm x HX.out WD).mono ?_
      rintro e w2 ⟨rfl, hw2⟩
      rw [hw2, HWN.out]
      clear hw2 w2
      go_wp2_with fail
      refine hK.out _ _ ?_ (fun hHeld => ?_)
      · exact hHeld
      clear hK K
      try simp only [Act.put, List.setIfInBounds_toArray, List.set_cons_zero, List.set_cons_succ]
      refine wpAnyH_take (i := 6) (oi := { dst := _, op := _, type := _, pos := _, after := _, guard := _ }) (v := ?_) rfl (by kernel_rfl) (by kernel_rfl) (by kernel_rfl) (fun _ _ _ h => h) (Or.inl ⟨by rfl, ?_⟩) (by assumption) ?_
      rotate_left
      · intro W hSw
        (try dsimp only at hSw)
        go_simp
        (try with_reducible rfl)
      try simp only [Act.put, List.setIfInBounds_toArray, List.set_cons_zero, List.set_cons_succ]
      refine wpAnyH_take (i := 7) (oi := { dst := _, op := _, type := _, pos := _, after := _, guard := _ }) (v := ?_) rfl (by kernel_rfl) (by kernel_rfl) (by kernel_rfl) (fun _ _ _ h => h) (Or.inl ⟨by rfl, ?_⟩) (by assumption) ?_
      rotate_left
      · intro W hSw
        (try dsimp only at hSw)
        go_simp
        (try with_reducible rfl)
      try simp only [Act.put, List.setIfInBounds_toArray, List.set_cons_zero, List.set_cons_succ]
      refine wpAnyH_take (i := 8) (oi := { dst := _, op := _, type := _, pos := _, after := _, guard := _ }) (v := ?_) rfl (by kernel_rfl) (by kernel_rfl) (by kernel_rfl) (fun _ _ _ h => h) (Or.inl ⟨by rfl, ?_⟩) (by assumption) ?_
      rotate_left
      · intro W hSw
        (try dsimp only at hSw)
        go_simp
        (try with_reducible rfl)
      try simp only [Act.put, List.setIfInBounds_toArray, List.set_cons_zero, List.set_cons_succ]
      refine wpAnyH_take (i := 9) (oi := { dst := _, op := _, type := _, pos := _, after := _, guard := _ }) (v := ?_) rfl (by kernel_rfl) (by kernel_rfl) (by kernel_rfl) (fun _ _ _ h => h) (Or.inl ⟨by rfl, ?_⟩) (by assumption) ?_
      rotate_left
      · intro W hSw
        (try dsimp only at hSw)
        go_simp
        (try with_reducible rfl)
      try simp only [Act.put, List.setIfInBounds_toArray, List.set_cons_zero, List.set_cons_succ]
      refine wpAnyH_take (i := 10) (oi := { dst := _, op := _, type := _, pos := _, after := _, guard := _ }) (v := ?_) rfl (by kernel_rfl) (by kernel_rfl) (by kernel_rfl) (fun _ _ _ h => h) (Or.inl ⟨by rfl, ?_⟩) (by assumption) ?_
      rotate_left
      · intro W hSw
        (try dsimp only at hSw)
        go_simp
        (try with_reducible rfl)
      try simp only [Act.put, List.setIfInBounds_toArray, List.set_cons_zero, List.set_cons_succ]
      refine wpAnyH_take (i := 11) (oi := { dst := _, op := _, type := _, pos := _, after := _, guard := _ }) (v := ?_) rfl (by kernel_rfl) (by kernel_rfl) (by kernel_rfl) (fun _ _ _ h => h) (Or.inl ⟨by rfl, ?_⟩) (by assumption) ?_
      rotate_left
      · intro W hSw
        (try dsimp only at hSw)
        go_simp
        (try with_reducible rfl)
      try simp only [Act.put, List.setIfInBounds_toArray, List.set_cons_zero, List.set_cons_succ]
      refine wpAnyH_take (i := 12) (oi := { dst := _, op := _, type := _, pos := _, after := _, guard := _ }) (v := ?_) rfl (by kernel_rfl) (by kernel_rfl) (by kernel_rfl) (fun _ _ _ h => h) (Or.inl ⟨by rfl, ?_⟩) (by assumption) ?_
      rotate_left
      · intro W hSw
        (try dsimp only at hSw)
        go_simp
        (try with_reducible rfl)
      try simp only [Act.put, List.setIfInBounds_toArray, List.set_cons_zero, List.set_cons_succ]
      refine wpAnyH_ready (rs := [13]) (by kernel_rfl) (by simp) ?_
      refine AllReadyH.cons (o := { dst := _, op := _, type := _, pos := _, after := _, guard := _ }) rfl (fun K hK => ?_) AllReadyH.nil
      go_simp
      refine (mode2_any WD (HS.out.up BD.out) (HSBu.out _ BD.out) Z2.out).mono ?_
      rintro e w2 ⟨rfl, hb2⟩
      have B2 : Hid (Below w.heap.size w w2) := below_trans BD.out hb2
      clear hb2
      go_wp2_with fail
      refine hK.out _ _ ?_ (fun hHeld => ?_)
      · exact HCR.out _ B2.out
      clear hK K
      try simp only [Act.put, List.setIfInBounds_toArray, List.set_cons_zero, List.set_cons_succ]
      refine wpAnyH_ready (rs := [14]) (by kernel_rfl) (by simp) ?_
      refine AllReadyH.cons (o := { dst := _, op := _, type := _, pos := _, after := _, guard := _ }) rfl (fun K hK => ?_) AllReadyH.nil
      go_simp
      refine (contains_any w2 (HR.out.i.up B2.out) (mod s) Z3.out).mono ?_
      rintro e w3 ⟨rfl, hb3⟩
      have B3 : Hid (Below w.heap.size w w3) := below_trans B2.out hb3
      rw [HCN.out]
      clear hb3
      go_wp2_with fail
      refine hK.out _ _ ?_ (fun hHeld => ?_)
      · exact HCR.out _ B3.out
      clear hK K
      try simp only [Act.put, List.setIfInBounds_toArray, List.set_cons_zero, List.set_cons_succ]
      refine wpAnyH_take (i := 15) (oi := { dst := _, op := _, type := _, pos := _, after := _, guard := _ }) (v := ?_) rfl (by kernel_rfl) (by kernel_rfl) (by kernel_rfl) (fun _ _ _ h => h) (Or.inl ⟨by rfl, ?_⟩) (by assumption) ?_
      rotate_left
      · intro W hSw
        (try dsimp only at hSw)
        go_simp
        (try with_reducible rfl)
      try simp only [Act.put, List.setIfInBounds_toArray, List.set_cons_zero, List.set_cons_succ]
      refine wpAnyH_take (i := 16) (oi := { dst := _, op := _, type := _, pos := _, after := _, guard := _ }) (v := ?_) rfl (by kernel_rfl) (by kernel_rfl) (by kernel_rfl) (fun _ _ _ h => h) (Or.inl ⟨by rfl, ?_⟩) (by assumption) ?_
      rotate_left
      · intro W hSw
        (try dsimp only at hSw)
        go_simp
        (try with_reducible rfl)
      try simp only [Act.put, List.setIfInBounds_toArray, List.set_cons_zero, List.set_cons_succ]
      refine wpAnyH_done (by kernel_rfl) ?_ _
      refine NoPanic.normal ?_
      clear hHeld
      go_wp2_with fail
      go_ret
      exact ⟨by rw [HRES.out]; rfl, B3.out⟩
    | true =>
      have HCN : Hid _ := hcn
      have HRES : Hid (sta r s ended x = (r.tes.all (fun t => hld s t.1 t.2 ended) && (decide (s.pen = -1) || r.tes.any dsh))) := by show _ = _; unfold sta; rw [hwn, hcn, Bool.or_assoc, sta_dsh]; simp
      clear hwn hcn
      go_enter Try.func16, Try.ntmps16
      go_upto_region 1 with fail
      obtain ⟨WD, hWD⟩ : ∃ WD, w.drew = WD := ⟨_, rfl⟩
      have BD : Hid (Below w.heap.size w WD) := by rw [← hWD]; exact Below.drew (Below.refl _ _)
      refine wp_region_noPanic ?_
      refine wp_region_held_drew (S := fun W => W.cell? ⟨rb, 0, none⟩ = some (.int .i64 r.trm) ∧ W.cell? ⟨rb, 4, none⟩ = some (.slice a2 r.inn.length c2) ∧ W.cell? ⟨rb, 5, none⟩ = some (.slice a3 r.tes.length c3)) (by kernel_rfl) (by rw [hWD]; exact HCR.out _ BD.out) (fun hHeld => ?_)
      rw [hWD] at hHeld ⊢
      clear hWD
      refine wpAnyH_take (i := 0) (oi := { dst := _, op := _, type := _, pos := _, after := _, guard := _ }) (v := ?_) rfl (by kernel_rfl) (by kernel_rfl) (by kernel_rfl) (fun _ _ _ h => h) (Or.inl ⟨by rfl, ?_⟩) (by assumption) ?_
      rotate_left
      · intro W hSw
        (try dsimp only at hSw)
        go_simp
        (try with_reducible rfl)
      try simp only [Act.put, List.setIfInBounds_toArray, List.set_cons_zero, List.set_cons_succ]
      refine wpAnyH_take (i := 1) (oi := { dst := _, op := _, type := _, pos := _, after := _, guard := _ }) (v := ?_) rfl (by kernel_rfl) (by kernel_rfl) (by kernel_rfl) (fun _ _ _ h => h) (Or.inl ⟨by rfl, ?_⟩) (by assumption) ?_
      rotate_left
      · intro W hSw
        (try dsimp only at hSw)
        go_simp
        (try with_reducible rfl)
      try simp only [Act.put, List.setIfInBounds_toArray, List.set_cons_zero, List.set_cons_succ]
      refine wpAnyH_take (i := 2) (oi := { dst := _, op := _, type := _, pos := _, after := _, guard := _ }) (v := ?_) rfl (by kernel_rfl) (by kernel_rfl) (by kernel_rfl) (fun _ _ _ h => h) (Or.inl ⟨by rfl, ?_⟩) (by assumption) ?_
      rotate_left
      · intro W hSw
        (try dsimp only at hSw)
        go_simp
        (try with_reducible rfl)
      try simp only [Act.put, List.setIfInBounds_toArray, List.set_cons_zero, List.set_cons_succ]
      refine wpAnyH_take (i := 3) (oi := { dst := _, op := _, type := _, pos := _, after := _, guard := _ }) (v := ?_) rfl (by kernel_rfl) (by kernel_rfl) (by kernel_rfl) (fun _ _ _ h => h) (Or.inl ⟨by rfl, ?_⟩) (by assumption) ?_
      rotate_left
      · intro W hSw
        (try dsimp only at hSw)
        go_simp
        (try with_reducible rfl)
      try simp only [Act.put, List.setIfInBounds_toArray, List.set_cons_zero, List.set_cons_succ]
      refine wpAnyH_take (i := 4) (oi := { dst := _, op := _, type := _, pos := _, after := _, guard := _ }) (v := ?_) rfl (by kernel_rfl) (by kernel_rfl) (by kernel_rfl) (fun _ _ _ h => h) (Or.inl ⟨by rfl, ?_⟩) (by assumption) ?_
      rotate_left
      · intro W hSw
        (try dsimp only at hSw)
        go_simp
        (try with_reducible rfl)
      try simp only [Act.put, List.setIfInBounds_toArray, List.set_cons_zero, List.set_cons_succ]
      refine wpAnyH_ready (rs := [5]) (by kernel_rfl) (by simp) ?_
      refine AllReadyH.cons (o := { dst := _, op := _, type := _, pos := _, after := _, guard := _ }) rfl (fun K hK => ?_) AllReadyH.nil
      go_simp
      refine (wanted_any r.trm x HX.out WD).mono ?_
      rintro e w2 ⟨rfl, hw2⟩
      rw [hw2, HWN.out]
      clear hw2 w2
      go_wp2_with fail
      refine hK.out _ _ ?_ (fun hHeld => ?_)
      · exact hHeld
      clear hK K
      try simp only [Act.put, List.setIfInBounds_toArray, List.set_cons_zero, List.set_cons_succ]
      refine wpAnyH_take (i := 6) (oi := { dst := _, op := _, type := _, pos := _, after := _, guard := _ }) (v := ?_) rfl (by kernel_rfl) (by kernel_rfl) (by kernel_rfl) (fun _ _ _ h => h) (Or.inl ⟨by rfl, ?_⟩) (by assumption) ?_
      rotate_left
      · intro W hSw
        (try dsimp only at hSw)
        go_simp
        (try with_reducible rfl)
      try simp only [Act.put, List.setIfInBounds_toArray, List.set_cons_zero, List.set_cons_succ]
      refine wpAnyH_take (i := 7) (oi := { dst := _, op := _, type := _, pos := _, after := _, guard := _ }) (v := ?_) rfl (by kernel_rfl) (by kernel_rfl) (by kernel_rfl) (fun _ _ _ h => h) (Or.inl ⟨by rfl, ?_⟩) (by assumption) ?_
      rotate_left
      · intro W hSw
        (try dsimp only at hSw)
        go_simp
        (try with_reducible rfl)
      try simp only [Act.put, List.setIfInBounds_toArray, List.set_cons_zero, List.set_cons_succ]
      refine wpAnyH_take (i := 8) (oi := { dst := _, op := _, type := _, pos := _, after := _, guard := _ }) (v := ?_) rfl (by kernel_rfl) (by kernel_rfl) (by kernel_rfl) (fun _ _ _ h => h) (Or.inl ⟨by rfl, ?_⟩) (by assumption) ?_
      rotate_left
      · intro W hSw
        (try dsimp only at hSw)
        go_simp
        (try with_reducible rfl)
      try simp only [Act.put, List.setIfInBounds_toArray, List.set_cons_zero, List.set_cons_succ]
      refine wpAnyH_take (i := 9) (oi := { dst := _, op := _, type := _, pos := _, after := _, guard := _ }) (v := ?_) rfl (by kernel_rfl) (by kernel_rfl) (by kernel_rfl) (fun _ _ _ h => h) (Or.inl ⟨by rfl, ?_⟩) (by assumption) ?_
      rotate_left
      · intro W hSw
        (try dsimp only at hSw)
        go_simp
        (try with_reducible rfl)
      try simp only [Act.put, List.setIfInBounds_toArray, List.set_cons_zero, List.set_cons_succ]
      refine wpAnyH_take (i := 10) (oi := { dst := _, op := _, type := _, pos := _, after := _, guard := _ }) (v := ?_) rfl (by kernel_rfl) (by kernel_rfl) (by kernel_rfl) (fun _ _ _ h => h) (Or.inl ⟨by rfl, ?_⟩) (by assumption) ?_
      rotate_left
      · intro W hSw
        (try dsimp only at hSw)
        go_simp
        (try with_reducible rfl)
      try simp only [Act.put, List.setIfInBounds_toArray, List.set_cons_zero, List.set_cons_succ]
      refine wpAnyH_take (i := 11) (oi := { dst := _, op := _, type := _, pos := _, after := _, guard := _ }) (v := ?_) rfl (by kernel_rfl) (by kernel_rfl) (by kernel_rfl) (fun _ _ _ h => h) (Or.inl ⟨by rfl, ?_⟩) (by assumption) ?_
      rotate_left
      · intro W hSw
        (try dsimp only at hSw)
        go_simp
        (try with_reducible rfl)
      try simp only [Act.put, List.setIfInBounds_toArray, List.set_cons_zero, List.set_cons_succ]
      refine wpAnyH_take (i := 12) (oi := { dst := _, op := _, type := _, pos := _, after := _, guard := _ }) (v := ?_) rfl (by kernel_rfl) (by kernel_rfl) (by kernel_rfl) (fun _ _ _ h => h) (Or.inl ⟨by rfl, ?_⟩) (by assumption) ?_
      rotate_left
      · intro W hSw
        (try dsimp only at hSw)
        go_simp
        (try with_reducible rfl)
      try simp only [Act.put, List.setIfInBounds_toArray, List.set_cons_zero, List.set_cons_succ]
      refine wpAnyH_ready (rs := [13]) (by kernel_rfl) (by simp) ?_
      refine AllReadyH.cons (o := { dst := _, op := _, type := _, pos := _, after := _, guard := _ }) rfl (fun K hK => ?_) AllReadyH.nil
      go_simp
      refine (mode2_any WD (HS.out.up BD.out) (HSBu.out _ BD.out) Z2.out).mono ?_
      rintro e w2 ⟨rfl, hb2⟩
      have B2 : Hid (Below w.heap.size w w2) := below_trans BD.out hb2
      clear hb2
      go_wp2_with fail
      refine hK.out _ _ ?_ (fun hHeld => ?_)
      · exact HCR.out _ B2.out
      clear hK K
      try simp only [Act.put, List.setIfInBounds_toArray, List.set_cons_zero, List.set_cons_succ]
      refine wpAnyH_ready (rs := [14]) (by kernel_rfl) (by simp) ?_
      refine AllReadyH.cons (o := { dst := _, op := _, type := _, pos := _, after := _, guard := _ }) rfl (fun K hK => ?_) AllReadyH.nil
      go_simp
      refine (contains_any w2 (HR.out.i.up B2.out) (mod s) Z3.out).mono ?_
      rintro e w3 ⟨rfl, hb3⟩
      have B3 : Hid (Below w.heap.size w w3) := below_trans B2.out hb3
      rw [HCN.out]
      clear hb3
      go_wp2_with fail
      refine hK.out _ _ ?_ (fun hHeld => ?_)
      · exact HCR.out _ B3.out
      clear hK K
      try simp only [Act.put, List.setIfInBounds_toArray, List.set_cons_zero, List.set_cons_succ]
      refine wpAnyH_take (i := 15) (oi := { dst := _, op := _, type := _, pos := _, after := _, guard := _ }) (v := ?_) rfl (by kernel_rfl) (by kernel_rfl) (by kernel_rfl) (fun _ _ _ h => h) (Or.inl ⟨by rfl, ?_⟩) (by assumption) ?_
      rotate_left
      · intro W hSw
        (try dsimp only at hSw)
        go_simp
        (try with_reducible rfl)
      try simp only [Act.put, List.setIfInBounds_toArray, List.set_cons_zero, List.set_cons_succ]
      refine wpAnyH_take (i := 16) (oi := { dst := _, op := _, type := _, pos := _, after := _, guard := _ }) (v := ?_) rfl (by kernel_rfl) (by kernel_rfl) (by kernel_rfl) (fun _ _ _ h => h) (Or.inl ⟨by rfl, ?_⟩) (by assumption) ?_
      rotate_left
      · intro W hSw
        (try dsimp only at hSw)
        go_simp
        (try with_reducible rfl)
      try simp only [Act.put, List.setIfInBounds_toArray, List.set_cons_zero, List.set_cons_succ]
      refine wpAnyH_done (by kernel_rfl) ?_ _
      refine NoPanic.normal ?_
      clear hHeld
      obtain ⟨p0, p4, p5⟩ := HCR.out _ B3.out
      obtain ⟨q0, q1, q2, q3, q4⟩ := HCS.out _ B3.out
      obtain ⟨n, hn⟩ : ∃ n, r.tes.length = n := ⟨_, rfl⟩
      have HN : Hid (r.tes.length = n) := hn
      have hpn : (s.pen == -1) = decide (s.pen = -1) := by by_cases h : s.pen = -1 <;> simp [h]
      rw [hn] at p5 HCR
      obtain ⟨sp, hsp⟩ : ∃ sp, decide (s.pen = -1) = sp := ⟨_, rfl⟩
      rw [hsp] at hpn HRES
      clear hn hsp
      go_upto_region 5 with fail
      clear p0 p4 p5 q0 q1 q2 q3 q4 hpn
      go_loopg [9, 39] n (fun gm v9 v39 wr => ∃ (i : Nat) (b : Bool), v39 = .int .i64 (i : Int) ∧ v9 = .bool b ∧ Hid (Below w.heap.size w wr) ∧ Hid (i ≤ n ∧ gm = n - i) ∧ Hid ((r.tes.take i).all (fun t => hld s t.1 t.2 ended) = true) ∧ Hid (b = (sp || (r.tes.take i).any dsh)))
      case atStart => exact ⟨0, sp, rfl, rfl, B3, ⟨Nat.zero_le _, rfl⟩, rfl, (by simp : sp = (sp || ([] : List (Int × Int)).any dsh))⟩
      case round =>
        obtain ⟨i, b, rfl, rfl, HBW, HI, HA, HBB⟩ := hrel
        obtain ⟨p0, p4, p5⟩ := HCR.out _ HBW.out
        by_cases hi : i < n
        · have hil : i < r.tes.length := by have := HN.out; omega
          obtain ⟨g, og, cap, e0, hc⟩ := (HR.out.t.up HBW.out).place (by omega)
          obtain ⟨rfl, -, rfl⟩ := Value.slice.inj e0
          obtain ⟨⟨kk, nn⟩, hkn⟩ : ∃ t, r.tes.getD i (0, 0) = t := ⟨_, rfl⟩
          have c0 := hc (i * 2 + 0) _ ((flat_get tf_len (0, 0) r.tes i 0 hil (by decide)).trans rfl)
          have c1' := hc (i * 2 + 1) _ ((flat_get tf_len (0, 0) r.tes i 1 hil (by decide)).trans rfl)
          rw [hkn] at c0 c1'
          have hall := all_snoc (fun t => hld s t.1 t.2 ended) r.tes (0, 0) i hil
          have hany := any_snoc dsh r.tes (0, 0) i hil
          rw [hkn] at hall hany
          have HALL : Hid _ := hall
          have HANY : Hid _ := hany
          have HGET : Hid ((kk, nn) ∈ r.tes) := by show (kk, nn) ∈ r.tes; rw [← hkn]; exact mem_getD' _ _ _ hil
          have e1 : decide ((i : Int) < (n : Int)) = true := by rw [decide_eq_true_eq]; omega
          have e2 : decide (i < n) = true := by rw [decide_eq_true_eq]; omega
          have e5 : (i : Int) < (n : Int) := by omega
          have hwr := w64n i (by have := Z4.out; have := HN.out; omega)
          have HIL : Hid (i < n) := hi
          simp only [Nat.add_zero] at c0
          rw [← Nat.add_assoc] at c1'
          clear e0 hc hil hkn hall hany
          go_upto_region 7 with fail
          obtain ⟨T, hT⟩ : ∃ T, wr.heap.size = T := ⟨_, rfl⟩
          rw [hT]
          obtain ⟨WT, hWT⟩ : ∃ WT, WT = wr.alloc (.cells #[.int .i64 kk, .int .i64 nn] 53) := ⟨_, rfl⟩
          rw [← hWT]
          have HT : Hid (WT.heap[T]? = some (.cells #[.int .i64 kk, .int .i64 nn] 53 (0, 0))) := by rw [hWT, ← hT]; exact heap_new wr _
          have BT : Hid (Below w.heap.size w WT) := by rw [hWT]; exact below_trans HBW.out (bel_up _ _)
          clear hWT hT c0 c1' p0 p4 p5
          obtain ⟨WD, hWD⟩ : ∃ WD, WT.drew = WD := ⟨_, rfl⟩
          have BE : Hid (Below w.heap.size w WD) := by rw [← hWD]; exact Below.drew BT.out
          have HTD : Hid (WD.heap[T]? = some (.cells #[.int .i64 kk, .int .i64 nn] 53 (0, 0))) := by rw [← hWD]; exact HT.out
          have HSS : Hid (∀ W, Below w.heap.size w W → W.heap[T]? = some (.cells #[.int .i64 kk, .int .i64 nn] 53 (0, 0)) → (W.cell? ⟨sb, 0, none⟩ = some (.slice b1 s.ind.length d1) ∧ W.cell? ⟨sb, 1, none⟩ = some (.int .i64 s.pen) ∧ W.cell? ⟨sb, 2, none⟩ = some (.slice b2 s.que.length d2) ∧ W.cell? ⟨sb, 3, none⟩ = some (.slice b3 s.frm.length d3) ∧ W.cell? ⟨sb, 4, none⟩ = some (.int .u16 (s.flg : Int)) ∧ W.cell? ⟨T, 0, none⟩ = some (.int .i64 kk) ∧ W.cell? ⟨T, 1, none⟩ = some (.int .i64 nn))) := fun W hW hT => by
            obtain ⟨k0, k1, k2, k3, k4⟩ := HCS.out W hW
            exact ⟨k0, k1, k2, k3, k4, rcell hT 0 _ rfl, rcell hT 1 _ rfl⟩
          refine wp_region_noPanic ?_
          refine wp_region_held_drew (S := fun W => W.cell? ⟨sb, 0, none⟩ = some (.slice b1 s.ind.length d1) ∧ W.cell? ⟨sb, 1, none⟩ = some (.int .i64 s.pen) ∧ W.cell? ⟨sb, 2, none⟩ = some (.slice b2 s.que.length d2) ∧ W.cell? ⟨sb, 3, none⟩ = some (.slice b3 s.frm.length d3) ∧ W.cell? ⟨sb, 4, none⟩ = some (.int .u16 (s.flg : Int)) ∧ W.cell? ⟨T, 0, none⟩ = some (.int .i64 kk) ∧ W.cell? ⟨T, 1, none⟩ = some (.int .i64 nn)) (by kernel_rfl) (by rw [hWD]; exact HSS.out _ BE.out HTD.out) (fun hHeld => ?_)
          rw [hWD] at hHeld ⊢
          clear hWD
          refine wpAnyH_take (i := 0) (oi := { dst := _, op := _, type := _, pos := _, after := _, guard := _ }) (v := ?_) rfl (by kernel_rfl) (by kernel_rfl) (by kernel_rfl) (fun _ _ _ h => h) (Or.inl ⟨by rfl, ?_⟩) (by assumption) ?_
          rotate_left
          · intro W hSw
            (try dsimp only at hSw)
            go_simp
            (try with_reducible rfl)
          try simp only [Act.put, List.setIfInBounds_toArray, List.set_cons_zero, List.set_cons_succ]
          refine wpAnyH_take (i := 1) (oi := { dst := _, op := _, type := _, pos := _, after := _, guard := _ }) (v := ?_) rfl (by kernel_rfl) (by kernel_rfl) (by kernel_rfl) (fun _ _ _ h => h) (Or.inl ⟨by rfl, ?_⟩) (by assumption) ?_
          rotate_left
          · intro W hSw
            (try dsimp only at hSw)
            go_simp
            (try with_reducible rfl)
          try simp only [Act.put, List.setIfInBounds_toArray, List.set_cons_zero, List.set_cons_succ]
          refine wpAnyH_take (i := 2) (oi := { dst := _, op := _, type := _, pos := _, after := _, guard := _ }) (v := ?_) rfl (by kernel_rfl) (by kernel_rfl) (by kernel_rfl) (fun _ _ _ h => h) (Or.inl ⟨by rfl, ?_⟩) (by assumption) ?_
          rotate_left
          · intro W hSw
            (try dsimp only at hSw)
            go_simp
            (try with_reducible rfl)
          try simp only [Act.put, List.setIfInBounds_toArray, List.set_cons_zero, List.set_cons_succ]
          refine wpAnyH_take (i := 3) (oi := { dst := _, op := _, type := _, pos := _, after := _, guard := _ }) (v := ?_) rfl (by kernel_rfl) (by kernel_rfl) (by kernel_rfl) (fun _ _ _ h => h) (Or.inl ⟨by rfl, ?_⟩) (by assumption) ?_
          rotate_left
          · intro W hSw
            (try dsimp only at hSw)
            go_simp
            (try with_reducible rfl)
          try simp only [Act.put, List.setIfInBounds_toArray, List.set_cons_zero, List.set_cons_succ]
          refine wpAnyH_take (i := 4) (oi := { dst := _, op := _, type := _, pos := _, after := _, guard := _ }) (v := ?_) rfl (by kernel_rfl) (by kernel_rfl) (by kernel_rfl) (fun _ _ _ h => h) (Or.inl ⟨by rfl, ?_⟩) (by assumption) ?_
          rotate_left
          · intro W hSw
            (try dsimp only at hSw)
            go_simp
            (try with_reducible rfl)
          try simp only [Act.put, List.setIfInBounds_toArray, List.set_cons_zero, List.set_cons_succ]
          refine wpAnyH_ready (rs := [5]) (by kernel_rfl) (by simp) ?_
          refine AllReadyH.cons (o := { dst := _, op := _, type := _, pos := _, after := _, guard := _ }) rfl (fun K hK => ?_) AllReadyH.nil
          go_simp
          refine (holds2_any kk nn ended WD (HS.out.up BE.out) HF.out Z1.out).mono ?_
          rintro e w4 ⟨rfl, hb4⟩
          have B4 : Hid (Below w.heap.size w w4) := below_trans BE.out hb4
          have HT4 : Hid (w4.heap[T]? = some (.cells #[.int .i64 kk, .int .i64 nn] 53 (0, 0))) := (hb4.block _ (lt_of_heap HTD.out)).trans HTD.out
          clear hb4
          go_wp2_with fail
          refine hK.out _ _ ?_ (fun hHeld => ?_)
          · exact HSS.out _ B4.out HT4.out
          clear hK K
          try simp only [Act.put, List.setIfInBounds_toArray, List.set_cons_zero, List.set_cons_succ]
          refine wpAnyH_take (i := 6) (oi := { dst := _, op := _, type := _, pos := _, after := _, guard := _ }) (v := ?_) rfl (by kernel_rfl) (by kernel_rfl) (by kernel_rfl) (fun _ _ _ h => h) (Or.inl ⟨by rfl, ?_⟩) (by assumption) ?_
          rotate_left
          · intro W hSw
            (try dsimp only at hSw)
            go_simp
            (try with_reducible rfl)
          try simp only [Act.put, List.setIfInBounds_toArray, List.set_cons_zero, List.set_cons_succ]
          refine wpAnyH_done (by kernel_rfl) ?_ _
          refine NoPanic.normal ?_
          clear hHeld
          have t0 := rcell HT4.out 0 _ rfl
          cases hh : hld s kk nn ended with
          | false =>
            have HRS : Hid (sta r s ended x = false) := by
              show sta r s ended x = false
              rw [HRES.out]
              have : (r.tes.all fun t => hld s t.1 t.2 ended) = false := by
                rw [← Bool.not_eq_true, List.all_eq_true]
                intro h
                have := h _ HGET.out
                simp only [hh] at this
                cases this
              rw [this]; rfl
            go_wp2_with fail
            go_ret
            exact ⟨by rw [HRS.out]; rfl, B4.out⟩
          | true =>
            have HAN : Hid ((r.tes.take (i + 1)).all (fun t => hld s t.1 t.2 ended) = true) := by show _ = _; rw [HALL.out, HA.out, hh]; rfl
            clear HALL HA
            by_cases k1 : kk = 1
            · subst k1
              have HBN : Hid (true = (sp || (r.tes.take (i + 1)).any dsh)) := by show _ = _; rw [HANY.out]; simp [dsh]
              clear HANY
              go_wp2_with fail
              go_roundg (n - (i + 1))
              case measure => have := HI.out; have := HIL.out; omega
              case rel => exact ⟨i + 1, true, by first | rfl | (rw [show (i : Int) + 1 = ((i + 1 : Nat) : Int) by omega]), rfl, B4, ⟨HIL.out, rfl⟩, HAN, HBN⟩
            by_cases k2 : kk = 2
            · subst k2
              have HBN : Hid (true = (sp || (r.tes.take (i + 1)).any dsh)) := by show _ = _; rw [HANY.out]; simp [dsh]
              clear HANY k1
              go_wp2_with fail
              go_roundg (n - (i + 1))
              case measure => have := HI.out; have := HIL.out; omega
              case rel => exact ⟨i + 1, true, by first | rfl | (rw [show (i : Int) + 1 = ((i + 1 : Nat) : Int) by omega]), rfl, B4, ⟨HIL.out, rfl⟩, HAN, HBN⟩
            have HBN : Hid (b = (sp || (r.tes.take (i + 1)).any dsh)) := by show _ = _; rw [HANY.out, HBB.out]; simp [dsh, k1, k2]
            have y1 : (kk == 1) = false := by rw [beq_eq_false_iff_ne]; exact k1
            have y2 : (kk == 2) = false := by rw [beq_eq_false_iff_ne]; exact k2
            clear HANY k1 k2
            go_wp2_with fail
            go_roundg (n - (i + 1))
            case measure => have := HI.out; have := HIL.out; omega
            case rel => exact ⟨i + 1, b, by first | rfl | (rw [show (i : Int) + 1 = ((i + 1 : Nat) : Int) by omega]), rfl, B4, ⟨HIL.out, rfl⟩, HAN, HBN⟩
        · have e1 : decide ((i : Int) < (n : Int)) = false := by rw [decide_eq_false_iff_not]; omega
          have e2 : decide (i < n) = false := by rw [decide_eq_false_iff_not]; omega
          have HRS : Hid (sta r s ended x = b) := by
            show sta r s ended x = b
            have hin : i = r.tes.length := by have := HI.out; have := HN.out; omega
            have h1 := HA.out
            have h2 := HBB.out
            rw [hin, List.take_length] at h1 h2
            rw [HRES.out, h1, h2]; rfl
          clear hi
          go_wp2_with fail
          go_ret
          exact ⟨by rw [HRS.out]; rfl, HBW.out⟩
end Go.Proofs.Ytdchopljojlcpaa
