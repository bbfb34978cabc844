import Derived.Test.YthfijmabagjdkaaCub
namespace Go.Proofs.Ythfijmabagjdkaa
open Go.RowKit Go.Maps

theorem cell_four_new (w : World) (x y z u : Value) (t : TypeId) : ∀ j v, [x, y, z, u][j]? = some v → (w.alloc (.cells #[x, y, z, u] t)).cell? ((⟨w.heap.size, 0, none⟩ : Addr).add j) = some v := by
  intro j u hj
  rw [addPl, Nat.zero_add, Lib.cell_of_heap (heap_new w _)]
  simpa using hj
theorem cell_one_new (w : World) (x : Value) (t : TypeId) : ∀ j v, [x][j]? = some v → (w.alloc (.cells #[x] t)).cell? ((⟨w.heap.size, 0, none⟩ : Addr).add j) = some v := by
  intro j u hj
  rw [addPl, Nat.zero_add, Lib.cell_of_heap (heap_new w _)]
  simpa using hj
theorem cell_up {w : World} {a : Addr} {v : Value} (o : Obj) (h : w.cell? a = some v) : (w.alloc o).cell? a = some v := below_cell (bel_up w o) h
theorem Cu.lB {B : Nat} {W : World} {b : Nat} {vb vw : Value} {c : Cs} (h : Cu B W b vb vw c) : B ≤ W.heap.size := Nat.le_of_lt (Nat.lt_of_le_of_lt h.lo h.lt)
theorem Cu.appW {B : Nat} {W W2 : World} {b : Nat} {vb vw v' : Value} {c : Cs} (h : Cu B W b vb vw c) {x : Wd} (hg : W.grownBy W2 vw.ownBlock) (hr : Wow B W2 v' (c.ws ++ [x])) : Cu B (W2.setCell ⟨b, 5, none⟩ v') b vb v' { c with ws := c.ws ++ [x] } ∧ Below B W (W2.setCell ⟨b, 5, none⟩ v') := by
  have hb2 := (hg.block b h.lt (fun e => h.nw e.symm)).trans h.blk
  have hB2 : Below B W W2 := (Below.refl B W).grown hg h.lB (fun k e => (row_tag h.hw k e).1)
  have h2 : Byt B W2 vb c.bs := h.hb.kept hg (tag_ne h.hb h.hw (by decide))
  exact ⟨⟨by rw [blk_set v' hb2]; rfl, h2.kept grown_set (.inr h.nb), hr.kept grown_set (.inr (tag_ne_blk hr hb2 (by decide))), h.lo⟩, hB2.trans ((Below.refl B W2).setCell (p := ⟨b, 5, none⟩) h.lo _)⟩
theorem Cu.appB {B : Nat} {W W2 : World} {b : Nat} {vb vw v' : Value} {c : Cs} (h : Cu B W b vb vw c) {x : UInt8} (hg : W.grownBy W2 vb.ownBlock) (hr : Byt B W2 v' (c.bs ++ [x])) : Cu B (W2.setCell ⟨b, 4, none⟩ v') b v' vw { c with bs := c.bs ++ [x] } ∧ Below B W (W2.setCell ⟨b, 4, none⟩ v') := by
  have hb2 := (hg.block b h.lt (fun e => h.nb e.symm)).trans h.blk
  have hB2 : Below B W W2 := (Below.refl B W).grown hg h.lB (fun k e => (row_tag h.hb k e).1)
  have h2 : Wow B W2 vw c.ws := h.hw.kept hg (tag_ne h.hw h.hb (by decide))
  exact ⟨⟨by rw [blk_set v' hb2]; rfl, hr.kept grown_set (.inr (tag_ne_blk hr hb2 (by decide))), h2.kept grown_set (.inr h.nw), h.lo⟩, hB2.trans ((Below.refl B W2).setCell (p := ⟨b, 4, none⟩) h.lo _)⟩
theorem byt_zero {B : Nat} {W : World} {g cap : Nat} {l : List UInt8} (h : Byt B W (.slice (some ⟨g, 0, none⟩) l.length cap) l) : Byt B W (.slice (some ⟨g, 0, none⟩) 0 cap) [] := by
  obtain ⟨_, h1 | ⟨g', cap', cur, e, h1, h2, h3, h4, h5, h6⟩⟩ := h
  · cases h1.1
  · injection e with e1 e2 e3
    injection e1 with e1
    injection e1 with e1
    subst e1 e3
    exact ⟨rfl, .inr ⟨g, cap, cur, rfl, h1, h2, Nat.zero_le _, h4, h5, by simp [Lib.byteCells]⟩⟩
theorem clone_any (s : ByteArray) (w : World) (hlim : s.size ≤ 281474976710656) : Calls Try.prog 53 #[.string s] w fun e w' => e = .returned (.string s) ∧ Below w.heap.size w w' := by
  go_enter Try.func53, Try.ntmps53
  go_wp2_with (go_at_call 62; refine (Try.stringslite_Clone _ _ hlim).mono ?_; rintro e w' ⟨rfl, hb⟩; have HB : Hid _ := hb; clear hb)
  go_ret
  exact ⟨rfl, HB.out⟩
/-- The error of a word that is whole, or what was there. -/
def ce (kd : Int) (z : Nat) (c : Cs) : Int × Int := if kd = 1 ∧ 24 < z then (83, c.f) else if 65535 < c.n then (84, c.f) else (c.co, c.pl)
/-- The cutter behind a word. -/
def cw (c : Cs) (kd : Int) (t : ByteArray) : Cs := { c with ws := c.ws ++ [⟨kd, t.data.toList, c.n, c.f⟩], n := 0, bs := [], co := (ce kd t.size c).1, pl := (ce kd t.size c).2 }

set_option maxRecDepth 100000 in
set_option maxHeartbeats 8000000 in
theorem cut_any {B b : Nat} {vb vw : Value} {c : Cs} (kd : Int) (t : ByteArray) (ht : t.size ≤ 1000000000000) (hl : c.ws.length ≤ 1000000000000) (w : World) (h : Cu B w b vb vw c) :
    Calls Try.prog 36 #[.pointer (some ⟨b, 0, none⟩), .int .i64 kd, .string t] w fun e w' => e = .returned (.tuple #[]) ∧ Below B w w' ∧ ∃ vb' vw', Cu B w' b vb' vw' (cw c kd t) := by
  have HH : Hid (Cu B w b vb vw c) := h
  have HT : Hid (t.size ≤ 281474976710656) := by show t.size ≤ 281474976710656; omega
  have HL : Hid (c.ws.length ≤ 1000000000000) := hl
  obtain ⟨iE, hi3, hx0, hx1, hx2⟩ := info_parts infoW
  have HIE : Hid (Try.prog.info? 41 = some iE ∧ iE.zero = some (.agg #[.int .i64 0, .string ⟨#[]⟩, .int .i64 0, .int .i64 0]) ∧ iE.size = 4 ∧ iE.bytes = 40) := ⟨hi3, hx0, hx1, hx2⟩
  obtain ⟨E, hE⟩ : ∃ E, ce kd t.size c = E := ⟨_, rfl⟩
  have HC : Hid (cw c kd t = { c with ws := c.ws ++ [⟨kd, t.data.toList, c.n, c.f⟩], n := 0, bs := [], co := E.1, pl := E.2 }) := by unfold cw; rw [hE]; exact rfl
  clear h ht hl hi3 hx0 hx1 hx2
  go_enter Try.func36, Try.ntmps36
  go_upto_block 0 with fail
  go_cut [] from 3 (fun wd => Hid (Cu B wd b vb vw { c with co := E.1, pl := E.2 }) ∧ Hid (Below B w wd))
  case first =>
    have k2 := HH.out.c2
    have k3 := HH.out.c3
    unfold ce at hE
    by_cases c1 : kd = 1 ∧ 24 < t.size
    · obtain ⟨rfl, c2⟩ := c1
      rw [if_pos ⟨rfl, c2⟩] at hE
      subst hE
      have d1 : decide ((24 : Int) < (t.size : Int)) = true := by rw [decide_eq_true_eq]; omega
      have d2 : decide (24 < t.size) = true := by rw [decide_eq_true_eq]; omega
      clear c2
      go_wp2_with fail
      refine (fail_any 83 c.f w HH.out).mono ?_
      rintro e w1 ⟨rfl, h1, b1⟩
      have H1 : Hid _ := h1
      have B1 : Hid _ := b1
      clear h1 b1 k2 k3
      go_wp2_with fail
      go_meet
      exact ⟨H1, B1⟩
    · rw [if_neg c1] at hE
      by_cases c2 : 65535 < c.n
      · rw [if_pos c2] at hE
        subst hE
        have d1 : decide ((65535 : Int) < c.n) = true := by rw [decide_eq_true_eq]; exact c2
        by_cases hkd : kd = 1
        · subst hkd
          have hz : ¬ 24 < t.size := fun h => c1 ⟨rfl, h⟩
          have d2 : decide ((24 : Int) < (t.size : Int)) = false := by rw [decide_eq_false_iff_not]; omega
          have d3 : decide (24 < t.size) = false := by rw [decide_eq_false_iff_not]; omega
          clear c1 c2 hz
          go_wp2_with fail
          refine (fail_any 84 c.f w HH.out).mono ?_
          rintro e w1 ⟨rfl, h1, b1⟩
          have H1 : Hid _ := h1
          have B1 : Hid _ := b1
          clear h1 b1 k2 k3
          go_wp2_with fail
          go_meet
          exact ⟨H1, B1⟩
        · clear c1 c2
          go_wp2_with fail
          refine (fail_any 84 c.f w HH.out).mono ?_
          rintro e w1 ⟨rfl, h1, b1⟩
          have H1 : Hid _ := h1
          have B1 : Hid _ := b1
          clear h1 b1 k2 k3
          go_wp2_with fail
          go_meet
          exact ⟨H1, B1⟩
      · rw [if_neg c2] at hE
        subst hE
        have d1 : decide ((65535 : Int) < c.n) = false := by rw [decide_eq_false_iff_not]; exact c2
        by_cases hkd : kd = 1
        · subst hkd
          have hz : ¬ 24 < t.size := fun h => c1 ⟨rfl, h⟩
          have d2 : decide ((24 : Int) < (t.size : Int)) = false := by rw [decide_eq_false_iff_not]; omega
          have d3 : decide (24 < t.size) = false := by rw [decide_eq_false_iff_not]; omega
          clear c1 c2 hz
          go_wp2_with fail
          go_meet
          exact ⟨HH, Below.refl _ _⟩
        · clear c1 c2
          go_wp2_with fail
          go_meet
          exact ⟨HH, Below.refl _ _⟩
  case rest =>
    obtain ⟨H1, B1⟩ := hcut
    clear HH hE
    go_upto_region 4 with fail
    obtain ⟨c', hc'⟩ : ∃ c', { c with co := E.1, pl := E.2 } = c' := ⟨_, rfl⟩
    have HWS : Hid (c'.ws = c.ws) := by rw [← hc']; exact rfl
    have HCN : Hid (c'.n = c.n ∧ c'.f = c.f) := by rw [← hc']; exact ⟨rfl, rfl⟩
    have HC2 : Hid (cw c kd t = { c' with ws := c'.ws ++ [⟨kd, t.data.toList, c'.n, c'.f⟩], n := 0, bs := [] }) := by rw [← hc']; exact HC.out
    rw [hc'] at H1
    have HL2 : Hid (c'.ws.length ≤ 1000000000000) := by rw [HWS.out]; exact HL.out
    clear hc' HC HL HWS HCN
    obtain ⟨x, hx⟩ : ∃ x : Wd, x = ⟨kd, t.data.toList, c'.n, c'.f⟩ := ⟨_, rfl⟩
    have HX : Hid (wC [x] = [.int .i64 kd, .string t, .int .i64 c'.n, .int .i64 c'.f]) := by rw [hx]; exact rfl
    rw [← hx] at HC2
    clear hx
    go_cut [] from 3 (fun wd => ∃ v', Hid (Cu B wd b vb v' { c' with ws := c'.ws ++ [x] }) ∧ Hid (Below B w wd))
    case first =>
      obtain ⟨a1, q1, a2, q2, rfl, rfl⟩ := H1.out.shapes
      obtain ⟨WD, hWD⟩ : ∃ WD, wc.drew = WD := ⟨_, rfl⟩
      have HMD : Hid (Cu B WD b (.slice a1 c'.bs.length q1) (.slice a2 c'.ws.length q2) c') := by rw [← hWD]; exact H1.out.drew
      have HBD : Hid (Below B w WD) := by rw [← hWD]; exact B1.out.trans (Below.drew (Below.refl _ _))
      clear H1 B1
      have k0 := HMD.out.c5
      refine wp_region_noPanic ?_
      refine wp_region_held_drew (S := fun W => W.cell? ⟨b, 3, none⟩ = some (.int .i64 c'.n) ∧ W.cell? ⟨b, 2, none⟩ = some (.int .i64 c'.f)) (by kernel_rfl) (by rw [hWD]; exact ⟨HMD.out.c3, HMD.out.c2⟩) (fun hHeld => ?_)
      rw [hWD] at hHeld ⊢
      clear hWD
      refine wpAnyH_take (i := 0) (oi := { dst := _, op := _, type := _, pos := _, after := _, guard := _ }) (v := ?_) rfl (by kernel_rfl) (by kernel_rfl) (by kernel_rfl) (fun _ _ _ h => h) (Or.inl ⟨by rfl, ?_⟩) (by assumption) ?_
      rotate_left
      · intro W hSw
        (try dsimp only at hSw)
        go_simp
        (try with_reducible rfl)
      try simp only [Act.put, List.setIfInBounds_toArray, List.set_cons_zero, List.set_cons_succ]
      refine wpAnyH_take (i := 1) (oi := { dst := _, op := _, type := _, pos := _, after := _, guard := _ }) (v := ?_) rfl (by kernel_rfl) (by kernel_rfl) (by kernel_rfl) (fun _ _ _ h => h) (Or.inl ⟨by rfl, ?_⟩) (by assumption) ?_
      rotate_left
      · intro W hSw
        (try dsimp only at hSw)
        go_simp
        (try with_reducible rfl)
      try simp only [Act.put, List.setIfInBounds_toArray, List.set_cons_zero, List.set_cons_succ]
      refine wpAnyH_take (i := 2) (oi := { dst := _, op := _, type := _, pos := _, after := _, guard := _ }) (v := ?_) rfl (by kernel_rfl) (by kernel_rfl) (by kernel_rfl) (fun _ _ _ h => h) (Or.inl ⟨by rfl, ?_⟩) (by assumption) ?_
      rotate_left
      · intro W hSw
        (try dsimp only at hSw)
        go_simp
        (try with_reducible rfl)
      try simp only [Act.put, List.setIfInBounds_toArray, List.set_cons_zero, List.set_cons_succ]
      refine wpAnyH_take (i := 3) (oi := { dst := _, op := _, type := _, pos := _, after := _, guard := _ }) (v := ?_) rfl (by kernel_rfl) (by kernel_rfl) (by kernel_rfl) (fun _ _ _ h => h) (Or.inl ⟨by rfl, ?_⟩) (by assumption) ?_
      rotate_left
      · intro W hSw
        (try dsimp only at hSw)
        go_simp
        (try with_reducible rfl)
      try simp only [Act.put, List.setIfInBounds_toArray, List.set_cons_zero, List.set_cons_succ]
      refine wpAnyH_take (i := 5) (oi := { dst := _, op := _, type := _, pos := _, after := _, guard := _ }) (v := ?_) rfl (by kernel_rfl) (by kernel_rfl) (by kernel_rfl) (fun _ _ _ h => h) (Or.inl ⟨by rfl, ?_⟩) (by assumption) ?_
      rotate_left
      · intro W hSw
        (try dsimp only at hSw)
        go_simp
        (try with_reducible rfl)
      try simp only [Act.put, List.setIfInBounds_toArray, List.set_cons_zero, List.set_cons_succ]
      refine wpAnyH_take (i := 6) (oi := { dst := _, op := _, type := _, pos := _, after := _, guard := _ }) (v := ?_) rfl (by kernel_rfl) (by kernel_rfl) (by kernel_rfl) (fun _ _ _ h => h) (Or.inl ⟨by rfl, ?_⟩) (by assumption) ?_
      rotate_left
      · intro W hSw
        (try dsimp only at hSw)
        go_simp
        (try with_reducible rfl)
      try simp only [Act.put, List.setIfInBounds_toArray, List.set_cons_zero, List.set_cons_succ]
      refine wpAnyH_take (i := 8) (oi := { dst := _, op := _, type := _, pos := _, after := _, guard := _ }) (v := ?_) rfl (by kernel_rfl) (by kernel_rfl) (by kernel_rfl) (fun _ _ _ h => h) (Or.inl ⟨by rfl, ?_⟩) (by assumption) ?_
      rotate_left
      · intro W hSw
        (try dsimp only at hSw)
        go_simp
        (try with_reducible rfl)
      try simp only [Act.put, List.setIfInBounds_toArray, List.set_cons_zero, List.set_cons_succ]
      refine wpAnyH_take (i := 9) (oi := { dst := _, op := _, type := _, pos := _, after := _, guard := _ }) (v := ?_) rfl (by kernel_rfl) (by kernel_rfl) (by kernel_rfl) (fun _ _ _ h => h) (Or.inl ⟨by rfl, ?_⟩) (by assumption) ?_
      rotate_left
      · intro W hSw
        (try dsimp only at hSw)
        go_simp
        (try with_reducible rfl)
      try simp only [Act.put, List.setIfInBounds_toArray, List.set_cons_zero, List.set_cons_succ]
      refine wpAnyH_take (i := 10) (oi := { dst := _, op := _, type := _, pos := _, after := _, guard := _ }) (v := ?_) rfl (by kernel_rfl) (by kernel_rfl) (by kernel_rfl) (fun _ _ _ h => h) (Or.inl ⟨by rfl, ?_⟩) (by assumption) ?_
      rotate_left
      · intro W hSw
        (try dsimp only at hSw)
        go_simp
        (try with_reducible rfl)
      try simp only [Act.put, List.setIfInBounds_toArray, List.set_cons_zero, List.set_cons_succ]
      refine wpAnyH_take (i := 11) (oi := { dst := _, op := _, type := _, pos := _, after := _, guard := _ }) (v := ?_) rfl (by kernel_rfl) (by kernel_rfl) (by kernel_rfl) (fun _ _ _ h => h) (Or.inl ⟨by rfl, ?_⟩) (by assumption) ?_
      rotate_left
      · intro W hSw
        (try dsimp only at hSw)
        obtain ⟨hs1, hs2⟩ := hSw
        go_simp
        (try with_reducible rfl)
      try simp only [Act.put, List.setIfInBounds_toArray, List.set_cons_zero, List.set_cons_succ]
      refine wpAnyH_take (i := 12) (oi := { dst := _, op := _, type := _, pos := _, after := _, guard := _ }) (v := ?_) rfl (by kernel_rfl) (by kernel_rfl) (by kernel_rfl) (fun _ _ _ h => h) (Or.inl ⟨by rfl, ?_⟩) (by assumption) ?_
      rotate_left
      · intro W hSw
        (try dsimp only at hSw)
        go_simp
        (try with_reducible rfl)
      try simp only [Act.put, List.setIfInBounds_toArray, List.set_cons_zero, List.set_cons_succ]
      refine wpAnyH_take (i := 13) (oi := { dst := _, op := _, type := _, pos := _, after := _, guard := _ }) (v := ?_) rfl (by kernel_rfl) (by kernel_rfl) (by kernel_rfl) (fun _ _ _ h => h) (Or.inl ⟨by rfl, ?_⟩) (by assumption) ?_
      rotate_left
      · intro W hSw
        (try dsimp only at hSw)
        go_simp
        (try with_reducible rfl)
      try simp only [Act.put, List.setIfInBounds_toArray, List.set_cons_zero, List.set_cons_succ]
      refine wpAnyH_take (i := 14) (oi := { dst := _, op := _, type := _, pos := _, after := _, guard := _ }) (v := ?_) rfl (by kernel_rfl) (by kernel_rfl) (by kernel_rfl) (fun _ _ _ h => h) (Or.inl ⟨by rfl, ?_⟩) (by assumption) ?_
      rotate_left
      · intro W hSw
        (try dsimp only at hSw)
        go_simp
        (try with_reducible rfl)
      try simp only [Act.put, List.setIfInBounds_toArray, List.set_cons_zero, List.set_cons_succ]
      refine wpAnyH_take (i := 15) (oi := { dst := _, op := _, type := _, pos := _, after := _, guard := _ }) (v := ?_) rfl (by kernel_rfl) (by kernel_rfl) (by kernel_rfl) (fun _ _ _ h => h) (Or.inl ⟨by rfl, ?_⟩) (by assumption) ?_
      rotate_left
      · intro W hSw
        (try dsimp only at hSw)
        obtain ⟨hs1, hs2⟩ := hSw
        go_simp
        (try with_reducible rfl)
      try simp only [Act.put, List.setIfInBounds_toArray, List.set_cons_zero, List.set_cons_succ]
      refine wpAnyH_ready (rs := [4, 7]) (by kernel_rfl) (by simp) ?_
      refine AllReadyH.cons (o := { dst := _, op := _, type := _, pos := _, after := _, guard := _ }) rfl (fun K hK => ?_) (AllReadyH.cons (o := { dst := _, op := _, type := _, pos := _, after := _, guard := _ }) rfl (fun K hK => ?_) (AllReadyH.nil))
      · go_simp
        refine hK.out _ _ ?_ (fun hHeld => ?_)
        · exact hHeld
        clear hK K
        try simp only [Act.put, List.setIfInBounds_toArray, List.set_cons_zero, List.set_cons_succ]
        refine wpAnyH_ready (rs := [7]) (by kernel_rfl) (by simp) ?_
        refine AllReadyH.cons (o := { dst := _, op := _, type := _, pos := _, after := _, guard := _ }) rfl (fun K hK => ?_) AllReadyH.nil
        go_simp
        refine (clone_any t _ HT.out).mono ?_
        rintro e w6 ⟨rfl, hb6⟩
        have HM6 : Hid (Cu B w6 b (.slice a1 c'.bs.length q1) (.slice a2 c'.ws.length q2) c') := HMD.out.up hb6
        have HB6 : Hid (Below B w w6) := HBD.out.trans (hb6.mono HMD.out.lB)
        have k6 := HM6.out.c5
        clear hb6 k0
        go_wp2_with fail
        refine hK.out _ _ ?_ (fun hHeld => ?_)
        · exact ⟨HM6.out.c3, HM6.out.c2⟩
        clear hK K
        try simp only [Act.put, List.setIfInBounds_toArray, List.set_cons_zero, List.set_cons_succ]
        refine wpAnyH_take (i := 16) (oi := { dst := _, op := _, type := _, pos := _, after := _, guard := _ }) (v := ?_) rfl (by kernel_rfl) (by kernel_rfl) (by kernel_rfl) (fun _ _ _ h => h) (Or.inl ⟨by rfl, ?_⟩) (by assumption) ?_
        rotate_left
        · intro W hSw
          (try dsimp only at hSw)
          go_simp
          (try with_reducible rfl)
        try simp only [Act.put, List.setIfInBounds_toArray, List.set_cons_zero, List.set_cons_succ]
        refine wpAnyH_ready (rs := [17]) (by kernel_rfl) (by simp) ?_
        refine AllReadyH.cons (o := { dst := _, op := _, type := _, pos := _, after := _, guard := _ }) rfl (fun K hK => ?_) AllReadyH.nil
        go_simp
        refine hK.out _ _ ?_ (fun hHeld => ?_)
        · exact ⟨cell_up _ hHeld.1, cell_up _ hHeld.2⟩
        clear hK K
        try simp only [Act.put, List.setIfInBounds_toArray, List.set_cons_zero, List.set_cons_succ]
        have k0a : (w6.alloc (.cells #[.int .i64 kd, .string t, .int .i64 c'.n, .int .i64 c'.f] 41)).cell? ⟨b, 5, none⟩ = some (.slice a2 c'.ws.length q2) := cell_up _ k6
        refine wpAnyH_ready (rs := [18]) (by kernel_rfl) (by simp) ?_
        refine AllReadyH.cons (o := { dst := _, op := _, type := _, pos := _, after := _, guard := _ }) rfl (fun K hK => ?_) AllReadyH.nil
        refine step_append_lies _ rfl (.tmp 36) (.tmp 49) 33 rfl B 41 iE _ 4 40 Try.underlying33 HIE.out.1 HIE.out.2.1 HIE.out.2.2.1 HIE.out.2.2.2 rfl (by decide) (.slice a2 c'.ws.length q2) _ _ rfl (HM6.out.hw.alloc _) ⟨w6.heap.size, 0, none⟩ 1 1 [.int .i64 kd, .string t, .int .i64 c'.n, .int .i64 c'.f] rfl rfl (cell_four_new _ _ _ _ _ _) (by simp [Value.oneCell']) (by decide) (by have := HL2.out; unfold maxLen; omega) (by have := HL2.out; omega) (by have := HM6.out.lB; simp; omega) (w6.heap.size + 1) (by simp) ?_
        intro g' cap' w' h2 h3 h4 _
        have HO : Hid (Wow B w' (.slice (some ⟨g', 0, none⟩) (c'.ws.length + 1) cap') (c'.ws ++ [x])) := by show World.ownsRow _ _ _ _ _ _ _; rw [wC_app, List.length_append, HX.out]; exact h2
        have HG : Hid (w6.grownBy w' (Value.ownBlock (.slice a2 c'.ws.length q2))) := (World.grownBy_alloc _ _ _).trans h3
        have k0b : w'.cell? ⟨b, 5, none⟩ = some (.slice a2 c'.ws.length q2) := h3.cell k0a (fun e => HM6.out.nw e.symm)
        have f0b : w'.frozen? ⟨b, 5, none⟩ = false := Lib.frozen_of_heap ((HG.out.block b HM6.out.lt (fun e => HM6.out.nw e.symm)).trans HM6.out.blk) 5
        have s0b : w'.cell? ⟨b, 3, none⟩ = some (.int .i64 c'.n) ∧ w'.cell? ⟨b, 2, none⟩ = some (.int .i64 c'.f) := ⟨h3.cell hHeld.1 (fun e => HM6.out.nw e.symm), h3.cell hHeld.2 (fun e => HM6.out.nw e.symm)⟩
        clear h2 h3 h4 k6 k0a
        refine hK.out _ _ ?_ (fun hHeld => ?_)
        · exact s0b
        clear hK K
        try simp only [Act.put, List.setIfInBounds_toArray, List.set_cons_zero, List.set_cons_succ]
        clear s0b
        refine wpAnyH_take (i := 19) (oi := { dst := _, op := _, type := _, pos := _, after := _, guard := _ }) (v := ?_) rfl (by kernel_rfl) (by kernel_rfl) (by kernel_rfl) (fun _ _ _ h => h) (Or.inl ⟨by rfl, ?_⟩) (by assumption) ?_
        rotate_left
        · intro W hSw
          (try dsimp only at hSw)
          go_simp
          (try with_reducible rfl)
        try simp only [Act.put, List.setIfInBounds_toArray, List.set_cons_zero, List.set_cons_succ]
        refine wpAnyH_take (i := 20) (oi := { dst := _, op := _, type := _, pos := _, after := _, guard := _ }) (v := ?_) rfl (by kernel_rfl) (by kernel_rfl) (by kernel_rfl) (fun _ _ _ h => h) (Or.inl ⟨by rfl, ?_⟩) (by assumption) ?_
        rotate_left
        · intro W hSw
          (try dsimp only at hSw)
          go_simp
          (try with_reducible rfl)
        try simp only [Act.put, List.setIfInBounds_toArray, List.set_cons_zero, List.set_cons_succ]
        refine wpAnyH_ready (rs := [21]) (by kernel_rfl) (by simp) ?_
        refine AllReadyH.cons (o := { dst := _, op := _, type := _, pos := _, after := _, guard := _ }) rfl (fun K hK => ?_) AllReadyH.nil
        go_simp
        refine hK.out _ _ ?_ (fun hHeld => ?_)
        · exact ⟨by rw [World.cell?_setCell_other _ _ _ _ (fun h => by cases h)]; exact hHeld.1, by rw [World.cell?_setCell_other _ _ _ _ (fun h => by cases h)]; exact hHeld.2⟩
        clear hK K
        try simp only [Act.put, List.setIfInBounds_toArray, List.set_cons_zero, List.set_cons_succ]
        refine wpAnyH_done (by kernel_rfl) ?_ _
        clear hHeld k0b f0b
        refine NoPanic.normal ?_
        obtain ⟨hq1, hq2⟩ := HM6.out.appW HG.out HO.out
        have HQ1 : Hid _ := hq1
        have HQ2 : Hid _ := HB6.out.trans hq2
        clear hq1 hq2
        go_wp2_with fail
        go_meet
        exact ⟨_, HQ1, HQ2⟩
      · go_simp
        refine (clone_any t _ HT.out).mono ?_
        rintro e w6 ⟨rfl, hb6⟩
        have HM6 : Hid (Cu B w6 b (.slice a1 c'.bs.length q1) (.slice a2 c'.ws.length q2) c') := HMD.out.up hb6
        have HB6 : Hid (Below B w w6) := HBD.out.trans (hb6.mono HMD.out.lB)
        have k6 := HM6.out.c5
        clear hb6 k0
        go_wp2_with fail
        refine hK.out _ _ ?_ (fun hHeld => ?_)
        · exact ⟨HM6.out.c3, HM6.out.c2⟩
        clear hK K
        try simp only [Act.put, List.setIfInBounds_toArray, List.set_cons_zero, List.set_cons_succ]
        refine wpAnyH_take (i := 16) (oi := { dst := _, op := _, type := _, pos := _, after := _, guard := _ }) (v := ?_) rfl (by kernel_rfl) (by kernel_rfl) (by kernel_rfl) (fun _ _ _ h => h) (Or.inl ⟨by rfl, ?_⟩) (by assumption) ?_
        rotate_left
        · intro W hSw
          (try dsimp only at hSw)
          go_simp
          (try with_reducible rfl)
        try simp only [Act.put, List.setIfInBounds_toArray, List.set_cons_zero, List.set_cons_succ]
        refine wpAnyH_ready (rs := [4, 17]) (by kernel_rfl) (by simp) ?_
        refine AllReadyH.cons (o := { dst := _, op := _, type := _, pos := _, after := _, guard := _ }) rfl (fun K hK => ?_) (AllReadyH.cons (o := { dst := _, op := _, type := _, pos := _, after := _, guard := _ }) rfl (fun K hK => ?_) (AllReadyH.nil))
        · go_simp
          refine hK.out _ _ ?_ (fun hHeld => ?_)
          · exact hHeld
          clear hK K
          try simp only [Act.put, List.setIfInBounds_toArray, List.set_cons_zero, List.set_cons_succ]
          refine wpAnyH_ready (rs := [17]) (by kernel_rfl) (by simp) ?_
          refine AllReadyH.cons (o := { dst := _, op := _, type := _, pos := _, after := _, guard := _ }) rfl (fun K hK => ?_) AllReadyH.nil
          go_simp
          refine hK.out _ _ ?_ (fun hHeld => ?_)
          · exact ⟨cell_up _ hHeld.1, cell_up _ hHeld.2⟩
          clear hK K
          try simp only [Act.put, List.setIfInBounds_toArray, List.set_cons_zero, List.set_cons_succ]
          have k0a : (w6.alloc (.cells #[.int .i64 kd, .string t, .int .i64 c'.n, .int .i64 c'.f] 41)).cell? ⟨b, 5, none⟩ = some (.slice a2 c'.ws.length q2) := cell_up _ k6
          refine wpAnyH_ready (rs := [18]) (by kernel_rfl) (by simp) ?_
          refine AllReadyH.cons (o := { dst := _, op := _, type := _, pos := _, after := _, guard := _ }) rfl (fun K hK => ?_) AllReadyH.nil
          refine step_append_lies _ rfl (.tmp 36) (.tmp 49) 33 rfl B 41 iE _ 4 40 Try.underlying33 HIE.out.1 HIE.out.2.1 HIE.out.2.2.1 HIE.out.2.2.2 rfl (by decide) (.slice a2 c'.ws.length q2) _ _ rfl (HM6.out.hw.alloc _) ⟨w6.heap.size, 0, none⟩ 1 1 [.int .i64 kd, .string t, .int .i64 c'.n, .int .i64 c'.f] rfl rfl (cell_four_new _ _ _ _ _ _) (by simp [Value.oneCell']) (by decide) (by have := HL2.out; unfold maxLen; omega) (by have := HL2.out; omega) (by have := HM6.out.lB; simp; omega) (w6.heap.size + 1) (by simp) ?_
          intro g' cap' w' h2 h3 h4 _
          have HO : Hid (Wow B w' (.slice (some ⟨g', 0, none⟩) (c'.ws.length + 1) cap') (c'.ws ++ [x])) := by show World.ownsRow _ _ _ _ _ _ _; rw [wC_app, List.length_append, HX.out]; exact h2
          have HG : Hid (w6.grownBy w' (Value.ownBlock (.slice a2 c'.ws.length q2))) := (World.grownBy_alloc _ _ _).trans h3
          have k0b : w'.cell? ⟨b, 5, none⟩ = some (.slice a2 c'.ws.length q2) := h3.cell k0a (fun e => HM6.out.nw e.symm)
          have f0b : w'.frozen? ⟨b, 5, none⟩ = false := Lib.frozen_of_heap ((HG.out.block b HM6.out.lt (fun e => HM6.out.nw e.symm)).trans HM6.out.blk) 5
          have s0b : w'.cell? ⟨b, 3, none⟩ = some (.int .i64 c'.n) ∧ w'.cell? ⟨b, 2, none⟩ = some (.int .i64 c'.f) := ⟨h3.cell hHeld.1 (fun e => HM6.out.nw e.symm), h3.cell hHeld.2 (fun e => HM6.out.nw e.symm)⟩
          clear h2 h3 h4 k6 k0a
          refine hK.out _ _ ?_ (fun hHeld => ?_)
          · exact s0b
          clear hK K
          try simp only [Act.put, List.setIfInBounds_toArray, List.set_cons_zero, List.set_cons_succ]
          clear s0b
          refine wpAnyH_take (i := 19) (oi := { dst := _, op := _, type := _, pos := _, after := _, guard := _ }) (v := ?_) rfl (by kernel_rfl) (by kernel_rfl) (by kernel_rfl) (fun _ _ _ h => h) (Or.inl ⟨by rfl, ?_⟩) (by assumption) ?_
          rotate_left
          · intro W hSw
            (try dsimp only at hSw)
            go_simp
            (try with_reducible rfl)
          try simp only [Act.put, List.setIfInBounds_toArray, List.set_cons_zero, List.set_cons_succ]
          refine wpAnyH_take (i := 20) (oi := { dst := _, op := _, type := _, pos := _, after := _, guard := _ }) (v := ?_) rfl (by kernel_rfl) (by kernel_rfl) (by kernel_rfl) (fun _ _ _ h => h) (Or.inl ⟨by rfl, ?_⟩) (by assumption) ?_
          rotate_left
          · intro W hSw
            (try dsimp only at hSw)
            go_simp
            (try with_reducible rfl)
          try simp only [Act.put, List.setIfInBounds_toArray, List.set_cons_zero, List.set_cons_succ]
          refine wpAnyH_ready (rs := [21]) (by kernel_rfl) (by simp) ?_
          refine AllReadyH.cons (o := { dst := _, op := _, type := _, pos := _, after := _, guard := _ }) rfl (fun K hK => ?_) AllReadyH.nil
          go_simp
          refine hK.out _ _ ?_ (fun hHeld => ?_)
          · exact ⟨by rw [World.cell?_setCell_other _ _ _ _ (fun h => by cases h)]; exact hHeld.1, by rw [World.cell?_setCell_other _ _ _ _ (fun h => by cases h)]; exact hHeld.2⟩
          clear hK K
          try simp only [Act.put, List.setIfInBounds_toArray, List.set_cons_zero, List.set_cons_succ]
          refine wpAnyH_done (by kernel_rfl) ?_ _
          clear hHeld k0b f0b
          refine NoPanic.normal ?_
          obtain ⟨hq1, hq2⟩ := HM6.out.appW HG.out HO.out
          have HQ1 : Hid _ := hq1
          have HQ2 : Hid _ := HB6.out.trans hq2
          clear hq1 hq2
          go_wp2_with fail
          go_meet
          exact ⟨_, HQ1, HQ2⟩
        · go_simp
          refine hK.out _ _ ?_ (fun hHeld => ?_)
          · exact ⟨cell_up _ hHeld.1, cell_up _ hHeld.2⟩
          clear hK K
          try simp only [Act.put, List.setIfInBounds_toArray, List.set_cons_zero, List.set_cons_succ]
          have k0a : (w6.alloc (.cells #[.int .i64 kd, .string t, .int .i64 c'.n, .int .i64 c'.f] 41)).cell? ⟨b, 5, none⟩ = some (.slice a2 c'.ws.length q2) := cell_up _ k6
          refine wpAnyH_ready (rs := [4]) (by kernel_rfl) (by simp) ?_
          refine AllReadyH.cons (o := { dst := _, op := _, type := _, pos := _, after := _, guard := _ }) rfl (fun K hK => ?_) AllReadyH.nil
          go_simp
          refine hK.out _ _ ?_ (fun hHeld => ?_)
          · exact hHeld
          clear hK K
          try simp only [Act.put, List.setIfInBounds_toArray, List.set_cons_zero, List.set_cons_succ]
          refine wpAnyH_ready (rs := [18]) (by kernel_rfl) (by simp) ?_
          refine AllReadyH.cons (o := { dst := _, op := _, type := _, pos := _, after := _, guard := _ }) rfl (fun K hK => ?_) AllReadyH.nil
          refine step_append_lies _ rfl (.tmp 36) (.tmp 49) 33 rfl B 41 iE _ 4 40 Try.underlying33 HIE.out.1 HIE.out.2.1 HIE.out.2.2.1 HIE.out.2.2.2 rfl (by decide) (.slice a2 c'.ws.length q2) _ _ rfl (HM6.out.hw.alloc _) ⟨w6.heap.size, 0, none⟩ 1 1 [.int .i64 kd, .string t, .int .i64 c'.n, .int .i64 c'.f] rfl rfl (cell_four_new _ _ _ _ _ _) (by simp [Value.oneCell']) (by decide) (by have := HL2.out; unfold maxLen; omega) (by have := HL2.out; omega) (by have := HM6.out.lB; simp; omega) (w6.heap.size + 1) (by simp) ?_
          intro g' cap' w' h2 h3 h4 _
          have HO : Hid (Wow B w' (.slice (some ⟨g', 0, none⟩) (c'.ws.length + 1) cap') (c'.ws ++ [x])) := by show World.ownsRow _ _ _ _ _ _ _; rw [wC_app, List.length_append, HX.out]; exact h2
          have HG : Hid (w6.grownBy w' (Value.ownBlock (.slice a2 c'.ws.length q2))) := (World.grownBy_alloc _ _ _).trans h3
          have k0b : w'.cell? ⟨b, 5, none⟩ = some (.slice a2 c'.ws.length q2) := h3.cell k0a (fun e => HM6.out.nw e.symm)
          have f0b : w'.frozen? ⟨b, 5, none⟩ = false := Lib.frozen_of_heap ((HG.out.block b HM6.out.lt (fun e => HM6.out.nw e.symm)).trans HM6.out.blk) 5
          have s0b : w'.cell? ⟨b, 3, none⟩ = some (.int .i64 c'.n) ∧ w'.cell? ⟨b, 2, none⟩ = some (.int .i64 c'.f) := ⟨h3.cell hHeld.1 (fun e => HM6.out.nw e.symm), h3.cell hHeld.2 (fun e => HM6.out.nw e.symm)⟩
          clear h2 h3 h4 k6 k0a
          refine hK.out _ _ ?_ (fun hHeld => ?_)
          · exact s0b
          clear hK K
          try simp only [Act.put, List.setIfInBounds_toArray, List.set_cons_zero, List.set_cons_succ]
          clear s0b
          refine wpAnyH_take (i := 19) (oi := { dst := _, op := _, type := _, pos := _, after := _, guard := _ }) (v := ?_) rfl (by kernel_rfl) (by kernel_rfl) (by kernel_rfl) (fun _ _ _ h => h) (Or.inl ⟨by rfl, ?_⟩) (by assumption) ?_
          rotate_left
          · intro W hSw
            (try dsimp only at hSw)
            go_simp
            (try with_reducible rfl)
          try simp only [Act.put, List.setIfInBounds_toArray, List.set_cons_zero, List.set_cons_succ]
          refine wpAnyH_take (i := 20) (oi := { dst := _, op := _, type := _, pos := _, after := _, guard := _ }) (v := ?_) rfl (by kernel_rfl) (by kernel_rfl) (by kernel_rfl) (fun _ _ _ h => h) (Or.inl ⟨by rfl, ?_⟩) (by assumption) ?_
          rotate_left
          · intro W hSw
            (try dsimp only at hSw)
            go_simp
            (try with_reducible rfl)
          try simp only [Act.put, List.setIfInBounds_toArray, List.set_cons_zero, List.set_cons_succ]
          refine wpAnyH_ready (rs := [21]) (by kernel_rfl) (by simp) ?_
          refine AllReadyH.cons (o := { dst := _, op := _, type := _, pos := _, after := _, guard := _ }) rfl (fun K hK => ?_) AllReadyH.nil
          go_simp
          refine hK.out _ _ ?_ (fun hHeld => ?_)
          · exact ⟨by rw [World.cell?_setCell_other _ _ _ _ (fun h => by cases h)]; exact hHeld.1, by rw [World.cell?_setCell_other _ _ _ _ (fun h => by cases h)]; exact hHeld.2⟩
          clear hK K
          try simp only [Act.put, List.setIfInBounds_toArray, List.set_cons_zero, List.set_cons_succ]
          refine wpAnyH_done (by kernel_rfl) ?_ _
          clear hHeld k0b f0b
          refine NoPanic.normal ?_
          obtain ⟨hq1, hq2⟩ := HM6.out.appW HG.out HO.out
          have HQ1 : Hid _ := hq1
          have HQ2 : Hid _ := HB6.out.trans hq2
          clear hq1 hq2
          go_wp2_with fail
          go_meet
          exact ⟨_, HQ1, HQ2⟩
    case rest =>
      obtain ⟨v', H2, B2⟩ := hcut
      clear H1 B1
      have HC3 : Hid (cw c kd t = { ({ c' with ws := c'.ws ++ [x] } : Cs) with n := 0, bs := [] }) := HC2.out
      obtain ⟨d, hd⟩ : ∃ d : Cs, { c' with ws := c'.ws ++ [x] } = d := ⟨_, rfl⟩
      rw [hd] at H2 HC3
      clear hd HC2 HX HL2
      obtain ⟨a1, q1, a2, q2, rfl, rfl⟩ := H2.out.shapes
      go_upto_region 5 with fail
      have k3 := H2.out.drew.c3
      have f3 := H2.out.drew.frz 3
      have k4 := H2.out.drew.c4
      have f4 := H2.out.drew.frz 4
      have j3 := H2.out.c3
      have g3 := H2.out.frz 3
      have j4 := H2.out.c4
      have g4 := H2.out.frz 4
      have HB3 : Hid (Below B w wc.drew) := B2.out.trans (Below.drew (Below.refl _ _))
      cases a1 with
      | none =>
        have hz : d.bs = [] ∧ q1 = 0 := by
          rcases H2.out.hb.2 with ⟨h1, h2⟩ | ⟨g, cap, cur, h1, _⟩
          · injection h1 with h3 h4 h5
            exact ⟨List.length_eq_zero_iff.1 h2, h5⟩
          · cases h1
        obtain ⟨hz1, rfl⟩ := hz
        have HD : Hid (Cu B wc.drew b (.slice none 0 0) (.slice a2 d.ws.length q2) d) := by have := H2.out.drew; rw [hz1] at this; exact this
        rw [hz1] at k4 j4
        have HZ : Hid (Byt B wc.drew (.slice none 0 0) []) := by have := HD.out.hb; rw [hz1] at this; exact this
        have HF1 : Hid (Cu B ((wc.drew.setCell ⟨b, 3, none⟩ (.int .i64 0)).setCell ⟨b, 4, none⟩ (.slice none 0 0)) b (.slice none 0 0) (.slice a2 d.ws.length q2) (cw c kd t)) := by
          rw [HC3.out]
          exact (HD.out.setn 0).set 4 _ rfl (HZ.out.kept grown_set (.inr HD.out.nb)) (HD.out.hw.kept grown_set (.inr HD.out.nw)) HD.out.nb HD.out.nw
        have HF2 : Hid (Cu B ((wc.drew.setCell ⟨b, 4, none⟩ (.slice none 0 0)).setCell ⟨b, 3, none⟩ (.int .i64 0)) b (.slice none 0 0) (.slice a2 d.ws.length q2) (cw c kd t)) := by
          rw [HC3.out]
          exact (HD.out.set (c' := { d with bs := [] }) 4 _ rfl HZ.out HD.out.hw HD.out.nb HD.out.nw).setn 0
        clear hz1
        go_region
        go_wp2_with fail
        all_goals
          go_end0
          first
            | exact ⟨rfl, (HB3.out.setCell HD.out.lo _).setCell HD.out.lo _, _, _, HF1.out⟩
            | exact ⟨rfl, (HB3.out.setCell HD.out.lo _).setCell HD.out.lo _, _, _, HF2.out⟩
      | some p =>
        have hz : p = ⟨p.block, 0, none⟩ := by
          rcases H2.out.hb.2 with ⟨h1, h2⟩ | ⟨g, cap, cur, h1, _⟩
          · cases h1
          · injection h1 with h3 h4 h5
            injection h3 with h3
            rw [h3]
        obtain ⟨g, hg⟩ : ∃ g, p.block = g := ⟨_, rfl⟩
        rw [hg] at hz
        subst hz
        clear hg
        have HD : Hid (Cu B wc.drew b (.slice (some ⟨g, 0, none⟩) d.bs.length q1) (.slice a2 d.ws.length q2) d) := H2.out.drew
        have HZ : Hid (Byt B wc.drew (.slice (some ⟨g, 0, none⟩) 0 q1) []) := byt_zero HD.out.hb
        have HF1 : Hid (Cu B ((wc.drew.setCell ⟨b, 3, none⟩ (.int .i64 0)).setCell ⟨b, 4, none⟩ (.slice (some ⟨g, 0, none⟩) 0 q1)) b (.slice (some ⟨g, 0, none⟩) 0 q1) (.slice a2 d.ws.length q2) (cw c kd t)) := by
          rw [HC3.out]
          exact (HD.out.setn 0).set 4 _ rfl (HZ.out.kept grown_set (.inr HD.out.nb)) (HD.out.hw.kept grown_set (.inr HD.out.nw)) HD.out.nb HD.out.nw
        have HF2 : Hid (Cu B ((wc.drew.setCell ⟨b, 4, none⟩ (.slice (some ⟨g, 0, none⟩) 0 q1)).setCell ⟨b, 3, none⟩ (.int .i64 0)) b (.slice (some ⟨g, 0, none⟩) 0 q1) (.slice a2 d.ws.length q2) (cw c kd t)) := by
          rw [HC3.out]
          exact (HD.out.set (c' := { d with bs := [] }) 4 _ rfl HZ.out HD.out.hw HD.out.nb HD.out.nw).setn 0
        go_region
        go_wp2_with fail
        all_goals
          go_end0
          first
            | exact ⟨rfl, (HB3.out.setCell HD.out.lo _).setCell HD.out.lo _, _, _, HF1.out⟩
            | exact ⟨rfl, (HB3.out.setCell HD.out.lo _).setCell HD.out.lo _, _, _, HF2.out⟩
end Go.Proofs.Ythfijmabagjdkaa
