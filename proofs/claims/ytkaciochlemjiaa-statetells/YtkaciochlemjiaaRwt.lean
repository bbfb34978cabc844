import Derived.Test.YtkaciochlemjiaaRwr
namespace Go.Proofs.Ytkaciochlemjiaa
open Go.RowKit Go.Maps

theorem ba_lst (x y : ByteArray) : (x ++ y).data.toList = x.data.toList ++ y.data.toList := by rw [ByteArray.data_append]; simp
theorem ba_siz (x y : ByteArray) : (x ++ y).size = x.size + y.size := ByteArray.size_append
theorem lst_siz (x : ByteArray) : x.data.toList.length = x.size := Array.length_toList
/-- A number's bytes as a string. -/
def nmB (n : Nat) : ByteArray := ⟨(nm n).toArray⟩
def txB (d : ByteArray) : ByteArray := ⟨(tx d).toArray⟩
theorem nmB_lst (n : Nat) : (nmB n).data.toList = nm n := rfl
theorem txB_lst (d : ByteArray) : (txB d).data.toList = tx d := rfl
theorem nmB_siz (n : Nat) (h : n ≤ 70000) : (nmB n).size ≤ 3 := by rw [← lst_siz, nmB_lst]; exact nm3 n h
theorem txB_siz (d : ByteArray) (h : d.size ≤ 16) : (txB d).size ≤ 19 := by rw [← lst_siz, txB_lst]; exact tx_len d h
theorem rnumn (n : Nat) (h : n ≤ 70000) (w : World) : Calls Try.prog 51 #[.int .i64 (n : Int)] w fun e w' => e = .returned (.string (nmB n)) ∧ Below w.heap.size w w' := rnumber_any n (by omega) w
theorem rnumi (x : Int) (h0 : 0 ≤ x) (h : x ≤ 70000) (w : World) : Calls Try.prog 51 #[.int .i64 x] w fun e w' => e = .returned (.string (nmB x.toNat)) ∧ Below w.heap.size w w' := by
  have := rnumn x.toNat (by omega) w
  rw [show ((x.toNat : Nat) : Int) = x by omega] at this
  exact this
theorem rtxt (d : ByteArray) (h : d.size ≤ 16) (w : World) : Calls Try.prog 52 #[.string d] w fun e w' => e = .returned (.string (txB d)) ∧ Below w.heap.size w w' := rtext_any d (by omega) w

set_option maxRecDepth 100000 in
set_option maxHeartbeats 8000000 in
theorem written_any {vi vq vf : Value} {s : Stt} (w : World) (h : Stm w vi vq vf s) (hl : Lim s) :
    Calls Try.prog 31 #[sv vi vq vf s] w fun e w' => e = .returned (.string ⟨(enc s).toArray⟩) ∧ Below w.heap.size w w' := by
  obtain ⟨a1, c1, a2, c2, a3, c3, rfl, rfl, rfl⟩ := h.form
  obtain ⟨W1, hW1⟩ : ∃ W1, W1 = w.alloc (.cells #[.slice a1 s.ind.length c1, .int .i64 s.pen, .slice a2 s.que.length c2, .slice a3 s.frm.length c3, .int .u16 (s.flg : Int)] 27) := ⟨_, rfl⟩
  have hhp : W1.heap[w.heap.size]? = some (.cells #[.slice a1 s.ind.length c1, .int .i64 s.pen, .slice a2 s.que.length c2, .slice a3 s.frm.length c3, .int .u16 (s.flg : Int)] 27 (0, 0)) := by rw [hW1]; exact heap_new w _
  have HB1 : Hid (Below w.heap.size w W1) := by rw [hW1]; exact bel_up _ _
  have p0 : W1.cell? ⟨w.heap.size, 0, none⟩ = some (.slice a1 s.ind.length c1) := by rw [Lib.cell_of_heap hhp]; rfl
  have p1 : W1.cell? ⟨w.heap.size, 1, none⟩ = some (.int .i64 s.pen) := by rw [Lib.cell_of_heap hhp]; rfl
  have p2 : W1.cell? ⟨w.heap.size, 2, none⟩ = some (.slice a2 s.que.length c2) := by rw [Lib.cell_of_heap hhp]; rfl
  have p3 : W1.cell? ⟨w.heap.size, 3, none⟩ = some (.slice a3 s.frm.length c3) := by rw [Lib.cell_of_heap hhp]; rfl
  have p4 : W1.cell? ⟨w.heap.size, 4, none⟩ = some (.int .u16 (s.flg : Int)) := by rw [Lib.cell_of_heap hhp]; rfl
  have HP : Hid (∀ W, Below W1.heap.size W1 W → W.cell? ⟨w.heap.size, 0, none⟩ = some (.slice a1 s.ind.length c1) ∧ W.cell? ⟨w.heap.size, 1, none⟩ = some (.int .i64 s.pen) ∧ W.cell? ⟨w.heap.size, 2, none⟩ = some (.slice a2 s.que.length c2) ∧ W.cell? ⟨w.heap.size, 3, none⟩ = some (.slice a3 s.frm.length c3) ∧ W.cell? ⟨w.heap.size, 4, none⟩ = some (.int .u16 (s.flg : Int))) := fun W hW => ⟨below_cell hW p0, below_cell hW p1, below_cell hW p2, below_cell hW p3, below_cell hW p4⟩
  have HW : Hid (W1 = w.alloc (.cells #[.slice a1 s.ind.length c1, .int .i64 s.pen, .slice a2 s.que.length c2, .slice a3 s.frm.length c3, .int .u16 (s.flg : Int)] 27)) := hW1
  have HS : Hid (Stm W1 (.slice a1 s.ind.length c1) (.slice a2 s.que.length c2) (.slice a3 s.frm.length c3) s) := h.up HB1.out
  have HM : Hid (Lim s) := hl
  clear h hl hW1 hhp p1 p2 p3 p4
  go_enter Try.func31, Try.ntmps31
  go_upto_region 1 with fail
  rw [← HW.out]
  go_wp2_with fail
  refine (rnumn s.ind.length (by have := HM.out.i; omega) W1).mono ?_
  rintro e w2 ⟨rfl, hb2⟩
  have HB2 : Hid (Below W1.heap.size W1 w2) := hb2
  obtain ⟨X0, hX0⟩ : ∃ X, nmB s.ind.length = X := ⟨_, rfl⟩
  rw [hX0]
  have HX0 : Hid (X0.data.toList = nm s.ind.length ∧ X0.size ≤ 3) := by rw [← hX0]; exact ⟨rfl, nmB_siz _ (by have := HM.out.i; omega)⟩
  have z0 : ¬ 9223372036854775807 < 1 + X0.size := by have := HX0.out.2; omega
  clear hb2 hX0 p0
  go_wp2_with fail
  clear z0
  go_loopg [3, 4] s.ind.length (fun gm v3 v4 wr => ∃ (i : Nat) (t : ByteArray), v3 = .string t ∧ v4 = .int .i64 (i : Int) ∧ Hid (i ≤ s.ind.length ∧ gm = s.ind.length - i) ∧ Hid (t.data.toList = 83 :: (nm s.ind.length ++ (s.ind.take i).flatMap nmi)) ∧ Hid (t.size ≤ 10 + 3 * i) ∧ Hid (Below W1.heap.size W1 wr))
  case atStart => exact ⟨0, _, rfl, rfl, ⟨Nat.zero_le _, rfl⟩, by show _ = _; rw [ba_lst, HX0.out.1]; simp, by show _ ≤ _; rw [ba_siz]; have := HX0.out.2; show 1 + X0.size ≤ _; omega, HB2⟩
  case round =>
    obtain ⟨i, t, rfl, rfl, HI, HT, HZ, HB⟩ := hrel
    clear HX0 HB2
    obtain ⟨p0, -, -, -, -⟩ := HP.out _ HB.out
    by_cases hi : i < s.ind.length
    · obtain ⟨b1, g1, o1, d1, f1, -, -, f2, f3⟩ := HS.out.i
      obtain ⟨rfl, -, rfl⟩ := Value.slice.inj f1
      obtain rfl := f2 (by omega)
      have ci := below_cell HB.out (f3 i _ (iC_get s.ind i hi))
      have e1 : decide ((i : Int) < (s.ind.length : Int)) = true := by rw [decide_eq_true_eq]; omega
      have e2 : decide (i < s.ind.length) = true := by rw [decide_eq_true_eq]; omega
      have e5 : (i : Int) < (s.ind.length : Int) := by omega
      have HIL : Hid (i < s.ind.length) := hi
      have hwr := w64n i (by have := HM.out.i; omega)
      have hmem := HM.out.iv _ (mem_getD s.ind 0 i hi)
      have HSN : Hid ((s.ind.take (i + 1)).flatMap nmi = (s.ind.take i).flatMap nmi ++ nmi (s.ind.getD i 0)) := fm_snoc nmi s.ind 0 i hi
      obtain ⟨x, hx⟩ : ∃ x, s.ind.getD i 0 = x := ⟨_, rfl⟩
      rw [hx] at ci hmem HSN
      have HX : Hid (0 ≤ x ∧ x ≤ 65536) := hmem
      clear f1 f2 f3 hx hmem hi
      go_wp2_with fail
      refine (rnumi x HX.out.1 (by have := HX.out.2; omega) wr).mono ?_
      rintro e w3 ⟨rfl, hb3⟩
      have HB3 : Hid (Below W1.heap.size W1 w3) := below_trans HB.out hb3
      obtain ⟨X, hX⟩ : ∃ X, nmB x.toNat = X := ⟨_, rfl⟩
      rw [hX]
      have HXX : Hid (X.data.toList = nmi x ∧ X.size ≤ 3) := by rw [← hX]; exact ⟨rfl, nmB_siz _ (by have := HX.out; omega)⟩
      have z0 : ¬ 9223372036854775807 < t.size + X.size := by have := HXX.out.2; have := HZ.out; have := HM.out.i; have := HIL.out; omega
      clear hb3 hX p0 ci
      go_wp2_with fail
      go_roundg (s.ind.length - (i + 1))
      case measure => have := HI.out; have := HIL.out; omega
      case rel => exact ⟨i + 1, t ++ X, rfl, by first | rfl | (rw [show (i : Int) + 1 = ((i + 1 : Nat) : Int) by omega]), ⟨HIL.out, rfl⟩, by show _ = _; rw [ba_lst, HT.out, HXX.out.1, HSN.out]; simp, by show _ ≤ _; rw [ba_siz]; have := HXX.out.2; have := HZ.out; omega, HB3⟩
    · have e1 : decide ((i : Int) < (s.ind.length : Int)) = false := by rw [decide_eq_false_iff_not]; omega
      have e2 : decide (i < s.ind.length) = false := by rw [decide_eq_false_iff_not]; omega
      have HT1 : Hid (t.data.toList = pre s 1) := by
        have hii : i = s.ind.length := by have := HI.out; omega
        show _ = _
        rw [HT.out, hii, List.take_length]
        simp [pre, prt]
      have HZ1 : Hid (t.size ≤ 200) := by have := HZ.out; have := HM.out.i; have := HI.out; show t.size ≤ 200; omega
      clear hi HI HT HZ
      go_upto_region 6 with fail
      clear p0 e1 e2
      go_cut [3] from 27 to 37 (fun v3 wx => ∃ t2 : ByteArray, v3 = .string t2 ∧ Hid (t2.data.toList = pre s 2 ++ nm s.que.length) ∧ Hid (t2.size ≤ 210) ∧ Hid (Below W1.heap.size W1 wx))
      case first =>
        have HS6 : Hid (∀ W, Below W1.heap.size W1 W → W.cell? ⟨w.heap.size, 1, none⟩ = some (.int .i64 s.pen) ∧ W.cell? ⟨w.heap.size, 2, none⟩ = some (.slice a2 s.que.length c2) ∧ Below W1.heap.size W1 W) := fun W hW => ⟨(HP.out W hW).2.1, (HP.out W hW).2.2.1, hW⟩
        have HSB : Hid (∀ W, (W.cell? ⟨w.heap.size, 1, none⟩ = some (.int .i64 s.pen) ∧ W.cell? ⟨w.heap.size, 2, none⟩ = some (.slice a2 s.que.length c2) ∧ Below W1.heap.size W1 W) → Below W1.heap.size W1 W) := fun W hW => hW.2.2
        have CA : Hid (∀ W : World, Calls Try.prog 51 #[.int .i64 (s.pen + 1)] W fun e w' => e = .returned (.string (nmB (s.pen + 1).toNat)) ∧ Below W.heap.size W w') := fun W => rnumi (s.pen + 1) (by have := HM.out.p0; omega) (by have := HM.out.p1; omega) W
        have CB : Hid (∀ W : World, Calls Try.prog 51 #[.int .i64 (s.que.length : Int)] W fun e w' => e = .returned (.string (nmB s.que.length)) ∧ Below W.heap.size W w') := fun W => rnumn s.que.length (by have := HM.out.q; omega) W
        have HXA : Hid ((nmB (s.pen + 1).toNat).data.toList = prt s 1 ∧ (nmB (s.pen + 1).toNat).size ≤ 3) := ⟨rfl, nmB_siz _ (by have := HM.out.p0; have := HM.out.p1; omega)⟩
        have HXB : Hid ((nmB s.que.length).data.toList = nm s.que.length ∧ (nmB s.que.length).size ≤ 3) := ⟨rfl, nmB_siz _ (by have := HM.out.q; omega)⟩
        generalize nmB (s.pen + 1).toNat = XA at CA HXA
        generalize nmB s.que.length = XB at CB HXB
        have z1 : ¬ 9223372036854775807 < t.size + XA.size := by have := HXA.out.2; have := HZ1.out; omega
        have z2 : ¬ 9223372036854775807 < t.size + XA.size + XB.size := by have := HXA.out.2; have := HXB.out.2; have := HZ1.out; omega
        have wp : IntKind.i64.wrap (s.pen + 1) = s.pen + 1 := by rw [IntKind.wrap_i64]; have := HM.out.p0; have := HM.out.p1; omega
        refine wp_region_noPanic ?_
        refine wp_region_held_drew (S := fun W => W.cell? ⟨w.heap.size, 1, none⟩ = some (.int .i64 s.pen) ∧ W.cell? ⟨w.heap.size, 2, none⟩ = some (.slice a2 s.que.length c2) ∧ Below W1.heap.size W1 W) (by kernel_rfl) (HS6.out _ (Below.drew HB.out)) (fun hHeld => ?_)
        refine wpAnyH_take (i := 0) (oi := { dst := _, op := _, type := _, pos := _, after := _, guard := _ }) (v := ?_) rfl (by kernel_rfl) (by kernel_rfl) (by kernel_rfl) (fun _ _ _ h => h) (Or.inl ⟨by rfl, ?_⟩) (by assumption) ?_
        rotate_left
        · intro W hSw
          obtain ⟨h1, h2, -⟩ := hSw
          go_simp
          (try with_reducible rfl)
        try simp only [Act.put, List.setIfInBounds_toArray, List.set_cons_zero, List.set_cons_succ]
        refine wpAnyH_take (i := 1) (oi := { dst := _, op := _, type := _, pos := _, after := _, guard := _ }) (v := ?_) rfl (by kernel_rfl) (by kernel_rfl) (by kernel_rfl) (fun _ _ _ h => h) (Or.inl ⟨by rfl, ?_⟩) (by assumption) ?_
        rotate_left
        · intro W hSw
          obtain ⟨h1, h2, -⟩ := hSw
          go_simp
          (try with_reducible rfl)
        try simp only [Act.put, List.setIfInBounds_toArray, List.set_cons_zero, List.set_cons_succ]
        refine wpAnyH_take (i := 2) (oi := { dst := _, op := _, type := _, pos := _, after := _, guard := _ }) (v := ?_) rfl (by kernel_rfl) (by kernel_rfl) (by kernel_rfl) (fun _ _ _ h => h) (Or.inl ⟨by rfl, ?_⟩) (by assumption) ?_
        rotate_left
        · intro W hSw
          obtain ⟨h1, h2, -⟩ := hSw
          go_simp
          (try with_reducible rfl)
        try simp only [Act.put, List.setIfInBounds_toArray, List.set_cons_zero, List.set_cons_succ]
        refine wpAnyH_take (i := 3) (oi := { dst := _, op := _, type := _, pos := _, after := _, guard := _ }) (v := ?_) rfl (by kernel_rfl) (by kernel_rfl) (by kernel_rfl) (fun _ _ _ h => h) (Or.inl ⟨by rfl, ?_⟩) (by assumption) ?_
        rotate_left
        · intro W hSw
          obtain ⟨h1, h2, -⟩ := hSw
          go_simp
          (try with_reducible rfl)
        try simp only [Act.put, List.setIfInBounds_toArray, List.set_cons_zero, List.set_cons_succ]
        refine wpAnyH_take (i := 6) (oi := { dst := _, op := _, type := _, pos := _, after := _, guard := _ }) (v := ?_) rfl (by kernel_rfl) (by kernel_rfl) (by kernel_rfl) (fun _ _ _ h => h) (Or.inl ⟨by rfl, ?_⟩) (by assumption) ?_
        rotate_left
        · intro W hSw
          obtain ⟨h1, h2, -⟩ := hSw
          go_simp
          (try with_reducible rfl)
        try simp only [Act.put, List.setIfInBounds_toArray, List.set_cons_zero, List.set_cons_succ]
        refine wpAnyH_take (i := 7) (oi := { dst := _, op := _, type := _, pos := _, after := _, guard := _ }) (v := ?_) rfl (by kernel_rfl) (by kernel_rfl) (by kernel_rfl) (fun _ _ _ h => h) (Or.inl ⟨by rfl, ?_⟩) (by assumption) ?_
        rotate_left
        · intro W hSw
          obtain ⟨h1, h2, -⟩ := hSw
          go_simp
          (try with_reducible rfl)
        try simp only [Act.put, List.setIfInBounds_toArray, List.set_cons_zero, List.set_cons_succ]
        refine wpAnyH_take (i := 8) (oi := { dst := _, op := _, type := _, pos := _, after := _, guard := _ }) (v := ?_) rfl (by kernel_rfl) (by kernel_rfl) (by kernel_rfl) (fun _ _ _ h => h) (Or.inl ⟨by rfl, ?_⟩) (by assumption) ?_
        rotate_left
        · intro W hSw
          obtain ⟨h1, h2, -⟩ := hSw
          go_simp
          (try with_reducible rfl)
        try simp only [Act.put, List.setIfInBounds_toArray, List.set_cons_zero, List.set_cons_succ]
        refine wpAnyH_ready (rs := [4]) (by kernel_rfl) (by simp) ?_
        refine AllReadyH.cons (o := { dst := _, op := _, type := _, pos := _, after := _, guard := _ }) rfl (fun K hK => ?_) AllReadyH.nil
        go_simp
        refine (CA.out _).mono ?_
        rintro e w6 ⟨rfl, hb6⟩
        have HQ6 : Hid (Below W1.heap.size W1 w6) := below_trans (Below.drew HB.out) hb6
        clear hb6
        go_wp2_with fail
        refine hK.out _ _ ?_ (fun hHeld => ?_)
        · (try dsimp only)
          exact HS6.out _ HQ6.out
        clear hK K
        try simp only [Act.put, List.setIfInBounds_toArray, List.set_cons_zero, List.set_cons_succ]
        refine wpAnyH_take (i := 5) (oi := { dst := _, op := _, type := _, pos := _, after := _, guard := _ }) (v := ?_) rfl (by kernel_rfl) (by kernel_rfl) (by kernel_rfl) (fun _ _ _ h => h) (Or.inl ⟨by rfl, ?_⟩) (by assumption) ?_
        rotate_left
        · intro W hSw
          obtain ⟨h1, h2, -⟩ := hSw
          go_simp
          (try with_reducible rfl)
        try simp only [Act.put, List.setIfInBounds_toArray, List.set_cons_zero, List.set_cons_succ]
        refine wpAnyH_ready (rs := [9]) (by kernel_rfl) (by simp) ?_
        refine AllReadyH.cons (o := { dst := _, op := _, type := _, pos := _, after := _, guard := _ }) rfl (fun K hK => ?_) AllReadyH.nil
        go_simp
        refine (CB.out _).mono ?_
        rintro e w7 ⟨rfl, hb7⟩
        have HQ7 : Hid (Below W1.heap.size W1 w7) := below_trans HQ6.out hb7
        clear hb7
        go_wp2_with fail
        refine hK.out _ _ ?_ (fun hHeld => ?_)
        · (try dsimp only)
          exact HS6.out _ HQ7.out
        clear hK K
        try simp only [Act.put, List.setIfInBounds_toArray, List.set_cons_zero, List.set_cons_succ]
        refine wpAnyH_take (i := 10) (oi := { dst := _, op := _, type := _, pos := _, after := _, guard := _ }) (v := ?_) rfl (by kernel_rfl) (by kernel_rfl) (by kernel_rfl) (fun _ _ _ h => h) (Or.inl ⟨by rfl, ?_⟩) (by assumption) ?_
        rotate_left
        · intro W hSw
          obtain ⟨h1, h2, -⟩ := hSw
          go_simp
          (try with_reducible rfl)
        try simp only [Act.put, List.setIfInBounds_toArray, List.set_cons_zero, List.set_cons_succ]
        refine wpAnyH_take (i := 11) (oi := { dst := _, op := _, type := _, pos := _, after := _, guard := _ }) (v := ?_) rfl (by kernel_rfl) (by kernel_rfl) (by kernel_rfl) (fun _ _ _ h => h) (Or.inl ⟨by rfl, ?_⟩) (by assumption) ?_
        rotate_left
        · intro W hSw
          obtain ⟨h1, h2, -⟩ := hSw
          go_simp
          (try with_reducible rfl)
        try simp only [Act.put, List.setIfInBounds_toArray, List.set_cons_zero, List.set_cons_succ]
        refine wpAnyH_done (by kernel_rfl) ?_ _
        refine NoPanic.normal ?_
        clear hHeld
        go_wp2_with fail
        go_meet
        exact ⟨_, rfl, by show _ = _; rw [ba_lst, ba_lst, HT1.out, HXA.out.1, HXB.out.1]; rfl, by show _ ≤ _; rw [ba_siz, ba_siz]; have := HXA.out.2; have := HXB.out.2; have := HZ1.out; omega, HQ7⟩
      case rest =>
        obtain ⟨t2, rfl, HT2, HZ2, HB2⟩ := hcut
        clear HT1 HZ1 HB t
        go_wp2_with fail
        go_loopg [3, 5] s.que.length (fun gm v3 v5 wr => ∃ (i : Nat) (t : ByteArray), v3 = .string t ∧ v5 = .int .i64 (i : Int) ∧ Hid (i ≤ s.que.length ∧ gm = s.que.length - i) ∧ Hid (t.data.toList = pre s 2 ++ nm s.que.length ++ (s.que.take i).flatMap tx) ∧ Hid (t.size ≤ 210 + 19 * i) ∧ Hid (Below W1.heap.size W1 wr))
        case atStart => exact ⟨0, _, rfl, rfl, ⟨Nat.zero_le _, rfl⟩, by show _ = _; rw [HT2.out]; simp, by show _ ≤ _; have := HZ2.out; omega, HB2⟩
        case round =>
          obtain ⟨i, t, rfl, rfl, HI, HT, HZ, HB⟩ := hrel
          clear HT2 HZ2 HB2 t2
          obtain ⟨-, -, p2, -, -⟩ := HP.out _ HB.out
          by_cases hi : i < s.que.length
          · obtain ⟨b1, g1, o1, d1, f1, -, -, f2, f3⟩ := HS.out.q
            obtain ⟨rfl, -, rfl⟩ := Value.slice.inj f1
            obtain rfl := f2 (by omega)
            have ci := below_cell HB.out (f3 i _ (qC_get s.que i hi))
            have e1 : decide ((i : Int) < (s.que.length : Int)) = true := by rw [decide_eq_true_eq]; omega
            have e2 : decide (i < s.que.length) = true := by rw [decide_eq_true_eq]; omega
            have e5 : (i : Int) < (s.que.length : Int) := by omega
            have HIL : Hid (i < s.que.length) := hi
            have hwr := w64n i (by have := HM.out.q; omega)
            have hmem := HM.out.qv _ (mem_getD s.que ⟨#[]⟩ i hi)
            have HSN : Hid ((s.que.take (i + 1)).flatMap tx = (s.que.take i).flatMap tx ++ tx (s.que.getD i ⟨#[]⟩)) := fm_snoc tx s.que ⟨#[]⟩ i hi
            obtain ⟨x, hx⟩ : ∃ x, s.que.getD i ⟨#[]⟩ = x := ⟨_, rfl⟩
            rw [hx] at ci hmem HSN
            have HX : Hid (x.size ≤ 16) := hmem
            clear f1 f2 f3 hx hmem hi
            go_wp2_with fail
            refine (rtxt x HX.out wr).mono ?_
            rintro e w3 ⟨rfl, hb3⟩
            have HB3 : Hid (Below W1.heap.size W1 w3) := below_trans HB.out hb3
            obtain ⟨X, hX⟩ : ∃ X, txB x = X := ⟨_, rfl⟩
            rw [hX]
            have HXX : Hid (X.data.toList = tx x ∧ X.size ≤ 19) := by rw [← hX]; exact ⟨rfl, txB_siz _ HX.out⟩
            have z0 : ¬ 9223372036854775807 < t.size + X.size := by have := HXX.out.2; have := HZ.out; have := HM.out.q; have := HIL.out; omega
            clear hb3 hX p2 ci
            go_wp2_with fail
            go_roundg (s.que.length - (i + 1))
            case measure => have := HI.out; have := HIL.out; omega
            case rel => exact ⟨i + 1, t ++ X, rfl, by first | rfl | (rw [show (i : Int) + 1 = ((i + 1 : Nat) : Int) by omega]), ⟨HIL.out, rfl⟩, by show _ = _; rw [ba_lst, HT.out, HXX.out.1, HSN.out]; simp, by show _ ≤ _; rw [ba_siz]; have := HXX.out.2; have := HZ.out; omega, HB3⟩
          · have e1 : decide ((i : Int) < (s.que.length : Int)) = false := by rw [decide_eq_false_iff_not]; omega
            have e2 : decide (i < s.que.length) = false := by rw [decide_eq_false_iff_not]; omega
            have HT1 : Hid (t.data.toList = pre s 3) := by
              have hii : i = s.que.length := by have := HI.out; omega
              show _ = _
              rw [HT.out, hii, List.take_length]
              simp [pre, prt]
            have HZ1 : Hid (t.size ≤ 400) := by have := HZ.out; have := HM.out.q; have := HI.out; show t.size ≤ 400; omega
            clear hi HI HT HZ
            go_upto_region 11 with fail
            clear p2 e1 e2
            obtain ⟨-, -, -, p3, -⟩ := HP.out _ HB.out
            go_wp2_with fail
            refine (rnumn s.frm.length (by have := HM.out.f; omega) wr).mono ?_
            rintro e w4 ⟨rfl, hb4⟩
            have HB4 : Hid (Below W1.heap.size W1 w4) := below_trans HB.out hb4
            obtain ⟨X0, hX0⟩ : ∃ X, nmB s.frm.length = X := ⟨_, rfl⟩
            rw [hX0]
            have HX0 : Hid (X0.data.toList = nm s.frm.length ∧ X0.size ≤ 3) := by rw [← hX0]; exact ⟨rfl, nmB_siz _ (by have := HM.out.f; omega)⟩
            have z0 : ¬ 9223372036854775807 < t.size + X0.size := by have := HX0.out.2; have := HZ1.out; omega
            clear hb4 hX0 p3
            go_wp2_with fail
            clear z0
            go_loopg [3, 6] s.frm.length (fun gm v3 v6 wr => ∃ (i : Nat) (t : ByteArray), v3 = .string t ∧ v6 = .int .i64 (i : Int) ∧ Hid (i ≤ s.frm.length ∧ gm = s.frm.length - i) ∧ Hid (t.data.toList = pre s 3 ++ nm s.frm.length ++ (s.frm.take i).flatMap frb) ∧ Hid (t.size ≤ 410 + 22 * i) ∧ Hid (Below W1.heap.size W1 wr))
            case atStart => exact ⟨0, _, rfl, rfl, ⟨Nat.zero_le _, rfl⟩, by show _ = _; rw [ba_lst, HT1.out, HX0.out.1]; simp, by show _ ≤ _; rw [ba_siz]; have := HX0.out.2; have := HZ1.out; omega, HB4⟩
            case round =>
              clear HT1 HZ1 HB HX0 HB4
              obtain ⟨i, t, rfl, rfl, HI, HT, HZ, HB⟩ := hrel
              obtain ⟨-, -, -, p3, p4⟩ := HP.out _ HB.out
              by_cases hi : i < s.frm.length
              · obtain ⟨b1, g1, o1, d1, f1, -, -, f2, f3⟩ := HS.out.f
                obtain ⟨rfl, -, rfl⟩ := Value.slice.inj f1
                obtain rfl := f2 (by omega)
                have c0 := f3 (i * 2) _ (fC_get s.frm i hi).1
                have c1 := f3 (i * 2 + 1) _ (fC_get s.frm i hi).2
                rw [← Nat.add_assoc] at c1
                have e1 : decide ((i : Int) < (s.frm.length : Int)) = true := by rw [decide_eq_true_eq]; omega
                have e2 : decide (i < s.frm.length) = true := by rw [decide_eq_true_eq]; omega
                have e5 : (i : Int) < (s.frm.length : Int) := by omega
                have HIL : Hid (i < s.frm.length) := hi
                have hwr := w64n i (by have := HM.out.f; omega)
                have hmem := HM.out.fv _ (mem_getD s.frm (0, ⟨#[]⟩) i hi)
                have HSN : Hid ((s.frm.take (i + 1)).flatMap frb = (s.frm.take i).flatMap frb ++ frb (s.frm.getD i (0, ⟨#[]⟩))) := fm_snoc frb s.frm (0, ⟨#[]⟩) i hi
                obtain ⟨x, hx⟩ : ∃ x, s.frm.getD i (0, ⟨#[]⟩) = x := ⟨_, rfl⟩
                rw [hx] at c0 c1 hmem HSN
                obtain ⟨x1, x2⟩ := x
                have HX : Hid (0 ≤ x1 ∧ x1 ≤ 15 ∧ x2.size ≤ 16) := hmem
                have HC : Hid (∀ W, Below W1.heap.size W1 W → W.cell? ⟨w.heap.size, 3, none⟩ = some (.slice (some ⟨g1, o1, none⟩) s.frm.length c3) ∧ W.cell? ⟨g1, o1 + i * 2, none⟩ = some (.int .i64 x1) ∧ W.cell? ⟨g1, o1 + i * 2 + 1, none⟩ = some (.string x2) ∧ Below W1.heap.size W1 W) := fun W hW => ⟨(HP.out W hW).2.2.2.1, below_cell hW c0, below_cell hW c1, hW⟩
                clear f1 f2 f3 hx hmem hi c0 c1 p4
                go_upto_region 15 with fail
                clear p3 e1 e2
                have HSB : Hid (∀ W, (W.cell? ⟨w.heap.size, 3, none⟩ = some (.slice (some ⟨g1, o1, none⟩) s.frm.length c3) ∧ W.cell? ⟨g1, o1 + i * 2, none⟩ = some (.int .i64 x1) ∧ W.cell? ⟨g1, o1 + i * 2 + 1, none⟩ = some (.string x2) ∧ Below W1.heap.size W1 W) → Below W1.heap.size W1 W) := fun W hW => hW.2.2.2
                have CA : Hid (∀ W : World, Calls Try.prog 51 #[.int .i64 x1] W fun e w' => e = .returned (.string (nmB x1.toNat)) ∧ Below W.heap.size W w') := fun W => rnumi x1 HX.out.1 (by have := HX.out.2; omega) W
                have CB : Hid (∀ W : World, Calls Try.prog 52 #[.string x2] W fun e w' => e = .returned (.string (txB x2)) ∧ Below W.heap.size W w') := fun W => rtxt x2 HX.out.2.2 W
                have HXA : Hid ((nmB x1.toNat).data.toList = nm x1.toNat ∧ (nmB x1.toNat).size ≤ 3) := ⟨rfl, nmB_siz _ (by have := HX.out; omega)⟩
                have HXB : Hid ((txB x2).data.toList = tx x2 ∧ (txB x2).size ≤ 19) := ⟨rfl, txB_siz _ HX.out.2.2⟩
                generalize nmB x1.toNat = XA at CA HXA
                generalize txB x2 = XB at CB HXB
                have z1 : ¬ 9223372036854775807 < t.size + XA.size := by have := HXA.out.2; have := HZ.out; have := HM.out.f; have := HIL.out; omega
                have z2 : ¬ 9223372036854775807 < t.size + XA.size + XB.size := by have := HXA.out.2; have := HXB.out.2; have := HZ.out; have := HM.out.f; have := HIL.out; omega
                refine wp_region_noPanic ?_
                refine wp_region_held_drew (S := fun W => W.cell? ⟨w.heap.size, 3, none⟩ = some (.slice (some ⟨g1, o1, none⟩) s.frm.length c3) ∧ W.cell? ⟨g1, o1 + i * 2, none⟩ = some (.int .i64 x1) ∧ W.cell? ⟨g1, o1 + i * 2 + 1, none⟩ = some (.string x2) ∧ Below W1.heap.size W1 W) (by kernel_rfl) (HC.out _ (Below.drew HB.out)) (fun hHeld => ?_)
                refine wpAnyH_take (i := 0) (oi := { dst := _, op := _, type := _, pos := _, after := _, guard := _ }) (v := ?_) rfl (by kernel_rfl) (by kernel_rfl) (by kernel_rfl) (fun _ _ _ h => h) (Or.inl ⟨by rfl, ?_⟩) (by assumption) ?_
                rotate_left
                · intro W hSw
                  obtain ⟨h1, h2, h3, -⟩ := hSw
                  go_simp
                  (try with_reducible rfl)
                try simp only [Act.put, List.setIfInBounds_toArray, List.set_cons_zero, List.set_cons_succ]
                refine wpAnyH_take (i := 1) (oi := { dst := _, op := _, type := _, pos := _, after := _, guard := _ }) (v := ?_) rfl (by kernel_rfl) (by kernel_rfl) (by kernel_rfl) (fun _ _ _ h => h) (Or.inl ⟨by rfl, ?_⟩) (by assumption) ?_
                rotate_left
                · intro W hSw
                  obtain ⟨h1, h2, h3, -⟩ := hSw
                  go_simp
                  (try with_reducible rfl)
                try simp only [Act.put, List.setIfInBounds_toArray, List.set_cons_zero, List.set_cons_succ]
                refine wpAnyH_take (i := 2) (oi := { dst := _, op := _, type := _, pos := _, after := _, guard := _ }) (v := ?_) rfl (by kernel_rfl) (by kernel_rfl) (by kernel_rfl) (fun _ _ _ h => h) (Or.inl ⟨by rfl, ?_⟩) (by assumption) ?_
                rotate_left
                · intro W hSw
                  obtain ⟨h1, h2, h3, -⟩ := hSw
                  go_simp
                  (try with_reducible rfl)
                try simp only [Act.put, List.setIfInBounds_toArray, List.set_cons_zero, List.set_cons_succ]
                refine wpAnyH_take (i := 3) (oi := { dst := _, op := _, type := _, pos := _, after := _, guard := _ }) (v := ?_) rfl (by kernel_rfl) (by kernel_rfl) (by kernel_rfl) (fun _ _ _ h => h) (Or.inl ⟨by rfl, ?_⟩) (by assumption) ?_
                rotate_left
                · intro W hSw
                  obtain ⟨h1, h2, h3, -⟩ := hSw
                  go_simp
                  (try with_reducible rfl)
                try simp only [Act.put, List.setIfInBounds_toArray, List.set_cons_zero, List.set_cons_succ]
                refine wpAnyH_take (i := 4) (oi := { dst := _, op := _, type := _, pos := _, after := _, guard := _ }) (v := ?_) rfl (by kernel_rfl) (by kernel_rfl) (by kernel_rfl) (fun _ _ _ h => h) (Or.inl ⟨by rfl, ?_⟩) (by assumption) ?_
                rotate_left
                · intro W hSw
                  obtain ⟨h1, h2, h3, -⟩ := hSw
                  go_simp
                  (try with_reducible rfl)
                try simp only [Act.put, List.setIfInBounds_toArray, List.set_cons_zero, List.set_cons_succ]
                refine wpAnyH_take (i := 5) (oi := { dst := _, op := _, type := _, pos := _, after := _, guard := _ }) (v := ?_) rfl (by kernel_rfl) (by kernel_rfl) (by kernel_rfl) (fun _ _ _ h => h) (Or.inl ⟨by rfl, ?_⟩) (by assumption) ?_
                rotate_left
                · intro W hSw
                  obtain ⟨h1, h2, h3, -⟩ := hSw
                  go_simp
                  (try with_reducible rfl)
                try simp only [Act.put, List.setIfInBounds_toArray, List.set_cons_zero, List.set_cons_succ]
                refine wpAnyH_take (i := 6) (oi := { dst := _, op := _, type := _, pos := _, after := _, guard := _ }) (v := ?_) rfl (by kernel_rfl) (by kernel_rfl) (by kernel_rfl) (fun _ _ _ h => h) (Or.inl ⟨by rfl, ?_⟩) (by assumption) ?_
                rotate_left
                · intro W hSw
                  obtain ⟨h1, h2, h3, -⟩ := hSw
                  go_simp
                  (try with_reducible rfl)
                try simp only [Act.put, List.setIfInBounds_toArray, List.set_cons_zero, List.set_cons_succ]
                refine wpAnyH_take (i := 9) (oi := { dst := _, op := _, type := _, pos := _, after := _, guard := _ }) (v := ?_) rfl (by kernel_rfl) (by kernel_rfl) (by kernel_rfl) (fun _ _ _ h => h) (Or.inl ⟨by rfl, ?_⟩) (by assumption) ?_
                rotate_left
                · intro W hSw
                  obtain ⟨h1, h2, h3, -⟩ := hSw
                  go_simp
                  (try with_reducible rfl)
                try simp only [Act.put, List.setIfInBounds_toArray, List.set_cons_zero, List.set_cons_succ]
                refine wpAnyH_take (i := 10) (oi := { dst := _, op := _, type := _, pos := _, after := _, guard := _ }) (v := ?_) rfl (by kernel_rfl) (by kernel_rfl) (by kernel_rfl) (fun _ _ _ h => h) (Or.inl ⟨by rfl, ?_⟩) (by assumption) ?_
                rotate_left
                · intro W hSw
                  obtain ⟨h1, h2, h3, -⟩ := hSw
                  go_simp
                  (try with_reducible rfl)
                try simp only [Act.put, List.setIfInBounds_toArray, List.set_cons_zero, List.set_cons_succ]
                refine wpAnyH_take (i := 11) (oi := { dst := _, op := _, type := _, pos := _, after := _, guard := _ }) (v := ?_) rfl (by kernel_rfl) (by kernel_rfl) (by kernel_rfl) (fun _ _ _ h => h) (Or.inl ⟨by rfl, ?_⟩) (by assumption) ?_
                rotate_left
                · intro W hSw
                  obtain ⟨h1, h2, h3, -⟩ := hSw
                  go_simp
                  (try with_reducible rfl)
                try simp only [Act.put, List.setIfInBounds_toArray, List.set_cons_zero, List.set_cons_succ]
                refine wpAnyH_take (i := 12) (oi := { dst := _, op := _, type := _, pos := _, after := _, guard := _ }) (v := ?_) rfl (by kernel_rfl) (by kernel_rfl) (by kernel_rfl) (fun _ _ _ h => h) (Or.inl ⟨by rfl, ?_⟩) (by assumption) ?_
                rotate_left
                · intro W hSw
                  obtain ⟨h1, h2, h3, -⟩ := hSw
                  go_simp
                  (try with_reducible rfl)
                try simp only [Act.put, List.setIfInBounds_toArray, List.set_cons_zero, List.set_cons_succ]
                refine wpAnyH_take (i := 13) (oi := { dst := _, op := _, type := _, pos := _, after := _, guard := _ }) (v := ?_) rfl (by kernel_rfl) (by kernel_rfl) (by kernel_rfl) (fun _ _ _ h => h) (Or.inl ⟨by rfl, ?_⟩) (by assumption) ?_
                rotate_left
                · intro W hSw
                  obtain ⟨h1, h2, h3, -⟩ := hSw
                  go_simp
                  (try with_reducible rfl)
                try simp only [Act.put, List.setIfInBounds_toArray, List.set_cons_zero, List.set_cons_succ]
                refine wpAnyH_take (i := 14) (oi := { dst := _, op := _, type := _, pos := _, after := _, guard := _ }) (v := ?_) rfl (by kernel_rfl) (by kernel_rfl) (by kernel_rfl) (fun _ _ _ h => h) (Or.inl ⟨by rfl, ?_⟩) (by assumption) ?_
                rotate_left
                · intro W hSw
                  obtain ⟨h1, h2, h3, -⟩ := hSw
                  go_simp
                  (try with_reducible rfl)
                try simp only [Act.put, List.setIfInBounds_toArray, List.set_cons_zero, List.set_cons_succ]
                refine wpAnyH_ready (rs := [7]) (by kernel_rfl) (by simp) ?_
                refine AllReadyH.cons (o := { dst := _, op := _, type := _, pos := _, after := _, guard := _ }) rfl (fun K hK => ?_) AllReadyH.nil
                go_simp
                refine (CA.out _).mono ?_
                rintro e w6 ⟨rfl, hb6⟩
                have HQ6 : Hid (Below W1.heap.size W1 w6) := below_trans (Below.drew HB.out) hb6
                clear hb6
                go_wp2_with fail
                refine hK.out _ _ ?_ (fun hHeld => ?_)
                · (try dsimp only)
                  exact HC.out _ HQ6.out
                clear hK K
                try simp only [Act.put, List.setIfInBounds_toArray, List.set_cons_zero, List.set_cons_succ]
                refine wpAnyH_take (i := 8) (oi := { dst := _, op := _, type := _, pos := _, after := _, guard := _ }) (v := ?_) rfl (by kernel_rfl) (by kernel_rfl) (by kernel_rfl) (fun _ _ _ h => h) (Or.inl ⟨by rfl, ?_⟩) (by assumption) ?_
                rotate_left
                · intro W hSw
                  obtain ⟨h1, h2, h3, -⟩ := hSw
                  go_simp
                  (try with_reducible rfl)
                try simp only [Act.put, List.setIfInBounds_toArray, List.set_cons_zero, List.set_cons_succ]
                refine wpAnyH_ready (rs := [15]) (by kernel_rfl) (by simp) ?_
                refine AllReadyH.cons (o := { dst := _, op := _, type := _, pos := _, after := _, guard := _ }) rfl (fun K hK => ?_) AllReadyH.nil
                go_simp
                refine (CB.out _).mono ?_
                rintro e w7 ⟨rfl, hb7⟩
                have HQ7 : Hid (Below W1.heap.size W1 w7) := below_trans HQ6.out hb7
                clear hb7
                go_wp2_with fail
                refine hK.out _ _ ?_ (fun hHeld => ?_)
                · (try dsimp only)
                  exact HC.out _ HQ7.out
                clear hK K
                try simp only [Act.put, List.setIfInBounds_toArray, List.set_cons_zero, List.set_cons_succ]
                refine wpAnyH_take (i := 16) (oi := { dst := _, op := _, type := _, pos := _, after := _, guard := _ }) (v := ?_) rfl (by kernel_rfl) (by kernel_rfl) (by kernel_rfl) (fun _ _ _ h => h) (Or.inl ⟨by rfl, ?_⟩) (by assumption) ?_
                rotate_left
                · intro W hSw
                  obtain ⟨h1, h2, h3, -⟩ := hSw
                  go_simp
                  (try with_reducible rfl)
                try simp only [Act.put, List.setIfInBounds_toArray, List.set_cons_zero, List.set_cons_succ]
                refine wpAnyH_take (i := 17) (oi := { dst := _, op := _, type := _, pos := _, after := _, guard := _ }) (v := ?_) rfl (by kernel_rfl) (by kernel_rfl) (by kernel_rfl) (fun _ _ _ h => h) (Or.inl ⟨by rfl, ?_⟩) (by assumption) ?_
                rotate_left
                · intro W hSw
                  obtain ⟨h1, h2, h3, -⟩ := hSw
                  go_simp
                  (try with_reducible rfl)
                try simp only [Act.put, List.setIfInBounds_toArray, List.set_cons_zero, List.set_cons_succ]
                refine wpAnyH_done (by kernel_rfl) ?_ _
                refine NoPanic.normal ?_
                clear hHeld
                go_wp2_with fail
                go_roundg (s.frm.length - (i + 1))
                case measure => have := HI.out; have := HIL.out; omega
                case rel => exact ⟨i + 1, _, rfl, by first | rfl | (rw [show (i : Int) + 1 = ((i + 1 : Nat) : Int) by omega]), ⟨HIL.out, rfl⟩, by show _ = _; rw [ba_lst, ba_lst, HT.out, HXA.out.1, HXB.out.1, HSN.out]; simp [frb], by show _ ≤ _; rw [ba_siz, ba_siz]; have := HXA.out.2; have := HXB.out.2; have := HZ.out; omega, HQ7⟩
              · have e1 : decide ((i : Int) < (s.frm.length : Int)) = false := by rw [decide_eq_false_iff_not]; omega
                have e2 : decide (i < s.frm.length) = false := by rw [decide_eq_false_iff_not]; omega
                have HT1 : Hid (t.data.toList = pre s 4) := by
                  have hii : i = s.frm.length := by have := HI.out; omega
                  show _ = _
                  rw [HT.out, hii, List.take_length]
                  simp [pre, prt]
                have HZ1 : Hid (t.size ≤ 800) := by have := HZ.out; have := HM.out.f; have := HI.out; show t.size ≤ 800; omega
                have hfl : (s.flg : Int) ≤ 65535 := by have := HM.out.g; omega
                clear hi HI HT HZ
                go_wp2_with fail
                refine (rnumn s.flg (by have := HM.out.g; omega) wr).mono ?_
                rintro e w4 ⟨rfl, hb4⟩
                have HB4 : Hid (Below W1.heap.size W1 w4) := below_trans HB.out hb4
                obtain ⟨X0, hX0⟩ : ∃ X, nmB s.flg = X := ⟨_, rfl⟩
                rw [hX0]
                have HX0 : Hid (X0.data.toList = nm s.flg ∧ X0.size ≤ 3) := by rw [← hX0]; exact ⟨rfl, nmB_siz _ (by have := HM.out.g; omega)⟩
                have z0 : ¬ 9223372036854775807 < t.size + X0.size := by have := HX0.out.2; have := HZ1.out; omega
                clear hb4 hX0 p3 p4
                go_wp2_with fail
                go_ret
                have hfin : t ++ X0 = ⟨(enc s).toArray⟩ := by
                  apply ByteArray.ext
                  apply Array.toList_inj.1
                  rw [ba_lst, HT1.out, HX0.out.1, ← pre_five]
                  rfl
                exact ⟨by first | exact congrArg (fun x => Ending.returned (Value.string x)) hfin | (rw [← hfin]; rfl), below_trans HB1.out HB4.out⟩
end Go.Proofs.Ytkaciochlemjiaa
