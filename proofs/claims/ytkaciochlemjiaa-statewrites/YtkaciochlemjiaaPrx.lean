import Derived.Test.YtkaciochlemjiaaPrt
namespace Go.Proofs.Ytkaciochlemjiaa
open Go.RowKit Go.Maps

set_option maxRecDepth 100000 in
set_option maxHeartbeats 4000000 in
theorem part3_any {B : Nat} {w0 w : World} {vi vq vf v : Value} {s : Stt} {l : List UInt8} (h : Stm w0 vi vq vf s) (hbel : Below w0.heap.size w0 w) (hw0 : w0.heap.size ≤ B) (hs : Lim s) (hv : Byt B w v l) (hB : B ≤ w.heap.size) (hl : l.length ≤ 1000000) :
    Calls Try.prog 30 #[v, sv vi vq vf s, .int .i64 3] w fun e w' => ∃ v', e = .returned v' ∧ Byt B w' v' (l ++ prt s 3) ∧ Below B w w' := by
  obtain ⟨a1, c1, a2, c2, a3, c3, rfl, rfl, rfl⟩ := h.form
  obtain ⟨W1, hW1⟩ : ∃ W1, W1 = w.alloc (.cells #[.slice a1 s.ind.length c1, .int .i64 s.pen, .slice a2 s.que.length c2, .slice a3 s.frm.length c3, .int .u16 (s.flg : Int)] 27) := ⟨_, rfl⟩
  have hhp : W1.heap[w.heap.size]? = some (.cells #[.slice a1 s.ind.length c1, .int .i64 s.pen, .slice a2 s.que.length c2, .slice a3 s.frm.length c3, .int .u16 (s.flg : Int)] 27 (0, 0)) := by rw [hW1]; exact heap_new w _
  have HB1 : Hid (Below B w W1) := by rw [hW1]; exact (Below.refl B w).alloc hB _
  have HS1 : Hid (B ≤ W1.heap.size) := Nat.le_trans hB HB1.out.size
  have HV1 : Hid (Byt B W1 v l) := by rw [hW1]; exact hv.alloc _
  have HLT : Hid (v.ownBlock ≠ some w.heap.size) := fun e => by have := (hv.lt _ e).2; omega
  have p0 : W1.cell? ⟨w.heap.size, 0, none⟩ = some (.slice a1 s.ind.length c1) := by rw [Lib.cell_of_heap hhp]; rfl
  have p1 : W1.cell? ⟨w.heap.size, 1, none⟩ = some (.int .i64 s.pen) := by rw [Lib.cell_of_heap hhp]; rfl
  have p2 : W1.cell? ⟨w.heap.size, 2, none⟩ = some (.slice a2 s.que.length c2) := by rw [Lib.cell_of_heap hhp]; rfl
  have p3 : W1.cell? ⟨w.heap.size, 3, none⟩ = some (.slice a3 s.frm.length c3) := by rw [Lib.cell_of_heap hhp]; rfl
  have p4 : W1.cell? ⟨w.heap.size, 4, none⟩ = some (.int .u16 (s.flg : Int)) := by rw [Lib.cell_of_heap hhp]; rfl
  have HW : Hid (W1 = w.alloc (.cells #[.slice a1 s.ind.length c1, .int .i64 s.pen, .slice a2 s.que.length c2, .slice a3 s.frm.length c3, .int .u16 (s.flg : Int)] 27)) := hW1
  have HS : Hid (Stm w0 (.slice a1 s.ind.length c1) (.slice a2 s.que.length c2) (.slice a3 s.frm.length c3) s) := h
  have H0 : Hid (Below w0.heap.size w0 w ∧ w0.heap.size ≤ B) := ⟨hbel, hw0⟩
  have HL : Hid (l.length ≤ 1000000) := hl
  have HM : Hid (Lim s) := hs
  obtain ⟨va, vc, hvs⟩ := row_shape hv
  subst hvs
  have HBX : Hid (B ≤ w.heap.size) := hB
  clear h hbel hw0 hl hs hv hB hW1 hhp
  have HPR : Hid (prt s 3 = nm s.frm.length ++ s.frm.flatMap frb) := rfl
  have HNB : Hid (s.frm.length < 128 ^ 9) := n9 _ (by have := HM.out.f; omega)
  go_enter Try.func30, Try.ntmps30
  go_upto_region 1 with fail
  rw [← HW.out]
  go_wp2_with fail
  refine (number_any s.frm.length HNB.out W1 HV1.out (by have := HL.out; omega) HS1.out).mono ?_
  rintro e w2 ⟨v2, rfl, h2, g2⟩
  have HR : Hid (Byt B w2 v2 (l ++ nm s.frm.length)) := h2
  have HG : Hid (Below B w w2) := HB1.out.trans (g2.below HS1.out (fun r e => (HV1.out.lt r e).1))
  have pk := g2.cell p3 HLT.out
  have HQL : Hid ((l ++ nm s.frm.length).length ≤ 1000003) := by
    have h3 := nm3 s.frm.length (by have := HM.out.f; omega)
    have h4 := HL.out
    show (l ++ nm s.frm.length).length ≤ 1000003
    rw [List.length_append]
    omega
  clear h2 g2 p0 p1 p2 p3 p4
  obtain ⟨q, hq⟩ : ∃ q, l ++ nm s.frm.length = q := ⟨_, rfl⟩
  rw [hq] at HR HQL
  have HQ : Hid (l ++ nm s.frm.length = q) := hq
  clear hq
  obtain ⟨ra, rc, rfl⟩ := row_shape HR.out
  go_upto_region 21 with fail
  clear pk
  go_loopg [0, 67] s.frm.length (fun gm v0 vx wr => ∃ i : Nat, vx = .int .i64 (i : Int) ∧ Hid (i ≤ s.frm.length ∧ gm = s.frm.length - i) ∧ Hid (Byt B wr v0 (q ++ (s.frm.take i).flatMap frb)) ∧ Hid (Below B w wr))
  case atStart => exact ⟨0, rfl, ⟨Nat.zero_le _, rfl⟩, by rw [List.take_zero, List.flatMap_nil, List.append_nil]; exact HR, HG⟩
  case round =>
    obtain ⟨i, rfl, HI, HRR, HBW⟩ := hrel
    clear HR HG
    have hBw : Below w0.heap.size w0 wr := H0.out.1.trans (HBW.out.mono H0.out.2)
    have HBB : Hid _ := hBw
    obtain ⟨t, ht⟩ : ∃ t, q ++ (s.frm.take i).flatMap frb = t := ⟨_, rfl⟩
    rw [ht] at HRR
    obtain ⟨rb, rd, hrv⟩ := row_shape HRR.out
    subst hrv
    have HSB : Hid (B ≤ wr.heap.size) := by
      have := HS1.out
      have := HBW.out.size
      have h5 := H0.out
      show B ≤ wr.heap.size
      have h6 : B ≤ w.heap.size := HBX.out
      omega
    by_cases hi : i < s.frm.length
    · have HTL : Hid (t.length ≤ 1010000) := by
        have h3 := fm_len frb 22 (s.frm.take i) (mem_take _ _ _ (fun x hx => frb_len x (HM.out.fv x hx)))
        have h4 := HQL.out
        have h5 := HM.out.f
        rw [List.length_take] at h3
        show t.length ≤ 1010000
        rw [← ht, List.length_append]
        have h6 : min i s.frm.length * 22 ≤ 32 * 22 := Nat.mul_le_mul_right _ (by omega)
        omega
      obtain ⟨x, hx⟩ : ∃ x, s.frm.getD i (0, ⟨#[]⟩) = x := ⟨_, rfl⟩
      obtain ⟨t5, ht5⟩ : ∃ t5, t ++ frb x = t5 := ⟨_, rfl⟩
      have HT5 : Hid (t ++ frb x = t5) := ht5
      have HFS : Hid (q ++ (s.frm.take (i + 1)).flatMap frb = t5) := by rw [fm_snoc frb s.frm (0, ⟨#[]⟩) i hi, ← List.append_assoc, ht, hx]; exact ht5
      clear ht5
      have hmem : x ∈ s.frm := by rw [← hx]; exact mem_getD s.frm (0, ⟨#[]⟩) i hi
      obtain ⟨ao, g, o, cp, f1, -, -, f2, f3⟩ := HS.out.f
      obtain ⟨rfl, -, rfl⟩ := Value.slice.inj f1
      obtain rfl := f2 (by omega)
      have e1 : decide ((i : Int) < (s.frm.length : Int)) = true := by rw [decide_eq_true_eq]; omega
      have e2 : decide (i < s.frm.length) = true := by rw [decide_eq_true_eq]; omega
      have e3 : (i : Int) < (s.frm.length : Int) := by omega
      have HIL : Hid (i < s.frm.length) := hi
      have hwr := w64n i (by have := HM.out.f; omega)
      obtain ⟨x0, x2⟩ := x
      have hxv := HM.out.fv _ hmem
      simp only at hxv
      obtain ⟨x1, rfl⟩ : ∃ x1 : Nat, x0 = (x1 : Int) := ⟨x0.toNat, by omega⟩
      have HXS : Hid (x2.size ≤ 1000000) := by show x2.size ≤ 1000000; omega
      have HX1 : Hid (x1 ≤ 70000) := by show x1 ≤ 70000; omega
      have HNX : Hid (x1 < 128 ^ 9) := n9 _ (by omega)
      have ci := below_cell hBw (f3 (i * 2) _ (fC_get s.frm i (by omega)).1)
      have cj := below_cell hBw (f3 (i * 2 + 1) _ (fC_get s.frm i (by omega)).2)
      rw [hx] at ci cj
      rw [← Nat.add_assoc] at cj
      clear hxv hmem
      clear hi hx f1 f2 f3 ht hBw
      go_upto_region 23 with fail
      obtain ⟨wq, hwq⟩ : ∃ wq, wq = wr.alloc (.cells #[.int .i64 ((x1 : Nat) : Int), .string x2] 54) := ⟨_, rfl⟩
      rw [← hwq]
      have hBq : Below wr.heap.size wr wq := by rw [hwq]; exact bel_up _ _
      have hh1 : wq.heap[wr.heap.size]? = some (.cells #[.int .i64 ((x1 : Nat) : Int), .string x2] 54 (0, 0)) := by rw [hwq]; exact heap_new wr _
      have HRQ : Hid (Byt B wq.drew (.slice rb t.length rd) t) := row_up HRR.out (Below.drew hBq)
      have HGQ : Hid (Below B w wq.drew) := HBW.out.trans ((Below.drew hBq).mono HSB.out)
      have HSQ : Hid (B ≤ wq.drew.heap.size) := Nat.le_trans HSB.out hBq.size
      have HNE : Hid (Value.ownBlock (.slice rb t.length rd) ≠ some wr.heap.size) := fun e => by have := (HRR.out.lt _ e).2; omega
      have HQZ : Hid (wr.heap.size < wq.drew.heap.size) := lt_of_heap hh1
      have kx : wq.drew.cell? ⟨wr.heap.size, 0, none⟩ = some (.int .i64 ((x1 : Nat) : Int)) ∧ wq.drew.cell? ⟨wr.heap.size, 1, none⟩ = some (.string x2) := by
        constructor
        · show wq.cell? _ = _
          rw [Lib.cell_of_heap hh1]; rfl
        · show wq.cell? _ = _
          rw [Lib.cell_of_heap hh1]; rfl
      have HKX : Hid _ := kx
      clear ci cj hwq hBq hh1
      refine wp_region_noPanic ?_
      refine wp_region_held_drew (S := fun W => W.cell? ⟨wr.heap.size, 0, none⟩ = some (.int .i64 ((x1 : Nat) : Int)) ∧ W.cell? ⟨wr.heap.size, 1, none⟩ = some (.string x2)) (by kernel_rfl) kx (fun hHeld => ?_)
      clear kx
      refine wpAnyH_take (i := 0) (oi := { dst := _, op := _, type := _, pos := _, after := _, guard := _ }) (v := ?_) rfl (by kernel_rfl) (by kernel_rfl) (by kernel_rfl) (fun _ _ _ h => h) (Or.inl ⟨by rfl, ?_⟩) (by assumption) ?_
      rotate_left
      · intro W hSw
        obtain ⟨h1, h2⟩ := hSw
        go_simp
        (try with_reducible rfl)
      try simp only [Act.put, List.setIfInBounds_toArray, List.set_cons_zero, List.set_cons_succ]
      refine wpAnyH_take (i := 1) (oi := { dst := _, op := _, type := _, pos := _, after := _, guard := _ }) (v := ?_) rfl (by kernel_rfl) (by kernel_rfl) (by kernel_rfl) (fun _ _ _ h => h) (Or.inl ⟨by rfl, ?_⟩) (by assumption) ?_
      rotate_left
      · intro W hSw
        obtain ⟨h1, h2⟩ := hSw
        go_simp
        (try with_reducible rfl)
      try simp only [Act.put, List.setIfInBounds_toArray, List.set_cons_zero, List.set_cons_succ]
      refine wpAnyH_take (i := 2) (oi := { dst := _, op := _, type := _, pos := _, after := _, guard := _ }) (v := ?_) rfl (by kernel_rfl) (by kernel_rfl) (by kernel_rfl) (fun _ _ _ h => h) (Or.inl ⟨by rfl, ?_⟩) (by assumption) ?_
      rotate_left
      · intro W hSw
        obtain ⟨h1, h2⟩ := hSw
        go_simp
        (try with_reducible rfl)
      try simp only [Act.put, List.setIfInBounds_toArray, List.set_cons_zero, List.set_cons_succ]
      refine wpAnyH_take (i := 4) (oi := { dst := _, op := _, type := _, pos := _, after := _, guard := _ }) (v := ?_) rfl (by kernel_rfl) (by kernel_rfl) (by kernel_rfl) (fun _ _ _ h => h) (Or.inl ⟨by rfl, ?_⟩) (by assumption) ?_
      rotate_left
      · intro W hSw
        obtain ⟨h1, h2⟩ := hSw
        go_simp
        (try with_reducible rfl)
      try simp only [Act.put, List.setIfInBounds_toArray, List.set_cons_zero, List.set_cons_succ]
      refine wpAnyH_take (i := 5) (oi := { dst := _, op := _, type := _, pos := _, after := _, guard := _ }) (v := ?_) rfl (by kernel_rfl) (by kernel_rfl) (by kernel_rfl) (fun _ _ _ h => h) (Or.inl ⟨by rfl, ?_⟩) (by assumption) ?_
      rotate_left
      · intro W hSw
        obtain ⟨h1, h2⟩ := hSw
        go_simp
        (try with_reducible rfl)
      try simp only [Act.put, List.setIfInBounds_toArray, List.set_cons_zero, List.set_cons_succ]
      refine wpAnyH_ready (rs := [3]) (by kernel_rfl) (by simp) ?_
      refine AllReadyH.cons (o := { dst := _, op := _, type := _, pos := _, after := _, guard := _ }) rfl (fun K hK => ?_) AllReadyH.nil
      go_simp
      refine (number_any x1 HNX.out _ HRQ.out (by have := HTL.out; omega) HSQ.out).mono ?_
      rintro e w6 ⟨v6, rfl, h6, g6⟩
      have HR6 : Hid (Byt B w6 v6 (t ++ nm x1)) := h6
      have HG6 : Hid (Below B w w6) := HGQ.out.trans (g6.below HSQ.out (fun r e => (HRQ.out.lt r e).1))
      have HK6 : Hid (w6.cell? ⟨wr.heap.size, 0, none⟩ = some (.int .i64 ((x1 : Nat) : Int)) ∧ w6.cell? ⟨wr.heap.size, 1, none⟩ = some (.string x2)) := ⟨g6.cell HKX.out.1 HNE.out, g6.cell HKX.out.2 HNE.out⟩
      have HS6 : Hid (B ≤ w6.heap.size) := Nat.le_trans HSQ.out g6.1.size
      have HN6 : Hid (v6.ownBlock ≠ some wr.heap.size) := fun e => (g6.2 _ e).elim (fun h => by have := HQZ.out; omega) HNE.out
      have HT6 : Hid ((t ++ nm x1).length ≤ 1010003) := by have h1 := nm3 x1 HX1.out; have h2 := HTL.out; show (t ++ nm x1).length ≤ 1010003; rw [List.length_append]; omega
      clear h6 g6
      obtain ⟨t6, ht6⟩ : ∃ t6, t ++ nm x1 = t6 := ⟨_, rfl⟩
      rw [ht6] at HR6 HT6
      have HE6 : Hid (t ++ nm x1 = t6) := ht6
      clear ht6
      obtain ⟨rx, ry, hry⟩ := row_shape HR6.out
      subst hry
      go_wp2_with fail
      refine hK.out _ _ ?_ (fun hHeld => ?_)
      · (try dsimp only)
        exact HK6.out
      clear hK K
      try simp only [Act.put, List.setIfInBounds_toArray, List.set_cons_zero, List.set_cons_succ]
      refine wpAnyH_ready (rs := [6]) (by kernel_rfl) (by simp) ?_
      refine AllReadyH.cons (o := { dst := _, op := _, type := _, pos := _, after := _, guard := _ }) rfl (fun K hK => ?_) AllReadyH.nil
      go_simp
      refine (text_any x2 HXS.out _ HR6.out (by have := HT6.out; omega) HS6.out).mono ?_
      rintro e w5 ⟨v5, rfl, h5, g5⟩
      have HR5 : Hid (Byt B w5 v5 t5) := by rw [← HT5.out, show t ++ frb ((x1 : Int), x2) = t6 ++ tx x2 by rw [← HE6.out, List.append_assoc]; rfl]; exact h5
      have HG5 : Hid (Below B w w5) := HG6.out.trans ((Below.refl B w6).grown g5 HS6.out (fun r e => (HR6.out.lt r e).1))
      have HK5 : Hid (w5.cell? ⟨wr.heap.size, 0, none⟩ = some (.int .i64 ((x1 : Nat) : Int)) ∧ w5.cell? ⟨wr.heap.size, 1, none⟩ = some (.string x2)) := ⟨g5.cell HK6.out.1 (fun e => HN6.out e.symm), g5.cell HK6.out.2 (fun e => HN6.out e.symm)⟩
      clear h5 g5
      obtain ⟨rz, rw_, hrz⟩ := row_shape HR5.out
      subst hrz
      go_wp2_with fail
      refine hK.out _ _ ?_ (fun hHeld => ?_)
      · (try dsimp only)
        exact HK5.out
      clear hK K
      try simp only [Act.put, List.setIfInBounds_toArray, List.set_cons_zero, List.set_cons_succ]
      refine wpAnyH_take (i := 7) (oi := { dst := _, op := _, type := _, pos := _, after := _, guard := _ }) (v := ?_) rfl (by kernel_rfl) (by kernel_rfl) (by kernel_rfl) (fun _ _ _ h => h) (Or.inl ⟨by rfl, ?_⟩) (by assumption) ?_
      rotate_left
      · intro W hSw
        obtain ⟨h1, h2⟩ := hSw
        go_simp
        (try with_reducible rfl)
      try simp only [Act.put, List.setIfInBounds_toArray, List.set_cons_zero]
      refine wpAnyH_done (by kernel_rfl) ?_ _
      refine NoPanic.normal ?_
      clear hHeld
      go_wp2_with fail
      go_roundg (s.frm.length - (i + 1))
      case measure => have := HI.out; have := HIL.out; omega
      case rel => exact ⟨i + 1, by first | rfl | (rw [show (i : Int) + 1 = ((i + 1 : Nat) : Int) by omega]), ⟨HIL.out, rfl⟩, by rw [HFS.out]; exact HR5, HG5⟩
    · have e1 : decide ((i : Int) < (s.frm.length : Int)) = false := by rw [decide_eq_false_iff_not]; omega
      have e2 : decide (i < s.frm.length) = false := by rw [decide_eq_false_iff_not]; omega
      have HFE : Hid (t = l ++ prt s 3) := by rw [← ht, List.take_of_length_le (by omega), ← HQ.out, List.append_assoc, HPR.out]; exact rfl
      clear hi ht hBw
      go_wp2_with fail
      go_ret
      exact ⟨_, rfl, by rw [← HFE.out]; exact HRR.out, HBW.out⟩
end Go.Proofs.Ytkaciochlemjiaa
