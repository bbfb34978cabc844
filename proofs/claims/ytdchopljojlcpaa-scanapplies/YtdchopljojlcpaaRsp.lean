import Derived.Test.YtdchopljojlcpaaProg
import Derived.Test.YtdchopljojlcpaaShelf
import Derived.Test.YtdchopljojlcpaaTrh
namespace Go.Proofs.Ytdchopljojlcpaa
open Go.RowKit Go.Maps

theorem lst_len' (x : ByteArray) : x.data.toList.length = x.size := Array.length_toList
theorem nl_take (d : ByteArray) (i : Nat) (hi : i < d.size) : (d.data.toList.take (i + 1)).contains 10 = ((d.data.toList.take i).contains 10 || (d.get! i == 10)) := by
  have hl : i < d.data.toList.length := by rw [lst_len']; exact hi
  rw [List.take_add_one, List.getElem?_eq_getElem hl]
  simp only [Option.toList_some, List.contains_append]
  congr 1
  have : d.get! i = d.data.toList[i] := by rw [get_bang d i hi]; rfl
  rw [this]
  simp only [List.contains_cons, List.contains_nil, Bool.or_false]
  exact BEq.comm
theorem mem_getD' {α : Type} (l : List α) (d : α) (i : Nat) (h : i < l.length) : l.getD i d ∈ l := by
  rw [List.getD_eq_getElem?_getD, List.getElem?_eq_getElem h]; exact List.getElem_mem h
theorem nl_sub (d : ByteArray) (i : Nat) (h : (d.data.toList.take i).contains 10 = true) : hasNl d = true := by
  unfold hasNl
  rw [List.contains_iff_mem] at h ⊢
  exact List.mem_of_mem_take h
set_option maxRecDepth 100000 in
set_option maxHeartbeats 4000000 in
theorem rline_any (d : ByteArray) (hz : d.size ≤ 9223372036854775807) (w : World) : Calls Try.prog 30 #[.string d] w fun e w' => e = .returned (.bool (hasNl d)) ∧ w' = w := by
  have HZ : Hid (d.size ≤ 9223372036854775807) := hz
  clear hz
  go_enter Try.func30, Try.ntmps30
  go_wp2_with fail
  go_loopg [3] d.size (fun gm v3 wr => ∃ i : Nat, v3 = .int .i64 (i : Int) ∧ wr = w ∧ Hid (i ≤ d.size ∧ gm = d.size - i) ∧ Hid ((d.data.toList.take i).contains 10 = false))
  case atStart => exact ⟨0, rfl, rfl, ⟨Nat.zero_le _, rfl⟩, rfl⟩
  case round =>
    obtain ⟨i, rfl, hwe, HI, HN⟩ := hrel
    subst hwe
    by_cases hi : i < d.size
    · have e1 : decide ((i : Int) < (d.size : Int)) = true := by rw [decide_eq_true_eq]; omega
      have e2 : decide (i < d.size) = true := by rw [decide_eq_true_eq]; omega
      have HIL : Hid (i < d.size) := hi
      have hix := idx_fact d i hi
      have hwr := w64n i (by have := HZ.out; omega)
      have HT : Hid _ := nl_take d i hi
      obtain ⟨x, hx⟩ : ∃ x, d.get! i = x := ⟨_, rfl⟩
      rw [hx] at hix HT
      obtain ⟨bn, hbn⟩ : ∃ bn : Nat, x.toNat = bn := ⟨_, rfl⟩
      rw [hbn] at hix
      clear hi hx
      by_cases hb : bn = 10
      · have z0 : ((bn : Int) == 10) = true := by rw [beq_iff_eq]; omega
        have z1 : (bn == 10) = true := by rw [beq_iff_eq]; exact hb
        have HX : Hid (hasNl d = true) := nl_sub d (i + 1) (by rw [HT.out, show x = 10 from UInt8.toNat_inj.1 (by rw [hbn, hb]; rfl)]; simp)
        clear hb hbn
        go_wp2_with fail
        go_ret
        exact ⟨by rw [HX.out]; rfl, rfl⟩
      · have z0 : ((bn : Int) == 10) = false := by rw [beq_eq_false_iff_ne]; omega
        have z1 : (bn == 10) = false := by rw [beq_eq_false_iff_ne]; exact hb
        have HX : Hid ((d.data.toList.take (i + 1)).contains 10 = false) := by
          show _ = _
          rw [HT.out, HN.out]
          have : x ≠ 10 := fun e => hb (by rw [← hbn, e]; rfl)
          simpa using this
        clear hb hbn
        go_wp2_with fail
        go_roundg (d.size - (i + 1))
        case measure => have := HI.out; have := HIL.out; omega
        case rel => exact ⟨i + 1, by first | rfl | (rw [show (i : Int) + 1 = ((i + 1 : Nat) : Int) by omega]), rfl, ⟨HIL.out, rfl⟩, HX⟩
    · have e1 : decide ((i : Int) < (d.size : Int)) = false := by rw [decide_eq_false_iff_not]; omega
      have e2 : decide (i < d.size) = false := by rw [decide_eq_false_iff_not]; omega
      have HX : Hid (hasNl d = false) := by
        have := HN.out
        rw [List.take_of_length_le (by rw [lst_len']; omega)] at this
        exact this
      clear hi
      go_wp2_with fail
      go_ret
      exact ⟨by rw [HX.out]; rfl, rfl⟩
theorem wai_f0 {x : ByteArray} (h : ¬ (0 < x.size)) : wai x = false := by unfold wai; rw [decide_eq_false h]; rfl
theorem wai_f1 {x : ByteArray} (h : ¬ (x.size ≤ 16)) : wai x = false := by unfold wai; rw [decide_eq_false h, Bool.and_false, Bool.false_and]
theorem wai_f2 {x : ByteArray} (h : hasNl x = true) : wai x = false := by unfold wai; rw [h, Bool.not_true, Bool.and_false]
theorem okf_f0 {x1 : Int} {x2 : ByteArray} (h : ¬ (0 ≤ x1)) : okF1 (x1, x2) = false := by unfold okF1 isM; rw [decide_eq_false h]; rfl
theorem okf_f1 {x1 : Int} {x2 : ByteArray} (h : ¬ (x1 < 16)) : okF1 (x1, x2) = false := by unfold okF1 isM; rw [decide_eq_false h, Bool.and_false, Bool.false_and]
theorem okf_f2 {x1 : Int} {x2 : ByteArray} (h : ¬ (x2.size ≤ 16)) : okF1 (x1, x2) = false := by unfold okF1 isM; rw [decide_eq_false h, Bool.and_false]
theorem shp_iff (s : Stt) : s.shp = true ↔ (s.ind.length ≤ 32 ∧ ris 0 s.ind = true) ∧ (-1 ≤ s.pen ∧ s.pen ≤ 65536) ∧ (s.que.length ≤ 8 ∧ s.que.all wai = true) ∧ (s.frm.length ≤ 16 ∧ s.frm.all okF1 = true) := by
  simp only [Stt.shp, Stt.oi, Stt.oq, Stt.of, Bool.and_eq_true, decide_eq_true_eq]
  constructor
  · rintro ⟨⟨⟨⟨h1, h2⟩, h3⟩, h4⟩, h5⟩
    exact ⟨h1, ⟨h2, h3⟩, h4, h5⟩
  · rintro ⟨h1, ⟨h2, h3⟩, h4, h5⟩
    exact ⟨⟨⟨⟨h1, h2⟩, h3⟩, h4⟩, h5⟩
theorem shp_no {s : Stt} (h : ¬ ((s.ind.length ≤ 32 ∧ ris 0 s.ind = true) ∧ (-1 ≤ s.pen ∧ s.pen ≤ 65536) ∧ (s.que.length ≤ 8 ∧ s.que.all wai = true) ∧ (s.frm.length ≤ 16 ∧ s.frm.all okF1 = true))) : s.shp = false := by
  cases hs : s.shp
  · rfl
  · exact absurd ((shp_iff s).1 hs) h
set_option maxRecDepth 100000 in
set_option maxHeartbeats 16000000 in
theorem rshaped_any {vi vq vf : Value} {s : Stt} (w : World) (h : Stm w vi vq vf s) (hq : ∀ d ∈ s.que, d.size ≤ 9223372036854775807) :
    Calls Try.prog 17 #[sv vi vq vf s] w fun e w' => e = .returned (.bool s.shp) ∧ Below w.heap.size w w' := by
  obtain ⟨a1, c1, a2, c2, a3, c3, rfl, rfl, rfl⟩ := h.form
  obtain ⟨W1, hW1⟩ : ∃ W1, W1 = w.alloc (.cells #[.slice a1 s.ind.length c1, .int .i64 s.pen, .slice a2 s.que.length c2, .slice a3 s.frm.length c3, .int .u16 (s.flg : Int)] 33) := ⟨_, rfl⟩
  have hhp : W1.heap[w.heap.size]? = some (.cells #[.slice a1 s.ind.length c1, .int .i64 s.pen, .slice a2 s.que.length c2, .slice a3 s.frm.length c3, .int .u16 (s.flg : Int)] 33 (0, 0)) := by rw [hW1]; exact heap_new w _
  have HB1 : Hid (Below w.heap.size w W1) := by rw [hW1]; exact bel_up _ _
  have p0 : W1.cell? ⟨w.heap.size, 0, none⟩ = some (.slice a1 s.ind.length c1) := by rw [Lib.cell_of_heap hhp]; rfl
  have p1 : W1.cell? ⟨w.heap.size, 1, none⟩ = some (.int .i64 s.pen) := by rw [Lib.cell_of_heap hhp]; rfl
  have p2 : W1.cell? ⟨w.heap.size, 2, none⟩ = some (.slice a2 s.que.length c2) := by rw [Lib.cell_of_heap hhp]; rfl
  have p3 : W1.cell? ⟨w.heap.size, 3, none⟩ = some (.slice a3 s.frm.length c3) := by rw [Lib.cell_of_heap hhp]; rfl
  have HP : Hid (∀ W, Below W1.heap.size W1 W → W.cell? ⟨w.heap.size, 0, none⟩ = some (.slice a1 s.ind.length c1) ∧ W.cell? ⟨w.heap.size, 2, none⟩ = some (.slice a2 s.que.length c2) ∧ W.cell? ⟨w.heap.size, 3, none⟩ = some (.slice a3 s.frm.length c3)) := fun W hW => ⟨below_cell hW p0, below_cell hW p2, below_cell hW p3⟩
  have HW : Hid (W1 = w.alloc (.cells #[.slice a1 s.ind.length c1, .int .i64 s.pen, .slice a2 s.que.length c2, .slice a3 s.frm.length c3, .int .u16 (s.flg : Int)] 33)) := hW1
  have HS : Hid (Stm W1 (.slice a1 s.ind.length c1) (.slice a2 s.que.length c2) (.slice a3 s.frm.length c3) s) := h.up HB1.out
  have HQS : Hid (∀ d ∈ s.que, d.size ≤ 9223372036854775807) := hq
  clear h hq hW1 hhp
  by_cases n0 : 32 < s.ind.length
  · have z0 : decide ((32 : Int) < (s.ind.length : Int)) = true := by rw [decide_eq_true_eq]; omega
    have z1 : decide (32 < s.ind.length) = true := by rw [decide_eq_true_eq]; omega
    have HF : Hid (s.shp = false) := shp_no (fun h => by have := h.1.1; omega)
    clear n0
    go_enter Try.func17, Try.ntmps17
    go_upto_region 1 with fail
    rw [← HW.out]
    go_wp2_with fail
    go_ret
    exact ⟨by rw [HF.out]; rfl, HB1.out⟩
  have y0 : decide ((32 : Int) < (s.ind.length : Int)) = false := by rw [decide_eq_false_iff_not]; omega
  have x0 : decide (32 < s.ind.length) = false := by rw [decide_eq_false_iff_not]; omega
  have N0 : Hid (¬ (32 < s.ind.length)) := n0
  clear n0
  by_cases n1 : s.pen < -1
  · have z0 : decide (s.pen < -1) = true := by rw [decide_eq_true_eq]; omega
    have HF : Hid (s.shp = false) := shp_no (fun h => by have := h.2.1.1; omega)
    clear n1
    go_enter Try.func17, Try.ntmps17
    go_upto_region 1 with fail
    rw [← HW.out]
    go_wp2_with fail
    go_ret
    exact ⟨by rw [HF.out]; rfl, HB1.out⟩
  have y1 : decide (s.pen < -1) = false := by rw [decide_eq_false_iff_not]; omega
  have N1 : Hid (¬ (s.pen < -1)) := n1
  clear n1
  by_cases n2 : 65536 < s.pen
  · have z0 : decide (65536 < s.pen) = true := by rw [decide_eq_true_eq]; omega
    have HF : Hid (s.shp = false) := shp_no (fun h => by have := h.2.1.2; omega)
    clear n2
    go_enter Try.func17, Try.ntmps17
    go_upto_region 1 with fail
    rw [← HW.out]
    go_wp2_with fail
    go_ret
    exact ⟨by rw [HF.out]; rfl, HB1.out⟩
  have y2 : decide (65536 < s.pen) = false := by rw [decide_eq_false_iff_not]; omega
  have N2 : Hid (¬ (65536 < s.pen)) := n2
  clear n2
  by_cases n3 : 8 < s.que.length
  · have z0 : decide ((8 : Int) < (s.que.length : Int)) = true := by rw [decide_eq_true_eq]; omega
    have z1 : decide (8 < s.que.length) = true := by rw [decide_eq_true_eq]; omega
    have HF : Hid (s.shp = false) := shp_no (fun h => by have := h.2.2.1.1; omega)
    clear n3
    go_enter Try.func17, Try.ntmps17
    go_upto_region 1 with fail
    rw [← HW.out]
    go_wp2_with fail
    go_ret
    exact ⟨by rw [HF.out]; rfl, HB1.out⟩
  have y3 : decide ((8 : Int) < (s.que.length : Int)) = false := by rw [decide_eq_false_iff_not]; omega
  have x3 : decide (8 < s.que.length) = false := by rw [decide_eq_false_iff_not]; omega
  have N3 : Hid (¬ (8 < s.que.length)) := n3
  clear n3
  by_cases n4 : 16 < s.frm.length
  · have z0 : decide ((16 : Int) < (s.frm.length : Int)) = true := by rw [decide_eq_true_eq]; omega
    have z1 : decide (16 < s.frm.length) = true := by rw [decide_eq_true_eq]; omega
    have HF : Hid (s.shp = false) := shp_no (fun h => by have := h.2.2.2.1; omega)
    clear n4
    go_enter Try.func17, Try.ntmps17
    go_upto_region 1 with fail
    rw [← HW.out]
    go_wp2_with fail
    go_ret
    exact ⟨by rw [HF.out]; rfl, HB1.out⟩
  have y4 : decide ((16 : Int) < (s.frm.length : Int)) = false := by rw [decide_eq_false_iff_not]; omega
  have x4 : decide (16 < s.frm.length) = false := by rw [decide_eq_false_iff_not]; omega
  have N4 : Hid (¬ (16 < s.frm.length)) := n4
  clear n4
  go_enter Try.func17, Try.ntmps17
  go_upto_region 1 with fail
  rw [← HW.out]
  go_upto_region 3 with fail
  clear y0 y1 y2 y3 y4 x0 x3 x4 p0 p1 p2 p3
  go_wp2_with fail
  go_loopg [3] s.ind.length (fun gm v wr => ∃ i : Nat, v = .int .i64 (i : Int) ∧ Hid (Below W1.heap.size W1 wr) ∧ Hid (i ≤ s.ind.length ∧ gm = s.ind.length - i) ∧ Hid (ris 0 (s.ind.take i) = true))
  case atStart => exact ⟨0, rfl, Below.refl _ _, ⟨Nat.zero_le _, rfl⟩, rfl⟩
  case round =>
    obtain ⟨i, rfl, HB, HI, HR⟩ := hrel
    obtain ⟨p0, p2, p3⟩ := HP.out _ HB.out
    by_cases hi : i < s.ind.length
    · obtain ⟨b1, g1, o1, d1, f1, -, -, f2, f3⟩ := HS.out.i
      obtain ⟨rfl, -, rfl⟩ := Value.slice.inj f1
      obtain rfl := f2 (by omega)
      have ci := below_cell HB.out (f3 i _ (iC_get s.ind i hi))
      have e1 : decide ((i : Int) < (s.ind.length : Int)) = true := by rw [decide_eq_true_eq]; omega
      have e2 : decide (i < s.ind.length) = true := by rw [decide_eq_true_eq]; omega
      have e5 : (i : Int) < (s.ind.length : Int) := by omega
      have HIL : Hid (i < s.ind.length) := hi
      have hwr := w64n i (by have := N0.out; omega)
      have HSN : Hid _ := ris_snoc s.ind i hi
      have HLS : Hid (∀ j, i = j + 1 → (s.ind.take i).getLastD 0 = s.ind.getD j 0 ∧ 1 ≤ s.ind.getD j 0) := fun j hj => by
        have h1 := last_snoc s.ind j (by omega)
        rw [← hj] at h1
        have h2 : s.ind.getD j 0 ∈ s.ind.take i := by
          rw [← h1]
          refine last_mem _ 0 ?_
          intro hn
          have := congrArg List.length hn
          rw [List.length_take, List.length_nil] at this
          omega
        have h3 := ris_mem 0 _ HR.out _ h2
        exact ⟨h1, by omega⟩
      have HNO : Hid (ris 0 (s.ind.take (i + 1)) = false → s.shp = false) := fun hr => shp_no (fun h => by rw [ris_take 0 s.ind (i + 1) h.1.2] at hr; cases hr)
      obtain ⟨x, hx⟩ : ∃ x, s.ind.getD i 0 = x := ⟨_, rfl⟩
      rw [hx] at ci HSN
      by_cases hx1 : x < 1
      · have k1 : decide (x < 1) = true := by rw [decide_eq_true_eq]; exact hx1
        have HF : Hid (s.shp = false) := HNO.out (by
          rw [HSN.out]
          have : ¬ ((s.ind.take i).getLastD 0 < x) := by
            rcases Nat.eq_zero_or_pos i with h0 | h0
            · subst h0; show ¬ ((0 : Int) < x); omega
            · have := HLS.out (i - 1) (by omega); omega
          rw [decide_eq_false this, Bool.and_false, Bool.false_and])
        clear f1 f2 f3 hx hi hx1
        go_wp2_with fail
        go_quiet (fail)
        go_wp2_with fail
        go_ret
        exact ⟨by rw [HF.out]; rfl, below_trans HB1.out (below_drewN HB.out _)⟩
      have k1 : decide (x < 1) = false := by rw [decide_eq_false_iff_not]; exact hx1
      have HX1 : Hid (1 ≤ x) := by show 1 ≤ x; omega
      clear hx1
      by_cases hx2 : 65536 < x
      · have k2 : decide (65536 < x) = true := by rw [decide_eq_true_eq]; exact hx2
        have HF : Hid (s.shp = false) := HNO.out (by
          rw [HSN.out]
          have : ¬ (x ≤ 65536) := by omega
          rw [decide_eq_false this, Bool.and_false])
        clear f1 f2 f3 hx hi hx2
        go_wp2_with fail
        go_quiet (fail)
        go_wp2_with fail
        go_ret
        exact ⟨by rw [HF.out]; rfl, below_trans HB1.out (below_drewN HB.out _)⟩
      have k2 : decide (65536 < x) = false := by rw [decide_eq_false_iff_not]; exact hx2
      have HX2 : Hid (x ≤ 65536) := by show x ≤ 65536; omega
      clear hx2
      rcases Nat.eq_zero_or_pos i with h0 | h0
      · have HOK : Hid (ris 0 (s.ind.take (i + 1)) = true) := by
          show _ = _
          rw [HSN.out, HR.out]
          have h1 := HX1.out
          have h2 := HX2.out
          have h3 : (s.ind.take i).getLastD 0 < x := by rw [h0]; show (0 : Int) < x; omega
          rw [decide_eq_true h2, decide_eq_true h3]; rfl
        have g1 : decide ((0 : Int) < (i : Int)) = false := by rw [decide_eq_false_iff_not]; omega
        have g2 : decide (0 < i) = false := by rw [decide_eq_false_iff_not]; omega
        clear f1 f2 f3 hx hi h0
        go_wp2_with fail
        go_quiet (fail)
        go_wp2_with fail
        go_roundg (s.ind.length - (i + 1))
        case measure => have := HI.out; have := HIL.out; omega
        case rel => exact ⟨i + 1, by first | rfl | (rw [show (i : Int) + 1 = ((i + 1 : Nat) : Int) by omega]), below_drewN HB.out _, ⟨HIL.out, rfl⟩, HOK⟩
      · obtain ⟨j, hj⟩ : ∃ j, i = j + 1 := ⟨i - 1, by omega⟩
        have cj := below_cell HB.out (f3 j _ (iC_get s.ind j (by omega)))
        obtain ⟨hl1, hl2⟩ := HLS.out j hj
        rw [hl1] at HSN
        obtain ⟨y, hy⟩ : ∃ y, s.ind.getD j 0 = y := ⟨_, rfl⟩
        rw [hy] at cj HSN
        have hjl : (j : Int) < (s.ind.length : Int) := by omega
        have hwm : IntKind.i64.wrap ((i : Int) - 1) = (j : Int) := by rw [IntKind.wrap_i64]; have := N0.out; omega
        have g1 : decide ((0 : Int) < (i : Int)) = true := by rw [decide_eq_true_eq]; omega
        have g2 : decide (0 < i) = true := by rw [decide_eq_true_eq]; omega
        by_cases hxy : x ≤ y
        · have k3 : decide (x ≤ y) = true := by rw [decide_eq_true_eq]; exact hxy
          have HF : Hid (s.shp = false) := HNO.out (by
            rw [HSN.out]
            have : ¬ (y < x) := by omega
            rw [decide_eq_false this, Bool.and_false, Bool.false_and])
          clear f1 f2 f3 hx hi hxy hy hl1 hl2 h0 hj
          go_wp2_with fail
          go_quiet (fail)
          go_wp2_with fail
          go_ret
          exact ⟨by rw [HF.out]; rfl, below_trans HB1.out (below_drewN HB.out _)⟩
        · have k3 : decide (x ≤ y) = false := by rw [decide_eq_false_iff_not]; exact hxy
          have HOK : Hid (ris 0 (s.ind.take (i + 1)) = true) := by
            show _ = _
            rw [HSN.out, HR.out]
            have h1 : y < x := by omega
            have h2 := HX2.out
            rw [decide_eq_true h1, decide_eq_true h2]; rfl
          clear f1 f2 f3 hx hi hxy hy hl1 hl2 h0 hj
          go_wp2_with fail
          go_quiet (fail)
          go_wp2_with fail
          go_roundg (s.ind.length - (i + 1))
          case measure => have := HI.out; have := HIL.out; omega
          case rel => exact ⟨i + 1, by first | rfl | (rw [show (i : Int) + 1 = ((i + 1 : Nat) : Int) by omega]), below_drewN HB.out _, ⟨HIL.out, rfl⟩, HOK⟩
    · have e1 : decide ((i : Int) < (s.ind.length : Int)) = false := by rw [decide_eq_false_iff_not]; omega
      have e2 : decide (i < s.ind.length) = false := by rw [decide_eq_false_iff_not]; omega
      have HRI : Hid (ris 0 s.ind = true) := by
        have h1 := HR.out
        rw [List.take_of_length_le (by omega)] at h1
        exact h1
      clear hi HI HR
      go_wp2_with fail
      clear p0 p2 p3 e1 e2
      go_loopg [4] s.que.length (fun gm v wr => ∃ i : Nat, v = .int .i64 (i : Int) ∧ Hid (Below W1.heap.size W1 wr) ∧ Hid (i ≤ s.que.length ∧ gm = s.que.length - i) ∧ Hid ((s.que.take i).all wai = true))
      case atStart => exact ⟨0, rfl, HB.out, ⟨Nat.zero_le _, rfl⟩, rfl⟩
      case round =>
        clear HB
        obtain ⟨i, rfl, HB, HI, HR⟩ := hrel
        obtain ⟨p0, p2, p3⟩ := HP.out _ HB.out
        by_cases hi : i < s.que.length
        · obtain ⟨b1, g1, o1, d1, f1, -, -, f2, f3⟩ := HS.out.q
          obtain ⟨rfl, -, rfl⟩ := Value.slice.inj f1
          obtain rfl := f2 (by omega)
          have ci := below_cell HB.out (f3 i _ (qC_get s.que i hi))
          have e1 : decide ((i : Int) < (s.que.length : Int)) = true := by rw [decide_eq_true_eq]; omega
          have e2 : decide (i < s.que.length) = true := by rw [decide_eq_true_eq]; omega
          have e5 : (i : Int) < (s.que.length : Int) := by omega
          have HIL : Hid (i < s.que.length) := hi
          have hwr := w64n i (by have := N3.out; omega)
          have HSN : Hid _ := all_snoc wai s.que ⟨#[]⟩ i hi
          have HNO : Hid ((s.que.take (i + 1)).all wai = false → s.shp = false) := fun hr => shp_no (fun h => by rw [all_take wai s.que (i + 1) h.2.2.1.2] at hr; cases hr)
          have HMM : Hid _ := HQS.out _ (mem_getD' s.que ⟨#[]⟩ i hi)
          obtain ⟨x, hx⟩ : ∃ x, s.que.getD i ⟨#[]⟩ = x := ⟨_, rfl⟩
          rw [hx] at ci HSN HMM
          clear f1 f2 f3 hx hi
          by_cases hx1 : x.size < 1
          · have k1 : decide ((x.size : Int) < 1) = true := by rw [decide_eq_true_eq]; omega
            have k2 : decide (x.size < 1) = true := by rw [decide_eq_true_eq]; omega
            have k0 : decide (x.size = 0) = true := by rw [decide_eq_true_eq]; omega
            have HF : Hid (s.shp = false) := HNO.out (by rw [HSN.out]; rw [wai_f0 (by omega)]; simp)
            clear hx1
            go_wp2_with fail
            refine (rline_any x HMM.out _).mono ?_
            rintro e w9 ⟨rfl, rfl⟩
            go_wp2_with fail
            go_ret
            exact ⟨by rw [HF.out]; rfl, below_trans HB1.out HB.out⟩
          have k1 : decide ((x.size : Int) < 1) = false := by rw [decide_eq_false_iff_not]; omega
          have k2 : decide (x.size < 1) = false := by rw [decide_eq_false_iff_not]; omega
          have k0 : decide (x.size = 0) = false := by rw [decide_eq_false_iff_not]; omega
          have HX1 : Hid (0 < x.size) := by show 0 < x.size; omega
          clear hx1
          by_cases hx2 : 16 < x.size
          · have k3 : decide ((16 : Int) < (x.size : Int)) = true := by rw [decide_eq_true_eq]; omega
            have k4 : decide (16 < x.size) = true := by rw [decide_eq_true_eq]; omega
            have HF : Hid (s.shp = false) := HNO.out (by rw [HSN.out]; rw [wai_f1 (by omega)]; simp)
            clear hx2
            go_wp2_with fail
            refine (rline_any x HMM.out _).mono ?_
            rintro e w9 ⟨rfl, rfl⟩
            go_wp2_with fail
            go_ret
            exact ⟨by rw [HF.out]; rfl, below_trans HB1.out HB.out⟩
          have k3 : decide ((16 : Int) < (x.size : Int)) = false := by rw [decide_eq_false_iff_not]; omega
          have k4 : decide (16 < x.size) = false := by rw [decide_eq_false_iff_not]; omega
          have HX2 : Hid (x.size ≤ 16) := by show x.size ≤ 16; omega
          clear hx2
          cases hn : hasNl x with
          | true =>
            have HF : Hid (s.shp = false) := HNO.out (by rw [HSN.out]; rw [wai_f2 hn]; simp)
            have HNL : Hid (hasNl x = true) := hn
            clear hn
            go_wp2_with fail
            refine (rline_any x HMM.out _).mono ?_
            rintro e w9 ⟨rfl, rfl⟩
            rw [HNL.out]
            go_wp2_with fail
            go_ret
            exact ⟨by rw [HF.out]; rfl, below_trans HB1.out HB.out⟩
          | false =>
            have HOK : Hid ((s.que.take (i + 1)).all wai = true) := by
              show _ = _
              rw [HSN.out, HR.out]
              have h1 := HX1.out
              have h2 := HX2.out
              simp [wai, hn, h1, h2]
            have HNL : Hid (hasNl x = false) := hn
            clear hn
            go_wp2_with fail
            refine (rline_any x HMM.out _).mono ?_
            rintro e w9 ⟨rfl, rfl⟩
            rw [HNL.out]
            go_wp2_with fail
            go_roundg (s.que.length - (i + 1))
            case measure => have := HI.out; have := HIL.out; omega
            case rel => exact ⟨i + 1, by first | rfl | (rw [show (i : Int) + 1 = ((i + 1 : Nat) : Int) by omega]), HB, ⟨HIL.out, rfl⟩, HOK⟩
        · have e1 : decide ((i : Int) < (s.que.length : Int)) = false := by rw [decide_eq_false_iff_not]; omega
          have e2 : decide (i < s.que.length) = false := by rw [decide_eq_false_iff_not]; omega
          have HRQ : Hid (s.que.all wai = true) := by
            have h1 := HR.out
            rw [List.take_of_length_le (by omega)] at h1
            exact h1
          clear hi HI HR
          go_wp2_with fail
          clear p0 p2 p3 e1 e2
          go_loopg [6] s.frm.length (fun gm v wr => ∃ i : Nat, v = .int .i64 (i : Int) ∧ Hid (Below W1.heap.size W1 wr) ∧ Hid (i ≤ s.frm.length ∧ gm = s.frm.length - i) ∧ Hid ((s.frm.take i).all okF1 = true))
          case atStart => exact ⟨0, rfl, HB.out, ⟨Nat.zero_le _, rfl⟩, rfl⟩
          case round =>
            clear HB
            obtain ⟨i, rfl, HB, HI, HR⟩ := hrel
            obtain ⟨p0, p2, p3⟩ := HP.out _ HB.out
            by_cases hi : i < s.frm.length
            · obtain ⟨b1, g1, o1, d1, f1, -, -, f2, f3⟩ := HS.out.f
              obtain ⟨rfl, -, rfl⟩ := Value.slice.inj f1
              obtain rfl := f2 (by omega)
              have ci := below_cell HB.out (f3 (i * 2) _ (fC_get s.frm i hi).1)
              have cj := below_cell HB.out (f3 (i * 2 + 1) _ (fC_get s.frm i hi).2)
              rw [← Nat.add_assoc] at cj
              have e1 : decide ((i : Int) < (s.frm.length : Int)) = true := by rw [decide_eq_true_eq]; omega
              have e2 : decide (i < s.frm.length) = true := by rw [decide_eq_true_eq]; omega
              have e5 : (i : Int) < (s.frm.length : Int) := by omega
              have HIL : Hid (i < s.frm.length) := hi
              have hwr := w64n i (by have := N4.out; omega)
              have HSN : Hid _ := all_snoc okF1 s.frm (0, ⟨#[]⟩) i hi
              have HNO : Hid ((s.frm.take (i + 1)).all okF1 = false → s.shp = false) := fun hr => shp_no (fun h => by rw [all_take okF1 s.frm (i + 1) h.2.2.2.2] at hr; cases hr)
              obtain ⟨x, hx⟩ : ∃ x, s.frm.getD i (0, ⟨#[]⟩) = x := ⟨_, rfl⟩
              rw [hx] at ci cj HSN
              obtain ⟨x1, x2⟩ := x
              clear f1 f2 f3 hx hi
              by_cases hx1 : x1 < 0
              · have k1 : decide (x1 < 0) = true := by rw [decide_eq_true_eq]; exact hx1
                have HF : Hid (s.shp = false) := HNO.out (by rw [HSN.out]; rw [okf_f0 (by omega)]; simp)
                clear hx1
                go_wp2_with fail
                go_ret
                exact ⟨by rw [HF.out]; rfl, below_trans HB1.out HB.out⟩
              have k1 : decide (x1 < 0) = false := by rw [decide_eq_false_iff_not]; exact hx1
              have HX1 : Hid (0 ≤ x1) := by show 0 ≤ x1; omega
              clear hx1
              by_cases hx2 : 16 ≤ x1
              · have k2 : decide (16 ≤ x1) = true := by rw [decide_eq_true_eq]; exact hx2
                have HF : Hid (s.shp = false) := HNO.out (by rw [HSN.out]; rw [okf_f1 (by omega)]; simp)
                clear hx2
                go_wp2_with fail
                go_ret
                exact ⟨by rw [HF.out]; rfl, below_trans HB1.out HB.out⟩
              have k2 : decide (16 ≤ x1) = false := by rw [decide_eq_false_iff_not]; exact hx2
              have HX2 : Hid (x1 < 16) := by show x1 < 16; omega
              clear hx2
              by_cases hx3 : 16 < x2.size
              · have k3 : decide ((16 : Int) < (x2.size : Int)) = true := by rw [decide_eq_true_eq]; omega
                have k4 : decide (16 < x2.size) = true := by rw [decide_eq_true_eq]; omega
                have HF : Hid (s.shp = false) := HNO.out (by rw [HSN.out]; rw [okf_f2 (by omega)]; simp)
                clear hx3
                go_wp2_with fail
                go_ret
                exact ⟨by rw [HF.out]; rfl, below_trans HB1.out HB.out⟩
              have k3 : decide ((16 : Int) < (x2.size : Int)) = false := by rw [decide_eq_false_iff_not]; omega
              have k4 : decide (16 < x2.size) = false := by rw [decide_eq_false_iff_not]; omega
              have HOK : Hid ((s.frm.take (i + 1)).all okF1 = true) := by
                show _ = _
                rw [HSN.out, HR.out]
                have h1 := HX1.out
                have h2 := HX2.out
                have h3 : x2.size ≤ 16 := by omega
                simp [okF1, isM, h1, h2, h3]
              clear hx3
              go_wp2_with fail
              go_roundg (s.frm.length - (i + 1))
              case measure => have := HI.out; have := HIL.out; omega
              case rel => exact ⟨i + 1, by first | rfl | (rw [show (i : Int) + 1 = ((i + 1 : Nat) : Int) by omega]), HB, ⟨HIL.out, rfl⟩, HOK⟩
            · have e1 : decide ((i : Int) < (s.frm.length : Int)) = false := by rw [decide_eq_false_iff_not]; omega
              have e2 : decide (i < s.frm.length) = false := by rw [decide_eq_false_iff_not]; omega
              have HRF : Hid (s.frm.all okF1 = true) := by
                have h1 := HR.out
                rw [List.take_of_length_le (by omega)] at h1
                exact h1
              have HOK : Hid (s.shp = true) := (shp_iff s).2 ⟨⟨by have := N0.out; omega, HRI.out⟩, ⟨by have := N1.out; omega, by have := N2.out; omega⟩, ⟨by have := N3.out; omega, HRQ.out⟩, ⟨by have := N4.out; omega, HRF.out⟩⟩
              clear hi HI HR
              go_wp2_with fail
              go_ret
              exact ⟨by rw [HOK.out]; rfl, below_trans HB1.out HB.out⟩
end Go.Proofs.Ytdchopljojlcpaa
