import Derived.Test.YtkaciochlemjiaaPad
import Derived.Test.YtkaciochlemjiaaLay
namespace Go.Proofs.Ytkaciochlemjiaa
open Go.RowKit Go.Maps

theorem As.own {w w' : World} {t : Stt} {e : Ending} (h : As w (.ok t) e w') : ∃ vi vq vf, e = .returned (.tuple #[sv vi vq vf t, .int .i64 0]) ∧ Own w.heap.size w' vi vq vf t ∧ Below w.heap.size w w' := by
  obtain ⟨hb, ⟨t', vi, vq, vf, h1, h2, h3⟩ | ⟨c, h1, _⟩⟩ := h
  · cases h1; exact ⟨vi, vq, vf, h2, h3, hb⟩
  · cases h1
theorem As.err {w w' : World} {c : Int} {e : Ending} (h : As w (.error c) e w') : e = .returned (.tuple #[zV, .int .i64 c]) ∧ Below w.heap.size w w' := by
  obtain ⟨hb, ⟨t', vi, vq, vf, h1, _⟩ | ⟨c', h1, h2⟩⟩ := h
  · cases h1
  · cases h1; exact ⟨h2, hb⟩
/-- What is left behind all dedents. -/
theorem lst_end (s : Stt) (X c : Nat) (hr : ris 0 s.ind = true) (hc : c ≤ s.ind.length) (h3 : ∀ i, i < c → s.ind.getD i 0 ≤ (X : Int)) :
    (lst s X (s.ind.length - c)).ind = s.ind.take c ∧ (decide ((X : Int) = 0) || (decide (0 < c) && decide (s.ind.getD (c - 1) 0 = (X : Int)))) = decide ((lst s X (s.ind.length - c)).pen = -1) ∧ ((lst s X (s.ind.length - c)).pen = -1 ∨ (lst s X (s.ind.length - c)).pen = (X : Int)) ∧
    hld (lst s X (s.ind.length - c)) 2 0 false = false ∧ hld (lst s X (s.ind.length - c)) 1 0 false = decide (0 ≤ (lst s X (s.ind.length - c)).pen) := by
  have e : s.ind.length - (s.ind.length - c) = c := by omega
  have hi : (lst s X (s.ind.length - c)).ind = s.ind.take c := by show s.ind.take _ = _; rw [e]
  have hp : (lst s X (s.ind.length - c)).pen = if topI (s.ind.take c) = (X : Int) then -1 else (X : Int) := by
    show (if topI (s.ind.take (s.ind.length - (s.ind.length - c))) = (X : Int) then (-1 : Int) else (X : Int)) = _
    rw [e]
  have htop : (lst s X (s.ind.length - c)).top = topI (s.ind.take c) := by show topI _ = _; rw [hi]
  have hle : topI (s.ind.take c) ≤ (X : Int) ∧ (0 < c → 0 < topI (s.ind.take c) ∧ topI (s.ind.take c) = s.ind.getD (c - 1) 0) ∧ (c = 0 → topI (s.ind.take c) = 0) := by
    rcases Nat.eq_zero_or_pos c with h0 | h0
    · subst h0
      refine ⟨?_, fun h => by omega, fun _ => rfl⟩
      show (0 : Int) ≤ _
      omega
    · rw [top_take _ _ h0 hc]
      have hm : s.ind.getD (c - 1) 0 ∈ s.ind := by rw [List.getD_eq_getElem?_getD, List.getElem?_eq_getElem (by omega)]; exact List.getElem_mem _
      have := ris_mem 0 _ hr _ hm
      exact ⟨h3 _ (by omega), fun _ => ⟨this.1, rfl⟩, fun h => by omega⟩
  refine ⟨hi, ?_, ?_, ?_, ?_⟩
  · rw [hp]
    by_cases ht : topI (s.ind.take c) = (X : Int)
    · rw [if_pos ht]
      rcases Nat.eq_zero_or_pos c with h0 | h0
      · have h1 := hle.2.2 h0
        have : (X : Int) = 0 := by omega
        simp [this]
      · obtain ⟨h1, h2⟩ := hle.2.1 h0
        have e1 : decide (0 < c) = true := by simpa using h0
        have e2 : decide (s.ind.getD (c - 1) 0 = (X : Int)) = true := by rw [decide_eq_true_eq]; omega
        rw [e1, e2]; simp
    · rw [if_neg ht]
      have e0 : decide ((X : Int) = -1) = false := by rw [decide_eq_false_iff_not]; omega
      rw [e0]
      have e1 : decide ((X : Int) = 0) = false := by
        rw [decide_eq_false_iff_not]
        intro h
        rcases Nat.eq_zero_or_pos c with h0 | h0
        · have := hle.2.2 h0; omega
        · have := (hle.2.1 h0).1; have := hle.1; omega
      rw [e1]
      rcases Nat.eq_zero_or_pos c with h0 | h0
      · subst h0; simp
      · obtain ⟨h1, h2⟩ := hle.2.1 h0
        have e2 : decide (s.ind.getD (c - 1) 0 = (X : Int)) = false := by rw [decide_eq_false_iff_not]; omega
        rw [e2]; simp
  · rw [hp]; split
    · exact .inl rfl
    · exact .inr rfl
  · show (decide (0 ≤ (lst s X (s.ind.length - c)).pen) && decide ((lst s X (s.ind.length - c)).pen < (lst s X (s.ind.length - c)).top)) = false
    rw [hp, htop]
    split
    · rfl
    · have : decide ((X : Int) < topI (s.ind.take c)) = false := by rw [decide_eq_false_iff_not]; omega
      rw [this]; simp
  · show (decide (0 ≤ (lst s X (s.ind.length - c)).pen) && decide ((lst s X (s.ind.length - c)).top < (lst s X (s.ind.length - c)).pen)) = _
    rw [hp, htop]
    split
    · rfl
    · have : decide (topI (s.ind.take c) < (X : Int)) = true := by rw [decide_eq_true_eq]; omega
      rw [this]; simp
theorem five_blk {W : World} {b : Nat} {t : TypeId} {a0 a1 a2 a3 a4 v0 v1 v2 v3 v4 : Value} (h : W.heap[b]? = some (.cells #[a0, a1, a2, a3, a4] t (0, 0))) : (five W b v0 v1 v2 v3 v4).heap[b]? = some (.cells #[v0, v1, v2, v3, v4] t (0, 0)) := by
  rw [blk_set _ (blk_set _ (blk_set _ (blk_set _ (blk_set _ h))))]
  rfl
theorem lst_eq (s : Stt) (X c : Nat) (p : Int) (hi : (lst s X (s.ind.length - c)).ind = s.ind.take c) (hp : (lst s X (s.ind.length - c)).pen = p) : lst s X (s.ind.length - c) = ⟨s.ind.take c, p, s.que, s.frm, s.flg⟩ := by
  show (⟨(lst s X (s.ind.length - c)).ind, (lst s X (s.ind.length - c)).pen, s.que, s.frm, s.flg⟩ : Stt) = _
  rw [hi, hp]
theorem Nx.off {B : Nat} {W : World} {b b' k : Nat} {vi vq vf v : Value} {s : Stt} {cs : Array Value} (h : Nx B W b vi vq vf s) (hb : W.heap[b']? = some (.cells cs 27 (0, 0))) (hne : b' ≠ b) : Nx B (W.setCell ⟨b', k, none⟩ v) b vi vq vf s :=
  ⟨by rw [Below.heap_setCell _ _ _ _ (fun e => hne e.symm)]; exact h.blk, h.own.off hb, h.lo, by simp; exact h.lB⟩
theorem filter_snoc (w : Int) (l : List Int) (i : Nat) (h : i < l.length) : (l.take (i + 1)).filter (fun x => decide (x ≤ w)) = (l.take i).filter (fun x => decide (x ≤ w)) ++ if l.getD i 0 ≤ w then [l.getD i 0] else [] := by
  rw [take_snoc l 0 i h, List.filter_append]
  congr 1
  by_cases hx : l.getD i 0 ≤ w
  · rw [if_pos hx, List.filter_cons_of_pos (by simpa using hx)]; rfl
  · rw [if_neg hx, List.filter_cons_of_neg (by simpa using hx)]; rfl

set_option maxRecDepth 100000 in
set_option maxHeartbeats 16000000 in
theorem stateLayout_any {vi vq vf : Value} {s : Stt} (m : ByteArray) (w : World) (h : Stm w vi vq vf s) (hf : s.flg < 65536) (hm : m.size ≤ 140737488355328) :
    Calls Try.prog 7 #[sv vi vq vf s, .string m] w fun e w' => e = .returned (.bool true) ∧ Below w.heap.size w w' := by
  obtain ⟨a1, c1, a2, c2, a3, c3, rfl, rfl, rfl⟩ := h.form
  obtain ⟨W1, hW1⟩ : ∃ W1, W1 = w.alloc (.cells #[.slice a1 s.ind.length c1, .int .i64 s.pen, .slice a2 s.que.length c2, .slice a3 s.frm.length c3, .int .u16 (s.flg : Int)] 27) := ⟨_, rfl⟩
  have B1 : Hid (Below w.heap.size w W1) := by rw [hW1]; exact bel_up _ _
  have X1 : Hid (Bst W1 w.heap.size (.slice a1 s.ind.length c1) (.slice a2 s.que.length c2) (.slice a3 s.frm.length c3) s) := by rw [hW1]; exact Bst.new h
  have HW : Hid (W1 = w.alloc (.cells #[.slice a1 s.ind.length c1, .int .i64 s.pen, .slice a2 s.que.length c2, .slice a3 s.frm.length c3, .int .u16 (s.flg : Int)] 27)) := hW1
  have HF : Hid (s.flg < 65536) := hf
  have HM : Hid (m.size ≤ 140737488355328) := hm
  clear h hf hm hW1
  go_enter Try.func7, Try.ntmps7
  go_upto_region 1 with fail
  rw [← HW.out]
  go_wp2_with fail
  refine (alive_any W1).mono ?_
  rintro e w2 ⟨rfl, hb2⟩
  have B2 : Hid (Below W1.heap.size W1 w2) := hb2
  clear hb2
  obtain ⟨k0, k1, k2, k3, k4⟩ := (X1.out.up B2.out).cells
  go_wp2_with fail
  refine (shaped_any w2 (X1.out.up B2.out).stm).mono ?_
  rintro e w3 ⟨rfl, hb3⟩
  have B3 : Hid (Below W1.heap.size W1 w3) := below_trans B2.out hb3
  clear hb3 k0 k1 k2 k3 k4
  cases hs : s.shp with
  | false =>
    go_wp2_with fail
    go_ret
    exact ⟨rfl, below_trans B1.out B3.out⟩
  | true =>
  have HS : Hid (s.shp = true) := hs
  have HL : Hid (s.ind.length ≤ 32 ∧ s.que.length ≤ 8 ∧ s.frm.length ≤ 16) := shp_small hs
  have HRI : Hid (ris 0 s.ind = true) := by
    simp only [Stt.shp, Stt.oi, Bool.and_eq_true] at hs
    exact hs.1.1.1.1.2
  clear hs
  go_wp2_with fail
  go_loopg [6, 7] m.size (fun gm v6 v7 wr => ∃ i x : Nat, v6 = .int .i64 (x : Int) ∧ v7 = .int .i64 (i : Int) ∧ wr = w3 ∧ Hid (x = wid 0 (lastL [] (m.data.toList.take i))) ∧ Hid (i ≤ m.size ∧ gm = m.size - i))
  case atStart => exact ⟨0, 0, rfl, rfl, rfl, rfl, ⟨Nat.zero_le _, rfl⟩⟩
  case round =>
    obtain ⟨i, x, rfl, rfl, hwr, HX, HI⟩ := hrel
    subst hwr
    have hxb : x ≤ 1125899906842624 := by
      have h1 := wl_le (m.data.toList.take i)
      have h2 : (m.data.toList.take i).length ≤ m.size := by rw [List.length_take, Array.length_toList]; exact Nat.min_le_right _ _
      have h3 := HM.out
      rw [← HX.out] at h1
      omega
    by_cases hi : i < m.size
    · have e1 : decide ((i : Int) < (m.size : Int)) = true := by rw [decide_eq_true_eq]; omega
      have e2 : decide (i < m.size) = true := by rw [decide_eq_true_eq]; omega
      have HIL : Hid (i < m.size) := hi
      have hwi := w64n i (by have := HM.out; omega)
      have hwx := w64n x (by omega)
      have hix := idx_fact m i hi
      have HWL : Hid (wid 0 (lastL [] (m.data.toList.take (i + 1))) = if m.get! i = 10 then 0 else if m.get! i = 9 then x - x % 8 + 8 else x + 1) := by
        rw [wl_snoc _ i (by rw [Array.length_toList]; exact hi), ← get_list m i hi, ← HX.out]; exact rfl
      obtain ⟨c, hc⟩ : ∃ c, m.get! i = c := ⟨_, rfl⟩
      rw [hc] at hix HWL
      have HZ : Hid (wrap64 (wrap64 ((x : Int) - (x : Int) % 8) + 8) = ((x - x % 8 + 8 : Nat) : Int)) := by show _ = _; unfold wrap64; omega
      clear hc hi hxb
      by_cases h10 : c = 10
      · have g1 : ((c.toNat : Int) == 10) = true := by rw [show (10 : Int) = ((10 : Nat) : Int) by rfl, u8_eq c 10 (by decide), decide_eq_true_eq, h10]; rfl
        rw [if_pos h10] at HWL
        clear h10
        go_wp2_with fail
        go_roundg (m.size - (i + 1))
        case measure => have := HI.out; have := HIL.out; omega
        case rel => exact ⟨i + 1, 0, rfl, by first | rfl | (rw [show (i : Int) + 1 = ((i + 1 : Nat) : Int) by omega]), rfl, HWL.out.symm, ⟨HIL.out, rfl⟩⟩
      have g1 : ((c.toNat : Int) == 10) = false := by rw [show (10 : Int) = ((10 : Nat) : Int) by rfl, u8_eq c 10 (by decide), decide_eq_false_iff_not]; exact h10
      rw [if_neg h10] at HWL
      clear h10
      by_cases h9 : c = 9
      · have g2 : ((c.toNat : Int) == 9) = true := by rw [show (9 : Int) = ((9 : Nat) : Int) by rfl, u8_eq c 9 (by decide), decide_eq_true_eq, h9]; rfl
        rw [if_pos h9] at HWL
        clear h9
        go_wp2_with fail
        go_roundg (m.size - (i + 1))
        case measure => have := HI.out; have := HIL.out; omega
        case rel => exact ⟨i + 1, x - x % 8 + 8, by first | rfl | (rw [HZ.out]) | (congr 1; omega), by first | rfl | (rw [show (i : Int) + 1 = ((i + 1 : Nat) : Int) by omega]), rfl, HWL.out.symm, ⟨HIL.out, rfl⟩⟩
      · have g2 : ((c.toNat : Int) == 9) = false := by rw [show (9 : Int) = ((9 : Nat) : Int) by rfl, u8_eq c 9 (by decide), decide_eq_false_iff_not]; exact h9
        rw [if_neg h9] at HWL
        clear h9
        go_wp2_with fail
        go_roundg (m.size - (i + 1))
        case measure => have := HI.out; have := HIL.out; omega
        case rel => exact ⟨i + 1, x + 1, by first | rfl | (congr 1; omega), by first | rfl | (rw [show (i : Int) + 1 = ((i + 1 : Nat) : Int) by omega]), rfl, HWL.out.symm, ⟨HIL.out, rfl⟩⟩
    · have e1 : decide ((i : Int) < (m.size : Int)) = false := by rw [decide_eq_false_iff_not]; omega
      have e2 : decide (i < m.size) = false := by rw [decide_eq_false_iff_not]; omega
      have HXE : Hid (wid 0 (lastL [] m.data.toList) = x) := by
        rw [HX.out, List.take_of_length_le (by rw [Array.length_toList]; show m.size ≤ i; omega)]; exact rfl
      have HXB : Hid (x ≤ 1125899906842624) := hxb
      clear hi hxb
      obtain ⟨k0, k1, k2, k3, k4⟩ := (X1.out.up B3.out).cells
      go_wp2_with fail
      refine (doo_any 1 0 0 m wr (X1.out.up B3.out).stm HF.out (by have := HM.out; omega)).mono ?_
      rintro e w4 has
      rw [HS.out, if_pos rfl] at has
      clear k0 k1 k2 k3 k4 e1 e2
      by_cases hx : 65536 < x
      · have hact : act s 1 0 0 m = .error 64 := by
          show aMeasure s m = _
          unfold aMeasure
          rw [HXE.out, if_pos hx]
        rw [hact] at has
        obtain ⟨rfl, hb⟩ := As.err has
        have B4 : Hid (Below w.heap.size w w4) := below_trans B1.out (below_trans B3.out hb)
        have e0 : decide ((65536 : Int) < (x : Int)) = true := by rw [decide_eq_true_eq]; omega
        have e3 : decide (65536 < x) = true := by rw [decide_eq_true_eq]; omega
        clear hact has hb hx
        go_wp2_with fail
        go_ret
        exact ⟨rfl, below_trans B4.out (bel_up _ _)⟩
      have e0 : decide ((65536 : Int) < (x : Int)) = false := by rw [decide_eq_false_iff_not]; omega
      have e3 : decide (65536 < x) = false := by rw [decide_eq_false_iff_not]; omega
      have hact : act s 1 0 0 m = .ok (lst s x 0) := by
        show aMeasure s m = _
        unfold aMeasure
        rw [HXE.out, if_neg hx, lst_zero]
      have HT0 : Hid ((lst s x 0).shp = true ∧ (lst s x 0).flg < 65536) := ⟨(act_ok s 1 0 0 m HS.out).1 _ hact, act_flg s 1 0 0 m HF.out _ hact⟩
      rw [hact] at has
      obtain ⟨ti, tq, tf, rfl, ho, hb⟩ := As.own has
      clear hact hx has
      obtain ⟨e1, m1, e2, m2, e4, m4, rfl, rfl, rfl⟩ := ho.stm.form
      obtain ⟨t0, ht0⟩ : ∃ t0, lst s x 0 = t0 := ⟨_, rfl⟩
      rw [ht0] at ho HT0 ⊢
      have HT : Hid (lst s x 0 = t0) := ht0
      clear ht0
      obtain ⟨W4, hW4⟩ : ∃ W4, W4 = w4.alloc (.cells #[.slice e1 t0.ind.length m1, .int .i64 t0.pen, .slice e2 t0.que.length m2, .slice e4 t0.frm.length m4, .int .u16 (t0.flg : Int)] 27) := ⟨_, rfl⟩
      have B4 : Hid (Below W1.heap.size W1 W4) := by rw [hW4]; exact below_trans (below_trans B3.out hb) (bel_up _ _)
      have N4 : Hid (Nx W1.heap.size W4 w4.heap.size (.slice e1 t0.ind.length m1) (.slice e2 t0.que.length m2) (.slice e4 t0.frm.length m4) t0) := by
        rw [hW4]
        exact ⟨heap_new w4 _, (ho.low B3.out.size).up (bel_up _ _), Nat.le_trans B3.out.size hb.size, by have := Nat.le_trans B3.out.size hb.size; simp; omega⟩
      have HBT : Hid (w4.heap.size < W4.heap.size) := lt_of_heap N4.out.blk
      have HW4 : Hid _ := hW4
      clear ho hb hW4
      go_upto_region 23 with fail
      rw [← HW4.out]
      clear e0 e3
      obtain ⟨i3, hi3, hy0, hy1, hy2⟩ := info_parts info3
      obtain ⟨F, hF⟩ : ∃ F : Nat → List Int, F = fun i => (s.ind.take i).filter (fun y => decide (y ≤ (x : Int))) := ⟨_, rfl⟩
      have HFD : Hid (F = fun i => (s.ind.take i).filter (fun y => decide (y ≤ (x : Int)))) := hF
      clear hF
      go_loopg [10, 11] s.ind.length (fun gm v10 v11 wq => ∃ i : Nat, v11 = .int .i64 (i : Int) ∧ Hid (i ≤ s.ind.length ∧ gm = s.ind.length - i) ∧ Hid (wq.ownsRow W4.heap.size 3 1 v10 (F i).length (iC (F i))) ∧ Hid (Below W4.heap.size W4 wq))
      case atStart => exact ⟨0, rfl, ⟨Nat.zero_le _, rfl⟩, by rw [HFD.out]; exact World.ownsRow_nil _ _ _ _, Below.refl _ _⟩
      case round =>
        obtain ⟨j, rfl, HJ, HO, HBW⟩ := hrel
        have X5 : Hid (Bst wr w.heap.size (.slice a1 s.ind.length c1) (.slice a2 s.que.length c2) (.slice a3 s.frm.length c3) s) := X1.out.up (below_trans B4.out HBW.out)
        obtain ⟨k0, k1, k2, k3, k4⟩ := X5.out.cells
        obtain ⟨fj, hfj⟩ : ∃ fj, F j = fj := ⟨_, rfl⟩
        rw [hfj] at HO
        obtain ⟨la, lc, hla⟩ := row_shape HO.out
        subst hla
        by_cases hj : j < s.ind.length
        · have u1 : decide ((j : Int) < (s.ind.length : Int)) = true := by rw [decide_eq_true_eq]; omega
          have u2 : decide (j < s.ind.length) = true := by rw [decide_eq_true_eq]; omega
          have u3 : (j : Int) < (s.ind.length : Int) := by omega
          have HJL : Hid (j < s.ind.length) := hj
          have hwj := w64n j (by have := HL.out; omega)
          obtain ⟨ga, gb, go_, gc, f1, -, -, f2, f3⟩ := X5.out.stm.i
          obtain ⟨rfl, -, rfl⟩ := Value.slice.inj f1
          obtain rfl := f2 (by omega)
          have cy := f3 j _ (iC_get s.ind j hj)
          have HSN : Hid (F (j + 1) = fj ++ if s.ind.getD j 0 ≤ (x : Int) then [s.ind.getD j 0] else []) := by
            have := filter_snoc (x : Int) s.ind j hj
            rw [HFD.out] at hfj ⊢
            show (s.ind.take (j + 1)).filter _ = _
            rw [this]
            simp only at hfj
            rw [hfj]
          have HFL : Hid (fj.length ≤ 1000000) := by
            have h1 : (F j).length ≤ s.ind.length := by
              rw [HFD.out]
              refine Nat.le_trans (List.length_filter_le _ _) ?_
              rw [List.length_take]
              exact Nat.min_le_right _ _
            rw [hfj] at h1
            have := HL.out
            show fj.length ≤ 1000000
            omega
          obtain ⟨y, hy⟩ : ∃ y, s.ind.getD j 0 = y := ⟨_, rfl⟩
          rw [hy] at cy HSN
          clear hj hy hfj f1 f2 f3
          by_cases hyx : y ≤ (x : Int)
          · have g1 : decide (y ≤ (x : Int)) = true := by rw [decide_eq_true_eq]; exact hyx
            rw [if_pos hyx] at HSN
            have HROW : Hid ((wr.alloc (.cells #[.int .i64 y] 3)).ownsRow W4.heap.size 3 1 (.slice la fj.length lc) fj.length (iC fj)) := HO.out.alloc _
            have HSB : Hid (W4.heap.size ≤ (wr.alloc (.cells #[.int .i64 y] 3)).heap.size) := by have := HBW.out.size; show _ ≤ _; simp; omega
            clear hyx
            go_wp2_with (at_builtin; refine wpList_append_own _ rfl _ _ 22 rfl W4.heap.size 3 i3 (.int .i64 0) 1 8 Try.underlying22 hi3 hy0 hy1 hy2 rfl (by decide) _ _ _ rfl HROW.out ⟨wr.heap.size, 0, none⟩ 1 1 [.int .i64 y] rfl rfl (cell_one_new _ _ _) (by simp [Value.oneCell']) (by have := HFL.out; unfold maxLen; omega) (by have := HFL.out; omega) HSB.out ?_; intro v5 w5 ho5 hg5 _; have HO5 : Hid _ := ho5; have HG5 : Hid _ := hg5; obtain ⟨qa, qc, rfl⟩ := row_shape ho5; clear ho5 hg5)
            go_roundg (s.ind.length - (j + 1))
            case measure => have := HJ.out; have := HJL.out; omega
            case rel =>
              refine ⟨j + 1, by first | rfl | (rw [show (j : Int) + 1 = ((j + 1 : Nat) : Int) by omega]), ⟨HJL.out, rfl⟩, ?_, ?_⟩
              · rw [HSN.out, List.length_append, iC_app]; exact HO5.out
              · exact (HBW.out.alloc HBW.out.size _).grown HG5.out HSB.out (fun r e => (HROW.out.lt r e).1)
          · have g1 : decide (y ≤ (x : Int)) = false := by rw [decide_eq_false_iff_not]; exact hyx
            rw [if_neg hyx, List.append_nil] at HSN
            clear hyx
            go_wp2_with fail
            go_roundg (s.ind.length - (j + 1))
            case measure => have := HJ.out; have := HJL.out; omega
            case rel => exact ⟨j + 1, by first | rfl | (rw [show (j : Int) + 1 = ((j + 1 : Nat) : Int) by omega]), ⟨HJL.out, rfl⟩, by rw [HSN.out]; exact HO, HBW⟩
        · have u1 : decide ((j : Int) < (s.ind.length : Int)) = false := by rw [decide_eq_false_iff_not]; omega
          have u2 : decide (j < s.ind.length) = false := by rw [decide_eq_false_iff_not]; omega
          obtain ⟨c, hc1, hc2, hc3, hc4⟩ := ris_split (x : Int) s.ind 0 HRI.out
          have hfe : fj = s.ind.take c := by
            rw [← hfj, HFD.out]
            show (s.ind.take j).filter _ = _
            rw [List.take_of_length_le (by omega), hc2]
          have hfl : fj.length = c := by rw [hfe, List.length_take]; omega
          have HFE : Hid (fj = s.ind.take c) := hfe
          have HFC : Hid (fj.length = c) := hfl
          have HC1 : Hid (c ≤ s.ind.length) := hc1
          have HC3 : Hid (∀ i, i < c → s.ind.getD i 0 ≤ (x : Int)) := hc3
          have HC4 : Hid (∀ i, c ≤ i → i < s.ind.length → (x : Int) < s.ind.getD i 0) := hc4
          rw [hfl] at HO ⊢
          have hn : IntKind.i64.wrap ((s.ind.length : Int) - (c : Int)) = ((s.ind.length - c : Nat) : Int) := by rw [IntKind.wrap_i64]; have := HL.out; omega
          clear hj hfj hc1 hc2 hc3 hc4 hfe hfl
          go_upto_region 28 with fail
          clear k0 k1 k2 k3 k4 u1 u2 hn
          have N5 : Hid (Nx W1.heap.size wr w4.heap.size (.slice e1 t0.ind.length m1) (.slice e2 t0.que.length m2) (.slice e4 t0.frm.length m4) t0) := N4.out.up HBW.out
          have B5 : Hid (Below W1.heap.size W1 wr) := below_trans B4.out HBW.out
          clear X5
          go_loopg [12] (s.ind.length - c) (fun gm v12 wq => ∃ (j : Nat) (x0 y0 z0 : Value), v12 = .int .i64 ((s.ind.length - c - j : Nat) : Int) ∧ Hid (j ≤ s.ind.length - c ∧ gm = s.ind.length - c - j) ∧ Hid (Nx W1.heap.size wq w4.heap.size x0 y0 z0 (lst s x j)) ∧ Hid ((lst s x j).shp = true ∧ (lst s x j).flg < 65536) ∧ Hid (wq.ownsRow W4.heap.size 3 1 (.slice la c lc) c (iC fj)) ∧ Hid (Below W1.heap.size W1 wq))
          case atStart => exact ⟨0, _, _, _, by first | rfl | simp, ⟨Nat.zero_le _, rfl⟩, by rw [HT.out]; exact N5, by rw [HT.out]; exact HT0, HO, B5⟩
          case round =>
            obtain ⟨d, x0, y0, z0, hv, HD, ND, SD, OD, BD⟩ := hrel
            subst hv
            obtain ⟨b1, d1, b2, d2, b3, d3, rfl, rfl, rfl⟩ := ND.out.own.stm.form
            by_cases hd : d < s.ind.length - c
            · obtain ⟨hp, ht, hact⟩ := lst_next s x d c hd HC4.out m
              have HH : Hid (hld (lst s x d) 2 0 false = true) := by
                show (decide (0 ≤ (lst s x d).pen) && decide ((lst s x d).pen < (lst s x d).top)) = true
                rw [hp, decide_eq_true (by omega : (0 : Int) ≤ (x : Int)), decide_eq_true ht]; rfl
              have HACT : Hid (act (lst s x d) 3 0 0 m = .ok (lst s x (d + 1))) := hact
              have SN : Hid ((lst s x (d + 1)).shp = true ∧ (lst s x (d + 1)).flg < 65536) := ⟨(act_ok _ 3 0 0 m SD.out.1).1 _ hact, act_flg _ 3 0 0 m SD.out.2 _ hact⟩
              have HIL : Hid ((lst s x d).ind.length ≤ 1000000) := by have := (shp_small SD.out.1).1; show _ ≤ _; omega
              have g0 : decide ((0 : Int) < ((s.ind.length - c - d : Nat) : Int)) = true := by rw [decide_eq_true_eq]; omega
              have g1 : decide (0 < s.ind.length - c - d) = true := by rw [decide_eq_true_eq]; omega
              have g2 : IntKind.i64.wrap (((s.ind.length - c - d : Nat) : Int) - 1) = ((s.ind.length - c - (d + 1) : Nat) : Int) := by rw [IntKind.wrap_i64]; have := HL.out; omega
              have HDL : Hid (d < s.ind.length - c) := hd
              obtain ⟨nn, hnn⟩ : ∃ nn : Nat, s.ind.length - c - d = nn := ⟨_, rfl⟩
              have HNN : Hid (s.ind.length - c - d = nn) := hnn
              rw [hnn] at g0 g1 g2 ⊢
              clear hp ht hact hd hnn
              obtain ⟨td, htd⟩ : ∃ td, lst s x d = td := ⟨_, rfl⟩
              rw [htd] at ND SD HH HACT HIL
              clear htd
              obtain ⟨k0, k1, k2, k3, k4⟩ := ND.out.cells
              go_wp2_with fail
              refine (holds_any 2 0 false wr ND.out.own.stm SD.out.2 HIL.out).mono ?_
              rintro e w6 ⟨rfl, hb6⟩
              rw [HH.out]
              have N6 : Hid _ := ND.out.up hb6
              have B6 : Hid (Below wr.heap.size wr w6) := hb6
              clear hb6 k0 k1 k2 k3 k4
              obtain ⟨k0, k1, k2, k3, k4⟩ := N6.out.cells
              go_wp2_with fail
              refine (doo_any 3 0 0 m w6 N6.out.own.stm SD.out.2 (by have := HM.out; omega)).mono ?_
              rintro e w7 has
              rw [SD.out.1, if_pos rfl, HACT.out] at has
              obtain ⟨ui, uq, uf, rfl, ho, hb⟩ := As.own has
              clear has k0 k1 k2 k3 k4
              obtain ⟨u1, n1, u2, n2, u3, n3, rfl, rfl, rfl⟩ := ho.stm.form
              obtain ⟨t5, ht5⟩ : ∃ t5, lst s x (d + 1) = t5 := ⟨_, rfl⟩
              rw [ht5] at ho ⊢
              have HT5 : Hid (lst s x (d + 1) = t5) := ht5
              clear ht5
              obtain ⟨W8, hW8⟩ : ∃ W8, W8 = w7.alloc (.cells #[.slice u1 t5.ind.length n1, .int .i64 t5.pen, .slice u2 t5.que.length n2, .slice u3 t5.frm.length n3, .int .u16 (t5.flg : Int)] 27) := ⟨_, rfl⟩
              have U8 : Hid (Below wr.heap.size wr W8) := by rw [hW8]; exact below_trans (below_trans B6.out hb) (bel_up _ _)
              have hu8 : W8.heap[w7.heap.size]? = some (.cells #[.slice u1 t5.ind.length n1, .int .i64 t5.pen, .slice u2 t5.que.length n2, .slice u3 t5.frm.length n3, .int .u16 (t5.flg : Int)] 27 (0, 0)) := by rw [hW8]; exact heap_new w7 _
              have O8 : Hid (Own W1.heap.size W8 (.slice u1 t5.ind.length n1) (.slice u2 t5.que.length n2) (.slice u3 t5.frm.length n3) t5) := by rw [hW8]; exact (ho.low (Nat.le_trans ND.out.lB B6.out.size)).up (bel_up _ _)
              have N8 : Hid _ := ND.out.up U8.out
              have HW8 : Hid _ := hW8
              obtain ⟨r0, r1, r2, r3, r4⟩ := box_cells hu8
              obtain ⟨k0, k1, k2, k3, k4⟩ := N8.out.cells
              have kf := N8.out.frz
              clear ho hb hW8 hu8
              go_upto_region 34 with fail
              rw [← HW8.out]
              go_wp2_with fail
              go_roundg (s.ind.length - c - (d + 1))
              case measure => have := HD.out; have := HDL.out; omega
              case rel =>
                refine ⟨d + 1, .slice u1 t5.ind.length n1, .slice u2 t5.que.length n2, .slice u3 t5.frm.length n3, by first | rfl | (rw [show ((nn : Nat) : Int) - 1 = ((s.ind.length - c - (d + 1) : Nat) : Int) by have := HNN.out; have := HDL.out; omega]), ⟨HDL.out, rfl⟩, ?_, SN, ?_, ?_⟩
                · rw [HT5.out]
                  exact ⟨five_blk N8.out.blk, ⟨row_five N8.out.blk O8.out.i (by decide), row_five N8.out.blk O8.out.q (by decide), row_five N8.out.blk O8.out.f (by decide)⟩, N8.out.lo, by have := N8.out.lB; simp; exact this⟩
                · exact row_five N8.out.blk (row_up OD.out U8.out) (by decide)
                · exact ((((((below_trans BD.out U8.out).setCell (p := ⟨w4.heap.size, 0, none⟩) N8.out.lo _).setCell (p := ⟨w4.heap.size, 1, none⟩) N8.out.lo _).setCell (p := ⟨w4.heap.size, 2, none⟩) N8.out.lo _).setCell (p := ⟨w4.heap.size, 3, none⟩) N8.out.lo _).setCell (p := ⟨w4.heap.size, 4, none⟩) N8.out.lo _)
            · have hde : d = s.ind.length - c := by have := HD.out; omega
              subst hde
              have g0 : decide ((0 : Int) < ((s.ind.length - c - (s.ind.length - c) : Nat) : Int)) = false := by rw [decide_eq_false_iff_not]; omega
              have g1 : decide (0 < s.ind.length - c - (s.ind.length - c)) = false := by rw [decide_eq_false_iff_not]; omega
              obtain ⟨hi1, hi2, hi3, hi4, hi5⟩ := lst_end s x c HRI.out HC1.out HC3.out
              have P4 : Hid _ := hi4
              have P5 : Hid _ := hi5
              rw [Nat.sub_self] at g0 g1 ⊢
              clear hd hi4 hi5
              rcases hi3 with hpe | hpe
              · have HCD : Hid ((decide ((x : Int) = 0) || (decide (0 < c) && decide (s.ind.getD (c - 1) 0 = (x : Int)))) = true) := by rw [hi2, hpe]; exact decide_eq_true rfl
                have hTE : lst s x (s.ind.length - c) = ⟨fj, -1, s.que, s.frm, s.flg⟩ := by rw [lst_eq s x c (-1) hi1 hpe, HFE.out]
                rw [hTE] at ND SD P4 P5
                clear hTE hi1 hi2 hpe
                have X9 : Hid (Bst wr w.heap.size (.slice a1 s.ind.length c1) (.slice a2 s.que.length c2) (.slice a3 s.frm.length c3) s) := X1.out.up BD.out
                obtain ⟨k0, k1, k2, k3, k4⟩ := X9.out.cells
                go_wp2_with fail
                refine (twin_any wr X9.out.stm (by have := HL.out; omega) (by have := HL.out; omega) (by have := HL.out; omega)).mono ?_
                rintro e w9 ⟨wi, wq_, wf, rfl, ho, hb⟩
                clear k0 k1 k2 k3 k4
                obtain ⟨ia, ic, qa, qc, fa, fc, rfl, rfl, rfl⟩ := ho.stm.form
                obtain ⟨W10, hW10⟩ : ∃ W10, W10 = w9.alloc (.cells #[.slice la c lc, .int .i64 (x : Int), .slice qa s.que.length qc, .slice fa s.frm.length fc, .int .u16 (s.flg : Int)] 27) := ⟨_, rfl⟩
                have U10 : Hid (Below wr.heap.size wr W10) := by rw [hW10]; exact below_trans hb (bel_up _ _)
                have OQ : Hid (W10.ownsRow wr.heap.size 9 1 (.slice qa s.que.length qc) s.que.length (qC s.que)) := by rw [hW10]; exact (ho.up (bel_up _ _)).q
                have OF : Hid (W10.ownsRow wr.heap.size 54 2 (.slice fa s.frm.length fc) s.frm.length (fC s.frm)) := by rw [hW10]; exact (ho.up (bel_up _ _)).f
                have HB10 : Hid (W10.heap[w9.heap.size]? = some (.cells #[.slice la c lc, .int .i64 (x : Int), .slice qa s.que.length qc, .slice fa s.frm.length fc, .int .u16 (s.flg : Int)] 27 (0, 0))) := by rw [hW10]; exact heap_new w9 _
                have HW10 : Hid _ := hW10
                have B10 : Hid (Below W1.heap.size W1 W10) := below_trans BD.out U10.out
                have N10 : Hid _ := ND.out.up U10.out
                have O10 : Hid (W10.ownsRow W4.heap.size 3 1 (.slice la c lc) c (iC fj)) := row_up OD.out U10.out
                have HNB : Hid (w4.heap.size ≠ w9.heap.size) := by have h1 := lt_of_heap ND.out.blk; have h2 := hb.size; show _ ≠ _; omega
                have HLO : Hid (W1.heap.size ≤ w9.heap.size) := Nat.le_trans BD.out.size hb.size
                clear ho hb hW10
                go_upto_region 40 with fail
                rw [← HW10.out]
                go_cut [128] from 112 (fun v wz => v = .bool true ∧ wz = W10)
                case first =>
                  have hcond := HCD.out
                  by_cases hx0 : (x : Int) = 0
                  · have f0 : ((x : Int) == 0) = true := by rw [beq_iff_eq]; exact hx0
                    rw [decide_eq_true hx0] at hcond
                    have HC0 : Hid _ := hcond
                    clear hcond hx0
                    go_wp2_with fail
                    go_meet
                    exact ⟨by have := HC0.out; first | rfl | (simp at this), rfl⟩
                  have f0 : ((x : Int) == 0) = false := by rw [beq_eq_false_iff_ne]; exact hx0
                  rw [decide_eq_false hx0] at hcond
                  clear hx0
                  rcases Nat.eq_zero_or_pos c with hc0 | hc0
                  · have f1 : decide ((0 : Int) < (c : Int)) = false := by rw [decide_eq_false_iff_not]; omega
                    have f2 : decide (0 < c) = false := by rw [decide_eq_false_iff_not]; omega
                    rw [f2] at hcond
                    have HC0 : Hid _ := hcond
                    clear hcond hc0
                    go_wp2_with fail
                    go_meet
                    exact ⟨by have := HC0.out; first | rfl | (simp at this), rfl⟩
                  have f1 : decide ((0 : Int) < (c : Int)) = true := by rw [decide_eq_true_eq]; omega
                  have f2 : decide (0 < c) = true := by rw [decide_eq_true_eq]; omega
                  have hw : IntKind.i64.wrap ((c : Int) - 1) = ((c - 1 : Nat) : Int) := by rw [IntKind.wrap_i64]; have := HL.out; have := HC1.out; omega
                  have hw3 : ((c - 1 : Nat) : Int) = (c : Int) - 1 := by omega
                  have f3 : ((c - 1 : Nat) : Int) < (c : Int) := by omega
                  have f4 : c - 1 < c := by omega
                  obtain ⟨g, cp, hgf, -, -, -⟩ := row_form O10.out hc0
                  obtain ⟨rfl, -, rfl⟩ := Value.slice.inj hgf
                  have hlc : c ≤ s.ind.length := HC1.out
                  have cl : W10.cell? ⟨g, c - 1, none⟩ = some (.int .i64 (s.ind.getD (c - 1) 0)) := by
                    rw [O10.out.cellAt (c - 1) (by omega), HFE.out, iC_get _ _ (by rw [List.length_take]; omega)]
                    have : (s.ind.take c).getD (c - 1) 0 = s.ind.getD (c - 1) 0 := by rw [List.getD_eq_getElem?_getD, List.getElem?_take_of_lt (by omega), ← List.getD_eq_getElem?_getD]
                    rw [this]
                  rw [f2] at hcond
                  obtain ⟨ly, hly⟩ : ∃ ly, s.ind.getD (c - 1) 0 = ly := ⟨_, rfl⟩
                  rw [hly] at cl hcond
                  have f5 : (ly == (x : Int)) = true := by rw [← hcond]; by_cases h : ly = (x : Int) <;> simp [h]
                  clear hcond hgf hly hc0 hlc
                  go_wp2_with fail
                  go_meet
                  exact ⟨rfl, rfl⟩
                case rest =>
                obtain ⟨rfl, rfl⟩ := hcut
                obtain ⟨j0, j1, j2, j3, j4⟩ := box_cells HB10.out
                have jf := Lib.frozen_of_heap HB10.out 1
                go_upto_region 42 with fail
                clear j0 j1 j2 j3 j4 jf
                obtain ⟨Wf, hWf⟩ : ∃ Wf, Wf = wc.setCell ⟨w9.heap.size, 1, none⟩ (.int .i64 (-1)) := ⟨_, rfl⟩
                rw [← hWf]
                have FB : Hid (Wf.heap[w9.heap.size]? = some (.cells #[.slice la c lc, .int .i64 (-1), .slice qa s.que.length qc, .slice fa s.frm.length fc, .int .u16 (s.flg : Int)] 27 (0, 0))) := by rw [hWf, blk_set _ HB10.out]; rfl
                have FN : Hid _ := (N10.out).off (k := 1) (v := .int .i64 (-1)) HB10.out (fun e => HNB.out e.symm)
                rw [← hWf] at FN
                have FO : Hid (Wf.ownsRow W4.heap.size 3 1 (.slice la c lc) c (iC fj)) := by rw [hWf]; exact (row_off HB10.out O10.out (by decide)).1
                have FQ : Hid (Wf.ownsRow wr.heap.size 9 1 (.slice qa s.que.length qc) s.que.length (qC s.que)) := by rw [hWf]; exact (row_off HB10.out OQ.out (by decide)).1
                have FF : Hid (Wf.ownsRow wr.heap.size 54 2 (.slice fa s.frm.length fc) s.frm.length (fC s.frm)) := by rw [hWf]; exact (row_off HB10.out OF.out (by decide)).1
                have FW : Hid (Below W1.heap.size W1 Wf) := by rw [hWf]; exact B10.out.setCell (p := ⟨w9.heap.size, 1, none⟩) HLO.out _
                clear hWf
                have SM : Hid (Stm Wf (.slice la c lc) (.slice qa s.que.length qc) (.slice fa s.frm.length fc) (⟨fj, -1, s.que, s.frm, s.flg⟩ : Stt)) := by
                  have hrw := row_rw FO.out (by omega)
                  refine ⟨?_, row_rw FQ.out (by omega), row_rw FF.out (by omega)⟩
                  show Rw Wf (.slice la c lc) fj.length (iC fj)
                  rw [HFC.out]; exact hrw
                obtain ⟨j0, j1, j2, j3, j4⟩ := box_cells FB.out
                obtain ⟨k0, k1, k2, k3, k4⟩ := FN.out.cells
                have HLC : Hid (fj.length ≤ 32) := by have := HL.out; have := HC1.out; have := HFC.out; show _ ≤ _; omega
                go_wp2_with fail
                refine (rsame_yes (s := (⟨fj, -1, s.que, s.frm, s.flg⟩ : Stt)) Wf FN.out.own.stm SM.out ⟨by have := HLC.out; show fj.length ≤ _; omega, by have := HL.out; show s.que.length ≤ _; omega, by have := HL.out; show s.frm.length ≤ _; omega⟩).mono ?_
                rintro e w12 ⟨rfl, hb⟩
                have V12 : Hid (Below Wf.heap.size Wf w12) := hb
                have N12 : Hid _ := FN.out.up hb
                clear hb k0 k1 k2 k3 k4 j0 j1 j2 j3 j4
                obtain ⟨k0, k1, k2, k3, k4⟩ := N12.out.cells
                go_wp2_with fail
                refine (holds_any (s := (⟨fj, -1, s.que, s.frm, s.flg⟩ : Stt)) 2 0 false w12 N12.out.own.stm SD.out.2 (by have := HLC.out; show fj.length ≤ _; omega)).mono ?_
                rintro e w13 ⟨rfl, hb⟩
                rw [P4.out]
                have V13 : Hid (Below Wf.heap.size Wf w13) := below_trans V12.out hb
                have N13 : Hid _ := N12.out.up hb
                clear hb k0 k1 k2 k3 k4
                obtain ⟨k0, k1, k2, k3, k4⟩ := N13.out.cells
                go_wp2_with fail
                refine (holds_any (s := (⟨fj, -1, s.que, s.frm, s.flg⟩ : Stt)) 1 0 false w13 N13.out.own.stm SD.out.2 (by have := HLC.out; show fj.length ≤ _; omega)).mono ?_
                rintro e w14 ⟨rfl, hb⟩
                rw [P5.out, show decide (0 ≤ (⟨fj, -1, s.que, s.frm, s.flg⟩ : Stt).pen) = false from decide_eq_false (by show ¬ (0 : Int) ≤ -1; omega)]
                have V14 : Hid (Below Wf.heap.size Wf w14) := below_trans V13.out hb
                have hb14 : w14.heap[w9.heap.size]? = _ := (V14.out.block _ (lt_of_heap FB.out)).trans FB.out
                obtain ⟨j0, j1, j2, j3, j4⟩ := box_cells hb14
                clear hb hb14 k0 k1 k2 k3 k4
                go_wp2_with fail
                go_ret
                exact ⟨rfl, below_trans B1.out (below_trans FW.out V14.out)⟩
              · have HCD : Hid ((decide ((x : Int) = 0) || (decide (0 < c) && decide (s.ind.getD (c - 1) 0 = (x : Int)))) = false) := by rw [hi2, hpe]; exact decide_eq_false (by omega)
                have hTE : lst s x (s.ind.length - c) = ⟨fj, (x : Int), s.que, s.frm, s.flg⟩ := by rw [lst_eq s x c ((x : Int)) hi1 hpe, HFE.out]
                rw [hTE] at ND SD P4 P5
                clear hTE hi1 hi2 hpe
                have X9 : Hid (Bst wr w.heap.size (.slice a1 s.ind.length c1) (.slice a2 s.que.length c2) (.slice a3 s.frm.length c3) s) := X1.out.up BD.out
                obtain ⟨k0, k1, k2, k3, k4⟩ := X9.out.cells
                go_wp2_with fail
                refine (twin_any wr X9.out.stm (by have := HL.out; omega) (by have := HL.out; omega) (by have := HL.out; omega)).mono ?_
                rintro e w9 ⟨wi, wq_, wf, rfl, ho, hb⟩
                clear k0 k1 k2 k3 k4
                obtain ⟨ia, ic, qa, qc, fa, fc, rfl, rfl, rfl⟩ := ho.stm.form
                obtain ⟨W10, hW10⟩ : ∃ W10, W10 = w9.alloc (.cells #[.slice la c lc, .int .i64 (x : Int), .slice qa s.que.length qc, .slice fa s.frm.length fc, .int .u16 (s.flg : Int)] 27) := ⟨_, rfl⟩
                have U10 : Hid (Below wr.heap.size wr W10) := by rw [hW10]; exact below_trans hb (bel_up _ _)
                have OQ : Hid (W10.ownsRow wr.heap.size 9 1 (.slice qa s.que.length qc) s.que.length (qC s.que)) := by rw [hW10]; exact (ho.up (bel_up _ _)).q
                have OF : Hid (W10.ownsRow wr.heap.size 54 2 (.slice fa s.frm.length fc) s.frm.length (fC s.frm)) := by rw [hW10]; exact (ho.up (bel_up _ _)).f
                have HB10 : Hid (W10.heap[w9.heap.size]? = some (.cells #[.slice la c lc, .int .i64 (x : Int), .slice qa s.que.length qc, .slice fa s.frm.length fc, .int .u16 (s.flg : Int)] 27 (0, 0))) := by rw [hW10]; exact heap_new w9 _
                have HW10 : Hid _ := hW10
                have B10 : Hid (Below W1.heap.size W1 W10) := below_trans BD.out U10.out
                have N10 : Hid _ := ND.out.up U10.out
                have O10 : Hid (W10.ownsRow W4.heap.size 3 1 (.slice la c lc) c (iC fj)) := row_up OD.out U10.out
                have HNB : Hid (w4.heap.size ≠ w9.heap.size) := by have h1 := lt_of_heap ND.out.blk; have h2 := hb.size; show _ ≠ _; omega
                have HLO : Hid (W1.heap.size ≤ w9.heap.size) := Nat.le_trans BD.out.size hb.size
                clear ho hb hW10
                go_upto_region 40 with fail
                rw [← HW10.out]
                go_cut [128] from 112 (fun v wz => v = .bool false ∧ wz = W10)
                case first =>
                  have hcond := HCD.out
                  by_cases hx0 : (x : Int) = 0
                  · have f0 : ((x : Int) == 0) = true := by rw [beq_iff_eq]; exact hx0
                    rw [decide_eq_true hx0] at hcond
                    have HC0 : Hid _ := hcond
                    clear hcond hx0
                    go_wp2_with fail
                    go_meet
                    exact ⟨by have := HC0.out; first | rfl | (simp at this), rfl⟩
                  have f0 : ((x : Int) == 0) = false := by rw [beq_eq_false_iff_ne]; exact hx0
                  rw [decide_eq_false hx0] at hcond
                  clear hx0
                  rcases Nat.eq_zero_or_pos c with hc0 | hc0
                  · have f1 : decide ((0 : Int) < (c : Int)) = false := by rw [decide_eq_false_iff_not]; omega
                    have f2 : decide (0 < c) = false := by rw [decide_eq_false_iff_not]; omega
                    rw [f2] at hcond
                    have HC0 : Hid _ := hcond
                    clear hcond hc0
                    go_wp2_with fail
                    go_meet
                    exact ⟨by have := HC0.out; first | rfl | (simp at this), rfl⟩
                  have f1 : decide ((0 : Int) < (c : Int)) = true := by rw [decide_eq_true_eq]; omega
                  have f2 : decide (0 < c) = true := by rw [decide_eq_true_eq]; omega
                  have hw : IntKind.i64.wrap ((c : Int) - 1) = ((c - 1 : Nat) : Int) := by rw [IntKind.wrap_i64]; have := HL.out; have := HC1.out; omega
                  have hw3 : ((c - 1 : Nat) : Int) = (c : Int) - 1 := by omega
                  have f3 : ((c - 1 : Nat) : Int) < (c : Int) := by omega
                  have f4 : c - 1 < c := by omega
                  obtain ⟨g, cp, hgf, -, -, -⟩ := row_form O10.out hc0
                  obtain ⟨rfl, -, rfl⟩ := Value.slice.inj hgf
                  have hlc : c ≤ s.ind.length := HC1.out
                  have cl : W10.cell? ⟨g, c - 1, none⟩ = some (.int .i64 (s.ind.getD (c - 1) 0)) := by
                    rw [O10.out.cellAt (c - 1) (by omega), HFE.out, iC_get _ _ (by rw [List.length_take]; omega)]
                    have : (s.ind.take c).getD (c - 1) 0 = s.ind.getD (c - 1) 0 := by rw [List.getD_eq_getElem?_getD, List.getElem?_take_of_lt (by omega), ← List.getD_eq_getElem?_getD]
                    rw [this]
                  rw [f2] at hcond
                  obtain ⟨ly, hly⟩ : ∃ ly, s.ind.getD (c - 1) 0 = ly := ⟨_, rfl⟩
                  rw [hly] at cl hcond
                  have f5 : (ly == (x : Int)) = false := by rw [← hcond]; by_cases h : ly = (x : Int) <;> simp [h]
                  clear hcond hgf hly hc0 hlc
                  go_wp2_with fail
                  go_meet
                  exact ⟨rfl, rfl⟩
                case rest =>
                obtain ⟨rfl, rfl⟩ := hcut
                go_upto_region 42 with fail
                obtain ⟨Wf, hWf⟩ : ∃ Wf, Wf = wc := ⟨_, rfl⟩
                rw [← hWf] at HB10 N10 O10 OQ OF B10 ⊢
                have FB : Hid (Wf.heap[w9.heap.size]? = some (.cells #[.slice la c lc, .int .i64 (x : Int), .slice qa s.que.length qc, .slice fa s.frm.length fc, .int .u16 (s.flg : Int)] 27 (0, 0))) := HB10
                have FN : Hid _ := N10.out
                have FO : Hid (Wf.ownsRow W4.heap.size 3 1 (.slice la c lc) c (iC fj)) := O10
                have FQ : Hid (Wf.ownsRow wr.heap.size 9 1 (.slice qa s.que.length qc) s.que.length (qC s.que)) := OQ
                have FF : Hid (Wf.ownsRow wr.heap.size 54 2 (.slice fa s.frm.length fc) s.frm.length (fC s.frm)) := OF
                have FW : Hid (Below W1.heap.size W1 Wf) := B10
                clear hWf
                have SM : Hid (Stm Wf (.slice la c lc) (.slice qa s.que.length qc) (.slice fa s.frm.length fc) (⟨fj, (x : Int), s.que, s.frm, s.flg⟩ : Stt)) := by
                  have hrw := row_rw FO.out (by omega)
                  refine ⟨?_, row_rw FQ.out (by omega), row_rw FF.out (by omega)⟩
                  show Rw Wf (.slice la c lc) fj.length (iC fj)
                  rw [HFC.out]; exact hrw
                obtain ⟨j0, j1, j2, j3, j4⟩ := box_cells FB.out
                obtain ⟨k0, k1, k2, k3, k4⟩ := FN.out.cells
                have HLC : Hid (fj.length ≤ 32) := by have := HL.out; have := HC1.out; have := HFC.out; show _ ≤ _; omega
                go_wp2_with fail
                refine (rsame_yes (s := (⟨fj, (x : Int), s.que, s.frm, s.flg⟩ : Stt)) Wf FN.out.own.stm SM.out ⟨by have := HLC.out; show fj.length ≤ _; omega, by have := HL.out; show s.que.length ≤ _; omega, by have := HL.out; show s.frm.length ≤ _; omega⟩).mono ?_
                rintro e w12 ⟨rfl, hb⟩
                have V12 : Hid (Below Wf.heap.size Wf w12) := hb
                have N12 : Hid _ := FN.out.up hb
                clear hb k0 k1 k2 k3 k4 j0 j1 j2 j3 j4
                obtain ⟨k0, k1, k2, k3, k4⟩ := N12.out.cells
                go_wp2_with fail
                refine (holds_any (s := (⟨fj, (x : Int), s.que, s.frm, s.flg⟩ : Stt)) 2 0 false w12 N12.out.own.stm SD.out.2 (by have := HLC.out; show fj.length ≤ _; omega)).mono ?_
                rintro e w13 ⟨rfl, hb⟩
                rw [P4.out]
                have V13 : Hid (Below Wf.heap.size Wf w13) := below_trans V12.out hb
                have N13 : Hid _ := N12.out.up hb
                clear hb k0 k1 k2 k3 k4
                obtain ⟨k0, k1, k2, k3, k4⟩ := N13.out.cells
                go_wp2_with fail
                refine (holds_any (s := (⟨fj, (x : Int), s.que, s.frm, s.flg⟩ : Stt)) 1 0 false w13 N13.out.own.stm SD.out.2 (by have := HLC.out; show fj.length ≤ _; omega)).mono ?_
                rintro e w14 ⟨rfl, hb⟩
                rw [P5.out, show decide (0 ≤ (⟨fj, (x : Int), s.que, s.frm, s.flg⟩ : Stt).pen) = true from decide_eq_true (by show (0 : Int) ≤ (x : Int); omega)]
                have V14 : Hid (Below Wf.heap.size Wf w14) := below_trans V13.out hb
                have hb14 : w14.heap[w9.heap.size]? = _ := (V14.out.block _ (lt_of_heap FB.out)).trans FB.out
                obtain ⟨j0, j1, j2, j3, j4⟩ := box_cells hb14
                clear hb hb14 k0 k1 k2 k3 k4
                have hxn : decide ((0 : Int) ≤ (x : Int)) = true := by rw [decide_eq_true_eq]; omega
                go_wp2_with fail
                go_ret
                exact ⟨rfl, below_trans B1.out (below_trans FW.out V14.out)⟩
end Go.Proofs.Ytkaciochlemjiaa
