import Derived.Test.YtbhlaheidlnppaaStart
namespace Go.Proofs.Ytbhlaheidlnppaa
open Go.RowKit

theorem cl_mono {a b m : Int} (h : a ≤ b) (hm : 0 ≤ m) : cl a m ≤ cl b m := by
  unfold cl
  split <;> split <;> (try split) <;> (try split) <;> omega
theorem wide_le (l : ByteArray) (c : Nat) : (lastB l (winAt (c : Int))).2 ≤ c := by
  obtain ⟨k, u, e, b, hw, _⟩ := lastB_spec l (winAt (c : Int)) (by simp [winAt])
  rw [e]
  have := b.le.2
  simp [winAt] at hw
  show u ≤ c
  omega
theorem wide_mono (l : ByteArray) (c d : Nat) (h : c ≤ d) : (lastB l (winAt (c : Int))).2 ≤ (lastB l (winAt (d : Int))).2 :=
  (lastB_mono l _ _ (winAt_mono _) (by simp [winAt]) (fun k u hw => by simp [winAt] at *; omega)).2

/-- two places' rows -/
theorem rows_order {s : ByteArray} {T : List ((Nat × Nat) × Value)} (hR : Rw s 0 s.size (T.map (·.1))) {t1 t2 j1 j2 : Nat} {x1 x2 : (Nat × Nat) × Value} (h : t1 ≤ t2) (e1 : T[j1]? = some x1) (e2 : T[j2]? = some x2) (a1 : x1.1.1 ≤ t1) (b2 : t2 ≤ x2.1.2) :
    j1 < j2 ∨ (j1 = j2 ∧ x1 = x2) := by
  rcases Nat.lt_trichotomy j1 j2 with hl | hl | hl
  · exact Or.inl hl
  · subst hl
    rw [e1] at e2
    exact Or.inr ⟨rfl, by simpa using e2⟩
  · have := hR.apart' (map_get e2) (map_get e1) hl
    omega

/-- where the rows are gone through -/
def Gone (w1 : World) (s : ByteArray) (T : List ((Nat × Nat) × Value)) (gk : Nat) (at_ i : Value) (wr : World) : Prop :=
  ∃ (m p : Nat), at_ = .int .i64 (p : Int) ∧ i = .int .i64 (m : Int) ∧ m ≤ T.length ∧ (∀ x, T[m]? = some x → p = x.1.1) ∧ (m = T.length → p = s.size + 1) ∧ gk = T.length - m ∧ Below w1.heap.size w1 wr

set_option maxRecDepth 1000000 in
set_option maxHeartbeats 4000000 in
theorem placeOrder_any (s : ByteArray) (a b : Int) (w : World) (hs : s.size ≤ 1099511627776) :
    Calls Try.prog 6 #[.string s, .int .i64 a, .int .i64 b] w fun e w' => e = .returned (.bool true) ∧ Below w.heap.size w w' := by
  have H : Hid _ := new_any s w hs
  have HST : Hid _ := started_any
  have HS : Hid _ := hs
  clear hs
  go_enter Try.func6, Try.ntmps6
  go_wp2_with fail
  refine Calls.mono H.out ?_
  rintro e w1 ⟨bi, T, rfl, hI, hb⟩
  have HI : Hid _ := hI
  have B1 : Hid _ := hb
  clear hI hb H
  go_wp2_with fail
  refine (HST.out _).mono ?_
  rintro e w2 ⟨rfl, hb⟩
  have HI2 : Hid _ := HI.out.mono hb
  have B2 : Hid (Below w.heap.size w w2) := below_trans B1.out hb
  clear hb HI B1 HST
  go_upto_if 23 with fail
  go_cut [1, 2] from 24 (fun v1 v2 wc => ∃ lo hi : Int, v1 = .int .i64 lo ∧ v2 = .int .i64 hi ∧ lo ≤ hi ∧ wc = w2)
  case first =>
    by_cases hab : b < a
    · go_wp2_with fail
      go_meet
      exact ⟨b, a, rfl, rfl, by omega, rfl⟩
    · go_wp2_with fail
      go_meet
      exact ⟨a, b, rfl, rfl, by omega, rfl⟩
  case rest =>
    obtain ⟨lo, hi, rfl, rfl, hlh, rfl⟩ := hcut
    obtain ⟨t1, j1, x1, q1, e1, a1, a2, a3⟩ := HI2.out.find lo
    obtain ⟨t2, j2, x2, q2, e2, b1, b2, b3⟩ := HI2.out.find hi
    have ht : t1 ≤ t2 := by
      have := cl_mono (m := (s.size : Int)) hlh (by omega)
      omega
    have ho := rows_order HI2.out.rw ht e1 e2 a1 b2
    have CP1 : Hid (∀ W, Below wc.heap.size wc W → Calls Try.prog 14 #[.pointer (some ⟨bi, 0, none⟩), .int .i64 lo] W fun e w' => e = .returned (.agg #[.int .i64 (j1 : Int), .int .i64 ((t1 - x1.1.1 : Nat) : Int)]) ∧ Below W.heap.size W w') := fun W hW => pos_any bi s T lo t1 j1 x1 W (HI2.out.mono hW) q1 e1 a1 a2
    have CP2 : Hid (∀ W, Below wc.heap.size wc W → Calls Try.prog 14 #[.pointer (some ⟨bi, 0, none⟩), .int .i64 hi] W fun e w' => e = .returned (.agg #[.int .i64 (j2 : Int), .int .i64 ((t2 - x2.1.1 : Nat) : Int)]) ∧ Below W.heap.size W w') := fun W hW => pos_any bi s T hi t2 j2 x2 W (HI2.out.mono hW) q2 e2 b1 b2
    have CW1 : Hid (∀ W, Below wc.heap.size wc W → Calls Try.prog 19 #[.pointer (some ⟨bi, 0, none⟩), .int .i64 lo] W fun e w' => e = .returned (.agg #[.int .i64 (j1 : Int), .int .i64 ((lastB (s.extract x1.1.1 x1.1.2) (winAt ((t1 - x1.1.1 : Nat) : Int))).2 : Int)]) ∧ Below W.heap.size W w') := fun W hW => wide_any bi s T lo t1 j1 x1 W (HI2.out.mono hW) q1 e1 a1 a2
    have CW2 : Hid (∀ W, Below wc.heap.size wc W → Calls Try.prog 19 #[.pointer (some ⟨bi, 0, none⟩), .int .i64 hi] W fun e w' => e = .returned (.agg #[.int .i64 (j2 : Int), .int .i64 ((lastB (s.extract x2.1.1 x2.1.2) (winAt ((t2 - x2.1.1 : Nat) : Int))).2 : Int)]) ∧ Below W.heap.size W w') := fun W hW => wide_any bi s T hi t2 j2 x2 W (HI2.out.mono hW) q2 e2 b1 b2
    have hle1 := wide_le (s.extract x1.1.1 x1.1.2) (t1 - x1.1.1)
    have o1 : (j1 : Int) < (j2 : Int) ∨ ((j1 : Int) = (j2 : Int) ∧ ((t1 - x1.1.1 : Nat) : Int) ≤ ((t2 - x2.1.1 : Nat) : Int)) := by
      rcases ho with h | ⟨h, rfl⟩
      · left; omega
      · right; omega
    have o2 : (j1 : Int) < (j2 : Int) ∨ ((j1 : Int) = (j2 : Int) ∧ ((lastB (s.extract x1.1.1 x1.1.2) (winAt ((t1 - x1.1.1 : Nat) : Int))).2 : Int) ≤ ((lastB (s.extract x2.1.1 x2.1.2) (winAt ((t2 - x2.1.1 : Nat) : Int))).2 : Int)) := by
      rcases ho with h | ⟨h, rfl⟩
      · left; omega
      · right
        have := wide_mono (s.extract x1.1.1 x1.1.2) (t1 - x1.1.1) (t2 - x1.1.1) (by omega)
        omega
    generalize (lastB (s.extract x1.1.1 x1.1.2) (winAt ((t1 - x1.1.1 : Nat) : Int))).2 = u1 at *
    generalize (lastB (s.extract x2.1.1 x2.1.2) (winAt ((t2 - x2.1.1 : Nat) : Int))).2 = u2 at *
    generalize t1 - x1.1.1 = c1 at *
    generalize t2 - x2.1.1 = c2 at *
    have CB1 : Hid _ := fun W => before_any (j1 : Int) (c1 : Int) (j2 : Int) (c2 : Int) W o1
    have CB2 : Hid _ := fun W => before_any (j1 : Int) (u1 : Int) (j2 : Int) (u2 : Int) W o2
    have hf1 := fun (x y : Int) (W : World) => fld33_1 x y W
    have hcu : decide (c1 < u1) = false := by rw [decide_eq_false_iff_not]; omega
    have hcu2 : u1 ≤ c1 := by omega
    clear ho o1 o2 q1 q2 e1 e2 a1 a2 a3 b1 b2 b3 ht hle1 hlh
    go_wp2_with fail
    refine (CP1.out _ (Below.refl _ _)).mono ?_
    rintro e w3 ⟨rfl, hb⟩
    have D3 : Hid (Below wc.heap.size wc w3) := hb
    clear hb
    go_wp2_with fail
    refine (CP2.out _ D3.out).mono ?_
    rintro e w4 ⟨rfl, hb⟩
    have D4 : Hid (Below wc.heap.size wc w4) := below_trans D3.out hb
    clear hb
    go_wp2_with fail
    refine (CB1.out _).mono ?_
    rintro e w5 ⟨rfl, hb⟩
    have D5 : Hid (Below wc.heap.size wc w5) := below_trans D4.out hb
    clear hb
    go_wp2_with fail
    refine (CW1.out _ D5.out).mono ?_
    rintro e w6 ⟨rfl, hb⟩
    have D6 : Hid (Below wc.heap.size wc w6) := below_trans D5.out hb
    clear hb
    go_wp2_with fail
    refine (CW2.out _ D6.out).mono ?_
    rintro e w7 ⟨rfl, hb⟩
    have D7 : Hid (Below wc.heap.size wc w7) := below_trans D6.out hb
    clear hb
    go_wp2_with fail
    refine (CB2.out _).mono ?_
    rintro e w8 ⟨rfl, hb⟩
    have D8 : Hid (Below wc.heap.size wc w8) := below_trans D7.out hb
    clear hb
    go_wp2_with fail
    refine (CW1.out _ D8.out).mono ?_
    rintro e w9 ⟨rfl, hb⟩
    have D9 : Hid (Below wc.heap.size wc w9) := below_trans D8.out hb
    clear hb
    go_wp2_with fail
    refine (CP1.out _ D9.out).mono ?_
    rintro e w10 ⟨rfl, hb⟩
    have D10 : Hid (Below wc.heap.size wc w10) := below_trans D9.out hb
    clear hb D3 D4 D5 D6 D7 D8 D9 CP1 CP2 CW1 CW2 CB1 CB2
    go_wp2_with fail
    go_loopg [8, 9] T.length (fun gk p i wr => Gone wc s T gk p i wr)
    case atStart =>
      refine ⟨0, 0, rfl, rfl, Nat.zero_le _, fun x hx => ?_, fun h => ?_, by omega, D10.out⟩
      · exact (HI2.out.rw.first _ (map_get hx)).symm
      · have := HI2.out.rw.pos
        simp at this
        omega
    case round =>
      obtain ⟨m, p, rfl, rfl, hmt, hmp, hme, hgk, hbw⟩ := hrel
      have hlen := HI2.out.rw.len
      have hS := HS.out
      simp only [List.length_map] at hlen
      have C12 : Hid (∀ W, Below wr.heap.size wr W → Calls Try.prog 12 #[.pointer (some ⟨bi, 0, none⟩)] W fun e w' => e = .returned (.int .i64 (T.length : Int)) ∧ W = w') := fun W hW => rows_any bi s T W (HI2.out.mono (below_trans hbw hW))
      by_cases hm : m < T.length
      · obtain ⟨x, hx⟩ := getT hm
        have hpx := hmp x hx
        have C10 : Hid _ := row_some bi s T m x wr (HI2.out.mono hbw) hx
        have hle := HI2.out.rw.le _ _ (map_get hx)
        have hfree := HI2.out.rw.free _ _ (map_get hx)
        have HFR : Hid _ := hfree
        have hlast : x.1.2 < s.size → m + 1 < T.length ∧ s.get! x.1.2 = 10 := fun h => by
          have hn : m + 1 < T.length := by
            rcases Nat.lt_or_ge (m + 1) T.length with hh | hh
            · exact hh
            · have := HI2.out.rw.last x.1 (by rw [List.length_map, show T.length - 1 = m by omega]; exact map_get hx)
              omega
          obtain ⟨y, hy⟩ := getT hn
          exact ⟨hn, (HI2.out.rw.step _ _ _ (map_get hx) (map_get hy)).2⟩
        have hnext : ∀ y, T[m + 1]? = some y → x.1.2 + 1 = y.1.1 := fun y hy => ((HI2.out.rw.step _ _ _ (map_get hx) (map_get hy)).1).symm
        have hlst : m + 1 = T.length → x.1.2 = s.size := fun h => HI2.out.rw.last x.1 (by rw [List.length_map, show T.length - 1 = m by omega]; exact map_get hx)
        have hmore : m + 1 < T.length → x.1.2 < s.size := fun h => by
          obtain ⟨y, hy⟩ := getT h
          have h1 := (HI2.out.rw.step _ _ _ (map_get hx) (map_get hy)).1
          have h2 := HI2.out.rw.le _ _ (map_get hy)
          omega
        have HN : Hid (∀ y, T[m + 1]? = some y → x.1.2 + 1 = y.1.1) := hnext
        have HLS : Hid (m + 1 = T.length → x.1.2 = s.size) := hlst
        have HK : Hid _ := hgk
        have HBW : Hid _ := hbw
        obtain ⟨⟨f, t⟩, v⟩ := x
        simp only at *
        subst hpx
        have hft : p ≤ t := hle.2.1
        have hts : t ≤ s.size := hle.2.2
        clear hmp hme hgk hbw hle hfree hnext hlst hx
        have hms : m ≤ s.size := by omega
        have wr1 : IntKind.i64.wrap ((m : Int) + 1) = (m : Int) + 1 := by rw [IntKind.wrap_i64]; omega
        have d1 : decide ((t : Int) < (p : Int)) = false := by rw [decide_eq_false_iff_not]; omega
        have d2 : decide ((s.size : Int) < (t : Int)) = false := by rw [decide_eq_false_iff_not]; omega
        have HD : Hid (decide ((m : Int) + 1 < (T.length : Int)) = decide (t < s.size)) := by
          show _ = _
          by_cases h : t < s.size
          · rw [decide_eq_true h, decide_eq_true_eq]
            have := (hlast h).1
            omega
          · rw [decide_eq_false h, decide_eq_false_iff_not]
            intro h2
            exact h (hmore (by omega))
        have HLT : Hid (t < s.size → s.get! t = 10) := fun h => (hlast h).2
        clear hlast hmore
        go_wp2_with fail
        refine (C12.out _ (Below.refl _ _)).mono ?_
        rintro e w' ⟨rfl, rfl⟩
        go_wp2_with fail
        refine Calls.mono C10.out ?_
        rintro e w11 ⟨rfl, hb⟩
        have BW : Hid (Below wr.heap.size wr (w11.alloc (.cells #[.int .i64 (p : Int), .int .i64 (t : Int)] 25))) := below_trans hb (bel_up _ _)
        have CQ : Hid (∀ n, Calls Try.prog 12 #[.pointer (some ⟨bi, 0, none⟩)] ((w11.alloc (.cells #[.int .i64 (p : Int), .int .i64 (t : Int)] 25)).drewN n) fun e w' => e = .returned (.int .i64 (T.length : Int)) ∧ (w11.alloc (.cells #[.int .i64 (p : Int), .int .i64 (t : Int)] 25)).drewN n = w') := fun n => C12.out _ (below_drewN BW.out n)
        clear hb C10
        obtain ⟨z0, z1⟩ := cells2 w11 (.int .i64 (p : Int)) (.int .i64 (t : Int)) 25
        generalize hWq : w11.alloc (.cells #[.int .i64 (p : Int), .int .i64 (t : Int)] 25) = Wq at *
        have HWQ : Hid _ := hWq
        clear hWq
        go_wp2_with fail
        rw [HWQ.out]
        by_cases hlt2 : t < s.size
        · have b1 : decide ((m : Int) + 1 < (T.length : Int)) = true := by rw [HD.out]; exact decide_eq_true hlt2
          have b2 : decide ((t : Int) < (s.size : Int)) = true := by rw [decide_eq_true_eq]; omega
          have b3 : decide (t < s.size) = true := by exact decide_eq_true hlt2
          go_quiet ((go_at_call 12; exact quiet_same (CQ.out _)))
          have BQ : Hid (Below wr.heap.size wr (Wq.drewN nq)) := below_drewN BW.out nq
          have z0' : (Wq.drewN nq).cell? ⟨w11.heap.size, 0, none⟩ = some (.int .i64 (p : Int)) := z0
          have z1' : (Wq.drewN nq).cell? ⟨w11.heap.size, 1, none⟩ = some (.int .i64 (t : Int)) := z1
          clear z0 z1 CQ BW
          generalize Wq.drewN nq = Wr at *
          go_wp2_with fail
          go_loopg [12] (t - p) (fun gk k wr' => ∃ q : Nat, k = .int .i64 (q : Int) ∧ p ≤ q ∧ q ≤ t ∧ gk = t - q ∧ wr' = Wr)
          case atStart => exact ⟨p, rfl, Nat.le_refl _, hft, rfl, rfl⟩
          case round =>
            obtain ⟨q, rfl, g1, g2, gk2, rfl⟩ := hrel
            have HK2 : Hid _ := gk2
            clear gk2
            have hqs : q ≤ 1099511627776 := by omega
            by_cases hq : q < t
            · have hix := idx_fact s q (by omega)
              have hc := no_nl s q (HFR.out q g1 hq)
              go_wp2_with fail
              go_roundg (t - (q + 1))
              case measure => have := HK2.out; omega
              case rel => exact ⟨q + 1, by simp, by omega, by omega, rfl, rfl⟩
            · have hix := idx_fact s t hlt2
              have hc := is_nl s t (HLT.out hlt2)
              have hc2 : (((s.get! t).toNat : Int) != 10) = false := by rw [bne, hc]; rfl
              go_wp2_with fail
              go_roundg (T.length - (m + 1))
              case measure => have := HK.out; omega
              case rel => exact ⟨m + 1, t + 1, by simp, by simp, by omega, fun y hy => HN.out y hy, fun h => by have := HLS.out h; omega, rfl, below_trans HBW.out BQ.out⟩
        · have b1 : decide ((m : Int) + 1 < (T.length : Int)) = false := by rw [HD.out]; exact decide_eq_false hlt2
          have b2 : decide ((t : Int) < (s.size : Int)) = false := by rw [decide_eq_false_iff_not]; omega
          have b3 : decide (t < s.size) = false := by exact decide_eq_false hlt2
          go_quiet ((go_at_call 12; exact quiet_same (CQ.out _)))
          have BQ : Hid (Below wr.heap.size wr (Wq.drewN nq)) := below_drewN BW.out nq
          have z0' : (Wq.drewN nq).cell? ⟨w11.heap.size, 0, none⟩ = some (.int .i64 (p : Int)) := z0
          have z1' : (Wq.drewN nq).cell? ⟨w11.heap.size, 1, none⟩ = some (.int .i64 (t : Int)) := z1
          clear z0 z1 CQ BW
          generalize Wq.drewN nq = Wr at *
          go_wp2_with fail
          go_loopg [12] (t - p) (fun gk k wr' => ∃ q : Nat, k = .int .i64 (q : Int) ∧ p ≤ q ∧ q ≤ t ∧ gk = t - q ∧ wr' = Wr)
          case atStart => exact ⟨p, rfl, Nat.le_refl _, hft, rfl, rfl⟩
          case round =>
            obtain ⟨q, rfl, g1, g2, gk2, rfl⟩ := hrel
            have HK2 : Hid _ := gk2
            clear gk2
            have hqs : q ≤ 1099511627776 := by omega
            by_cases hq : q < t
            · have hix := idx_fact s q (by omega)
              have hc := no_nl s q (HFR.out q g1 hq)
              go_wp2_with fail
              go_roundg (t - (q + 1))
              case measure => have := HK2.out; omega
              case rel => exact ⟨q + 1, by simp, by omega, by omega, rfl, rfl⟩
            · go_wp2_with fail
              go_roundg (T.length - (m + 1))
              case measure => have := HK.out; omega
              case rel => exact ⟨m + 1, t + 1, by simp, by simp, by omega, fun y hy => HN.out y hy, fun h => by have := HLS.out h; omega, rfl, below_trans HBW.out BQ.out⟩
      · have hmT : m = T.length := by omega
        have hpe := hme hmT
        subst hpe
        subst hmT
        have HBW : Hid _ := hbw
        clear hmp hme hgk hbw
        go_wp2_with fail
        refine (C12.out _ (Below.refl _ _)).mono ?_
        rintro e w' ⟨rfl, rfl⟩
        go_wp2_with fail
        go_ret
        exact ⟨by simp, below_trans B2.out HBW.out⟩

end Go.Proofs.Ytbhlaheidlnppaa
