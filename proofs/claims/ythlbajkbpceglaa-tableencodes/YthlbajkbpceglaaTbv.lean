import Derived.Test.YthlbajkbpceglaaTba
namespace Go.Proofs.Ythlbajkbpceglaa
open Go.RowKit Go.Maps

theorem vl_step (l : List Ak) (k : Nat) : vl l (k + 1) = if k < 64 ∧ (l.getD k akd).1 ≠ 0 then vl l k ||| 2 ^ k else vl l k := rfl
theorem sh_wrap (i : Nat) (h : i < 64) : IntKind.u64.wrap (2 ^ i) = ((2 ^ i : Nat) : Int) := by
  rw [u64_wrap _ (by have : (0 : Int) < 2 ^ i := Int.pow_pos (by decide); omega) (by
    have h2 : (2 : Nat) ^ i < 2 ^ 64 := Nat.pow_lt_pow_right (by decide) h
    have h3 : ((2 ^ i : Nat) : Int) < ((2 ^ 64 : Nat) : Int) := by exact_mod_cast h2
    simpa using h3)]
  simp
set_option maxRecDepth 100000 in
set_option maxHeartbeats 8000000 in
theorem valid_any {v0 v1 : Value} {A : List (Value × List Ak)} {G : List (Value × List Int)} (s : Int) (w : World) (h : Tb w v0 v1 A G) (hs : Ts A G) :
    Calls Try.prog 6 #[.agg #[v0, v1], .int .i64 s] w fun e w' => e = .returned (.int .u64 (vld (A.map Prod.snd) s)) ∧ Below w.heap.size w w' := by
  have HT : Hid (Tb w v0 v1 A G) := h
  have HS : Hid (Ts A G) := hs
  obtain ⟨a0, c0, a1, c1, rfl, rfl⟩ := h.form
  clear h hs
  obtain ⟨n, hn⟩ : ∃ n, A.length = n := ⟨_, rfl⟩
  have HN : Hid (A.length = n) := hn
  rw [hn] at HT ⊢
  clear hn
  by_cases h0 : s < 0
  · have e1 : decide (s < 0) = true := by rw [decide_eq_true_eq]; exact h0
    have HV : Hid (vld (A.map Prod.snd) s = 0) := by show _ = _; unfold vld; rw [if_neg (by omega)]
    go_enter Try.func6, Try.ntmps6
    go_wp2_with fail
    go_ret
    exact ⟨by rw [HV.out]; rfl, bel_up _ _⟩
  · obtain ⟨k, rfl⟩ : ∃ k : Nat, s = (k : Int) := ⟨s.toNat, by omega⟩
    have e1 : decide ((k : Int) < 0) = false := by rw [decide_eq_false_iff_not]; omega
    clear h0
    by_cases h1 : k < n
    · have e2 : decide ((n : Int) ≤ (k : Int)) = false := by rw [decide_eq_false_iff_not]; omega
      have e3 : decide (n ≤ k) = false := by rw [decide_eq_false_iff_not]; omega
      have e4 : (k : Int) < (n : Int) := by omega
      obtain ⟨g, o, cap, a, c, q0, q1, q2, q3⟩ := HT.out.a.at k (by rw [HN.out]; exact h1)
      obtain ⟨rfl, -, rfl⟩ := Value.slice.inj q0
      have HSZ : Hid ((A.getD k nrd).2.length * 16 + 4096 ≤ 140737488355328) := HS.out.ra _ (getD_mem A nrd k (by rw [HN.out]; exact h1))
      have HV : Hid (vld (A.map Prod.snd) (k : Int) = vl (A.getD k nrd).2 (A.getD k nrd).2.length) := by
        show _ = _
        unfold vld
        rw [if_pos ⟨by omega, by rw [List.length_map, HN.out]; omega⟩, Int.toNat_natCast, snd_getD]
      rw [HV.out]
      clear HV
      obtain ⟨l, hl⟩ : ∃ l, (A.getD k nrd).2 = l := ⟨_, rfl⟩
      rw [hl] at q2 q3 HSZ ⊢
      obtain ⟨m, hm⟩ : ∃ m, l.length = m := ⟨_, rfl⟩
      have HM : Hid (l.length = m) := hm
      rw [hm] at q2 q3 HSZ ⊢
      have HR : Hid (Rw w (.slice a m c) m (flat af l)) := q3
      have HC : Hid (w.cell? ⟨g, o + k, none⟩ = some (.slice a m c)) := q2
      clear hm hl q0 q1 q2 q3
      have k1 := cell_up (.cells #[.slice (some ⟨g, o, none⟩) n c0, .slice a1 G.length c1] 25) HC.out
      go_enter Try.func6, Try.ntmps6
      go_wp2_with fail
      have HB1 : Hid (Below w.heap.size w (w.alloc (.cells #[.slice (some ⟨g, o, none⟩) n c0, .slice a1 G.length c1] 25))) := bel_up _ _
      clear k1
      go_loopg [5, 23] m (fun gm v5 v23 wr => ∃ i : Nat, v5 = .int .u64 (vl l i) ∧ v23 = .int .i64 (i : Int) ∧ Hid (Below w.heap.size w wr) ∧ Hid (i ≤ m ∧ gm = m - i))
      case atStart => exact ⟨0, rfl, rfl, HB1, ⟨Nat.zero_le _, rfl⟩⟩
      case round =>
        obtain ⟨i, rfl, rfl, HBW, HI⟩ := hrel
        by_cases hi : i < m
        · obtain ⟨g2, o2, cap2, e0, hc⟩ := HR.out.place (by omega)
          obtain ⟨rfl, -, rfl⟩ := Value.slice.inj e0
          obtain ⟨q0, q1⟩ := af_get l i (by rw [HM.out]; exact hi)
          have k1 := below_cell HBW.out (hc _ _ q0)
          have k2 := below_cell HBW.out (hc _ _ q1)
          rw [← Nat.add_assoc] at k2
          have HV1 : Hid (vl l (i + 1) = if i < 64 ∧ (l.getD i akd).1 ≠ 0 then vl l i ||| 2 ^ i else vl l i) := vl_step l i
          obtain ⟨x, hx⟩ : ∃ x, l.getD i akd = x := ⟨_, rfl⟩
          rw [hx] at k1 k2 HV1
          obtain ⟨x1, x2⟩ := x
          dsimp only at k1 k2
          have HV2 : Hid (vl l (i + 1) = if i < 64 ∧ x1 ≠ 0 then vl l i ||| 2 ^ i else vl l i) := HV1.out
          have e1 : decide ((i : Int) < (m : Int)) = true := by rw [decide_eq_true_eq]; omega
          have e2 : decide (i < m) = true := by rw [decide_eq_true_eq]; omega
          have e5 : (i : Int) < (m : Int) := by omega
          have e6 : i < m := hi
          have HIL : Hid (i < m) := hi
          have hwr := w64n i (by have := HSZ.out; have := HIL.out; omega)
          have HNX : Hid (m - (i + 1) < m - i) := by show _ < _; omega
          clear hi e0 hc q0 q1 hx HV1
          by_cases h64 : i < 64
          · have e7 : decide ((i : Int) < 64) = true := by rw [decide_eq_true_eq]; omega
            have e8 : decide (i < 64) = true := by rw [decide_eq_true_eq]; omega
            by_cases hz : x1 = 0
            · have e9 : (x1 != 0) = false := by rw [hz]; rfl
              have HV3 : Hid (vl l (i + 1) = vl l i) := by show _ = _; rw [HV2.out, if_neg (by rw [hz]; simp)]
              clear h64 hz HV2
              go_wp2_with fail
              go_roundg (m - (i + 1))
              case measure => have := HI.out; have := HIL.out; omega
              case rel => exact ⟨i + 1, by rw [HV3.out], by first | rfl | (rw [show (i : Int) + 1 = ((i + 1 : Nat) : Int) by omega]), below_trans HBW.out (bel_up _ _), ⟨HIL.out, rfl⟩⟩
            · have e9 : (x1 != 0) = true := by simpa using hz
              have HV3 : Hid (vl l (i + 1) = vl l i ||| 2 ^ i) := by show _ = _; rw [HV2.out, if_pos ⟨h64, hz⟩]
              have hmin : min i 64 = i := Nat.min_eq_left (by omega)
              have HSH : Hid (IntKind.u64.wrap (2 ^ min i 64) = ((2 ^ i : Nat) : Int)) := by rw [hmin]; exact sh_wrap i h64
              have HOR : Hid (bits .or .u64 (vl l i : Int) ((2 ^ i : Nat) : Int) = ((vl l (i + 1) : Nat) : Int)) := by
                show _ = _
                rw [u64_or _ _ (vl_lt l i) (Nat.pow_lt_pow_right (by decide) h64), HV3.out]
              clear h64 hz HV2 hmin
              go_wp2_with fail
              rw [HSH.out, HOR.out]
              go_roundg (m - (i + 1))
              case measure => have := HI.out; have := HIL.out; omega
              case rel => exact ⟨i + 1, rfl, by first | rfl | (rw [show (i : Int) + 1 = ((i + 1 : Nat) : Int) by omega]), below_trans HBW.out (bel_up _ _), ⟨HIL.out, rfl⟩⟩
          · have e7 : decide ((i : Int) < 64) = false := by rw [decide_eq_false_iff_not]; omega
            have e8 : decide (i < 64) = false := by rw [decide_eq_false_iff_not]; omega
            have HV3 : Hid (vl l (i + 1) = vl l i) := by show _ = _; rw [HV2.out, if_neg (by omega)]
            clear h64 HV2
            go_wp2_with fail
            go_roundg (m - (i + 1))
            case measure => have := HI.out; have := HIL.out; omega
            case rel => exact ⟨i + 1, by rw [HV3.out], by first | rfl | (rw [show (i : Int) + 1 = ((i + 1 : Nat) : Int) by omega]), below_trans HBW.out (bel_up _ _), ⟨HIL.out, rfl⟩⟩
        · have e1 : decide ((i : Int) < (m : Int)) = false := by rw [decide_eq_false_iff_not]; omega
          have e2 : decide (i < m) = false := by rw [decide_eq_false_iff_not]; omega
          have HIN : Hid (i = m) := by have := HI.out; show i = m; omega
          clear hi
          go_wp2_with fail
          go_ret
          exact ⟨ret_int (by rw [show i = m from HIN.out]), HBW.out⟩
    · have e2 : decide ((n : Int) ≤ (k : Int)) = true := by rw [decide_eq_true_eq]; omega
      have e3 : decide (n ≤ k) = true := by rw [decide_eq_true_eq]; omega
      have HV : Hid (vld (A.map Prod.snd) (k : Int) = 0) := by show _ = _; unfold vld; rw [if_neg (by rw [List.length_map, HN.out]; omega)]
      go_enter Try.func6, Try.ntmps6
      go_wp2_with fail
      go_ret
      exact ⟨by rw [HV.out]; rfl, bel_up _ _⟩
set_option maxRecDepth 100000 in
set_option maxHeartbeats 8000000 in
theorem rvalid_any {v0 v1 : Value} {A : List (Value × List Ak)} {G : List (Value × List Int)} (s : Int) (w : World) (h : Tb w v0 v1 A G) (hs : Ts A G) :
    Calls Try.prog 7 #[.agg #[v0, v1], .int .i64 s] w fun e w' => e = .returned (.int .u64 (vld (A.map Prod.snd) s)) ∧ Below w.heap.size w w' := by
  have HT : Hid (Tb w v0 v1 A G) := h
  have HS : Hid (Ts A G) := hs
  obtain ⟨a0, c0, a1, c1, rfl, rfl⟩ := h.form
  clear h hs
  obtain ⟨n, hn⟩ : ∃ n, A.length = n := ⟨_, rfl⟩
  have HN : Hid (A.length = n) := hn
  rw [hn] at HT ⊢
  clear hn
  by_cases h0 : s < 0
  · have e1 : decide (s < 0) = true := by rw [decide_eq_true_eq]; exact h0
    have HV : Hid (vld (A.map Prod.snd) s = 0) := by show _ = _; unfold vld; rw [if_neg (by omega)]
    go_enter Try.func7, Try.ntmps7
    go_wp2_with fail
    go_ret
    exact ⟨by rw [HV.out]; rfl, bel_up _ _⟩
  · obtain ⟨k, rfl⟩ : ∃ k : Nat, s = (k : Int) := ⟨s.toNat, by omega⟩
    have e1 : decide ((k : Int) < 0) = false := by rw [decide_eq_false_iff_not]; omega
    clear h0
    by_cases h1 : k < n
    · have e2 : decide ((n : Int) ≤ (k : Int)) = false := by rw [decide_eq_false_iff_not]; omega
      have e3 : decide (n ≤ k) = false := by rw [decide_eq_false_iff_not]; omega
      have e4 : (k : Int) < (n : Int) := by omega
      obtain ⟨g, o, cap, a, c, q0, q1, q2, q3⟩ := HT.out.a.at k (by rw [HN.out]; exact h1)
      obtain ⟨rfl, -, rfl⟩ := Value.slice.inj q0
      have HSZ : Hid ((A.getD k nrd).2.length * 16 + 4096 ≤ 140737488355328) := HS.out.ra _ (getD_mem A nrd k (by rw [HN.out]; exact h1))
      have HV : Hid (vld (A.map Prod.snd) (k : Int) = vl (A.getD k nrd).2 (A.getD k nrd).2.length) := by
        show _ = _
        unfold vld
        rw [if_pos ⟨by omega, by rw [List.length_map, HN.out]; omega⟩, Int.toNat_natCast, snd_getD]
      rw [HV.out]
      clear HV
      obtain ⟨l, hl⟩ : ∃ l, (A.getD k nrd).2 = l := ⟨_, rfl⟩
      rw [hl] at q2 q3 HSZ ⊢
      obtain ⟨m, hm⟩ : ∃ m, l.length = m := ⟨_, rfl⟩
      have HM : Hid (l.length = m) := hm
      rw [hm] at q2 q3 HSZ ⊢
      have HR : Hid (Rw w (.slice a m c) m (flat af l)) := q3
      have HC : Hid (w.cell? ⟨g, o + k, none⟩ = some (.slice a m c)) := q2
      clear hm hl q0 q1 q2 q3
      have k1 := cell_up (.cells #[.slice (some ⟨g, o, none⟩) n c0, .slice a1 G.length c1] 25) HC.out
      go_enter Try.func7, Try.ntmps7
      go_upto_region 5 with fail
      have HB1 : Hid (Below w.heap.size w (w.alloc (.cells #[.slice (some ⟨g, o, none⟩) n c0, .slice a1 G.length c1] 25))) := bel_up _ _
      have HX : Hid ((w.alloc (.cells #[.slice (some ⟨g, o, none⟩) n c0, .slice a1 G.length c1] 25)).heap[w.heap.size]? = some (.cells #[.slice (some ⟨g, o, none⟩) n c0, .slice a1 G.length c1] 25 (0, 0))) := heap_new _ _
      clear k1
      go_loopg [5, 6] m (fun gm v5 v6 wr => ∃ i : Nat, v5 = .int .u64 (vl l i) ∧ v6 = .int .i64 (i : Int) ∧ Hid (Below w.heap.size w wr) ∧ Hid (i ≤ m ∧ gm = m - i) ∧ Hid (wr.heap[w.heap.size]? = some (.cells #[.slice (some ⟨g, o, none⟩) n c0, .slice a1 G.length c1] 25 (0, 0))))
      case atStart => exact ⟨0, rfl, rfl, HB1, ⟨Nat.zero_le _, rfl⟩, HX⟩
      case round =>
        clear HX HB1
        obtain ⟨i, rfl, rfl, HBW, HI, HX⟩ := hrel
        have b0 := rcell HX.out 0 _ rfl
        have b1 := below_cell HBW.out HC.out
        by_cases hi : i < m
        · obtain ⟨g2, o2, cap2, e0, hc⟩ := HR.out.place (by omega)
          obtain ⟨rfl, -, rfl⟩ := Value.slice.inj e0
          obtain ⟨q0, q1⟩ := af_get l i (by rw [HM.out]; exact hi)
          have k1 := below_cell HBW.out (hc _ _ q0)
          have HV1 : Hid (vl l (i + 1) = if i < 64 ∧ (l.getD i akd).1 ≠ 0 then vl l i ||| 2 ^ i else vl l i) := vl_step l i
          obtain ⟨x, hx⟩ : ∃ x, l.getD i akd = x := ⟨_, rfl⟩
          rw [hx] at k1 HV1
          obtain ⟨x1, x2⟩ := x
          dsimp only at k1
          have HV2 : Hid (vl l (i + 1) = if i < 64 ∧ x1 ≠ 0 then vl l i ||| 2 ^ i else vl l i) := HV1.out
          have e1 : decide ((i : Int) < (m : Int)) = true := by rw [decide_eq_true_eq]; omega
          have e2 : decide (i < m) = true := by rw [decide_eq_true_eq]; omega
          have e5 : (i : Int) < (m : Int) := by omega
          have e6 : i < m := hi
          have HIL : Hid (i < m) := hi
          have hwr := w64n i (by have := HSZ.out; have := HIL.out; omega)
          clear hi e0 hc q0 q1 hx HV1
          by_cases h64 : i < 64
          · have e7 : decide ((i : Int) < 64) = true := by rw [decide_eq_true_eq]; omega
            have e8 : decide (i < 64) = true := by rw [decide_eq_true_eq]; omega
            by_cases hz : x1 = 0
            · have e9 : (x1 != 0) = false := by rw [hz]; rfl
              have HV3 : Hid (vl l (i + 1) = vl l i) := by show _ = _; rw [HV2.out, if_neg (by rw [hz]; simp)]
              clear h64 hz HV2
              go_wp2_with fail
              go_roundg (m - (i + 1))
              case measure => have := HI.out; have := HIL.out; omega
              case rel => exact ⟨i + 1, by rw [HV3.out], by first | rfl | (rw [show (i : Int) + 1 = ((i + 1 : Nat) : Int) by omega]), HBW, ⟨HIL.out, rfl⟩, HX⟩
            · have e9 : (x1 != 0) = true := by simpa using hz
              have HV3 : Hid (vl l (i + 1) = vl l i ||| 2 ^ i) := by show _ = _; rw [HV2.out, if_pos ⟨h64, hz⟩]
              have hmin : min i 64 = i := Nat.min_eq_left (by omega)
              have HSH : Hid (IntKind.u64.wrap (2 ^ min i 64) = ((2 ^ i : Nat) : Int)) := by rw [hmin]; exact sh_wrap i h64
              have HOR : Hid (bits .or .u64 (vl l i : Int) ((2 ^ i : Nat) : Int) = ((vl l (i + 1) : Nat) : Int)) := by
                show _ = _
                rw [u64_or _ _ (vl_lt l i) (Nat.pow_lt_pow_right (by decide) h64), HV3.out]
              have hcv : IntKind.u64.wrap (i : Int) = (i : Int) := u64_wrap _ (by omega) (by omega)
              clear h64 hz HV2 hmin
              go_wp2_with fail
              rw [HSH.out, HOR.out]
              go_roundg (m - (i + 1))
              case measure => have := HI.out; have := HIL.out; omega
              case rel => exact ⟨i + 1, rfl, by first | rfl | (rw [show (i : Int) + 1 = ((i + 1 : Nat) : Int) by omega]), HBW, ⟨HIL.out, rfl⟩, HX⟩
          · have e7 : decide ((i : Int) < 64) = false := by rw [decide_eq_false_iff_not]; omega
            have e8 : decide (i < 64) = false := by rw [decide_eq_false_iff_not]; omega
            have HV3 : Hid (vl l m = vl l i) := by show _ = _; rw [vl_past l m (by have := HIL.out; omega), vl_past l i (by omega)]
            clear h64 HV2
            go_wp2_with fail
            go_ret
            exact ⟨ret_int (by rw [HV3.out]), HBW.out⟩
        · have e1 : decide ((i : Int) < (m : Int)) = false := by rw [decide_eq_false_iff_not]; omega
          have e2 : decide (i < m) = false := by rw [decide_eq_false_iff_not]; omega
          have HIN : Hid (i = m) := by have := HI.out; show i = m; omega
          clear hi
          go_wp2_with fail
          go_ret
          exact ⟨ret_int (by rw [show i = m from HIN.out]), HBW.out⟩
    · have e2 : decide ((n : Int) ≤ (k : Int)) = true := by rw [decide_eq_true_eq]; omega
      have e3 : decide (n ≤ k) = true := by rw [decide_eq_true_eq]; omega
      have HV : Hid (vld (A.map Prod.snd) (k : Int) = 0) := by show _ = _; unfold vld; rw [if_neg (by rw [List.length_map, HN.out]; omega)]
      go_enter Try.func7, Try.ntmps7
      go_wp2_with fail
      go_ret
      exact ⟨by rw [HV.out]; rfl, bel_up _ _⟩
end Go.Proofs.Ythlbajkbpceglaa
