import Derived.Test.YteaanieohcanlaaDoorPlc
import Derived.Test.YteaanieohcanlaaDoorAlk
namespace Go.Proofs.YteaanieohcanlaaDoor
open Go.RowKit Go.Maps

theorem cutR_of {s : ByteArray} {r : Sum (Nat × Nat) (List Wd)} (hz : s.size ≤ 16384) (h : cut 0 s.data.toList = r) : cutR s = r := by
  unfold cutR
  rw [if_neg (by omega)]
  exact h
theorem cutR_inv {s : ByteArray} {ws : List Wd} (h : cutR s = .inr ws) : s.size ≤ 16384 ∧ cut 0 s.data.toList = .inr ws := by
  unfold cutR at h
  by_cases hz : 16384 < s.size
  · rw [if_pos hz] at h; cases h
  · rw [if_neg hz] at h
    exact ⟨by omega, h⟩
theorem flat_of {s : ByteArray} {ws : List Wd} (h : cutR s = .inr ws) : wl s = ws ∧ cc s = 0 ∧ oo s = 0 := by
  unfold wl cc oo
  rw [h]
  exact ⟨rfl, rfl, rfl⟩
/-- What the law asks of each word. -/
structure Pw (s : ByteArray) (ws : List Wd) (i p q : Nat) : Prop where
  a : (ws.getD i w0).a = (p : Int)
  n : i + 1 < ws.length → (ws.getD (i + 1) w0).a = (q : Int)
  l : i + 1 = ws.length → q = s.size
  lt : p < q
  le : q ≤ s.size
  c : cutR (s.extract p q) = .inr [nop (ws.getD i w0)]
theorem pw_all {s : ByteArray} {ws : List Wd} (h : cutR s = .inr ws) (i : Nat) (hi : i < ws.length) : ∃ p q, Pw s ws i p q := by
  obtain ⟨hz, hc⟩ := cutR_inv h
  obtain ⟨p, q, h1, h2, h3, h4, h5, h6⟩ := (cut_plc _ _ _ _ (Nat.le_refl _) hc).w i hi
  rw [lst_siz] at h3 h5
  refine ⟨p, q, ?_, ?_, h3, h4, h5, ?_⟩
  · rw [h1, Nat.zero_add]
  · intro h; rw [h2 h, Nat.zero_add]
  · refine cutR_of (by rw [ext_size s p q h5]; omega) ?_
    rw [ext_list]
    exact h6
theorem pw_first {s : ByteArray} {ws : List Wd} (h : cutR s = .inr ws) : ∃ f, f ≤ s.size ∧ (0 < ws.length → (ws.getD 0 w0).a = (f : Int)) ∧ (ws.length = 0 → f = s.size) ∧ cutR (s.extract 0 f) = .inr [] := by
  obtain ⟨hz, hc⟩ := cutR_inv h
  have hp := cut_plc _ _ _ _ (Nat.le_refl _) hc
  have h1 := hp.f
  have h2 := hp.n 0
  rw [lst_siz] at h1 h2
  refine ⟨fst ws 0 s.size, h1, ?_, ?_, ?_⟩
  · intro h0
    obtain ⟨p, q, h3, _⟩ := hp.w 0 h0
    rw [h3]
    cases ws with
    | nil => cases h0
    | cons x r =>
      have h4 : x.a = ((0 + p : Nat) : Int) := h3
      show _ = (((x.a.toNat - 0 : Nat)) : Int)
      omega
  · intro h0
    cases ws with
    | nil => rfl
    | cons x r => simp at h0
  · refine cutR_of (by rw [ext_size s 0 _ h1]; omega) ?_
    rw [ext_list, List.drop_zero, Nat.sub_zero]
    exact h2

set_option maxRecDepth 100000 in
set_option maxHeartbeats 8000000 in
theorem wordsPlaces_any (s : ByteArray) (w : World) : Calls Tryd.prog 4 #[.string s] w fun e w' => e = .returned (.bool true) ∧ Below w.heap.size w w' := by
  go_enter Tryd.func4, Tryd.ntmps4
  go_wp2_with fail
  refine (started_any w).mono ?_
  rintro e w1 ⟨rfl, b1⟩
  have B1 : Hid (Below w.heap.size w w1) := b1
  clear b1
  go_wp2_with fail
  refine (wcut_any s w1).mono ?_
  rintro e w2 ⟨he, b2⟩
  obtain ⟨v1, rfl, h1⟩ := he.flat
  have H1 : Hid (Wow w1.heap.size w2 v1 (wl s)) := h1
  have B2 : Hid (Below w.heap.size w w2) := below_trans B1.out b2
  obtain ⟨a1, q1, hv1⟩ := row_shape h1
  subst hv1
  clear he h1 b2
  cases hcs : cutR s with
  | inl p =>
    obtain ⟨c, o⟩ := p
    have hc0 := cutR_code hcs
    have e1 : cc s = (c : Int) := by unfold cc; rw [hcs]
    rw [e1]
    have n1 : ((c : Int) != 0) = true := by simpa using hc0
    have n2 : (c != 0) = true := by simpa using hc0
    clear hcs hc0 e1
    go_wp2_with fail
    go_ret
    exact ⟨rfl, B2.out⟩
  | inr ws =>
    obtain ⟨e1, e2, e3⟩ := flat_of hcs
    have hlw := wl_len s
    rw [e2]
    rw [e1] at H1 hlw ⊢
    have HCS : Hid (cutR s = .inr ws) := hcs
    have HLW : Hid (ws.length ≤ 16384) := hlw
    have HZ : Hid (s.size ≤ 16384) := (cutR_inv hcs).1
    obtain ⟨_, g, o, cap, ea, hcap, _, sa, ha⟩ := row_rw H1.out
    obtain ⟨rfl, -, rfl⟩ := Value.slice.inj ea
    have HSA : Hid (0 < ws.length → a1 = some ⟨g, o, none⟩) := sa
    have HC : Hid (∀ j u, (wC ws)[j]? = some u → w2.cell? ⟨g, o + j, none⟩ = some u) := ha
    have HCP : Hid (ws.length ≤ q1) := hcap
    clear e1 e2 e3 hcs hlw ea sa ha hcap
    go_wp2_with fail
    go_loopg [6] ws.length (fun gm v6 wr => ∃ i : Nat, v6 = .int .i64 (i : Int) ∧ Hid (i ≤ ws.length ∧ gm = ws.length - i) ∧ Hid (Below w2.heap.size w2 wr))
    case atStart => exact ⟨0, rfl, ⟨Nat.zero_le _, rfl⟩, Below.refl _ _⟩
    case round =>
      obtain ⟨i, rfl, HI, HB⟩ := hrel
      by_cases hi : i < ws.length
      · have f1 : decide ((i : Int) < (ws.length : Int)) = true := by rw [decide_eq_true_eq]; omega
        have f2 : decide (i < ws.length) = true := by rw [decide_eq_true_eq]; omega
        have f3 : (i : Int) < (ws.length : Int) := by omega
        have r1 := HSA.out (by omega)
        subst r1
        have HIL : Hid (i < ws.length) := hi
        obtain ⟨p, q, hpw⟩ := pw_all HCS.out i hi
        obtain ⟨p0, p1, p2, p3⟩ := wC_get ws i hi
        have t3 := below_cell HB.out (HC.out _ _ p3)
        rw [← Nat.add_assoc, hpw.a] at t3
        have HPW : Hid (Pw s ws i p q) := hpw
        have HPV : Hid (0 < i → ∃ p', p' < p ∧ wr.cell? ⟨g, o + (i - 1) * 4 + 3, none⟩ = some (.int .i64 (p' : Int))) := fun h0 => by
          obtain ⟨p', q', hp'⟩ := pw_all HCS.out (i - 1) (by omega)
          obtain ⟨_, _, _, m3⟩ := wC_get ws (i - 1) (by omega)
          have m4 := below_cell HB.out (HC.out _ _ m3)
          rw [← Nat.add_assoc, hp'.a] at m4
          have h5 := hp'.n (by omega)
          rw [show i - 1 + 1 = i by omega, hpw.a] at h5
          have := hp'.lt
          exact ⟨p', by omega, m4⟩
        have hwi := w64n i (by have := HLW.out; omega)
        obtain ⟨i1, hi1⟩ : ∃ i1, i + 1 = i1 := ⟨_, rfl⟩
        have HI1 : Hid (i + 1 = i1) := hi1
        rw [hi1] at hwi
        have HTO : Hid (i1 < ws.length → wr.cell? ⟨g, o + i1 * 4 + 3, none⟩ = some (.int .i64 (q : Int))) := fun h => by
          obtain ⟨_, _, _, m3⟩ := wC_get ws i1 h
          have m4 := below_cell HB.out (HC.out _ _ m3)
          rw [← Nat.add_assoc, ← hi1, hpw.n (by omega)] at m4
          rw [← hi1]
          exact m4
        have HTE : Hid (¬ i1 < ws.length → q = s.size) := fun h => hpw.l (by omega)
        clear hi hpw p0 p1 p2 p3 hi1
        go_upto_if 37 with fail
        go_cut [7] from 25 to 119 (fun v7 wd => v7 = .int .i64 (q : Int) ∧ wd = wr)
        case first =>
          by_cases hn : i1 < ws.length
          · have g1 : decide ((i1 : Int) < (ws.length : Int)) = true := by rw [decide_eq_true_eq]; omega
            have g2 : decide (i1 < ws.length) = true := by rw [decide_eq_true_eq]; omega
            have g3 : (i1 : Int) < (ws.length : Int) := by omega
            have tn := HTO.out hn
            go_wp2_with fail
            go_meet
            exact ⟨rfl, rfl⟩
          · have g1 : decide ((i1 : Int) < (ws.length : Int)) = false := by rw [decide_eq_false_iff_not]; omega
            have g2 : decide (i1 < ws.length) = false := by rw [decide_eq_false_iff_not]; omega
            have HQ : Hid (q = s.size) := HTE.out hn
            have hn2 : ws.length ≤ i1 := by omega
            go_wp2_with fail
            go_meet
            exact ⟨by rw [HQ.out], rfl⟩
        case rest =>
          obtain ⟨rfl, rfl⟩ := hcut
          have l1 : decide ((p : Int) < 0) = false := by rw [decide_eq_false_iff_not]; omega
          have l2 : decide ((q : Int) ≤ (p : Int)) = false := by have := HPW.out.lt; rw [decide_eq_false_iff_not]; omega
          have l3 : decide (q ≤ p) = false := by have := HPW.out.lt; rw [decide_eq_false_iff_not]; omega
          have l4 : decide ((s.size : Int) < (q : Int)) = false := by have := HPW.out.le; rw [decide_eq_false_iff_not]; omega
          have l5 : decide (s.size < q) = false := by have := HPW.out.le; rw [decide_eq_false_iff_not]; omega
          go_upto_region 12 with fail
          go_cut [82] from 25 to 119 (fun v82 wd => v82 = .bool false ∧ Hid (Below w2.heap.size w2 wd))
          case first =>
            by_cases h0 : i = 0
            · subst h0
              go_quiet (fail)
              have HB5 : Hid (Below wc.heap.size wc (wc.drewN nq)) := below_drewN (Below.refl _ _) _
              generalize wc.drewN nq = W5 at HB5
              go_wp2_with fail
              go_meet
              exact ⟨rfl, below_trans HB.out HB5.out⟩
            · obtain ⟨p', hp', m4⟩ := HPV.out (by omega)
              obtain ⟨j0, hj0⟩ : ∃ j0, i - 1 = j0 := ⟨_, rfl⟩
              rw [hj0] at m4
              have hwj : IntKind.i64.wrap ((i : Int) - 1) = (j0 : Int) := by have := HLW.out; have := HIL.out; rw [IntKind.wrap_i64]; omega
              have j1 : (j0 : Int) < (ws.length : Int) := by have := HIL.out; omega
              have j2 : j0 < ws.length := by have := HIL.out; omega
              have j3 : decide ((0 : Int) < (i : Int)) = true := by rw [decide_eq_true_eq]; omega
              have j4 : decide (0 < i) = true := by rw [decide_eq_true_eq]; omega
              have j5 : decide ((p : Int) ≤ (p' : Int)) = false := by rw [decide_eq_false_iff_not]; omega
              have j6 : decide (p ≤ p') = false := by rw [decide_eq_false_iff_not]; omega
              clear h0 hp' hj0
              go_quiet (fail)
              have HB5 : Hid (Below wc.heap.size wc (wc.drewN nq)) := below_drewN (Below.refl _ _) _
              generalize wc.drewN nq = W5 at HB5
              go_wp2_with fail
              go_meet
              exact ⟨rfl, below_trans HB.out HB5.out⟩
          case rest =>
            obtain ⟨rfl, HB6⟩ := hcut
            clear t3 l1 l2 l3 l4 l5 HB
            obtain ⟨p0, p1, p2, p3⟩ := wC_get ws i HIL.out
            have t3 := below_cell HB6.out (HC.out _ _ p3)
            rw [← Nat.add_assoc, HPW.out.a] at t3
            obtain ⟨T, hT⟩ : ∃ T, s.extract p q = T := ⟨_, rfl⟩
            have hTc := HPW.out.c
            rw [hT] at hTc
            have s0 : (0 : Int) ≤ (p : Int) := by omega
            have s1 : (p : Int) ≤ (q : Int) := by have := HPW.out.lt; omega
            have s2 : (q : Int) ≤ (s.size : Int) := by have := HPW.out.le; omega
            have s3 : p ≤ q := by have := HPW.out.lt; omega
            have s4 : q ≤ s.size := by have := HPW.out.le; omega
            obtain ⟨x, hx⟩ : ∃ x, ws.getD i w0 = x := ⟨_, rfl⟩
            rw [hx] at hTc
            have HX : Hid (ws.getD i w0 = x) := hx
            have HTC : Hid (cutR T = .inr [nop x]) := hTc
            clear p0 p1 p2 p3 hTc hx
            go_wp2_with fail
            refine (wcut_any T wc).mono ?_
            rintro e w5 ⟨he, b5⟩
            obtain ⟨v5, rfl, h5⟩ := he.flat
            obtain ⟨e1, e2, e3⟩ := flat_of HTC.out
            rw [e2, e3]
            rw [e1] at h5
            have H5 : Hid (Wow wc.heap.size w5 v5 [nop x]) := h5
            have HB7 : Hid (Below w2.heap.size w2 w5) := below_trans HB6.out b5
            obtain ⟨g5, cap5, hv5, _, _, _⟩ := row_form h5 (by simp)
            subst hv5
            have c3 : w5.cell? ⟨g5, 3, none⟩ = some (.int .i64 0) := by rw [H5.out.cellAt 3 (by simp)]; rfl
            have HR5 : Hid (Rw w5 (.slice (some ⟨g5, 0, none⟩) 1 cap5) [nop x].length (wC [nop x])) := row_rw h5
            have hlen5 : [nop x].length = 1 := rfl
            rw [hlen5]
            clear he h5 b5 e1 e2 e3 hlen5 t3 s0 s1 s2 s3 s4 hT
            have y0 : (0 : Int) ≤ (i : Int) := by omega
            have y1 : (i : Int) ≤ (i1 : Int) := by have := HI1.out; omega
            have y2 : (i1 : Int) ≤ (q1 : Int) := by have := HI1.out; have := HIL.out; have := HCP.out; omega
            have y3 : i ≤ i1 := by have := HI1.out; omega
            have y4 : i1 ≤ q1 := by have := HI1.out; have := HIL.out; have := HCP.out; omega
            have y5 : i < q1 := by have := HIL.out; have := HCP.out; omega
            have y6 : ¬ q1 = i := by omega
            have y7 : ¬ q1 - i = 0 := by omega
            have y8 : ¬ q1 ≤ i := by omega
            have y9 : i1 - i = 1 := by have := HI1.out; omega
            have HRX : Hid (Rw w5 (.slice (some ⟨g, o + i * 4, none⟩) 1 (q1 - i)) [x].length (wC [x])) := by
              obtain ⟨p0, p1, p2, p3⟩ := wC_get ws i HIL.out
              rw [HX.out] at p0 p1 p2 p3
              refine ⟨_, g, o + i * 4, q1 - i, rfl, by show 1 ≤ _; omega, (fun h => by cases h), fun _ => rfl, fun j u hu => ?_⟩
              have hj : j < 4 := (List.getElem?_eq_some_iff.1 hu).1
              rw [Nat.add_assoc]
              refine below_cell HB7.out (HC.out (i * 4 + j) u ?_)
              obtain rfl | rfl | rfl | rfl : j = 0 ∨ j = 1 ∨ j = 2 ∨ j = 3 := by omega
              · rw [Nat.add_zero, p0]; exact hu
              · rw [p1]; exact hu
              · rw [p2]; exact hu
              · rw [p3]; exact hu
            go_wp2_with fail
            refine (alike_any [nop x] [x] w5 HR5.out HRX.out (by simp)).mono ?_
            rintro e w6 ⟨rfl, b6⟩
            rw [decide_eq_true (by rfl)]
            have HB8 : Hid (Below w2.heap.size w2 w6) := below_trans HB7.out b6
            clear b6
            go_wp2_with fail
            go_roundg (ws.length - i1)
            case measure => have := HI.out; have := HIL.out; have := HI1.out; omega
            case rel => exact ⟨i1, rfl, ⟨by have := HIL.out; have := HI1.out; omega, rfl⟩, HB8⟩
      · have f1 : decide ((i : Int) < (ws.length : Int)) = false := by rw [decide_eq_false_iff_not]; omega
        have f2 : decide (i < ws.length) = false := by rw [decide_eq_false_iff_not]; omega
        obtain ⟨f, h1, h2, h3, h4⟩ := pw_first HCS.out
        obtain ⟨T, hT⟩ : ∃ T, s.extract 0 f = T := ⟨_, rfl⟩
        rw [hT] at h4
        have HTC : Hid (cutR T = .inr []) := h4
        have s2 : (f : Int) ≤ (s.size : Int) := by omega
        have s4 : f ≤ s.size := h1
        have s5 : (0 : Int) ≤ (f : Int) := by omega
        clear hi HI
        by_cases h0 : ws.length = 0
        · have hf := h3 h0
          have g1 : decide ((0 : Int) < (ws.length : Int)) = false := by rw [decide_eq_false_iff_not]; omega
          have g2 : decide (0 < ws.length) = false := by rw [decide_eq_false_iff_not]; omega
          rw [hf] at hT s2 s4 s5
          clear h0 h1 h2 h3 h4 hf
          go_wp2_with fail
          refine (wcut_any T wr).mono ?_
          rintro e w5 ⟨he, b5⟩
          obtain ⟨v5, rfl, h5⟩ := he.flat
          obtain ⟨e1, e2, e3⟩ := flat_of HTC.out
          rw [e2]
          rw [e1] at h5
          obtain ⟨a5, c5, hv5⟩ := row_shape h5
          subst hv5
          have HB7 : Hid (Below w.heap.size w w5) := below_trans (below_trans B2.out HB.out) b5
          clear he h5 b5 e1 e2 e3
          go_wp2_with fail
          go_ret
          exact ⟨rfl, HB7.out⟩
        · have hp : 0 < ws.length := by omega
          have ha := h2 hp
          have g1 : decide ((0 : Int) < (ws.length : Int)) = true := by rw [decide_eq_true_eq]; omega
          have g2 : decide (0 < ws.length) = true := by rw [decide_eq_true_eq]; omega
          have g3 : (0 : Int) < (ws.length : Int) := by omega
          have r1 := HSA.out hp
          subst r1
          obtain ⟨p0, p1, p2, p3⟩ := wC_get ws 0 hp
          have t3 := below_cell HB.out (HC.out _ _ p3)
          rw [ha, show o + (0 * 4 + 3) = o + 3 by omega] at t3
          clear h0 h1 h2 h3 h4 ha p0 p1 p2 p3
          go_wp2_with fail
          refine (wcut_any T wr).mono ?_
          rintro e w5 ⟨he, b5⟩
          obtain ⟨v5, rfl, h5⟩ := he.flat
          obtain ⟨e1, e2, e3⟩ := flat_of HTC.out
          rw [e2]
          rw [e1] at h5
          obtain ⟨a5, c5, hv5⟩ := row_shape h5
          subst hv5
          have HB7 : Hid (Below w.heap.size w w5) := below_trans (below_trans B2.out HB.out) b5
          clear he h5 b5 e1 e2 e3
          go_wp2_with fail
          go_ret
          exact ⟨rfl, HB7.out⟩
end Go.Proofs.YteaanieohcanlaaDoor
