import Derived.Test.YthfijmabagjdkaaQtj
import Derived.BigQuiet
namespace Go.Proofs.Ythfijmabagjdkaa.Qy
open Go.RowKit Go.Maps

set_option maxRecDepth 100000 in
theorem equal_pn (x : Pn) (W : World) : (Op.equalIn 10000 46 (.agg #[.string x.nm, .bool x.lit, .string x.fd, .string x.cp, .int .i64 x.kd]) (.agg #[.string x.nm, .bool x.lit, .string x.fd, .string x.cp, .int .i64 x.kd])).run Try.prog W = .ok true W := by
  go_simp
set_option maxRecDepth 100000 in
theorem equal_cd (x : Cd) (W : World) : (Op.equalIn 10000 48 (.agg #[.bool x.nt, .string x.a, .string x.b, .string x.tx]) (.agg #[.bool x.nt, .string x.a, .string x.b, .string x.tx])).run Try.prog W = .ok true W := by
  go_simp
set_option maxRecDepth 100000 in
set_option maxHeartbeats 8000000 in
/-- Same of two queries that are the same. -/
theorem same_q {va ca vb cb : Value} {l : List Pn} {cs : List Cd} (w : World) (ha : Ps w va l) (hc : Cs w ca cs) (hb : Ps w vb l) (hd : Cs w cb cs) (hl : l.length * 64 ≤ 140737488355328) (hm : cs.length * 56 ≤ 140737488355328) : Calls Try.prog 7 #[.agg #[va, ca], .agg #[vb, cb]] w fun e w' => e = .returned (.bool true) ∧ Below w.heap.size w w' := by
  obtain ⟨W1, hW1⟩ : ∃ W1, W1 = w.alloc (.cells #[va, ca] 25) := ⟨_, rfl⟩
  obtain ⟨W2, hW2⟩ : ∃ W2, W2 = W1.alloc (.cells #[vb, cb] 25) := ⟨_, rfl⟩
  have HB1 : Hid (Below w.heap.size w W1) := by rw [hW1]; exact bel_up _ _
  have HB12 : Hid (Below W1.heap.size W1 W2) := by rw [hW2]; exact bel_up _ _
  have HB2 : Hid (Below w.heap.size w W2) := below_trans HB1.out HB12.out
  obtain ⟨b1, hb1⟩ : ∃ b1, w.heap.size = b1 := ⟨_, rfl⟩
  obtain ⟨b2, hb2⟩ : ∃ b2, W1.heap.size = b2 := ⟨_, rfl⟩
  have hq1 : W2.heap[b1]? = some (.cells #[va, ca] 25 (0, 0)) := by
    have h9 : W1.heap[b1]? = some (.cells #[va, ca] 25 (0, 0)) := by rw [hW1, ← hb1]; exact heap_new w _
    exact (HB12.out.block _ (lt_of_heap h9)).trans h9
  have hq2 : W2.heap[b2]? = some (.cells #[vb, cb] 25 (0, 0)) := by rw [hW2, ← hb2]; exact heap_new W1 _
  have HA : Hid (Ps w va l) := ha
  have HC : Hid (Cs w ca cs) := hc
  have HBb : Hid (Ps w vb l) := hb
  have HD : Hid (Cs w cb cs) := hd
  obtain ⟨aa, ac, hva⟩ := ha.form
  obtain ⟨ka, kc, hca⟩ := hc.form
  obtain ⟨ba, bc, hvb⟩ := hb.form
  obtain ⟨da, dc, hcb⟩ := hd.form
  obtain ⟨n, hn⟩ : ∃ n, l.length = n := ⟨_, rfl⟩
  obtain ⟨m, hm1⟩ : ∃ m, cs.length = m := ⟨_, rfl⟩
  rw [hn] at hva hvb
  rw [hm1] at hca hcb
  have HN : Hid (l.length = n ∧ n * 64 ≤ 140737488355328) := ⟨hn, by rw [← hn]; exact hl⟩
  have HM : Hid (cs.length = m ∧ m * 56 ≤ 140737488355328) := ⟨hm1, by rw [← hm1]; exact hm⟩
  subst hva hca hvb hcb
  have HQ : Hid (∀ W, Below w.heap.size w W → True) := fun _ _ => trivial
  have HQ1 : Hid (∀ W, Below W2.heap.size W2 W → W.cell? ⟨b1, 0, none⟩ = some (.slice aa n ac) ∧ W.cell? ⟨b1, 1, none⟩ = some (.slice ka m kc) ∧ W.cell? ⟨b2, 0, none⟩ = some (.slice ba n bc) ∧ W.cell? ⟨b2, 1, none⟩ = some (.slice da m dc)) := fun W hW => ⟨below_cell hW (rcell hq1 0 _ rfl), below_cell hW (rcell hq1 1 _ rfl), below_cell hW (rcell hq2 0 _ rfl), below_cell hW (rcell hq2 1 _ rfl)⟩
  obtain ⟨q1, q2, q3, q4⟩ := HQ1.out W2 (Below.refl _ _)
  have f1 : ((n : Int) != (n : Int)) = false := by simp
  have f2 : ((m : Int) != (m : Int)) = false := by simp
  clear ha hc hb hd hl hm hn hm1 hq1 hq2 HQ
  go_enter Try.func7, Try.ntmps7
  go_upto_region 1 with fail
  have h3 : W1.heap.size = b1 + 1 := by rw [hW1, ← hb1]; simp
  have h4 : b2 = b1 + 1 := by rw [← hb2]; exact h3
  rw [← hW1, ← hW2, ← h4]
  clear hW1 hW2 hb1 hb2 h3 h4
  go_upto_region 4 with fail
  clear q1 q2 q3 q4
  go_loopg [5] n (fun gm v5 wr => ∃ i : Nat, v5 = .int .i64 (i : Int) ∧ Hid (i ≤ n ∧ gm = n - i) ∧ Hid (Below W2.heap.size W2 wr))
  case atStart => exact ⟨0, rfl, ⟨Nat.zero_le _, rfl⟩, Below.refl _ _⟩
  case round =>
    obtain ⟨i, rfl, HI, HB⟩ := hrel
    obtain ⟨q1, q2, q3, q4⟩ := HQ1.out wr HB.out
    by_cases hi : i < n
    · have e1 : decide ((i : Int) < (n : Int)) = true := by rw [decide_eq_true_eq]; omega
      have e2 : decide (i < n) = true := by rw [decide_eq_true_eq]; omega
      have g1 : (i : Int) < (n : Int) := by omega
      have g2 : i < n := hi
      have HIM : Hid (i < n) := hi
      have hwi := w64n i (by have := HN.out; omega)
      have hil : i < l.length := by rw [HN.out.1]; exact hi
      obtain ⟨g, o, rfl, c0, c1, c2, c3, c4⟩ := (HA.out.up (below_trans HB2.out HB.out)).all i hil
      obtain ⟨g', o', rfl, d0, d1, d2, d3, d4⟩ := (HBb.out.up (below_trans HB2.out HB.out)).all i hil
      obtain ⟨x, hx⟩ : ∃ x, l.getD i pz = x := ⟨_, rfl⟩
      rw [hx] at c0 c1 c2 c3 c4 d0 d1 d2 d3 d4
      have hE := equal_pn x
      clear hi hil hx
      go_upto_region 6 with fail
      go_quiet (fail)
      have HB9 : Hid (Below W2.heap.size W2 (wr.drewN nq)) := below_drewN HB.out _
      generalize wr.drewN nq = W9 at HB9 ⊢
      clear c0 c1 c2 c3 c4 d0 d1 d2 d3 d4 q1 q2 q3 q4 hE
      go_wp2_with fail
      go_roundg (n - (i + 1))
      case measure => have := HI.out; have := HIM.out; omega
      case rel => exact ⟨i + 1, by first | rfl | (rw [show (i : Int) + 1 = ((i + 1 : Nat) : Int) by omega]), ⟨HIM.out, rfl⟩, HB9⟩
    · have e1 : decide ((i : Int) < (n : Int)) = false := by rw [decide_eq_false_iff_not]; omega
      have e2 : decide (i < n) = false := by rw [decide_eq_false_iff_not]; omega
      clear hi
      go_upto_region 9 with fail
      clear q1 q2 q3 q4 e1 e2
      obtain ⟨wo, hwo⟩ : ∃ wo, wo = wr := ⟨_, rfl⟩
      rw [← hwo] at HB ⊢
      clear hwo
      have HBO : Hid (Below W2.heap.size W2 wo) := HB.out
      clear HI HB
      go_loopg [6] m (fun gm v6 wr => ∃ i : Nat, v6 = .int .i64 (i : Int) ∧ Hid (i ≤ m ∧ gm = m - i) ∧ Hid (Below W2.heap.size W2 wr))
      case atStart => exact ⟨0, rfl, ⟨Nat.zero_le _, rfl⟩, HBO⟩
      case round =>
        obtain ⟨i, rfl, HI, HB⟩ := hrel
        obtain ⟨q1, q2, q3, q4⟩ := HQ1.out wr HB.out
        by_cases hi : i < m
        · have e1 : decide ((i : Int) < (m : Int)) = true := by rw [decide_eq_true_eq]; omega
          have e2 : decide (i < m) = true := by rw [decide_eq_true_eq]; omega
          have g1 : (i : Int) < (m : Int) := by omega
          have g2 : i < m := hi
          have HIM : Hid (i < m) := hi
          have hwi := w64n i (by have := HM.out; omega)
          have hil : i < cs.length := by rw [HM.out.1]; exact hi
          obtain ⟨g, o, rfl, c0, c1, c2, c3⟩ := (HC.out.up (below_trans HB2.out HB.out)).all i hil
          obtain ⟨g', o', rfl, d0, d1, d2, d3⟩ := (HD.out.up (below_trans HB2.out HB.out)).all i hil
          obtain ⟨x, hx⟩ : ∃ x, cs.getD i cz = x := ⟨_, rfl⟩
          rw [hx] at c0 c1 c2 c3 d0 d1 d2 d3
          have hE := equal_cd x
          clear hi hil hx
          go_upto_region 11 with fail
          go_quiet (fail)
          have HB9 : Hid (Below W2.heap.size W2 (wr.drewN nq)) := below_drewN HB.out _
          generalize wr.drewN nq = W9 at HB9 ⊢
          clear c0 c1 c2 c3 d0 d1 d2 d3 q1 q2 q3 q4 hE
          go_wp2_with fail
          go_roundg (m - (i + 1))
          case measure => have := HI.out; have := HIM.out; omega
          case rel => exact ⟨i + 1, by first | rfl | (rw [show (i : Int) + 1 = ((i + 1 : Nat) : Int) by omega]), ⟨HIM.out, rfl⟩, HB9⟩
        · have e1 : decide ((i : Int) < (m : Int)) = false := by rw [decide_eq_false_iff_not]; omega
          have e2 : decide (i < m) = false := by rw [decide_eq_false_iff_not]; omega
          clear hi
          go_wp2_with fail
          go_ret
          exact ⟨rfl, below_trans HB2.out HB.out⟩
end Go.Proofs.Ythfijmabagjdkaa.Qy
