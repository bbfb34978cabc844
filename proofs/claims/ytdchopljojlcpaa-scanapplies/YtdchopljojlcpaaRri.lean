import Derived.Test.YtdchopljojlcpaaRrh
namespace Go.Proofs.Ytdchopljojlcpaa
open Go.RowKit Go.Maps

set_option maxRecDepth 100000 in
set_option maxHeartbeats 16000000 in
theorem sameRules_any {ve vi vt va ue ui ut ua : Value} {r : Rul} {bx bz : Nat} (w : World) (hx : Rlm w ve vi vt va r) (hy : Rlm w ue ui ut ua r) (kx : w.heap[bx]? = some (.cells (rvC ve vi vt va r) 28 (0, 0))) (ky : w.heap[bz]? = some (.cells (rvC ue ui ut ua r) 28 (0, 0))) (hz : Rsz r) :
    Calls Try.prog 21 #[.slice (some ⟨bx, 0, none⟩) 1 1, .slice (some ⟨bz, 0, none⟩) 1 1] w fun e w' => e = .returned (.bool true) ∧ Below w.heap.size w w' := by
  have HX : Hid _ := hx
  have HY : Hid _ := hy
  have HZ : Hid _ := hz
  obtain ⟨a1, c1, a2, c2, a3, c3, a4, c4, rfl, rfl, rfl, rfl⟩ := hx.form
  obtain ⟨e1, f1, e2, f2, e3, f3, e4, f4, rfl, rfl, rfl, rfl⟩ := hy.form
  have KX : Hid _ := kx
  have KY : Hid _ := ky
  clear hx hy hz kx ky
  go_enter Try.func21, Try.ntmps21
  go_upto_region 4 with fail
  go_loopg [5] 1 (fun gl v5 wr => (v5 = .int .i64 0 ∧ wr = w ∧ gl = 1) ∨ (v5 = .int .i64 1 ∧ gl = 0 ∧ Hid (Below w.heap.size w wr)))
  case atStart => exact Or.inl ⟨rfl, rfl, rfl⟩
  case round =>
    rcases hrel with ⟨rfl, hwe, hgl⟩ | ⟨rfl, hgl, HB⟩
    · have hwe' := hwe.symm
      subst hwe'
      have HGL : Hid _ := hgl
      clear hgl
      obtain ⟨p0, p1, p2, p3, p4, p5, p6⟩ := box7 KX.out
      obtain ⟨q0, q1, q2, q3, q4, q5, q6⟩ := box7 (((bel_up w (.cells #[.int .i64 r.trm, .int .i64 r.pat, .slice a1 r.re.length c1, .string r.lit, .slice a2 r.inn.length c2, .slice a3 r.tes.length c3, .slice a4 r.act.length c4] 28)).block _ (lt_of_heap KY.out)).trans KY.out)
      go_upto_region 8 with fail
      clear p0 p1 p2 p3 p4 p5 p6 q0 q1 q2 q3 q4 q5 q6
      obtain ⟨W2, hW2⟩ : ∃ W2, W2 = (w.alloc (.cells #[.int .i64 r.trm, .int .i64 r.pat, .slice a1 r.re.length c1, .string r.lit, .slice a2 r.inn.length c2, .slice a3 r.tes.length c3, .slice a4 r.act.length c4] 28)).alloc (.cells #[.int .i64 r.trm, .int .i64 r.pat, .slice e1 r.re.length f1, .string r.lit, .slice e2 r.inn.length f2, .slice e3 r.tes.length f3, .slice e4 r.act.length f4] 28) := ⟨_, rfl⟩
      have HA : Hid (W2.heap[w.heap.size]? = some (.cells #[.int .i64 r.trm, .int .i64 r.pat, .slice a1 r.re.length c1, .string r.lit, .slice a2 r.inn.length c2, .slice a3 r.tes.length c3, .slice a4 r.act.length c4] 28 (0, 0))) := by rw [hW2, (bel_up _ _).block _ (by simp)]; exact heap_new w _
      have HC : Hid (W2.heap[w.heap.size + 1]? = some (.cells #[.int .i64 r.trm, .int .i64 r.pat, .slice e1 r.re.length f1, .string r.lit, .slice e2 r.inn.length f2, .slice e3 r.tes.length f3, .slice e4 r.act.length f4] 28 (0, 0))) := by
        rw [hW2]
        have := heap_new (w.alloc (.cells #[.int .i64 r.trm, .int .i64 r.pat, .slice a1 r.re.length c1, .string r.lit, .slice a2 r.inn.length c2, .slice a3 r.tes.length c3, .slice a4 r.act.length c4] 28)) (.cells #[.int .i64 r.trm, .int .i64 r.pat, .slice e1 r.re.length f1, .string r.lit, .slice e2 r.inn.length f2, .slice e3 r.tes.length f3, .slice e4 r.act.length f4] 28)
        rw [World.size_alloc] at this
        exact this
      have B2 : Hid (Below w.heap.size w W2) := by rw [hW2]; exact below_trans (bel_up _ _) (bel_up _ _)
      rw [← hW2]
      have HX2 : Hid _ := HX.out.up B2.out
      have HY2 : Hid _ := HY.out.up B2.out
      have HP : Hid (∀ W, Below W2.heap.size W2 W → W.heap[w.heap.size]? = some (.cells #[.int .i64 r.trm, .int .i64 r.pat, .slice a1 r.re.length c1, .string r.lit, .slice a2 r.inn.length c2, .slice a3 r.tes.length c3, .slice a4 r.act.length c4] 28 (0, 0)) ∧ W.heap[w.heap.size + 1]? = some (.cells #[.int .i64 r.trm, .int .i64 r.pat, .slice e1 r.re.length f1, .string r.lit, .slice e2 r.inn.length f2, .slice e3 r.tes.length f3, .slice e4 r.act.length f4] 28 (0, 0))) := fun W hW => ⟨(hW.block _ (lt_of_heap HA.out)).trans HA.out, (hW.block _ (lt_of_heap HC.out)).trans HC.out⟩
      clear hW2 HX HY KX KY HA HC
      obtain ⟨p0, p1, p2, p3, p4, p5, p6⟩ := box7 (HP.out _ (Below.refl _ _)).1
      obtain ⟨q0, q1, q2, q3, q4, q5, q6⟩ := box7 (HP.out _ (Below.refl _ _)).2
      have s0 : (r.trm != r.trm) = false := by rw [bne_eq_false_iff_eq]
      have s1 : (r.pat != r.pat) = false := by rw [bne_eq_false_iff_eq]
      go_upto_region 11 with fail
      clear p0 p1 p2 p3 p4 p5 p6 q0 q1 q2 q3 q4 q5 q6 s0 s1
      go_loopg [8] r.re.length (fun gl vv wr => ∃ i : Nat, vv = .int .i64 (i : Int) ∧ Hid (Below W2.heap.size W2 wr) ∧ Hid (i ≤ r.re.length ∧ gl = r.re.length - i))
      case atStart => exact ⟨0, rfl, Below.refl _ _, ⟨Nat.zero_le _, rfl⟩⟩
      case round =>
        obtain ⟨i, rfl, HBW, HI⟩ := hrel
        obtain ⟨p0, p1, p2, p3, p4, p5, p6⟩ := box7 (HP.out _ HBW.out).1
        obtain ⟨q0, q1, q2, q3, q4, q5, q6⟩ := box7 (HP.out _ HBW.out).2
        obtain ⟨n, hn⟩ : ∃ n, r.re.length = n := ⟨_, rfl⟩
        have HN : Hid (r.re.length = n) := hn
        have HVX : Hid (Rw wr (.slice a1 r.re.length c1) n (flat nf r.re)) := by have h := HX2.out.e.up HBW.out; rw [hn] at h; rw [hn]; exact h
        have HVY : Hid (Rw wr (.slice e1 r.re.length f1) n (flat nf r.re)) := by have h := HY2.out.e.up HBW.out; rw [hn] at h; rw [hn]; exact h
        rw [hn] at HVX HVY p2 q2
        by_cases hi : i < n
        · have hil : i < r.re.length := by omega
          obtain ⟨g, og, cap, x0, hc⟩ := HVX.out.place (by omega)
          obtain ⟨rfl, -, rfl⟩ := Value.slice.inj x0
          obtain ⟨g', og', cap', y0, hd⟩ := HVY.out.place (by omega)
          obtain ⟨rfl, -, rfl⟩ := Value.slice.inj y0
          obtain ⟨⟨op, v0, v1, v2, v3, va, vb⟩, hx⟩ : ∃ x, r.re.getD i (0, 0, 0, 0, 0, 0, 0) = x := ⟨_, rfl⟩
          have cx0 := hc (i * 7 + 0) _ ((flat_get nf_len (0, 0, 0, 0, 0, 0, 0) r.re i 0 hil (by decide)).trans rfl)
          have cy0 := hd (i * 7 + 0) _ ((flat_get nf_len (0, 0, 0, 0, 0, 0, 0) r.re i 0 hil (by decide)).trans rfl)
          have cx1 := hc (i * 7 + 1) _ ((flat_get nf_len (0, 0, 0, 0, 0, 0, 0) r.re i 1 hil (by decide)).trans rfl)
          have cy1 := hd (i * 7 + 1) _ ((flat_get nf_len (0, 0, 0, 0, 0, 0, 0) r.re i 1 hil (by decide)).trans rfl)
          have cx2 := hc (i * 7 + 2) _ ((flat_get nf_len (0, 0, 0, 0, 0, 0, 0) r.re i 2 hil (by decide)).trans rfl)
          have cy2 := hd (i * 7 + 2) _ ((flat_get nf_len (0, 0, 0, 0, 0, 0, 0) r.re i 2 hil (by decide)).trans rfl)
          have cx3 := hc (i * 7 + 3) _ ((flat_get nf_len (0, 0, 0, 0, 0, 0, 0) r.re i 3 hil (by decide)).trans rfl)
          have cy3 := hd (i * 7 + 3) _ ((flat_get nf_len (0, 0, 0, 0, 0, 0, 0) r.re i 3 hil (by decide)).trans rfl)
          have cx4 := hc (i * 7 + 4) _ ((flat_get nf_len (0, 0, 0, 0, 0, 0, 0) r.re i 4 hil (by decide)).trans rfl)
          have cy4 := hd (i * 7 + 4) _ ((flat_get nf_len (0, 0, 0, 0, 0, 0, 0) r.re i 4 hil (by decide)).trans rfl)
          have cx5 := hc (i * 7 + 5) _ ((flat_get nf_len (0, 0, 0, 0, 0, 0, 0) r.re i 5 hil (by decide)).trans rfl)
          have cy5 := hd (i * 7 + 5) _ ((flat_get nf_len (0, 0, 0, 0, 0, 0, 0) r.re i 5 hil (by decide)).trans rfl)
          have cx6 := hc (i * 7 + 6) _ ((flat_get nf_len (0, 0, 0, 0, 0, 0, 0) r.re i 6 hil (by decide)).trans rfl)
          have cy6 := hd (i * 7 + 6) _ ((flat_get nf_len (0, 0, 0, 0, 0, 0, 0) r.re i 6 hil (by decide)).trans rfl)
          rw [hx] at cx0 cy0 cx1 cy1 cx2 cy2 cx3 cy3 cx4 cy4 cx5 cy5 cx6 cy6
          simp only [Nat.add_zero, ← Nat.add_assoc] at cx0 cy0 cx1 cy1 cx2 cy2 cx3 cy3 cx4 cy4 cx5 cy5 cx6 cy6
          have s0 := fun W => nd_neq op v0 v1 v2 v3 va vb W
          clear hx
          have e1' : decide ((i : Int) < (n : Int)) = true := by rw [decide_eq_true_eq]; omega
          have e2' : decide (i < n) = true := by rw [decide_eq_true_eq]; omega
          have e5' : (i : Int) < (n : Int) := by omega
          have hwr := w64n i (by have := HZ.out.e; omega)
          have HIL : Hid (i < n) := hi
          clear x0 y0 hc hd hil hn
          go_wp2_with fail
          go_region
          go_wp2_with fail
          go_roundg (r.re.length - (i + 1))
          case measure => have := HI.out; have := HIL.out; have := HN.out; omega
          case rel => exact ⟨i + 1, by first | rfl | (rw [show (i : Int) + 1 = ((i + 1 : Nat) : Int) by omega]), Below.drew HBW.out, ⟨by have := HIL.out; have := HN.out; omega, rfl⟩⟩
        · have e1' : decide ((i : Int) < (n : Int)) = false := by rw [decide_eq_false_iff_not]; omega
          have e2' : decide (i < n) = false := by rw [decide_eq_false_iff_not]; omega
          clear hi hn HVX HVY
          go_upto_region 16 with fail
          clear p0 p1 p2 p3 p4 p5 p6 q0 q1 q2 q3 q4 q5 q6 e1' e2' HN HI
          have HB0 : Hid _ := HBW
          clear HBW
          go_loopg [9] r.inn.length (fun gl vv wr => ∃ i : Nat, vv = .int .i64 (i : Int) ∧ Hid (Below W2.heap.size W2 wr) ∧ Hid (i ≤ r.inn.length ∧ gl = r.inn.length - i))
          case atStart => exact ⟨0, rfl, HB0.out, ⟨Nat.zero_le _, rfl⟩⟩
          case round =>
            obtain ⟨i, rfl, HBW, HI⟩ := hrel
            obtain ⟨p0, p1, p2, p3, p4, p5, p6⟩ := box7 (HP.out _ HBW.out).1
            obtain ⟨q0, q1, q2, q3, q4, q5, q6⟩ := box7 (HP.out _ HBW.out).2
            obtain ⟨n, hn⟩ : ∃ n, r.inn.length = n := ⟨_, rfl⟩
            have HN : Hid (r.inn.length = n) := hn
            have HVX : Hid (Rw wr (.slice a2 r.inn.length c2) n (iC r.inn)) := by have h := HX2.out.i.up HBW.out; rw [hn] at h; rw [hn]; exact h
            have HVY : Hid (Rw wr (.slice e2 r.inn.length f2) n (iC r.inn)) := by have h := HY2.out.i.up HBW.out; rw [hn] at h; rw [hn]; exact h
            rw [hn] at HVX HVY p4 q4
            by_cases hi : i < n
            · have hil : i < r.inn.length := by omega
              obtain ⟨g, og, cap, x0, hc⟩ := HVX.out.place (by omega)
              obtain ⟨rfl, -, rfl⟩ := Value.slice.inj x0
              obtain ⟨g', og', cap', y0, hd⟩ := HVY.out.place (by omega)
              obtain ⟨rfl, -, rfl⟩ := Value.slice.inj y0
              have cx := hc i _ (iC_get r.inn i hil)
              have cy := hd i _ (iC_get r.inn i hil)
              obtain ⟨x, hx⟩ : ∃ x, r.inn.getD i 0 = x := ⟨_, rfl⟩
              rw [hx] at cx cy
              have s0 : (x != x) = false := by rw [bne_eq_false_iff_eq]
              clear hx
              have e1' : decide ((i : Int) < (n : Int)) = true := by rw [decide_eq_true_eq]; omega
              have e2' : decide (i < n) = true := by rw [decide_eq_true_eq]; omega
              have e5' : (i : Int) < (n : Int) := by omega
              have hwr := w64n i (by have := HZ.out.i; omega)
              have HIL : Hid (i < n) := hi
              clear x0 y0 hc hd hil hn
              go_wp2_with fail
              go_region
              go_wp2_with fail
              go_roundg (r.inn.length - (i + 1))
              case measure => have := HI.out; have := HIL.out; have := HN.out; omega
              case rel => exact ⟨i + 1, by first | rfl | (rw [show (i : Int) + 1 = ((i + 1 : Nat) : Int) by omega]), Below.drew HBW.out, ⟨by have := HIL.out; have := HN.out; omega, rfl⟩⟩
            · have e1' : decide ((i : Int) < (n : Int)) = false := by rw [decide_eq_false_iff_not]; omega
              have e2' : decide (i < n) = false := by rw [decide_eq_false_iff_not]; omega
              clear hi hn HVX HVY
              go_upto_region 21 with fail
              clear p0 p1 p2 p3 p4 p5 p6 q0 q1 q2 q3 q4 q5 q6 e1' e2' HN HI
              have HB1 : Hid _ := HBW
              clear HBW
              go_loopg [10] r.tes.length (fun gl vv wr => ∃ i : Nat, vv = .int .i64 (i : Int) ∧ Hid (Below W2.heap.size W2 wr) ∧ Hid (i ≤ r.tes.length ∧ gl = r.tes.length - i))
              case atStart => exact ⟨0, rfl, HB1.out, ⟨Nat.zero_le _, rfl⟩⟩
              case round =>
                obtain ⟨i, rfl, HBW, HI⟩ := hrel
                obtain ⟨p0, p1, p2, p3, p4, p5, p6⟩ := box7 (HP.out _ HBW.out).1
                obtain ⟨q0, q1, q2, q3, q4, q5, q6⟩ := box7 (HP.out _ HBW.out).2
                obtain ⟨n, hn⟩ : ∃ n, r.tes.length = n := ⟨_, rfl⟩
                have HN : Hid (r.tes.length = n) := hn
                have HVX : Hid (Rw wr (.slice a3 r.tes.length c3) n (flat tf r.tes)) := by have h := HX2.out.t.up HBW.out; rw [hn] at h; rw [hn]; exact h
                have HVY : Hid (Rw wr (.slice e3 r.tes.length f3) n (flat tf r.tes)) := by have h := HY2.out.t.up HBW.out; rw [hn] at h; rw [hn]; exact h
                rw [hn] at HVX HVY p5 q5
                by_cases hi : i < n
                · have hil : i < r.tes.length := by omega
                  obtain ⟨g, og, cap, x0, hc⟩ := HVX.out.place (by omega)
                  obtain ⟨rfl, -, rfl⟩ := Value.slice.inj x0
                  obtain ⟨g', og', cap', y0, hd⟩ := HVY.out.place (by omega)
                  obtain ⟨rfl, -, rfl⟩ := Value.slice.inj y0
                  obtain ⟨⟨v0, v1⟩, hx⟩ : ∃ x, r.tes.getD i (0, 0) = x := ⟨_, rfl⟩
                  have cx0 := hc (i * 2 + 0) _ ((flat_get tf_len (0, 0) r.tes i 0 hil (by decide)).trans rfl)
                  have cy0 := hd (i * 2 + 0) _ ((flat_get tf_len (0, 0) r.tes i 0 hil (by decide)).trans rfl)
                  have cx1 := hc (i * 2 + 1) _ ((flat_get tf_len (0, 0) r.tes i 1 hil (by decide)).trans rfl)
                  have cy1 := hd (i * 2 + 1) _ ((flat_get tf_len (0, 0) r.tes i 1 hil (by decide)).trans rfl)
                  rw [hx] at cx0 cy0 cx1 cy1
                  simp only [Nat.add_zero, ← Nat.add_assoc] at cx0 cy0 cx1 cy1
                  have s0 := fun W => te_neq v0 v1 W
                  clear hx
                  have e1' : decide ((i : Int) < (n : Int)) = true := by rw [decide_eq_true_eq]; omega
                  have e2' : decide (i < n) = true := by rw [decide_eq_true_eq]; omega
                  have e5' : (i : Int) < (n : Int) := by omega
                  have hwr := w64n i (by have := HZ.out.t; omega)
                  have HIL : Hid (i < n) := hi
                  clear x0 y0 hc hd hil hn
                  go_wp2_with fail
                  go_region
                  go_wp2_with fail
                  go_roundg (r.tes.length - (i + 1))
                  case measure => have := HI.out; have := HIL.out; have := HN.out; omega
                  case rel => exact ⟨i + 1, by first | rfl | (rw [show (i : Int) + 1 = ((i + 1 : Nat) : Int) by omega]), Below.drew HBW.out, ⟨by have := HIL.out; have := HN.out; omega, rfl⟩⟩
                · have e1' : decide ((i : Int) < (n : Int)) = false := by rw [decide_eq_false_iff_not]; omega
                  have e2' : decide (i < n) = false := by rw [decide_eq_false_iff_not]; omega
                  clear hi hn HVX HVY
                  go_upto_region 26 with fail
                  clear p0 p1 p2 p3 p4 p5 p6 q0 q1 q2 q3 q4 q5 q6 e1' e2' HN HI
                  have HB2 : Hid _ := HBW
                  clear HBW
                  go_loopg [11] r.act.length (fun gl vv wr => ∃ i : Nat, vv = .int .i64 (i : Int) ∧ Hid (Below W2.heap.size W2 wr) ∧ Hid (i ≤ r.act.length ∧ gl = r.act.length - i))
                  case atStart => exact ⟨0, rfl, HB2.out, ⟨Nat.zero_le _, rfl⟩⟩
                  case round =>
                    obtain ⟨i, rfl, HBW, HI⟩ := hrel
                    obtain ⟨p0, p1, p2, p3, p4, p5, p6⟩ := box7 (HP.out _ HBW.out).1
                    obtain ⟨q0, q1, q2, q3, q4, q5, q6⟩ := box7 (HP.out _ HBW.out).2
                    obtain ⟨n, hn⟩ : ∃ n, r.act.length = n := ⟨_, rfl⟩
                    have HN : Hid (r.act.length = n) := hn
                    have HVX : Hid (Rw wr (.slice a4 r.act.length c4) n (flat af r.act)) := by have h := HX2.out.a.up HBW.out; rw [hn] at h; rw [hn]; exact h
                    have HVY : Hid (Rw wr (.slice e4 r.act.length f4) n (flat af r.act)) := by have h := HY2.out.a.up HBW.out; rw [hn] at h; rw [hn]; exact h
                    rw [hn] at HVX HVY p6 q6
                    by_cases hi : i < n
                    · have hil : i < r.act.length := by omega
                      obtain ⟨g, og, cap, x0, hc⟩ := HVX.out.place (by omega)
                      obtain ⟨rfl, -, rfl⟩ := Value.slice.inj x0
                      obtain ⟨g', og', cap', y0, hd⟩ := HVY.out.place (by omega)
                      obtain ⟨rfl, -, rfl⟩ := Value.slice.inj y0
                      obtain ⟨⟨v0, v1, v2⟩, hx⟩ : ∃ x, r.act.getD i (0, 0, 0) = x := ⟨_, rfl⟩
                      have cx0 := hc (i * 3 + 0) _ ((flat_get af_len (0, 0, 0) r.act i 0 hil (by decide)).trans rfl)
                      have cy0 := hd (i * 3 + 0) _ ((flat_get af_len (0, 0, 0) r.act i 0 hil (by decide)).trans rfl)
                      have cx1 := hc (i * 3 + 1) _ ((flat_get af_len (0, 0, 0) r.act i 1 hil (by decide)).trans rfl)
                      have cy1 := hd (i * 3 + 1) _ ((flat_get af_len (0, 0, 0) r.act i 1 hil (by decide)).trans rfl)
                      have cx2 := hc (i * 3 + 2) _ ((flat_get af_len (0, 0, 0) r.act i 2 hil (by decide)).trans rfl)
                      have cy2 := hd (i * 3 + 2) _ ((flat_get af_len (0, 0, 0) r.act i 2 hil (by decide)).trans rfl)
                      rw [hx] at cx0 cy0 cx1 cy1 cx2 cy2
                      simp only [Nat.add_zero, ← Nat.add_assoc] at cx0 cy0 cx1 cy1 cx2 cy2
                      have s0 := fun W => ac_neq v0 v1 v2 W
                      clear hx
                      have e1' : decide ((i : Int) < (n : Int)) = true := by rw [decide_eq_true_eq]; omega
                      have e2' : decide (i < n) = true := by rw [decide_eq_true_eq]; omega
                      have e5' : (i : Int) < (n : Int) := by omega
                      have hwr := w64n i (by have := HZ.out.a; omega)
                      have HIL : Hid (i < n) := hi
                      clear x0 y0 hc hd hil hn
                      go_wp2_with fail
                      go_region
                      go_wp2_with fail
                      go_roundg (r.act.length - (i + 1))
                      case measure => have := HI.out; have := HIL.out; have := HN.out; omega
                      case rel => exact ⟨i + 1, by first | rfl | (rw [show (i : Int) + 1 = ((i + 1 : Nat) : Int) by omega]), Below.drew HBW.out, ⟨by have := HIL.out; have := HN.out; omega, rfl⟩⟩
                    · have e1' : decide ((i : Int) < (n : Int)) = false := by rw [decide_eq_false_iff_not]; omega
                      have e2' : decide (i < n) = false := by rw [decide_eq_false_iff_not]; omega
                      clear hi hn HVX HVY
                      go_wp2_with fail
                      go_roundg 0
                      case measure => have := HGL.out; omega
                      case rel => exact Or.inr ⟨rfl, rfl, below_trans B2.out HBW.out⟩
    · clear hgl
      go_wp2_with fail
      go_ret
      exact ⟨rfl, HB.out⟩
end Go.Proofs.Ytdchopljojlcpaa
