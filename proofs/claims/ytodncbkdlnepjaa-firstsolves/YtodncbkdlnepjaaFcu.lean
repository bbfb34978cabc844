import Derived.Test.YtodncbkdlnepjaaFst
namespace Go.Proofs.Ytodncbkdlnepjaa
open Go.RowKit Go.Maps

theorem info32 : (Try.prog.info? 32).map (fun i => (i.zero, i.size, i.bytes)) = some (some (.agg #[.int .i64 0, .string ⟨#[]⟩, .string ⟨#[]⟩]), 3, 40) := by kernel_rfl
theorem cell_three_new (w : World) (x y z : Value) (t : TypeId) : ∀ j q, [x, y, z][j]? = some q → (w.alloc (.cells #[x, y, z] t)).cell? ((⟨w.heap.size, 0, none⟩ : Addr).add j) = some q := by
  intro j u hj
  rw [addPl, Nat.zero_add, Lib.cell_of_heap (heap_new w _)]
  simpa using hj
theorem ofS_lt {nT : Nat} {P : List (Int × List Nat)} {S : Ss} (h : Fk nT P S) (r : List Nat) (bh : Nat) (hb : bh < 2 ^ 64) : ofS S r bh < 2 ^ 64 := by
  unfold ofS
  refine Nat.or_lt_two_pow (alg_lt S h.lt r) ?_
  split
  · exact hb
  · decide
theorem ofS_app (S : Ss) (a b : List Nat) (bh : Nat) : ofS S (a ++ b) bh = ofS S a (ofS S b bh) := by
  unfold ofS
  rw [alg_app]
  cases h : (alg S a).2 <;> simp [h, Nat.or_assoc]
theorem ofS_nil (S : Ss) (bh : Nat) : ofS S [] bh = bh := by unfold ofS; rw [alg_nil, if_pos rfl, Nat.zero_or]
theorem wth_app (n : Nat) (a b : List Rf) : wth n (a ++ b) = (wth n a && wth n b) := by unfold wth; rw [List.all_append]
theorem syl_app (a b : List Rf) : syl (a ++ b) = syl a ++ syl b := by unfold syl; rw [List.map_append]
theorem ofp_lt {nT nS : Nat} {P : List Pd} {l : List Rf} {bh : Nat} (hb : bh < 2 ^ 64) (h : snd nT nS P = true → Fk nT (P.map pq) (fin nT (P.map pq)) ∨ wth (nT + nS) l = false) : ofp nT nS P l bh < 2 ^ 64 := by
  unfold ofp
  split
  · rename_i h1
    rcases h h1.1 with h2 | h2
    · exact ofS_lt h2 _ _ hb
    · rw [h2] at h1; cases h1.2
  · decide
theorem ofp_app {nT nS : Nat} {P : List Pd} {a b : List Rf} {bh : Nat} (hs : snd nT nS P = true) (hw : wth (nT + nS) (a ++ b) = true) : ofp nT nS P (a ++ b) bh = ofp nT nS P a (ofp nT nS P b bh) := by
  have h2 := hw
  rw [wth_app, Bool.and_eq_true] at h2
  unfold ofp
  rw [if_pos ⟨hs, hw⟩, if_pos ⟨hs, h2.1⟩, if_pos ⟨hs, h2.2⟩, syl_app, ofS_app]
theorem ofp_nil {nT nS : Nat} {P : List Pd} {bh : Nat} (hs : snd nT nS P = true) : ofp nT nS P [] bh = bh := by
  unfold ofp
  rw [if_pos ⟨hs, rfl⟩]
  exact ofS_nil _ _
theorem ofp_bad {nT nS : Nat} {P : List Pd} {l : List Rf} {bh : Nat} (h : ¬ (snd nT nS P = true ∧ wth (nT + nS) l = true)) : ofp nT nS P l bh = 0 := by unfold ofp; rw [if_neg h]

set_option maxRecDepth 100000 in
set_option maxHeartbeats 8000000 in
theorem firstCuts_any {v0 v1 v2 va vb : Value} {nT nS : Nat} {P : List Pd} {a b : List Rf} {bh : Nat} (w : World) (h : Gm w v0 v1 v2 nT nS P) (hz : Gz nT nS P) (ha : Rw w va a.length (flat rf a)) (hb : Rw w vb b.length (flat rf b)) (hl : (a.length + b.length) * 40 + 4096 ≤ 140737488355328) (hbh : bh < 2 ^ 64) :
    Calls Try.prog 3 #[.agg #[v0, v1, v2], va, vb, .int .u64 (bh : Int)] w fun e w' => e = .returned (.bool true) ∧ Below w.heap.size w w' := by
  have HG : Hid (Gm w v0 v1 v2 nT nS P) := h
  have HZ : Hid _ := hz
  have HVA : Hid (Rw w va a.length (flat rf a)) := ha
  have HVB : Hid (Rw w vb b.length (flat rf b)) := hb
  have HL : Hid _ := hl
  have HBH : Hid _ := hbh
  obtain ⟨a0, c0, a1, c1, a2, c2, rfl, rfl, rfl⟩ := h.form
  obtain ⟨xa, ca, rfl⟩ := ha.form
  obtain ⟨xb, cb, rfl⟩ := hb.form
  clear h hz ha hb hl hbh
  obtain ⟨n, hn⟩ : ∃ n, P.length = n := ⟨_, rfl⟩
  rw [hn] at HG ⊢
  clear hn
  obtain ⟨na, hna⟩ : ∃ n, a.length = n := ⟨_, rfl⟩
  have HNA : Hid (a.length = na) := hna
  obtain ⟨nb, hnb⟩ : ∃ n, b.length = n := ⟨_, rfl⟩
  have HNB : Hid (b.length = nb) := hnb
  rw [hna] at HVA HL ⊢
  rw [hnb] at HVB HL ⊢
  clear hna hnb
  obtain ⟨i32, hi, h0, h1, h2⟩ := info_parts info32
  have HI32 : Hid (Try.prog.info? 32 = some i32 ∧ i32.zero = some (.agg #[.int .i64 0, .string ⟨#[]⟩, .string ⟨#[]⟩]) ∧ i32.size = 3 ∧ i32.bytes = 40) := ⟨hi, h0, h1, h2⟩
  clear hi h0 h1 h2
  obtain ⟨W1, hW1⟩ : ∃ W1, W1 = w.alloc (.cells #[.slice a0 nT c0, .slice a1 nS c1, .slice a2 n c2] 26) := ⟨_, rfl⟩
  have HX : Hid (W1.heap[w.heap.size]? = some (.cells #[.slice a0 nT c0, .slice a1 nS c1, .slice a2 n c2] 26 (0, 0))) := by rw [hW1]; exact heap_new w _
  have HB1 : Hid (Below w.heap.size w W1) := by rw [hW1]; exact bel_up _ _
  go_enter Try.func3, Try.ntmps3
  go_upto_region 1 with fail
  rw [← hW1]
  clear hW1
  obtain ⟨gb, hgb⟩ : ∃ gb, w.heap.size = gb := ⟨_, rfl⟩
  have HGB : Hid (w.heap.size = gb) := hgb
  rw [hgb] at HX ⊢
  clear hgb
  go_upto_region 5 with (go_at_call 8; refine (started_any W1).mono ?_; rintro e W2 ⟨rfl, hb2⟩; have B2 : Hid (Below W1.heap.size W1 W2) := hb2; clear hb2)
  have BW2 : Hid (Below w.heap.size w W2) := below_trans HB1.out B2.out
  have HX2 : Hid (W2.heap[gb]? = some (.cells #[.slice a0 nT c0, .slice a1 nS c1, .slice a2 n c2] 26 (0, 0))) := (B2.out.block _ (lt_of_heap HX.out)).trans HX.out
  clear B2 HX HB1
  go_loopg [9, 10] na (fun gm v9 v10 wr => ∃ i : Nat, v10 = .int .i64 (i : Int) ∧ ∃ (ra : Option Addr) (m rc : Nat), v9 = .slice ra m rc ∧ Hid (m = i) ∧ Hid (Below w.heap.size w wr) ∧ Hid (i ≤ na ∧ gm = na - i) ∧ Hid (wr.heap[gb]? = some (.cells #[.slice a0 nT c0, .slice a1 nS c1, .slice a2 n c2] 26 (0, 0))) ∧ Hid (wr.ownsRow w.heap.size 32 3 (.slice ra m rc) m (flat rf (a.take i))))
  case atStart => exact ⟨0, rfl, none, 0, 0, rfl, rfl, BW2, ⟨Nat.zero_le _, rfl⟩, HX2, World.ownsRow_nil _ _ _ _⟩
  case round =>
    clear BW2 HX2
    obtain ⟨i, rfl, ra, m, rc, rfl, HM, HBW, HI, HX, HRO⟩ := hrel
    by_cases hi : i < na
    · obtain ⟨g, o, cap, e0, hc⟩ := HVA.out.place (by omega)
      obtain ⟨rfl, -, rfl⟩ := Value.slice.inj e0
      have hil : i < a.length := by have := HNA.out; omega
      obtain ⟨q0, q1, q2⟩ := rf_get a i hil
      have k0 := below_cell HBW.out (hc _ _ q0)
      have k1 := below_cell HBW.out (hc _ _ q1)
      have k2 := below_cell HBW.out (hc _ _ q2)
      have HTK : Hid _ := take_getD a rfd i hil
      obtain ⟨x, hx⟩ : ∃ x, a.getD i rfd = x := ⟨_, rfl⟩
      rw [hx] at k0 k1 k2 HTK
      obtain ⟨xs, xf, xz⟩ := x
      dsimp only at k0 k1 k2
      rw [← Nat.add_assoc] at k1 k2
      have e1 : decide ((i : Int) < (na : Int)) = true := by rw [decide_eq_true_eq]; omega
      have e2 : decide (i < na) = true := by rw [decide_eq_true_eq]; omega
      have e5 : (i : Int) < (na : Int) := by omega
      have e6 : i < na := hi
      have HIL : Hid (i < na) := hi
      have hwr := w64n i (by have := HL.out; have := HIL.out; omega)
      clear e0 hc hx q0 q1 q2 hil hi
      have HROW : Hid ((wr.alloc (.cells #[.int .i64 xs, .string xf, .string xz] 32)).ownsRow w.heap.size 32 3 (.slice ra m rc) m (flat rf (a.take i))) := row_up HRO.out (bel_up _ _)
      go_wp2_with (at_builtin; refine wpList_append_own_at _ rfl _ _ 27 rfl w.heap.size 32 i32 (.agg #[.int .i64 0, .string ⟨#[]⟩, .string ⟨#[]⟩]) 3 40 Try.underlying27 HI32.out.1 HI32.out.2.1 HI32.out.2.2.1 HI32.out.2.2.2 rfl (by decide) _ _ _ rfl HROW.out ⟨wr.heap.size, 0, none⟩ 1 1 [.int .i64 xs, .string xf, .string xz] rfl rfl (cell_three_new _ _ _ _ _) (by simp [Value.oneCell']) (by have := HM.out; have := HL.out; have := HIL.out; unfold maxLen; omega) (by have := HM.out; have := HL.out; have := HIL.out; omega) (by have := HBW.out.size; simp; omega) ?_; intro v6 w6 ho6 hg6 _ ha6; have HO6 : Hid (w6.ownsRow w.heap.size 32 3 v6 (m + 1) (flat rf (a.take i) ++ [.int .i64 xs, .string xf, .string xz])) := ho6; have HG6 : Hid (wr.grownBy w6 (Value.ownBlock (.slice ra m rc))) := (World.grownBy_alloc _ _ _).trans hg6; obtain ⟨qa, qc, rfl⟩ := row_shape ho6; clear ho6 hg6 ha6)
      have HR6 : Hid (w6.ownsRow w.heap.size 32 3 (.slice qa (m + 1) qc) (m + 1) (flat rf (a.take (i + 1)))) := by
        show World.ownsRow _ _ _ _ _ _ _
        rw [HTK.out]
        have h9 := HO6.out
        rw [show [Value.int .i64 xs, .string xf, .string xz] = flat rf [((xs : Int), xf, xz)] from rfl, ← flat_app] at h9
        skip
        exact h9
      have HX6 : Hid (w6.heap[gb]? = some (.cells #[.slice a0 nT c0, .slice a1 nS c1, .slice a2 n c2] 26 (0, 0))) := (HG6.out.block _ (lt_of_heap HX.out) (fun e => tag_ne_blk HRO.out HX.out (by decide) e.symm)).trans HX.out
      have BW6 : Hid (Below w.heap.size w w6) := HBW.out.grown HG6.out HBW.out.size (fun r e' => (row_tag HRO.out r e').1)
      go_roundg (na - (i + 1))
      case measure => have := HI.out; have := HIL.out; omega
      case rel => exact ⟨i + 1, by first | rfl | (rw [show (i : Int) + 1 = ((i + 1 : Nat) : Int) by omega]), qa, m + 1, qc, rfl, by have := HM.out; show _ = _; omega, BW6, ⟨HIL.out, rfl⟩, HX6, HR6⟩
    · have e1 : decide ((i : Int) < (na : Int)) = false := by rw [decide_eq_false_iff_not]; omega
      have e2 : decide (i < na) = false := by rw [decide_eq_false_iff_not]; omega
      have HIN : Hid (i = na) := by have := HI.out; show i = na; omega
      have hRO := HRO.out
      rw [HIN.out, ← HNA.out, List.take_length] at hRO
      clear hi
      go_upto_region 9 with fail
      clear e1 e2
      obtain rfl : m = na := by have := HM.out; have := HIN.out; omega
      have HRA : Hid (wr.ownsRow w.heap.size 32 3 (.slice ra m rc) m (flat rf (a ++ b.take 0))) := by rw [List.take_zero, List.append_nil]; exact hRO
      obtain ⟨V, hV⟩ : ∃ V, V = wr := ⟨_, rfl⟩
      rw [← hV] at HBW HX HRA ⊢
      have HBV : Hid (Below w.heap.size w V) := HBW.out
      have HXV : Hid (V.heap[gb]? = some (.cells #[.slice a0 nT c0, .slice a1 nS c1, .slice a2 n c2] 26 (0, 0))) := HX.out
      clear hV HBW HX HRO hRO HM HI
      obtain ⟨na, hna⟩ : ∃ na, m = na := ⟨_, rfl⟩
      rw [hna] at HNA HVA HL HRA HIN ⊢
      clear hna
      obtain ⟨ra0, hra0⟩ : ∃ x, x = ra := ⟨_, rfl⟩
      obtain ⟨rc0, hrc0⟩ : ∃ x, x = rc := ⟨_, rfl⟩
      rw [← hra0, ← hrc0] at HRA ⊢
      clear hra0 hrc0 HIN
      go_loopg [9, 11] nb (fun gm v9 v11 wr => ∃ i : Nat, v11 = .int .i64 (i : Int) ∧ ∃ (ra : Option Addr) (m rc : Nat), v9 = .slice ra m rc ∧ Hid (m = na + i) ∧ Hid (Below w.heap.size w wr) ∧ Hid (i ≤ nb ∧ gm = nb - i) ∧ Hid (wr.heap[gb]? = some (.cells #[.slice a0 nT c0, .slice a1 nS c1, .slice a2 n c2] 26 (0, 0))) ∧ Hid (wr.ownsRow w.heap.size 32 3 (.slice ra m rc) m (flat rf (a ++ b.take i))))
      case atStart => exact ⟨0, rfl, ra0, na, rc0, rfl, rfl, HBV, ⟨Nat.zero_le _, rfl⟩, HXV, HRA⟩
      case round =>
        clear HBV HXV HRA
        obtain ⟨i, rfl, ra, m, rc, rfl, HM, HBW, HI, HX, HRO⟩ := hrel
        by_cases hi : i < nb
        · obtain ⟨g, o, cap, e0, hc⟩ := HVB.out.place (by omega)
          obtain ⟨rfl, -, rfl⟩ := Value.slice.inj e0
          have hil : i < b.length := by have := HNB.out; omega
          obtain ⟨q0, q1, q2⟩ := rf_get b i hil
          have k0 := below_cell HBW.out (hc _ _ q0)
          have k1 := below_cell HBW.out (hc _ _ q1)
          have k2 := below_cell HBW.out (hc _ _ q2)
          have HTK : Hid _ := take_getD b rfd i hil
          obtain ⟨x, hx⟩ : ∃ x, b.getD i rfd = x := ⟨_, rfl⟩
          rw [hx] at k0 k1 k2 HTK
          obtain ⟨xs, xf, xz⟩ := x
          dsimp only at k0 k1 k2
          rw [← Nat.add_assoc] at k1 k2
          have e1 : decide ((i : Int) < (nb : Int)) = true := by rw [decide_eq_true_eq]; omega
          have e2 : decide (i < nb) = true := by rw [decide_eq_true_eq]; omega
          have e5 : (i : Int) < (nb : Int) := by omega
          have e6 : i < nb := hi
          have HIL : Hid (i < nb) := hi
          have hwr := w64n i (by have := HL.out; have := HIL.out; omega)
          clear e0 hc hx q0 q1 q2 hil hi
          have HROW : Hid ((wr.alloc (.cells #[.int .i64 xs, .string xf, .string xz] 32)).ownsRow w.heap.size 32 3 (.slice ra m rc) m (flat rf (a ++ b.take i))) := row_up HRO.out (bel_up _ _)
          go_wp2_with (at_builtin; refine wpList_append_own_at _ rfl _ _ 27 rfl w.heap.size 32 i32 (.agg #[.int .i64 0, .string ⟨#[]⟩, .string ⟨#[]⟩]) 3 40 Try.underlying27 HI32.out.1 HI32.out.2.1 HI32.out.2.2.1 HI32.out.2.2.2 rfl (by decide) _ _ _ rfl HROW.out ⟨wr.heap.size, 0, none⟩ 1 1 [.int .i64 xs, .string xf, .string xz] rfl rfl (cell_three_new _ _ _ _ _) (by simp [Value.oneCell']) (by have := HM.out; have := HL.out; have := HIL.out; unfold maxLen; omega) (by have := HM.out; have := HL.out; have := HIL.out; omega) (by have := HBW.out.size; simp; omega) ?_; intro v6 w6 ho6 hg6 _ ha6; have HO6 : Hid (w6.ownsRow w.heap.size 32 3 v6 (m + 1) (flat rf (a ++ b.take i) ++ [.int .i64 xs, .string xf, .string xz])) := ho6; have HG6 : Hid (wr.grownBy w6 (Value.ownBlock (.slice ra m rc))) := (World.grownBy_alloc _ _ _).trans hg6; obtain ⟨qa, qc, rfl⟩ := row_shape ho6; clear ho6 hg6 ha6)
          have HR6 : Hid (w6.ownsRow w.heap.size 32 3 (.slice qa (m + 1) qc) (m + 1) (flat rf (a ++ b.take (i + 1)))) := by
            show World.ownsRow _ _ _ _ _ _ _
            rw [HTK.out]
            have h9 := HO6.out
            rw [show [Value.int .i64 xs, .string xf, .string xz] = flat rf [((xs : Int), xf, xz)] from rfl, ← flat_app] at h9
            rw [List.append_assoc] at h9
            exact h9
          have HX6 : Hid (w6.heap[gb]? = some (.cells #[.slice a0 nT c0, .slice a1 nS c1, .slice a2 n c2] 26 (0, 0))) := (HG6.out.block _ (lt_of_heap HX.out) (fun e => tag_ne_blk HRO.out HX.out (by decide) e.symm)).trans HX.out
          have BW6 : Hid (Below w.heap.size w w6) := HBW.out.grown HG6.out HBW.out.size (fun r e' => (row_tag HRO.out r e').1)
          go_roundg (nb - (i + 1))
          case measure => have := HI.out; have := HIL.out; omega
          case rel => exact ⟨i + 1, by first | rfl | (rw [show (i : Int) + 1 = ((i + 1 : Nat) : Int) by omega]), qa, m + 1, qc, rfl, by have := HM.out; show _ = _; omega, BW6, ⟨HIL.out, rfl⟩, HX6, HR6⟩
        · have e1 : decide ((i : Int) < (nb : Int)) = false := by rw [decide_eq_false_iff_not]; omega
          have e2 : decide (i < nb) = false := by rw [decide_eq_false_iff_not]; omega
          have HIN : Hid (i = nb) := by have := HI.out; show i = nb; omega
          have hRO := HRO.out
          rw [HIN.out, ← HNB.out, List.take_length] at hRO
          clear hi
          have HMM : Hid (m = (a ++ b).length) := by have := HM.out; have := HIN.out; have := HNA.out; have := HNB.out; show _ = _; rw [List.length_append]; omega
          have HRW : Hid (Rw wr (.slice ra m rc) (a ++ b).length (flat rf (a ++ b))) := by rw [← HMM.out]; exact row_rw hRO (by decide)
          have HGN : Hid (Gm wr (.slice a0 nT c0) (.slice a1 nS c1) (.slice a2 n c2) nT nS P) := HG.out.up HBW.out
          have HLN : Hid ((a ++ b).length * 40 + 4096 ≤ 140737488355328) := by have := HL.out; have := HNA.out; have := HNB.out; show _ ≤ _; rw [List.length_append]; omega
          have HCC : Hid (∀ W, Below wr.heap.size wr W → W.cell? ⟨gb, 0, none⟩ = some (.slice a0 nT c0) ∧ W.cell? ⟨gb, 1, none⟩ = some (.slice a1 nS c1) ∧ W.cell? ⟨gb, 2, none⟩ = some (.slice a2 n c2)) := fun W hW => ⟨below_cell hW (rcell HX.out 0 _ rfl), below_cell hW (rcell HX.out 1 _ rfl), below_cell hW (rcell HX.out 2 _ rfl)⟩
          obtain ⟨p0, p1, p2⟩ := HCC.out wr (Below.refl _ _)
          go_upto_region 13 with (go_at_call 9; refine (of_any wr HGN.out HZ.out HRW.out HLN.out HBH.out).mono ?_; rintro e Y1 ⟨rfl, -, hy1⟩; have BY1 : Hid (Below wr.heap.size wr Y1) := hy1; clear hy1)
          clear p0 p1 p2
          obtain ⟨p0, p1, p2⟩ := HCC.out Y1 BY1.out
          obtain ⟨t, ht⟩ : ∃ t, ofp nT nS P (a ++ b) bh = t := ⟨_, rfl⟩
          have HT : Hid (ofp nT nS P (a ++ b) bh = t) := ht
          rw [ht]
          clear ht
          by_cases hs : snd nT nS P = true
          rotate_left
          · have HSN : Hid (snd nT nS P = false) := by rw [Bool.not_eq_true] at hs; exact hs
            have HT0 : Hid (t = 0) := by rw [← HT.out]; exact ofp_bad (fun h => hs h.1)
            rw [HT0.out]
            clear hs
            go_wp2_with (go_at_call 10; refine (lsound_any Y1 (HGN.out.up BY1.out) HZ.out).mono ?_; rintro e Y2 ⟨rfl, hy2⟩; have BY2 : Hid (Below wr.heap.size wr Y2) := below_trans BY1.out hy2; clear hy2; rw [HSN.out])
            go_ret
            exact ⟨rfl, below_trans HBW.out BY2.out⟩
          have HSN : Hid (snd nT nS P = true) := hs
          clear hs
          by_cases hw : wth (nT + nS) (a ++ b) = true
          rotate_left
          · have HWT : Hid (wth (nT + nS) (a ++ b) = false) := by rw [Bool.not_eq_true] at hw; exact hw
            have HT0 : Hid (t = 0) := by rw [← HT.out]; exact ofp_bad (fun h => hw h.2)
            rw [HT0.out]
            clear hw
            go_wp2_with (first | (go_at_call 10; refine (lsound_any Y1 (HGN.out.up BY1.out) HZ.out).mono ?_; rintro e Y2 ⟨rfl, hy2⟩; have BY2 : Hid (Below wr.heap.size wr Y2) := below_trans BY1.out hy2; obtain ⟨p0', p1', p2'⟩ := HCC.out Y2 BY2.out; clear hy2; rw [HSN.out]) | (go_at_call 11; refine (lsymbols_any Y2 (HGN.out.up BY2.out) HZ.out (HRW.out.up BY2.out) (by have := HLN.out; omega)).mono ?_; rintro e Y3 ⟨rfl, hy3⟩; have BY3 : Hid (Below wr.heap.size wr Y3) := below_trans BY2.out hy3; clear hy3; rw [HWT.out]))
            go_ret
            exact ⟨rfl, below_trans HBW.out BY3.out⟩
          have HWT : Hid (wth (nT + nS) (a ++ b) = true) := hw
          clear hw
          go_upto_region 15 with (first | (go_at_call 10; refine (lsound_any Y1 (HGN.out.up BY1.out) HZ.out).mono ?_; rintro e Y2 ⟨rfl, hy2⟩; have BY2 : Hid (Below wr.heap.size wr Y2) := below_trans BY1.out hy2; obtain ⟨p0', p1', p2'⟩ := HCC.out Y2 BY2.out; clear hy2; rw [HSN.out]) | (go_at_call 11; refine (lsymbols_any Y2 (HGN.out.up BY2.out) HZ.out (HRW.out.up BY2.out) (by have := HLN.out; omega)).mono ?_; rintro e Y3 ⟨rfl, hy3⟩; have BY3 : Hid (Below wr.heap.size wr Y3) := below_trans BY2.out hy3; clear hy3; rw [HWT.out]))
          clear p0 p1 p2 p0' p1' p2'
          have HVA2 : Hid (Rw wr (.slice xa na ca) a.length (flat rf a)) := by rw [HNA.out]; exact HVA.out.up HBW.out
          have HVB2 : Hid (Rw wr (.slice xb nb cb) b.length (flat rf b)) := by rw [HNB.out]; exact HVB.out.up HBW.out
          obtain ⟨WD, hWD⟩ : ∃ WD, Y3.drew = WD := ⟨_, rfl⟩
          have BD : Hid (Below wr.heap.size wr WD) := by rw [← hWD]; exact below_trans BY3.out (Below.drew (Below.refl _ _))
          obtain ⟨u, hu⟩ : ∃ u, ofp nT nS P b bh = u := ⟨_, rfl⟩
          have HU : Hid (ofp nT nS P b bh = u) := hu
          clear hu
          have HTU : Hid (ofp nT nS P a u = t) := by rw [← HU.out, ← HT.out]; exact (ofp_app HSN.out HWT.out).symm
          have HNL : Hid (ofp nT nS P [] bh = bh) := ofp_nil HSN.out
          have tt1 : ((t : Int) == (t : Int)) = true := by rw [beq_iff_eq]
          have tt2 : ((bh : Int) == (bh : Int)) = true := by rw [beq_iff_eq]
          refine wp_region_noPanic ?_
          refine wp_region_held_drew (S := fun W => W.cell? ⟨gb, 0, none⟩ = some (.slice a0 nT c0) ∧ W.cell? ⟨gb, 1, none⟩ = some (.slice a1 nS c1) ∧ W.cell? ⟨gb, 2, none⟩ = some (.slice a2 n c2)) (by kernel_rfl) (by rw [hWD]; exact HCC.out _ BD.out) (fun hHeld => ?_)
          rw [hWD] at hHeld ⊢
          clear hWD
          refine wpAnyH_take (i := 0) (oi := { dst := _, op := _, type := _, pos := _, after := _, guard := _ }) (v := ?_) rfl (by kernel_rfl) (by kernel_rfl) (by kernel_rfl) (fun _ _ _ h => h) (Or.inl ⟨by rfl, ?_⟩) (by assumption) ?_
          rotate_left
          · intro W hSw
            (try dsimp only at hSw)
            go_simp
            (try with_reducible rfl)
          try simp only [Act.put, List.setIfInBounds_toArray, List.set_cons_zero, List.set_cons_succ]
          refine wpAnyH_take (i := 1) (oi := { dst := _, op := _, type := _, pos := _, after := _, guard := _ }) (v := ?_) rfl (by kernel_rfl) (by kernel_rfl) (by kernel_rfl) (fun _ _ _ h => h) (Or.inl ⟨by rfl, ?_⟩) (by assumption) ?_
          rotate_left
          · intro W hSw
            (try dsimp only at hSw)
            go_simp
            (try with_reducible rfl)
          try simp only [Act.put, List.setIfInBounds_toArray, List.set_cons_zero, List.set_cons_succ]
          refine wpAnyH_take (i := 2) (oi := { dst := _, op := _, type := _, pos := _, after := _, guard := _ }) (v := ?_) rfl (by kernel_rfl) (by kernel_rfl) (by kernel_rfl) (fun _ _ _ h => h) (Or.inl ⟨by rfl, ?_⟩) (by assumption) ?_
          rotate_left
          · intro W hSw
            (try dsimp only at hSw)
            go_simp
            (try with_reducible rfl)
          try simp only [Act.put, List.setIfInBounds_toArray, List.set_cons_zero, List.set_cons_succ]
          refine wpAnyH_take (i := 3) (oi := { dst := _, op := _, type := _, pos := _, after := _, guard := _ }) (v := ?_) rfl (by kernel_rfl) (by kernel_rfl) (by kernel_rfl) (fun _ _ _ h => h) (Or.inl ⟨by rfl, ?_⟩) (by assumption) ?_
          rotate_left
          · intro W hSw
            (try dsimp only at hSw)
            go_simp
            (try with_reducible rfl)
          try simp only [Act.put, List.setIfInBounds_toArray, List.set_cons_zero, List.set_cons_succ]
          refine wpAnyH_take (i := 4) (oi := { dst := _, op := _, type := _, pos := _, after := _, guard := _ }) (v := ?_) rfl (by kernel_rfl) (by kernel_rfl) (by kernel_rfl) (fun _ _ _ h => h) (Or.inl ⟨by rfl, ?_⟩) (by assumption) ?_
          rotate_left
          · intro W hSw
            (try dsimp only at hSw)
            go_simp
            (try with_reducible rfl)
          try simp only [Act.put, List.setIfInBounds_toArray, List.set_cons_zero, List.set_cons_succ]
          refine wpAnyH_take (i := 5) (oi := { dst := _, op := _, type := _, pos := _, after := _, guard := _ }) (v := ?_) rfl (by kernel_rfl) (by kernel_rfl) (by kernel_rfl) (fun _ _ _ h => h) (Or.inl ⟨by rfl, ?_⟩) (by assumption) ?_
          rotate_left
          · intro W hSw
            (try dsimp only at hSw)
            go_simp
            (try with_reducible rfl)
          try simp only [Act.put, List.setIfInBounds_toArray, List.set_cons_zero, List.set_cons_succ]
          refine wpAnyH_ready (rs := [6]) (by kernel_rfl) (by simp) ?_
          refine AllReadyH.cons (o := { dst := _, op := _, type := _, pos := _, after := _, guard := _ }) rfl (fun K hK => ?_) AllReadyH.nil
          go_simp
          go_at_call 9
          refine (of_any WD (HGN.out.up BD.out) HZ.out (HVB2.out.up BD.out) (by have := HL.out; have := HNB.out; omega) HBH.out).mono ?_
          rintro e Z1 ⟨rfl, hk1, hz1⟩
          have BZ1 : Hid (Below wr.heap.size wr Z1) := below_trans BD.out hz1
          have HUL : Hid (u < 2 ^ 64) := by rw [← HU.out]; exact ofp_lt HBH.out hk1
          clear hz1 hk1
          rw [HU.out]
          refine hK.out _ _ ?_ (fun hHeld => ?_)
          · exact HCC.out _ BZ1.out
          clear hK K
          try simp only [Act.put, List.setIfInBounds_toArray, List.set_cons_zero, List.set_cons_succ]
          refine wpAnyH_ready (rs := [7]) (by kernel_rfl) (by simp) ?_
          refine AllReadyH.cons (o := { dst := _, op := _, type := _, pos := _, after := _, guard := _ }) rfl (fun K hK => ?_) AllReadyH.nil
          go_simp
          go_at_call 9
          refine (of_any Z1 (HGN.out.up BZ1.out) HZ.out (HVA2.out.up BZ1.out) (by have := HL.out; have := HNA.out; omega) HUL.out).mono ?_
          rintro e Z2 ⟨rfl, -, hz2⟩
          have BZ2 : Hid (Below wr.heap.size wr Z2) := below_trans BZ1.out hz2
          clear hz2
          rw [HTU.out]
          refine hK.out _ _ ?_ (fun hHeld => ?_)
          · exact HCC.out _ BZ2.out
          clear hK K
          try simp only [Act.put, List.setIfInBounds_toArray, List.set_cons_zero, List.set_cons_succ]
          refine wpAnyH_take (i := 8) (oi := { dst := _, op := _, type := _, pos := _, after := _, guard := _ }) (v := ?_) rfl (by kernel_rfl) (by kernel_rfl) (by kernel_rfl) (fun _ _ _ h => h) (Or.inl ⟨by rfl, ?_⟩) (by assumption) ?_
          rotate_left
          · intro W hSw
            (try dsimp only at hSw)
            go_simp
            (try with_reducible rfl)
          try simp only [Act.put, List.setIfInBounds_toArray, List.set_cons_zero, List.set_cons_succ]
          refine wpAnyH_take (i := 9) (oi := { dst := _, op := _, type := _, pos := _, after := _, guard := _ }) (v := ?_) rfl (by kernel_rfl) (by kernel_rfl) (by kernel_rfl) (fun _ _ _ h => h) (Or.inl ⟨by rfl, ?_⟩) (by assumption) ?_
          rotate_left
          · intro W hSw
            (try dsimp only at hSw)
            go_simp
            (try with_reducible rfl)
          try simp only [Act.put, List.setIfInBounds_toArray, List.set_cons_zero, List.set_cons_succ]
          refine wpAnyH_take (i := 10) (oi := { dst := _, op := _, type := _, pos := _, after := _, guard := _ }) (v := ?_) rfl (by kernel_rfl) (by kernel_rfl) (by kernel_rfl) (fun _ _ _ h => h) (Or.inl ⟨by rfl, ?_⟩) (by assumption) ?_
          rotate_left
          · intro W hSw
            (try dsimp only at hSw)
            go_simp
            (try with_reducible rfl)
          try simp only [Act.put, List.setIfInBounds_toArray, List.set_cons_zero, List.set_cons_succ]
          refine wpAnyH_take (i := 11) (oi := { dst := _, op := _, type := _, pos := _, after := _, guard := _ }) (v := ?_) rfl (by kernel_rfl) (by kernel_rfl) (by kernel_rfl) (fun _ _ _ h => h) (Or.inl ⟨by rfl, ?_⟩) (by assumption) ?_
          rotate_left
          · intro W hSw
            (try dsimp only at hSw)
            go_simp
            (try with_reducible rfl)
          try simp only [Act.put, List.setIfInBounds_toArray, List.set_cons_zero, List.set_cons_succ]
          refine wpAnyH_take (i := 13) (oi := { dst := _, op := _, type := _, pos := _, after := _, guard := _ }) (v := ?_) rfl (by kernel_rfl) (by kernel_rfl) (by kernel_rfl) (fun _ _ _ h => h) (Or.inl ⟨by rfl, ?_⟩) (by assumption) ?_
          rotate_left
          · intro W hSw
            (try dsimp only at hSw)
            go_simp
            (try with_reducible rfl)
          try simp only [Act.put, List.setIfInBounds_toArray, List.set_cons_zero, List.set_cons_succ]
          refine wpAnyH_ready (rs := [12]) (by kernel_rfl) (by simp) ?_
          refine AllReadyH.cons (o := { dst := _, op := _, type := _, pos := _, after := _, guard := _ }) rfl (fun K hK => ?_) AllReadyH.nil
          go_simp
          go_at_call 9
          refine (of_any (l := []) Z2 (HGN.out.up BZ2.out) HZ.out (Rw.nil _) (by decide) HBH.out).mono ?_
          rintro e Z3 ⟨rfl, -, hz3⟩
          have BZ3 : Hid (Below wr.heap.size wr Z3) := below_trans BZ2.out hz3
          clear hz3
          rw [HNL.out]
          refine hK.out _ _ ?_ (fun hHeld => ?_)
          · exact HCC.out _ BZ3.out
          clear hK K
          try simp only [Act.put, List.setIfInBounds_toArray, List.set_cons_zero, List.set_cons_succ]
          refine wpAnyH_take (i := 14) (oi := { dst := _, op := _, type := _, pos := _, after := _, guard := _ }) (v := ?_) rfl (by kernel_rfl) (by kernel_rfl) (by kernel_rfl) (fun _ _ _ h => h) (Or.inl ⟨by rfl, ?_⟩) (by assumption) ?_
          rotate_left
          · intro W hSw
            (try dsimp only at hSw)
            go_simp
            (try with_reducible rfl)
          try simp only [Act.put, List.setIfInBounds_toArray, List.set_cons_zero, List.set_cons_succ]
          refine wpAnyH_take (i := 15) (oi := { dst := _, op := _, type := _, pos := _, after := _, guard := _ }) (v := ?_) rfl (by kernel_rfl) (by kernel_rfl) (by kernel_rfl) (fun _ _ _ h => h) (Or.inl ⟨by rfl, ?_⟩) (by assumption) ?_
          rotate_left
          · intro W hSw
            (try dsimp only at hSw)
            go_simp
            (try with_reducible rfl)
          try simp only [Act.put, List.setIfInBounds_toArray, List.set_cons_zero, List.set_cons_succ]
          refine wpAnyH_take (i := 16) (oi := { dst := _, op := _, type := _, pos := _, after := _, guard := _ }) (v := ?_) rfl (by kernel_rfl) (by kernel_rfl) (by kernel_rfl) (fun _ _ _ h => h) (Or.inl ⟨by rfl, ?_⟩) (by assumption) ?_
          rotate_left
          · intro W hSw
            (try dsimp only at hSw)
            go_simp
            (try with_reducible rfl)
          try simp only [Act.put, List.setIfInBounds_toArray, List.set_cons_zero, List.set_cons_succ]
          refine wpAnyH_done (by kernel_rfl) ?_ _
          refine NoPanic.normal ?_
          clear hHeld
          go_wp2_with fail
          go_ret
          exact ⟨rfl, below_trans HBW.out BZ3.out⟩
end Go.Proofs.Ytodncbkdlnepjaa
