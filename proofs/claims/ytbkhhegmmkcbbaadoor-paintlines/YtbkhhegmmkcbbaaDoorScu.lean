import Derived.Test.YtbkhhegmmkcbbaaDoorSso
namespace Go.Proofs.YtbkhhegmmkcbbaaDoor
open Go.RowKit Go.Maps

theorem step_upd {P : Program} {ops : Array Oper} {o : Oper} {a : Act} {w : World} {K : Act → World → Prop} {Q : Exit → Act → World → Prop} {E : Prop} (hgd : o.guard = none) (m x y : Operand) (t : TypeId) (ho : o.op = Op.mapUpdate t m x y) (mv key v : Value) (w' : World)
    (hm : a.eval m = mv) (hx : a.eval x = key) (hy : a.eval y = v) (hrun : (Instr.mapUpdate t mv key v).run P w = .ok () w') (h : K (a.put o.dst undef) w') : if Region.wanted o (yielded ops a.tmps) = true then Oper.wp P o a w K Q else E := by
  have hw : Region.wanted o (yielded ops a.tmps) = true := by simp [Region.wanted, hgd]
  rw [if_pos hw]
  unfold Oper.wp
  simp [execOp, ho, hm, hx, hy, hrun, Result.andThen]
  exact h
/-- Areas in memory. -/
def Aw (W : World) (v : Value) (l : List Ar) : Prop := Rw W v l.length (flat arf l)
theorem Aw.up {W W' : World} {v : Value} {l : List Ar} (h : Aw W v l) (hb : Below W.heap.size W W') : Aw W' v l := Rw.up h hb
theorem Aw.form {W : World} {v : Value} {l : List Ar} (h : Aw W v l) : ∃ a cap, v = .slice a l.length cap := Rw.form h
theorem Aw.three {W : World} {a : Option Addr} {n cap : Nat} {l : List Ar} (h : Aw W (.slice a n cap) l) (i : Nat) (hi : i < l.length) : ∃ g o, a = some ⟨g, o, none⟩ ∧ ∀ W', Below W.heap.size W W' → W'.cell? ⟨g, o + i * 3, none⟩ = some (.int .i64 (l.getD i arz).fr) ∧ W'.cell? ⟨g, o + i * 3 + 1, none⟩ = some (.int .i64 (l.getD i arz).tt) ∧ W'.cell? ⟨g, o + i * 3 + 2, none⟩ = some (.string (l.getD i arz).cl) := by
  obtain ⟨g, o, cap', e, hc⟩ := Rw.place h (by omega)
  obtain ⟨rfl, -, -⟩ := Value.slice.inj e
  refine ⟨g, o, rfl, fun W' hW => ?_⟩
  have k : ∀ j u, (arf (l.getD i arz))[j]? = some u → W'.cell? ⟨g, o + i * 3 + j, none⟩ = some u := fun j u hu => by
    rw [Nat.add_assoc]
    refine below_cell hW (hc _ _ ?_)
    rw [flat_get arf_len arz l i j hi (by have := (List.getElem?_eq_some_iff.1 hu).1; rwa [arf_len] at this)]
    exact hu
  exact ⟨k 0 _ rfl, k 1 _ rfl, k 2 _ rfl⟩
theorem size_met {W : World} {b n : Nat} {D : DataW Unit} {left : Lit → Bool} {ss : List Int} (h : W.ownsMap Tryd.prog 3 (plainElem Tryd.prog 3) b n D) (hc : Cki D left ss) (hl : ∀ kl, left kl = false) : Maps.size D = ss.length := by
  obtain ⟨es, hD, hpw, _⟩ := h.entries keyI
  obtain ⟨es', hD', hko⟩ := h.keysOf
  obtain rfl : es = es' := by rw [hD] at hD'; simpa using hD'
  have hk : ∀ p ∈ es, ∃ x, p.1 = li x := fun p hp => by
    obtain ⟨v, hv⟩ := hko p hp
    obtain ⟨x, _, hx, _⟩ := Maps.keyOf_int_inv Tryd.underlying3 hv
    exact ⟨x, hx⟩
  have hp : (ss.map li).Perm (es.map Prod.fst) := by
    refine (List.perm_ext_iff_of_nodup ?_ ?_).2 fun y => ?_
    · exact List.pairwise_map.2 (hc.1.imp fun hne => li_ne hne)
    · exact List.pairwise_map.2 hpw
    · rw [List.mem_map, List.mem_map]
      constructor
      · rintro ⟨x, hx, rfl⟩
        have h1 := ((hc.2 x).1 hx).1
        rw [hD, has_eq, List.any_eq_true] at h1
        obtain ⟨p, hp, hs⟩ := h1
        obtain ⟨a, ha⟩ := hk p hp
        rw [ha] at hs
        exact ⟨p, hp, by rw [ha]; simpa [Lit.sameKey] using hs⟩
      · rintro ⟨p, hp, rfl⟩
        obtain ⟨a, ha⟩ := hk p hp
        refine ⟨a, (hc.2 a).2 ⟨?_, hl _⟩, ha.symm⟩
        rw [hD, has_eq, List.any_eq_true]
        exact ⟨p, hp, by rw [ha]; simp [Lit.sameKey]⟩
  have := hp.length_eq
  rw [List.length_map, List.length_map] at this
  rw [hD, size_eq, this]
theorem infoI0 : (Tryd.prog.info? 3).map (fun i => (i.zero, i.size, i.bytes)) = some (some (.int .i64 0), 1, 8) := by kernel_rfl
theorem take_ar (A : List Ar) (i : Nat) (h : i < A.length) : A.take (i + 1) = A.take i ++ [A.getD i arz] := by
  rw [List.take_add_one, List.getD_eq_getElem?_getD, List.getElem?_eq_getElem h]; rfl
set_option maxRecDepth 100000 in
set_option maxHeartbeats 16000000 in
/-- The cuts. -/
theorem cuts_any {v : Value} {A : List Ar} (w : World) (h : Aw w v A) (hA : ∀ a ∈ A, inI a.fr ∧ inI a.tt) (hn : A.length ≤ 1954687338212) : Calls Tryd.prog 13 #[v] w fun e w' => ∃ vp b k D f, e = .returned (.tuple #[vp, .map (some b)]) ∧ w'.ownsRow w.heap.size 3 1 vp (cts A).length (iC (cts A)) ∧ Mi w' b k D f ∧ (∀ i, i < (cts A).length → f ((cts A).getD i 0) = some i) ∧ Maps.size D = (cts A).length ∧ Below w.heap.size w w' := by
  have hmm := @run_makeMap Tryd.prog
  obtain ⟨iI, hiI, hi0, hi1, hi2⟩ := info_parts infoI0
  have HT : Hid (Aw w v A) := h
  have HA : Hid (∀ a ∈ A, inI a.fr ∧ inI a.tt) := hA
  obtain ⟨aa, ac, rfl⟩ := h.form
  obtain ⟨n, hnn⟩ : ∃ n, A.length = n := ⟨_, rfl⟩
  have HN : Hid (A.length = n ∧ n ≤ 1954687338212) := ⟨hnn, by rw [← hnn]; exact hn⟩
  rw [hnn] at HT ⊢
  clear h hA hn hnn
  go_enter Tryd.func13, Tryd.ntmps13
  go_upto_region 3 with fail
  obtain ⟨w1, hw1⟩ : ∃ w1, w1 = w.alloc (.map #[] 0) := ⟨_, rfl⟩
  obtain ⟨b, hb⟩ : ∃ b, w.heap.size = b := ⟨_, rfl⟩
  have HBB : Hid (w.heap.size = b) := hb
  have HM1 : Hid (∃ D, Mi w1 b 0 D (fe (A.take 0))) := by
    rw [hw1, ← hb]
    have h9 := Mi.made w
    rw [List.take_zero, fe_nil]
    exact h9
  have HB1 : Hid (Below b w w1) := by rw [hw1, ← hb]; exact bel_up _ _
  rw [← hw1]
  rw [hb]
  clear hw1 hb hmm
  go_loopg [14] n (fun gm v14 wr => ∃ (i k : Nat) (D : DataW Unit), v14 = .int .i64 (i : Int) ∧ Hid (i ≤ n ∧ gm = n - i ∧ k ≤ 2 * i) ∧ Hid (Mi wr b k D (fe (A.take i))) ∧ Hid (Below b w wr))
  case atStart =>
    obtain ⟨D, hD⟩ := HM1.out
    exact ⟨0, 0, D, rfl, ⟨Nat.zero_le _, rfl, by omega⟩, hD, HB1⟩
  case round =>
    clear HM1 HB1
    obtain ⟨i, k, D, rfl, HI, HM, HB⟩ := hrel
    obtain ⟨wa, hwa⟩ : ∃ wa, wa = wr := ⟨_, rfl⟩
    rw [← hwa] at HM HB ⊢
    clear hwa
    have HBw : Hid (Below w.heap.size w wa) := by rw [HBB.out]; exact HB.out
    by_cases hi : i < n
    · have e1 : decide ((i : Int) < (n : Int)) = true := by rw [decide_eq_true_eq]; omega
      have e2 : decide (i < n) = true := by rw [decide_eq_true_eq]; omega
      have b1 : (i : Int) < (n : Int) := by omega
      have b2 : i < n := hi
      have b3 : (0 : Int) ≤ (i : Int) := by omega
      have HIL : Hid (i < n ∧ i < A.length) := ⟨hi, by rw [HN.out.1]; exact hi⟩
      have hwi := w64n i (by have := HN.out; omega)
      obtain ⟨ng, no, hta, hq⟩ := HT.out.three i HIL.out.2
      subst hta
      have hin := HA.out _ (mem_getD A arz i HIL.out.2)
      have hst := take_ar A i HIL.out.2
      obtain ⟨y, hy⟩ : ∃ y, A.getD i arz = y := ⟨_, rfl⟩
      rw [hy] at hq hin hst
      have HST : Hid (A.take (i + 1) = A.take i ++ [y]) := hst
      have HIN : Hid (inI y.fr ∧ inI y.tt) := hin
      obtain ⟨q0, q1, q2⟩ := hq wa HBw.out
      clear hi hy hq hin hst
      go_upto_region 5 with fail
      -- BODY
      clear q2
      obtain ⟨w2, hw2⟩ : ∃ w2, w2 = wa.alloc (.cells #[.int .i64 y.fr, .int .i64 y.tt, .string y.cl] 71) := ⟨_, rfl⟩
      rw [← hw2]
      obtain ⟨g6, hg6⟩ : ∃ g6, wa.heap.size = g6 := ⟨_, rfl⟩
      have hh : w2.heap[g6]? = some (.cells #[.int .i64 y.fr, .int .i64 y.tt, .string y.cl] 71 (0, 0)) := by rw [hw2, ← hg6]; exact heap_new wa _
      have HBX : Hid (Below wa.heap.size wa w2) := by rw [hw2]; exact bel_up _ _
      have HMD : Hid (Mi w2.drew b k D (fe (A.take i))) := HM.out.up HBX.out.drew
      have HBD : Hid (Below b w w2.drew) := (HB.out.trans (HBX.out.mono (by have := HB.out.size; have := HBB.out; omega))).drew
      have HNE : Hid (g6 ≠ b) := by have h9 := HM.out.lt; rw [hg6] at h9; show g6 ≠ b; omega
      have HC2 : Hid (w2.drew.cell? ⟨g6, 0, none⟩ = some (.int .i64 y.fr) ∧ w2.drew.cell? ⟨g6, 1, none⟩ = some (.int .i64 y.tt)) := by
        have h9 : w2.drew.heap[g6]? = some (.cells #[.int .i64 y.fr, .int .i64 y.tt, .string y.cl] 71 (0, 0)) := hh
        exact ⟨rcell h9 0 _ rfl, rcell h9 1 _ rfl⟩
      clear hw2 hh q0 q1
      rw [hg6]
      clear hg6
      refine wp_region_noPanic ?_
      refine wp_region_held_drew (S := fun W => W.cell? ⟨g6, 0, none⟩ = some (.int .i64 y.fr) ∧ W.cell? ⟨g6, 1, none⟩ = some (.int .i64 y.tt)) (by kernel_rfl) HC2.out (fun hHeld => ?_)
      obtain ⟨wd, hwd⟩ : ∃ wd, w2.drew = wd := ⟨_, rfl⟩
      rw [hwd] at hHeld HMD HBD ⊢
      clear hwd
      refine wpAnyH_take (i := 0) (oi := { dst := _, op := _, type := _, pos := _, after := _, guard := _ }) (v := ?_) rfl (by kernel_rfl) (by kernel_rfl) (by kernel_rfl) (fun _ _ _ h => h) (Or.inl ⟨by rfl, ?_⟩) (by assumption) ?_
      rotate_left
      · intro W hSw
        (try dsimp only at hSw)
        go_simp
        (try with_reducible rfl)
      try simp only [Act.put, List.setIfInBounds_toArray, List.set_cons_zero, List.set_cons_succ]
      refine wpAnyH_take (i := 1) (oi := { dst := _, op := _, type := _, pos := _, after := _, guard := _ }) (v := ?_) rfl (by kernel_rfl) (by kernel_rfl) (by kernel_rfl) (fun _ _ _ h => h) (Or.inl ⟨by rfl, ?_⟩) (by assumption) ?_
      rotate_left
      · intro W hSw
        (try dsimp only at hSw)
        go_simp
        (try with_reducible rfl)
      try simp only [Act.put, List.setIfInBounds_toArray, List.set_cons_zero, List.set_cons_succ]
      refine wpAnyH_take (i := 2) (oi := { dst := _, op := _, type := _, pos := _, after := _, guard := _ }) (v := ?_) rfl (by kernel_rfl) (by kernel_rfl) (by kernel_rfl) (fun _ _ _ h => h) (Or.inl ⟨by rfl, ?_⟩) (by assumption) ?_
      rotate_left
      · intro W hSw
        (try dsimp only at hSw)
        obtain ⟨s0, s1⟩ := hSw
        go_simp
        (try with_reducible rfl)
      try simp only [Act.put, List.setIfInBounds_toArray, List.set_cons_zero, List.set_cons_succ]
      refine wpAnyH_take (i := 3) (oi := { dst := _, op := _, type := _, pos := _, after := _, guard := _ }) (v := ?_) rfl (by kernel_rfl) (by kernel_rfl) (by kernel_rfl) (fun _ _ _ h => h) (Or.inl ⟨by rfl, ?_⟩) (by assumption) ?_
      rotate_left
      · intro W hSw
        (try dsimp only at hSw)
        go_simp
        (try with_reducible rfl)
      try simp only [Act.put, List.setIfInBounds_toArray, List.set_cons_zero, List.set_cons_succ]
      refine wpAnyH_take (i := 4) (oi := { dst := _, op := _, type := _, pos := _, after := _, guard := _ }) (v := ?_) rfl (by kernel_rfl) (by kernel_rfl) (by kernel_rfl) (fun _ _ _ h => h) (Or.inl ⟨by rfl, ?_⟩) (by assumption) ?_
      rotate_left
      · intro W hSw
        (try dsimp only at hSw)
        go_simp
        (try with_reducible rfl)
      try simp only [Act.put, List.setIfInBounds_toArray, List.set_cons_zero, List.set_cons_succ]
      refine wpAnyH_take (i := 5) (oi := { dst := _, op := _, type := _, pos := _, after := _, guard := _ }) (v := ?_) rfl (by kernel_rfl) (by kernel_rfl) (by kernel_rfl) (fun _ _ _ h => h) (Or.inl ⟨by rfl, ?_⟩) (by assumption) ?_
      rotate_left
      · intro W hSw
        (try dsimp only at hSw)
        obtain ⟨s0, s1⟩ := hSw
        go_simp
        (try with_reducible rfl)
      try simp only [Act.put, List.setIfInBounds_toArray, List.set_cons_zero, List.set_cons_succ]
      obtain ⟨w3, hu3, hm3, hg3⟩ := HMD.out.put (by have := HI.out; have := HN.out; unfold maxLen; omega) HIN.out.1 0 (by decide)
      have HM3 : Hid (Mi w3 b (k + 1) (D.put (li y.fr) (.lit (.int .i64 ((0 : Nat) : Int)))) (iput (fe (A.take i)) y.fr 0)) := hm3
      have HG3 : Hid (wd.grownBy w3 (some b)) := hg3
      have HU3 : Hid _ := hu3
      clear hu3 hm3 hg3
      refine wpAnyH_ready (rs := [6]) (by kernel_rfl) (by simp) ?_
      refine AllReadyH.cons (o := { dst := _, op := _, type := _, pos := _, after := _, guard := _ }) rfl (fun K hK => ?_) AllReadyH.nil
      refine step_upd rfl (.tmp 18) (.tmp 20) (.const (.int .i64 0)) 60 rfl _ _ _ w3 rfl rfl rfl HU3.out ?_
      refine hK.out _ _ ?_ (fun hHeld => ?_)
      · exact ⟨HG3.out.cell hHeld.1 (fun e => HNE.out (Option.some.inj e)), HG3.out.cell hHeld.2 (fun e => HNE.out (Option.some.inj e))⟩
      clear hK K
      obtain ⟨w4, hu4, hm4, hg4⟩ := HM3.out.put (by have := HI.out; have := HN.out; unfold maxLen; omega) HIN.out.2 0 (by decide)
      have HM4 : Hid (Mi w4 b (k + 1 + 1) ((D.put (li y.fr) (.lit (.int .i64 ((0 : Nat) : Int)))).put (li y.tt) (.lit (.int .i64 ((0 : Nat) : Int)))) (fe (A.take (i + 1)))) := (by rw [HST.out, fe_step]; exact hm4)
      have HG4 : Hid (w3.grownBy w4 (some b)) := hg4
      have HU4 : Hid _ := hu4
      clear hu4 hm4 hg4
      refine wpAnyH_ready (rs := [7]) (by kernel_rfl) (by simp) ?_
      refine AllReadyH.cons (o := { dst := _, op := _, type := _, pos := _, after := _, guard := _ }) rfl (fun K hK => ?_) AllReadyH.nil
      refine step_upd rfl (.tmp 21) (.tmp 23) (.const (.int .i64 0)) 60 rfl _ _ _ w4 rfl rfl rfl HU4.out ?_
      refine hK.out _ _ ?_ (fun hHeld => ?_)
      · exact ⟨HG4.out.cell hHeld.1 (fun e => HNE.out (Option.some.inj e)), HG4.out.cell hHeld.2 (fun e => HNE.out (Option.some.inj e))⟩
      clear hK K
      refine wpAnyH_done (by kernel_rfl) ?_ _
      clear hHeld
      refine NoPanic.normal ?_
      have HBE : Hid (Below b w w4) := (HBD.out.grown HG3.out (by have := HBD.out.size; have := HBB.out; omega) (fun r hr => by cases hr; exact Nat.le_refl _)).grown HG4.out (by have := HBD.out.size; have := HBB.out; have := HG3.out.size; omega) (fun r hr => by cases hr; exact Nat.le_refl _)
      go_wp2_with fail
      go_roundg (n - (i + 1))
      case measure => have := HI.out; have := HIL.out; omega
      case rel => exact ⟨i + 1, k + 1 + 1, _, by simp, ⟨HIL.out.1, rfl, by have := HI.out.2.2; omega⟩, HM4, HBE⟩
    · have e1 : decide ((i : Int) < (n : Int)) = false := by rw [decide_eq_false_iff_not]; omega
      have e2 : decide (i < n) = false := by rw [decide_eq_false_iff_not]; omega
      have hAn : A.take i = A := by rw [List.take_of_length_le (by rw [HN.out.1]; omega)]
      have HMA : Hid (Mi wa b k D (fe A)) := by have h9 := HM.out; rw [hAn] at h9; exact h9
      have HKB : Hid (k ≤ 2 * n) := by have := HI.out; show _ ≤ _; omega
      clear hi hAn
      obtain ⟨N, hNn⟩ : ∃ N, wa.heap.size = N := ⟨_, rfl⟩
      have HNN : Hid (wa.heap.size = N ∧ b < N) := ⟨hNn, by rw [← hNn]; exact HMA.out.lt⟩
      clear hNn
      go_upto_region 9 with (at_range; refine wpList_range_own _ rfl _ 60 rfl 3 3 keyI Tryd.underlying60 _ b k D rfl HMA.out.1 ?_; intro w2 hrg0 hg0 hs0; have HRG : Hid (w2.ranges Tryd.prog 3 (plainElem Tryd.prog 3) b wa.heap.size k D (Maps.has D) (Maps.size D)) := hrg0; have HG2 : Hid (wa.grownBy w2 none) := hg0; have HS2 : Hid (w2.heap.size = wa.heap.size + 1) := hs0; clear hrg0 hg0 hs0)
      go_frame
      obtain ⟨w2', hw2'⟩ : ∃ w2', w2' = w2 := ⟨_, rfl⟩
      rw [← hw2'] at HRG HG2 HS2 ⊢
      clear hw2'
      rw [HNN.out.1] at HRG HS2 ⊢
      have HB2 : Hid (Below b w w2') := HB.out.grown HG2.out (by have := HNN.out; omega) (fun r hr => by cases hr)
      have HBS : Hid (b ≤ w.heap.size) := Nat.le_of_eq HBB.out.symm
      go_loopg [7] (Maps.size D) (fun gm v7 wr => ∃ (left : Lit → Bool) (cnt : Nat) (ss : List Int), Hid (gm = cnt ∧ ss.length + cnt ≤ Maps.size D) ∧ Hid (wr.ranges Tryd.prog 3 (plainElem Tryd.prog 3) b N k D left cnt) ∧ Hid (Cki D left ss) ∧ Hid (wr.ownsRow (N + 1) 3 1 v7 ss.length (iC ss)) ∧ Hid (Below b w wr ∧ N + 1 ≤ wr.heap.size))
      case atStart => exact ⟨_, _, [], ⟨rfl, by simp⟩, HRG, Cki.start D, World.ownsRow_nil _ _ _ _, HB2.out, Nat.le_of_eq HS2.out.symm⟩
      case round =>
        clear HRG HG2 HS2 HB2
        obtain ⟨left, cnt, ss, HJ, HRG, HCK, HRW, HB2⟩ := hrel
        obtain ⟨wb, hwb⟩ : ∃ wb, wb = wr := ⟨_, rfl⟩
        rw [← hwb] at HRG HRW HB2 ⊢
        clear hwb
        obtain ⟨a7, c7, e7⟩ := row_shape HRW.out
        subst e7
        go_wp2_with (at_next; refine wpList_next_ranges_ii _ rfl _ rfl 3 3 .i64 .i64 keyI Tryd.underlying3 Tryd.underlying3 b N k D left cnt rfl HRG.out ?_ ?_)
        · intro hc0 hl0
          have HL0 : Hid (∀ kl, left kl = false) := hl0
          have HC0 : Hid (cnt = 0) := hc0
          clear hc0 hl0
          have HMA2 : Hid (Mi wb b k D (fe A)) := ⟨HRG.out.owns, HMA.out.2⟩
          have HMM : Hid (∀ x, x ∈ ss ↔ x ∈ eds A) := fun x => by
            rw [HCK.out.2 x, HL0.out, (HMA.out.2 x).1]
            unfold fe
            by_cases hx : x ∈ eds A
            · simp [hx]
            · simp [hx]
          have HCT : Hid ((ss.mergeSort fun x y => decide (x ≤ y)) = cts A) := cts_met HCK.out.1 HMM.out
          have HSZ : Hid (Maps.size D = ss.length) := size_met HRG.out.owns HCK.out HL0.out
          have HLC : Hid ((cts A).length = ss.length) := by show _ = _; rw [← HCT.out, List.length_mergeSort]
          have HMS : Hid (ss.length < 4611686018427387904) := by
            have h9 := HRG.out.owns
            obtain ⟨es, clock, _, _, h8, h7⟩ := h9
            have : Maps.size D = es.size := by rw [h7]; simp [Maps.size, length_sorted]
            have := HKB.out
            have := HN.out.2
            have := HSZ.out
            show _ < _
            omega
          clear HRG HCK HL0 HC0 HJ
          obtain ⟨q, hq⟩ : ∃ q, ss.length = q := ⟨_, rfl⟩
          have HQ : Hid (ss.length = q) := hq
          rw [hq] at HRW HSZ HLC HMS ⊢
          have HSO : Hid (Calls Tryd.prog 21 #[.slice a7 q c7] wb fun e w' => e = .returned (.tuple #[]) ∧ w'.ownsRow (N + 1) 3 1 (.slice a7 q c7) q (iC (cts A)) ∧ Below (N + 1) wb w') := by
            have h9 := sortI_any (N + 1) wb (.slice a7 q c7) q ss hq HMS.out HRW.out
            rw [HCT.out] at h9
            exact h9
          clear hq
          go_upto_region 14 with (go_at_call 21; refine Calls.mono HSO.out ?_; rintro e w5 ⟨rfl, hro, hbo⟩; have HPL : Hid (w5.ownsRow (N + 1) 3 1 (.slice a7 q c7) q (iC (cts A))) := hro; have HBO : Hid (Below (N + 1) wb w5) := hbo; clear hro hbo)
          have HM5 : Hid (Mi w5 b k D (fI (cts A) (fe A) 0)) := by
            obtain ⟨⟨es, cl, h1, h3⟩, h2⟩ := HMA2.out
            exact ⟨⟨es, cl, (HBO.out.block b (by have := HNN.out.2; omega)).trans h1, h3⟩, h2⟩
          have HB5 : Hid (Below b w w5) := HB2.out.1.trans (HBO.out.mono (by have := HNN.out.2; omega))
          have HN5 : Hid (N + 1 ≤ w5.heap.size) := by have := HB2.out.2; have := HBO.out.size; show _ ≤ _; omega
          clear HSO HRW HMA2 HB2
          go_loopg [39] q (fun gm v39 wr => ∃ (i k' : Nat) (D' : DataW Unit), v39 = .int .i64 (i : Int) ∧ Hid (i ≤ q ∧ gm = q - i ∧ k' ≤ 2 * n + i) ∧ Hid (Mi wr b k' D' (fI (cts A) (fe A) i)) ∧ Hid (Maps.size D' = q) ∧ Hid (Below b w wr ∧ N + 1 ≤ wr.heap.size) ∧ Hid (wr.ownsRow (N + 1) 3 1 (.slice a7 q c7) q (iC (cts A))))
          case atStart => exact ⟨0, k, D, rfl, ⟨Nat.zero_le _, rfl, by have := HKB.out; omega⟩, HM5, HSZ, ⟨HB5.out, HN5.out⟩, HPL⟩
          case round =>
            clear HM5 HB5 HPL HN5
            obtain ⟨i, k', D', rfl, HI2, HM5, HSZ2, HB5, HPL⟩ := hrel
            obtain ⟨wc, hwc⟩ : ∃ wc, wc = wr := ⟨_, rfl⟩
            rw [← hwc] at HM5 HB5 HPL ⊢
            clear hwc
            by_cases hi : i < q
            · have e3 : decide ((i : Int) < (q : Int)) = true := by rw [decide_eq_true_eq]; omega
              have e4 : decide (i < q) = true := by rw [decide_eq_true_eq]; omega
              have b1 : (i : Int) < (q : Int) := by omega
              have b2 : i < q := hi
              have b3 : (0 : Int) ≤ (i : Int) := by omega
              have HIQ : Hid (i < q) := hi
              have hil : i < (cts A).length := by rw [HLC.out]; exact hi
              have hwi := w64n i (by have := HMS.out; omega)
              obtain ⟨g7, c7', e7, hg7, -⟩ := row_form HPL.out (by omega)
              obtain ⟨rfl, -, rfl⟩ := Value.slice.inj e7
              clear e7
              have c0 := row_at HPL.out i _ (iC_get (cts A) i hil)
              have hpm : (cts A).getD i 0 ∈ eds A := by rw [← cts_mem]; exact mem_getD (cts A) 0 i hil
              have hfs : (fI (cts A) (fe A) i ((cts A).getD i 0)).isSome = true := fI_some _ (by unfold fe; rw [if_pos hpm]; rfl) i
              have hin : inI ((cts A).getD i 0) := by
                unfold eds at hpm
                obtain ⟨a, ha, h1⟩ := List.mem_flatMap.1 hpm
                have := HA.out a ha
                simp only [List.mem_cons, List.not_mem_nil, or_false] at h1
                rcases h1 with h1 | h1
                · rw [h1]; exact this.1
                · rw [h1]; exact this.2
              obtain ⟨W3, hu3, hm3, hg3⟩ := HM5.out.put (by have := HI2.out; have := HN.out; have := HMS.out; unfold maxLen; omega) hin i (by have := HMS.out; omega)
              have hsz : Maps.size (D'.put (li ((cts A).getD i 0)) (.lit (.int .i64 (i : Int)))) = q := by
                rw [size_put (HM5.out.1.tidy keyI), (HM5.out.2 _).1, hfs, if_pos rfl]; exact HSZ2.out
              obtain ⟨p, hp⟩ : ∃ p, (cts A).getD i 0 = p := ⟨_, rfl⟩
              have HM6 : Hid (∃ D6, Mi W3 b (k' + 1) D6 (fI (cts A) (fe A) (i + 1)) ∧ Maps.size D6 = q) := ⟨_, hm3, hsz⟩
              rw [hp] at c0 hu3
              have HU3 : Hid _ := hu3
              have HG3 : Hid (wc.grownBy W3 (some b)) := hg3
              clear hi hil hpm hfs hin hu3 hm3 hg3 hsz hp
              go_wp2_with (refine wpList_upd rfl (.tmp 44) (.tmp 45) (.tmp 46) 60 rfl _ _ _ W3 rfl rfl rfl HU3.out ?_)
              go_roundg (q - (i + 1))
              case measure => have := HI2.out; have := HIQ.out; omega
              case rel =>
                obtain ⟨D6, hm6, hs6⟩ := HM6.out
                exact ⟨i + 1, k' + 1, D6, by simp, ⟨HIQ.out, rfl, by have := HI2.out; omega⟩, hm6, hs6, ⟨HB5.out.1.grown HG3.out (by have := HB5.out.2; have := HNN.out; omega) (fun r hr => by cases hr; exact Nat.le_refl _), Nat.le_trans HB5.out.2 HG3.out.size⟩, HPL.out.kept HG3.out (.inr (fun e => by have h9 := (HPL.out.lt _ rfl).1; injection e with e; have := HNN.out.2; omega))⟩
            · have e3 : decide ((i : Int) < (q : Int)) = false := by rw [decide_eq_false_iff_not]; omega
              have e4 : decide (i < q) = false := by rw [decide_eq_false_iff_not]; omega
              have hiq : i = q := by have := HI2.out; omega
              clear hi
              go_wp2_with fail
              refine bodyPost_ret (v := .tuple #[.slice a7 q c7, .map (some b)]) (by simp [results, Tryd.results13, go_sem]) rfl ⟨_, b, k', D', _, rfl, ?_, HM5.out, fun j hj => ?_, ?_, by rw [HBB.out]; exact HB5.out.1⟩
              · show World.ownsRow _ _ _ _ _ _ _
                rw [HLC.out]; exact row_base HPL.out (by have := HNN.out.2; have := HBB.out; omega)
              · exact fI_at (cts_nodup A) _ i (by rw [hiq, HLC.out]; exact Nat.le_refl _) j (by rw [hiq, ← HLC.out]; exact hj)
              · rw [HLC.out]; exact HSZ2.out
        · intro x c w3 cnt1 hwx hwc hlx hat hrg1 hlt hg1 hs1 hen
          have HRG1 : Hid (w3.ranges Tryd.prog 3 (plainElem Tryd.prog 3) b N k D (fun z => left z && !z.sameKey (.int .i64 x)) cnt1) := hrg1
          have HCK1 : Hid (Cki D (fun z => left z && !z.sameKey (li x)) (ss ++ [x])) := Cki.step HCK.out hlx hat
          have HG1 : Hid (wb.grownBy w3 (some N)) := hg1
          have HLT : Hid (cnt1 < cnt) := hlt
          have HRW1 : Hid (w3.ownsRow (N + 1) 3 1 (.slice a7 ss.length c7) ss.length (iC ss)) := HRW.out.kept hg1 (by
            cases hv : (Value.slice a7 ss.length c7).ownBlock with
            | none => exact .inl rfl
            | some g => exact .inr (fun e => by have h9 := ((HRW.out.lt g hv).1); injection e with e; omega))
          have HMS : Hid (Maps.size D ≤ 3909374676424) := by
            have h9 := HRG.out.owns
            obtain ⟨es, clock, _, _, h8, h7⟩ := h9
            have : Maps.size D = es.size := by rw [h7]; simp [Maps.size, length_sorted]
            have := HKB.out
            have := HN.out.2
            show _ ≤ _
            omega
          have HMX : Hid (ss.length + 1 ≤ maxLen ∧ (ss.length + 1) * 8 ≤ 140737488355328) := by have := HJ.out.2; have := HMS.out; show _ ∧ _; unfold maxLen; omega
          obtain ⟨sn, hsn⟩ : ∃ sn, ss.length = sn := ⟨_, rfl⟩
          have HSN : Hid (ss.length = sn) := hsn
          rw [hsn] at HRW1 HMX ⊢
          have HNX : Hid (N + 1 ≤ w3.heap.size) := by have := HG1.out.size; have := HB2.out.2; show _ ≤ _; omega
          clear hwx hwc hlx hat hrg1 hlt hg1 hs1 hsn
          go_wp2_with (at_builtin; refine wpList_append_own_at _ rfl _ _ 55 rfl (N + 1) 3 iI _ 1 8 Tryd.underlying55 hiI hi0 hi1 hi2 rfl (by decide) (.slice a7 sn c7) sn (iC ss) rfl (row_up HRW1.out (bel_up _ _)) ⟨w3.heap.size, 0, none⟩ 1 1 [.int .i64 x] rfl rfl (World.news_of_block (heap_new _ _)) (fun u hu => by rw [List.mem_singleton.1 hu]; rfl) HMX.out.1 HMX.out.2 (by have := HNX.out; simp; omega) ?_; intro v7 w4 ho4 hg4 _ _; have HO4 : Hid (w4.ownsRow (N + 1) 3 1 v7 (sn + 1) (iC ss ++ [.int .i64 x])) := ho4; have HG4 : Hid ((w3.alloc (.cells #[.int .i64 x] 3)).grownBy w4 (Value.slice a7 sn c7).ownBlock) := hg4; clear ho4 hg4)
          clear hen
          go_roundg cnt1
          case measure => have := HJ.out.1; have := HLT.out; omega
          case rel =>
            have hal : w3.grownBy (w3.alloc (.cells #[.int .i64 x] 3)) none := World.grownBy_alloc _ _ _
            have hbo : ∀ g, (Value.slice a7 sn c7).ownBlock = some g → N + 1 ≤ g := fun g hg => (HRW1.out.lt g hg).1
            have r1 := World.ranges.kept (World.ranges.kept HRG1.out hal (by simp) (by simp)) HG4.out (fun e => by have := hbo b e.symm; have := HNN.out.2; omega) (fun e => by have := hbo N e.symm; omega)
            refine ⟨_, cnt1, ss ++ [x], ⟨rfl, ?_⟩, r1, HCK1, ?_, ?_, ?_⟩
            · rw [List.length_append, HSN.out]; have := HJ.out.2; have := HSN.out; have := HLT.out; simp; omega
            · show World.ownsRow _ _ _ _ _ _ _
              rw [List.length_append, HSN.out, iC_app]; exact HO4.out
            · exact ((HB2.out.1.grown HG1.out (by have := HB2.out.1.size; have := HBB.out; omega) (fun r hr => by cases hr; exact Nat.le_of_lt HNN.out.2)).alloc (by have := HNX.out; have := HNN.out; omega) _).grown HG4.out (by have := HNX.out; have := HNN.out; rw [World.size_alloc]; omega) (fun r hr => by have := hbo r hr; have := HNN.out; omega)
            · have := HG4.out.size; rw [World.size_alloc] at this; have := HNX.out; omega
end Go.Proofs.YtbkhhegmmkcbbaaDoor
