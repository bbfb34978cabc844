import Derived.Test.YtcmhbcfgikmblabGreatDoorQsi
namespace Go.Proofs.YtcmhbcfgikmblabGreatDoor.Qy
open Go.RowKit Go.Maps

set_option maxRecDepth 100000 in
set_option maxHeartbeats 8000000 in
theorem condShaped_any {v : Value} {l : List Pn} (c : Cd) (w : World) (h : Ps w v l) (hl : l.length ≤ 1000000000000000) : Calls Tryz.prog 27 #[v, cV c] w fun e w' => e = .returned (.bool (csh l c)) ∧ Below w.heap.size w w' := by
  obtain ⟨V, hV⟩ : ∃ V, csh l c = V := ⟨_, rfl⟩
  rw [hV]
  unfold csh at hV
  obtain ⟨w1, hw1⟩ : ∃ w1, w1 = w.alloc (.cells #[.bool c.nt, .string c.a, .string c.b, .string c.tx] 38) := ⟨_, rfl⟩
  have HB1 : Hid (Below w.heap.size w w1) := by rw [hw1]; exact bel_up _ _
  have hb := heap_new w (.cells #[.bool c.nt, .string c.a, .string c.b, .string c.tx] 38)
  rw [← hw1] at hb
  have HBK : Hid (w1.heap[w.heap.size]? = some (.cells #[.bool c.nt, .string c.a, .string c.b, .string c.tx] 38 (0, 0))) := hb
  have HQ : Hid (∀ W, Below w1.heap.size w1 W → W.cell? ⟨w.heap.size, 1, none⟩ = some (.string c.a) ∧ W.cell? ⟨w.heap.size, 2, none⟩ = some (.string c.b) ∧ W.cell? ⟨w.heap.size, 3, none⟩ = some (.string c.tx)) := fun W hW =>
    ⟨below_cell hW (rcell HBK.out 1 _ rfl), below_cell hW (rcell HBK.out 2 _ rfl), below_cell hW (rcell HBK.out 3 _ rfl)⟩
  have HCA : Hid (∀ W t, Below w1.heap.size w1 W → Calls Tryz.prog 26 #[v, .string t] W fun e w' => e = .returned (.int .i64 (cap l t)) ∧ Below W.heap.size W w') := fun W t hW => captured_any t W (h.up (below_trans HB1.out hW)) hl
  obtain ⟨q1, q2, q3⟩ := HQ.out w1 (Below.refl _ _)
  obtain ⟨a, cp, rfl⟩ := h.form
  obtain ⟨A, hA⟩ : ∃ A, cap l c.a = A := ⟨_, rfl⟩
  obtain ⟨Bb, hB⟩ : ∃ Bb, cap l c.b = Bb := ⟨_, rfl⟩
  have HA : Hid (cap l c.a = A) := hA
  have HBb : Hid (cap l c.b = Bb) := hB
  rw [hA, hB] at hV
  have HV : Hid _ := hV
  clear hb h hl hA hB hV
  go_enter Tryz.func27, Tryz.ntmps27
  go_upto_region 1 with fail
  rw [← hw1]
  clear hw1
  by_cases ha : A = -1
  · have hV := HV.out
    rw [decide_eq_true ha] at hV
    have : V = false := by rw [← hV]; rfl
    subst this
    have HA2 : Hid (cap l c.a = -1) := HA.out.trans ha
    clear HA HV hV ha
    go_wp2_with (go_at_call 26; refine Calls.mono (HCA.out _ _ (Below.refl _ _)) ?_; rintro e w2 ⟨rfl, hb⟩; have HB2 : Hid (Below w.heap.size w w2) := below_trans HB1.out hb; clear hb; rw [HA2.out])
    go_ret
    exact ⟨rfl, HB2.out⟩
  · have hV := HV.out
    rw [decide_eq_false ha] at hV
    have d1 : (A == -1) = false := by simpa using ha
    clear HV ha
    go_upto_region 3 with (go_at_call 26; refine Calls.mono (HCA.out _ _ (Below.refl _ _)) ?_; rintro e w2 ⟨rfl, hb⟩; have HB2 : Hid (Below w1.heap.size w1 w2) := hb; clear hb; rw [HA.out])
    clear q1 q2 q3
    obtain ⟨q1, q2, q3⟩ := HQ.out w2 HB2.out
    have HBW : Hid (Below w.heap.size w w2) := below_trans HB1.out HB2.out
    by_cases h0 : c.b = ⟨#[]⟩
    · rw [decide_eq_true h0] at hV
      have : V = true := by rw [← hV]; rfl
      subst this
      rw [h0] at q2
      clear hV h0
      go_wp2_with fail
      go_ret
      exact ⟨rfl, HBW.out⟩
    · rw [decide_eq_false h0] at hV
      have d0 : c.b.toList.isEmpty = false := by rw [bs_empty]; exact decide_eq_false h0
      by_cases h1 : c.tx = ⟨#[]⟩
      · rw [decide_eq_true h1] at hV
        have HV2 : Hid ((!decide (Bb = -1)) = V) := by show _ = V; rw [← hV]; rfl
        rw [h1] at q3
        clear hV h0 h1
        go_wp2_with (go_at_call 26; refine Calls.mono (HCA.out _ _ HB2.out) ?_; rintro e w3 ⟨rfl, hb⟩; have HB3 : Hid (Below w.heap.size w w3) := below_trans HBW.out hb; clear hb; rw [HBb.out])
        go_ret
        refine ⟨?_, HB3.out⟩
        rw [← HV2.out]
        exact ret_bool (by by_cases h9 : Bb = -1 <;> simp [h9])
      · rw [decide_eq_false h1] at hV
        have d2 : c.tx.toList.isEmpty = false := by rw [bs_empty]; exact decide_eq_false h1
        have : V = false := by rw [← hV]; rfl
        subst this
        clear hV h0 h1
        go_wp2_with fail
        go_ret
        exact ⟨rfl, HBW.out⟩
theorem rts_one (l : List Pn) : (Tr.rts (l.map bn) != 1) = !decide (Tr.rt (pks l) = some 1) := by
  unfold Tr.rts
  rw [kds_bn]
  cases Tr.rt (pks l) with
  | none => rfl
  | some r => by_cases h : r = 1 <;> simp [h] <;> omega
theorem all_take {f : Nat → Bool} (n i : Nat) (h : i < n) (h2 : f i = false) : (List.range n).all f = false := by
  rw [← Bool.not_eq_true, List.all_eq_true]
  intro h3
  have := h3 i (by simpa using h)
  rw [h2] at this
  cases this
theorem all_snoc {f : Nat → Bool} (i : Nat) (h1 : (List.range i).all f = true) (h2 : f i = true) : (List.range (i + 1)).all f = true := by
  rw [List.range_succ, List.all_append, h1]; simp [h2]
theorem take_all_snoc (l : List Pn) (cs : List Cd) (i : Nat) (hi : i < cs.length) (h1 : (cs.take i).all (csh l) = true) (h2 : csh l (cs.getD i cz) = true) : (cs.take (i + 1)).all (csh l) = true := by
  rw [List.take_add_one, List.all_append, h1]
  rw [List.getD_eq_getElem?_getD, List.getElem?_eq_getElem hi] at h2
  rw [List.getElem?_eq_getElem hi]
  simpa using h2
theorem all_not (l : List Pn) (cs : List Cd) (i : Nat) (hi : i < cs.length) (h2 : csh l (cs.getD i cz) = false) : cs.all (csh l) = false := by
  rw [← Bool.not_eq_true, List.all_eq_true]
  intro h3
  have := h3 (cs.getD i cz) (by rw [List.getD_eq_getElem?_getD, List.getElem?_eq_getElem hi]; exact List.getElem_mem hi)
  rw [h2] at this
  cases this
set_option maxRecDepth 100000 in
set_option maxHeartbeats 8000000 in
theorem shaped_any {vn vc : Value} {l : List Pn} {cs : List Cd} (w : World) (hn : Ps w vn l) (hc : Cs w vc cs) : Calls Tryz.prog 9 #[.agg #[vn, vc]] w fun e w' => e = .returned (.bool (shp l cs)) ∧ Below w.heap.size w w' := by
  obtain ⟨V, hV⟩ : ∃ V, shp l cs = V := ⟨_, rfl⟩
  rw [hV]
  unfold shp at hV
  obtain ⟨w1, hw1⟩ : ∃ w1, w1 = w.alloc (.cells #[vn, vc] 25) := ⟨_, rfl⟩
  have HB1 : Hid (Below w.heap.size w w1) := by rw [hw1]; exact bel_up _ _
  have hb := heap_new w (.cells #[vn, vc] 25)
  rw [← hw1] at hb
  obtain ⟨bq, hbq⟩ : ∃ bq, w.heap.size = bq := ⟨_, rfl⟩
  have HBQ : Hid (w.heap.size = bq) := hbq
  rw [hbq] at hb
  have HBK : Hid (w1.heap[bq]? = some (.cells #[vn, vc] 25 (0, 0))) := hb
  have HQ : Hid (∀ W, Below w1.heap.size w1 W → W.cell? ⟨bq, 0, none⟩ = some vn ∧ W.cell? ⟨bq, 1, none⟩ = some vc) := fun W hW =>
    ⟨below_cell hW (rcell HBK.out 0 _ rfl), below_cell hW (rcell HBK.out 1 _ rfl)⟩
  have HP : Hid (∀ W, Below w1.heap.size w1 W → Ps W vn l) := fun W hW => hn.up (below_trans HB1.out hW)
  have HC : Hid (∀ W, Below w1.heap.size w1 W → Cs W vc cs) := fun W hW => hc.up (below_trans HB1.out hW)
  obtain ⟨a1, p1, rfl⟩ := hn.form
  obtain ⟨a2, p2, rfl⟩ := hc.form
  obtain ⟨n, hln⟩ : ∃ n, l.length = n := ⟨_, rfl⟩
  obtain ⟨m, hlm⟩ : ∃ m, cs.length = m := ⟨_, rfl⟩
  have HLN : Hid (l.length = n) := hln
  have HLM : Hid (cs.length = m) := hlm
  rw [hln, hlm] at hV hw1
  rw [hln] at HP HQ ⊢
  rw [hlm] at HC HQ ⊢
  obtain ⟨q0, q1⟩ := HQ.out w1 (Below.refl _ _)
  have HV : Hid _ := hV
  clear hn hc hb hln hlm hV HBK
  go_enter Tryz.func9, Tryz.ntmps9
  go_upto_region 1 with fail
  first | rw [← hw1] | rw [hbq, ← hw1]
  clear hw1 hbq
  obtain ⟨Pv, hPv⟩ : ∃ Pv, (decide (n ≤ 32) && (decide (m ≤ 16) && decide (Tr.rt (pks l) = some 1))) = Pv := ⟨_, rfl⟩
  have HPV : Hid ((decide (n ≤ 32) && (decide (m ≤ 16) && decide (Tr.rt (pks l) = some 1))) = Pv) := hPv
  clear hPv
  go_cut [23] from 7 to 23 (fun v23 wd => v23 = .bool (!Pv) ∧ Hid (Below w1.heap.size w1 wd))
  case first =>
    have hPv := HPV.out
    by_cases h32 : n ≤ 32
    · have d1 : decide ((32 : Int) < (n : Int)) = false := by rw [decide_eq_false_iff_not]; omega
      have d2 : decide (32 < n) = false := by rw [decide_eq_false_iff_not]; omega
      by_cases h16 : m ≤ 16
      · have d3 : decide ((16 : Int) < (m : Int)) = false := by rw [decide_eq_false_iff_not]; omega
        have d4 : decide (16 < m) = false := by rw [decide_eq_false_iff_not]; omega
        have HBA : Hid _ := bare_any w1 (HP.out w1 (Below.refl _ _)) (by rw [HLN.out]; exact h32)
        obtain ⟨T, hT⟩ : ∃ T, Tr.rts (l.map bn) = T := ⟨_, rfl⟩
        have HTT : Hid (Tr.rts (l.map bn) = T) := hT
        have HE : Hid ((T != 1) = !Pv) := by
          show _ = _
          rw [← hPv, decide_eq_true h32, decide_eq_true h16, ← hT, rts_one]; rfl
        have HSM : Hid (Tr.Sm (l.map bn)) := by show _ ≤ _; rw [List.length_map, HLN.out]; omega
        obtain ⟨bl, hbl⟩ : ∃ bl, l.map bn = bl := ⟨_, rfl⟩
        rw [hbl] at HBA HTT HSM
        clear h32 h16 hT hPv hbl
        go_wp2_with first | (go_at_call 24; refine Calls.mono HBA.out ?_; rintro e w2 ⟨v2, rfl, ho, hb⟩; have HO2 : Hid (Tr.Ns w2 v2 bl) := row_rw ho; have HB2 : Hid (Below w1.heap.size w1 w2) := hb; obtain ⟨ba, bc, rfl⟩ := row_shape ho; clear ho hb) | (go_at_call 10; refine (Tr.roots_any w2 HO2.out HSM.out).mono ?_; rintro e w3 ⟨rfl, rfl⟩; rw [HTT.out])
        go_meet
        exact ⟨by rw [← HE.out] <;> rfl, HB2⟩
      · have d3 : decide ((16 : Int) < (m : Int)) = true := by rw [decide_eq_true_eq]; omega
        have d4 : decide (16 < m) = true := by rw [decide_eq_true_eq]; omega
        have HE : Hid ((!Pv) = true) := by show _ = _; rw [← hPv, decide_eq_false h16]; simp
        clear h32 h16 hPv
        go_wp2_with fail
        go_meet
        exact ⟨by rw [HE.out] <;> rfl, Below.refl _ _⟩
    · have d1 : decide ((32 : Int) < (n : Int)) = true := by rw [decide_eq_true_eq]; omega
      have d2 : decide (32 < n) = true := by rw [decide_eq_true_eq]; omega
      have HE : Hid ((!Pv) = true) := by show _ = _; rw [← hPv, decide_eq_false h32]; simp
      clear h32 hPv
      go_wp2_with fail
      go_meet
      exact ⟨by rw [HE.out] <;> rfl, Below.refl _ _⟩
  case rest =>
    obtain ⟨rfl, HB2⟩ := hcut
    have hV := HV.out
    have hPv := HPV.out
    rw [← Bool.and_assoc] at hPv
    rw [← Bool.and_assoc, ← Bool.and_assoc, hPv] at hV
    cases hP : Pv with
    | false =>
      rw [hP, Bool.false_and] at hV
      subst hV
      clear hP hPv HPV
      go_wp2_with fail
      go_ret
      exact ⟨rfl, below_trans HB1.out HB2.out⟩
    | true =>
      have HN32 : Hid (n ≤ 32 ∧ m ≤ 16) := by
        rw [hP] at hPv
        simp only [Bool.and_eq_true, decide_eq_true_eq] at hPv
        exact hPv.1
      rw [hP, Bool.true_and] at hV
      have HV2 : Hid _ := hV
      clear hP hV HV q0 q1 hPv HPV
      obtain ⟨q0, q1⟩ := HQ.out wc HB2.out
      go_upto_region 4 with fail
      clear q0 q1
      go_loopg [27] n (fun gm v27 wr => ∃ i : Nat, v27 = .int .i64 (i : Int) ∧ Hid (i ≤ n ∧ gm = n - i) ∧ Hid ((List.range i).all (nat' l) = true) ∧ Hid (Below w1.heap.size w1 wr))
      case atStart => exact ⟨0, rfl, ⟨Nat.zero_le _, rfl⟩, rfl, HB2⟩
      case round =>
        clear HB2
        obtain ⟨i, rfl, HI, HA, HB⟩ := hrel
        by_cases hi : i < n
        · have e1 : decide ((i : Int) < (n : Int)) = true := by rw [decide_eq_true_eq]; omega
          have e2 : decide (i < n) = true := by rw [decide_eq_true_eq]; omega
          have e3 : (i : Int) < (n : Int) := by omega
          have HIL : Hid (i < n) := hi
          have hil : i < l.length := by rw [HLN.out]; exact hi
          obtain ⟨g2, o, rfl, c0, c1, c2, c3, c4⟩ := (HP.out wr HB.out).all i hil
          obtain ⟨q0, q1⟩ := HQ.out wr HB.out
          have hna : nat' l i = (nsh (l.getD i pz) && (decide ((l.getD i pz).cp = ⟨#[]⟩) || decide (cap l (l.getD i pz).cp = (i : Int)))) := rfl
          obtain ⟨x, hx⟩ : ∃ x, l.getD i pz = x := ⟨_, rfl⟩
          rw [hx] at c0 c1 c2 c3 c4 hna
          have HNA : Hid (nat' l i = (nsh x && (decide (x.cp = ⟨#[]⟩) || decide (cap l x.cp = (i : Int))))) := hna
          have hwi := w64n i (by have := HN32.out; omega)
          obtain ⟨W2, hW2⟩ : ∃ W2, W2 = wr.alloc (.cells #[.string x.nm, .bool x.lit, .string x.fd, .string x.cp, .int .i64 x.kd] 46) := ⟨_, rfl⟩
          clear hi hil hx hna
          go_upto_region 6 with fail
          rw [← hW2]
          have hn2 := heap_new wr (.cells #[.string x.nm, .bool x.lit, .string x.fd, .string x.cp, .int .i64 x.kd] 46)
          have hb2 : Below wr.heap.size wr W2 := by rw [hW2]; exact bel_up _ _
          rw [← hW2] at hn2
          obtain ⟨bx, hbx⟩ : ∃ bx, wr.heap.size = bx := ⟨_, rfl⟩
          rw [hbx] at hn2 ⊢
          have HBX : Hid (∀ W, Below W2.heap.size W2 W → W.cell? ⟨bx, 0, none⟩ = some (.string x.nm) ∧ W.cell? ⟨bx, 1, none⟩ = some (.bool x.lit) ∧ W.cell? ⟨bx, 2, none⟩ = some (.string x.fd) ∧ W.cell? ⟨bx, 3, none⟩ = some (.string x.cp) ∧ W.cell? ⟨bx, 4, none⟩ = some (.int .i64 x.kd)) := fun W hW =>
            ⟨below_cell hW (rcell hn2 0 _ rfl), below_cell hW (rcell hn2 1 _ rfl), below_cell hW (rcell hn2 2 _ rfl), below_cell hW (rcell hn2 3 _ rfl), below_cell hW (rcell hn2 4 _ rfl)⟩
          have HBW : Hid (Below w1.heap.size w1 W2) := below_trans HB.out hb2
          have HNS : Hid _ := nodeShaped_any x W2
          unfold pV at HNS
          obtain ⟨S, hS⟩ : ∃ S, nsh x = S := ⟨_, rfl⟩
          rw [hS] at HNS
          have HNA2 : Hid (nat' l i = (S && (decide (x.cp = ⟨#[]⟩) || decide (cap l x.cp = (i : Int))))) := by rw [← hS]; exact HNA
          clear hW2 hn2 hb2 hbx hS HNA c0 c1 c2 c3 c4 q0 q1
          obtain ⟨t0, t1, t2, t3, t4⟩ := HBX.out W2 (Below.refl _ _)
          go_cut [48] from 32 to 48 (fun v48 wd => v48 = .bool (!nat' l i) ∧ Hid (Below w1.heap.size w1 wd))
          case first =>
            cases S with
            | false =>
              go_wp2_with (go_at_call 25; refine Calls.mono HNS.out ?_; rintro e w4 ⟨rfl, hb⟩; have HB4 : Hid (Below w1.heap.size w1 w4) := below_trans HBW.out hb; clear hb)
              go_meet
              exact ⟨by rw [HNA2.out] <;> rfl, HB4⟩
            | true =>
              have HCP : Hid (∀ W, Below w1.heap.size w1 W → Calls Tryz.prog 26 #[.slice (some ⟨g2, o, none⟩) n p1, .string x.cp] W fun e w' => e = .returned (.int .i64 (cap l x.cp)) ∧ Below W.heap.size W w') := fun W hW => captured_any x.cp W (HP.out W hW) (by rw [HLN.out]; have := HN32.out; omega)
              by_cases h0 : x.cp = ⟨#[]⟩
              · have HE : Hid (nat' l i = true) := by show _ = _; rw [HNA2.out, decide_eq_true h0]; rfl
                have HX0 : Hid (x.cp = ⟨#[]⟩) := h0
                clear h0
                go_wp2_with (go_at_call 25; refine Calls.mono HNS.out ?_; rintro e w4 ⟨rfl, hb⟩; have HB4 : Hid (Below w1.heap.size w1 w4) := below_trans HBW.out hb; clear t0 t1 t2 t3 t4; obtain ⟨t0, t1, t2, t3, t4⟩ := HBX.out w4 hb; rw [HX0.out] at t3; clear hb)
                go_meet
                exact ⟨by rw [HE.out] <;> rfl, HB4⟩
              · have d0 : x.cp.toList.isEmpty = false := by rw [bs_empty]; exact decide_eq_false h0
                obtain ⟨Cx, hCx⟩ : ∃ Cx, cap l x.cp = Cx := ⟨_, rfl⟩
                have HE : Hid ((Cx != (i : Int)) = !nat' l i) := by
                  show _ = _
                  rw [HNA2.out, decide_eq_false h0, hCx]
                  by_cases h9 : Cx = (i : Int) <;> simp [h9]
                rw [hCx] at HCP
                clear h0 hCx
                go_wp2_with first | (go_at_call 25; refine Calls.mono HNS.out ?_; rintro e w4 ⟨rfl, hb⟩; have HB4 : Hid (Below w1.heap.size w1 w4) := below_trans HBW.out hb; clear t0 t1 t2 t3 t4; obtain ⟨t0, t1, t2, t3, t4⟩ := HBX.out w4 hb; obtain ⟨q0, q1⟩ := HQ.out w4 HB4.out; clear hb) | (go_at_call 26; refine Calls.mono (HCP.out _ HB4.out) ?_; rintro e w5 ⟨rfl, hb⟩; have HB5 : Hid (Below w1.heap.size w1 w5) := below_trans HB4.out hb; clear hb)
                go_meet
                exact ⟨by rw [← HE.out] <;> rfl, HB5⟩
          case rest =>
            obtain ⟨rfl, HB6⟩ := hcut
            clear HNS HNA2 HBW HB t0 t1 t2 t3 t4 HBX
            cases hq : nat' l i with
            | false =>
              have : V = false := by rw [← HV2.out, all_take n i HIL.out hq, Bool.false_and]
              subst this
              clear hq
              go_wp2_with fail
              go_ret
              exact ⟨rfl, below_trans HB1.out HB6.out⟩
            | true =>
              have HA2 : Hid ((List.range (i + 1)).all (nat' l) = true) := all_snoc i HA.out hq
              clear hq
              go_wp2_with fail
              go_roundg (n - (i + 1))
              case measure => have := HI.out; have := HIL.out; omega
              case rel => exact ⟨i + 1, by simp, ⟨HIL.out, rfl⟩, HA2, HB6⟩
        · have e1 : decide ((i : Int) < (n : Int)) = false := by rw [decide_eq_false_iff_not]; omega
          have e2 : decide (i < n) = false := by rw [decide_eq_false_iff_not]; omega
          have hAA := HA.out
          have hin : i = n := by have := HI.out; omega
          rw [hin] at hAA
          have hV := HV2.out
          rw [hAA, Bool.true_and] at hV
          have HV3 : Hid (cs.all (csh l) = V) := hV
          clear hi hAA hin hV HV2 HA
          obtain ⟨q0, q1⟩ := HQ.out wr HB.out
          go_upto_region 10 with fail
          clear q0 q1
          obtain ⟨wo, hwo⟩ : ∃ wo, wo = wr := ⟨_, rfl⟩
          rw [← hwo] at HB ⊢
          clear hwo
          go_loopg [53] m (fun gm v53 wr => ∃ j : Nat, v53 = .int .i64 (j : Int) ∧ Hid (j ≤ m ∧ gm = m - j) ∧ Hid ((cs.take j).all (csh l) = true) ∧ Hid (Below w1.heap.size w1 wr))
          case atStart => exact ⟨0, rfl, ⟨Nat.zero_le _, rfl⟩, rfl, HB⟩
          case round =>
            clear HB
            obtain ⟨j, rfl, HJ, HA, HB⟩ := hrel
            by_cases hj : j < m
            · have e1 : decide ((j : Int) < (m : Int)) = true := by rw [decide_eq_true_eq]; omega
              have e2 : decide (j < m) = true := by rw [decide_eq_true_eq]; omega
              have e3 : (j : Int) < (m : Int) := by omega
              have HJL : Hid (j < m) := hj
              have hjl : j < cs.length := by rw [HLM.out]; exact hj
              obtain ⟨g2, o, rfl, c0, c1, c2, c3⟩ := (HC.out wr HB.out).all j hjl
              obtain ⟨x, hx⟩ : ∃ x, cs.getD j cz = x := ⟨_, rfl⟩
              rw [hx] at c0 c1 c2 c3
              have HX : Hid (cs.getD j cz = x) := hx
              have hwi := w64n j (by have := HN32.out; omega)
              obtain ⟨W2, hW2⟩ : ∃ W2, W2 = wr.alloc (.cells #[.bool x.nt, .string x.a, .string x.b, .string x.tx] 38) := ⟨_, rfl⟩
              clear hj hjl hx
              go_upto_region 12 with fail
              rw [← hW2]
              have hn2 := heap_new wr (.cells #[.bool x.nt, .string x.a, .string x.b, .string x.tx] 38)
              have hb2 : Below wr.heap.size wr W2 := by rw [hW2]; exact bel_up _ _
              rw [← hW2] at hn2
              have t0 := rcell hn2 0 _ rfl
              have t1 := rcell hn2 1 _ rfl
              have t2 := rcell hn2 2 _ rfl
              have t3 := rcell hn2 3 _ rfl
              have HBW : Hid (Below w1.heap.size w1 W2) := below_trans HB.out hb2
              obtain ⟨q0, q1⟩ := HQ.out W2 HBW.out
              have HCS : Hid _ := condShaped_any x W2 (HP.out W2 HBW.out) (by rw [HLN.out]; have := HN32.out; omega)
              unfold cV at HCS
              obtain ⟨S, hS⟩ : ∃ S, csh l x = S := ⟨_, rfl⟩
              rw [hS] at HCS
              have HS : Hid (csh l x = S) := hS
              clear hW2 hn2 hb2 hS c0 c1 c2 c3
              cases S with
              | true =>
                have HA2 : Hid ((cs.take (j + 1)).all (csh l) = true) := take_all_snoc l cs j (by rw [HLM.out]; exact HJL.out) HA.out (by rw [HX.out]; exact HS.out)
                go_wp2_with (go_at_call 27; refine Calls.mono HCS.out ?_; rintro e w4 ⟨rfl, hb⟩; have HB4 : Hid (Below w1.heap.size w1 w4) := below_trans HBW.out hb; clear hb)
                go_roundg (m - (j + 1))
                case measure => have := HJ.out; have := HJL.out; omega
                case rel => exact ⟨j + 1, by simp, ⟨HJL.out, rfl⟩, HA2, HB4⟩
              | false =>
                have : V = false := by rw [← HV3.out]; exact all_not l cs j (by rw [HLM.out]; exact HJL.out) (by rw [HX.out]; exact HS.out)
                subst this
                go_wp2_with (go_at_call 27; refine Calls.mono HCS.out ?_; rintro e w4 ⟨rfl, hb⟩; have HB4 : Hid (Below w1.heap.size w1 w4) := below_trans HBW.out hb; clear hb)
                go_ret
                exact ⟨rfl, below_trans HB1.out HB4.out⟩
            · have e1 : decide ((j : Int) < (m : Int)) = false := by rw [decide_eq_false_iff_not]; omega
              have e2 : decide (j < m) = false := by rw [decide_eq_false_iff_not]; omega
              have : V = true := by
                rw [← HV3.out]
                have h9 := HA.out
                rw [List.take_of_length_le (by rw [HLM.out]; omega)] at h9
                exact h9
              subst this
              clear hj
              go_wp2_with fail
              go_ret
              exact ⟨rfl, below_trans HB1.out HB.out⟩
end Go.Proofs.YtcmhbcfgikmblabGreatDoor.Qy
