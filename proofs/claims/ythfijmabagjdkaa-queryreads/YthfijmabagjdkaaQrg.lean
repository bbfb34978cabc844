import Derived.Test.YthfijmabagjdkaaQrf
namespace Go.Proofs.Ythfijmabagjdkaa.Qy
open Go.RowKit Go.Maps

theorem info_parts {e : TypeId} {z : Value} {s b : Nat} (h : (Try.prog.info? e).map (fun i => (i.zero, i.size, i.bytes)) = some (some z, s, b)) : ∃ i, Try.prog.info? e = some i ∧ i.zero = some z ∧ i.size = s ∧ i.bytes = b := by
  cases hi : Try.prog.info? e with
  | none => rw [hi] at h; cases h
  | some i =>
    rw [hi] at h
    have h1 : (i.zero, i.size, i.bytes) = (some z, s, b) := Option.some.inj h
    exact ⟨i, rfl, congrArg (·.1) h1, congrArg (·.2.1) h1, congrArg (·.2.2) h1⟩
theorem Rq.app {B : Nat} {W W5 : World} {r : Nat} {vn vc v5 : Value} {s : Rs} {o : Obj} (p : Pn) (h : Rq B W r vn vc s) (hg : (W.alloc o).grownBy W5 vn.ownBlock) (ho : W5.ownsRow B 46 5 v5 (s.ns.length + 1) (flat pf s.ns ++ pf p)) : Rq B (W5.setCell ⟨r, 1, none⟩ v5) r v5 vc ⟨s.ws, s.ns ++ [p], s.cs, s.co⟩ ∧ Below B W (W5.setCell ⟨r, 1, none⟩ v5) := by
  obtain ⟨vl, h1, h2⟩ := h.blk
  have hg' : W.grownBy W5 vn.ownBlock := (World.grownBy_alloc W o vn.ownBlock).trans hg
  have hb : Below B W W5 := (Below.refl B W).grown hg' h.size.1 (fun r hr => (row_tag h.ns r hr).1)
  have hb2 : Below B W (W5.setCell ⟨r, 1, none⟩ v5) := Below.setCell hb h.lt _
  have k1 : W5.heap[r]? = some (.cells #[vl, vn, vc, .int .i64 s.co] 43 (0, 0)) := (hg'.block r (lt_of_heap h1) (fun e => tag_ne_blk h.ns h1 (by decide) e.symm)).trans h1
  have kc : W5.ownsRow B 48 4 vc s.cs.length (flat cf s.cs) := h.cs.kept hg' (tag_ne h.cs h.ns (by decide))
  have kn : W5.ownsRow B 46 5 v5 (s.ns ++ [p]).length (flat pf (s.ns ++ [p])) := by
    rw [List.length_append, flat_app]
    have : flat pf [p] = pf p := by simp [flat]
    rw [this]
    exact ho
  exact ⟨⟨h.lt, ⟨vl, by rw [blk_set _ k1]; rfl, h2.up hb2⟩, (row_off k1 kn (by decide)).1, (row_off k1 kc (by decide)).1, h.wk⟩, hb2⟩
theorem Rq.appC {B : Nat} {W W5 : World} {r : Nat} {vn vc v5 : Value} {s : Rs} {o : Obj} (p : Cd) (h : Rq B W r vn vc s) (hg : (W.alloc o).grownBy W5 vc.ownBlock) (ho : W5.ownsRow B 48 4 v5 (s.cs.length + 1) (flat cf s.cs ++ cf p)) : Rq B (W5.setCell ⟨r, 2, none⟩ v5) r vn v5 (adC s p) ∧ Below B W (W5.setCell ⟨r, 2, none⟩ v5) := by
  obtain ⟨vl, h1, h2⟩ := h.blk
  have hg' : W.grownBy W5 vc.ownBlock := (World.grownBy_alloc W o vc.ownBlock).trans hg
  have hb : Below B W W5 := (Below.refl B W).grown hg' h.size.1 (fun r hr => (row_tag h.cs r hr).1)
  have hb2 : Below B W (W5.setCell ⟨r, 2, none⟩ v5) := Below.setCell hb h.lt _
  have k1 : W5.heap[r]? = some (.cells #[vl, vn, vc, .int .i64 s.co] 43 (0, 0)) := (hg'.block r (lt_of_heap h1) (fun e => tag_ne_blk h.cs h1 (by decide) e.symm)).trans h1
  have kn : W5.ownsRow B 46 5 vn s.ns.length (flat pf s.ns) := h.ns.kept hg' (tag_ne h.ns h.cs (by decide))
  have kc : W5.ownsRow B 48 4 v5 (s.cs ++ [p]).length (flat cf (s.cs ++ [p])) := by
    rw [List.length_append, flat_app]
    have : flat cf [p] = cf p := by simp [flat]
    rw [this]
    exact ho
  exact ⟨⟨h.lt, ⟨vl, by rw [blk_set _ k1]; rfl, h2.up hb2⟩, (row_off k1 kn (by decide)).1, (row_off k1 kc (by decide)).1, h.wk⟩, hb2⟩
theorem tail_two (l : List Wd) : l.tail.tail = l.drop 2 := by
  cases l with
  | nil => rfl
  | cons x l => cases l <;> rfl
theorem ndS_dn {n i : Nat} {s s1 : Rs} (h : ndS n s i = (true, s1)) (hv : Iv s) (hi : i < s.ns.length) : Dn s s1 0 := by
  unfold ndS at h
  split at h
  · simp at h
  · split at h
    · simp only [Prod.mk.injEq, true_and] at h
      have h4 := Iv.up hv.tl.iv i (fun p => { p with lit := true, nm := bs (hd s).t }) (by intro p; rfl) hi
      rw [h] at h4
      exact hv.tl.trans0 h4
    · split at h
      · simp at h
      · have h4 := nms_dn hv.tl.iv i hi
        have h5 := (rdP_dn n).2 _ _ _ h h4.iv (by have := h4.ns; have h9 : (tl s).ns.length = s.ns.length := rfl; omega)
        exact hv.tl.trans0 (h4.trans0 h5)
set_option maxRecDepth 100000 in
set_option maxHeartbeats 8000000 in
theorem pattern_any (n : Nat) (hC : ∀ m, m < n → CC m) : PC n := by
  intro B r vn vc s w h hv hm
  obtain ⟨iP, hiP, hx0, hx1, hx2⟩ := info_parts infoP
  obtain ⟨n, rfl⟩ : ∃ k, n = k + 1 := by
    obtain ⟨x, l, hl⟩ := h.wk.ne
    rw [hl] at hm
    exact ⟨n - 1, by simp at hm; omega⟩
  have HCC : Hid (CC n) := hC n (by omega)
  have HF : Hid _ := fieldAhead_any w h
  have HN : Hid _ := nodeAhead_any w h
  have HR : Hid (Rq B w r vn vc s) := h
  have HB0 : Hid (B ≤ w.heap.size) := h.size.1
  have HV : Hid (Iv s) := hv
  have HM : Hid (2 * s.ws.length ≤ n + 1) := hm
  obtain ⟨R, hR⟩ : ∃ R, rdP (n + 1) none s = R := ⟨_, rfl⟩
  rw [hR]
  rw [rdP_node] at hR
  clear h hv hm hC
  by_cases c1 : (!fdA s && !ndA s) = true
  · rw [if_pos c1] at hR
    subst hR
    simp only [Bool.and_eq_true, Bool.not_eq_true'] at c1
    rw [c1.1] at HF
    rw [c1.2] at HN
    clear c1
    go_enter Try.func25, Try.ntmps25
    go_wp2_with first | (go_at_call 42; refine Calls.mono HF.out ?_; rintro e w1 ⟨rfl, rfl⟩) | (go_at_call 43; refine Calls.mono HN.out ?_; rintro e w2 ⟨rfl, hb⟩; have HK : Hid (Kp B w w2 r vn vc s) := (Kp.refl HR.out).up hb; clear hb) | (go_at_call 44; refine (fail_any 200 _ HK.out.1).mono ?_; rintro e w3 ⟨rfl, hk⟩; have HK3 : Hid (Kp B w w3 r vn vc (fl s 200)) := HK.out.trans hk; clear hk)
    go_ret
    exact ⟨rfl, HK3.out.mp HB0.out⟩
  · rw [if_neg c1] at hR
    have HRR : Hid _ := hR
    obtain ⟨F, hF⟩ : ∃ F, fdA s = F := ⟨_, rfl⟩
    obtain ⟨D, hD⟩ : ∃ D, ndA s = D := ⟨_, rfl⟩
    rw [hF] at HF
    rw [hD] at HN
    have hFD : F = true ∨ F = false ∧ D = true := by
      rw [hF, hD] at c1
      cases F <;> cases D <;> simp at c1 ⊢
    have HFD : Hid (fdA s = F) := hF
    obtain ⟨ra, rc, hrv⟩ := row_shape HR.out.ns
    subst hrv
    obtain ⟨ln, hln⟩ : ∃ ln, s.ns.length = ln := ⟨_, rfl⟩
    have HLN : Hid (s.ns.length = ln) := hln
    rw [hln] at HR
    clear c1 hF hD hR
    go_enter Try.func25, Try.ntmps25
    go_upto_region 1 with fail
    go_cut [11] from 4 to 11 (fun v11 wd => v11 = .bool false ∧ Hid (Kp B w wd r (.slice ra ln rc) vc s))
    case first =>
      rcases hFD with rfl | ⟨rfl, rfl⟩
      · go_wp2_with first | (go_at_call 42; refine Calls.mono HF.out ?_; rintro e w1 ⟨rfl, rfl⟩)
        go_meet
        exact ⟨rfl, Kp.refl HR.out⟩
      · go_wp2_with first | (go_at_call 42; refine Calls.mono HF.out ?_; rintro e w1 ⟨rfl, rfl⟩) | (go_at_call 43; refine Calls.mono HN.out ?_; rintro e w2 ⟨rfl, hb⟩; have HK : Hid (Kp B w w2 r (.slice ra ln rc) vc s) := (Kp.refl HR.out).up hb; clear hb)
        go_meet
        exact ⟨rfl, HK.out⟩
    case rest =>
      obtain ⟨rfl, HK⟩ := hcut
      clear HF HN hFD HR
      have hR := HRR.out
      clear HRR
      rw [HLN.out] at hR
      obtain ⟨_, _, _, _, _, k1, _⟩ := HK.out.1.open
      by_cases h32 : ln = 32
      · rw [if_pos h32] at hR
        subst hR
        have d1 : ((ln : Int) == 32) = true := by rw [h32]; rfl
        have d2 : (ln == 32) = true := by rw [h32]; rfl
        clear h32
        go_wp2_with (go_at_call 44; refine (fail_any 202 _ HK.out.1).mono ?_; rintro e w3 ⟨rfl, hk⟩; have HK3 : Hid (Kp B w w3 r (.slice ra ln rc) vc (fl s 202)) := HK.out.trans hk; clear hk)
        go_ret
        exact ⟨rfl, HK3.out.mp HB0.out⟩
      · rw [if_neg h32] at hR
        have d1 : ((ln : Int) == 32) = false := by rw [beq_eq_false_iff_ne]; omega
        have d2 : (ln == 32) = false := by rw [beq_eq_false_iff_ne]; omega
        obtain ⟨o1, o2⟩ := opn_dn HV.out (by rw [HLN.out]; exact h32)
        have HO : Hid (Iv (opn s) ∧ (opn s).ns.length = ln + 1 ∧ (opn s).ws.length ≤ s.ws.length ∧ ln ≤ 32) := ⟨o1.iv, by rw [o2, HLN.out], o1.ws, by have := HV.out.nl; have := HLN.out; omega⟩
        have HRR : Hid _ := hR
        have HROW : Hid ((wc.alloc (.cells #[.string ⟨#[]⟩, .bool false, .string ⟨#[]⟩, .string ⟨#[]⟩, .int .i64 0] 46)).ownsRow B 46 5 (.slice ra ln rc) ln (flat pf s.ns)) := by
          have h9 := HK.out.1.ns
          rw [HLN.out] at h9
          exact h9.alloc _
        have HSZ : Hid (B ≤ wc.heap.size) := HK.out.1.size.1
        have hf := HK.out.1.froz 1
        clear h32 o1 o2 hR
        go_upto_region 7 with (at_builtin; refine wpList_append_own_at _ rfl _ _ 22 rfl B 46 iP (.agg #[.string ⟨#[]⟩, .bool false, .string ⟨#[]⟩, .string ⟨#[]⟩, .int .i64 0]) 5 64 Try.underlying22 hiP hx0 hx1 hx2 rfl (by decide) _ _ _ rfl HROW.out ⟨wc.heap.size, 0, none⟩ 1 1 [.string ⟨#[]⟩, .bool false, .string ⟨#[]⟩, .string ⟨#[]⟩, .int .i64 0] rfl rfl (World.news_of_block (heap_new wc _)) (by simp [Value.oneCell']) (by have := HO.out.2.2.2; unfold maxLen; omega) (by have := HO.out.2.2.2; omega) (by have := HSZ.out; simp; omega) ?_; intro v5 w5 ho5 hg5 _ ha5; have HO5 : Hid (w5.ownsRow B 46 5 v5 (ln + 1) (flat pf s.ns ++ pf pz)) := ho5; have HG5 : Hid ((wc.alloc (.cells #[.string ⟨#[]⟩, .bool false, .string ⟨#[]⟩, .string ⟨#[]⟩, .int .i64 0] 46)).grownBy w5 (Value.ownBlock (.slice ra ln rc))) := hg5; obtain ⟨qa, qc, rfl⟩ := row_shape ho5; have c5 : w5.cell? ⟨r, 1, none⟩ = some (.slice ra ln rc) := (by obtain ⟨vl, hb, _⟩ := HK.out.1.blk; exact cel_of ((World.grownBy_alloc _ _ _).trans HG5.out) hb HK.out.1.ns (by decide) rfl); have z5 : w5.frozen? ⟨r, 1, none⟩ = false := (by obtain ⟨vl, hb, _⟩ := HK.out.1.blk; exact froz_of ((World.grownBy_alloc _ _ _).trans HG5.out) hb HK.out.1.ns (by decide)); clear ho5 hg5 ha5)
        obtain ⟨W6, hW6⟩ : ∃ W6, W6 = w5.setCell ⟨r, 1, none⟩ (.slice qa (ln + 1) qc) := ⟨_, rfl⟩
        obtain ⟨s1, hs1⟩ : ∃ s1 : Rs, s1 = ⟨s.ws, s.ns ++ [pz], s.cs, s.co⟩ := ⟨_, rfl⟩
        have h6 := HK.out.1.app (W5 := w5) (v5 := .slice qa (ln + 1) qc) pz HG5.out (by rw [HLN.out]; exact HO5.out)
        rw [← hW6, ← hs1] at h6
        rw [← hW6]
        have HR6 : Hid (Rq B W6 r (.slice qa (ln + 1) qc) vc s1) := h6.1
        have HB6 : Hid (Below B w W6) := (HK.out.bel HB0.out).trans h6.2
        have HF6 : Hid _ := fieldAhead_any W6 HR6.out
        have HS1 : Hid (opn s = fld s1) := by rw [hs1]; exact rfl
        have HL1 : Hid (s1.ns.length = ln + 1) := by rw [hs1]; show (s.ns ++ [pz]).length = _; rw [List.length_append, HLN.out]; rfl
        clear hW6 hs1 h6 HO5 HG5 HK HROW HSZ hf c5 z5 k1 d1 d2 HFD HLN hln hiP hx0 hx1 hx2
        obtain ⟨F1, hF1⟩ : ∃ F1, fdA s1 = F1 := ⟨_, rfl⟩
        rw [hF1] at HF6
        go_upto_if 37 with (go_at_call 42; refine Calls.mono HF6.out ?_; rintro e w1 ⟨rfl, rfl⟩)
        clear HF6
        go_cut [] from 37 to 60 (fun wd => ∃ vn', Hid (Rq B wd r vn' vc (opn s)) ∧ Hid (Below B w wd))
        case first =>
          cases F1 with
          | false =>
            have hA := hF1
            have HE : Hid (fld s1 = s1) := by unfold fld; rw [hA]; exact rfl
            clear hA hF1
            go_wp2_with fail
            go_meet
            exact ⟨_, by rw [HS1.out, HE.out]; exact HR6.out, HB6.out⟩
          | true =>
            have hA := hF1
            have hk : (hd s1).k ≠ 0 ∧ (hd (tl s1)).k ≠ 0 := by
              unfold fdA nmA se at hA
              simp only [Bool.and_eq_true, beq_iff_eq] at hA
              omega
            have HE : Hid (fld s1 = upN ⟨s1.ws.drop 2, s1.ns, s1.cs, s1.co⟩ (s1.ns.length - 1) fun p => { p with fd := bs (hd s1).t }) := by unfold fld; rw [hA]; exact rfl
            have HKK : Hid ((hd s1).k ≠ 0 ∧ (hd (tl s1)).k ≠ 0) := hk
            obtain ⟨g, o, m, cp, k0, n1, hcp, c0, c1, _, _, _⟩ := HR6.out.two hk.1
            obtain ⟨_, _, _, _, _, k1, _⟩ := HR6.out.open
            obtain ⟨g2, cc, e2, hg, ⟨cur, hcur⟩, hc, _, _, q2, _, _, qf, hgr⟩ := HR6.out.row ln (by rw [HL1.out]; omega)
            obtain ⟨e3, e4, e5⟩ := Value.slice.inj e2
            subst e3 e5
            have HG2 : Hid (B ≤ g2 ∧ g2 ≠ r) := ⟨hg, hgr⟩
            have f2 := qf (ln * 5 + 2)
            have a1 : (ln : Int) < ((ln + 1 : Nat) : Int) := by omega
            obtain ⟨lm, hlm⟩ : ∃ lm, ln + 1 = lm := ⟨_, rfl⟩
            have HLM : Hid (ln + 1 = lm) := hlm
            rw [hlm] at k1 a1 HR6
            have a2 : ln < lm := by omega
            have a3 : (0 : Int) < (m : Int) := by omega
            have a4 : 0 < m := by omega
            clear hA hF1 hk e2 e4 hg hcur hc qf hgr hlm c0
            go_upto_region 8 with fail
            have j0 : W6.drew.cell? ⟨r, 0, none⟩ = some (.slice (some ⟨g, o, none⟩) m cp) := k0
            have j1 : W6.drew.cell? ⟨r, 1, none⟩ = some (.slice (some ⟨g2, 0, none⟩) lm qc) := k1
            have j2 : W6.drew.cell? ⟨g, o + 1, none⟩ = some (.string ⟨(hd s1).t.toArray⟩) := c1
            have j3 : W6.drew.cell? ⟨g2, ln * 5 + 2, none⟩ = some (.string (s1.ns.getD ln pz).fd) := q2
            have j4 : W6.drew.frozen? ⟨g2, ln * 5 + 2, none⟩ = false := f2
            go_region
            obtain ⟨W7, hW7⟩ : ∃ W7, W7 = (W6.setCell ⟨g2, ln * 5 + 2, none⟩ (.string ⟨(hd s1).t.toArray⟩)).drew := ⟨_, rfl⟩
            have HR7 : Hid (Rq B W7 r (.slice (some ⟨g2, 0, none⟩) lm qc) vc (upN s1 ln fun p => { p with fd := bs (hd s1).t })) := by rw [hW7]; exact (HR6.out.setN ln 2 (.string ⟨(hd s1).t.toArray⟩) (fun p => { p with fd := bs (hd s1).t }) (by rw [HL1.out]; omega) (by omega) rfl).drew
            have HB7 : Hid (Below B w W7) := by rw [hW7]; exact Below.drew (Below.setCell HB6.out HG2.out.1 _)
            rw [← hW7]
            clear hW7 j0 j1 j2 j3 j4 k0 k1 c1 q2 f2 a1 a2 a3 a4 hcp n1
            obtain ⟨g, o, m, cp, k0, n1, hcp, _, _, _, _, ht⟩ := HR7.out.two (show (hd s1).k ≠ 0 from HKK.out.1)
            have HT : Hid _ := ht (show (hd (tl s1)).k ≠ 0 from HKK.out.2)
            have f0 := HR7.out.froz 0
            have a1 : (2 : Int) ≤ (m : Int) := by omega
            have a2 : 2 ≤ m := by omega
            have a3 : ¬ cp = 2 := by have := HT.out.1; omega
            clear ht n1
            go_wp2_with fail
            go_meet
            have h9 := HR7.out.set0 HT.out.2.2 HT.out.2.1
            have e8 : opn s = ⟨(tl (tl (upN s1 ln fun p => { p with fd := bs (hd s1).t }))).ws, (upN s1 ln fun p => { p with fd := bs (hd s1).t }).ns, s1.cs, s1.co⟩ := by
              rw [HS1.out, HE.out, HL1.out]
              show upN ⟨s1.ws.drop 2, s1.ns, s1.cs, s1.co⟩ ln _ = _
              rw [← tail_two]
              rfl
            exact ⟨.slice (some ⟨g2, 0, none⟩) lm qc, by rw [e8]; exact h9, Below.setCell HB7.out HR7.out.lt _⟩
        case rest =>
          clear HR6 HB6 HS1 HL1 hF1
          obtain ⟨vn8, HR8, HB8⟩ := hcut
          have hR := HRR.out
          clear HRR
          have HCN : Hid _ := node_any n ln HCC.out wc HR8.out HO.out.1 (by have := HO.out.2.1; omega) (by have := HO.out.2.2.1; have := HM.out; omega)
          cases hq : ndS n (opn s) ln with
          | mk b s9 =>
            rw [hq] at hR HCN
            cases b with
            | false =>
              simp only at hR
              subst hR
              clear hq
              go_wp2_with (go_at_call 45; refine Calls.mono HCN.out ?_; rintro e w9 ⟨rfl, hk⟩; have HK9 : Hid (Mp B wc w9 r s9) := hk; clear hk)
              go_ret
              exact ⟨rfl, HK9.out.rq, HB8.out.trans HK9.out.be⟩
            | true =>
              simp only at hR
              subst hR
              have HL9 : Hid (ln < s9.ns.length ∧ s9.ns.length ≤ 32) := by
                have h9 := ndS_dn hq HO.out.1 (by have := HO.out.2.1; omega)
                have := h9.ns
                have := h9.iv.nl
                have := HO.out.2.1
                exact ⟨by omega, by omega⟩
              clear hq
              go_wp2_with first | (go_at_call 45; refine Calls.mono HCN.out ?_; rintro e w9 ⟨rfl, hk⟩; have HK9 : Hid (Mp B wc w9 r s9) := hk; clear hk; obtain ⟨vn9, vc9, hr9⟩ := HK9.out.rq; have HR9 : Hid (Rq B w9 r vn9 vc9 s9) := hr9; clear hr9) | (go_at_call 46; refine (capture_any ln w9 HR9.out (by have := HL9.out.2; omega) HL9.out.1).mono ?_; rintro e w10 ⟨rfl, hk⟩; have HK10 : Hid (Mp B w9 w10 r (cpt s9 ln).2) := hk; clear hk)
              go_ret
              refine ⟨?_, HK10.out.rq, (HB8.out.trans HK9.out.be).trans HK10.out.be⟩
              rfl
/-- Patterns and children, whatever their length. -/
theorem both_any : ∀ (n : Nat), PC n ∧ CC n := by
  intro n
  induction n using Nat.strongRecOn with
  | _ n ih => exact ⟨pattern_any n (fun m hm => (ih m hm).2), children_any n (fun m hm => (ih m hm).1)⟩
end Go.Proofs.Ythfijmabagjdkaa.Qy
