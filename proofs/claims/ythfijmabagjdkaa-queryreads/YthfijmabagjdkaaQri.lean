import Derived.Test.YthfijmabagjdkaaQrh
namespace Go.Proofs.Ythfijmabagjdkaa.Qy
open Go.RowKit Go.Maps

/-- A condition, behind its first word. -/
def cdB (s1 : Rs) (nt : Bool) : Bool × Rs × Cd := match mst s1 [64] with
  | (false, s2) => (false, s2, ⟨nt, ⟨#[]⟩, ⟨#[]⟩, ⟨#[]⟩⟩)
  | (true, s2) => match cnm s2 true with
    | (false, s3) => (false, s3, ⟨nt, ⟨#[]⟩, ⟨#[]⟩, ⟨#[]⟩⟩)
    | (true, s3) => match mst s3 [61] with
      | (false, s4) => (false, s4, ⟨nt, bs (hd s2).t, ⟨#[]⟩, ⟨#[]⟩⟩)
      | (true, s4) => ((oth s4).1, (oth s4).2.1, ⟨nt, bs (hd s2).t, (oth s4).2.2.1, (oth s4).2.2.2⟩)
theorem cnd_cdB (s : Rs) : cnd s = if !se s 1 [117, 110, 108, 101, 115, 115] && !se s 1 [119, 104, 101, 110] then (false, fl s 200) else if s.cs.length = 16 then (false, fl s 202) else ((cdB (tl s) (se s 1 [117, 110, 108, 101, 115, 115])).1, adC (cdB (tl s) (se s 1 [117, 110, 108, 101, 115, 115])).2.1 (cdB (tl s) (se s 1 [117, 110, 108, 101, 115, 115])).2.2) := by
  unfold cnd cdB
  split
  · rfl
  · split
    · rfl
    · cases mst (tl s) [64] with
      | mk b s1 =>
        cases b with
        | false => rfl
        | true =>
          simp only
          cases cnm s1 true with
          | mk b s2 =>
            cases b with
            | false => rfl
            | true =>
              simp only
              cases mst s2 [61] with
              | mk b s3 => cases b <;> rfl
theorem mst_ns (s : Rs) (t : List UInt8) : (mst s t).2.ns = s.ns ∧ (mst s t).2.cs = s.cs := by unfold mst; split <;> exact ⟨rfl, rfl⟩
theorem cnm_ns (s : Rs) (k : Bool) : (cnm s k).2.ns = s.ns ∧ (cnm s k).2.cs = s.cs := by
  unfold cnm
  split
  · split <;> exact ⟨rfl, rfl⟩
  · exact ⟨rfl, rfl⟩
theorem oth_ns (s : Rs) : (oth s).2.1.ns = s.ns ∧ (oth s).2.1.cs = s.cs := by
  unfold oth
  split
  · exact ⟨rfl, rfl⟩
  · have h1 := mst_ns s [64]
    cases hq : mst s [64] with
    | mk b s1 =>
      rw [hq] at h1
      cases b with
      | false => exact h1
      | true =>
        simp only
        have h2 := cnm_ns s1 true
        cases hq2 : cnm s1 true with
        | mk b s2 =>
          rw [hq2] at h2
          cases b with
          | false => exact ⟨h2.1.trans h1.1, h2.2.trans h1.2⟩
          | true => exact ⟨h2.1.trans h1.1, h2.2.trans h1.2⟩
theorem cdB_ns (s : Rs) (nt : Bool) : (cdB s nt).2.1.ns = s.ns ∧ (cdB s nt).2.1.cs = s.cs := by
  unfold cdB
  have h1 := mst_ns s [64]
  cases hq : mst s [64] with
  | mk b s1 =>
    rw [hq] at h1
    cases b with
    | false => exact h1
    | true =>
      simp only
      have h2 := cnm_ns s1 true
      cases hq2 : cnm s1 true with
      | mk b s2 =>
        rw [hq2] at h2
        cases b with
        | false => exact ⟨h2.1.trans h1.1, h2.2.trans h1.2⟩
        | true =>
          simp only
          have h3 := mst_ns s2 [61]
          cases hq3 : mst s2 [61] with
          | mk b s3 =>
            rw [hq3] at h3
            have h4 : s3.ns = s.ns ∧ s3.cs = s.cs := ⟨(h3.1.trans h2.1).trans h1.1, (h3.2.trans h2.2).trans h1.2⟩
            cases b with
            | false => exact h4
            | true => exact ⟨(oth_ns s3).1.trans h4.1, (oth_ns s3).2.trans h4.2⟩
set_option maxRecDepth 100000 in
set_option maxHeartbeats 8000000 in
theorem cond_any {B r : Nat} {vn vc : Value} {s : Rs} (w : World) (h : Rq B w r vn vc s) (hl : s.ns.length ≤ 32) (hc : s.cs.length ≤ 16) : Calls Try.prog 26 #[.pointer (some ⟨r, 0, none⟩)] w fun e w' => e = .returned (.bool (cnd s).1) ∧ Mp B w w' r (cnd s).2 := by
  obtain ⟨iC, hiC, hx0, hx1, hx2⟩ := info_parts infoC
  have HR : Hid (Rq B w r vn vc s) := h
  have HB0 : Hid (B ≤ w.heap.size) := h.size.1
  have HU : Hid _ := sees_any 1 [117, 110, 108, 101, 115, 115] w h
  have HLN : Hid (s.ns.length ≤ 32) := hl
  have HLC0 : Hid (s.cs.length ≤ 16) := hc
  obtain ⟨R, hR⟩ : ∃ R, cnd s = R := ⟨_, rfl⟩
  rw [hR]
  rw [cnd_cdB] at hR
  have HK1 : Hid (se s 1 [117, 110, 108, 101, 115, 115] = true ∨ se s 1 [119, 104, 101, 110] = true → (hd s).k ≠ 0) := fun hh => by
    unfold se at hh
    simp only [Bool.and_eq_true, beq_iff_eq] at hh
    omega
  obtain ⟨un, hun⟩ : ∃ un, se s 1 [117, 110, 108, 101, 115, 115] = un := ⟨_, rfl⟩
  obtain ⟨wh, hwh⟩ : ∃ wh, se s 1 [119, 104, 101, 110] = wh := ⟨_, rfl⟩
  rw [hun] at HU hR HK1
  rw [hwh] at hR HK1
  have HWH : Hid (se s 1 [119, 104, 101, 110] = wh) := hwh
  have HRR : Hid _ := hR
  obtain ⟨a1, c1, hvc⟩ := row_shape h.cs
  subst hvc
  obtain ⟨ln, hln⟩ : ∃ ln, s.cs.length = ln := ⟨_, rfl⟩
  rw [hln] at HR HRR HLC0
  have HLL : Hid (s.cs.length = ln) := hln
  clear h hl hc hR hun hwh hln
  go_enter Try.func26, Try.ntmps26
  go_upto_region 2 with (go_at_call 47; refine Calls.mono HU.out ?_; rintro e w2 ⟨rfl, hb⟩; have HK : Hid (Kp B w w2 r vn (.slice a1 ln c1) s) := (Kp.refl HR.out).up hb; clear hb)
  clear HU HR
  go_cut [14] from 8 to 14 (fun v14 wd => v14 = .bool (!un && !wh) ∧ Hid (Kp B w wd r vn (.slice a1 ln c1) s))
  case first =>
    cases un with
    | true =>
      go_wp2_with fail
      go_meet
      exact ⟨rfl, HK⟩
    | false =>
      have HS : Hid _ := sees_any 1 [119, 104, 101, 110] w2 HK.out.1
      rw [HWH.out] at HS
      go_wp2_with (go_at_call 47; refine Calls.mono HS.out ?_; rintro e w3 ⟨rfl, hb⟩; have HK3 : Hid (Kp B w w3 r vn (.slice a1 ln c1) s) := HK.out.up hb; clear hb)
      go_meet
      exact ⟨by cases wh <;> rfl, HK3⟩
  case rest =>
    obtain ⟨rfl, HK2⟩ := hcut
    have hR := HRR.out
    clear HRR HK HWH
    cases hun : (!un && !wh) with
    | true =>
      rw [hun, if_pos rfl] at hR
      subst hR
      clear hun
      go_wp2_with (go_at_call 44; refine (fail_any 200 _ HK2.out.1).mono ?_; rintro e w3 ⟨rfl, hk⟩; have HK3 : Hid (Kp B w w3 r vn (.slice a1 ln c1) (fl s 200)) := HK2.out.trans hk; clear hk)
      go_ret
      exact ⟨rfl, HK3.out.mp HB0.out⟩
    | false =>
      rw [hun, if_neg (by decide)] at hR
      have HK0 : Hid ((hd s).k ≠ 0) := HK1.out (by cases un <;> cases wh <;> simp at hun ⊢)
      clear hun HK1
      obtain ⟨g, o, m, cp, k0, _, k2, _, _, hn, hcp, _, _, _, _, ht⟩ := HK2.out.1.open
      by_cases h16 : ln = 16
      · rw [if_pos h16] at hR
        subst hR
        have d1 : ((ln : Int) == 16) = true := by rw [h16]; rfl
        have d2 : (ln == 16) = true := by rw [h16]; rfl
        clear h16
        go_wp2_with (go_at_call 44; refine (fail_any 202 _ HK2.out.1).mono ?_; rintro e w3 ⟨rfl, hk⟩; have HK3 : Hid (Kp B w w3 r vn (.slice a1 ln c1) (fl s 202)) := HK2.out.trans hk; clear hk)
        go_ret
        exact ⟨rfl, HK3.out.mp HB0.out⟩
      · rw [if_neg h16] at hR
        have d1 : ((ln : Int) == 16) = false := by rw [beq_eq_false_iff_ne]; omega
        have d2 : (ln == 16) = false := by rw [beq_eq_false_iff_ne]; omega
        have HLC : Hid (ln < 16) := by have := HLC0.out; show _ < _; omega
        clear h16 HLC0
        have HT : Hid _ := ht HK0.out
        have f0 := HK2.out.1.froz 0
        have d3 : (1 : Int) ≤ (m : Int) := by omega
        have d4 : 1 ≤ m := by omega
        have d5 : ¬ cp = 1 := by have := HT.out.1; omega
        clear ht hn
        go_upto_region 7 with fail
        obtain ⟨W3, hW3⟩ : ∃ W3, W3 = wc.setCell ⟨r, 0, none⟩ (.slice (some ⟨g, o + 4, none⟩) (m - 1) (cp - 1)) := ⟨_, rfl⟩
        have HK3 : Hid (Kp B w W3 r vn (.slice a1 ln c1) (tl s)) := by rw [hW3]; exact HK2.out.set0 HT.out.2.2 HT.out.2.1
        rw [← hW3]
        clear hW3 k0 f0 d1 d2 d3 d4 d5 hcp HT k2
        go_upto_region 8 with fail
        obtain ⟨W4, hW4⟩ : ∃ W4, W4 = W3.alloc (.cells #[.bool un, .string ⟨#[]⟩, .string ⟨#[]⟩, .string ⟨#[]⟩] 48) := ⟨_, rfl⟩
        have hb4 : Below W3.heap.size W3 W4 := by rw [hW4]; exact bel_up _ _
        have HB4 : Hid (Below B w W4) := (HK3.out.up hb4).bel HB0.out
        obtain ⟨cb, hcb⟩ : ∃ cb, W3.heap.size = cb := ⟨_, rfl⟩
        have HC4 : Hid (Cb B W4 r cb vn (.slice a1 ln c1) (tl s) ⟨un, ⟨#[]⟩, ⟨#[]⟩, ⟨#[]⟩⟩) := by
          refine ⟨HK3.out.1.up hb4, by rw [hW4, ← hcb]; exact heap_new _ _, fun e => ?_, by rw [← hcb]; exact HK3.out.1.size.1⟩
          obtain ⟨_, cur, h9⟩ := row_tag HK3.out.1.cs cb e
          have := lt_of_heap h9
          omega
        rw [← hW4, hcb]
        obtain ⟨D, hD⟩ : ∃ D, cdB (tl s) un = D := ⟨_, rfl⟩
        rw [hD] at hR
        have HDN : Hid (D.2.1.ns = s.ns ∧ D.2.1.cs = s.cs) := by rw [← hD]; exact cdB_ns (tl s) un
        have HD : Hid (cdB (tl s) un = D) := hD
        clear hW4 hb4 hcb hD HK3 HK2
        go_cut [5] from 36 to 50 (fun v5 wd => v5 = .bool D.1 ∧ Hid (Cb B wd r cb vn (.slice a1 ln c1) D.2.1 D.2.2) ∧ Hid (Below B w wd))
        case first =>
          have HM : Hid _ := must_any [64] W4 HC4.out.rq
          have hD := HD.out
          clear HD hR
          unfold cdB at hD
          have hns1 := mst_ns (tl s) [64]
          cases hq : mst (tl s) [64] with
          | mk b s2 =>
            rw [hq] at HM hD hns1
            cases b with
            | false =>
              simp only at hD
              subst hD
              clear hq
              go_wp2_with (go_at_call 48; refine Calls.mono HM.out ?_; rintro e w5 ⟨rfl, hk⟩; have HK5 : Hid (Kp B W4 w5 r vn (.slice a1 ln c1) s2) := hk; clear hk)
              go_meet
              exact ⟨rfl, HC4.out.kp HK5.out, HB4.out.trans (HK5.out.bel HC4.out.rq.size.1)⟩
            | true =>
              simp only at hD
              have HCT : Hid (∀ w2, Cb B w2 r cb vn (.slice a1 ln c1) s2 ⟨un, ⟨#[]⟩, ⟨#[]⟩, ⟨#[]⟩⟩ → Calls Try.prog 49 #[.pointer (some ⟨r, 0, none⟩), .pointer (some ⟨cb, 1, none⟩), .bool true] w2 fun e w' => e = .returned (.bool (cnm s2 true).1) ∧ Cnp B w2 w' r vn (.slice a1 ln c1) ⟨cb, 1, none⟩ s2 true) := fun w2 h2 =>
                captureName_any (old := .string ⟨#[]⟩) true w2 h2.rq (by have := HLN.out; rw [hns1.1]; show s.ns.length ≤ _; omega) h2.far h2.bk rfl
              have hns2 := cnm_ns s2 true
              clear hq
              cases hq2 : cnm s2 true with
              | mk b s3 =>
                rw [hq2] at HCT hD hns2
                have HQ2 : Hid (cnm s2 true = (b, s3)) := hq2
                cases b with
                | false =>
                  simp only at hD HCT
                  subst hD
                  clear hq2
                  go_wp2_with first | (go_at_call 48; refine Calls.mono HM.out ?_; rintro e w5 ⟨rfl, hk⟩; have HK5 : Hid (Kp B W4 w5 r vn (.slice a1 ln c1) s2) := hk; clear hk) | (go_at_call 49; refine Calls.mono (HCT.out _ (HC4.out.kp HK5.out)) ?_; rintro e w6 ⟨rfl, hk⟩; have HK6 : Hid (Kp B W4 w6 r vn (.slice a1 ln c1) s3) := (by unfold Cnp at hk; rw [HQ2.out] at hk; exact HK5.out.trans hk); clear hk)
                  go_meet
                  exact ⟨rfl, HC4.out.kp HK6.out, HB4.out.trans (HK6.out.bel HC4.out.rq.size.1)⟩
                | true =>
                  simp only at hD HCT
                  have HNS : Hid (s3.ns.length ≤ 32) := by
                    show _ ≤ _
                    rw [hns2.1, hns1.1]
                    exact HLN.out
                  have HM3 : Hid (∀ w2, Rq B w2 r vn (.slice a1 ln c1) s3 → Calls Try.prog 48 #[.pointer (some ⟨r, 0, none⟩), .string ⟨#[61]⟩] w2 fun e w' => e = .returned (.bool (mst s3 [61]).1) ∧ Kp B w2 w' r vn (.slice a1 ln c1) (mst s3 [61]).2) := fun w2 h2 => must_any [61] w2 h2
                  have hns3 := mst_ns s3 [61]
                  clear hq2
                  cases hq3 : mst s3 [61] with
                  | mk b s4 =>
                    rw [hq3] at HM3 hD hns3
                    cases b with
                    | false =>
                      simp only at hD HM3
                      subst hD
                      clear hq3
                      go_wp2_with first | (have Z := HK6; clear Z; go_at_call 48; refine Calls.mono (HM3.out _ HK6.out.1.rq) ?_; rintro e w7 ⟨rfl, hk⟩; have HK7 : Hid (Kp B w6 w7 r vn (.slice a1 ln c1) s4) := hk; clear hk) | (go_at_call 48; refine Calls.mono HM.out ?_; rintro e w5 ⟨rfl, hk⟩; have HK5 : Hid (Kp B W4 w5 r vn (.slice a1 ln c1) s2) := hk; clear hk) | (go_at_call 49; refine Calls.mono (HCT.out _ (HC4.out.kp HK5.out)) ?_; rintro e w6 ⟨rfl, hk⟩; have HK6 : Hid (Cb B w6 r cb vn (.slice a1 ln c1) s3 ⟨un, bs (hd s2).t, ⟨#[]⟩, ⟨#[]⟩⟩ ∧ Below B w5 w6) := (HC4.out.kp HK5.out).name hk HQ2.out ⟨un, bs (hd s2).t, ⟨#[]⟩, ⟨#[]⟩⟩ rfl; clear hk)
                      go_meet
                      exact ⟨rfl, HK6.out.1.kp HK7.out, ((HB4.out.trans (HK5.out.bel HC4.out.rq.size.1)).trans HK6.out.2).trans (HK7.out.bel HK6.out.1.rq.size.1)⟩
                    | true =>
                      simp only at hD HM3
                      subst hD
                      have HNS4 : Hid (s4.ns.length ≤ 32) := by
                        show _ ≤ _
                        rw [hns3.1]
                        exact HNS.out
                      clear hq3
                      go_wp2_with first | (have Z := HK6; clear Z; go_at_call 48; refine Calls.mono (HM3.out _ HK6.out.1.rq) ?_; rintro e w7 ⟨rfl, hk⟩; have HK7 : Hid (Kp B w6 w7 r vn (.slice a1 ln c1) s4) := hk; clear hk) | (go_at_call 48; refine Calls.mono HM.out ?_; rintro e w5 ⟨rfl, hk⟩; have HK5 : Hid (Kp B W4 w5 r vn (.slice a1 ln c1) s2) := hk; clear hk) | (go_at_call 49; refine Calls.mono (HCT.out _ (HC4.out.kp HK5.out)) ?_; rintro e w6 ⟨rfl, hk⟩; have HK6 : Hid (Cb B w6 r cb vn (.slice a1 ln c1) s3 ⟨un, bs (hd s2).t, ⟨#[]⟩, ⟨#[]⟩⟩ ∧ Below B w5 w6) := (HC4.out.kp HK5.out).name hk HQ2.out ⟨un, bs (hd s2).t, ⟨#[]⟩, ⟨#[]⟩⟩ rfl; clear hk) | (go_at_call 50; refine (other_any un (bs (hd s2).t) _ (HK6.out.1.kp HK7.out) HNS4.out).mono ?_; rintro e w8 ⟨rfl, hk⟩; have HK8 : Hid (Cb B w8 r cb vn (.slice a1 ln c1) (oth s4).2.1 ⟨un, bs (hd s2).t, (oth s4).2.2.1, (oth s4).2.2.2⟩ ∧ Below B w7 w8) := hk; clear hk)
                      go_meet
                      exact ⟨rfl, HK8.out.1, (((HB4.out.trans (HK5.out.bel HC4.out.rq.size.1)).trans HK6.out.2).trans (HK7.out.bel HK6.out.1.rq.size.1)).trans HK8.out.2⟩
        case rest =>
          obtain ⟨rfl, HC5, HB5⟩ := hcut
          subst hR
          clear HC4 HB4 HD
          obtain ⟨dok, s2, c⟩ := D
          simp only at HC5 HDN ⊢
          go_upto_region 9 with fail
          obtain ⟨WD, hWD⟩ : ∃ WD, wc.drew = WD := ⟨_, rfl⟩
          have HCD : Hid (Cb B WD r cb vn (.slice a1 ln c1) s2 c) := by rw [← hWD]; exact HC5.out.up (Below.drew (Below.refl _ _))
          have HBD : Hid (Below B w WD) := by rw [← hWD]; exact HB5.out.trans (Below.drew (Below.refl _ _))
          have HFAR : Hid (cb ≠ r) := HC5.out.far
          have HS2 : Hid (s2.cs.length = ln) := by show _ = _; rw [HDN.out.2, HLL.out]
          have HROW : Hid ((WD.alloc (.cells #[.bool c.nt, .string c.a, .string c.b, .string c.tx] 48)).ownsRow B 48 4 (.slice a1 ln c1) ln (flat cf s2.cs)) := by
            have h9 := HCD.out.rq.cs
            rw [HS2.out] at h9
            exact h9.alloc _
          have HNR : Hid (Value.ownBlock (.slice a1 ln c1) ≠ some r) := by
            obtain ⟨vl, hb, _⟩ := HCD.out.rq.blk
            exact tag_ne_blk HCD.out.rq.cs hb (by decide)
          obtain ⟨_, _, _, _, _, _, j2, _⟩ := HCD.out.rq.open
          clear HC5 HB5
          refine wp_region_noPanic ?_
          refine wp_region_held_drew (S := fun W => W.heap[cb]? = some (.cells #[.bool c.nt, .string c.a, .string c.b, .string c.tx] 48 (0, 0))) (by kernel_rfl) (by rw [hWD]; exact HCD.out.bk) (fun hHeld => ?_)
          rw [hWD] at hHeld ⊢
          clear hWD
          refine wpAnyH_take (i := 0) (oi := { dst := _, op := _, type := _, pos := _, after := _, guard := _ }) (v := ?_) rfl (by kernel_rfl) (by kernel_rfl) (by kernel_rfl) (fun _ _ _ h => h) (Or.inl ⟨by rfl, ?_⟩) (by assumption) ?_
          rotate_left
          · intro W hSw
            (try dsimp only at hSw)
            go_simp
            (try with_reducible rfl)
          try simp only [Act.put, List.setIfInBounds_toArray, List.set_cons_zero, List.set_cons_succ]
          refine wpAnyH_take (i := 1) (oi := { dst := _, op := _, type := _, pos := _, after := _, guard := _ }) (v := ?_) rfl (by kernel_rfl) (by kernel_rfl) (by kernel_rfl) (fun _ _ _ h => h) (Or.inl ⟨by rfl, ?_⟩) (by assumption) ?_
          rotate_left
          · intro W hSw
            (try dsimp only at hSw)
            go_simp
            (try with_reducible rfl)
          try simp only [Act.put, List.setIfInBounds_toArray, List.set_cons_zero, List.set_cons_succ]
          refine wpAnyH_take (i := 2) (oi := { dst := _, op := _, type := _, pos := _, after := _, guard := _ }) (v := ?_) rfl (by kernel_rfl) (by kernel_rfl) (by kernel_rfl) (fun _ _ _ h => h) (Or.inl ⟨by rfl, ?_⟩) (by assumption) ?_
          rotate_left
          · intro W hSw
            (try dsimp only at hSw)
            go_simp
            (try with_reducible rfl)
          try simp only [Act.put, List.setIfInBounds_toArray, List.set_cons_zero, List.set_cons_succ]
          refine wpAnyH_take (i := 3) (oi := { dst := _, op := _, type := _, pos := _, after := _, guard := _ }) (v := ?_) rfl (by kernel_rfl) (by kernel_rfl) (by kernel_rfl) (fun _ _ _ h => h) (Or.inl ⟨by rfl, ?_⟩) (by assumption) ?_
          rotate_left
          · intro W hSw
            (try dsimp only at hSw)
            go_simp
            (try with_reducible rfl)
          try simp only [Act.put, List.setIfInBounds_toArray, List.set_cons_zero, List.set_cons_succ]
          refine wpAnyH_take (i := 4) (oi := { dst := _, op := _, type := _, pos := _, after := _, guard := _ }) (v := ?_) rfl (by kernel_rfl) (by kernel_rfl) (by kernel_rfl) (fun _ _ _ h => h) (Or.inl ⟨by rfl, ?_⟩) (by assumption) ?_
          rotate_left
          · intro W hSw
            (try dsimp only at hSw)
            go_simp
            (try with_reducible rfl)
          try simp only [Act.put, List.setIfInBounds_toArray, List.set_cons_zero, List.set_cons_succ]
          refine wpAnyH_take (i := 6) (oi := { dst := _, op := _, type := _, pos := _, after := _, guard := _ }) (v := ?_) rfl (by kernel_rfl) (by kernel_rfl) (by kernel_rfl) (fun _ _ _ h => h) (Or.inl ⟨by rfl, ?_⟩) (by assumption) ?_
          rotate_left
          · intro W hSw
            (try dsimp only at hSw)
            have s0 := rcell hSw 0 _ rfl
            have s1 := rcell hSw 1 _ rfl
            have s2 := rcell hSw 2 _ rfl
            have s3 := rcell hSw 3 _ rfl
            go_simp
            (try with_reducible rfl)
          try simp only [Act.put, List.setIfInBounds_toArray, List.set_cons_zero, List.set_cons_succ]
          refine wpAnyH_ready (rs := [5, 7]) (by kernel_rfl) (by simp) ?_
          refine AllReadyH.cons (o := { dst := _, op := _, type := _, pos := _, after := _, guard := _ }) rfl (fun K hK => ?_) (AllReadyH.cons (o := { dst := _, op := _, type := _, pos := _, after := _, guard := _ }) rfl (fun K hK => ?_) AllReadyH.nil)
          · go_simp
            refine hK.out _ _ ?_ (fun hHeld => ?_)
            · exact hHeld
            clear hK K
            try simp only [Act.put, List.setIfInBounds_toArray, List.set_cons_zero, List.set_cons_succ]
            refine wpAnyH_ready (rs := [7]) (by kernel_rfl) (by simp) ?_
            refine AllReadyH.cons (o := { dst := _, op := _, type := _, pos := _, after := _, guard := _ }) rfl (fun K hK => ?_) AllReadyH.nil
            go_simp
            refine hK.out _ _ ?_ (fun hHeld => ?_)
            · exact ((bel_up _ _).block _ (lt_of_heap hHeld)).trans hHeld
            clear hK K
            try simp only [Act.put, List.setIfInBounds_toArray, List.set_cons_zero, List.set_cons_succ]
            have k0a : (WD.alloc (.cells #[.bool c.nt, .string c.a, .string c.b, .string c.tx] 48)).cell? ⟨r, 2, none⟩ = some (.slice a1 ln c1) := cell_up _ j2
            refine wpAnyH_ready (rs := [8]) (by kernel_rfl) (by simp) ?_
            refine AllReadyH.cons (o := { dst := _, op := _, type := _, pos := _, after := _, guard := _ }) rfl (fun K hK => ?_) AllReadyH.nil
            refine step_append_lies _ rfl (.tmp 56) (.tmp 58) 23 rfl B 48 iC _ 4 56 Try.underlying23 hiC hx0 hx1 hx2 rfl (by decide) (.slice a1 ln c1) _ _ rfl HROW.out ⟨WD.heap.size, 0, none⟩ 1 1 [.bool c.nt, .string c.a, .string c.b, .string c.tx] rfl rfl (World.news_of_block (heap_new WD _)) (by simp [Value.oneCell']) (by decide) (by have := HLC.out; unfold maxLen; omega) (by have := HLC.out; omega) (by have := HCD.out.rq.size.1; simp; omega) (WD.heap.size + 1) (by simp) ?_
            intro g' cap' w' h2 h3 h4 _
            have HO : Hid (w'.ownsRow B 48 4 (.slice (some ⟨g', 0, none⟩) (ln + 1) cap') (ln + 1) (flat cf s2.cs ++ cf c)) := h2
            have HG : Hid ((WD.alloc (.cells #[.bool c.nt, .string c.a, .string c.b, .string c.tx] 48)).grownBy w' (Value.ownBlock (.slice a1 ln c1))) := h3
            have k0b : w'.cell? ⟨r, 2, none⟩ = some (.slice a1 ln c1) := h3.cell k0a (fun e => HNR.out e.symm)
            have f0b : w'.frozen? ⟨r, 2, none⟩ = false := by obtain ⟨vl, hb, _⟩ := HCD.out.rq.blk; exact Lib.frozen_of_heap (((World.grownBy_alloc _ _ _).trans HG.out).block r (lt_of_heap hb) (fun e => HNR.out e.symm) |>.trans hb) 2
            have s0b : w'.heap[cb]? = some (.cells #[.bool c.nt, .string c.a, .string c.b, .string c.tx] 48 (0, 0)) := (HG.out.block cb (lt_of_heap hHeld) (fun e => HCD.out.ne e.symm)).trans hHeld
            clear h2 h3 h4 k0a
            refine hK.out _ _ ?_ (fun hHeld => ?_)
            · exact s0b
            clear hK K
            try simp only [Act.put, List.setIfInBounds_toArray, List.set_cons_zero, List.set_cons_succ]
            clear s0b
            refine wpAnyH_take (i := 9) (oi := { dst := _, op := _, type := _, pos := _, after := _, guard := _ }) (v := ?_) rfl (by kernel_rfl) (by kernel_rfl) (by kernel_rfl) (fun _ _ _ h => h) (Or.inl ⟨by rfl, ?_⟩) (by assumption) ?_
            rotate_left
            · intro W hSw
              (try dsimp only at hSw)
              go_simp
              (try with_reducible rfl)
            try simp only [Act.put, List.setIfInBounds_toArray, List.set_cons_zero, List.set_cons_succ]
            refine wpAnyH_take (i := 10) (oi := { dst := _, op := _, type := _, pos := _, after := _, guard := _ }) (v := ?_) rfl (by kernel_rfl) (by kernel_rfl) (by kernel_rfl) (fun _ _ _ h => h) (Or.inl ⟨by rfl, ?_⟩) (by assumption) ?_
            rotate_left
            · intro W hSw
              (try dsimp only at hSw)
              go_simp
              (try with_reducible rfl)
            try simp only [Act.put, List.setIfInBounds_toArray, List.set_cons_zero, List.set_cons_succ]
            refine wpAnyH_take (i := 11) (oi := { dst := _, op := _, type := _, pos := _, after := _, guard := _ }) (v := ?_) rfl (by kernel_rfl) (by kernel_rfl) (by kernel_rfl) (fun _ _ _ h => h) (Or.inl ⟨by rfl, ?_⟩) (by assumption) ?_
            rotate_left
            · intro W hSw
              (try dsimp only at hSw)
              go_simp
              (try with_reducible rfl)
            try simp only [Act.put, List.setIfInBounds_toArray, List.set_cons_zero, List.set_cons_succ]
            refine wpAnyH_ready (rs := [12]) (by kernel_rfl) (by simp) ?_
            refine AllReadyH.cons (o := { dst := _, op := _, type := _, pos := _, after := _, guard := _ }) rfl (fun K hK => ?_) AllReadyH.nil
            go_simp
            refine hK.out _ _ ?_ (fun hHeld => ?_)
            · rw [heap_far HFAR.out]; exact hHeld
            clear hK K
            try simp only [Act.put, List.setIfInBounds_toArray, List.set_cons_zero, List.set_cons_succ]
            refine wpAnyH_done (by kernel_rfl) ?_ _
            clear hHeld k0b f0b
            refine NoPanic.normal ?_
            have h9 := HCD.out.rq.appC (W5 := w') (v5 := .slice (some ⟨g', 0, none⟩) (ln + 1) cap') c HG.out (by rw [HS2.out]; exact HO.out)
            have H9 : Hid _ := h9
            clear h9
            go_wp2_with fail
            go_ret
            exact ⟨rfl, ⟨_, _, H9.out.1⟩, HBD.out.trans H9.out.2⟩
          · go_simp
            refine hK.out _ _ ?_ (fun hHeld => ?_)
            · exact ((bel_up _ _).block _ (lt_of_heap hHeld)).trans hHeld
            clear hK K
            try simp only [Act.put, List.setIfInBounds_toArray, List.set_cons_zero, List.set_cons_succ]
            have k0a : (WD.alloc (.cells #[.bool c.nt, .string c.a, .string c.b, .string c.tx] 48)).cell? ⟨r, 2, none⟩ = some (.slice a1 ln c1) := cell_up _ j2
            refine wpAnyH_ready (rs := [5]) (by kernel_rfl) (by simp) ?_
            refine AllReadyH.cons (o := { dst := _, op := _, type := _, pos := _, after := _, guard := _ }) rfl (fun K hK => ?_) AllReadyH.nil
            go_simp
            refine hK.out _ _ ?_ (fun hHeld => ?_)
            · exact hHeld
            clear hK K
            try simp only [Act.put, List.setIfInBounds_toArray, List.set_cons_zero, List.set_cons_succ]
            refine wpAnyH_ready (rs := [8]) (by kernel_rfl) (by simp) ?_
            refine AllReadyH.cons (o := { dst := _, op := _, type := _, pos := _, after := _, guard := _ }) rfl (fun K hK => ?_) AllReadyH.nil
            refine step_append_lies _ rfl (.tmp 56) (.tmp 58) 23 rfl B 48 iC _ 4 56 Try.underlying23 hiC hx0 hx1 hx2 rfl (by decide) (.slice a1 ln c1) _ _ rfl HROW.out ⟨WD.heap.size, 0, none⟩ 1 1 [.bool c.nt, .string c.a, .string c.b, .string c.tx] rfl rfl (World.news_of_block (heap_new WD _)) (by simp [Value.oneCell']) (by decide) (by have := HLC.out; unfold maxLen; omega) (by have := HLC.out; omega) (by have := HCD.out.rq.size.1; simp; omega) (WD.heap.size + 1) (by simp) ?_
            intro g' cap' w' h2 h3 h4 _
            have HO : Hid (w'.ownsRow B 48 4 (.slice (some ⟨g', 0, none⟩) (ln + 1) cap') (ln + 1) (flat cf s2.cs ++ cf c)) := h2
            have HG : Hid ((WD.alloc (.cells #[.bool c.nt, .string c.a, .string c.b, .string c.tx] 48)).grownBy w' (Value.ownBlock (.slice a1 ln c1))) := h3
            have k0b : w'.cell? ⟨r, 2, none⟩ = some (.slice a1 ln c1) := h3.cell k0a (fun e => HNR.out e.symm)
            have f0b : w'.frozen? ⟨r, 2, none⟩ = false := by obtain ⟨vl, hb, _⟩ := HCD.out.rq.blk; exact Lib.frozen_of_heap (((World.grownBy_alloc _ _ _).trans HG.out).block r (lt_of_heap hb) (fun e => HNR.out e.symm) |>.trans hb) 2
            have s0b : w'.heap[cb]? = some (.cells #[.bool c.nt, .string c.a, .string c.b, .string c.tx] 48 (0, 0)) := (HG.out.block cb (lt_of_heap hHeld) (fun e => HCD.out.ne e.symm)).trans hHeld
            clear h2 h3 h4 k0a
            refine hK.out _ _ ?_ (fun hHeld => ?_)
            · exact s0b
            clear hK K
            try simp only [Act.put, List.setIfInBounds_toArray, List.set_cons_zero, List.set_cons_succ]
            clear s0b
            refine wpAnyH_take (i := 9) (oi := { dst := _, op := _, type := _, pos := _, after := _, guard := _ }) (v := ?_) rfl (by kernel_rfl) (by kernel_rfl) (by kernel_rfl) (fun _ _ _ h => h) (Or.inl ⟨by rfl, ?_⟩) (by assumption) ?_
            rotate_left
            · intro W hSw
              (try dsimp only at hSw)
              go_simp
              (try with_reducible rfl)
            try simp only [Act.put, List.setIfInBounds_toArray, List.set_cons_zero, List.set_cons_succ]
            refine wpAnyH_take (i := 10) (oi := { dst := _, op := _, type := _, pos := _, after := _, guard := _ }) (v := ?_) rfl (by kernel_rfl) (by kernel_rfl) (by kernel_rfl) (fun _ _ _ h => h) (Or.inl ⟨by rfl, ?_⟩) (by assumption) ?_
            rotate_left
            · intro W hSw
              (try dsimp only at hSw)
              go_simp
              (try with_reducible rfl)
            try simp only [Act.put, List.setIfInBounds_toArray, List.set_cons_zero, List.set_cons_succ]
            refine wpAnyH_take (i := 11) (oi := { dst := _, op := _, type := _, pos := _, after := _, guard := _ }) (v := ?_) rfl (by kernel_rfl) (by kernel_rfl) (by kernel_rfl) (fun _ _ _ h => h) (Or.inl ⟨by rfl, ?_⟩) (by assumption) ?_
            rotate_left
            · intro W hSw
              (try dsimp only at hSw)
              go_simp
              (try with_reducible rfl)
            try simp only [Act.put, List.setIfInBounds_toArray, List.set_cons_zero, List.set_cons_succ]
            refine wpAnyH_ready (rs := [12]) (by kernel_rfl) (by simp) ?_
            refine AllReadyH.cons (o := { dst := _, op := _, type := _, pos := _, after := _, guard := _ }) rfl (fun K hK => ?_) AllReadyH.nil
            go_simp
            refine hK.out _ _ ?_ (fun hHeld => ?_)
            · rw [heap_far HFAR.out]; exact hHeld
            clear hK K
            try simp only [Act.put, List.setIfInBounds_toArray, List.set_cons_zero, List.set_cons_succ]
            refine wpAnyH_done (by kernel_rfl) ?_ _
            clear hHeld k0b f0b
            refine NoPanic.normal ?_
            have h9 := HCD.out.rq.appC (W5 := w') (v5 := .slice (some ⟨g', 0, none⟩) (ln + 1) cap') c HG.out (by rw [HS2.out]; exact HO.out)
            have H9 : Hid _ := h9
            clear h9
            go_wp2_with fail
            go_ret
            exact ⟨rfl, ⟨_, _, H9.out.1⟩, HBD.out.trans H9.out.2⟩
end Go.Proofs.Ythfijmabagjdkaa.Qy
