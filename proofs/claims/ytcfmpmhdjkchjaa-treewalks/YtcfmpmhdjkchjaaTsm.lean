import Derived.Test.YtcfmpmhdjkchjaaTsl
namespace Go.Proofs.Ytcfmpmhdjkchjaa
open Go.RowKit Go.Maps

set_option maxRecDepth 100000 in
set_option maxHeartbeats 16000000 in
theorem treeWalks_any {v mv : Value} {t : List Nd} {ms : List Int} (w : World) (h : Ns w v t) (hm : Rw w mv ms.length (iC ms)) (hs : t.length * 72 + 4096 ≤ 140737488355328) (hl : ms.length < 4611686018427387904) :
    Calls Try.prog 3 #[v, mv] w fun e w' => e = .returned (.bool true) ∧ Below w.heap.size w w' := by
  have HT : Hid (Ns w v t) := h
  have HS : Hid (t.length * 72 + 4096 ≤ 140737488355328) := hs
  have HSM : Hid (Sm t) := by show _ ≤ _; omega
  obtain ⟨a, cap, rfl⟩ := h.form
  obtain ⟨ma, mc, rfl⟩ := hm.form
  obtain ⟨n, hn⟩ : ∃ n, t.length = n := ⟨_, rfl⟩
  obtain ⟨nm, hnm⟩ : ∃ nm, ms.length = nm := ⟨_, rfl⟩
  have HN : Hid (t.length = n) := hn
  have HNM : Hid (ms.length = nm) := hnm
  rw [hnm] at hm hl
  have HM : Hid (Rw w (.slice ma nm mc) nm (iC ms)) := hm
  have HL : Hid (nm < 4611686018427387904) := hl
  have HSZ : Hid (n * 72 + 4096 ≤ 140737488355328) := by have := HS.out; rw [hn] at this; exact this
  have HKS : Hid (Ks (kns t)) := by
    show _ ≤ _
    have h1 := HS.out
    rcases @rts_fo t with ⟨r, hr, _⟩ | ⟨hr, _⟩
    · rw [kns_len ⟨r, hr⟩]; omega
    · have e : kns t = [] := by unfold kns; rw [hr]
      rw [e]; decide
  rw [hn] at HT ⊢
  rw [hnm]
  clear h hm hs hl hn hnm
  go_enter Try.func3, Try.ntmps3
  go_upto_if 14 with (go_at_call 9; refine (beyond_any _ HT.out HSM.out).mono ?_; rintro ee W1 ⟨bb, rfl, hb1⟩; have HB1 : Hid (Below w.heap.size w W1) := hb1; clear hb1)
  cases bb with
  | true =>
    go_wp2_with fail
    go_ret
    exact ⟨rfl, HB1.out⟩
  | false =>
    go_upto_region 4 with (go_at_call 10; refine (roomy_any (by have := HS.out; omega) _ (HT.out.up HB1.out)).mono ?_; rintro ee W2 ⟨r, rfl, hr2, hb2⟩; have HB2 : Hid (Below w.heap.size w W2) := below_trans HB1.out hb2; have HB12 : Hid (Below W1.heap.size W1 W2) := hb2; have HRM : Hid (Rmy W1.heap.size W2 r t) := hr2; clear hr2 hb2)
    obtain ⟨g, kc, hrv, hkc, ho⟩ := HRM.out
    subst hrv
    rw [HN.out] at HRM hkc ho ⊢
    have HO : Hid (W2.ownsRow W1.heap.size 33 7 (.slice (some ⟨g, 0, none⟩) (n + 2) kc) (n + 2) (flat nf (t ++ [m71, m72]))) := ho
    have HKC : Hid (n + 2 ≤ kc) := hkc
    have HGL : Hid (W1.heap.size ≤ g ∧ g < W2.heap.size) := by
      obtain ⟨q1, cur, q2⟩ := row_tag ho g rfl
      exact ⟨q1, lt_of_heap q2⟩
    clear ho hkc
    go_upto_region 5 with (go_at_call 11; refine (walk_any _ HRM.out.ns HSM.out).mono ?_; rintro ee W3 ⟨c, v', rfl, hc1, hc2, hb3⟩; have HCL : Hid (W2.heap.size ≤ c) := hc1; rw [krt_fst] at hc2; have HC3 : Hid (Cu W2.heap.size W3 c v' (kns t) (fst0 t)) := hc2; have HB23 : Hid (Below W2.heap.size W2 W3) := hb3; clear hc1 hc2 hb3)
    have HB3 : Hid (Below w.heap.size w W3) := below_trans HB2.out HB23.out
    have HSEP : Hid (W2.heap.size ≤ c ∧ c < W3.heap.size ∧ g < W2.heap.size ∧ (∀ r, v'.ownBlock = some r → W2.heap.size ≤ r ∧ r < W3.heap.size)) := ⟨HCL.out, lt_of_heap HC3.out.h, HGL.out.2, fun r hr => by obtain ⟨q1, cur, q2⟩ := row_tag HC3.out.k r hr; exact ⟨q1, lt_of_heap q2⟩⟩
    go_upto_region 6 with (go_at_call 12; refine (rwalk_any HS.out _ (HT.out.up HB3.out)).mono ?_; rintro ee W4 ⟨w0, m, rfl, hmd, hb4⟩; have HMD4 : Hid (Md W3.heap.size w0 W4 t m (fst0 t)) := hmd; have HB34 : Hid (Below W3.heap.size W3 W4) := hb4; clear hmd hb4)
    have HMM : Hid (W3.heap.size ≤ m) := by have h7 := HMD4.out; exact Nat.le_trans h7.1 h7.2.1
    have HB4 : Hid (Below w.heap.size w W4) := below_trans HB3.out HB34.out
    have HP0 : Hid (Pos t (fst0 t)) := pos_fst t
    obtain ⟨x0, hx0⟩ : ∃ x0, fst0 t = x0 := ⟨_, rfl⟩
    rw [hx0] at HP0 HC3 HMD4
    clear hx0
    have f0 : (x0 != x0) = false := by simp
    go_upto_region 9 with first | (go_at_call 13; refine (place_any _ (HC3.out.up HB34.out)).mono ?_; rintro ee ww ⟨rfl, rfl⟩) | (go_at_call 14; refine (rplace_any HMD4.out).mono ?_; rintro ee ww ⟨rfl, rfl⟩) | (go_at_call 15; refine (stays_any HSM.out _ (HRM.out.up (below_trans HB23.out HB34.out)) (HT.out.up HB4.out)).mono ?_; rintro ee W5 ⟨rfl, hb5⟩; have HB45 : Hid (Below W4.heap.size W4 W5) := hb5; clear hb5)
    clear f0
    have HO5 : Hid (W5.ownsRow W1.heap.size 33 7 (.slice (some ⟨g, 0, none⟩) (n + 2) kc) (n + 2) (flat nf (t ++ [m71, m72]))) := row_up HO.out (below_trans HB23.out (below_trans HB34.out HB45.out))
    have HB5 : Hid (Below w.heap.size w W5) := below_trans HB4.out HB45.out
    go_loopg [8] n (fun gm v8 wr => ∃ (i : Nat) (L : List Nd), v8 = .int .i64 (i : Int) ∧ Hid (gm = n - i ∧ i ≤ n) ∧ Hid (L.length = n + 2) ∧ Hid (wr.ownsRow W1.heap.size 33 7 (.slice (some ⟨g, 0, none⟩) (n + 2) kc) (n + 2) (flat nf L)) ∧ Hid (W5.grownBy wr (some g)))
    case atStart => exact ⟨0, t ++ [m71, m72], rfl, ⟨rfl, Nat.zero_le _⟩, by show _ = _; rw [List.length_append, HN.out]; rfl, HO5, World.grownBy.refl _ _⟩
    case round =>
      obtain ⟨i, L, rfl, HI, HLL, HOW, HGR⟩ := hrel
      by_cases hi : i < n
      · have e1 : decide ((i : Int) < (n : Int)) = true := by rw [decide_eq_true_eq]; omega
        have e2 : decide (i < n) = true := by rw [decide_eq_true_eq]; omega
        have b1 : (i : Int) < (n : Int) := by omega
        have HIM : Hid (i < n) := hi
        have hwi := w64n i (by have := HSZ.out; omega)
        have hcl := own_cells HOW.out HLL.out i hi
        obtain ⟨u0, c0⟩ := hcl 0 (by decide)
        obtain ⟨u1, c1⟩ := hcl 1 (by decide)
        obtain ⟨u2, c2⟩ := hcl 2 (by decide)
        obtain ⟨u3, c3⟩ := hcl 3 (by decide)
        obtain ⟨u4, c4⟩ := hcl 4 (by decide)
        obtain ⟨u5, c5⟩ := hcl 5 (by decide)
        obtain ⟨u6, c6⟩ := hcl 6 (by decide)
        rw [Nat.add_zero] at c0
        obtain ⟨_, cur, hcur⟩ := row_tag HOW.out g rfl
        have ff := fun j => Lib.frozen_of_heap hcur j
        have b2 : i < n := hi
        clear hi hcl hcur
        go_wp2_with fail
        go_roundg (n - (i + 1))
        case measure => have := HI.out; have := HIM.out; omega
        case rel =>
          have hp := own_put HOW.out (show i < L.length by rw [HLL.out]; have := HIM.out; omega) mm1
          have hg := HGR.out.trans (put7_grown wr g i mm1)
          unfold put7 mm1 at hp hg
          exact ⟨i + 1, L.set i mm1, by first | rfl | (rw [show (i : Int) + 1 = ((i + 1 : Nat) : Int) by omega]), ⟨rfl, HIM.out⟩, by rw [List.length_set]; exact HLL.out, hp, hg⟩
      · have e1 : decide ((i : Int) < (n : Int)) = false := by rw [decide_eq_false_iff_not]; omega
        have e2 : decide (i < n) = false := by rw [decide_eq_false_iff_not]; omega
        clear hi
        have HNS : Hid (Ns wr (.slice (some ⟨g, 0, none⟩) n kc) (L.take n) ∧ (L.take n).length = n) := own_ns HOW.out HLL.out
        obtain ⟨T2, hT2⟩ : ∃ T2, L.take n = T2 := ⟨_, rfl⟩
        rw [hT2] at HNS
        clear hT2
        have HS2 : Hid (T2.length * 72 + 4096 ≤ 140737488355328) := by rw [HNS.out.2]; exact HSZ.out
        have HSM2 : Hid (Sm T2) := by show _ ≤ _; have := HS2.out; omega
        have HC6 : Hid (Cu W2.heap.size wr c v' (kns t) x0) := (HC3.out.up (below_trans HB34.out HB45.out)).off HGR.out (fun e => by have := Option.some.inj e; have := HSEP.out; omega) (Or.inr fun e => by have := (HSEP.out.2.2.2 g e).1; have := HSEP.out; omega)
        have HMX : Hid (∃ w0', Md W3.heap.size w0' wr t m x0) := (HMD4.out.up HB45.out).off HGR.out (by have := HSEP.out; have := HB23.out.size; omega)
        obtain ⟨w1, hw1⟩ := HMX.out
        have HMD6 : Hid (Md W3.heap.size w1 wr t m x0) := hw1
        clear hw1 HMX HMD4
        have HB6 : Hid (Below w.heap.size w wr) := HB5.out.grown HGR.out HB5.out.size (fun r hr => by cases hr; have := HGL.out; have := HB1.out.size; omega)
        clear HOW HGR HO5
        go_upto_region 13 with first | (go_at_call 16; refine (twin_any (by have := HS2.out; omega) _ HNS.out.1).mono ?_; rintro ee W7 ⟨r, rfl, ho7, hb7⟩; have HO7 : Hid (Ns W7 r T2) := row_rw ho7 (by decide); have HB67 : Hid (Below wr.heap.size wr W7) := hb7; clear ho7 hb7) | (go_at_call 12; refine (rwalk_any HS2.out _ HO7.out).mono ?_; rintro ee W8 ⟨w2, m2, rfl, hmd, hb8⟩; have HMD8 : Hid (Md W7.heap.size w2 W8 T2 m2 (fst0 T2)) := hmd; have HB78 : Hid (Below wr.heap.size wr W8) := below_trans HB67.out hb8; clear hmd hb8)
        go_upto_region 14 with (go_at_call 11; refine (walk_any _ (HNS.out.1.up HB78.out) HSM2.out).mono ?_; rintro ee W9 ⟨c2, v2, rfl, _, hc2, hb9⟩; rw [krt_fst] at hc2; have HC9 : Hid (Cu W8.heap.size W9 c2 v2 (kns T2) (fst0 T2)) := hc2; have HMD9 : Hid (Md W7.heap.size w2 W9 T2 m2 (fst0 T2)) := HMD8.out.up hb9; have HB69 : Hid (Below wr.heap.size wr W9) := below_trans HB78.out hb9; clear hc2 hb9)
        obtain ⟨x2, hx2⟩ : ∃ x2, fst0 T2 = x2 := ⟨_, rfl⟩
        rw [hx2] at HC9 HMD9
        clear hx2
        have f2 : (x2 != x2) = false := by simp
        go_upto_region 17 with first | (go_at_call 13; refine (place_any _ HC9.out).mono ?_; rintro ee ww ⟨rfl, rfl⟩) | (go_at_call 14; refine (rplace_any HMD9.out).mono ?_; rintro ee ww ⟨rfl, rfl⟩)
        clear f2
        have HC0 : Hid (Cu W2.heap.size W9 c v' (kns t) x0) := HC6.out.up HB69.out
        have HMD0 : Hid (Md W3.heap.size w1 W9 t m x0) := HMD6.out.up HB69.out
        have HB0 : Hid (Below w.heap.size w W9) := below_trans HB6.out HB69.out
        clear HC6 HMD6 HB6 HC9 HMD9 HB69 HMD8 HB78 HO7 HB67
        go_loopg [11] nm (fun gm v11 wr => ∃ (i : Nat) (x : Int) (w1 : World), v11 = .int .i64 (i : Int) ∧ Hid (gm = nm - i ∧ i ≤ nm) ∧ Hid (Pos t x) ∧ Hid (Cu W2.heap.size wr c v' (kns t) x) ∧ Hid (Md W3.heap.size w1 wr t m x) ∧ Hid (Below w.heap.size w wr))
        case atStart => exact ⟨0, x0, w1, rfl, ⟨rfl, Nat.zero_le _⟩, HP0, HC0, HMD0, HB0⟩
        case round =>
          clear HI HC0 HMD0 HB0 HP0 e1 e2
          obtain ⟨i, x, w1, rfl, HI, HP, HC, HMD, HBW⟩ := hrel
          by_cases hi : i < nm
          · have e1 : decide ((i : Int) < (nm : Int)) = true := by rw [decide_eq_true_eq]; omega
            have e2 : decide (i < nm) = true := by rw [decide_eq_true_eq]; omega
            have b1 : (i : Int) < (nm : Int) := by omega
            have b2 : i < nm := hi
            have HIM : Hid (i < nm) := hi
            have hwi := w64n i (by have := HL.out; omega)
            obtain ⟨gm, om, rfl, hcm⟩ := HM.out.int i (by rw [HNM.out]; exact hi) (by omega)
            have cz := hcm _ HBW.out
            obtain ⟨z, hz⟩ : ∃ z, ms.getD i 0 = z := ⟨_, rfl⟩
            rw [hz] at cz
            clear hi hcm hz
            by_cases z1 : z = 1
            · subst z1
              obtain ⟨b, hb⟩ : ∃ b, goes (blw (kns t) x) = b := ⟨_, rfl⟩
              obtain ⟨y, hy⟩ : ∃ y, gone x (blw (kns t) x) = y := ⟨_, rfl⟩
              have HB : Hid (goes (blw (kns t) x) = b) := hb
              have HY : Hid (gone x (blw (kns t) x) = y) := hy
              have HPY : Hid (Pos t y) := by rw [← hy]; exact HP.out.dn
              have fb : (b == b) = true := by cases b <;> rfl
              have fy : (y != y) = false := by simp
              clear hb hy
              go_wp2_with first | (go_at_call 17; refine (down_any _ HC.out HKS.out).mono ?_; rintro ee W10 ⟨rfl, hc10, hg10⟩; rw [HB.out]; rw [HY.out] at hc10; have HC10 : Hid (Cu W2.heap.size W10 c v' (kns t) y) := hc10; have HMX : Hid (∃ w0', Md W3.heap.size w0' W10 t m x) := HMD.out.off hg10 HSEP.out.2.1; obtain ⟨wm, hwm⟩ := HMX.out; have HMD10 : Hid (Md W3.heap.size wm W10 t m x) := hwm; have HB10 : Hid (Below w.heap.size w W10) := HBW.out.grown hg10 HBW.out.size (fun r hr => by cases hr; have := HSEP.out; have := HB2.out.size; omega); clear hc10 hg10 hwm HMX) | (go_at_call 18; refine Calls.mono (rdown_any HS.out HMD10.out HP.out) ?_; rintro ee W11 ⟨rfl, hmd11, hg11⟩; rw [HB.out]; rw [HY.out] at hmd11; have HMD11 : Hid (Md W3.heap.size wm W11 t m y) := hmd11; have HC11 : Hid (Cu W2.heap.size W11 c v' (kns t) y) := HC10.out.off hg11 (fun e => by have := Option.some.inj e; have := HSEP.out; have := HMM.out; omega) (Or.inr fun e => by have := (HSEP.out.2.2.2 m e).2; have := HMM.out; omega); have HB11 : Hid (Below w.heap.size w W11) := HB10.out.grown hg11 HB10.out.size (fun r hr => by cases hr; have := HSEP.out; have := HMM.out; have := HB2.out.size; omega); clear hmd11 hg11) | (go_at_call 13; refine (place_any _ HC11.out).mono ?_; rintro ee ww ⟨rfl, rfl⟩) | (go_at_call 14; refine (rplace_any HMD11.out).mono ?_; rintro ee ww ⟨rfl, rfl⟩)
              go_roundg (nm - (i + 1))
              case measure => have := HI.out; have := HIM.out; omega
              case rel => exact ⟨i + 1, y, wm, by first | rfl | (rw [show (i : Int) + 1 = ((i + 1 : Nat) : Int) by omega]), ⟨rfl, HIM.out⟩, HPY, HC11, HMD11, HB11⟩
            · have k1 : (z == 1) = false := by rw [beq_eq_false_iff_ne]; exact z1
              by_cases z2 : z = 2
              · subst z2
                obtain ⟨b, hb⟩ : ∃ b, goes (bsd (kns t) x) = b := ⟨_, rfl⟩
                obtain ⟨y, hy⟩ : ∃ y, gone x (bsd (kns t) x) = y := ⟨_, rfl⟩
                have HB : Hid (goes (bsd (kns t) x) = b) := hb
                have HY : Hid (gone x (bsd (kns t) x) = y) := hy
                have HPY : Hid (Pos t y) := by rw [← hy]; exact HP.out.nx
                have fb : (b == b) = true := by cases b <;> rfl
                have fy : (y != y) = false := by simp
                clear hb hy
                go_wp2_with first | (go_at_call 19; refine (next_any _ HC.out HKS.out).mono ?_; rintro ee W10 ⟨rfl, hc10, hg10⟩; rw [HB.out]; rw [HY.out] at hc10; have HC10 : Hid (Cu W2.heap.size W10 c v' (kns t) y) := hc10; have HMX : Hid (∃ w0', Md W3.heap.size w0' W10 t m x) := HMD.out.off hg10 HSEP.out.2.1; obtain ⟨wm, hwm⟩ := HMX.out; have HMD10 : Hid (Md W3.heap.size wm W10 t m x) := hwm; have HB10 : Hid (Below w.heap.size w W10) := HBW.out.grown hg10 HBW.out.size (fun r hr => by cases hr; have := HSEP.out; have := HB2.out.size; omega); clear hc10 hg10 hwm HMX) | (go_at_call 20; refine Calls.mono (rnext_any HS.out HMD10.out HP.out) ?_; rintro ee W11 ⟨rfl, hmd11, hg11⟩; rw [HB.out]; rw [HY.out] at hmd11; have HMD11 : Hid (Md W3.heap.size wm W11 t m y) := hmd11; have HC11 : Hid (Cu W2.heap.size W11 c v' (kns t) y) := HC10.out.off hg11 (fun e => by have := Option.some.inj e; have := HSEP.out; have := HMM.out; omega) (Or.inr fun e => by have := (HSEP.out.2.2.2 m e).2; have := HMM.out; omega); have HB11 : Hid (Below w.heap.size w W11) := HB10.out.grown hg11 HB10.out.size (fun r hr => by cases hr; have := HSEP.out; have := HMM.out; have := HB2.out.size; omega); clear hmd11 hg11) | (go_at_call 13; refine (place_any _ HC11.out).mono ?_; rintro ee ww ⟨rfl, rfl⟩) | (go_at_call 14; refine (rplace_any HMD11.out).mono ?_; rintro ee ww ⟨rfl, rfl⟩)
                go_roundg (nm - (i + 1))
                case measure => have := HI.out; have := HIM.out; omega
                case rel => exact ⟨i + 1, y, wm, by first | rfl | (rw [show (i : Int) + 1 = ((i + 1 : Nat) : Int) by omega]), ⟨rfl, HIM.out⟩, HPY, HC11, HMD11, HB11⟩
              · have k2 : (z == 2) = false := by rw [beq_eq_false_iff_ne]; exact z2
                by_cases z3 : z = 3
                · subst z3
                  obtain ⟨b, hb⟩ : ∃ b, goes (abv (kns t) x) = b := ⟨_, rfl⟩
                  obtain ⟨y, hy⟩ : ∃ y, gone x (abv (kns t) x) = y := ⟨_, rfl⟩
                  have HB : Hid (goes (abv (kns t) x) = b) := hb
                  have HY : Hid (gone x (abv (kns t) x) = y) := hy
                  have HPY : Hid (Pos t y) := by rw [← hy]; exact HP.out.ab
                  have fb : (b == b) = true := by cases b <;> rfl
                  have fy : (y != y) = false := by simp
                  clear hb hy
                  go_wp2_with first | (go_at_call 21; refine (up_any _ HC.out HKS.out).mono ?_; rintro ee W10 ⟨rfl, hc10, hg10⟩; rw [HB.out]; rw [HY.out] at hc10; have HC10 : Hid (Cu W2.heap.size W10 c v' (kns t) y) := hc10; have HMX : Hid (∃ w0', Md W3.heap.size w0' W10 t m x) := HMD.out.off hg10 HSEP.out.2.1; obtain ⟨wm, hwm⟩ := HMX.out; have HMD10 : Hid (Md W3.heap.size wm W10 t m x) := hwm; have HB10 : Hid (Below w.heap.size w W10) := HBW.out.grown hg10 HBW.out.size (fun r hr => by cases hr; have := HSEP.out; have := HB2.out.size; omega); clear hc10 hg10 hwm HMX) | (go_at_call 22; refine Calls.mono (rup_any HS.out HMD10.out HP.out) ?_; rintro ee W11 ⟨rfl, hmd11, hg11⟩; rw [HB.out]; rw [HY.out] at hmd11; have HMD11 : Hid (Md W3.heap.size wm W11 t m y) := hmd11; have HC11 : Hid (Cu W2.heap.size W11 c v' (kns t) y) := HC10.out.off hg11 (fun e => by have := Option.some.inj e; have := HSEP.out; have := HMM.out; omega) (Or.inr fun e => by have := (HSEP.out.2.2.2 m e).2; have := HMM.out; omega); have HB11 : Hid (Below w.heap.size w W11) := HB10.out.grown hg11 HB10.out.size (fun r hr => by cases hr; have := HSEP.out; have := HMM.out; have := HB2.out.size; omega); clear hmd11 hg11) | (go_at_call 13; refine (place_any _ HC11.out).mono ?_; rintro ee ww ⟨rfl, rfl⟩) | (go_at_call 14; refine (rplace_any HMD11.out).mono ?_; rintro ee ww ⟨rfl, rfl⟩)
                  go_roundg (nm - (i + 1))
                  case measure => have := HI.out; have := HIM.out; omega
                  case rel => exact ⟨i + 1, y, wm, by first | rfl | (rw [show (i : Int) + 1 = ((i + 1 : Nat) : Int) by omega]), ⟨rfl, HIM.out⟩, HPY, HC11, HMD11, HB11⟩
                · have k3 : (z == 3) = false := by rw [beq_eq_false_iff_ne]; exact z3
                  have fx : (x != x) = false := by simp
                  go_wp2_with first | (go_at_call 13; refine (place_any _ HC.out).mono ?_; rintro ee ww ⟨rfl, rfl⟩) | (go_at_call 14; refine (rplace_any HMD.out).mono ?_; rintro ee ww ⟨rfl, rfl⟩)
                  go_roundg (nm - (i + 1))
                  case measure => have := HI.out; have := HIM.out; omega
                  case rel => exact ⟨i + 1, x, w1, by first | rfl | (rw [show (i : Int) + 1 = ((i + 1 : Nat) : Int) by omega]), ⟨rfl, HIM.out⟩, HP, HC, HMD, HBW⟩
          · have e1 : decide ((i : Int) < (nm : Int)) = false := by rw [decide_eq_false_iff_not]; omega
            have e2 : decide (i < nm) = false := by rw [decide_eq_false_iff_not]; omega
            clear hi
            go_wp2_with fail
            go_ret
            exact ⟨rfl, HBW.out⟩
end Go.Proofs.Ytcfmpmhdjkchjaa
