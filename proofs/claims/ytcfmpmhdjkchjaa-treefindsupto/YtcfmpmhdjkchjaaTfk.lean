import Derived.Test.YtcfmpmhdjkchjaaTfj
import Derived.Test.YtcfmpmhdjkchjaaTlw
namespace Go.Proofs.Ytcfmpmhdjkchjaa
open Go.RowKit Go.Maps

def LW (W0 W : World) (b0 b1 b2 H : Nat) (va vl vb vw : Value) (n1 n2 : Nat) (x y x' y' : Int) (i j : Nat) : Prop :=
  Pr W b0 b1 H va vl n1 x y i ∧ Pr W b1 b2 H vb vw n2 x' y' j ∧ (∀ r, vl.ownBlock = some r → vw.ownBlock ≠ some r) ∧ Fw W0 W H va.ownBlock vb.ownBlock ∧ H ≤ W.heap.size
section
variable {W0 W W' : World} {b0 b1 b2 H : Nat} {va vl vb vw vl' vw' : Value} {n1 n2 : Nat} {x y x' y' : Int} {i j : Nat}
theorem LW.up (h : LW W0 W b0 b1 b2 H va vl vb vw n1 n2 x y x' y' i j) (h1 : b1 ≤ b2) (h2 : b2 ≤ H) (hb : Below W.heap.size W W') : LW W0 W' b0 b1 b2 H va vl vb vw n1 n2 x y x' y' i j := by
  obtain ⟨p1, p2, p3, p4, p5⟩ := h
  exact ⟨p1.up (by omega) hb, p2.up (by omega) hb, p3, p4.grown p5 (grown_of_below hb) (fun r hr => by cases hr), Nat.le_trans p5 hb.size⟩
theorem LW.long (h : LW W0 W b0 b1 b2 H va vl vb vw n1 n2 x y x' y' i j) (h1 : b1 ≤ b2) (h2 : b2 ≤ H) (ho : W'.ownsRow b0 3 1 vl' (n1 + i + 1) (iC (List.replicate n1 x ++ List.replicate i y) ++ [.int .i64 y]))
    (ht : (∃ g, vl.ownBlock = some g ∧ vl'.ownBlock = some g ∧ W.grownBy W' (some g)) ∨ (∃ g, vl'.ownBlock = some g ∧ W.heap.size ≤ g ∧ W.grownBy W' none)) : LW W0 W' b0 b1 b2 H va vl' vb vw n1 n2 x y x' y' (i + 1) j := by
  obtain ⟨p1, p2, p3, p4, p5⟩ := h
  have hwl : ∀ r, vw.ownBlock = some r → r < W.heap.size := own_lt p2.ow
  refine ⟨p1.step (by omega) p5 ho ht, ?_, ?_, ?_, ?_⟩
  · rcases ht with ⟨g, k1, k2, k3⟩ | ⟨g, k1, k2, k3⟩
    · refine p2.keep (by omega) k3 (Or.inr (p3 g k1)) (Or.inr fun e => ?_)
      have q := p2.ab g e
      rcases p1.lb with hl | hl
      · rw [k1] at hl; have := p1.ab g hl.symm; omega
      · have := hl g k1; omega
    · refine p2.keep (by omega) k3 ?_ ?_
      · cases vw.ownBlock with | none => exact Or.inl rfl | some r => exact Or.inr (fun e => by cases e)
      · cases vb.ownBlock with | none => exact Or.inl rfl | some r => exact Or.inr (fun e => by cases e)
  · intro r hr hw
    rcases ht with ⟨g, k1, k2, k3⟩ | ⟨g, k1, k2, k3⟩
    · rw [k2] at hr; cases hr; exact p3 r k1 hw
    · rw [k1] at hr; cases hr; have := hwl r hw; omega
  · rcases ht with ⟨g, k1, k2, k3⟩ | ⟨g, k1, k2, k3⟩
    · refine p4.grown p5 k3 (fun r hr hlt => ?_)
      cases hr
      rcases p1.lb with hl | hl
      · exact Or.inl (by rw [← hl, k1])
      · have := hl g k1; omega
    · exact p4.grown p5 k3 (fun r hr => by cases hr)
  · rcases ht with ⟨g, k1, k2, k3⟩ | ⟨g, k1, k2, k3⟩ <;> exact Nat.le_trans p5 k3.size
theorem LW.wide (h : LW W0 W b0 b1 b2 H va vl vb vw n1 n2 x y x' y' i j) (h1 : b1 ≤ b2) (h2 : b2 ≤ H) (ho : W'.ownsRow b1 3 1 vw' (n2 + j + 1) (iC (List.replicate n2 x' ++ List.replicate j y') ++ [.int .i64 y']))
    (ht : (∃ g, vw.ownBlock = some g ∧ vw'.ownBlock = some g ∧ W.grownBy W' (some g)) ∨ (∃ g, vw'.ownBlock = some g ∧ W.heap.size ≤ g ∧ W.grownBy W' none)) : LW W0 W' b0 b1 b2 H va vl vb vw' n1 n2 x y x' y' i (j + 1) := by
  obtain ⟨p1, p2, p3, p4, p5⟩ := h
  have hll : ∀ r, vl.ownBlock = some r → r < W.heap.size := own_lt p1.ow
  refine ⟨?_, p2.step (by omega) p5 ho ht, ?_, ?_, ?_⟩
  · rcases ht with ⟨g, k1, k2, k3⟩ | ⟨g, k1, k2, k3⟩
    · refine p1.keep (by omega) k3 (Or.inr fun e => p3 g e k1) (Or.inr fun e => ?_)
      have q := p1.ab g e
      rcases p2.lb with hl | hl
      · rw [k1] at hl; have := p2.ab g hl.symm; omega
      · have := hl g k1; omega
    · refine p1.keep (by omega) k3 ?_ ?_
      · cases vl.ownBlock with | none => exact Or.inl rfl | some r => exact Or.inr (fun e => by cases e)
      · cases va.ownBlock with | none => exact Or.inl rfl | some r => exact Or.inr (fun e => by cases e)
  · intro r hr hw
    rcases ht with ⟨g, k1, k2, k3⟩ | ⟨g, k1, k2, k3⟩
    · rw [k2] at hw; cases hw; exact p3 r hr k1
    · rw [k1] at hw; cases hw; have := hll r hr; omega
  · rcases ht with ⟨g, k1, k2, k3⟩ | ⟨g, k1, k2, k3⟩
    · refine p4.grown p5 k3 (fun r hr hlt => ?_)
      cases hr
      rcases p2.lb with hl | hl
      · exact Or.inr (by rw [← hl, k1])
      · have := hl g k1; omega
    · exact p4.grown p5 k3 (fun r hr => by cases hr)
  · rcases ht with ⟨g, k1, k2, k3⟩ | ⟨g, k1, k2, k3⟩ <;> exact Nat.le_trans p5 k3.size
end
theorem pat_small {t : List Nd} (z : Int) : (pat t z).length ≤ t.length := by
  unfold pat
  cases h : rt (kds t) with
  | none => exact Nat.zero_le _
  | some r =>
    have := pth_small z ⟨r, h⟩ (t.length + 1) 0 r (by omega) (Nat.zero_le _) (by rw [Fo.top h]; exact Nat.le_refl _)
    dsimp only
    omega
theorem kls_small {t : List Nd} (z : Int) : (kls t z).length ≤ t.length := by
  unfold kls
  cases h : std t z with
  | false => exact Nat.zero_le _
  | true =>
    obtain ⟨a, rfl, ha, hf⟩ := std_true h
    rw [if_pos rfl, kl_len]
    have h1 := (hf.step a (by rw [kds_len]; exact ha)).2.2.1
    have h2 := hf.le (a + 1)
    rw [kds_len] at h2
    show kA (kds t) a ≤ _
    omega
set_option maxRecDepth 100000 in
set_option maxHeartbeats 16000000 in
theorem finds_any {B0 : Nat} {kv tv : Value} {t : List Nd} (hs : t.length ≤ 1048576) (hz : ∀ c, c < t.length → (t.getD c ndd).nm.size ≤ 1048600 ∧ (t.getD c ndd).fd.size ≤ 1048600) (z : Int) (w : World) (hk : Rmy B0 w kv t) (ht : Ns w tv t) :
    Calls Try.prog 38 #[kv, tv, .int .i64 z] w fun e w' => e = .returned (.bool true) ∧ Below w.heap.size w w' := by
  obtain ⟨i3, hi3, hx0, hx1, hx2⟩ := info_parts info3
  have HS : Hid (t.length * 104 + 4096 ≤ 140737488355328) := by show _ ≤ _; omega
  have HSM : Hid (Sm t) := by show _ ≤ _; omega
  have HST : Hid (t.length ≤ 1048576) := hs
  have HZ : Hid (∀ c, c < t.length → (t.getD c ndd).nm.size ≤ 1048600 ∧ (t.getD c ndd).fd.size ≤ 1048600) := hz
  have HRM : Hid (Rmy B0 w kv t) := hk
  have HKN : Hid (Ns w kv t) := hk.ns
  have HT : Hid (Ns w tv t) := ht
  obtain ⟨g0, kc0, rfl, _, _⟩ := hk
  obtain ⟨ta, tc, rfl⟩ := ht.form
  obtain ⟨n, hn⟩ : ∃ n, t.length = n := ⟨_, rfl⟩
  have HN : Hid (t.length = n) := hn
  rw [hn] at HRM HKN HT ⊢
  obtain ⟨KL, hKL⟩ : ∃ KL, kls t z = KL := ⟨_, rfl⟩
  have HKL : Hid (kls t z = KL) := hKL
  obtain ⟨PL, hPL⟩ : ∃ PL, pat t z = PL := ⟨_, rfl⟩
  have HPL : Hid (pat t z = PL) := hPL
  obtain ⟨n1, hn1⟩ : ∃ n1, KL.length = n1 := ⟨_, rfl⟩
  have HN1 : Hid (KL.length = n1) := hn1
  obtain ⟨n2, hn2⟩ : ∃ n2, PL.length = n2 := ⟨_, rfl⟩
  have HN2 : Hid (PL.length = n2) := hn2
  have HN1L : Hid (n1 ≤ 1048576) := by have h7 := kls_small (t := t) z; rw [hKL, hn1] at h7; show _ ≤ _; omega
  have HN2L : Hid (n2 ≤ 1048576) := by have h7 := pat_small (t := t) z; rw [hPL, hn2] at h7; show _ ≤ _; omega
  clear hs hz hn hKL hPL hn1 hn2 ht
  go_enter Try.func38, Try.ntmps38
  go_upto_region 7 with first | (go_at_call 56; refine Calls.mono (rkids_any HS.out w HT.out z) ?_; rintro ee W1 ⟨vv, rfl, ho, hb⟩; rw [HKL.out, HN1.out] at ho; obtain ⟨ca, cc, rfl⟩ := row_shape ho; have HC0 : Hid (Rk W1 w.heap.size W1.heap.size (.slice ca n1 cc) (KL)) := (by have h7 : W1.ownsRow w.heap.size 3 1 (.slice ca n1 cc) (KL).length (iC KL) := (by rw [HN1.out]; exact ho); exact Rk.of h7); have HB1 : Hid (Below w.heap.size w W1) := below_trans (Below.refl _ _) hb; have HSW1 : Hid (Below w.heap.size w W1) := hb; clear ho hb) | (go_at_call 57; refine Calls.mono (rpathx_any HS.out W1 (HT.out.up HB1.out) z) ?_; rintro ee W2 ⟨vv, rfl, ho, hb⟩; rw [HPL.out, HN2.out] at ho; obtain ⟨da, dc, rfl⟩ := row_shape ho; have HD0 : Hid (Rk W2 W1.heap.size W2.heap.size (.slice da n2 dc) (PL)) := (by have h7 : W2.ownsRow W1.heap.size 3 1 (.slice da n2 dc) (PL).length (iC PL) := (by rw [HN2.out]; exact ho); exact Rk.of h7); have HB2 : Hid (Below w.heap.size w W2) := below_trans HB1.out hb; have HSW2 : Hid (Below W1.heap.size W1 W2) := hb; clear ho hb) | (go_at_call 30; refine Calls.mono (kids_any W2 (HKN.out.up HB2.out) HSM.out z) ?_; rintro ee W3 ⟨vv, rfl, ho, hb⟩; rw [HKL.out, HN1.out] at ho; obtain ⟨aa, ac, rfl⟩ := row_shape ho; have HA0 : Hid (Rk W3 W2.heap.size W3.heap.size (.slice aa n1 ac) (KL)) := (by have h7 : W3.ownsRow W2.heap.size 3 1 (.slice aa n1 ac) (KL).length (iC KL) := (by rw [HN1.out]; exact ho); exact Rk.of h7); have HB3 : Hid (Below w.heap.size w W3) := below_trans HB2.out hb; have HSW3 : Hid (Below W2.heap.size W2 W3) := hb; clear ho hb) | (go_at_call 27; refine Calls.mono (path_any W3 (HKN.out.up HB3.out) HSM.out z) ?_; rintro ee W4 ⟨vv, rfl, ho, hb⟩; rw [HPL.out, HN2.out] at ho; obtain ⟨ba, bc, rfl⟩ := row_shape ho; have HB0 : Hid (Rk W4 W3.heap.size W4.heap.size (.slice ba n2 bc) (PL)) := (by have h7 : W4.ownsRow W3.heap.size 3 1 (.slice ba n2 bc) (PL).length (iC PL) := (by rw [HN2.out]; exact ho); exact Rk.of h7); have HB4 : Hid (Below w.heap.size w W4) := below_trans HB3.out hb; have HSW4 : Hid (Below W3.heap.size W3 W4) := hb; clear ho hb) | (go_at_call 30; refine Calls.mono (kids_any W4 (HKN.out.up HB4.out) HSM.out z) ?_; rintro ee W5 ⟨vv, rfl, ho, hb⟩; rw [HKL.out, HN1.out] at ho; obtain ⟨ea, ec, rfl⟩ := row_shape ho; have HE0 : Hid (Rk W5 W4.heap.size W5.heap.size (.slice ea n1 ec) (KL)) := (by have h7 : W5.ownsRow W4.heap.size 3 1 (.slice ea n1 ec) (KL).length (iC KL) := (by rw [HN1.out]; exact ho); exact Rk.of h7); have HB5 : Hid (Below w.heap.size w W5) := below_trans HB4.out hb; have HSW5 : Hid (Below W4.heap.size W4 W5) := hb; clear ho hb) | (go_at_call 27; refine Calls.mono (path_any W5 (HKN.out.up HB5.out) HSM.out z) ?_; rintro ee W6 ⟨vv, rfl, ho, hb⟩; rw [HPL.out, HN2.out] at ho; obtain ⟨fa, fc, rfl⟩ := row_shape ho; have HF0 : Hid (Rk W6 W5.heap.size W6.heap.size (.slice fa n2 fc) (PL)) := (by have h7 : W6.ownsRow W5.heap.size 3 1 (.slice fa n2 fc) (PL).length (iC PL) := (by rw [HN2.out]; exact ho); exact Rk.of h7); have HB6 : Hid (Below w.heap.size w W6) := below_trans HB5.out hb; have HSW6 : Hid (Below W5.heap.size W5 W6) := hb; clear ho hb)
  have HC6 : Hid (Rk W6 w.heap.size W1.heap.size (.slice ca n1 cc) (KL)) := ((((HC0.out.up HSW2.out).up HSW3.out).up HSW4.out).up HSW5.out).up HSW6.out
  have HD6 : Hid (Rk W6 W1.heap.size W2.heap.size (.slice da n2 dc) (PL)) := (((HD0.out.up HSW3.out).up HSW4.out).up HSW5.out).up HSW6.out
  have HA6 : Hid (Rk W6 W2.heap.size W3.heap.size (.slice aa n1 ac) (KL)) := ((HA0.out.up HSW4.out).up HSW5.out).up HSW6.out
  have HBB6 : Hid (Rk W6 W3.heap.size W4.heap.size (.slice ba n2 bc) (PL)) := (HB0.out.up HSW5.out).up HSW6.out
  have HE6 : Hid (Rk W6 W4.heap.size W5.heap.size (.slice ea n1 ec) (KL)) := HE0.out.up HSW6.out
  have HF6 : Hid (Rk W6 W5.heap.size W6.heap.size (.slice fa n2 fc) (PL)) := HF0.out
  have HLE : Hid (w.heap.size ≤ W1.heap.size ∧ W1.heap.size ≤ W2.heap.size ∧ W2.heap.size ≤ W3.heap.size ∧ W3.heap.size ≤ W4.heap.size ∧ W4.heap.size ≤ W5.heap.size ∧ W5.heap.size ≤ W6.heap.size) := ⟨HB1.out.size, HSW2.out.size, HSW3.out.size, HSW4.out.size, HSW5.out.size, HSW6.out.size⟩
  clear HC0 HD0 HA0 HB0 HE0 HF0 HSW1 HSW2 HSW3 HSW4 HSW5 HSW6 HB1 HB2 HB3 HB4 HB5
  have HB66 : Hid (Below W6.heap.size W6 W6) := Below.refl _ _
  go_upto_region 10 with first | (go_at_call_of 28 aa; refine Calls.mono (by have h7 := same_ints (l := KL) (by rw [HN1.out]; have := HN1L.out; omega) W6 (HA6.out.up HB66.out).rw (HC6.out.up HB66.out).rw; exact h7) ?_; rintro ee W7 ⟨rfl, hb⟩; have HB67 : Hid (Below W6.heap.size W6 W7) := below_trans HB66.out hb; clear hb) | (go_at_call_of 28 ba; refine Calls.mono (by have h7 := same_ints (l := PL) (by rw [HN2.out]; have := HN2L.out; omega) W7 (HBB6.out.up HB67.out).rw (HD6.out.up HB67.out).rw; exact h7) ?_; rintro ee W8 ⟨rfl, hb⟩; have HB68 : Hid (Below W6.heap.size W6 W8) := below_trans HB67.out hb; clear hb) | (go_at_call_of 28 ea; refine Calls.mono (by have h7 := same_ints (l := KL) (by rw [HN1.out]; have := HN1L.out; omega) W8 (HE6.out.up HB68.out).rw (HC6.out.up HB68.out).rw; exact h7) ?_; rintro ee W9 ⟨rfl, hb⟩; have HB69 : Hid (Below W6.heap.size W6 W9) := below_trans HB68.out hb; clear hb) | (go_at_call_of 28 fa; refine Calls.mono (by have h7 := same_ints (l := PL) (by rw [HN2.out]; have := HN2L.out; omega) W9 (HF6.out.up HB69.out).rw (HD6.out.up HB69.out).rw; exact h7) ?_; rintro ee W10 ⟨rfl, hb⟩; have HB610 : Hid (Below W6.heap.size W6 W10) := below_trans HB69.out hb; clear hb)
  have HCx : Hid (Rk W10 w.heap.size W1.heap.size (.slice ca n1 cc) (KL)) := HC6.out.up HB610.out
  have HDx : Hid (Rk W10 W1.heap.size W2.heap.size (.slice da n2 dc) (PL)) := HD6.out.up HB610.out
  have HAx : Hid (Rk W10 W2.heap.size W3.heap.size (.slice aa n1 ac) (KL)) := HA6.out.up HB610.out
  have HBx : Hid (Rk W10 W3.heap.size W4.heap.size (.slice ba n2 bc) (PL)) := HBB6.out.up HB610.out
  have HEx : Hid (Rk W10 W4.heap.size W5.heap.size (.slice ea n1 ec) (KL)) := HE6.out.up HB610.out
  have HFx : Hid (Rk W10 W5.heap.size W6.heap.size (.slice fa n2 fc) (PL)) := HF6.out.up HB610.out
  have HB10 : Hid (Below w.heap.size w W10) := below_trans HB6.out HB610.out
  have HLX : Hid (W6.heap.size ≤ W10.heap.size) := HB610.out.size
  clear HC6 HD6 HA6 HBB6 HE6 HF6 HB66 HB67 HB68 HB69 HB610 HB6
  go_loopg [13] n1 (fun gm v13 wr => ∃ (i : Nat) (l : List Int), v13 = .int .i64 (i : Int) ∧ Hid (i ≤ n1 ∧ gm = n1 - i) ∧ Hid (l.length = n1 ∧ l.take i = List.replicate i (-7)) ∧ Hid (Rk wr W2.heap.size W3.heap.size (.slice aa n1 ac) l) ∧ Hid (Fw W10 wr W10.heap.size (Value.ownBlock (.slice aa n1 ac)) none))
  case atStart => exact ⟨0, KL, rfl, ⟨Nat.zero_le _, rfl⟩, ⟨HN1.out, rfl⟩, HAx, Fw.refl _ _ _ _⟩
  case round =>
    clear HAx
    obtain ⟨i, l, rfl, HI, HLI, HA, HFW⟩ := hrel
    by_cases hi : i < n1
    · have e1 : decide ((i : Int) < (n1 : Int)) = true := by rw [decide_eq_true_eq]; omega
      have e2 : decide (i < n1) = true := by rw [decide_eq_true_eq]; omega
      have b1 : (i : Int) < (n1 : Int) := by omega
      have b2 : i < n1 := hi
      have HIM : Hid (i < n1) := hi
      have hwi := w64n i (by have := HN1L.out; omega)
      obtain ⟨ga, gc, hge, -, -, -⟩ := row_form HA.out.ow (by have := HLI.out.1; omega)
      obtain ⟨rfl, -, rfl⟩ := Value.slice.inj hge
      have how := HA.out.ow
      rw [HLI.out.1] at how
      have c1 := row_at how i _ (iC_get l i (by rw [HLI.out.1]; exact hi))
      obtain ⟨_, cur, hcur⟩ := row_tag how ga rfl
      have ff := fun j => Lib.frozen_of_heap hcur j
      clear hi hge how hcur
      go_wp2_with fail
      go_roundg (n1 - (i + 1))
      case measure => have := HI.out; have := HIM.out; omega
      case rel => exact ⟨i + 1, l.set i (-7), by first | rfl | (rw [show (i : Int) + 1 = ((i + 1 : Nat) : Int) by omega]), ⟨HIM.out, rfl⟩, ⟨by rw [List.length_set]; exact HLI.out.1, by rw [take_put l i _ (by rw [HLI.out.1]; exact HIM.out), HLI.out.2, List.replicate_succ']⟩, HA.out.set HLI.out.1 i (-7), HFW.out.grown HFW.out.size grown_set (fun r hr _ => Or.inl rfl)⟩
    · have e1 : decide ((i : Int) < (n1 : Int)) = false := by rw [decide_eq_false_iff_not]; omega
      have e2 : decide (i < n1) = false := by rw [decide_eq_false_iff_not]; omega
      have hl : l = List.replicate n1 (-7) := by
        have h7 := HLI.out
        have h8 : i = n1 := by have := HI.out; omega
        rw [h8, List.take_of_length_le (by omega)] at h7
        exact h7.2
      subst hl
      clear hi
      have HBy : Hid (Rk wr W3.heap.size W4.heap.size (.slice ba n2 bc) (PL)) := HBx.out.fw HFW.out (by have := HLE.out; have := HLX.out; omega) (fun r hr => by have h7 := HA.out.hi r hr; have h8 := (row_tag HA.out.ow r hr).1; have := HLE.out; omega) (fun r hr => by cases hr)
      go_upto_region 14 with fail
      obtain ⟨W11, hW11⟩ : ∃ W11, W11 = wr := ⟨_, rfl⟩
      rw [← hW11] at HA HFW HBy ⊢
      clear hW11 e1 e2 HI HLI
      go_loopg [14] n2 (fun gm v14 wr => ∃ (i : Nat) (l : List Int), v14 = .int .i64 (i : Int) ∧ Hid (i ≤ n2 ∧ gm = n2 - i) ∧ Hid (l.length = n2 ∧ l.take i = List.replicate i (-8)) ∧ Hid (Rk wr W3.heap.size W4.heap.size (.slice ba n2 bc) l) ∧ Hid (Fw W11 wr W11.heap.size (Value.ownBlock (.slice ba n2 bc)) none))
      case atStart => exact ⟨0, PL, rfl, ⟨Nat.zero_le _, rfl⟩, ⟨HN2.out, rfl⟩, HBy, Fw.refl _ _ _ _⟩
      case round =>
        clear HBy
        obtain ⟨i, l, rfl, HI, HLI, HB, HFW2⟩ := hrel
        by_cases hi : i < n2
        · have e1 : decide ((i : Int) < (n2 : Int)) = true := by rw [decide_eq_true_eq]; omega
          have e2 : decide (i < n2) = true := by rw [decide_eq_true_eq]; omega
          have b1 : (i : Int) < (n2 : Int) := by omega
          have b2 : i < n2 := hi
          have HIM : Hid (i < n2) := hi
          have hwi := w64n i (by have := HN2L.out; omega)
          obtain ⟨ga, gc, hge, -, -, -⟩ := row_form HB.out.ow (by have := HLI.out.1; omega)
          obtain ⟨rfl, -, rfl⟩ := Value.slice.inj hge
          have how := HB.out.ow
          rw [HLI.out.1] at how
          have c1 := row_at how i _ (iC_get l i (by rw [HLI.out.1]; exact hi))
          obtain ⟨_, cur, hcur⟩ := row_tag how ga rfl
          have ff := fun j => Lib.frozen_of_heap hcur j
          clear hi hge how hcur
          go_wp2_with fail
          go_roundg (n2 - (i + 1))
          case measure => have := HI.out; have := HIM.out; omega
          case rel => exact ⟨i + 1, l.set i (-8), by first | rfl | (rw [show (i : Int) + 1 = ((i + 1 : Nat) : Int) by omega]), ⟨HIM.out, rfl⟩, ⟨by rw [List.length_set]; exact HLI.out.1, by rw [take_put l i _ (by rw [HLI.out.1]; exact HIM.out), HLI.out.2, List.replicate_succ']⟩, HB.out.set HLI.out.1 i (-8), HFW2.out.grown HFW2.out.size grown_set (fun r hr _ => Or.inl rfl)⟩
        · have e1 : decide ((i : Int) < (n2 : Int)) = false := by rw [decide_eq_false_iff_not]; omega
          have e2 : decide (i < n2) = false := by rw [decide_eq_false_iff_not]; omega
          have hl : l = List.replicate n2 (-8) := by
            have h7 := HLI.out
            have h8 : i = n2 := by have := HI.out; omega
            rw [h8, List.take_of_length_le (by omega)] at h7
            exact h7.2
          subst hl
          clear hi
          have HLY : Hid (W10.heap.size ≤ W11.heap.size ∧ W11.heap.size ≤ wr.heap.size) := ⟨HFW.out.size, HFW2.out.size⟩
          have hbr : ∀ r, Value.ownBlock (.slice ba n2 bc) = some r → W3.heap.size ≤ r ∧ r < W4.heap.size := fun r hr => ⟨(row_tag HB.out.ow r hr).1, HB.out.hi r hr⟩
          have har : ∀ r, Value.ownBlock (.slice aa n1 ac) = some r → W2.heap.size ≤ r ∧ r < W3.heap.size := fun r hr => ⟨(row_tag HA.out.ow r hr).1, HA.out.hi r hr⟩
          have HBR : Hid (∀ r, Value.ownBlock (.slice ba n2 bc) = some r → W3.heap.size ≤ r ∧ r < W4.heap.size) := hbr
          have HAR : Hid (∀ r, Value.ownBlock (.slice aa n1 ac) = some r → W2.heap.size ≤ r ∧ r < W3.heap.size) := har
          have HA2 : Hid (Rk wr W2.heap.size W3.heap.size (.slice aa n1 ac) (List.replicate n1 (-7))) := HA.out.fw HFW2.out (by have := HLE.out; have := HLX.out; have := HLY.out; omega) (fun r hr => by have := hbr r hr; omega) (fun r hr => by cases hr)
          have HFX : Hid (Fw W10 wr W10.heap.size (Value.ownBlock (.slice aa n1 ac)) (Value.ownBlock (.slice ba n2 bc))) := ⟨HFW2.out.os.trans HFW.out.os, HFW2.out.tape.trans HFW.out.tape, HFW2.out.output.trans HFW.out.output, Nat.le_trans HFW.out.size HFW2.out.size, fun k hk k1 k2 => by rw [HFW2.out.block k (by have := HLY.out; omega) k2 (fun e => by cases e)]; exact HFW.out.block k hk k1 (fun e => by cases e)⟩
          have HLW : Hid (LW wr wr W2.heap.size W3.heap.size W4.heap.size wr.heap.size (.slice aa n1 ac) (.slice aa n1 ac) (.slice ba n2 bc) (.slice ba n2 bc) n1 n2 (-7) (-9) (-8) (-10) 0 0) := ⟨Pr.start HA2.out, Pr.start HB.out, fun r h1 h2 => by have := har r h1; have := hbr r h2; omega, Fw.refl _ _ _ _, Nat.le_refl _⟩
          clear hbr har HA HFW HFW2 HB HI HLI
          go_upto_region 20 with fail
          obtain ⟨W12, hW12⟩ : ∃ W12, W12 = wr := ⟨_, rfl⟩
          rw [← hW12] at HLW HFX HLY ⊢
          clear hW12 e1 e2 HA2
          have HLZ : Hid (W3.heap.size ≤ W4.heap.size ∧ W4.heap.size ≤ W12.heap.size ∧ W2.heap.size ≤ W12.heap.size ∧ W3.heap.size ≤ W12.heap.size) := by have := HLE.out; have := HLX.out; have := HLY.out; show _ ∧ _; omega
          go_loopg [15, 16, 17] 70 (fun gm v15 v16 v17 wr => ∃ (i : Nat), v17 = .int .i64 (i : Int) ∧ Hid (i ≤ 70 ∧ gm = 70 - i) ∧ Hid (LW W12 wr W2.heap.size W3.heap.size W4.heap.size W12.heap.size (.slice aa n1 ac) v15 (.slice ba n2 bc) v16 n1 n2 (-7) (-9) (-8) (-10) i i))
          case atStart => exact ⟨0, rfl, ⟨Nat.zero_le _, rfl⟩, HLW⟩
          case round =>
            clear HLW
            obtain ⟨i, rfl, HI, HLW⟩ := hrel
            obtain ⟨la, lc, hlv⟩ := row_shape HLW.out.1.ow
            subst hlv
            obtain ⟨wa, wc, hwv⟩ := row_shape HLW.out.2.1.ow
            subst hwv
            by_cases hi : i < 70
            · have e1 : decide ((i : Int) < 70) = true := by rw [decide_eq_true_eq]; omega
              have e2 : decide (i < 70) = true := by rw [decide_eq_true_eq]; omega
              have HIM : Hid (i < 70) := hi
              have hwi := w64n i (by omega)
              have HWS : Hid (W12.heap.size ≤ wr.heap.size) := HLW.out.2.2.2.2
              have HL1 := HLW.out.up HLZ.out.1 HLZ.out.2.1 (bel_up wr (.cells #[.int .i64 (-9)] 3))
              have HLA : Hid (LW W12 (wr.alloc (.cells #[.int .i64 (-9)] 3)) W2.heap.size W3.heap.size W4.heap.size W12.heap.size (.slice aa n1 ac) (.slice la (n1 + i) lc) (.slice ba n2 bc) (.slice wa (n2 + i) wc) n1 n2 (-7) (-9) (-8) (-10) i i) := HL1
              clear hi HL1
              go_upto_region 23 with (at_builtin; refine wpList_append_two _ rfl _ _ 23 rfl W2.heap.size 3 i3 (.int .i64 0) 1 8 Try.underlying23 hi3 hx0 hx1 hx2 rfl (by decide) _ _ _ rfl HLA.out.1.ow ⟨wr.heap.size, 0, none⟩ 1 1 [.int .i64 (-9)] rfl (by decide) rfl (cell_one_new _ _ _) (by simp [Value.oneCell']) (by have := HN1L.out; have := HIM.out; unfold maxLen; omega) (by have := HN1L.out; have := HIM.out; omega) (by have := HWS.out; have := HLZ.out; simp; omega) ?_; intro v5 w5 ho5 ht5; have HL5 : Hid (LW W12 w5 W2.heap.size W3.heap.size W4.heap.size W12.heap.size (.slice aa n1 ac) v5 (.slice ba n2 bc) (.slice wa (n2 + i) wc) n1 n2 (-7) (-9) (-8) (-10) (i + 1) i) := HLA.out.long HLZ.out.1 HLZ.out.2.1 ho5 ht5; obtain ⟨qa, qc, rfl⟩ := row_shape ho5; clear ho5 ht5)
              have HWS5 : Hid (W12.heap.size ≤ w5.heap.size) := HL5.out.2.2.2.2
              have HL2 := HL5.out.up HLZ.out.1 HLZ.out.2.1 (bel_up w5 (.cells #[.int .i64 (-10)] 3))
              have HLB : Hid (LW W12 (w5.alloc (.cells #[.int .i64 (-10)] 3)) W2.heap.size W3.heap.size W4.heap.size W12.heap.size (.slice aa n1 ac) (.slice qa (n1 + i + 1) qc) (.slice ba n2 bc) (.slice wa (n2 + i) wc) n1 n2 (-7) (-9) (-8) (-10) (i + 1) i) := HL2
              clear HL2 HLA HLW HL5
              go_wp2_with (at_builtin; refine wpList_append_two _ rfl _ _ 23 rfl W3.heap.size 3 i3 (.int .i64 0) 1 8 Try.underlying23 hi3 hx0 hx1 hx2 rfl (by decide) _ _ _ rfl HLB.out.2.1.ow ⟨w5.heap.size, 0, none⟩ 1 1 [.int .i64 (-10)] rfl (by decide) rfl (cell_one_new _ _ _) (by simp [Value.oneCell']) (by have := HN2L.out; have := HIM.out; unfold maxLen; omega) (by have := HN2L.out; have := HIM.out; omega) (by have := HWS5.out; have := HLZ.out; simp; omega) ?_; intro v6 w6 ho6 ht6; have HL6 : Hid (LW W12 w6 W2.heap.size W3.heap.size W4.heap.size W12.heap.size (.slice aa n1 ac) (.slice qa (n1 + i + 1) qc) (.slice ba n2 bc) v6 n1 n2 (-7) (-9) (-8) (-10) (i + 1) (i + 1)) := HLB.out.wide HLZ.out.1 HLZ.out.2.1 ho6 ht6; obtain ⟨ra, rc, rfl⟩ := row_shape ho6; clear ho6 ht6)
              go_roundg (70 - (i + 1))
              case measure => have := HI.out; have := HIM.out; omega
              case rel => exact ⟨i + 1, by first | rfl | (rw [show (i : Int) + 1 = ((i + 1 : Nat) : Int) by omega]), ⟨HIM.out, rfl⟩, HL6⟩
            · have e1 : decide ((i : Int) < 70) = false := by rw [decide_eq_false_iff_not]; omega
              have e2 : decide (i < 70) = false := by rw [decide_eq_false_iff_not]; omega
              have e3 : i = 70 := by have := HI.out; omega
              subst e3
              clear hi
              have HLL := HLW.out
              obtain ⟨pl1, pl2, pl3, pl4, pl5⟩ := HLL
              have HFY : Hid (Fw W10 wr W10.heap.size (Value.ownBlock (.slice aa n1 ac)) (Value.ownBlock (.slice ba n2 bc))) := ⟨pl4.os.trans HFX.out.os, pl4.tape.trans HFX.out.tape, pl4.output.trans HFX.out.output, Nat.le_trans HFX.out.size pl4.size, fun k hk k1 k2 => by rw [pl4.block k (by have := HLY.out; omega) k1 k2]; exact HFX.out.block k hk k1 k2⟩
              clear pl1 pl2 pl3 pl4 pl5
              have HCy : Hid (Rk wr w.heap.size W1.heap.size (.slice ca n1 cc) (KL)) := HCx.out.fw HFY.out (by have := HLE.out; have := HLX.out; omega) (fun r hr => by have := HAR.out r hr; have := HLE.out; omega) (fun r hr => by have := HBR.out r hr; have := HLE.out; omega)
              have HDy : Hid (Rk wr W1.heap.size W2.heap.size (.slice da n2 dc) (PL)) := HDx.out.fw HFY.out (by have := HLE.out; have := HLX.out; omega) (fun r hr => by have := HAR.out r hr; have := HLE.out; omega) (fun r hr => by have := HBR.out r hr; have := HLE.out; omega)
              have HEy : Hid (Rk wr W4.heap.size W5.heap.size (.slice ea n1 ec) (KL)) := HEx.out.fw HFY.out (by have := HLE.out; have := HLX.out; omega) (fun r hr => by have := HAR.out r hr; have := HLE.out; omega) (fun r hr => by have := HBR.out r hr; have := HLE.out; omega)
              have HFy : Hid (Rk wr W5.heap.size W6.heap.size (.slice fa n2 fc) (PL)) := HFx.out.fw HFY.out (by have := HLE.out; have := HLX.out; omega) (fun r hr => by have := HAR.out r hr; have := HLE.out; omega) (fun r hr => by have := HBR.out r hr; have := HLE.out; omega)
              have HB13 : Hid (Below w.heap.size w wr) := HFY.out.below HB10.out (by have := HLE.out; have := HLX.out; omega) (fun r hr => by have := HAR.out r hr; have := HLE.out; omega) (fun r hr => by have := HBR.out r hr; have := HLE.out; omega)
              have HPA : Hid (Pr wr W2.heap.size W3.heap.size W12.heap.size (.slice aa n1 ac) (.slice la (n1 + 70) lc) n1 (-7) (-9) 70 ∧ Pr wr W3.heap.size W4.heap.size W12.heap.size (.slice ba n2 bc) (.slice wa (n2 + 70) wc) n2 (-8) (-10) 70) := ⟨HLW.out.1, HLW.out.2.1⟩
              have HHI : Hid (W3.heap.size ≤ wr.heap.size ∧ W4.heap.size ≤ wr.heap.size) := by have := HLW.out.2.2.2.2; have := HLZ.out; show _ ∧ _; omega
              obtain ⟨W13, hW13⟩ : ∃ W13, W13 = wr := ⟨_, rfl⟩
              rw [← hW13] at HCy HDy HEy HFy HB13 HPA HHI ⊢
              clear hW13 HLW HFX HFY HCx HDx HBx HEx HFx HB10 HAR HBR
              have HBS : Hid (Below W13.heap.size W13 W13) := Below.refl _ _
              go_upto_region 26 with first | (go_at_call_of 28 ea; refine Calls.mono (by have h7 := same_ints (l := KL) (by rw [HN1.out]; have := HN1L.out; omega) W13 (HEy.out.up HBS.out).rw (HCy.out.up HBS.out).rw; exact h7) ?_; rintro ee W14 ⟨rfl, hb⟩; have HB14 : Hid (Below W13.heap.size W13 W14) := below_trans HBS.out hb; clear hb) | (go_at_call_of 28 fa; refine Calls.mono (by have h7 := same_ints (l := PL) (by rw [HN2.out]; have := HN2L.out; omega) W14 (HFy.out.up HB14.out).rw (HDy.out.up HB14.out).rw; exact h7) ?_; rintro ee W15 ⟨rfl, hb⟩; have HB15 : Hid (Below W13.heap.size W13 W15) := below_trans HB14.out hb; clear hb)
              have HBW15 : Hid (Below w.heap.size w W15) := below_trans HB13.out HB15.out
              go_upto_region 28 with first | (go_at_call 30; refine Calls.mono (kids_any W15 (HKN.out.up HBW15.out) HSM.out z) ?_; rintro ee W16 ⟨vv, rfl, ho, hb⟩; rw [HKL.out, HN1.out] at ho; obtain ⟨ga, gc, rfl⟩ := row_shape ho; have HG16 : Hid (Rk W16 W15.heap.size W16.heap.size (.slice ga n1 gc) KL) := (by have h7 : W16.ownsRow W15.heap.size 3 1 (.slice ga n1 gc) (KL).length (iC KL) := (by rw [HN1.out]; exact ho); exact Rk.of h7); have HB16 : Hid (Below W13.heap.size W13 W16) := below_trans HB15.out hb; have HB16s : Hid (Below W15.heap.size W15 W16) := hb; clear ho hb) | (go_at_call 27; refine Calls.mono (path_any W16 (HKN.out.up (below_trans HB13.out HB16.out)) HSM.out z) ?_; rintro ee W17 ⟨vv, rfl, ho, hb⟩; rw [HPL.out, HN2.out] at ho; obtain ⟨ha, hc, rfl⟩ := row_shape ho; have HH17 : Hid (Rk W17 W16.heap.size W17.heap.size (.slice ha n2 hc) PL) := (by have h7 : W17.ownsRow W16.heap.size 3 1 (.slice ha n2 hc) (PL).length (iC PL) := (by rw [HN2.out]; exact ho); exact Rk.of h7); have HB17 : Hid (Below W13.heap.size W13 W17) := below_trans HB16.out hb; have HB17s : Hid (Below W16.heap.size W16 W17) := hb; clear ho hb)
              go_upto_region 30 with first | (go_at_call_of 28 ga; refine Calls.mono (by have h7 := same_ints (l := KL) (by rw [HN1.out]; have := HN1L.out; omega) W17 (HG16.out.up HB17s.out).rw (HCy.out.up HB17.out).rw; exact h7) ?_; rintro ee W18 ⟨rfl, hb⟩; have HB18 : Hid (Below W13.heap.size W13 W18) := below_trans HB17.out hb; have HB1718 : Hid (Below W17.heap.size W17 W18) := hb; clear hb) | (go_at_call_of 28 ha; refine Calls.mono (by have h7 := same_ints (l := PL) (by rw [HN2.out]; have := HN2L.out; omega) W18 (HH17.out.up HB1718.out).rw (HDy.out.up HB18.out).rw; exact h7) ?_; rintro ee W19 ⟨rfl, hb⟩; have HB19 : Hid (Below W13.heap.size W13 W19) := below_trans HB18.out hb; clear hb) | (go_at_call_of 58 aa; refine Calls.mono (by have h7 := marked_any (na := n1) (-7) (-9) (by have := HN1L.out; omega) W19 (HPA.out.1.up HHI.out.1 HB19.out).rw (HPA.out.1.up HHI.out.1 HB19.out).lrw; exact h7) ?_; rintro ee W20 ⟨rfl, hb⟩; have HB20 : Hid (Below W13.heap.size W13 W20) := below_trans HB19.out hb; clear hb) | (go_at_call_of 58 ba; refine Calls.mono (by have h7 := marked_any (na := n2) (-8) (-10) (by have := HN2L.out; omega) W20 (HPA.out.2.up HHI.out.2 HB20.out).rw (HPA.out.2.up HHI.out.2 HB20.out).lrw; exact h7) ?_; rintro ee W21 ⟨rfl, hb⟩; have HB21 : Hid (Below W13.heap.size W13 W21) := below_trans HB20.out hb; clear hb)
              have HBZ : Hid (Below w.heap.size w W21) := below_trans HB13.out HB21.out
              clear HG16 HH17 HCy HDy HEy HFy HPA
              have HTX : Hid (Calls Try.prog 48 #[.slice (some ⟨g0, 0, none⟩) n kc0] W21 fun e w' => e = .returned (.string ⟨(doc t).toArray⟩) ∧ Below W21.heap.size W21 w') := ptext_any HST.out HZ.out W21 (HKN.out.up HBZ.out)
              obtain ⟨DT, hDT⟩ : ∃ DT : ByteArray, DT = ⟨(doc t).toArray⟩ := ⟨_, rfl⟩
              rw [← hDT] at HTX
              have HDT : Hid (DT = ⟨(doc t).toArray⟩) := hDT
              obtain ⟨R1, hR1⟩ : ∃ R1, rts t = R1 := ⟨_, rfl⟩
              obtain ⟨R2, hR2⟩ : ∃ R2, siz t z = R2 := ⟨_, rfl⟩
              obtain ⟨R3, hR3⟩ : ∃ R3, prt t z = R3 := ⟨_, rfl⟩
              have HR1 : Hid (rts t = R1) := hR1
              have HR2 : Hid (siz t z = R2) := hR2
              have HR3 : Hid (prt t z = R3) := hR3
              clear hDT hR1 hR2 hR3
              go_upto_region 34 with first | (go_at_call 25; refine (roots_any _ (HKN.out.up HBZ.out) HSM.out).mono ?_; rintro ee ww ⟨rfl, rfl⟩; rw [HR1.out]) | (go_at_call 31; refine (size_any _ (HKN.out.up HBZ.out) HSM.out z).mono ?_; rintro ee ww ⟨rfl, rfl⟩; rw [HR2.out]) | (go_at_call 29; refine (parent_any _ (HKN.out.up HBZ.out) HSM.out z).mono ?_; rintro ee ww ⟨rfl, rfl⟩; rw [HR3.out]) | (go_at_call 48; refine Calls.mono HTX.out ?_; rintro ee W22 ⟨rfl, hb⟩; have HB22 : Hid (Below w.heap.size w W22) := below_trans HBZ.out hb; clear hb)
              have f1 : (R1 == R1) = true := by simp
              have f2 : (R2 == R2) = true := by simp
              have f3 : (R3 == R3) = true := by simp
              have f4 : (DT.toList == DT.toList) = true := by simp
              go_wp2_with first | (go_at_call 59; refine (rroots_any HS.out _ (HT.out.up HB22.out)).mono ?_; rintro ee W23 ⟨rfl, hb⟩; rw [HR1.out]; have HB23 : Hid (Below w.heap.size w W23) := below_trans HB22.out hb; clear hb) | (go_at_call 60; refine (rsize_any HS.out _ (HT.out.up HB23.out) z).mono ?_; rintro ee W24 ⟨rfl, hb⟩; rw [HR2.out]; have HB24 : Hid (Below w.heap.size w W24) := below_trans HB23.out hb; clear hb) | (go_at_call 61; refine (rparent_any HS.out _ (HT.out.up HB24.out) z).mono ?_; rintro ee W25 ⟨rfl, hb⟩; rw [HR3.out]; have HB25 : Hid (Below w.heap.size w W25) := below_trans HB24.out hb; clear hb) | (go_at_call 62; refine (rtextx_any HST.out HZ.out _ (HT.out.up HB25.out)).mono ?_; rintro ee W26 ⟨ct, rfl, hct, hb⟩; rw [ba_eq hct, ← HDT.out]; have HB26 : Hid (Below w.heap.size w W26) := below_trans HB25.out hb; clear hb hct) | (go_at_call 15; refine (stays_any HSM.out _ (HRM.out.up HB26.out) (HT.out.up HB26.out)).mono ?_; rintro ee W27 ⟨rfl, hb⟩; have HB27 : Hid (Below w.heap.size w W27) := below_trans HB26.out hb; clear hb)
              go_ret
              exact ⟨rfl, HB27.out⟩
end Go.Proofs.Ytcfmpmhdjkchjaa
