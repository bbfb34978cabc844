import Derived.Test.YtbkhhegmmkcbbaaTfa
import Derived.Test.YtbkhhegmmkcbbaaTpw
import Derived.Test.YtbkhhegmmkcbbaaTgf
namespace Go.Proofs.Ytbkhhegmmkcbbaa
open Go.RowKit Go.Maps

theorem pth_step {t : List Nd} (z : Int) (hF : Fo (kds t)) (a k : Nat) (ha : a < t.length) (hk : k + 1 ≤ rA (kds t) a) : pth t z (t.length + 1) a (k + 1) [] = if cvr (t.getD a ndd) z then (a : Int) :: pth t z (t.length + 1) (a + 1) (kA (kds t) a) [] else pth t z (t.length + 1) (eA (kds t) a) k [] := by
  have hs := hF.step a (by rw [kds_len]; exact ha)
  have he := hF.elt a (by rw [kds_len]; exact ha)
  rw [kds_len] at he
  have e0 : pth t z (t.length + 1) a (k + 1) [] = if cvr (t.getD a ndd) z then pth t z t.length (a + 1) (kA (kds t) a) ([] ++ [(a : Int)]) else pth t z t.length (eA (kds t) a) k [] := by
    rw [pth, if_neg (by omega)]
    rfl
  rw [e0]
  cases cvr (t.getD a ndd) z with
  | true =>
    rw [if_pos rfl, if_pos rfl, pth_acc, List.nil_append, pth_fuel t z t.length (t.length + 1) (a + 1) (kA (kds t) a) [] hF (by omega) hs.2.2.1 (by omega) (by omega)]
    rfl
  | false =>
    rw [if_neg (by decide), if_neg (by decide)]
    exact pth_fuel t z t.length (t.length + 1) (eA (kds t) a) k [] hF he.2.1 (by omega) (by omega) (by omega)
theorem pth_zero (t : List Nd) (z : Int) (f a : Nat) (o : List Int) : pth t z f a 0 o = o := by cases f <;> rfl
theorem pth_small {t : List Nd} (z : Int) (hF : Fo (kds t)) : ∀ (N a k : Nat), t.length - a < N → a ≤ t.length → k ≤ rA (kds t) a → (pth t z (t.length + 1) a k []).length ≤ t.length - a
  | 0, a, k, hN, _, _ => by omega
  | N + 1, a, 0, hN, ha, hk => by rw [pth_zero]; exact Nat.zero_le _
  | N + 1, a, k + 1, hN, ha, hk => by
    have hl := hF.le a
    rw [kds_len] at hl
    have hlt : a < t.length := by omega
    have hs := hF.step a (by rw [kds_len]; exact hlt)
    have he := hF.elt a (by rw [kds_len]; exact hlt)
    rw [kds_len] at he
    rw [pth_step z hF a k hlt hk]
    split
    · have := pth_small z hF N (a + 1) (kA (kds t) a) (by omega) (by omega) hs.2.2.1
      rw [List.length_cons]; omega
    · have := pth_small z hF N (eA (kds t) a) k (by omega) he.2.1 (by omega)
      omega
set_option maxRecDepth 100000 in
set_option maxHeartbeats 8000000 in
theorem rpath_any {P : Nat → Prop} {w0 : World} {t : List Nd} (hs : t.length * 72 + 4096 ≤ 140737488355328) (hf : Fo (kds t)) (z : Int) : ∀ (N a k : Nat) (v : Value) (w : World), t.length - a < N → a ≤ t.length → k ≤ rA (kds t) a → FrM P w0 t v a k → Below w0.heap.size w0 w →
    Calls Try.prog 39 #[v, .int .i64 z] w fun e w' => ∃ v', e = .returned v' ∧ w'.ownsRow w.heap.size 3 1 v' (pth t z (t.length + 1) a k []).length (iC (pth t z (t.length + 1) a k [])) ∧ Below w.heap.size w w' := by
  obtain ⟨i3, hi3, hx0, hx1, hx2⟩ := info_parts info3
  intro N
  induction N with
  | zero => intro a k v w h; omega
  | succ N ih =>
    intro a k v w hN ha hk h hb
    have HIH : Hid (∀ (a k : Nat) (v : Value) (w : World), t.length - a < N → a ≤ t.length → k ≤ rA (kds t) a → FrM P w0 t v a k → Below w0.heap.size w0 w → Calls Try.prog 39 #[v, .int .i64 z] w fun e w' => ∃ v', e = .returned v' ∧ w'.ownsRow w.heap.size 3 1 v' (pth t z (t.length + 1) a k []).length (iC (pth t z (t.length + 1) a k [])) ∧ Below w.heap.size w w') := ih
    have HM : Hid (FrM P w0 t v a k) := h
    have HBB : Hid (Below w0.heap.size w0 w) := hb
    have HF : Hid (Fo (kds t)) := hf
    have HA : Hid (t.length - a < N + 1 ∧ a ≤ t.length ∧ k ≤ rA (kds t) a ∧ k ≤ t.length) := ⟨hN, ha, hk, by have := hf.le a; rw [kds_len] at this; omega⟩
    have HS : Hid (t.length * 72 + 4096 ≤ 140737488355328) := hs
    obtain ⟨av, cap, rfl⟩ := h.form
    clear h hs ih hN ha hk hf hb
    obtain ⟨Q, hQ⟩ : ∃ Q, pth t z (t.length + 1) a k [] = Q := ⟨_, rfl⟩
    have HQ0 : Hid (Q = pth t z (t.length + 1) (wA (kds t) a 0) (k - 0) []) := by rw [wA_zero]; exact hQ.symm
    rw [hQ]
    clear hQ
    go_enter Try.func39, Try.ntmps39
    go_upto_region 2 with fail
    go_loopg [5] k (fun gm v5 wr => ∃ i : Nat, v5 = .int .i64 (i : Int) ∧ Hid (i ≤ k ∧ gm = k - i) ∧ Hid (Q = pth t z (t.length + 1) (wA (kds t) a i) (k - i) []) ∧ w = wr)
    case atStart => exact ⟨0, rfl, ⟨Nat.zero_le _, rfl⟩, HQ0, rfl⟩
    case round =>
      clear HQ0
      obtain ⟨i, rfl, HI, HQ, hw9⟩ := hrel
      subst hw9
      by_cases hi : i < k
      · have e1 : decide ((i : Int) < (k : Int)) = true := by rw [decide_eq_true_eq]; omega
        have e2 : decide (i < k) = true := by rw [decide_eq_true_eq]; omega
        have b1 : (i : Int) < (k : Int) := by omega
        have b2 : i < k := hi
        have HIK : Hid (i < k) := hi
        obtain ⟨g, o, aa, nn, cc, rfl, hT, hC⟩ := HM.out.nine i hi
        have HAK : Hid (kA (kds t) (wA (kds t) a i) ≤ rA (kds t) (wA (kds t) a i + 1) ∧ wA (kds t) a i < t.length ∧ a ≤ wA (kds t) a i) := by
          have h1 := HF.out.lt a i (by rw [kds_len]; exact HA.out.2.1) (by have := HA.out; omega)
          have h2 := HF.out.step _ h1
          rw [kds_len] at h1
          exact ⟨h2.2.2.1, h1, by have := (HF.out.end a i (by rw [kds_len]; exact HA.out.2.1) (by have := HA.out; omega)).2.2; omega⟩
        have hQ := HQ.out
        rw [show k - i = (k - (i + 1)) + 1 by omega, pth_step z HF.out _ _ HAK.out.2.1 (by have h7 := (HF.out.end a i (by rw [kds_len]; exact HA.out.2.1) (by have := HA.out; omega)).2.1; have := HA.out; omega), ← HF.out.next a i (by have := HA.out; omega)] at hQ
        have HCL : Hid (∀ W, Below w0.heap.size w0 W → Calls Try.prog 39 #[.slice aa nn cc, .int .i64 z] W fun e w' => ∃ v', e = .returned v' ∧ w'.ownsRow W.heap.size 3 1 v' (pth t z (t.length + 1) (wA (kds t) a i + 1) (kA (kds t) (wA (kds t) a i)) []).length (iC (pth t z (t.length + 1) (wA (kds t) a i + 1) (kA (kds t) (wA (kds t) a i)) [])) ∧ Below W.heap.size W w') := fun W hW => HIH.out _ _ _ W (by have := HA.out; have := HAK.out; omega) (by have := HAK.out; omega) HAK.out.1 hT.kids hW
        have HSM : Hid ((pth t z (t.length + 1) (wA (kds t) a i + 1) (kA (kds t) (wA (kds t) a i)) []).length ≤ t.length) := by
          have h7 := pth_small z HF.out (t.length + 1) (wA (kds t) a i + 1) (kA (kds t) (wA (kds t) a i)) (by omega) (by have := HAK.out; omega) HAK.out.1
          show _ ≤ _; omega
        obtain ⟨b, hb⟩ : ∃ b, wA (kds t) a i = b := ⟨_, rfl⟩
        rw [hb] at hC hQ HCL HSM
        obtain ⟨R, hR⟩ : ∃ R, pth t z (t.length + 1) (b + 1) (kA (kds t) b) [] = R := ⟨_, rfl⟩
        rw [hR] at hQ HCL HSM
        obtain ⟨X, hX⟩ : ∃ X, t.getD b ndd = X := ⟨_, rfl⟩
        rw [hX] at hC hQ
        have HC : Hid _ := hC
        clear hC hT hb hX hR
        obtain ⟨-, -, -, q3, q4, -, -, q7, q8⟩ := HC.out w HBB.out
        have hwi := w64n i (by have := HS.out; have := HA.out; omega)
        cases hcv : cvr X z with
        | true =>
          rw [hcv, if_pos rfl] at hQ
          have HQ2 : Hid (Q = (b : Int) :: R) := hQ
          unfold cvr at hcv
          rw [Bool.and_eq_true, decide_eq_true_eq, decide_eq_true_eq] at hcv
          obtain ⟨c1, c2⟩ := hcv
          have d1 : decide (X.fr ≤ z) = true := by rw [decide_eq_true_eq]; exact c1
          have d2 : decide (z < X.tt) = true := by rw [decide_eq_true_eq]; exact c2
          have d3 : decide (X.tt > z) = true := d2
          clear hi hQ
          go_upto_region 6 with (go_at_call 39; refine Calls.mono (HCL.out _ HBB.out) ?_; rintro ee W4 ⟨v4, rfl, ho4, hb4⟩; have HO4 : Hid (W4.ownsRow w.heap.size 3 1 v4 R.length (iC R)) := ho4; have HB4 : Hid (Below w.heap.size w W4) := hb4; obtain ⟨ra, rc, rfl⟩ := row_shape ho4; clear ho4 hb4)
          obtain ⟨-, -, -, -, -, -, -, -, r8⟩ := HC.out W4 (below_trans HBB.out HB4.out)
          clear q3 q4 q7 q8 c1 c2 d1 d2 d3
          have HLIT : Hid ((W4.alloc (.cells #[.int .i64 (b : Int)] 3)).ownsRow w.heap.size 3 1 (.slice (some ⟨W4.heap.size, 0, none⟩) 1 1) 1 [.int .i64 (b : Int)]) := World.ownsRow_lit (base := w.heap.size) (e := 3) (size := 1) W4 #[.int .i64 (b : Int)] 1 HB4.out.size (by decide) rfl
          have HRW : Hid (Rw (W4.alloc (.cells #[.int .i64 (b : Int)] 3)) (.slice ra R.length rc) R.length (iC R)) := row_rw (HO4.out.alloc _) (by decide)
          have HMX : Hid (1 + R.length ≤ maxLen ∧ (1 + R.length) * 8 ≤ 140737488355328) := by have := HSM.out; have := HS.out; show _ ∧ _; unfold maxLen; omega
          have HSZ : Hid (w.heap.size ≤ (W4.alloc (.cells #[.int .i64 (b : Int)] 3)).heap.size) := Nat.le_trans HB4.out.size (bel_up _ _).size
          go_wp2_with (at_builtin; refine wpList_push _ rfl _ _ 58 rfl w.heap.size 3 i3 (.int .i64 0) 1 8 Try.underlying58 hi3 hx0 hx1 hx2 rfl (by decide) W4.heap.size 1 1 [.int .i64 (b : Int)] rfl HLIT.out _ R.length (iC R) rfl HRW.out (iC_len R) (iC_one R) HMX.out.1 HMX.out.2 HSZ.out ?_; intro g5 c5 w5 ho5 hg5; have HO5 : Hid (w5.ownsRow w.heap.size 3 1 (.slice (some ⟨g5, 0, none⟩) (1 + R.length) c5) (1 + R.length) ([.int .i64 (b : Int)] ++ iC R)) := ho5; have HB5 : Hid (Below w.heap.size w w5) := (below_trans HB4.out (bel_up _ _)).grown hg5 HSZ.out (fun r hr => by cases hr; exact HB4.out.size); clear ho5 hg5)
          go_ret
          refine ⟨_, rfl, ?_, HB5.out⟩
          rw [HQ2.out, List.length_cons, Nat.add_comm R.length 1]
          exact HO5.out
        | false =>
          rw [hcv, if_neg (by decide)] at hQ
          have HQ2 : Hid (Q = pth t z (t.length + 1) (wA (kds t) a (i + 1)) (k - (i + 1)) []) := hQ
          unfold cvr at hcv
          clear hi hQ
          cases hd1 : decide (X.fr ≤ z) with
          | false =>
            clear hcv
            go_wp2_with fail
            go_roundg (k - (i + 1))
            case measure => have := HI.out; have := HIK.out; omega
            case rel => exact ⟨i + 1, by first | rfl | (rw [show (i : Int) + 1 = ((i + 1 : Nat) : Int) by omega]), ⟨HIK.out, rfl⟩, HQ2, rfl⟩
          | true =>
            rw [hd1, Bool.true_and] at hcv
            have d3 : decide (X.tt > z) = false := hcv
            go_wp2_with fail
            go_roundg (k - (i + 1))
            case measure => have := HI.out; have := HIK.out; omega
            case rel => exact ⟨i + 1, by first | rfl | (rw [show (i : Int) + 1 = ((i + 1 : Nat) : Int) by omega]), ⟨HIK.out, rfl⟩, HQ2, rfl⟩
      · have e1 : decide ((i : Int) < (k : Int)) = false := by rw [decide_eq_false_iff_not]; omega
        have e2 : decide (i < k) = false := by rw [decide_eq_false_iff_not]; omega
        have HQ2 : Hid (Q = []) := by
          have h7 := HQ.out
          rw [show k - i = 0 by omega, pth_zero] at h7
          exact h7
        clear hi
        go_wp2_with fail
        go_ret
        exact ⟨_, rfl, by rw [HQ2.out]; exact World.ownsRow_nil _ _ _ _, Below.refl _ _⟩
set_option maxRecDepth 100000 in
set_option maxHeartbeats 8000000 in
theorem rpathx_any {v : Value} {t : List Nd} (hs : t.length * 72 + 4096 ≤ 140737488355328) (w : World) (h : Ns w v t) (z : Int) :
    Calls Try.prog 34 #[v, .int .i64 z] w fun e w' => ∃ v', e = .returned v' ∧ w'.ownsRow w.heap.size 3 1 v' (pat t z).length (iC (pat t z)) ∧ Below w.heap.size w w' := by
  have HFO : Hid _ := rforest_any hs w h
  have HS : Hid (t.length * 72 + 4096 ≤ 140737488355328) := hs
  obtain ⟨av, cap, rfl⟩ := h.form
  clear h hs
  go_enter Try.func34, Try.ntmps34
  go_upto_region 2 with (go_at_call 38; refine Calls.mono HFO.out ?_; rintro ee W4 ⟨ad, k, cp, bb, rfl, hmf, hbb, hb4⟩; have HM : Hid (Mf w.heap.size W4 t ad k cp) := hmf; have HBB : Hid (bb = (rt (kds t)).isSome) := hbb; have HB4 : Hid (Below w.heap.size w W4) := hb4; clear hmf hbb hb4)
  have HPA : Hid (Calls Try.prog 39 #[.slice ad k cp, .int .i64 z] W4 fun e w' => ∃ v', e = .returned v' ∧ w'.ownsRow W4.heap.size 3 1 v' (pat t z).length (iC (pat t z)) ∧ Below W4.heap.size W4 w') := by
    rcases HM.out with ⟨h1, h2⟩ | ⟨h1, rfl, rfl, rfl⟩
    · have h7 := rpath_any HS.out ⟨k, h1⟩ z (t.length + 1) 0 k _ W4 (by omega) (by omega) (by rw [Fo.top h1]; exact Nat.le_refl _) h2 (Below.refl _ _)
      unfold pat
      rw [h1]
      exact h7
    · have h7 := rpath_any (P := fun g => w.heap.size ≤ g) (w0 := W4) (t := []) (by decide) ⟨0, rfl⟩ z 1 0 0 _ W4 (by decide) (by decide) (Nat.zero_le _) (frm_none _ _ _ _) (Below.refl _ _)
      unfold pat
      rw [h1]
      exact h7
  go_wp2_with (go_at_call 39; refine Calls.mono HPA.out ?_; rintro ee W5 ⟨v5, rfl, ho5, hb5⟩; have HO5 : Hid (W5.ownsRow W4.heap.size 3 1 v5 (pat t z).length (iC (pat t z))) := ho5; have HB5 : Hid (Below w.heap.size w W5) := below_trans HB4.out hb5; obtain ⟨qa, qc, rfl⟩ := row_shape ho5; clear ho5 hb5)
  go_ret
  exact ⟨_, rfl, row_base HO5.out HB4.out.size, HB5.out⟩
end Go.Proofs.Ytbkhhegmmkcbbaa
