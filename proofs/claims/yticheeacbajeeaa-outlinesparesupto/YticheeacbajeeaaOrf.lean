import Derived.Test.YticheeacbajeeaaOsm
import Derived.Test.YticheeacbajeeaaTfa
namespace Go.Proofs.Yticheeacbajeeaa
open Go.RowKit Go.Maps

/-- The cells of a node, behind. -/
theorem Ns.sev {W : World} {a : Option Addr} {n cap : Nat} {t : List Nd} (h : Ns W (.slice a n cap) t) (i : Nat) (hi : i < t.length) : ∃ g o, a = some ⟨g, o, none⟩ ∧ ∀ W', Below W.heap.size W W' → ∀ j, j < t.length → W'.cell? ⟨g, o + j * 7, none⟩ = some (.string (t.getD j ndd).nm) ∧ W'.cell? ⟨g, o + j * 7 + 1, none⟩ = some (.bool (t.getD j ndd).nd) ∧ W'.cell? ⟨g, o + j * 7 + 2, none⟩ = some (.string (t.getD j ndd).fd) ∧ W'.cell? ⟨g, o + j * 7 + 3, none⟩ = some (.int .i64 (t.getD j ndd).fr) ∧ W'.cell? ⟨g, o + j * 7 + 4, none⟩ = some (.int .i64 (t.getD j ndd).tt) := by
  obtain ⟨g, o, e, _⟩ := h.seven i hi
  refine ⟨g, o, e, fun W' hW j hj => ?_⟩
  obtain ⟨g', o', e', hq⟩ := h.seven j hj
  rw [e] at e'
  obtain ⟨rfl, rfl, -⟩ := Addr.mk.inj (Option.some.inj e')
  obtain ⟨q0, q1, q2, q3, q4, _⟩ := hq W' hW
  exact ⟨q0, q1, q2, q3, q4⟩
set_option maxRecDepth 100000 in
set_option maxHeartbeats 8000000 in
/-- The reference's own: are these right? -/
theorem right_any {v : Value} {T : List Nd} (s : ByteArray) (w : World) (h : Ns w v T) (hs : Sm T) : Calls Try.prog 24 #[v, .string s] w fun e w' => e = .returned (.bool (rgt T s.size)) ∧ Below w.heap.size w w' := by
  have HT : Hid (Ns w v T) := h
  have HSM : Hid (Sm T) := hs
  obtain ⟨a, cap, rfl⟩ := h.form
  obtain ⟨n, hn⟩ : ∃ n, T.length = n := ⟨_, rfl⟩
  rw [hn] at HT ⊢
  have HN : Hid (T.length = n ∧ n * 72 + 4096 ≤ 140737488355328) := ⟨hn, by have h9 := hs; unfold Sm at h9; rw [hn] at h9; exact h9⟩
  obtain ⟨z, hz⟩ : ∃ z, s.size = z := ⟨_, rfl⟩
  have HZ : Hid (s.size = z) := hz
  clear h hs hn
  rw [hz]
  go_enter Try.func24, Try.ntmps24
  go_upto_region 2 with fail
  go_loopg [5] n (fun gm v5 wr => ∃ i : Nat, v5 = .int .i64 (i : Int) ∧ Hid (i ≤ n ∧ gm = n - i) ∧ Hid ((T.take i).all (fun x => decide (0 ≤ x.fr ∧ x.fr ≤ x.tt ∧ x.tt ≤ (z : Int))) = true) ∧ Hid (Below w.heap.size w wr))
  case atStart => exact ⟨0, rfl, ⟨Nat.zero_le _, rfl⟩, rfl, Below.refl _ _⟩
  case round =>
    obtain ⟨i, rfl, HI, HM, HB⟩ := hrel
    by_cases hi : i < n
    · have e1 : decide ((i : Int) < (n : Int)) = true := by rw [decide_eq_true_eq]; omega
      have e2 : decide (i < n) = true := by rw [decide_eq_true_eq]; omega
      have b1 : (i : Int) < (n : Int) := by omega
      have b2 : i < n := hi
      have b3 : (0 : Int) ≤ (i : Int) := by omega
      have HIL : Hid (i < n ∧ i < T.length) := ⟨hi, by rw [HN.out.1]; exact hi⟩
      obtain ⟨g, o, rfl, hq⟩ := HT.out.seven i HIL.out.2
      obtain ⟨-, -, -, t3, t4, -⟩ := hq wr HB.out
      have HST : Hid _ := lie_take T z i HIL.out.2
      have HNO : Hid _ := @lie_no T z i HIL.out.2
      obtain ⟨y, hy⟩ : ∃ y, T.getD i ndd = y := ⟨_, rfl⟩
      rw [hy] at t3 t4 HST HNO
      have hwi := w64n i (by have := HN.out; omega)
      have HWI : Hid (IntKind.i64.wrap ((i : Int) + 1) = (i : Int) + 1) := by rw [hwi]; rfl
      clear hi hq hy
      by_cases k0 : 0 ≤ y.fr
      · have f0 : decide (y.fr < 0) = false := by rw [decide_eq_false_iff_not]; omega
        by_cases k1 : y.fr ≤ y.tt
        · have f1 : decide (y.tt < y.fr) = false := by rw [decide_eq_false_iff_not]; omega
          by_cases k2 : y.tt ≤ (z : Int)
          · have f2 : decide ((z : Int) < y.tt) = false := by rw [decide_eq_false_iff_not]; omega
            have HM2 : Hid ((T.take (i + 1)).all (fun x => decide (0 ≤ x.fr ∧ x.fr ≤ x.tt ∧ x.tt ≤ (z : Int))) = true) := by
              show _ = _
              rw [HST.out, HM.out, decide_eq_true (And.intro k0 (And.intro k1 k2))]
              rfl
            clear k0 k1 k2
            go_upto_region 4 with fail
            go_quiet (fail)
            have HB9 : Hid (Below wr.heap.size wr (wr.drewN nq)) := below_drewN (Below.refl _ _) _
            generalize wr.drewN nq = W9 at HB9 ⊢
            have hwi2 := HWI.out
            go_wp2_with fail
            go_roundg (n - (i + 1))
            case measure => have := HI.out; have := HIL.out; omega
            case rel => exact ⟨i + 1, by simp, ⟨HIL.out.1, rfl⟩, HM2, below_trans HB.out HB9.out⟩
          · have f2 : decide ((z : Int) < y.tt) = true := by rw [decide_eq_true_eq]; omega
            have HE : Hid (rgt T z = false) := by show _ = _; unfold rgt; rw [HNO.out (fun h => k2 h.2.2)]; rfl
            clear k0 k1 k2
            go_upto_region 4 with fail
            go_quiet (fail)
            have HB9 : Hid (Below wr.heap.size wr (wr.drewN nq)) := below_drewN (Below.refl _ _) _
            generalize wr.drewN nq = W9 at HB9 ⊢
            go_wp2_with fail
            go_ret
            exact ⟨by rw [HE.out]; rfl, below_trans HB.out HB9.out⟩
        · have f1 : decide (y.tt < y.fr) = true := by rw [decide_eq_true_eq]; omega
          have HE : Hid (rgt T z = false) := by show _ = _; unfold rgt; rw [HNO.out (fun h => k1 h.2.1)]; rfl
          clear k0 k1
          go_upto_region 4 with fail
          go_quiet (fail)
          have HB9 : Hid (Below wr.heap.size wr (wr.drewN nq)) := below_drewN (Below.refl _ _) _
          generalize wr.drewN nq = W9 at HB9 ⊢
          go_wp2_with fail
          go_ret
          exact ⟨by rw [HE.out]; rfl, below_trans HB.out HB9.out⟩
      · have f0 : decide (y.fr < 0) = true := by rw [decide_eq_true_eq]; omega
        have HE : Hid (rgt T z = false) := by show _ = _; unfold rgt; rw [HNO.out (fun h => k0 h.1)]; rfl
        clear k0
        go_upto_region 4 with fail
        go_quiet (fail)
        have HB9 : Hid (Below wr.heap.size wr (wr.drewN nq)) := below_drewN (Below.refl _ _) _
        generalize wr.drewN nq = W9 at HB9 ⊢
        go_wp2_with fail
        go_ret
        exact ⟨by rw [HE.out]; rfl, below_trans HB.out HB9.out⟩
    · have e1 : decide ((i : Int) < (n : Int)) = false := by rw [decide_eq_false_iff_not]; omega
      have e2 : decide (i < n) = false := by rw [decide_eq_false_iff_not]; omega
      have HE : Hid (rgt T z = decide (0 ≤ rts T)) := by
        show _ = _
        unfold rgt lie
        have h9 := HM.out
        rw [List.take_of_length_le (by rw [HN.out.1]; omega)] at h9
        rw [h9]; rfl
      have HRT : Hid _ := rroots_any HSM.out wr (HT.out.up HB.out)
      obtain ⟨R, hR⟩ : ∃ R, rts T = R := ⟨_, rfl⟩
      rw [hR] at HRT HE
      clear hi hR
      go_wp2_with (go_at_call 38; refine Calls.mono HRT.out ?_; rintro e w3 ⟨rfl, hb3⟩; have HB3 : Hid (Below wr.heap.size wr w3) := hb3; clear hb3)
      go_ret
      exact ⟨by rw [HE.out]; rfl, below_trans HB.out HB3.out⟩
end Go.Proofs.Yticheeacbajeeaa
