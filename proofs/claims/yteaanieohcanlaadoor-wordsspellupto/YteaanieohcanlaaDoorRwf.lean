import Derived.Test.YteaanieohcanlaaDoorRwe
import Derived.Test.YteaanieohcanlaaDoorSpf
namespace Go.Proofs.YteaanieohcanlaaDoor
open Go.RowKit Go.Maps

set_option maxRecDepth 100000 in
set_option maxHeartbeats 8000000 in
theorem rjoin_any {v : Value} (l : List Wd) (w : World) (h : Rw w v l.length (wC l)) (hl : l.length ≤ 1000000000000) (ht : ∀ x ∈ l, x.t.length ≤ 100000000000) (hj : ∀ i, (jna (l.take i)).length ≤ 100000000000) (hI : ∀ x ∈ l, snd x = true → x.k = 4 → ItoaOK w x.n) :
    Calls Tryd.prog 17 #[v] w fun e w' => e = .returned (.string ⟨(jn l).toArray⟩) ∧ Below w.heap.size w w' := by
  obtain ⟨a1, g1, o1, q1, rfl, hq1, hn1, hs1, hc1⟩ := h
  have HC1 : Hid (∀ i, i < l.length → w.cell? ⟨g1, o1 + i * 4, none⟩ = some (.int .i64 (l.getD i w0).k) ∧ w.cell? ⟨g1, o1 + i * 4 + 1, none⟩ = some (.string ⟨(l.getD i w0).t.toArray⟩) ∧ w.cell? ⟨g1, o1 + i * 4 + 2, none⟩ = some (.int .i64 (l.getD i w0).n) ∧ w.cell? ⟨g1, o1 + i * 4 + 3, none⟩ = some (.int .i64 (l.getD i w0).a)) := fun i hi => by
    obtain ⟨k0, k1, k2, k3⟩ := wC_get l i hi
    exact ⟨hc1 _ _ k0, hc1 _ _ k1, hc1 _ _ k2, hc1 _ _ k3⟩
  have HL : Hid (l.length ≤ 1000000000000) := hl
  have HT : Hid (∀ x ∈ l, x.t.length ≤ 100000000000) := ht
  have HJ : Hid (∀ i, (jna (l.take i)).length ≤ 100000000000) := hj
  have HI : Hid (∀ x ∈ l, snd x = true → x.k = 4 → ItoaOK w x.n) := hI
  have HS1 : Hid (0 < l.length → a1 = some ⟨g1, o1, none⟩) := hs1
  obtain ⟨R, hR⟩ : ∃ R, jn l = R := ⟨_, rfl⟩
  have HR : Hid (jn l = R) := hR
  rw [hR]
  clear hl ht hj hI hq1 hn1 hs1 hc1 hR
  go_enter Tryd.func17, Tryd.ntmps17
  go_wp2_with fail
  go_loopg [3, 4] l.length (fun gm v3 v4 wr => ∃ i : Nat, v4 = .int .i64 (i : Int) ∧ Hid (i ≤ l.length ∧ gm = l.length - i) ∧ v3 = .string ⟨(jna (l.take i)).toArray⟩ ∧ Hid ((l.take i).all snd = true) ∧ Hid (Below w.heap.size w wr))
  case atStart => exact ⟨0, rfl, ⟨Nat.zero_le _, rfl⟩, rfl, rfl, Below.refl _ _⟩
  case round =>
    obtain ⟨i, rfl, HII, rfl, HA, HB⟩ := hrel
    obtain ⟨b, hb⟩ : ∃ b, jna (l.take i) = b := ⟨_, rfl⟩
    have HBE : Hid (jna (l.take i) = b) := hb
    obtain ⟨S, hS⟩ : ∃ S : ByteArray, ⟨b.toArray⟩ = S := ⟨_, rfl⟩
    have HSL : Hid (S.data.toList = b) := by rw [← hS]; exact rfl
    have HSS : Hid (S.size ≤ 100000000000) := by rw [← lst_siz, HSL.out, ← hb]; exact HJ.out i
    have HSE : Hid ((⟨b.toArray⟩ : ByteArray) = S) := hS
    rw [hb, hS]
    clear hb hS
    by_cases hi : i < l.length
    · have e1 : decide ((i : Int) < (l.length : Int)) = true := by rw [decide_eq_true_eq]; omega
      have e2 : decide (i < l.length) = true := by rw [decide_eq_true_eq]; omega
      have e3 : (i : Int) < (l.length : Int) := by omega
      have r1 := HS1.out (by omega)
      subst r1
      have HIL : Hid (i < l.length) := hi
      have HCC : Hid (∀ W, Below wr.heap.size wr W → W.cell? ⟨g1, o1 + i * 4, none⟩ = some (.int .i64 (l.getD i w0).k) ∧ W.cell? ⟨g1, o1 + i * 4 + 1, none⟩ = some (.string ⟨(l.getD i w0).t.toArray⟩) ∧ W.cell? ⟨g1, o1 + i * 4 + 2, none⟩ = some (.int .i64 (l.getD i w0).n) ∧ W.cell? ⟨g1, o1 + i * 4 + 3, none⟩ = some (.int .i64 (l.getD i w0).a)) := fun W hW => by
        obtain ⟨p0, p1, p2, p3⟩ := HC1.out i hi
        have hb := below_trans HB.out hW
        exact ⟨below_cell hb p0, below_cell hb p1, below_cell hb p2, below_cell hb p3⟩
      have HTS : Hid (l.take (i + 1) = l.take i ++ [l.getD i w0]) := take_snoc_wd l i hi
      have hmem : l.getD i w0 ∈ l := by rw [List.getD_eq_getElem?_getD, List.getElem?_eq_getElem hi]; exact List.getElem_mem hi
      have HXT : Hid ((l.getD i w0).t.length ≤ 100000000000) := HT.out _ hmem
      have HXI : Hid (snd (l.getD i w0) = true → (l.getD i w0).k = 4 → ItoaOK w (l.getD i w0).n) := HI.out _ hmem
      have HMM : Hid (l.getD i w0 ∈ l) := hmem
      obtain ⟨x, hx⟩ : ∃ x, l.getD i w0 = x := ⟨_, rfl⟩
      rw [hx] at HCC HTS HXT HXI HMM
      obtain ⟨q0, q1, q2, q3⟩ := HCC.out wr (Below.refl _ _)
      have hwi := w64n i (by have := HL.out; omega)
      clear hi hmem hx
      go_wp2_with fail
      refine (rsound_any x HXT.out wr).mono ?_
      rintro e w2 ⟨rfl, b2⟩
      have HB2 : Hid (Below wr.heap.size wr w2) := b2
      have HBW2 : Hid (Below w.heap.size w w2) := below_trans HB.out b2
      clear b2 q0 q1 q2 q3
      obtain ⟨q0, q1, q2, q3⟩ := HCC.out w2 HB2.out
      cases hs : snd x with
      | false =>
        have HRE : Hid (R = []) := by
          rw [← HR.out]
          show jn l = []
          unfold jn
          rw [if_neg]
          rw [List.all_eq_true]
          intro h
          have := h x HMM.out
          rw [hs] at this
          cases this
        clear hs
        go_wp2_with fail
        go_ret
        exact ⟨by rw [HRE.out]; rfl, HBW2.out⟩
      | true =>
        have HSX : Hid (snd x = true) := hs
        have HA2 : Hid ((l.take (i + 1)).all snd = true) := by
          rw [HTS.out, List.all_append, HA.out]
          show _ = _
          simp [hs]
        clear hs
        have HIX : Hid (∀ W, Below w.heap.size w W → snd x = true → x.k = 4 → ItoaOK W x.n) := fun W hW h1 h2 W' hW' => HXI.out h1 h2 W' (below_trans hW hW')
        have HJN : Hid ((jna (l.take (i + 1))).length ≤ 100000000000) := HJ.out (i + 1)
        by_cases h0 : i = 0
        · have hb0 : b = [] := by rw [← HBE.out, h0]; rfl
          have d0 : decide ((0 : Int) < (i : Int)) = false := by rw [decide_eq_false_iff_not]; omega
          have d1 : decide (0 < i) = false := by rw [decide_eq_false_iff_not]; omega
          have HND : Hid (jna (l.take (i + 1)) = b ++ spl x) := by rw [HTS.out, jna_snoc, List.length_take, if_pos (by omega), hb0]; exact rfl
          clear hb0 h0
          go_wp2_with fail
          refine (rspell_any x HXT.out w2 (HIX.out w2 HBW2.out)).mono ?_
          rintro e w4 ⟨rfl, b4⟩
          have HB4 : Hid (Below w.heap.size w w4) := below_trans HBW2.out b4
          clear b4 q0 q1 q2 q3
          obtain ⟨D, hD⟩ : ∃ D : ByteArray, ⟨(spl x).toArray⟩ = D := ⟨_, rfl⟩
          have hdl : D.data.toList = spl x := by rw [← hD]
          have hz : ¬ 9223372036854775807 < S.size + D.size := by
            have h1 := HJN.out
            rw [HND.out, List.length_append, ← HSL.out, ← hdl, lst_siz, lst_siz] at h1
            omega
          have HVN : Hid (S ++ D = ⟨(jna (l.take (i + 1))).toArray⟩) := by
            rw [HND.out]
            apply ByteArray.ext
            rw [← Array.toList_inj]
            simp [hdl, HSL.out]
          rw [hD]
          clear hD hdl
          go_wp2_with fail
          go_roundg (l.length - (i + 1))
          case measure => have := HII.out; have := HIL.out; omega
          case rel => exact ⟨i + 1, by simp, ⟨HIL.out, rfl⟩, by rw [HVN.out], HA2, HB4⟩
        · have d0 : decide ((0 : Int) < (i : Int)) = true := by rw [decide_eq_true_eq]; omega
          have d1 : decide (0 < i) = true := by rw [decide_eq_true_eq]; omega
          have HND : Hid (jna (l.take (i + 1)) = b ++ 32 :: spl x) := by rw [HTS.out, jna_snoc, List.length_take, if_neg (by have := HIL.out; omega), HBE.out]; exact rfl
          have hz0 : ¬ 9223372036854775807 < S.size + 1 := by have := HSS.out; omega
          clear h0
          go_upto_region 9 with fail
          obtain ⟨S2, hS2⟩ : ∃ S2 : ByteArray, S ++ (⟨#[32]⟩ : ByteArray) = S2 := ⟨_, rfl⟩
          have hSL2 : S2.data.toList = b ++ [32] := by rw [← hS2]; simp [HSL.out]
          have HSL2 : Hid (S2.data.toList = b ++ [32]) := hSL2
          rw [hS2]
          clear hS2 hSL2
          go_wp2_with fail
          refine (rspell_any x HXT.out w2 (HIX.out w2 HBW2.out)).mono ?_
          rintro e w4 ⟨rfl, b4⟩
          have HB4 : Hid (Below w.heap.size w w4) := below_trans HBW2.out b4
          clear b4 q0 q1 q2 q3
          obtain ⟨D, hD⟩ : ∃ D : ByteArray, ⟨(spl x).toArray⟩ = D := ⟨_, rfl⟩
          have hdl : D.data.toList = spl x := by rw [← hD]
          have hz : ¬ 9223372036854775807 < S2.size + D.size := by
            have h1 := HJN.out
            have h2 : S2.size = b.length + 1 := by rw [← lst_siz, HSL2.out]; simp
            rw [HND.out, List.length_append, List.length_cons, ← hdl, lst_siz] at h1
            omega
          have HVN : Hid (S2 ++ D = ⟨(jna (l.take (i + 1))).toArray⟩) := by
            rw [HND.out]
            apply ByteArray.ext
            rw [← Array.toList_inj]
            simp [hdl, HSL2.out]
          rw [hD]
          clear hD hdl
          go_wp2_with fail
          go_roundg (l.length - (i + 1))
          case measure => have := HII.out; have := HIL.out; omega
          case rel => exact ⟨i + 1, by simp, ⟨HIL.out, rfl⟩, by rw [HVN.out], HA2, HB4⟩
    · have e1 : decide ((i : Int) < (l.length : Int)) = false := by rw [decide_eq_false_iff_not]; omega
      have e2 : decide (i < l.length) = false := by rw [decide_eq_false_iff_not]; omega
      have HRE : Hid (R = b) := by
        rw [← HR.out, ← HBE.out]
        show jn l = _
        have h1 := HA.out
        rw [List.take_of_length_le (by omega)] at h1 ⊢
        unfold jn
        rw [if_pos h1]
      clear hi
      go_wp2_with fail
      go_ret
      exact ⟨by rw [HRE.out, HSE.out]; rfl, HB.out⟩
end Go.Proofs.YteaanieohcanlaaDoor
