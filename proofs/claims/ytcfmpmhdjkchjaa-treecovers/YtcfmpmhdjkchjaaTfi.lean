import Derived.Test.YtcfmpmhdjkchjaaTfh
import Derived.Test.YtcfmpmhdjkchjaaTsj
import Derived.Test.YtcfmpmhdjkchjaaTsl
import Derived.OwnWalk
import Derived.ArgAppend
namespace Go.Proofs.Ytcfmpmhdjkchjaa
open Go.RowKit Go.Maps

theorem sp_drop (t : List Nd) (a i : Nat) : (sp t a 0 (i + 1)).drop 1 = (sp t a 0 i).drop 1 ++ (if i = 0 then [] else [32]) ++ on t t.length (wA (kds t) a i) := by
  rw [sp_snoc]
  cases i with
  | zero => rw [sp_nil]; rfl
  | succ i =>
    rw [if_neg (by omega), sp_cons t a 0 (i + 1) (by omega)]
    simp
set_option maxRecDepth 100000 in
set_option maxHeartbeats 16000000 in
theorem rtextx_any {v : Value} {t : List Nd} (hs : t.length ≤ 1048576) (hz : ∀ c, c < t.length → (t.getD c ndd).nm.size ≤ 1048600 ∧ (t.getD c ndd).fd.size ≤ 1048600) (w : World) (h : Ns w v t) :
    Calls Try.prog 62 #[v] w fun e w' => TxE (doc t) w w' e := by
  have HFO : Hid _ := rforest_any (by omega) w h
  have HS : Hid (t.length ≤ 1048576) := hs
  have HZ : Hid (∀ c, c < t.length → (t.getD c ndd).nm.size ≤ 1048600 ∧ (t.getD c ndd).fd.size ≤ 1048600) := hz
  obtain ⟨av, cap, rfl⟩ := h.form
  clear h hs hz
  go_enter Try.func62, Try.ntmps62
  go_upto_region 2 with (go_at_call 41; refine Calls.mono HFO.out ?_; rintro ee W4 ⟨ad, k, cp, bb, rfl, hmf, hbb, hb4⟩; have HM : Hid (Mf w.heap.size W4 t ad k cp) := hmf; have HBB : Hid (bb = (rt (kds t)).isSome) := hbb; have HB4 : Hid (Below w.heap.size w W4) := hb4; clear hmf hbb hb4)
  have hcase : ∃ T : List Nd, Fo (kds T) ∧ k = rA (kds T) 0 ∧ FrM (fun g => w.heap.size ≤ g) W4 T (.slice ad k cp) 0 k ∧ doc t = (sp T 0 0 k).drop 1 ∧ T.length ≤ 1048576 ∧ (∀ c, c < T.length → (T.getD c ndd).nm.size ≤ 1048600 ∧ (T.getD c ndd).fd.size ≤ 1048600) := by
    rcases HM.out with ⟨h1, h2⟩ | ⟨h1, rfl, rfl, rfl⟩
    · exact ⟨t, ⟨k, h1⟩, (Fo.top h1).symm, h2, by unfold doc; rw [h1], HS.out, HZ.out⟩
    · exact ⟨[], ⟨0, rfl⟩, rfl, frm_none _ _ _ _, by unfold doc; rw [h1]; rfl, Nat.zero_le _, fun c hc => by cases hc⟩
  obtain ⟨T, hf, hk, hm, hd, hs, hz⟩ := hcase
  have HF : Hid (Fo (kds T)) := hf
  have HK : Hid (k = rA (kds T) 0) := hk
  have HFR : Hid (FrM (fun g => w.heap.size ≤ g) W4 T (.slice ad k cp) 0 k) := hm
  have HD : Hid (doc t = (sp T 0 0 k).drop 1) := hd
  have HST : Hid (T.length ≤ 1048576) := hs
  have HZT : Hid (∀ c, c < T.length → (T.getD c ndd).nm.size ≤ 1048600 ∧ (T.getD c ndd).fd.size ≤ 1048600) := hz
  have HBD : Hid (∀ c, c < T.length → (bgg (T.getD c ndd)).length + 2 ≤ 16777216) := fun c hc => by have h1 := bgg_len (T.getD c ndd); have h2 := hz c hc; omega
  have HSP : Hid (∀ i, i ≤ k → (sp T 0 0 i).length ≤ 17592186044416) := fun i hi => by
    have h1 := sp_len HF.out 16777216 HBD.out 0 (Nat.zero_le _) i (by rw [← HK.out]; exact hi)
    have h3 := (HF.out.end 0 i (Nat.zero_le _) (by rw [← HK.out]; exact hi)).1
    rw [kds_len] at h3
    have h5 : (wA (kds T) 0 i - 0) * 16777216 ≤ 1048576 * 16777216 := Nat.mul_le_mul_right _ (by have := HST.out; omega)
    omega
  have HKL : Hid (k ≤ T.length) := by have h7 := HF.out.le 0; rw [kds_len] at h7; have := HK.out; show _ ≤ _; omega
  clear hf hk hm hd hs hz HM HBB
  go_upto_region 4 with fail
  go_loopg [5, 6] k (fun gm v5 v6 wr => ∃ (i : Nat) (S : ByteArray), v5 = .string S ∧ v6 = .int .i64 (i : Int) ∧ Hid (i ≤ k ∧ gm = k - i) ∧ Hid (S.data.toList = (sp T 0 0 i).drop 1) ∧ Hid (Below W4.heap.size W4 wr))
  case atStart => exact ⟨0, ⟨#[]⟩, rfl, rfl, ⟨Nat.zero_le _, rfl⟩, by show _ = _; rw [sp_nil]; rfl, Below.refl _ _⟩
  case round =>
    obtain ⟨i, S, rfl, rfl, HI, HS9, HBW⟩ := hrel
    have HSL : Hid (S.data.toList.length ≤ 17592186044416) := by have h7 := HSP.out i HI.out.1; rw [HS9.out, List.length_drop]; show _ ≤ _; omega
    by_cases hi : i < k
    · have e1 : decide ((i : Int) < (k : Int)) = true := by rw [decide_eq_true_eq]; omega
      have e2 : decide (i < k) = true := by rw [decide_eq_true_eq]; omega
      have b1 : (i : Int) < (k : Int) := by omega
      have b2 : i < k := hi
      have HIM : Hid (i < k) := hi
      obtain ⟨g, o, ka, kn, kc, rfl, hT, hC⟩ := HFR.out.nine i hi
      have hlt := HF.out.lt 0 i (Nat.zero_le _) (by rw [← HK.out]; exact hi)
      rw [kds_len] at hlt
      have HCL := rtext_any HST.out HZT.out HF.out (T.length + 1) _ _ wr (by omega) hlt hT HBW.out
      have HSN : Hid ((sp T 0 0 (i + 1)).drop 1 = (sp T 0 0 i).drop 1 ++ (if i = 0 then [] else [32]) ++ on T T.length (wA (kds T) 0 i)) := sp_drop T 0 i
      have HKO : Hid ((on T T.length (wA (kds T) 0 i)).length ≤ 17592186044416) := by
        have h7 := HSP.out (i + 1) hi
        rw [sp_snoc, List.length_append, List.length_cons] at h7
        show _ ≤ _; omega
      obtain ⟨q0, q1, q2, q3, q4, q5, q6, q7, q8⟩ := hC wr HBW.out
      obtain ⟨b, hb⟩ : ∃ b, wA (kds T) 0 i = b := ⟨_, rfl⟩
      rw [hb] at HCL HSN HKO q0 q1 q2 q3 q4 q5 q6 q8
      obtain ⟨Z, hZ⟩ : ∃ Z, T.getD b ndd = Z := ⟨_, rfl⟩
      rw [hZ] at HCL q0 q1 q2 q3 q4 q5 q6
      unfold tA at HCL
      have HCC : Hid _ := HCL
      have hwi := w64n i (by have := HST.out; have := HKL.out; omega)
      clear hi hT hC hb hZ HCL hlt
      go_upto_region 7 with (go_at_call 75; refine Calls.mono HCC.out ?_; rintro ee W5 ⟨kt, rfl, hk5, hb5⟩; have HKT : Hid (kt.data.toList = on T T.length b) := hk5; have HB5 : Hid (Below W4.heap.size W4 W5) := below_trans HBW.out hb5; clear hk5 hb5)
      clear q0 q1 q2 q3 q4 q5 q6 q7 q8
      rcases Nat.eq_zero_or_pos i with h0 | h0
      · subst h0
        obtain ⟨T2, hT21, hT22⟩ := sadd S kt _ _ rfl HKT.out (by have := HSL.out; have := HKO.out; omega)
        have HT2 : Hid (T2.data.toList = (sp T 0 0 (0 + 1)).drop 1) := by show _ = _; rw [hT21, HS9.out, HSN.out]; simp
        clear hT21
        go_wp2_with fail
        go_roundg (k - (0 + 1))
        case measure => have := HI.out; have := HIM.out; omega
        case rel => exact ⟨0 + 1, T2, rfl, by first | rfl | (rw [show ((0 : Nat) : Int) + 1 = ((0 + 1 : Nat) : Int) by omega]), ⟨HIM.out, rfl⟩, HT2, HB5⟩
      · have g1 : decide ((i : Int) > 0) = true := by rw [decide_eq_true_eq]; omega
        have g2 : decide ((0 : Int) < (i : Int)) = true := by rw [decide_eq_true_eq]; omega
        have g3 : decide (0 < i) = true := by rw [decide_eq_true_eq]; omega
        obtain ⟨T1, hT11, hT12⟩ := sadd S ⟨#[32]⟩ _ _ rfl rfl (by have := HSL.out; show _ + 1 ≤ _; omega)
        obtain ⟨T2, hT21, hT22⟩ := sadd T1 kt _ _ hT11 HKT.out (by have := HSL.out; have := HKO.out; rw [List.length_append]; show _ + 1 + _ ≤ _; omega)
        have HT2 : Hid (T2.data.toList = (sp T 0 0 (i + 1)).drop 1) := by show _ = _; rw [hT21, HS9.out, HSN.out, if_neg (by omega)]
        clear hT11 hT21 h0
        go_wp2_with fail
        go_roundg (k - (i + 1))
        case measure => have := HI.out; have := HIM.out; omega
        case rel => exact ⟨i + 1, T2, rfl, by first | rfl | (rw [show (i : Int) + 1 = ((i + 1 : Nat) : Int) by omega]), ⟨HIM.out, rfl⟩, HT2, HB5⟩
    · have e1 : decide ((i : Int) < (k : Int)) = false := by rw [decide_eq_false_iff_not]; omega
      have e2 : decide (i < k) = false := by rw [decide_eq_false_iff_not]; omega
      have e3 : i = k := by have := HI.out; omega
      subst e3
      clear hi
      go_wp2_with fail
      go_ret
      exact ⟨_, rfl, by rw [HS9.out, HD.out], below_trans HB4.out HBW.out⟩
set_option maxRecDepth 100000 in
set_option maxHeartbeats 8000000 in
/-- Text of any list. -/
theorem ptext_any {v : Value} {t : List Nd} (hs : t.length ≤ 1048576) (hz : ∀ c, c < t.length → (t.getD c ndd).nm.size ≤ 1048600 ∧ (t.getD c ndd).fd.size ≤ 1048600) (w : World) (h : Ns w v t) :
    Calls Try.prog 48 #[v] w fun e w' => e = .returned (.string ⟨(doc t).toArray⟩) ∧ Below w.heap.size w w' := by
  have hSM : Sm t := by show _ ≤ _; omega
  by_cases h0 : ∃ r, rt (kds t) = some r ∧ 0 < r
  · obtain ⟨r, h1, h2⟩ := h0
    have hf : Fo (kds t) := ⟨r, h1⟩
    obtain ⟨F, f, hT⟩ := doc_tt h1 h2
    have hl := doc_len (t := t) 16777216 (fun c hc => by have h1 := bgg_len (t.getD c ndd); have h2 := hz c hc; omega)
    have hl2 : t.length * 16777216 ≤ 1048576 * 16777216 := Nat.mul_le_mul_right _ hs
    have hp : 0 < t.length := by have := rt_le _ _ h1; rw [kds_len] at this; omega
    refine text_gen w h hSM hf hp (fun x hx => ?_) F f (doc t) hT (by omega)
    obtain ⟨c, hc, e⟩ := List.mem_iff_getElem.1 hx
    have h3 := hz c hc
    rw [List.getD_eq_getElem?_getD, List.getElem?_eq_getElem hc, Option.getD_some, e] at h3
    omega
  · have hk : krt (kns t) = -1 := by
      unfold krt
      cases hr : rt (kds t) with
      | none => rw [if_pos (by unfold kns; rw [hr]; rfl)]
      | some r =>
        have hr0 : r = 0 := by rcases Nat.eq_zero_or_pos r with h | h; exact h; exact absurd ⟨r, hr, h⟩ h0
        rw [if_pos]
        rw [kns_len ⟨r, hr⟩]
        rcases Nat.eq_zero_or_pos t.length with h2 | h2
        · exact h2
        · have := rt_pos hr (by rw [kds_len]; exact h2); omega
    have hd : doc t = [] := by
      unfold doc
      cases hr : rt (kds t) with
      | none => rfl
      | some r =>
        have hr0 : r = 0 := by rcases Nat.eq_zero_or_pos r with h | h; exact h; exact absurd ⟨r, hr, h⟩ h0
        subst hr0
        dsimp only
        rw [sp_nil]; rfl
    have HWK := walk_any w h hSM
    rw [hk] at HWK
    have HW : Hid _ := HWK
    have HD : Hid (doc t = []) := hd
    obtain ⟨av, cap, rfl⟩ := h.form
    clear h hs hz hSM h0 hk hd HWK
    go_enter Try.func48, Try.ntmps48
    go_wp2_with first | (go_at_call 11; refine Calls.mono HW.out ?_; rintro ee W1 ⟨c, v', rfl, hc1, hc2, hb1⟩; have HB1 : Hid (Below w.heap.size w W1) := hb1; have HC1 : Hid (Cu w.heap.size W1 c v' (kns t) (-1)) := hc2; clear hc1 hc2 hb1) | (go_at_call 13; refine (place_any _ HC1.out).mono ?_; rintro ee ww ⟨rfl, rfl⟩)
    go_ret
    exact ⟨by rw [HD.out]; rfl, HB1.out⟩
set_option maxRecDepth 100000 in
set_option maxHeartbeats 8000000 in
/-- Two rows of the same numbers. -/
theorem same_ints {u v : Value} {l : List Int} (hl : l.length < 4611686018427387904) (w : World) (hu : Rw w u l.length (iC l)) (hv : Rw w v l.length (iC l)) :
    Calls Try.prog 28 #[u, v] w fun e w' => e = .returned (.bool true) ∧ Below w.heap.size w w' := by
  have HU : Hid (Rw w u l.length (iC l)) := hu
  have HV : Hid (Rw w v l.length (iC l)) := hv
  obtain ⟨ua, uc, rfl⟩ := hu.form
  obtain ⟨va, vc, rfl⟩ := hv.form
  obtain ⟨n, hn⟩ : ∃ n, l.length = n := ⟨_, rfl⟩
  have HN : Hid (l.length = n) := hn
  rw [hn] at HU HV hl ⊢
  have HL : Hid (n < 4611686018427387904) := hl
  clear hu hv hl hn
  have f1 : ((n : Int) != (n : Int)) = false := by simp
  go_enter Try.func28, Try.ntmps28
  go_upto_region 4 with fail
  clear f1
  go_loopg [5] n (fun gm v5 wr => ∃ i : Nat, v5 = .int .i64 (i : Int) ∧ Hid (i ≤ n ∧ gm = n - i) ∧ Hid (Below w.heap.size w wr))
  case atStart => exact ⟨0, rfl, ⟨Nat.zero_le _, rfl⟩, Below.refl _ _⟩
  case round =>
    obtain ⟨i, rfl, HI, HB⟩ := hrel
    by_cases hi : i < n
    · have e1 : decide ((i : Int) < (n : Int)) = true := by rw [decide_eq_true_eq]; omega
      have e2 : decide (i < n) = true := by rw [decide_eq_true_eq]; omega
      have b1 : (i : Int) < (n : Int) := by omega
      have b2 : i < n := hi
      have HIM : Hid (i < n) := hi
      have hwi := w64n i (by have := HL.out; omega)
      obtain ⟨g, o, rfl, hc⟩ := HU.out.int i (by rw [HN.out]; exact hi) (by omega)
      obtain ⟨g', o', rfl, hc'⟩ := HV.out.int i (by rw [HN.out]; exact hi) (by omega)
      have c1 := hc _ HB.out
      have c2 := hc' _ HB.out
      obtain ⟨z, hz⟩ : ∃ z, l.getD i 0 = z := ⟨_, rfl⟩
      rw [hz] at c1 c2
      have f1 : (z != z) = false := by simp
      clear hi hc hc' hz
      go_upto_region 6 with fail
      go_quiet (fail)
      have HB9 : Hid (Below w.heap.size w (wr.drewN nq)) := below_drewN HB.out _
      generalize wr.drewN nq = W9 at HB9 ⊢
      clear c1 c2
      go_wp2_with fail
      go_roundg (n - (i + 1))
      case measure => have := HI.out; have := HIM.out; omega
      case rel => exact ⟨i + 1, by first | rfl | (rw [show (i : Int) + 1 = ((i + 1 : Nat) : Int) by omega]), ⟨HIM.out, rfl⟩, HB9⟩
    · have e1 : decide ((i : Int) < (n : Int)) = false := by rw [decide_eq_false_iff_not]; omega
      have e2 : decide (i < n) = false := by rw [decide_eq_false_iff_not]; omega
      clear hi
      go_wp2_with fail
      go_ret
      exact ⟨rfl, HB.out⟩
theorem rep_get (n : Nat) (x : Int) (i : Nat) (h : i < n) : (List.replicate n x).getD i 0 = x := by rw [List.getD_eq_getElem?_getD, List.getElem?_replicate, if_pos h]; rfl
set_option maxRecDepth 100000 in
set_option maxHeartbeats 8000000 in
/-- The marks stand. -/
theorem marked_any {u v : Value} {na : Nat} (x y : Int) (hl : na < 4611686018427387904) (w : World) (hu : Rw w u na (iC (List.replicate na x))) (hv : Rw w v (na + 70) (iC (List.replicate na x ++ List.replicate 70 y))) :
    Calls Try.prog 58 #[u, v, .int .i64 x, .int .i64 y] w fun e w' => e = .returned (.bool true) ∧ Below w.heap.size w w' := by
  have HU : Hid (Rw w u na (iC (List.replicate na x))) := hu
  have HV : Hid (Rw w v (na + 70) (iC (List.replicate na x ++ List.replicate 70 y))) := hv
  obtain ⟨ua, uc, rfl⟩ := hu.form
  obtain ⟨va, vc, rfl⟩ := hv.form
  obtain ⟨nv, hnv⟩ : ∃ nv, na + 70 = nv := ⟨_, rfl⟩
  have HNV : Hid (na + 70 = nv) := hnv
  rw [hnv] at HV ⊢
  have HL : Hid (na < 4611686018427387904) := hl
  clear hu hv hl hnv
  have fx : (x != x) = false := by simp
  have fy : (y != y) = false := by simp
  go_enter Try.func58, Try.ntmps58
  go_upto_region 2 with fail
  go_loopg [9] nv (fun gm v9 wr => ∃ i : Nat, v9 = .int .i64 (i : Int) ∧ Hid (i ≤ nv ∧ gm = nv - i) ∧ w = wr)
  case atStart => exact ⟨0, rfl, ⟨Nat.zero_le _, rfl⟩, rfl⟩
  case round =>
    obtain ⟨i, rfl, HI, hw9⟩ := hrel
    subst hw9
    by_cases hi : i < nv
    · have e1 : decide ((i : Int) < (nv : Int)) = true := by rw [decide_eq_true_eq]; omega
      have e2 : decide (i < nv) = true := by rw [decide_eq_true_eq]; omega
      have b1 : (i : Int) < (nv : Int) := by omega
      have b2 : i < nv := hi
      have HIM : Hid (i < nv) := hi
      have hwi := w64n i (by have := HL.out; have := HNV.out; omega)
      obtain ⟨g', o', rfl, hc'⟩ := HV.out.int i (by rw [List.length_append, List.length_replicate, List.length_replicate, HNV.out]; exact hi) (by omega)
      have c2 := hc' _ (Below.refl _ _)
      clear hc'
      by_cases hj : i < na
      · have d1 : decide ((i : Int) < (na : Int)) = true := by rw [decide_eq_true_eq]; omega
        have d2 : decide (i < na) = true := by rw [decide_eq_true_eq]; omega
        have d3 : (i : Int) < (na : Int) := by omega
        have d4 : i < na := hj
        have d5 : decide ((i : Int) ≥ (na : Int)) = false := by rw [decide_eq_false_iff_not]; omega
        have d6 : decide ((na : Int) ≤ (i : Int)) = false := by rw [decide_eq_false_iff_not]; omega
        have d7 : decide (na ≤ i) = false := by rw [decide_eq_false_iff_not]; omega
        obtain ⟨g, o, rfl, hc⟩ := HU.out.int i (by rw [List.length_replicate]; exact hj) (by omega)
        have c1 := hc _ (Below.refl _ _)
        rw [rep_get na x i hj] at c1
        rw [List.getD_eq_getElem?_getD, List.getElem?_append_left (by rw [List.length_replicate]; exact hj), ← List.getD_eq_getElem?_getD, rep_get na x i hj] at c2
        clear hi hj hc
        go_wp2_with fail
        go_roundg (nv - (i + 1))
        case measure => have := HI.out; have := HIM.out; omega
        case rel => exact ⟨i + 1, by first | rfl | (rw [show (i : Int) + 1 = ((i + 1 : Nat) : Int) by omega]), ⟨HIM.out, rfl⟩, rfl⟩
      · have d1 : decide ((i : Int) < (na : Int)) = false := by rw [decide_eq_false_iff_not]; omega
        have d2 : decide (i < na) = false := by rw [decide_eq_false_iff_not]; omega
        have d5 : decide ((i : Int) ≥ (na : Int)) = true := by rw [decide_eq_true_eq]; omega
        have d6 : decide ((na : Int) ≤ (i : Int)) = true := by rw [decide_eq_true_eq]; omega
        have d7 : decide (na ≤ i) = true := by rw [decide_eq_true_eq]; omega
        rw [List.getD_eq_getElem?_getD, List.getElem?_append_right (by rw [List.length_replicate]; omega), List.length_replicate, ← List.getD_eq_getElem?_getD, rep_get 70 y (i - na) (by have := HNV.out; omega)] at c2
        clear hi hj
        go_wp2_with fail
        go_roundg (nv - (i + 1))
        case measure => have := HI.out; have := HIM.out; omega
        case rel => exact ⟨i + 1, by first | rfl | (rw [show (i : Int) + 1 = ((i + 1 : Nat) : Int) by omega]), ⟨HIM.out, rfl⟩, rfl⟩
    · have e1 : decide ((i : Int) < (nv : Int)) = false := by rw [decide_eq_false_iff_not]; omega
      have e2 : decide (i < nv) = false := by rw [decide_eq_false_iff_not]; omega
      have hw70 : IntKind.i64.wrap ((na : Int) + 70) = (nv : Int) := by have := HL.out; have := HNV.out; rw [IntKind.wrap_i64]; omega
      have f1 : ((nv : Int) == (nv : Int)) = true := by simp
      clear hi
      go_wp2_with fail
      go_ret
      exact ⟨rfl, Below.refl _ _⟩
theorem own_form' {w : World} {base e z : Nat} {v : Value} {n : Nat} {xs : List Value} (h : w.ownsRow base e z v n xs) (hn : 0 < n) :
    ∃ g cap, v = .slice (some ⟨g, 0, none⟩) n cap ∧ base ≤ g ∧ g < w.heap.size := by
  obtain ⟨g, cap, e, h1, _, _⟩ := row_form h hn
  obtain ⟨_, cur, hh⟩ := row_tag h g (by rw [e]; rfl)
  exact ⟨g, cap, e, h1, lt_of_heap hh⟩
/-- An append, told in its two ways: in the row's own block, or in a new one and nothing old has turned. -/
theorem wpList_append_two {P : Program} (w : World) {ops : Array Oper} {rest : List Oper} {o : Oper} {a : Act} {Q : Exit → Act → World → Prop} (hgd : o.guard = none) (s x : Operand) (t : TypeId)
    (ho : o.op = .call { callee := .builtin .append, args := #[s, x], argTypes := #[t, t] })
    (base : Nat) (e : TypeId) (i : TypeInfo) (z : Value) (size bytes : Nat) (ht : P.underlying t = some (.slice e)) (hi : P.info? e = some i) (hz : i.zero = some z)
    (hsize : i.size = size) (hby : i.bytes = bytes) (hzs : z.cells.size = size) (hsz : 0 < size)
    (v : Value) (n : Nat) (xs : List Value) (hs : a.eval s = v) (hown : w.ownsRow base e size v n xs)
    (ad : Addr) (m c : Nat) (news : List Value) (hx : a.eval x = .slice (some ad) m c) (hm : 0 < m) (hl : news.length = m * size) (hnews : ∀ j u, news[j]? = some u → w.cell? (ad.add j) = some u) (h1 : ∀ u ∈ news, u.oneCell' = true)
    (h63 : n + m ≤ maxLen) (hbytes : (n + m) * bytes ≤ 140737488355328) (hbase : base ≤ w.heap.size)
    (h : ∀ v' w', w'.ownsRow base e size v' (n + m) (xs ++ news) → ((∃ g, v.ownBlock = some g ∧ v'.ownBlock = some g ∧ w.grownBy w' (some g)) ∨ (∃ g, v'.ownBlock = some g ∧ w.heap.size ≤ g ∧ w.grownBy w' none)) → wpList P ops Q rest (a.put o.dst v') w') :
    wpList P ops Q (o :: rest) a w := by
  have hg : ∀ (ao : Option Addr) (cap : Nat), v = .slice ao n cap → cap < n + m → (ao = none → n = 0 ∧ cap = 0) → (∀ b, ao = some b → ∀ j u, xs[j]? = some u → w.cell? (b.add j) = some u) → wpList P ops Q (o :: rest) a w := by
    intro ao cap hv hf hnn hol
    refine wpList_append_grows w hgd s x t ho e i z size bytes ht hi hz hsize hby hzs hsz ao n cap xs (hs.trans hv) hnn hown.1 hol ad m c news hx hl hnews h1 hf h63 hbytes (fun v' w' r1 r2 => ?_)
    obtain ⟨g, cap', e1, e2, e3⟩ := own_form' r1 (by omega)
    refine h v' w' (row_base r1 hbase) (Or.inr ⟨g, by rw [e1]; rfl, e2, r2⟩)
  rcases hown.2 with ⟨hv, hn0⟩ | ⟨g, cap, cur, hv, hb, hgc, hcap, hmx, hcs, htk⟩
  · subst hn0
    exact hg none 0 hv (by omega) (fun _ => ⟨rfl, rfl⟩) (fun b hb => by cases hb)
  · by_cases hr : n + m ≤ cap
    · rw [hv] at hown hs
      refine wpList_append_fits w hgd s x t ho base e i size ht hi hsize g n cap xs hs hown ad m c news hx hl hnews h1 hr (fun w' r1 r2 => ?_)
      exact h _ w' r1 (Or.inl ⟨g, by rw [hv]; rfl, rfl, r2⟩)
    · refine hg (some ⟨g, 0, none⟩) cap hv (by omega) (fun h => by cases h) (fun b hb j u hu => ?_)
      cases hb
      rw [hv] at hown
      exact hown.cells (g := g) rfl j u hu

end Go.Proofs.Ytcfmpmhdjkchjaa
