import Derived.Test.YtcfmpmhdjkchjaaTfg
import Derived.Laws.Concat
namespace Go.Proofs.Ytcfmpmhdjkchjaa
open Go.RowKit Go.Maps

theorem sadd (a b : ByteArray) (l k : List UInt8) (ha : a.data.toList = l) (hb : b.data.toList = k) (h : l.length + k.length ≤ 4611686018427387904) : ∃ c : ByteArray, c.data.toList = l ++ k ∧ ∀ W : World, (Op.stringOp .add a b).run Try.prog W = .ok (.string c) W := by
  refine ⟨a ++ b, ?_, fun W => run_string_add_sum W a b ?_⟩
  · rw [← ha, ← hb]; simp [ByteArray.data_append]
  · have h1 : a.size = l.length := by rw [← ha, Array.length_toList]; rfl
    have h2 : b.size = k.length := by rw [← hb, Array.length_toList]; rfl
    omega
theorem ba_eq {c : ByteArray} {l : List UInt8} (h : c.data.toList = l) : c = ⟨l.toArray⟩ := by subst h; cases c; simp
theorem ba_nil {s : ByteArray} (h : s.toList.isEmpty = true) : s = ⟨#[]⟩ := by
  rw [List.isEmpty_iff, Lib.toList_data] at h
  have : s.data = #[] := Array.toList_eq_nil_iff.1 h
  cases s; exact congrArg ByteArray.mk this
def TxE (l : List UInt8) (w w' : World) (e : Ending) : Prop := ∃ c : ByteArray, e = .returned (.string c) ∧ c.data.toList = l ∧ Below w.heap.size w w'
set_option maxRecDepth 100000 in
set_option maxHeartbeats 16000000 in
theorem rtext_any {P : Nat → Prop} {w0 : World} {t : List Nd} (hs : t.length ≤ 1048576) (hz : ∀ c, c < t.length → (t.getD c ndd).nm.size ≤ 1048600 ∧ (t.getD c ndd).fd.size ≤ 1048600) (hf : Fo (kds t)) : ∀ (N c : Nat) (v : Value) (w : World), t.length - c < N → c < t.length → TrM P w0 t c v → Below w0.heap.size w0 w →
    Calls Try.prog 75 #[.agg (tA (t.getD c ndd) v (c : Int))] w fun e w' => TxE (on t t.length c) w w' e := by
  have HBD : Hid (∀ c, c < t.length → (bgg (t.getD c ndd)).length + 2 ≤ 16777216) := fun c hc => by have h1 := bgg_len (t.getD c ndd); have h2 := hz c hc; omega
  intro N
  induction N with
  | zero => intro c v w h; omega
  | succ N ih =>
    intro c v w hN hc h hb
    have hK := h.kids
    obtain ⟨aa, cc, hv⟩ := hK.form
    subst hv
    obtain ⟨nn, hnn⟩ : ∃ nn, kA (kds t) c = nn := ⟨_, rfl⟩
    have hst := hf.step c (by rw [kds_len]; exact hc)
    have HON : Hid (on t t.length c = (bgg (t.getD c ndd) ++ sp t (c + 1) 0 nn) ++ cls (t.getD c ndd)) := by rw [← hnn]; exact on_eq hf c hc
    have HKD : Hid ((t.getD c ndd).kd = (nn : Int)) := by show _ = _; rw [← kds_get, hst.2.1, hnn]
    have HM : Hid (FrM P w0 t (.slice aa nn cc) (c + 1) nn) := by rw [← hnn]; exact hK
    have HNN : Hid (nn ≤ t.length) := by have h7 := hf.le (c + 1); rw [kds_len] at h7; show _ ≤ _; omega
    have HKI : Hid (∀ i, i < nn → ∀ v w, TrM P w0 t (wA (kds t) (c + 1) i) v → Below w0.heap.size w0 w → Calls Try.prog 75 #[.agg (tA (t.getD (wA (kds t) (c + 1) i) ndd) v ((wA (kds t) (c + 1) i : Nat) : Int))] w fun e w' => TxE (on t t.length (wA (kds t) (c + 1) i)) w w' e) := fun i hi v w hT hB => by
      have h1 := hf.lt (c + 1) i (by rw [kds_len]; exact hc) (by omega)
      have h2 := (hf.end (c + 1) i (by rw [kds_len]; exact hc) (by omega)).2.2
      rw [kds_len] at h1
      exact ih _ v w (by omega) h1 hT hB
    have HKO : Hid (∀ i, i < nn → (on t t.length (wA (kds t) (c + 1) i)).length ≤ 17592186044416) := fun i hi => by
      have h1 := hf.lt (c + 1) i (by rw [kds_len]; exact hc) (by omega)
      have h3 := hf.elt _ h1
      rw [kds_len] at h1 h3
      have h4 := on_len hf 16777216 HBD.out (t.length + 1) _ h1 (by omega)
      have h5 : (eA (kds t) (wA (kds t) (c + 1) i) - wA (kds t) (c + 1) i) * 16777216 ≤ 1048576 * 16777216 := Nat.mul_le_mul_right _ (by omega)
      omega
    have HSP : Hid (∀ i, i ≤ nn → (sp t (c + 1) 0 i).length ≤ 17592186044000) := fun i hi => by
      have h1 := sp_len hf 16777216 HBD.out (c + 1) hc i (by omega)
      have h3 := (hf.end (c + 1) i (by rw [kds_len]; exact hc) (by omega)).1
      rw [kds_len] at h3
      have h5 : (wA (kds t) (c + 1) i - (c + 1)) * 16777216 ≤ 1048575 * 16777216 := Nat.mul_le_mul_right _ (by omega)
      omega
    have HBL : Hid ((bgg (t.getD c ndd)).length + 2 ≤ 416 + 16777216 - 416) := HBD.out c hc
    have HFD : Hid ((t.getD c ndd).fd.size ≤ 1048600 ∧ (t.getD c ndd).nm.size ≤ 1048600) := ⟨(hz c hc).2, (hz c hc).1⟩
    have HBB : Hid (Below w0.heap.size w0 w) := hb
    have HS9 : Hid (t.length ≤ 1048576) := hs
    rw [hnn]
    obtain ⟨X, hX⟩ : ∃ X, t.getD c ndd = X := ⟨_, rfl⟩
    rw [hX] at HON HKD HBL HFD ⊢
    have HBG : Hid (bgg X = ((if X.fd = ⟨#[]⟩ then [] else X.fd.data.toList ++ [58, 32]) ++ (if brk X then [40] else [])) ++ (if X.nd then X.nm.data.toList else quo X.nm)) := rfl
    obtain ⟨FF, hFF⟩ : ∃ FF : List UInt8, (if X.fd = ⟨#[]⟩ then [] else X.fd.data.toList ++ [58, 32]) = FF := ⟨_, rfl⟩
    have HFF : Hid ((if X.fd = ⟨#[]⟩ then ([] : List UInt8) else X.fd.data.toList ++ [58, 32]) = FF) := hFF
    obtain ⟨HD, hHD⟩ : ∃ HD : List UInt8, (if X.nd then X.nm.data.toList else quo X.nm) = HD := ⟨_, rfl⟩
    have HHD : Hid ((if X.nd then X.nm.data.toList else quo X.nm) = HD) := hHD
    rw [hFF, hHD] at HBG
    have HLF : Hid (FF.length ≤ 2097152) := by
      rw [← hFF]
      show _ ≤ _
      split
      · exact Nat.zero_le _
      · rw [List.length_append, Array.length_toList]
        have := HFD.out.1
        show X.fd.size + 2 ≤ _
        omega
    have HLH : Hid (HD.length ≤ 8388608) := by
      rw [← hHD]
      have h1 := quo_len X.nm
      have h2 := HFD.out.2
      show _ ≤ _
      split
      · rw [Array.length_toList]; show X.nm.size ≤ _; omega
      · omega
    have HCN : Hid (c < t.length) := hc
    clear hN hc h hb hK hst hnn hX hFF hHD ih hs hz hf HBD
    unfold tA
    obtain ⟨W1, hW1⟩ : ∃ W1, W1 = w.alloc (.cells #[.string X.nm, .bool X.nd, .string X.fd, .int .i64 X.fr, .int .i64 X.tt, .int .i64 X.kd, .int .i64 X.lf, .slice aa nn cc, .int .i64 (c : Int)] 91) := ⟨_, rfl⟩
    have HX1 : Hid (W1.heap[w.heap.size]? = some (.cells #[.string X.nm, .bool X.nd, .string X.fd, .int .i64 X.fr, .int .i64 X.tt, .int .i64 X.kd, .int .i64 X.lf, .slice aa nn cc, .int .i64 (c : Int)] 91 (0, 0))) := by rw [hW1]; exact heap_new _ _
    have HB1 : Hid (Below w.heap.size w W1) := by rw [hW1]; exact bel_up _ _
    go_enter Try.func75, Try.ntmps75
    go_upto_region 1 with fail
    rw [← hW1]
    clear hW1
    obtain ⟨xb, hxb⟩ : ∃ xb, w.heap.size = xb := ⟨_, rfl⟩
    rw [hxb] at HX1 ⊢
    clear hxb
    have f2 := rcell HX1.out 2 _ rfl
    have f0 := rcell HX1.out 0 _ rfl
    cases hbz : X.fd.toList.isEmpty with
    | true =>
      have HNE : Hid (X.fd = ⟨#[]⟩) := ba_nil hbz
      cases hnd : X.nd with
      | true =>
        have HND : Hid (X.nd = true) := hnd
        have HS0 : Hid ((⟨#[]⟩ : ByteArray).data.toList = FF) := by show _ = _; rw [← HFF.out, if_pos HNE.out]
        obtain ⟨S0, hS0⟩ : ∃ S0 : ByteArray, S0 = ⟨#[]⟩ := ⟨_, rfl⟩
        rw [← hS0] at HS0
        go_upto_region 5 with fail
        rw [← hS0]
        clear hS0
        have HH0 : Hid (X.nm.data.toList = HD) := by show _ = _; rw [← HHD.out, HND.out]; rfl
        obtain ⟨H0, hH0⟩ : ∃ H0, X.nm = H0 := ⟨_, rfl⟩
        rw [hH0] at HH0 ⊢
        have HB2 : Hid (Below W1.heap.size W1 W1) := Below.refl _ _
        obtain ⟨W2, hW2⟩ : ∃ W2, W1 = W2 := ⟨_, rfl⟩
        have HX2 : Hid (W2.heap[xb]? = some (.cells #[.string X.nm, .bool X.nd, .string X.fd, .int .i64 X.fr, .int .i64 X.tt, .int .i64 X.kd, .int .i64 X.lf, .slice aa nn cc, .int .i64 (c : Int)] 91 (0, 0))) := by rw [← hW2]; exact HX1.out
        rw [show Below W1.heap.size W1 W1 = Below W1.heap.size W1 W2 by rw [hW2]] at HB2
        rw [hW2]
        clear hH0
        have x1 := rcell HX2.out 1 _ rfl
        rw [HND.out] at x1
        go_upto_region 9 with fail
        clear x1
        have HBK : Hid (brk X = true) := by
          show _ = _
          unfold brk
          rw [HND.out]
          rfl
        obtain ⟨S1, hS11, hS12⟩ := sadd S0 ⟨#[40]⟩ _ _ HS0.out rfl (by have := HLF.out; show FF.length + 1 ≤ _; omega)
        obtain ⟨S2, hS21, hS22⟩ := sadd S1 H0 _ _ hS11 HH0.out (by have := HLF.out; have := HLH.out; rw [List.length_append]; show FF.length + 1 + HD.length ≤ _; omega)
        have HS2 : Hid (S2.data.toList = bgg X) := by show _ = _; rw [hS21, HBG.out, HBK.out]; rfl
        clear hS11 hS21
        go_upto_region 11 with fail
        clear hS12 hS22
        have HBW2 : Hid (Below w.heap.size w W2) := below_trans HB1.out HB2.out
        go_loopg [3, 5] nn (fun gm v3 v5 wr => ∃ (i : Nat) (S : ByteArray), v3 = .string S ∧ v5 = .int .i64 (i : Int) ∧ Hid (i ≤ nn ∧ gm = nn - i) ∧ Hid (S.data.toList = bgg X ++ sp t (c + 1) 0 i) ∧ Hid (Below W2.heap.size W2 wr))
        case atStart => exact ⟨0, S2, rfl, rfl, ⟨Nat.zero_le _, rfl⟩, by show _ = _; rw [sp_nil, List.append_nil]; exact HS2.out, Below.refl _ _⟩
        case round =>
          clear HS2 HS0 HH0
          obtain ⟨i, S, rfl, rfl, HI, HS, HBW⟩ := hrel
          have HXW : Hid (wr.heap[xb]? = some (.cells #[.string X.nm, .bool X.nd, .string X.fd, .int .i64 X.fr, .int .i64 X.tt, .int .i64 X.kd, .int .i64 X.lf, .slice aa nn cc, .int .i64 (c : Int)] 91 (0, 0))) := by rw [HBW.out.block xb (lt_of_heap HX2.out)]; exact HX2.out
          have x7 := rcell HXW.out 7 _ rfl
          have HWW : Hid (Below w0.heap.size w0 wr) := below_trans HBB.out (below_trans HBW2.out HBW.out)
          have HSL : Hid (S.data.toList.length ≤ 35184372088832) := by have h7 := HSP.out i HI.out.1; have h8 := HBL.out; rw [HS.out, List.length_append]; show _ ≤ _; omega
          by_cases hi : i < nn
          · have e1 : decide ((i : Int) < (nn : Int)) = true := by rw [decide_eq_true_eq]; omega
            have e2 : decide (i < nn) = true := by rw [decide_eq_true_eq]; omega
            have b1 : (i : Int) < (nn : Int) := by omega
            have b2 : i < nn := hi
            have HIM : Hid (i < nn) := hi
            obtain ⟨g, o, ka, kn, kc, rfl, hT, hC⟩ := HM.out.nine i hi
            have HCL := HKI.out i hi _ wr hT HWW.out
            have HSN : Hid (sp t (c + 1) 0 (i + 1) = sp t (c + 1) 0 i ++ 32 :: on t t.length (wA (kds t) (c + 1) i)) := sp_snoc _ _ _
            have HKL : Hid ((on t t.length (wA (kds t) (c + 1) i)).length ≤ 17592186044416) := HKO.out i hi
            obtain ⟨q0, q1, q2, q3, q4, q5, q6, q7, q8⟩ := hC wr HWW.out
            obtain ⟨b, hb⟩ : ∃ b, wA (kds t) (c + 1) i = b := ⟨_, rfl⟩
            rw [hb] at HCL HSN HKL q0 q1 q2 q3 q4 q5 q6 q8
            obtain ⟨Z, hZ⟩ : ∃ Z, t.getD b ndd = Z := ⟨_, rfl⟩
            rw [hZ] at HCL q0 q1 q2 q3 q4 q5 q6
            unfold tA at HCL
            have HCC : Hid _ := HCL
            have hwi := w64n i (by have := HS9.out; have := HNN.out; omega)
            clear hi hT hC hb hZ HCL
            go_upto_region 14 with (go_at_call 75; refine Calls.mono HCC.out ?_; rintro ee W4 ⟨kt, rfl, hk4, hb4⟩; have HKT : Hid (kt.data.toList = on t t.length b) := hk4; have HB4 : Hid (Below W2.heap.size W2 W4) := below_trans HBW.out hb4; clear hk4 hb4)
            clear q0 q1 q2 q3 q4 q5 q6 q7 q8 x7
            obtain ⟨T1, hT11, hT12⟩ := sadd S ⟨#[32]⟩ _ _ rfl rfl (by have := HSL.out; show _ + 1 ≤ _; omega)
            obtain ⟨T2, hT21, hT22⟩ := sadd T1 kt _ _ hT11 HKT.out (by have := HSL.out; have := HKL.out; rw [List.length_append]; show _ + 1 + _ ≤ _; omega)
            have HT2 : Hid (T2.data.toList = bgg X ++ sp t (c + 1) 0 (i + 1)) := by show _ = _; rw [hT21, HS.out, HSN.out]; simp
            clear hT11 hT21
            go_wp2_with fail
            go_roundg (nn - (i + 1))
            case measure => have := HI.out; have := HIM.out; omega
            case rel => exact ⟨i + 1, T2, rfl, by first | rfl | (rw [show (i : Int) + 1 = ((i + 1 : Nat) : Int) by omega]), ⟨HIM.out, rfl⟩, HT2, HB4⟩
          · have e1 : decide ((i : Int) < (nn : Int)) = false := by rw [decide_eq_false_iff_not]; omega
            have e2 : decide (i < nn) = false := by rw [decide_eq_false_iff_not]; omega
            have e3 : i = nn := by have := HI.out; omega
            subst e3
            clear hi
            obtain ⟨T1, hT11, hT12⟩ := sadd S ⟨#[41]⟩ _ _ rfl rfl (by have := HSL.out; show _ + 1 ≤ _; omega)
            have HT1 : Hid (T1.data.toList = on t t.length c) := by show _ = _; rw [hT11, HS.out, HON.out]; unfold cls; rw [HBK.out]; rfl
            clear hT11
            go_wp2_with fail
            go_ret
            exact ⟨_, rfl, HT1.out, below_trans HBW2.out HBW.out⟩
      | false =>
        have HND : Hid (X.nd = false) := hnd
        have HS0 : Hid ((⟨#[]⟩ : ByteArray).data.toList = FF) := by show _ = _; rw [← HFF.out, if_pos HNE.out]
        obtain ⟨S0, hS0⟩ : ∃ S0 : ByteArray, S0 = ⟨#[]⟩ := ⟨_, rfl⟩
        rw [← hS0] at HS0
        go_upto_region 5 with fail
        rw [← hS0]
        clear hS0
        have x1 := rcell HX1.out 1 _ rfl
        rw [HND.out] at x1
        have x0 := rcell HX1.out 0 _ rfl
        go_upto_region 7 with (go_at_call 84; refine (rquoted_any X.nm _ (by have := HFD.out; omega)).mono ?_; rintro ee W2 ⟨rfl, hb2⟩; have HB2 : Hid (Below W1.heap.size W1 W2) := hb2; clear hb2)
        clear x0 x1
        have HH0 : Hid ((⟨(quo X.nm).toArray⟩ : ByteArray).data.toList = HD) := by show _ = _; rw [← HHD.out, HND.out]; rfl
        obtain ⟨H0, hH0⟩ : ∃ H0 : ByteArray, H0 = ⟨(quo X.nm).toArray⟩ := ⟨_, rfl⟩
        rw [← hH0] at HH0 ⊢
        clear hH0
        have HX2 : Hid (W2.heap[xb]? = some (.cells #[.string X.nm, .bool X.nd, .string X.fd, .int .i64 X.fr, .int .i64 X.tt, .int .i64 X.kd, .int .i64 X.lf, .slice aa nn cc, .int .i64 (c : Int)] 91 (0, 0))) := by rw [HB2.out.block xb (lt_of_heap HX1.out)]; exact HX1.out
        have x1 := rcell HX2.out 1 _ rfl
        rw [HND.out] at x1
        have x7 := rcell HX2.out 7 _ rfl
        rcases Nat.eq_zero_or_pos nn with hz | hz
        · subst hz
          have HBK : Hid (brk X = false) := by show _ = _; unfold brk; rw [HND.out, HKD.out]; rfl
          obtain ⟨S9, hS91, hS92⟩ := sadd S0 H0 _ _ HS0.out HH0.out (by have := HLF.out; have := HLH.out; omega)
          have HS9 : Hid (S9.data.toList = FF ++ HD) := hS91
          clear hS91
          go_wp2_with fail
          go_ret
          refine ⟨_, rfl, ?_, below_trans HB1.out HB2.out⟩
          rw [HS9.out, HON.out, HBG.out, HBK.out]
          unfold cls
          rw [HBK.out, sp_nil]
          simp
        have e1 : ((nn : Int) == 0) = false := by rw [beq_eq_false_iff_ne]; omega
        have HNP : Hid (0 < nn) := hz
        clear hz
        go_upto_region 9 with fail
        clear x1 x7 e1
        have HBK : Hid (brk X = true) := by
          show _ = _
          unfold brk
          rw [HND.out, HKD.out]
          show decide (0 < (nn : Int)) = true
          rw [decide_eq_true_eq]
          have := HNP.out
          omega
        obtain ⟨S1, hS11, hS12⟩ := sadd S0 ⟨#[40]⟩ _ _ HS0.out rfl (by have := HLF.out; show FF.length + 1 ≤ _; omega)
        obtain ⟨S2, hS21, hS22⟩ := sadd S1 H0 _ _ hS11 HH0.out (by have := HLF.out; have := HLH.out; rw [List.length_append]; show FF.length + 1 + HD.length ≤ _; omega)
        have HS2 : Hid (S2.data.toList = bgg X) := by show _ = _; rw [hS21, HBG.out, HBK.out]; rfl
        clear hS11 hS21
        go_upto_region 11 with fail
        clear hS12 hS22
        have HBW2 : Hid (Below w.heap.size w W2) := below_trans HB1.out HB2.out
        go_loopg [3, 5] nn (fun gm v3 v5 wr => ∃ (i : Nat) (S : ByteArray), v3 = .string S ∧ v5 = .int .i64 (i : Int) ∧ Hid (i ≤ nn ∧ gm = nn - i) ∧ Hid (S.data.toList = bgg X ++ sp t (c + 1) 0 i) ∧ Hid (Below W2.heap.size W2 wr))
        case atStart => exact ⟨0, S2, rfl, rfl, ⟨Nat.zero_le _, rfl⟩, by show _ = _; rw [sp_nil, List.append_nil]; exact HS2.out, Below.refl _ _⟩
        case round =>
          clear HS2 HS0 HH0
          obtain ⟨i, S, rfl, rfl, HI, HS, HBW⟩ := hrel
          have HXW : Hid (wr.heap[xb]? = some (.cells #[.string X.nm, .bool X.nd, .string X.fd, .int .i64 X.fr, .int .i64 X.tt, .int .i64 X.kd, .int .i64 X.lf, .slice aa nn cc, .int .i64 (c : Int)] 91 (0, 0))) := by rw [HBW.out.block xb (lt_of_heap HX2.out)]; exact HX2.out
          have x7 := rcell HXW.out 7 _ rfl
          have HWW : Hid (Below w0.heap.size w0 wr) := below_trans HBB.out (below_trans HBW2.out HBW.out)
          have HSL : Hid (S.data.toList.length ≤ 35184372088832) := by have h7 := HSP.out i HI.out.1; have h8 := HBL.out; rw [HS.out, List.length_append]; show _ ≤ _; omega
          by_cases hi : i < nn
          · have e1 : decide ((i : Int) < (nn : Int)) = true := by rw [decide_eq_true_eq]; omega
            have e2 : decide (i < nn) = true := by rw [decide_eq_true_eq]; omega
            have b1 : (i : Int) < (nn : Int) := by omega
            have b2 : i < nn := hi
            have HIM : Hid (i < nn) := hi
            obtain ⟨g, o, ka, kn, kc, rfl, hT, hC⟩ := HM.out.nine i hi
            have HCL := HKI.out i hi _ wr hT HWW.out
            have HSN : Hid (sp t (c + 1) 0 (i + 1) = sp t (c + 1) 0 i ++ 32 :: on t t.length (wA (kds t) (c + 1) i)) := sp_snoc _ _ _
            have HKL : Hid ((on t t.length (wA (kds t) (c + 1) i)).length ≤ 17592186044416) := HKO.out i hi
            obtain ⟨q0, q1, q2, q3, q4, q5, q6, q7, q8⟩ := hC wr HWW.out
            obtain ⟨b, hb⟩ : ∃ b, wA (kds t) (c + 1) i = b := ⟨_, rfl⟩
            rw [hb] at HCL HSN HKL q0 q1 q2 q3 q4 q5 q6 q8
            obtain ⟨Z, hZ⟩ : ∃ Z, t.getD b ndd = Z := ⟨_, rfl⟩
            rw [hZ] at HCL q0 q1 q2 q3 q4 q5 q6
            unfold tA at HCL
            have HCC : Hid _ := HCL
            have hwi := w64n i (by have := HS9.out; have := HNN.out; omega)
            clear hi hT hC hb hZ HCL
            go_upto_region 14 with (go_at_call 75; refine Calls.mono HCC.out ?_; rintro ee W4 ⟨kt, rfl, hk4, hb4⟩; have HKT : Hid (kt.data.toList = on t t.length b) := hk4; have HB4 : Hid (Below W2.heap.size W2 W4) := below_trans HBW.out hb4; clear hk4 hb4)
            clear q0 q1 q2 q3 q4 q5 q6 q7 q8 x7
            obtain ⟨T1, hT11, hT12⟩ := sadd S ⟨#[32]⟩ _ _ rfl rfl (by have := HSL.out; show _ + 1 ≤ _; omega)
            obtain ⟨T2, hT21, hT22⟩ := sadd T1 kt _ _ hT11 HKT.out (by have := HSL.out; have := HKL.out; rw [List.length_append]; show _ + 1 + _ ≤ _; omega)
            have HT2 : Hid (T2.data.toList = bgg X ++ sp t (c + 1) 0 (i + 1)) := by show _ = _; rw [hT21, HS.out, HSN.out]; simp
            clear hT11 hT21
            go_wp2_with fail
            go_roundg (nn - (i + 1))
            case measure => have := HI.out; have := HIM.out; omega
            case rel => exact ⟨i + 1, T2, rfl, by first | rfl | (rw [show (i : Int) + 1 = ((i + 1 : Nat) : Int) by omega]), ⟨HIM.out, rfl⟩, HT2, HB4⟩
          · have e1 : decide ((i : Int) < (nn : Int)) = false := by rw [decide_eq_false_iff_not]; omega
            have e2 : decide (i < nn) = false := by rw [decide_eq_false_iff_not]; omega
            have e3 : i = nn := by have := HI.out; omega
            subst e3
            clear hi
            obtain ⟨T1, hT11, hT12⟩ := sadd S ⟨#[41]⟩ _ _ rfl rfl (by have := HSL.out; show _ + 1 ≤ _; omega)
            have HT1 : Hid (T1.data.toList = on t t.length c) := by show _ = _; rw [hT11, HS.out, HON.out]; unfold cls; rw [HBK.out]; rfl
            clear hT11
            go_wp2_with fail
            go_ret
            exact ⟨_, rfl, HT1.out, below_trans HBW2.out HBW.out⟩
    | false =>
      have HNE : Hid (¬ X.fd = ⟨#[]⟩) := fun e => by rw [e, emp_yes] at hbz; cases hbz
      cases hnd : X.nd with
      | true =>
        have HND : Hid (X.nd = true) := hnd
        obtain ⟨S0, hS01, hS02⟩ := sadd X.fd ⟨#[58, 32]⟩ _ _ rfl rfl (by have := HFD.out; show X.fd.data.toList.length + 2 ≤ _; rw [Array.length_toList]; show X.fd.size + 2 ≤ _; omega)
        have HS0 : Hid (S0.data.toList = FF) := by show _ = _; rw [hS01, ← HFF.out, if_neg HNE.out]
        clear hS01
        go_upto_region 5 with fail
        clear hS02
        have HH0 : Hid (X.nm.data.toList = HD) := by show _ = _; rw [← HHD.out, HND.out]; rfl
        obtain ⟨H0, hH0⟩ : ∃ H0, X.nm = H0 := ⟨_, rfl⟩
        rw [hH0] at HH0 ⊢
        have HB2 : Hid (Below W1.heap.size W1 W1) := Below.refl _ _
        obtain ⟨W2, hW2⟩ : ∃ W2, W1 = W2 := ⟨_, rfl⟩
        have HX2 : Hid (W2.heap[xb]? = some (.cells #[.string X.nm, .bool X.nd, .string X.fd, .int .i64 X.fr, .int .i64 X.tt, .int .i64 X.kd, .int .i64 X.lf, .slice aa nn cc, .int .i64 (c : Int)] 91 (0, 0))) := by rw [← hW2]; exact HX1.out
        rw [show Below W1.heap.size W1 W1 = Below W1.heap.size W1 W2 by rw [hW2]] at HB2
        rw [hW2]
        clear hH0
        have x1 := rcell HX2.out 1 _ rfl
        rw [HND.out] at x1
        go_upto_region 9 with fail
        clear x1
        have HBK : Hid (brk X = true) := by
          show _ = _
          unfold brk
          rw [HND.out]
          rfl
        obtain ⟨S1, hS11, hS12⟩ := sadd S0 ⟨#[40]⟩ _ _ HS0.out rfl (by have := HLF.out; show FF.length + 1 ≤ _; omega)
        obtain ⟨S2, hS21, hS22⟩ := sadd S1 H0 _ _ hS11 HH0.out (by have := HLF.out; have := HLH.out; rw [List.length_append]; show FF.length + 1 + HD.length ≤ _; omega)
        have HS2 : Hid (S2.data.toList = bgg X) := by show _ = _; rw [hS21, HBG.out, HBK.out]; rfl
        clear hS11 hS21
        go_upto_region 11 with fail
        clear hS12 hS22
        have HBW2 : Hid (Below w.heap.size w W2) := below_trans HB1.out HB2.out
        go_loopg [3, 5] nn (fun gm v3 v5 wr => ∃ (i : Nat) (S : ByteArray), v3 = .string S ∧ v5 = .int .i64 (i : Int) ∧ Hid (i ≤ nn ∧ gm = nn - i) ∧ Hid (S.data.toList = bgg X ++ sp t (c + 1) 0 i) ∧ Hid (Below W2.heap.size W2 wr))
        case atStart => exact ⟨0, S2, rfl, rfl, ⟨Nat.zero_le _, rfl⟩, by show _ = _; rw [sp_nil, List.append_nil]; exact HS2.out, Below.refl _ _⟩
        case round =>
          clear HS2 HS0 HH0
          obtain ⟨i, S, rfl, rfl, HI, HS, HBW⟩ := hrel
          have HXW : Hid (wr.heap[xb]? = some (.cells #[.string X.nm, .bool X.nd, .string X.fd, .int .i64 X.fr, .int .i64 X.tt, .int .i64 X.kd, .int .i64 X.lf, .slice aa nn cc, .int .i64 (c : Int)] 91 (0, 0))) := by rw [HBW.out.block xb (lt_of_heap HX2.out)]; exact HX2.out
          have x7 := rcell HXW.out 7 _ rfl
          have HWW : Hid (Below w0.heap.size w0 wr) := below_trans HBB.out (below_trans HBW2.out HBW.out)
          have HSL : Hid (S.data.toList.length ≤ 35184372088832) := by have h7 := HSP.out i HI.out.1; have h8 := HBL.out; rw [HS.out, List.length_append]; show _ ≤ _; omega
          by_cases hi : i < nn
          · have e1 : decide ((i : Int) < (nn : Int)) = true := by rw [decide_eq_true_eq]; omega
            have e2 : decide (i < nn) = true := by rw [decide_eq_true_eq]; omega
            have b1 : (i : Int) < (nn : Int) := by omega
            have b2 : i < nn := hi
            have HIM : Hid (i < nn) := hi
            obtain ⟨g, o, ka, kn, kc, rfl, hT, hC⟩ := HM.out.nine i hi
            have HCL := HKI.out i hi _ wr hT HWW.out
            have HSN : Hid (sp t (c + 1) 0 (i + 1) = sp t (c + 1) 0 i ++ 32 :: on t t.length (wA (kds t) (c + 1) i)) := sp_snoc _ _ _
            have HKL : Hid ((on t t.length (wA (kds t) (c + 1) i)).length ≤ 17592186044416) := HKO.out i hi
            obtain ⟨q0, q1, q2, q3, q4, q5, q6, q7, q8⟩ := hC wr HWW.out
            obtain ⟨b, hb⟩ : ∃ b, wA (kds t) (c + 1) i = b := ⟨_, rfl⟩
            rw [hb] at HCL HSN HKL q0 q1 q2 q3 q4 q5 q6 q8
            obtain ⟨Z, hZ⟩ : ∃ Z, t.getD b ndd = Z := ⟨_, rfl⟩
            rw [hZ] at HCL q0 q1 q2 q3 q4 q5 q6
            unfold tA at HCL
            have HCC : Hid _ := HCL
            have hwi := w64n i (by have := HS9.out; have := HNN.out; omega)
            clear hi hT hC hb hZ HCL
            go_upto_region 14 with (go_at_call 75; refine Calls.mono HCC.out ?_; rintro ee W4 ⟨kt, rfl, hk4, hb4⟩; have HKT : Hid (kt.data.toList = on t t.length b) := hk4; have HB4 : Hid (Below W2.heap.size W2 W4) := below_trans HBW.out hb4; clear hk4 hb4)
            clear q0 q1 q2 q3 q4 q5 q6 q7 q8 x7
            obtain ⟨T1, hT11, hT12⟩ := sadd S ⟨#[32]⟩ _ _ rfl rfl (by have := HSL.out; show _ + 1 ≤ _; omega)
            obtain ⟨T2, hT21, hT22⟩ := sadd T1 kt _ _ hT11 HKT.out (by have := HSL.out; have := HKL.out; rw [List.length_append]; show _ + 1 + _ ≤ _; omega)
            have HT2 : Hid (T2.data.toList = bgg X ++ sp t (c + 1) 0 (i + 1)) := by show _ = _; rw [hT21, HS.out, HSN.out]; simp
            clear hT11 hT21
            go_wp2_with fail
            go_roundg (nn - (i + 1))
            case measure => have := HI.out; have := HIM.out; omega
            case rel => exact ⟨i + 1, T2, rfl, by first | rfl | (rw [show (i : Int) + 1 = ((i + 1 : Nat) : Int) by omega]), ⟨HIM.out, rfl⟩, HT2, HB4⟩
          · have e1 : decide ((i : Int) < (nn : Int)) = false := by rw [decide_eq_false_iff_not]; omega
            have e2 : decide (i < nn) = false := by rw [decide_eq_false_iff_not]; omega
            have e3 : i = nn := by have := HI.out; omega
            subst e3
            clear hi
            obtain ⟨T1, hT11, hT12⟩ := sadd S ⟨#[41]⟩ _ _ rfl rfl (by have := HSL.out; show _ + 1 ≤ _; omega)
            have HT1 : Hid (T1.data.toList = on t t.length c) := by show _ = _; rw [hT11, HS.out, HON.out]; unfold cls; rw [HBK.out]; rfl
            clear hT11
            go_wp2_with fail
            go_ret
            exact ⟨_, rfl, HT1.out, below_trans HBW2.out HBW.out⟩
      | false =>
        have HND : Hid (X.nd = false) := hnd
        obtain ⟨S0, hS01, hS02⟩ := sadd X.fd ⟨#[58, 32]⟩ _ _ rfl rfl (by have := HFD.out; show X.fd.data.toList.length + 2 ≤ _; rw [Array.length_toList]; show X.fd.size + 2 ≤ _; omega)
        have HS0 : Hid (S0.data.toList = FF) := by show _ = _; rw [hS01, ← HFF.out, if_neg HNE.out]
        clear hS01
        go_upto_region 5 with fail
        clear hS02
        have x1 := rcell HX1.out 1 _ rfl
        rw [HND.out] at x1
        have x0 := rcell HX1.out 0 _ rfl
        go_upto_region 7 with (go_at_call 84; refine (rquoted_any X.nm _ (by have := HFD.out; omega)).mono ?_; rintro ee W2 ⟨rfl, hb2⟩; have HB2 : Hid (Below W1.heap.size W1 W2) := hb2; clear hb2)
        clear x0 x1
        have HH0 : Hid ((⟨(quo X.nm).toArray⟩ : ByteArray).data.toList = HD) := by show _ = _; rw [← HHD.out, HND.out]; rfl
        obtain ⟨H0, hH0⟩ : ∃ H0 : ByteArray, H0 = ⟨(quo X.nm).toArray⟩ := ⟨_, rfl⟩
        rw [← hH0] at HH0 ⊢
        clear hH0
        have HX2 : Hid (W2.heap[xb]? = some (.cells #[.string X.nm, .bool X.nd, .string X.fd, .int .i64 X.fr, .int .i64 X.tt, .int .i64 X.kd, .int .i64 X.lf, .slice aa nn cc, .int .i64 (c : Int)] 91 (0, 0))) := by rw [HB2.out.block xb (lt_of_heap HX1.out)]; exact HX1.out
        have x1 := rcell HX2.out 1 _ rfl
        rw [HND.out] at x1
        have x7 := rcell HX2.out 7 _ rfl
        rcases Nat.eq_zero_or_pos nn with hz | hz
        · subst hz
          have HBK : Hid (brk X = false) := by show _ = _; unfold brk; rw [HND.out, HKD.out]; rfl
          obtain ⟨S9, hS91, hS92⟩ := sadd S0 H0 _ _ HS0.out HH0.out (by have := HLF.out; have := HLH.out; omega)
          have HS9 : Hid (S9.data.toList = FF ++ HD) := hS91
          clear hS91
          go_wp2_with fail
          go_ret
          refine ⟨_, rfl, ?_, below_trans HB1.out HB2.out⟩
          rw [HS9.out, HON.out, HBG.out, HBK.out]
          unfold cls
          rw [HBK.out, sp_nil]
          simp
        have e1 : ((nn : Int) == 0) = false := by rw [beq_eq_false_iff_ne]; omega
        have HNP : Hid (0 < nn) := hz
        clear hz
        go_upto_region 9 with fail
        clear x1 x7 e1
        have HBK : Hid (brk X = true) := by
          show _ = _
          unfold brk
          rw [HND.out, HKD.out]
          show decide (0 < (nn : Int)) = true
          rw [decide_eq_true_eq]
          have := HNP.out
          omega
        obtain ⟨S1, hS11, hS12⟩ := sadd S0 ⟨#[40]⟩ _ _ HS0.out rfl (by have := HLF.out; show FF.length + 1 ≤ _; omega)
        obtain ⟨S2, hS21, hS22⟩ := sadd S1 H0 _ _ hS11 HH0.out (by have := HLF.out; have := HLH.out; rw [List.length_append]; show FF.length + 1 + HD.length ≤ _; omega)
        have HS2 : Hid (S2.data.toList = bgg X) := by show _ = _; rw [hS21, HBG.out, HBK.out]; rfl
        clear hS11 hS21
        go_upto_region 11 with fail
        clear hS12 hS22
        have HBW2 : Hid (Below w.heap.size w W2) := below_trans HB1.out HB2.out
        go_loopg [3, 5] nn (fun gm v3 v5 wr => ∃ (i : Nat) (S : ByteArray), v3 = .string S ∧ v5 = .int .i64 (i : Int) ∧ Hid (i ≤ nn ∧ gm = nn - i) ∧ Hid (S.data.toList = bgg X ++ sp t (c + 1) 0 i) ∧ Hid (Below W2.heap.size W2 wr))
        case atStart => exact ⟨0, S2, rfl, rfl, ⟨Nat.zero_le _, rfl⟩, by show _ = _; rw [sp_nil, List.append_nil]; exact HS2.out, Below.refl _ _⟩
        case round =>
          clear HS2 HS0 HH0
          obtain ⟨i, S, rfl, rfl, HI, HS, HBW⟩ := hrel
          have HXW : Hid (wr.heap[xb]? = some (.cells #[.string X.nm, .bool X.nd, .string X.fd, .int .i64 X.fr, .int .i64 X.tt, .int .i64 X.kd, .int .i64 X.lf, .slice aa nn cc, .int .i64 (c : Int)] 91 (0, 0))) := by rw [HBW.out.block xb (lt_of_heap HX2.out)]; exact HX2.out
          have x7 := rcell HXW.out 7 _ rfl
          have HWW : Hid (Below w0.heap.size w0 wr) := below_trans HBB.out (below_trans HBW2.out HBW.out)
          have HSL : Hid (S.data.toList.length ≤ 35184372088832) := by have h7 := HSP.out i HI.out.1; have h8 := HBL.out; rw [HS.out, List.length_append]; show _ ≤ _; omega
          by_cases hi : i < nn
          · have e1 : decide ((i : Int) < (nn : Int)) = true := by rw [decide_eq_true_eq]; omega
            have e2 : decide (i < nn) = true := by rw [decide_eq_true_eq]; omega
            have b1 : (i : Int) < (nn : Int) := by omega
            have b2 : i < nn := hi
            have HIM : Hid (i < nn) := hi
            obtain ⟨g, o, ka, kn, kc, rfl, hT, hC⟩ := HM.out.nine i hi
            have HCL := HKI.out i hi _ wr hT HWW.out
            have HSN : Hid (sp t (c + 1) 0 (i + 1) = sp t (c + 1) 0 i ++ 32 :: on t t.length (wA (kds t) (c + 1) i)) := sp_snoc _ _ _
            have HKL : Hid ((on t t.length (wA (kds t) (c + 1) i)).length ≤ 17592186044416) := HKO.out i hi
            obtain ⟨q0, q1, q2, q3, q4, q5, q6, q7, q8⟩ := hC wr HWW.out
            obtain ⟨b, hb⟩ : ∃ b, wA (kds t) (c + 1) i = b := ⟨_, rfl⟩
            rw [hb] at HCL HSN HKL q0 q1 q2 q3 q4 q5 q6 q8
            obtain ⟨Z, hZ⟩ : ∃ Z, t.getD b ndd = Z := ⟨_, rfl⟩
            rw [hZ] at HCL q0 q1 q2 q3 q4 q5 q6
            unfold tA at HCL
            have HCC : Hid _ := HCL
            have hwi := w64n i (by have := HS9.out; have := HNN.out; omega)
            clear hi hT hC hb hZ HCL
            go_upto_region 14 with (go_at_call 75; refine Calls.mono HCC.out ?_; rintro ee W4 ⟨kt, rfl, hk4, hb4⟩; have HKT : Hid (kt.data.toList = on t t.length b) := hk4; have HB4 : Hid (Below W2.heap.size W2 W4) := below_trans HBW.out hb4; clear hk4 hb4)
            clear q0 q1 q2 q3 q4 q5 q6 q7 q8 x7
            obtain ⟨T1, hT11, hT12⟩ := sadd S ⟨#[32]⟩ _ _ rfl rfl (by have := HSL.out; show _ + 1 ≤ _; omega)
            obtain ⟨T2, hT21, hT22⟩ := sadd T1 kt _ _ hT11 HKT.out (by have := HSL.out; have := HKL.out; rw [List.length_append]; show _ + 1 + _ ≤ _; omega)
            have HT2 : Hid (T2.data.toList = bgg X ++ sp t (c + 1) 0 (i + 1)) := by show _ = _; rw [hT21, HS.out, HSN.out]; simp
            clear hT11 hT21
            go_wp2_with fail
            go_roundg (nn - (i + 1))
            case measure => have := HI.out; have := HIM.out; omega
            case rel => exact ⟨i + 1, T2, rfl, by first | rfl | (rw [show (i : Int) + 1 = ((i + 1 : Nat) : Int) by omega]), ⟨HIM.out, rfl⟩, HT2, HB4⟩
          · have e1 : decide ((i : Int) < (nn : Int)) = false := by rw [decide_eq_false_iff_not]; omega
            have e2 : decide (i < nn) = false := by rw [decide_eq_false_iff_not]; omega
            have e3 : i = nn := by have := HI.out; omega
            subst e3
            clear hi
            obtain ⟨T1, hT11, hT12⟩ := sadd S ⟨#[41]⟩ _ _ rfl rfl (by have := HSL.out; show _ + 1 ≤ _; omega)
            have HT1 : Hid (T1.data.toList = on t t.length c) := by show _ = _; rw [hT11, HS.out, HON.out]; unfold cls; rw [HBK.out]; rfl
            clear hT11
            go_wp2_with fail
            go_ret
            exact ⟨_, rfl, HT1.out, below_trans HBW2.out HBW.out⟩
end Go.Proofs.Ytcfmpmhdjkchjaa
