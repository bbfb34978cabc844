import Derived.Test.YtcmhbcfgikmblabGreatDoorSva
import Derived.Test.YtcmhbcfgikmblabGreatDoorSpc
import Derived.Lib.ItoaMem
namespace Go.Proofs.YtcmhbcfgikmblabGreatDoor
open Go.RowKit Go.Maps

def qt (t : List UInt8) : List UInt8 := 34 :: t.flatMap wrt ++ [34]
theorem wrt_len (x : UInt8) : (wrt x).length ≤ 4 := by
  unfold wrt
  repeat' split
  all_goals simp
theorem fm_len (t : List UInt8) : (t.flatMap wrt).length ≤ t.length * 4 := by
  induction t with
  | nil => simp
  | cons x t ih =>
    rw [List.flatMap_cons, List.length_append, List.length_cons]
    have := wrt_len x
    omega
theorem take_flat (t : ByteArray) (i : Nat) (hi : i < t.size) : (t.data.toList.take (i + 1)).flatMap wrt = (t.data.toList.take i).flatMap wrt ++ wrt (t.get! i) := by
  have h := take_snoc_at t 0 i (Nat.zero_le _) hi
  rw [List.drop_zero, Nat.sub_zero, Nat.sub_zero] at h
  rw [h, List.flatMap_append]
  simp

set_option maxRecDepth 100000 in
set_option maxHeartbeats 8000000 in
theorem quoted_any (t : ByteArray) (ht : t.size ≤ 100000000000) (w : World) : Calls Tryz.prog 79 #[.string t] w fun e w' => e = .returned (.string ⟨(qt t.data.toList).toArray⟩) ∧ Below w.heap.size w w' := by
  obtain ⟨i5, hi5, hx0, hx1, hx2⟩ := info_parts info5
  have HZ : Hid (t.size ≤ 100000000000) := ht
  obtain ⟨w1, hw1⟩ : ∃ w1, w1 = w.alloc (.cells #[.int .u8 34] 5) := ⟨_, rfl⟩
  have HB1 : Hid (Below w.heap.size w w1) := by rw [hw1]; exact bel_up _ _
  have HW1 : Hid (w1 = w.alloc (.cells #[.int .u8 34] 5)) := hw1
  have HV1 : Hid (Byt w.heap.size w1 (.slice (some ⟨w.heap.size, 0, none⟩) 1 1) [34]) := by
    rw [hw1]
    exact ⟨rfl, .inr ⟨_, _, _, rfl, Nat.le_refl _, heap_new w _, Nat.le_refl 1, by unfold maxLen; decide, rfl, rfl⟩⟩
  clear ht hw1
  go_enter Tryz.func79, Tryz.ntmps79
  go_upto_region 2 with fail
  rw [← HW1.out]
  clear HW1
  go_wp2_with fail
  go_loopg [3, 8] t.size (fun gm v3 v8 wr => ∃ i : Nat, v8 = .int .i64 (i : Int) ∧ Hid (i ≤ t.size ∧ gm = t.size - i) ∧ Hid (Byt w.heap.size wr v3 (34 :: (t.data.toList.take i).flatMap wrt)) ∧ Hid (Below w.heap.size w wr))
  case atStart => exact ⟨0, rfl, ⟨Nat.zero_le _, rfl⟩, HV1, HB1⟩
  case round =>
    obtain ⟨i, rfl, HI, HV, HB⟩ := hrel
    obtain ⟨l, hl⟩ : ∃ l, 34 :: (t.data.toList.take i).flatMap wrt = l := ⟨_, rfl⟩
    have HLL : Hid (l.length ≤ 1000000000000) := by
      have h1 := fm_len (t.data.toList.take i)
      rw [List.length_take, lst_siz] at h1
      have := HI.out
      have := HZ.out
      rw [← hl]
      show (34 :: (t.data.toList.take i).flatMap wrt).length ≤ _
      rw [List.length_cons]
      omega
    have HLE : Hid (34 :: (t.data.toList.take i).flatMap wrt = l) := hl
    rw [hl] at HV
    clear hl
    obtain ⟨ra, rc, hrv⟩ := row_shape HV.out
    subst hrv
    by_cases hi : i < t.size
    · have e1 : decide ((i : Int) < (t.size : Int)) = true := by rw [decide_eq_true_eq]; omega
      have e2 : decide (i < t.size) = true := by rw [decide_eq_true_eq]; omega
      have hix := idx_fact t i hi
      have HIL : Hid (i < t.size) := hi
      have HNX : Hid (34 :: (t.data.toList.take (i + 1)).flatMap wrt = l ++ wrt (t.get! i)) := by rw [take_flat t i hi, ← List.cons_append, HLE.out]; exact rfl
      obtain ⟨x, hx⟩ : ∃ x, t.get! i = x := ⟨_, rfl⟩
      rw [hx] at hix HNX
      have hwi := w64n i (by have := HZ.out; omega)
      clear hi hx
      go_wp2_with fail
      refine (written_any x wr HV.out HB.out.size HLL.out).mono ?_
      rintro e w5 ⟨v5, rfl, h5, b5⟩
      have HV5 : Hid (Byt w.heap.size w5 v5 (34 :: (t.data.toList.take (i + 1)).flatMap wrt)) := by rw [HNX.out]; exact h5
      have HB5 : Hid (Below w.heap.size w w5) := HB.out.trans b5
      obtain ⟨qa, qc, hq5⟩ := row_shape h5
      obtain ⟨m5, hm5⟩ : ∃ m, (l ++ wrt x).length = m := ⟨_, rfl⟩
      rw [hm5] at hq5
      clear h5 b5 hm5
      subst hq5
      go_wp2_with fail
      go_roundg (t.size - (i + 1))
      case measure => have := HI.out; have := HIL.out; omega
      case rel => exact ⟨i + 1, by simp, ⟨HIL.out, rfl⟩, HV5, HB5⟩
    · have e1 : decide ((i : Int) < (t.size : Int)) = false := by rw [decide_eq_false_iff_not]; omega
      have e2 : decide (i < t.size) = false := by rw [decide_eq_false_iff_not]; omega
      have HFE : Hid (qt t.data.toList = l ++ [34]) := by
        rw [← HLE.out, List.take_of_length_le (by rw [lst_siz]; omega)]
        exact rfl
      have HROW : Hid ((wr.alloc (.cells #[.int .u8 34] 5)).ownsRow w.heap.size 5 1 (.slice ra l.length rc) l.length (Lib.byteCells l)) := HV.out.alloc _
      clear hi
      go_wp2_with (at_builtin; refine wpList_append_own_at _ rfl _ _ 93 rfl w.heap.size 5 i5 (.int .u8 0) 1 1 Tryz.underlying93 hi5 hx0 hx1 hx2 rfl (by decide) _ _ _ rfl HROW.out ⟨wr.heap.size, 0, none⟩ 1 1 [.int .u8 34] rfl rfl (cell_one_new _ _ _) (by simp [Value.oneCell']) (by have := HLL.out; unfold maxLen; omega) (by have := HLL.out; omega) (by have := HB.out.size; simp; omega) ?_; intro v6 w6 ho6 hg6 _ ha6; have HO6 : Hid (Byt w.heap.size w6 v6 (l ++ [34])) := byt_app ho6; have HG6 : Hid (wr.grownBy w6 (Value.ownBlock (.slice ra l.length rc))) := (World.grownBy_alloc _ _ _).trans hg6; have hcv := byt_conv HO6.out; obtain ⟨qa, qc, rfl⟩ := row_shape ho6; clear ho6 hg6 ha6)
      go_ret
      refine ⟨by rw [HFE.out]; rfl, HB.out.trans ((Below.refl _ _).grown HG6.out HB.out.size (fun r e => (row_tag HV.out r e).1))⟩
/-- A word that is sound. -/
def snd (x : Wd) : Bool := if x.k = 1 then snm x.t else if x.k = 2 then true else if x.k = 3 then srx x.t else if x.k = 4 then decide (0 ≤ x.n) && decide (x.n ≤ 65535) else if x.k = 5 then ssg x.t else false
/-- How a word is spelt. -/
def spl (x : Wd) : List UInt8 := if snd x = false then [] else if x.k = 4 then Lib.itoa x.n else if x.k = 3 then 47 :: (x.t ++ [47]) else if x.k = 2 then qt x.t else x.t
theorem sg13 (c : UInt8) : decide (0 ≤ Lib.indexByte [123, 125, 40, 41, 124, 42, 43, 63, 58, 59, 44, 61, 64] c) = isS (nI c) := by
  have h := sgn_all ⟨c.toNat, UInt8.toNat_lt c⟩
  simp only [Nat.toUInt8, UInt8.ofNat_toNat] at h
  exact h

set_option maxRecDepth 100000 in
set_option maxHeartbeats 8000000 in
theorem sound_any (x : Wd) (hx : x.t.length ≤ 100000000000) (w : World) : Calls Tryz.prog 52 #[.agg #[.int .i64 x.k, .string ⟨x.t.toArray⟩, .int .i64 x.n, .int .i64 x.a]] w fun e w' => e = .returned (.bool (snd x)) ∧ Below w.heap.size w w' := by
  obtain ⟨xk, xt, xn, xa⟩ := x
  simp only at hx ⊢
  obtain ⟨T, hT⟩ : ∃ T : ByteArray, ⟨xt.toArray⟩ = T := ⟨_, rfl⟩
  have hTL : T.data.toList = xt := by rw [← hT]
  have hTS : T.size = xt.length := by rw [← lst_siz, hTL]
  obtain ⟨V, hV⟩ : ∃ V, snd ⟨xk, xt, xn, xa⟩ = V := ⟨_, rfl⟩
  rw [hV, hT]
  have hV2 : V = if xk = 1 then snm xt else if xk = 2 then true else if xk = 3 then srx xt else if xk = 4 then decide (0 ≤ xn) && decide (xn ≤ 65535) else if xk = 5 then ssg xt else false := by rw [← hV]; rfl
  clear hV
  obtain ⟨w1, hw1⟩ : ∃ w1, w1 = w.alloc (.cells #[.int .i64 xk, .string T, .int .i64 xn, .int .i64 xa] 77) := ⟨_, rfl⟩
  have HB1 : Hid (Below w.heap.size w w1) := by rw [hw1]; exact bel_up _ _
  have HW1 : Hid (w1 = w.alloc (.cells #[.int .i64 xk, .string T, .int .i64 xn, .int .i64 xa] 77)) := hw1
  have hb := heap_new w (.cells #[.int .i64 xk, .string T, .int .i64 xn, .int .i64 xa] 77)
  rw [← hw1] at hb
  have q0 : w1.cell? ⟨w.heap.size, 0, none⟩ = some (.int .i64 xk) := by rw [Lib.cell_of_heap hb]; rfl
  have q1 : w1.cell? ⟨w.heap.size, 1, none⟩ = some (.string T) := by rw [Lib.cell_of_heap hb]; rfl
  have q2 : w1.cell? ⟨w.heap.size, 2, none⟩ = some (.int .i64 xn) := by rw [Lib.cell_of_heap hb]; rfl
  clear hw1 hb hT
  go_enter Tryz.func52, Tryz.ntmps52
  go_upto_region 1 with fail
  rw [← HW1.out]
  clear HW1
  by_cases c1 : xk = 1
  · subst c1
    rw [if_pos rfl] at hV2
    have HC : Hid _ := soundName_any T (by omega) w1
    rw [hTL] at HC
    subst hV2
    go_wp2_with fail
    refine Calls.mono HC.out ?_
    rintro e w9 ⟨rfl, hw9⟩
    rw [hw9]
    clear hw9 w9
    go_wp2_with fail
    go_ret
    exact ⟨rfl, HB1.out⟩
  · rw [if_neg c1] at hV2
    by_cases c2 : xk = 2
    · subst c2
      rw [if_pos rfl] at hV2
      subst hV2
      go_wp2_with fail
      go_ret
      exact ⟨rfl, HB1.out⟩
    · rw [if_neg c2] at hV2
      by_cases c3 : xk = 3
      · subst c3
        rw [if_pos rfl] at hV2
        have HC : Hid _ := soundRegex_any T (by omega) w1
        rw [hTL] at HC
        subst hV2
        go_wp2_with fail
        refine Calls.mono HC.out ?_
        rintro e w9 ⟨rfl, b9⟩
        have HB9 : Hid (Below w.heap.size w w9) := below_trans HB1.out b9
        clear b9
        go_wp2_with fail
        go_ret
        exact ⟨rfl, HB9.out⟩
      · rw [if_neg c3] at hV2
        by_cases c4 : xk = 4
        · subst c4
          rw [if_pos rfl] at hV2
          by_cases n0 : 0 ≤ xn
          · have d0 : decide (0 ≤ xn) = true := decide_eq_true n0
            rw [d0, Bool.true_and] at hV2
            subst hV2
            clear n0
            go_wp2_with fail
            go_ret
            exact ⟨rfl, HB1.out⟩
          · have d0 : decide (0 ≤ xn) = false := decide_eq_false n0
            rw [d0, Bool.false_and] at hV2
            subst hV2
            clear n0
            go_wp2_with fail
            go_ret
            exact ⟨rfl, HB1.out⟩
        · rw [if_neg c4] at hV2
          by_cases c5 : xk = 5
          · subst c5
            rw [if_pos rfl] at hV2
            by_cases l1 : T.size = 1
            · have d1 : ((T.size : Int) == 1) = true := by rw [beq_iff_eq]; omega
              have d2 : (T.size == 1) = true := by rw [beq_iff_eq]; omega
              obtain ⟨c, hc⟩ : ∃ c, T = ⟨#[c]⟩ := by
                have h1 : T.data.size = 1 := l1
                exact ⟨T.data[0], ByteArray.ext (by apply Array.ext; simp [h1]; intro i h2 h3; have : i = 0 := by omega
                                                    subst this; simp)⟩
              have HC : Hid _ := Tryz.strings_Contains_one ⟨#[123, 125, 40, 41, 124, 42, 43, 63, 58, 59, 44, 61, 64]⟩ c w1
              have hxt : xt = [c] := by rw [← hTL, hc]
              have HVS : Hid (V = isS (nI c)) := by show _ = _; rw [hV2, hxt]; unfold ssg; simp
              have HSG : Hid (decide (0 ≤ Lib.indexByte [123, 125, 40, 41, 124, 42, 43, 63, 58, 59, 44, 61, 64] c) = isS (nI c)) := sg13 c
              rw [hc] at q1 d1 d2 ⊢
              clear hV2 hxt hc l1 hTL hTS hx
              go_wp2_with fail
              refine Calls.mono HC.out ?_
              rintro e w9 ⟨rfl, hw9⟩
              rw [hw9]
              clear hw9 w9
              go_wp2_with fail
              go_ret
              exact ⟨by rw [HVS.out, ← HSG.out]; rfl, HB1.out⟩
            · have d1 : ((T.size : Int) == 1) = false := by rw [beq_eq_false_iff_ne]; omega
              have d2 : (T.size == 1) = false := by rw [beq_eq_false_iff_ne]; omega
              have : V = false := by rw [hV2]; unfold ssg; rw [decide_eq_false (by omega), Bool.false_and]
              subst this
              clear hV2 l1 hTL hTS hx
              go_wp2_with fail
              go_ret
              exact ⟨rfl, HB1.out⟩
          · rw [if_neg c5] at hV2
            subst hV2
            go_wp2_with fail
            go_ret
            exact ⟨rfl, HB1.out⟩
end Go.Proofs.YtcmhbcfgikmblabGreatDoor
namespace Go.Proofs.YtcmhbcfgikmblabGreatDoor
open Go.RowKit Go.Maps

/-- Itoa of a number answers, from here on. -/
def ItoaOK (w : World) (n : Int) : Prop := ∀ W, Below w.heap.size w W → Calls Tryz.prog 78 #[.int .i64 n] W fun e w' => e = .returned (.string ⟨(Lib.itoa n).toArray⟩) ∧ Below W.heap.size W w'

set_option maxRecDepth 100000 in
set_option maxHeartbeats 8000000 in
theorem spell_any (x : Wd) (hx : x.t.length ≤ 100000000000) (w : World) (hI : snd x = true → x.k = 4 → ItoaOK w x.n) : Calls Tryz.prog 53 #[.agg #[.int .i64 x.k, .string ⟨x.t.toArray⟩, .int .i64 x.n, .int .i64 x.a]] w fun e w' => e = .returned (.string ⟨(spl x).toArray⟩) ∧ Below w.heap.size w w' := by
  have HX : Hid (x.t.length ≤ 100000000000) := hx
  obtain ⟨w1, hw1⟩ : ∃ w1, w1 = w.alloc (.cells #[.int .i64 x.k, .string ⟨x.t.toArray⟩, .int .i64 x.n, .int .i64 x.a] 77) := ⟨_, rfl⟩
  have HB1 : Hid (Below w.heap.size w w1) := by rw [hw1]; exact bel_up _ _
  have HW1 : Hid (w1 = w.alloc (.cells #[.int .i64 x.k, .string ⟨x.t.toArray⟩, .int .i64 x.n, .int .i64 x.a] 77)) := hw1
  have hb := heap_new w (.cells #[.int .i64 x.k, .string ⟨x.t.toArray⟩, .int .i64 x.n, .int .i64 x.a] 77)
  rw [← hw1] at hb
  have HQ : Hid (∀ W, Below w1.heap.size w1 W → W.cell? ⟨w.heap.size, 0, none⟩ = some (.int .i64 x.k) ∧ W.cell? ⟨w.heap.size, 1, none⟩ = some (.string ⟨x.t.toArray⟩) ∧ W.cell? ⟨w.heap.size, 2, none⟩ = some (.int .i64 x.n) ∧ W.cell? ⟨w.heap.size, 3, none⟩ = some (.int .i64 x.a)) := fun W hW =>
    ⟨below_cell hW (by rw [Lib.cell_of_heap hb]; rfl), below_cell hW (by rw [Lib.cell_of_heap hb]; rfl), below_cell hW (by rw [Lib.cell_of_heap hb]; rfl), below_cell hW (by rw [Lib.cell_of_heap hb]; rfl)⟩
  obtain ⟨q0, q1, q2, q3⟩ := HQ.out w1 (Below.refl _ _)
  have HI : Hid (snd x = true → x.k = 4 → ItoaOK w x.n) := hI
  obtain ⟨R, hR⟩ : ∃ R, spl x = R := ⟨_, rfl⟩
  rw [hR]
  unfold spl at hR
  have HR : Hid _ := hR
  clear hx hw1 hb hR hI
  go_enter Tryz.func53, Tryz.ntmps53
  go_upto_region 1 with fail
  rw [← HW1.out]
  clear HW1
  go_wp2_with fail
  refine (sound_any x HX.out w1).mono ?_
  rintro e w2 ⟨rfl, b2⟩
  have HB2 : Hid (Below w1.heap.size w1 w2) := b2
  have HBW : Hid (Below w.heap.size w w2) := below_trans HB1.out b2
  clear q0 q1 q2 q3 b2
  obtain ⟨q0, q1, q2, q3⟩ := HQ.out w2 HB2.out
  have hR := HR.out
  clear HR
  cases hs : snd x with
  | false =>
    rw [if_pos hs] at hR
    subst hR
    clear hs
    go_wp2_with fail
    go_ret
    exact ⟨rfl, HBW.out⟩
  | true =>
    rw [if_neg (by rw [hs]; decide)] at hR
    have HSN : Hid (snd x = true) := hs
    clear hs
    by_cases c4 : x.k = 4
    · rw [if_pos c4] at hR
      have HIT : Hid (ItoaOK w x.n) := HI.out HSN.out c4
      rw [c4] at q0
      subst hR
      clear c4
      go_wp2_with fail
      refine (HIT.out w2 HBW.out).mono ?_
      rintro e w3 ⟨rfl, b3⟩
      have HB3 : Hid (Below w.heap.size w w3) := below_trans HBW.out b3
      clear b3
      go_wp2_with fail
      go_ret
      exact ⟨rfl, HB3.out⟩
    · rw [if_neg c4] at hR
      have m4 : (x.k == 4) = false := by simpa using c4
      by_cases c3 : x.k = 3
      · rw [if_pos c3] at hR
        rw [c3] at q0
        have HE : Hid ((⟨#[47]⟩ : ByteArray) ++ ⟨x.t.toArray⟩ ++ (⟨#[47]⟩ : ByteArray) = ⟨R.toArray⟩) := by
          rw [← hR]
          show slh ⟨x.t.toArray⟩ = _
          apply ByteArray.ext
          rw [← Array.toList_inj, slh_list]
        obtain ⟨T, hT⟩ : ∃ T : ByteArray, ⟨x.t.toArray⟩ = T := ⟨_, rfl⟩
        have hTS : T.size = x.t.length := by rw [← lst_siz, ← hT]
        rw [hT] at q1 HE
        have z1 : ¬ 9223372036854775807 < 1 + T.size := by have := HX.out; omega
        have z2 : ¬ 9223372036854775807 < 1 + T.size + 1 := by have := HX.out; omega
        clear c3 c4 hR hT hTS m4
        go_wp2_with fail
        go_ret
        exact ⟨by rw [← HE.out]; rfl, HBW.out⟩
      · rw [if_neg c3] at hR
        have m3 : (x.k == 3) = false := by simpa using c3
        by_cases c2 : x.k = 2
        · rw [if_pos c2] at hR
          rw [c2] at q0
          subst hR
          have HC : Hid _ := quoted_any ⟨x.t.toArray⟩ (by show x.t.toArray.size ≤ _; simp; exact HX.out) w2
          clear c2 c3 c4 m4 m3
          go_wp2_with fail
          refine Calls.mono HC.out ?_
          rintro e w3 ⟨rfl, b3⟩
          have HB3 : Hid (Below w.heap.size w w3) := below_trans HBW.out b3
          clear b3
          go_wp2_with fail
          go_ret
          exact ⟨rfl, HB3.out⟩
        · rw [if_neg c2] at hR
          have m2 : (x.k == 2) = false := by simpa using c2
          subst hR
          have HC : Hid _ := clone_any ⟨x.t.toArray⟩ w2 (by show x.t.toArray.size ≤ _; simp; have := HX.out; omega)
          clear c2 c3 c4
          go_wp2_with fail
          refine Calls.mono HC.out ?_
          rintro e w3 ⟨rfl, b3⟩
          have HB3 : Hid (Below w.heap.size w w3) := below_trans HBW.out b3
          clear b3
          go_wp2_with fail
          go_ret
          exact ⟨rfl, HB3.out⟩
end Go.Proofs.YtcmhbcfgikmblabGreatDoor
