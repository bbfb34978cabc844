import Derived.Test.YteaanieohcanlaaDoorRwd
namespace Go.Proofs.YteaanieohcanlaaDoor
open Go.RowKit Go.Maps

theorem tk_flat (l : List UInt8) (i : Nat) (hi : i < l.length) : (l.take (i + 1)).flatMap wrt = (l.take i).flatMap wrt ++ wrt (l.getD i 0) := by
  rw [List.take_add_one, List.getElem?_eq_getElem hi, List.flatMap_append, List.getD_eq_getElem?_getD, List.getElem?_eq_getElem hi]
  simp
set_option maxRecDepth 100000 in
set_option maxHeartbeats 8000000 in
theorem rspell_any (x : Wd) (hx : x.t.length ≤ 100000000000) (w : World) (hI : snd x = true → x.k = 4 → ItoaOK w x.n) : Calls Tryd.prog 15 #[.agg #[.int .i64 x.k, .string ⟨x.t.toArray⟩, .int .i64 x.n, .int .i64 x.a]] w fun e w' => e = .returned (.string ⟨(spl x).toArray⟩) ∧ Below w.heap.size w w' := by
  have HX : Hid (x.t.length ≤ 100000000000) := hx
  obtain ⟨w1, hw1⟩ : ∃ w1, w1 = w.alloc (.cells #[.int .i64 x.k, .string ⟨x.t.toArray⟩, .int .i64 x.n, .int .i64 x.a] 32) := ⟨_, rfl⟩
  have HB1 : Hid (Below w.heap.size w w1) := by rw [hw1]; exact bel_up _ _
  have HW1 : Hid (w1 = w.alloc (.cells #[.int .i64 x.k, .string ⟨x.t.toArray⟩, .int .i64 x.n, .int .i64 x.a] 32)) := hw1
  have hb := heap_new w (.cells #[.int .i64 x.k, .string ⟨x.t.toArray⟩, .int .i64 x.n, .int .i64 x.a] 32)
  rw [← hw1] at hb
  have HQ : Hid (∀ W, Below w1.heap.size w1 W → W.cell? ⟨w.heap.size, 0, none⟩ = some (.int .i64 x.k) ∧ W.cell? ⟨w.heap.size, 1, none⟩ = some (.string ⟨x.t.toArray⟩) ∧ W.cell? ⟨w.heap.size, 2, none⟩ = some (.int .i64 x.n) ∧ W.cell? ⟨w.heap.size, 3, none⟩ = some (.int .i64 x.a)) := fun W hW =>
    ⟨below_cell hW (by rw [Lib.cell_of_heap hb]; rfl), below_cell hW (by rw [Lib.cell_of_heap hb]; rfl), below_cell hW (by rw [Lib.cell_of_heap hb]; rfl), below_cell hW (by rw [Lib.cell_of_heap hb]; rfl)⟩
  obtain ⟨q0, q1, q2, q3⟩ := HQ.out w1 (Below.refl _ _)
  have HI : Hid (snd x = true → x.k = 4 → ItoaOK w x.n) := hI
  obtain ⟨R, hR⟩ : ∃ R, spl x = R := ⟨_, rfl⟩
  rw [hR]
  unfold spl at hR
  have HR : Hid _ := hR
  clear hx hw1 hb hR hI
  go_enter Tryd.func15, Tryd.ntmps15
  go_upto_region 1 with fail
  rw [← HW1.out]
  clear HW1
  go_wp2_with fail
  refine (rsound_any x HX.out w1).mono ?_
  rintro e w2 ⟨rfl, b2⟩
  have HB2 : Hid (Below w1.heap.size w1 w2) := b2
  have HBW : Hid (Below w.heap.size w w2) := below_trans HB1.out b2
  clear q0 q1 q2 q3 b2
  obtain ⟨q0, q1, q2, q3⟩ := HQ.out w2 HB2.out
  have hR := HR.out
  clear HR
  cases hs : snd x with
  | false =>
    rw [if_pos hs] at hR
    subst hR
    clear hs
    go_wp2_with fail
    go_ret
    exact ⟨rfl, HBW.out⟩
  | true =>
    rw [if_neg (by rw [hs]; decide)] at hR
    have HSN : Hid (snd x = true) := hs
    clear hs
    by_cases c2 : x.k = 2
    · rw [if_neg (by rw [c2]; decide), if_neg (by rw [c2]; decide), if_pos c2] at hR
      obtain ⟨T, hT⟩ : ∃ T : ByteArray, ⟨x.t.toArray⟩ = T := ⟨_, rfl⟩
      have hTL : T.data.toList = x.t := by rw [← hT]
      have HTS : Hid (T.size ≤ 100000000000) := by rw [← lst_siz, hTL]; exact HX
      have HQT : Hid (∀ W, Below w2.heap.size w2 W → W.cell? ⟨w.heap.size, 1, none⟩ = some (.string T)) := fun W hW => by rw [← hT]; exact below_cell hW q1
      have HRE : Hid (R = 34 :: (T.data.toList.flatMap wrt ++ [34])) := by rw [hTL, ← hR]; exact rfl
      rw [c2] at q0
      rw [hT] at q1
      clear c2 hT hTL hR
      go_wp2_with fail
      go_loopg [3, 4] T.size (fun gm v3 v4 wr => ∃ i : Nat, v4 = .int .i64 (i : Int) ∧ Hid (i ≤ T.size ∧ gm = T.size - i) ∧ v3 = .string ⟨(34 :: (T.data.toList.take i).flatMap wrt).toArray⟩ ∧ Hid (Below w2.heap.size w2 wr))
      case atStart => exact ⟨0, rfl, ⟨Nat.zero_le _, rfl⟩, rfl, Below.refl _ _⟩
      case round =>
        obtain ⟨i, rfl, HII, rfl, HB⟩ := hrel
        have t1 := HQT.out _ HB.out
        obtain ⟨L, hL⟩ : ∃ L, 34 :: (T.data.toList.take i).flatMap wrt = L := ⟨_, rfl⟩
        have HLE : Hid (34 :: (T.data.toList.take i).flatMap wrt = L) := hL
        have hLL : L.length ≤ 4 * T.size + 1 := by
          have h1 := fm_len (T.data.toList.take i)
          rw [List.length_take, lst_siz] at h1
          have := HII.out
          rw [← hL, List.length_cons]
          omega
        rw [hL]
        obtain ⟨S, hS⟩ : ∃ S : ByteArray, ⟨L.toArray⟩ = S := ⟨_, rfl⟩
        have HSL : Hid (S.data.toList = L) := by rw [← hS]; exact rfl
        have hSS : S.size ≤ 4 * T.size + 1 := by rw [← lst_siz, HSL.out]; exact hLL
        have HSS : Hid (S.size ≤ 4 * T.size + 1) := hSS
        rw [hS]
        by_cases hi : i < T.size
        · have e1 : decide ((i : Int) < (T.size : Int)) = true := by rw [decide_eq_true_eq]; omega
          have e2 : decide (i < T.size) = true := by rw [decide_eq_true_eq]; omega
          have hix := idx_fact T i hi
          have HIL : Hid (i < T.size) := hi
          have HNX : Hid (34 :: (T.data.toList.take (i + 1)).flatMap wrt = L ++ wrt (T.get! i)) := by rw [take_flat T i hi, ← List.cons_append, HLE.out]; exact rfl
          obtain ⟨y, hy⟩ : ∃ y, T.get! i = y := ⟨_, rfl⟩
          rw [hy] at hix HNX
          have hwi := w64n i (by have := HTS.out; omega)
          clear hi hy hL hS hSS hLL q0 q1 q2 q3
          go_wp2_with fail
          refine (byteOf_any y wr).mono ?_
          rintro e w5 ⟨rfl, b5⟩
          have HB5 : Hid (Below w2.heap.size w2 w5) := below_trans HB.out b5
          obtain ⟨D, hD⟩ : ∃ D : ByteArray, ⟨(wrt y).toArray⟩ = D := ⟨_, rfl⟩
          have hDL : D.data.toList = wrt y := by rw [← hD]
          have hDS : D.size ≤ 4 := by rw [← lst_siz, hDL]; exact wrt_len y
          have hz : ¬ 9223372036854775807 < S.size + D.size := by have := HSS.out; have := HTS.out; omega
          have HVN : Hid (S ++ D = ⟨(34 :: (T.data.toList.take (i + 1)).flatMap wrt).toArray⟩) := by
            rw [HNX.out]
            apply ByteArray.ext
            rw [← Array.toList_inj]
            simp [hDL, HSL.out]
          rw [hD]
          clear b5 hD hDL hDS t1
          have t2 := HQT.out _ HB5.out
          go_wp2_with fail
          go_roundg (T.size - (i + 1))
          case measure => have := HII.out; have := HIL.out; omega
          case rel => exact ⟨i + 1, by simp, ⟨HIL.out, rfl⟩, by rw [HVN.out], HB5⟩
        · have e1 : decide ((i : Int) < (T.size : Int)) = false := by rw [decide_eq_false_iff_not]; omega
          have e2 : decide (i < T.size) = false := by rw [decide_eq_false_iff_not]; omega
          have HFE : Hid (S ++ (⟨#[34]⟩ : ByteArray) = ⟨R.toArray⟩) := by
            rw [HRE.out]
            apply ByteArray.ext
            rw [← Array.toList_inj]
            have h1 := HLE.out
            rw [List.take_of_length_le (by rw [lst_siz]; omega)] at h1
            simp [HSL.out, ← h1]
          have hz : ¬ 9223372036854775807 < S.size + 1 := by have := HSS.out; have := HTS.out; omega
          have HBF : Hid (Below w.heap.size w wr) := below_trans HBW.out HB.out
          clear hi hL hS hSS hLL q0 q1 q2 q3
          go_wp2_with fail
          go_ret
          exact ⟨by rw [← HFE.out]; rfl, HBF.out⟩
    · have m2 : (x.k == 2) = false := by simpa using c2
      by_cases c3 : x.k = 3
      · rw [if_neg (by rw [c3]; decide), if_pos c3] at hR
        rw [c3] at q0
        have HE : Hid ((⟨#[47]⟩ : ByteArray) ++ ⟨x.t.toArray⟩ ++ (⟨#[47]⟩ : ByteArray) = ⟨R.toArray⟩) := by
          rw [← hR]
          show slh ⟨x.t.toArray⟩ = _
          apply ByteArray.ext
          rw [← Array.toList_inj, slh_list]
        obtain ⟨T, hT⟩ : ∃ T : ByteArray, ⟨x.t.toArray⟩ = T := ⟨_, rfl⟩
        have hTS : T.size = x.t.length := by rw [← lst_siz, ← hT]
        rw [hT] at q1 HE
        have z1 : ¬ 9223372036854775807 < 1 + T.size := by have := HX.out; omega
        have z2 : ¬ 9223372036854775807 < 1 + T.size + 1 := by have := HX.out; omega
        clear c2 c3 hR hT hTS m2
        go_wp2_with fail
        go_ret
        exact ⟨by rw [← HE.out]; rfl, HBW.out⟩
      · have m3 : (x.k == 3) = false := by simpa using c3
        by_cases c4 : x.k = 4
        · rw [if_pos c4] at hR
          have HIT : Hid (ItoaOK w x.n) := HI.out HSN.out c4
          rw [c4] at q0
          subst hR
          clear c2 c3 c4 m2 m3
          go_wp2_with fail
          refine (HIT.out w2 HBW.out).mono ?_
          rintro e w3 ⟨rfl, b3⟩
          have HB3 : Hid (Below w.heap.size w w3) := below_trans HBW.out b3
          clear b3
          go_wp2_with fail
          go_ret
          exact ⟨rfl, HB3.out⟩
        · rw [if_neg c4, if_neg c3, if_neg c2] at hR
          have m4 : (x.k == 4) = false := by simpa using c4
          subst hR
          clear c2 c3 c4
          go_wp2_with fail
          go_ret
          exact ⟨rfl, HBW.out⟩
end Go.Proofs.YteaanieohcanlaaDoor
