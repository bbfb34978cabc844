import Derived.Test.YtcmhbcfgikmblabGreatDoorSam
import Derived.Test.YtcmhbcfgikmblabGreatDoorShd
namespace Go.Proofs.YtcmhbcfgikmblabGreatDoor
open Go.RowKit Go.Maps

/-- A name, a regex, a sign that is sound. -/
def snm (t : List UInt8) : Bool := decide (0 < t.length) && (decide (t.length ≤ 24) && (!isD (nI (t.getD 0 0)) && t.all (fun y => isN (nI y))))
def srx (t : List UInt8) : Bool := decide (rg false (t ++ [47]) 1 = some (t.length + 2))
def ssg (t : List UInt8) : Bool := decide (t.length = 1) && isS (nI (t.getD 0 0))
theorem getD_get (t : ByteArray) (h : 0 < t.size) : t.data.toList.getD 0 0 = t.get! 0 := by
  rw [List.getD_eq_getElem?_getD, List.getElem?_eq_getElem (by rw [lst_siz]; exact h), Option.getD_some, get_list t 0 h]

set_option maxRecDepth 100000 in
set_option maxHeartbeats 4000000 in
theorem soundName_any (t : ByteArray) (ht : t.size ≤ 1000000000000) (w : World) : Calls Tryz.prog 75 #[.string t] w fun e w' => e = .returned (.bool (snm t.data.toList)) ∧ w' = w := by
  obtain ⟨R, hR⟩ : ∃ R, snm t.data.toList = R := ⟨_, rfl⟩
  rw [hR]
  unfold snm at hR
  rw [lst_siz] at hR
  have HZ : Hid (t.size ≤ 1000000000000) := ht
  by_cases h0 : t.size = 0
  · have e : t = ⟨#[]⟩ := by
      have h1 : t.data.toList = [] := List.length_eq_zero_iff.1 (by rw [lst_siz]; exact h0)
      exact ByteArray.ext (by rw [← Array.toList_inj, h1])
    subst e
    have : R = false := by rw [← hR]; rfl
    subst this
    clear h0 hR ht HZ
    go_enter Tryz.func75, Tryz.ntmps75
    go_wp2_with fail
    go_ret
    exact ⟨rfl, rfl⟩
  · have z1 : t.toList.isEmpty = false := by
      rw [toL_eq]
      cases h : t.data.toList with
      | nil => exact absurd (by rw [← lst_siz, h]; rfl) h0
      | cons a b => rfl
    rw [decide_eq_true (by omega : 0 < t.size), Bool.true_and, getD_get t (by omega)] at hR
    by_cases h24 : 24 < t.size
    · have d1 : decide ((24 : Int) < (t.size : Int)) = true := by rw [decide_eq_true_eq]; omega
      have d2 : decide (24 < t.size) = true := by rw [decide_eq_true_eq]; omega
      rw [decide_eq_false (by omega : ¬ t.size ≤ 24), Bool.false_and] at hR
      subst hR
      clear h0 h24 ht
      go_enter Tryz.func75, Tryz.ntmps75
      go_wp2_with fail
      go_ret
      exact ⟨rfl, rfl⟩
    · have d1 : decide ((24 : Int) < (t.size : Int)) = false := by rw [decide_eq_false_iff_not]; omega
      have d2 : decide (24 < t.size) = false := by rw [decide_eq_false_iff_not]; omega
      rw [decide_eq_true (by omega : t.size ≤ 24), Bool.true_and] at hR
      have hix := idx_fact t 0 (by omega)
      have hx8 := UInt8.toNat_lt (t.get! 0)
      have hcast : ((0 : Nat) : Int) = 0 := rfl
      rw [hcast] at hix
      have HR : Hid _ := hR
      have HS : Hid (0 < t.size) := by show 0 < t.size; omega
      obtain ⟨y, hy⟩ : ∃ y, t.get! 0 = y := ⟨_, rfl⟩
      rw [hy] at hix hx8 HR
      clear h0 h24 ht hR hy hcast
      go_enter Tryz.func75, Tryz.ntmps75
      go_wp2_with fail
      refine (digit_any (y.toNat : Int) w).mono ?_
      rintro e w9 ⟨rfl, hw9⟩
      rw [hw9]
      clear hw9 w9
      have hR := HR.out
      unfold nI at hR
      cases hd : isD (y.toNat : Int) with
      | true =>
        rw [hd] at hR
        have : R = false := by rw [← hR]; rfl
        subst this
        clear hR HR hd
        go_wp2_with fail
        go_ret
        exact ⟨rfl, rfl⟩
      | false =>
        rw [hd] at hR
        have HA : Hid (t.data.toList.all (fun y => isN (nI y)) = R) := by rw [← hR]; exact rfl
        clear hR HR hd hix hx8 z1
        go_wp2_with fail
        go_loopg [19] t.size (fun gm v19 wr => ∃ i : Nat, v19 = .int .i64 (i : Int) ∧ Hid (i ≤ t.size ∧ gm = t.size - i) ∧ Hid (∀ j, j < i → isN (nI (t.get! j)) = true) ∧ wr = w)
        case atStart => exact ⟨0, rfl, ⟨Nat.zero_le _, rfl⟩, (fun j hj => by omega), rfl⟩
        case round =>
          obtain ⟨i, rfl, HI, HJ, rfl⟩ := hrel
          by_cases hi : i < t.size
          · have e1 : decide ((i : Int) < (t.size : Int)) = true := by rw [decide_eq_true_eq]; omega
            have e2 : decide (i < t.size) = true := by rw [decide_eq_true_eq]; omega
            have hix := idx_fact t i hi
            have hx8 := UInt8.toNat_lt (t.get! i)
            obtain ⟨x, hx⟩ : ∃ x, t.get! i = x := ⟨_, rfl⟩
            have HX : Hid (t.get! i = x) := hx
            rw [hx] at hix hx8
            have HIL : Hid (i < t.size) := hi
            have hwi := w64n i (by have := HZ.out; omega)
            clear hi hx
            go_wp2_with fail
            refine (inname_any (x.toNat : Int) wr).mono ?_
            rintro e w9 ⟨rfl, hw9⟩
            rw [hw9]
            clear hw9 w9
            cases hn : isN (x.toNat : Int) with
            | true =>
              have HJ2 : Hid (∀ j, j < i + 1 → isN (nI (t.get! j)) = true) := by
                intro j hj
                rcases Nat.lt_or_ge j i with h | h
                · exact HJ.out j h
                · obtain rfl : j = i := by omega
                  rw [HX.out]; exact hn
              clear hn
              go_wp2_with fail
              go_roundg (t.size - (i + 1))
              case measure => have := HI.out; have := HIL.out; omega
              case rel => exact ⟨i + 1, by simp, ⟨HIL.out, rfl⟩, HJ2, rfl⟩
            | false =>
              have HF : Hid (R = false) := by
                rw [← HA.out]
                show _ = _
                rw [List.all_eq_false]
                exact ⟨x, (List.mem_iff_getElem).2 ⟨i, by rw [lst_siz]; exact HIL.out, by rw [← get_list t i HIL.out]; exact HX.out⟩, by unfold nI; rw [hn]; simp⟩
              clear hn
              go_wp2_with fail
              go_ret
              exact ⟨by rw [HF.out]; rfl, rfl⟩
          · have e1 : decide ((i : Int) < (t.size : Int)) = false := by rw [decide_eq_false_iff_not]; omega
            have e2 : decide (i < t.size) = false := by rw [decide_eq_false_iff_not]; omega
            have HF : Hid (R = true) := by
              rw [← HA.out]
              show _ = _
              rw [List.all_eq_true]
              intro x hx
              obtain ⟨j, hj, e⟩ := (List.mem_iff_getElem).1 hx
              rw [lst_siz] at hj
              rw [← e, ← get_list t j hj]
              exact HJ.out j (by omega)
            clear hi
            go_wp2_with fail
            go_ret
            exact ⟨by rw [HF.out]; rfl, rfl⟩
end Go.Proofs.YtcmhbcfgikmblabGreatDoor
namespace Go.Proofs.YtcmhbcfgikmblabGreatDoor
open Go.RowKit Go.Maps

/-- A step of a regex from the text's beginning. -/
theorem inR_step (c : Cs) (k : Nat) : ((inR c 0 k).1 = true ∧ ∃ q, k ≤ q ∧ q < c.s.size ∧ (inR c 0 k).2.p = (q : Int) ∧ (inR c 0 k).2.s = c.s ∧ (inR c 0 k).2.f = c.f ∧ (inR c 0 k).2.co = c.co ∧ (inR c 0 k).2.ws = c.ws ∧ (inR c 0 k).2.n = c.n ∧ rg false (c.s.data.toList.drop (q + 1)) (q + 1) = rg false (c.s.data.toList.drop k) k) ∨
    ((inR c 0 k).1 = false ∧ ∃ q : Nat, (inR c 0 k).2.p = (q : Int) ∧ ((c.n ≤ 65535 → (inR c 0 k).2.co = c.co) ∧ rg false (c.s.data.toList.drop k) k = some (q + 1) ∨ (inR c 0 k).2.co = 82 ∧ rg false (c.s.data.toList.drop k) k = none)) := by
  unfold inR
  by_cases h47 : rd c.s k = 47
  · right
    obtain ⟨hk, hx⟩ := rd_in h47 (by decide)
    rw [if_pos h47]
    refine ⟨rfl, k, rfl, .inl ⟨fun hn => ?_, ?_⟩⟩
    · simp only [cw, ce]
      rw [if_neg (by omega), if_neg (by omega)]
    · rw [drop_at c.s k hk]
      simp only [rg, hx, if_true]
  · rw [if_neg h47]
    by_cases h92 : rd c.s k = 92
    · rw [if_pos h92]
      obtain ⟨hk, hx⟩ := rd_in h92 (by decide)
      have e1 : ¬ (92 : Int) = 47 := by decide
      have e2 : ¬ (92 : Int) = 10 := by decide
      have hr : rg false (c.s.data.toList.drop k) k = rg true (c.s.data.toList.drop (k + 1)) (k + 1) := by
        rw [drop_at c.s k hk]
        simp only [rg, hx, e1, e2, if_false, if_true]
      rw [hr]
      by_cases hst : rd c.s (k + 1) = -1 ∨ rd c.s (k + 1) = 10
      · right
        rw [if_pos hst]
        refine ⟨rfl, k + 1, rfl, .inr ⟨rfl, ?_⟩⟩
        rcases hst with h1 | h1
        · rw [drop_end c.s (k + 1) (rd_out h1)]; rfl
        · obtain ⟨hk1, hx1⟩ := rd_in h1 (by decide)
          rw [drop_at c.s (k + 1) hk1]
          simp only [rg, hx1, if_true]
      · left
        rw [if_neg hst]
        have hn1 : rd c.s (k + 1) ≠ -1 := fun e => hst (.inl e)
        have hk1 := rd_lt hn1
        have hn2 : ¬ nI (c.s.get! (k + 1)) = 10 := fun e => hst (.inr (by rw [rd_at hk1]; exact e))
        refine ⟨rfl, k + 1, by omega, hk1, rfl, rfl, rfl, rfl, rfl, rfl, ?_⟩
        rw [drop_at c.s (k + 1) hk1]
        simp only [rg, hn2, if_false]
    · rw [if_neg h92]
      by_cases hst : rd c.s k = -1 ∨ rd c.s k = 10
      · right
        rw [if_pos hst]
        refine ⟨rfl, k, rfl, .inr ⟨rfl, ?_⟩⟩
        rcases hst with h1 | h1
        · rw [drop_end c.s k (rd_out h1)]; rfl
        · obtain ⟨hk, hx⟩ := rd_in h1 (by decide)
          rw [drop_at c.s k hk]
          have e : ¬ (10 : Int) = 47 := by decide
          simp only [rg, hx, e, if_false, if_true]
      · left
        rw [if_neg hst]
        have hn1 : rd c.s k ≠ -1 := fun e => hst (.inl e)
        have hk := rd_lt hn1
        have hr := rd_at hk
        have hx47 : ¬ nI (c.s.get! k) = 47 := by rw [← hr]; exact h47
        have hx10 : ¬ nI (c.s.get! k) = 10 := by rw [← hr]; exact fun e => hst (.inr e)
        have hx92 : ¬ nI (c.s.get! k) = 92 := by rw [← hr]; exact h92
        refine ⟨rfl, k, Nat.le_refl _, hk, rfl, rfl, rfl, rfl, rfl, rfl, ?_⟩
        rw [drop_at c.s k hk]
        simp only [rg, hx47, hx10, hx92, if_false]
/-- A text between two slashes. -/
def slh (t : ByteArray) : ByteArray := (⟨#[47]⟩ : ByteArray) ++ t ++ (⟨#[47]⟩ : ByteArray)
theorem slh_list (t : ByteArray) : (slh t).data.toList = 47 :: (t.data.toList ++ [47]) := by
  unfold slh
  simp
theorem slh_size (t : ByteArray) : (slh t).size = t.size + 2 := by
  rw [← lst_siz, slh_list, List.length_cons, List.length_append, lst_siz]
  rfl

set_option maxRecDepth 100000 in
set_option maxHeartbeats 8000000 in
theorem soundRegex_any (t : ByteArray) (ht : t.size ≤ 999999999990) (w : World) : Calls Tryz.prog 76 #[.string t] w fun e w' => e = .returned (.bool (srx t.data.toList)) ∧ Below w.heap.size w w' := by
  obtain ⟨s, hs⟩ : ∃ s, (⟨#[47]⟩ : ByteArray) ++ t ++ (⟨#[47]⟩ : ByteArray) = s := ⟨_, rfl⟩
  have hss : s.size = t.size + 2 := by rw [← hs]; exact slh_size t
  have hsl : s.data.toList.drop 1 = t.data.toList ++ [47] := by rw [← hs]; exact congrArg (List.drop 1) (slh_list t)
  obtain ⟨c, hc⟩ : ∃ c : Cs, c = ⟨s, 0, 0, 0, [], [], 0, 0⟩ := ⟨_, rfl⟩
  obtain ⟨w1, hw1⟩ : ∃ w1, w1 = w.alloc (.cells #[.string s, .int .i64 0, .int .i64 0, .int .i64 0, .slice none 0 0, .slice none 0 0, .int .i64 0, .int .i64 0] 95) := ⟨_, rfl⟩
  have HC : Hid (Cu w.heap.size w1 w.heap.size (.slice none 0 0) (.slice none 0 0) c) := by
    rw [hw1, hc]
    exact ⟨heap_new w _, World.ownsRow_nil _ _ _ _, World.ownsRow_nil _ _ _ _, Nat.le_refl _⟩
  have HB1 : Hid (Below w.heap.size w w1) := by rw [hw1]; exact bel_up _ _
  have HW1 : Hid (w1 = w.alloc (.cells #[.string s, .int .i64 0, .int .i64 0, .int .i64 0, .slice none 0 0, .slice none 0 0, .int .i64 0, .int .i64 0] 95)) := hw1
  have HSS : Hid (s.size = t.size + 2) := hss
  have HTS : Hid (t.size ≤ 999999999990) := ht
  obtain ⟨R, hR⟩ : ∃ R, rg false (t.data.toList ++ [47]) 1 = R := ⟨_, rfl⟩
  have HV : Hid (srx t.data.toList = decide (R = some (t.size + 2))) := by unfold srx; rw [hR, lst_siz]; exact rfl
  have HR : Hid (rg false (s.data.toList.drop 1) 1 = R) := by rw [hsl]; exact hR
  have c1 : ¬ 9223372036854775807 < 1 + t.size := by omega
  have c2 : ¬ 9223372036854775807 < 1 + t.size + 1 := by omega
  go_enter Tryz.func76, Tryz.ntmps76
  go_upto_region 2 with fail
  rw [← HW1.out]
  have HC0 : Hid (c.p + 1 = ((1 : Nat) : Int) ∧ c.s = s ∧ c.f = 0 ∧ c.co = 0 ∧ c.ws = [] ∧ c.n = 0) := by rw [hc]; exact ⟨rfl, rfl, rfl, rfl, rfl, rfl⟩
  clear hs hss hsl hc hw1 hR ht HW1
  go_loopg [] (s.size + 2 - 1) (fun gm wr => ∃ (k : Nat) (vb vw : Value) (d : Cs), Hid (Cu w.heap.size wr w.heap.size vb vw d) ∧ Hid (Below w.heap.size w wr) ∧ Hid (d.p + 1 = (k : Int) ∧ d.s = s ∧ d.f = 0 ∧ d.co = 0 ∧ d.ws = [] ∧ d.n = 0) ∧ Hid (0 < k ∧ k ≤ s.size ∧ gm = s.size + 2 - k) ∧ Hid (rg false (s.data.toList.drop k) k = R))
  case atStart => exact ⟨1, _, _, c, HC, HB1, HC0, ⟨by omega, by have := HSS.out; omega, rfl⟩, HR⟩
  case round =>
    obtain ⟨k, vb, vw, d, HD, HB, HF, HK, HI⟩ := hrel
    go_wp2_with fail
    refine (inregex_any 0 k HF.out.2.2.1 HK.out.1 HF.out.1 (by have := HK.out; have := HSS.out; have := HTS.out; omega) (by rw [HF.out.2.1]; have := HSS.out; have := HTS.out; omega) (by rw [HF.out.2.2.2.2.1]; simp) wr HD.out).mono ?_
    rintro e w2 ⟨rfl, b2, vb2, vw2, h2⟩
    have H2 : Hid (Cu w.heap.size w2 w.heap.size vb2 vw2 (inR d 0 k).2) := h2
    have B2 : Hid (Below w.heap.size w w2) := HB.out.trans b2
    clear h2 b2
    rcases inR_step d k with ⟨e1, q, q1, q2, q3, q4, q5, q6, q7, q8, q9⟩ | ⟨e1, q, q3, q4⟩
    · rw [HF.out.2.1] at q2 q4 q9
      have HF2 : Hid ((inR d 0 k).2.p + 1 = ((q + 1 : Nat) : Int) ∧ (inR d 0 k).2.s = s ∧ (inR d 0 k).2.f = 0 ∧ (inR d 0 k).2.co = 0 ∧ (inR d 0 k).2.ws = [] ∧ (inR d 0 k).2.n = 0) := by
        obtain ⟨f1, f2, f3, f4, f5, f6⟩ := HF.out
        exact ⟨by rw [q3]; simp, q4, q5.trans f3, q6.trans f4, q7.trans f5, q8.trans f6⟩
      have HI2 : Hid (rg false (s.data.toList.drop (q + 1)) (q + 1) = R) := q9.trans HI.out
      have HQ : Hid (k ≤ q ∧ q < s.size) := ⟨q1, q2⟩
      rw [e1]
      clear e1 q1 q2 q3 q4 q5 q6 q7 q8 q9
      go_wp2_with fail
      go_roundg (s.size + 2 - (q + 1))
      case measure => have := HK.out; have := HQ.out; omega
      case rel => exact ⟨q + 1, _, _, _, H2, B2, HF2, ⟨by omega, by have := HQ.out; omega, rfl⟩, HI2⟩
    · rw [HF.out.2.1] at q4
      rw [e1]
      have k1 := H2.out.k1 q3
      obtain ⟨m, hm⟩ : ∃ m, t.size + 1 = m := ⟨_, rfl⟩
      have hwm : IntKind.i64.wrap ((t.size : Int) + 1) = (m : Int) := by have := HTS.out; rw [IntKind.wrap_i64]; omega
      rcases q4 with ⟨q5, q6⟩ | ⟨q5, q6⟩
      · have hco := (q5 (by rw [HF.out.2.2.2.2.2]; decide)).trans HF.out.2.2.2.1
        have k6 := H2.out.k6 hco
        have HE : Hid (R = some (q + 1)) := HI.out.symm.trans q6
        have HMM : Hid (t.size + 1 = m) := hm
        clear e1 q3 q5 q6 hco hm
        go_wp2_with fail
        go_ret
        refine ⟨ret_bool ?_, B2.out⟩
        rw [HV.out, HE.out]
        have hm := HMM.out
        by_cases h : q = m
        · subst h
          simp
          omega
        · have h1 : ((q : Int) == (m : Int)) = false := by rw [beq_eq_false_iff_ne]; omega
          rw [decide_eq_false (fun e => by injection e with e; omega)]
          exact h1
      · have k6 := H2.out.k6 q5
        have HE : Hid (R = none) := HI.out.symm.trans q6
        clear e1 q3 q5 q6 hm
        go_wp2_with fail
        go_ret
        refine ⟨ret_bool ?_, B2.out⟩
        rw [HV.out, HE.out]
        simp
end Go.Proofs.YtcmhbcfgikmblabGreatDoor
