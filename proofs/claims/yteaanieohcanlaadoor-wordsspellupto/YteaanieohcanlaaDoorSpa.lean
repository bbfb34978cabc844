import Derived.Test.YteaanieohcanlaaDoorSam
import Derived.Test.YteaanieohcanlaaDoorShd
namespace Go.Proofs.YteaanieohcanlaaDoor
open Go.RowKit Go.Maps

/-- A name, a regex, a sign that is sound. -/
def snm (t : List UInt8) : Bool := decide (0 < t.length) && (decide (t.length ≤ 24) && (!isD (nI (t.getD 0 0)) && t.all (fun y => isN (nI y))))
def srx (t : List UInt8) : Bool := decide (rg false (t ++ [47]) 1 = some (t.length + 2))
def ssg (t : List UInt8) : Bool := decide (t.length = 1) && isS (nI (t.getD 0 0))
theorem getD_get (t : ByteArray) (h : 0 < t.size) : t.data.toList.getD 0 0 = t.get! 0 := by
  rw [List.getD_eq_getElem?_getD, List.getElem?_eq_getElem (by rw [lst_siz]; exact h), Option.getD_some, get_list t 0 h]

set_option maxRecDepth 100000 in
set_option maxHeartbeats 4000000 in
theorem soundName_any (t : ByteArray) (ht : t.size ≤ 1000000000000) (w : World) : Calls Tryd.prog 38 #[.string t] w fun e w' => e = .returned (.bool (snm t.data.toList)) ∧ w' = w := by
  obtain ⟨R, hR⟩ : ∃ R, snm t.data.toList = R := ⟨_, rfl⟩
  rw [hR]
  unfold snm at hR
  rw [lst_siz] at hR
  have HZ : Hid (t.size ≤ 1000000000000) := ht
  by_cases h0 : t.size = 0
  · have e : t = ⟨#[]⟩ := by
      have h1 : t.data.toList = [] := List.length_eq_zero_iff.1 (by rw [lst_siz]; exact h0)
      exact ByteArray.ext (by rw [← Array.toList_inj, h1])
    subst e
    have : R = false := by rw [← hR]; rfl
    subst this
    clear h0 hR ht HZ
    go_enter Tryd.func38, Tryd.ntmps38
    go_wp2_with fail
    go_ret
    exact ⟨rfl, rfl⟩
  · have z1 : t.toList.isEmpty = false := by
      rw [toL_eq]
      cases h : t.data.toList with
      | nil => exact absurd (by rw [← lst_siz, h]; rfl) h0
      | cons a b => rfl
    rw [decide_eq_true (by omega : 0 < t.size), Bool.true_and, getD_get t (by omega)] at hR
    by_cases h24 : 24 < t.size
    · have d1 : decide ((24 : Int) < (t.size : Int)) = true := by rw [decide_eq_true_eq]; omega
      have d2 : decide (24 < t.size) = true := by rw [decide_eq_true_eq]; omega
      rw [decide_eq_false (by omega : ¬ t.size ≤ 24), Bool.false_and] at hR
      subst hR
      clear h0 h24 ht
      go_enter Tryd.func38, Tryd.ntmps38
      go_wp2_with fail
      go_ret
      exact ⟨rfl, rfl⟩
    · have d1 : decide ((24 : Int) < (t.size : Int)) = false := by rw [decide_eq_false_iff_not]; omega
      have d2 : decide (24 < t.size) = false := by rw [decide_eq_false_iff_not]; omega
      rw [decide_eq_true (by omega : t.size ≤ 24), Bool.true_and] at hR
      have hix := idx_fact t 0 (by omega)
      have hx8 := UInt8.toNat_lt (t.get! 0)
      have hcast : ((0 : Nat) : Int) = 0 := rfl
      rw [hcast] at hix
      have HR : Hid _ := hR
      have HS : Hid (0 < t.size) := by show 0 < t.size; omega
      obtain ⟨y, hy⟩ : ∃ y, t.get! 0 = y := ⟨_, rfl⟩
      rw [hy] at hix hx8 HR
      clear h0 h24 ht hR hy hcast
      go_enter Tryd.func38, Tryd.ntmps38
      go_wp2_with fail
      refine (digit_any (y.toNat : Int) w).mono ?_
      rintro e w9 ⟨rfl, hw9⟩
      rw [hw9]
      clear hw9 w9
      have hR := HR.out
      unfold nI at hR
      cases hd : isD (y.toNat : Int) with
      | true =>
        rw [hd] at hR
        have : R = false := by rw [← hR]; rfl
        subst this
        clear hR HR hd
        go_wp2_with fail
        go_ret
        exact ⟨rfl, rfl⟩
      | false =>
        rw [hd] at hR
        have HA : Hid (t.data.toList.all (fun y => isN (nI y)) = R) := by rw [← hR]; exact rfl
        clear hR HR hd hix hx8 z1
        go_wp2_with fail
        go_loopg [19] t.size (fun gm v19 wr => ∃ i : Nat, v19 = .int .i64 (i : Int) ∧ Hid (i ≤ t.size ∧ gm = t.size - i) ∧ Hid (∀ j, j < i → isN (nI (t.get! j)) = true) ∧ wr = w)
        case atStart => exact ⟨0, rfl, ⟨Nat.zero_le _, rfl⟩, (fun j hj => by omega), rfl⟩
        case round =>
          obtain ⟨i, rfl, HI, HJ, rfl⟩ := hrel
          by_cases hi : i < t.size
          · have e1 : decide ((i : Int) < (t.size : Int)) = true := by rw [decide_eq_true_eq]; omega
            have e2 : decide (i < t.size) = true := by rw [decide_eq_true_eq]; omega
            have hix := idx_fact t i hi
            have hx8 := UInt8.toNat_lt (t.get! i)
            obtain ⟨x, hx⟩ : ∃ x, t.get! i = x := ⟨_, rfl⟩
            have HX : Hid (t.get! i = x) := hx
            rw [hx] at hix hx8
            have HIL : Hid (i < t.size) := hi
            have hwi := w64n i (by have := HZ.out; omega)
            clear hi hx
            go_wp2_with fail
            refine (inname_any (x.toNat : Int) wr).mono ?_
            rintro e w9 ⟨rfl, hw9⟩
            rw [hw9]
            clear hw9 w9
            cases hn : isN (x.toNat : Int) with
            | true =>
              have HJ2 : Hid (∀ j, j < i + 1 → isN (nI (t.get! j)) = true) := by
                intro j hj
                rcases Nat.lt_or_ge j i with h | h
                · exact HJ.out j h
                · obtain rfl : j = i := by omega
                  rw [HX.out]; exact hn
              clear hn
              go_wp2_with fail
              go_roundg (t.size - (i + 1))
              case measure => have := HI.out; have := HIL.out; omega
              case rel => exact ⟨i + 1, by simp, ⟨HIL.out, rfl⟩, HJ2, rfl⟩
            | false =>
              have HF : Hid (R = false) := by
                rw [← HA.out]
                show _ = _
                rw [List.all_eq_false]
                exact ⟨x, (List.mem_iff_getElem).2 ⟨i, by rw [lst_siz]; exact HIL.out, by rw [← get_list t i HIL.out]; exact HX.out⟩, by unfold nI; rw [hn]; simp⟩
              clear hn
              go_wp2_with fail
              go_ret
              exact ⟨by rw [HF.out]; rfl, rfl⟩
          · have e1 : decide ((i : Int) < (t.size : Int)) = false := by rw [decide_eq_false_iff_not]; omega
            have e2 : decide (i < t.size) = false := by rw [decide_eq_false_iff_not]; omega
            have HF : Hid (R = true) := by
              rw [← HA.out]
              show _ = _
              rw [List.all_eq_true]
              intro x hx
              obtain ⟨j, hj, e⟩ := (List.mem_iff_getElem).1 hx
              rw [lst_siz] at hj
              rw [← e, ← get_list t j hj]
              exact HJ.out j (by omega)
            clear hi
            go_wp2_with fail
            go_ret
            exact ⟨by rw [HF.out]; rfl, rfl⟩
end Go.Proofs.YteaanieohcanlaaDoor
