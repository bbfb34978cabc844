import Derived.Test.YtkjcnnecdclgfabDoorGpi
import Derived.Test.YtkjcnnecdclgfabDoorGma
namespace Go.Proofs.YtkjcnnecdclgfabDoor
open Go.RowKit Go.Shelf

theorem ext_take (s : ByteArray) (k : Nat) : (s.extract 0 k).data.toList = s.data.toList.take k := by
  rw [ByteArray.data_extract, Array.toList_extract]
  simp
theorem ext_drop (s : ByteArray) (k : Nat) : (s.extract k s.size).data.toList = s.data.toList.drop k := by
  rw [ByteArray.data_extract, Array.toList_extract]
  simp only [List.extract_eq_take_drop]
  apply List.take_of_length_le
  simp
/-- What Matches does with a list that stands in memory. -/
def MC (lp : Option Addr) (n cap : Nat) (M : List UInt8 → Bool) (w : World) : Prop := ∀ (x : ByteArray) (W : World), Below w.heap.size w W → x.size < 1000000000000000 → Calls Tryd.prog 10 #[.slice lp n cap, .string x] W fun e w' => e = .returned (.bool (M x.data.toList)) ∧ Below W.heap.size W w'
theorem MC.up {lp : Option Addr} {n cap : Nat} {M : List UInt8 → Bool} {w w' : World} (h : MC lp n cap M w) (hb : Below w.heap.size w w') : MC lp n cap M w' := fun x W hW hx => h x W (below_trans hb hW) hx
theorem mc_of (re : List Nd) (lp : Option Addr) (g o cap n : Nat) (w : World) (h : Lst w lp g o cap re) (hn : re.length = n) (hl : n < 1000000000000) (hD : Dbt w) : MC lp n cap (fun x => (RD re x).1) w := by
  intro x W hb hx
  have c := matches_any re x lp g o cap W (h.up hb) (by omega) (hD.up hb) hx
  rw [hn] at c
  exact c

set_option maxRecDepth 100000 in
set_option maxHeartbeats 4000000 in
theorem lboth_any (lp lq : Option Addr) (na ca nb cb : Nat) (A B : List UInt8 → Bool) (s : ByteArray) (k0 : Nat) (w : World) (hA : MC lp na ca A w) (hB : MC lq nb cb B w) (hs : s.size < 1000000000000000) (hk0 : k0 ≤ 1) :
    Calls Tryd.prog 24 #[.slice lp na ca, .slice lq nb cb, .string s, .int .i64 (k0 : Int)] w fun e w' => e = .returned (.bool (bo A B s.data.toList k0)) ∧ Below w.heap.size w w' := by
  have HA : Hid (MC lp na ca A w) := hA
  have HB : Hid (MC lq nb cb B w) := hB
  have HS : Hid (s.size < 1000000000000000) := hs
  have HK0 : Hid (k0 ≤ 1) := hk0
  clear hA hB hs hk0
  go_enter Tryd.func24, Tryd.ntmps24
  go_wp2_with fail
  go_loopg [9] (s.size + 2 - k0) (fun gh v wr => ∃ k : Nat, v = .int .i64 (k : Int) ∧ k0 ≤ k ∧ (k ≤ s.size + 1) ∧ gh = s.size + 2 - k ∧ (∀ j, k0 ≤ j → j < k → (A (s.data.toList.take j) && B (s.data.toList.drop j)) = false) ∧ Below w.heap.size w wr)
  case atStart => exact ⟨k0, rfl, Nat.le_refl _, by have := HK0.out; omega, rfl, fun j h1 h2 => by omega, Below.refl _ _⟩
  case round =>
    obtain ⟨k, rfl, hk1, hk2, hg, hno, hbel⟩ := hrel
    have HK1 : Hid (k0 ≤ k) := hk1
    have HG : Hid (gk = s.size + 2 - k) := hg
    have HNO : Hid (∀ j, k0 ≤ j → j < k → (A (s.data.toList.take j) && B (s.data.toList.drop j)) = false) := hno
    have HBL : Hid (Below w.heap.size w wr) := hbel
    have HK2 : Hid (k ≤ s.size + 1) := hk2
    clear hk1 hg hno hbel hk2
    by_cases hk : k ≤ s.size
    · have hkI : decide ((k : Int) ≤ (s.size : Int)) = true := by rw [decide_eq_true_eq]; omega
      have hkI2 : (k : Int) ≤ (s.size : Int) := by omega
      have HK : Hid (k ≤ s.size) := hk
      have CA : Hid (∀ W : World, Below w.heap.size w W → Calls Tryd.prog 10 #[.slice lp na ca, .string (s.extract 0 k)] W fun e w' => e = .returned (.bool (A (s.data.toList.take k))) ∧ Below W.heap.size W w') := by
        intro W hW
        have c := HA.out (s.extract 0 k) W hW (by have := HS.out; simp; omega)
        rw [ext_take s k] at c
        exact c
      have CB : Hid (∀ W : World, Below w.heap.size w W → Calls Tryd.prog 10 #[.slice lq nb cb, .string (s.extract k s.size)] W fun e w' => e = .returned (.bool (B (s.data.toList.drop k))) ∧ Below W.heap.size W w') := by
        intro W hW
        have c := HB.out (s.extract k s.size) W hW (by have := HS.out; simp; omega)
        rw [ext_drop s k] at c
        exact c
      clear hk
      go_wp2_with fail
      refine Calls.mono (CA.out wr HBL.out) ?_
      rintro e w1 ⟨rfl, hb1⟩
      obtain ⟨x, hx⟩ : ∃ x, A (s.data.toList.take k) = x := ⟨_, rfl⟩
      rw [hx]
      have HX : Hid (A (s.data.toList.take k) = x) := hx
      have HB1 : Hid (Below w.heap.size w w1) := below_trans HBL.out hb1
      have HW1 : Hid (wrap64 ((k : Int) + 1) = ((k + 1 : Nat) : Int)) := w64 k (by have := HS.out; have := HK.out; omega)
      clear hx hb1
      cases x
      · go_wp2_with fail
        go_roundg (s.size + 2 - (k + 1))
        case measure => have := HG.out; have := HK.out; omega
        case rel =>
          refine ⟨k + 1, by rw [HW1.out], by have := HK1.out; omega, by have := HK.out; omega, rfl, fun j h1 h2 => ?_, HB1.out⟩
          rcases Nat.lt_or_ge j k with h | h
          · exact HNO.out j h1 h
          · obtain rfl : j = k := by omega
            rw [HX.out]; rfl
      · go_wp2_with fail
        refine Calls.mono (CB.out w1 HB1.out) ?_
        rintro e w2 ⟨rfl, hb2⟩
        obtain ⟨y, hy⟩ : ∃ y, B (s.data.toList.drop k) = y := ⟨_, rfl⟩
        rw [hy]
        have HY : Hid (B (s.data.toList.drop k) = y) := hy
        have HB2 : Hid (Below w.heap.size w w2) := below_trans HB1.out hb2
        clear hy hb2
        cases y
        · go_wp2_with fail
          go_roundg (s.size + 2 - (k + 1))
          case measure => have := HG.out; have := HK.out; omega
          case rel =>
            refine ⟨k + 1, by rw [HW1.out], by have := HK1.out; omega, by have := HK.out; omega, rfl, fun j h1 h2 => ?_, HB2.out⟩
            rcases Nat.lt_or_ge j k with h | h
            · exact HNO.out j h1 h
            · obtain rfl : j = k := by omega
              rw [HY.out, Bool.and_false]
        · go_wp2_with fail
          (try simp only [Exit.inBlock, Exit.then])
          go_ret
          refine ⟨ret_bool ?_, HB2.out⟩
          symm
          exact (bo_iff A B s.data.toList k0).2 ⟨k, by have := HK.out; simpa using this, HK1.out, HX.out, HY.out⟩
    · have hkI : decide ((k : Int) ≤ (s.size : Int)) = false := by rw [decide_eq_false_iff_not]; omega
      have HK : Hid (¬ k ≤ s.size) := hk
      clear hk
      go_wp2_with fail
      (try simp only [Exit.inBlock, Exit.then])
      go_ret
      refine ⟨ret_bool ?_, HBL.out⟩
      symm
      cases hbo : bo A B s.data.toList k0
      · rfl
      · obtain ⟨j, h1, h2, h3, h4⟩ := (bo_iff A B s.data.toList k0).1 hbo
        have h5 := HNO.out j h2 (by have := HK.out; simp at h1; omega)
        rw [h3, h4] at h5
        cases h5

theorem ba_nil {s : ByteArray} (h : s.data.toList = []) : s = ⟨#[]⟩ := by
  have h1 : s.data = #[] := by rw [← Array.toArray_toList (xs := s.data), h]
  cases s
  simp only at h1
  rw [h1]
set_option maxRecDepth 100000 in
set_option maxHeartbeats 4000000 in
theorem means_any (op : Int) (ho : 3 ≤ op ∧ op ≤ 7) (lt lp lq : Option Addr) (nt ct na ca nb cb : Nat) (T A B : List UInt8 → Bool) (s : ByteArray) (w : World) (hT : MC lt nt ct T w) (hA : MC lp na ca A w) (hB : MC lq nb cb B w) (hs : s.size < 1000000000000000) :
    Calls Tryd.prog 16 #[.int .i64 op, .slice lt nt ct, .slice lp na ca, .slice lq nb cb, .string s] w fun e w' => e = .returned (.bool (mns op T A B s.data.toList)) ∧ Below w.heap.size w w' := by
  have CA := hA s
  have CB := hB s
  have C0 := lboth_any lp lq na ca nb cb A B s 0 w hA hB hs (by omega)
  have C1 := fun W hW => lboth_any lp lt na ca nt ct A T s 1 W (hA.up hW) (hT.up hW) hs (by omega)
  have HCA : Hid _ := CA
  have HCB : Hid _ := CB
  have HC0 : Hid _ := C0
  have HC1 : Hid _ := C1
  have HS : Hid (s.size < 1000000000000000) := hs
  clear CA CB C0 C1 hT hA hB hs
  rcases (by omega : op = 3 ∨ op = 4 ∨ op = 5 ∨ op = 6 ∨ op = 7) with rfl | rfl | rfl | rfl | rfl
  · have e : mns 3 T A B s.data.toList = bo A B s.data.toList 0 := by unfold mns; simp
    rw [e]
    clear e
    go_enter Tryd.func16, Tryd.ntmps16
    go_wp2_with fail
    refine Calls.mono HC0.out ?_
    rintro e w1 ⟨rfl, hb⟩
    go_wp2_with fail
    go_ret
    exact ⟨rfl, hb⟩
  · have e : mns 4 T A B s.data.toList = (A s.data.toList || B s.data.toList) := by unfold mns; simp
    rw [e]
    obtain ⟨x, hx⟩ : ∃ x, A s.data.toList = x := ⟨_, rfl⟩
    have HX : Hid (A s.data.toList = x) := hx
    rw [hx]
    clear hx e
    go_enter Tryd.func16, Tryd.ntmps16
    go_wp2_with fail
    refine Calls.mono (HCA.out w (Below.refl _ _) HS.out) ?_
    rintro e w1 ⟨rfl, hb⟩
    rw [HX.out]
    have HB1 : Hid (Below w.heap.size w w1) := hb
    clear hb
    cases x
    · go_wp2_with fail
      refine Calls.mono (HCB.out w1 HB1.out HS.out) ?_
      rintro e w2 ⟨rfl, hb⟩
      have HB2 : Hid (Below w.heap.size w w2) := below_trans HB1.out hb
      clear hb
      go_wp2_with fail
      go_ret
      exact ⟨by simp, HB2.out⟩
    · go_wp2_with fail
      go_ret
      exact ⟨by simp, HB1.out⟩
  · by_cases h0 : s = ⟨#[]⟩
    · have e : mns 5 T A B s.data.toList = true := by rw [h0]; unfold mns; simp
      rw [e]
      subst h0
      clear e HCA HCB HC0 HC1
      go_enter Tryd.func16, Tryd.ntmps16
      go_wp2_with fail
      go_ret
      exact ⟨rfl, Below.refl _ _⟩
    · have h1 : ¬ s.data.toList = [] := fun h2 => h0 (ba_nil h2)
      have h2 : ¬ s.toList = [] := by rw [ByteArray.toList_eq]; exact h1
      have h3 : s.toList.isEmpty = false := by rw [ByteArray.toList_eq]; cases h4 : s.data.toList with | nil => exact absurd h4 h1 | cons c r => rfl
      have e : mns 5 T A B s.data.toList = bo A T s.data.toList 1 := by unfold mns; simp [h1]
      rw [e]
      clear e h0 h1
      go_enter Tryd.func16, Tryd.ntmps16
      go_wp2_with fail
      refine Calls.mono (HC1.out w (Below.refl _ _)) ?_
      rintro e w1 ⟨rfl, hb⟩
      have HB1 : Hid (Below w.heap.size w w1) := hb
      clear hb
      go_wp2_with fail
      go_ret
      exact ⟨rfl, HB1.out⟩
  · have e : mns 6 T A B s.data.toList = (A s.data.toList || bo A T s.data.toList 1) := by unfold mns; simp
    rw [e]
    obtain ⟨x, hx⟩ : ∃ x, A s.data.toList = x := ⟨_, rfl⟩
    have HX : Hid (A s.data.toList = x) := hx
    rw [hx]
    clear hx e
    go_enter Tryd.func16, Tryd.ntmps16
    go_wp2_with fail
    refine Calls.mono (HCA.out w (Below.refl _ _) HS.out) ?_
    rintro e w1 ⟨rfl, hb⟩
    rw [HX.out]
    have HB1 : Hid (Below w.heap.size w w1) := hb
    clear hb
    cases x
    · go_wp2_with fail
      refine Calls.mono (HC1.out w1 HB1.out) ?_
      rintro e w2 ⟨rfl, hb⟩
      have HB2 : Hid (Below w.heap.size w w2) := below_trans HB1.out hb
      clear hb
      go_wp2_with fail
      go_ret
      exact ⟨by simp, HB2.out⟩
    · go_wp2_with fail
      go_ret
      exact ⟨by simp, HB1.out⟩
  · by_cases h0 : s = ⟨#[]⟩
    · have e : mns 7 T A B s.data.toList = true := by rw [h0]; unfold mns; simp
      rw [e]
      subst h0
      clear e HCA HCB HC0 HC1
      go_enter Tryd.func16, Tryd.ntmps16
      go_wp2_with fail
      go_ret
      exact ⟨rfl, Below.refl _ _⟩
    · have h1 : ¬ s.data.toList = [] := fun h2 => h0 (ba_nil h2)
      have h2 : ¬ s.toList = [] := by rw [ByteArray.toList_eq]; exact h1
      have h3 : s.toList.isEmpty = false := by rw [ByteArray.toList_eq]; cases h4 : s.data.toList with | nil => exact absurd h4 h1 | cons c r => rfl
      have e : mns 7 T A B s.data.toList = A s.data.toList := by unfold mns; simp [h1]
      rw [e]
      clear e h0 h1
      go_enter Tryd.func16, Tryd.ntmps16
      go_wp2_with fail
      refine Calls.mono (HCA.out w (Below.refl _ _) HS.out) ?_
      rintro e w1 ⟨rfl, hb⟩
      have HB1 : Hid (Below w.heap.size w w1) := hb
      clear hb
      go_wp2_with fail
      go_ret
      exact ⟨rfl, HB1.out⟩
end Go.Proofs.YtkjcnnecdclgfabDoor
