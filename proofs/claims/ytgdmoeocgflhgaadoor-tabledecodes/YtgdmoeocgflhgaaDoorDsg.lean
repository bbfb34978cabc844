import Derived.Test.YtgdmoeocgflhgaaDoorDrn
namespace Go.Proofs.YtgdmoeocgflhgaaDoor
open Go.RowKit Go.Maps

set_option maxRecDepth 100000 in
set_option maxHeartbeats 16000000 in
theorem sign_bad {r p : Nat} {b : Nat} {s : ByteArray} (d : Nat) (w : World) (hr : RR w r s p (b : Int)) :
    Calls Tryd.prog 12 #[.pointer (some ⟨r, 0, none⟩), .int .u8 (d : Int)] w fun e w' => e = .returned (.tuple #[]) ∧ w' = w := by
  have k2 := rcell hr 2 _ rfl
  have e1 : decide ((0 : Int) ≤ (b : Int)) = true := by rw [decide_eq_true_eq]; omega
  go_enter Tryd.func12, Tryd.ntmps12
  go_wp2_with fail
  exact bodyPost_ret (v := .tuple #[]) (by simp [results, Tryd.results12, go_sem]) rfl ⟨rfl, rfl⟩
set_option maxRecDepth 100000 in
set_option maxHeartbeats 16000000 in
theorem sign_end {r p : Nat} {s : ByteArray} (d : Nat) (hp : s.size ≤ p) (w : World) (hr : RR w r s p (-1)) :
    Calls Tryd.prog 12 #[.pointer (some ⟨r, 0, none⟩), .int .u8 (d : Int)] w fun e w' => e = .returned (.tuple #[]) ∧ RR w' r s p (p : Int) ∧ Fr w w' r := by
  have HR : Hid (RR w r s p (-1)) := hr
  have k0 := rcell hr 0 _ rfl
  have k1 := rcell hr 1 _ rfl
  have k2 := rcell hr 2 _ rfl
  have f1 : decide ((s.size : Int) ≤ (p : Int)) = true := by rw [decide_eq_true_eq]; omega
  have f2 : decide (s.size ≤ p) = true := by rw [decide_eq_true_eq]; omega
  clear hr hp
  go_enter Tryd.func12, Tryd.ntmps12
  go_upto_region 1 with fail
  go_quiet (fail)
  have U5 : Hid (Below w.heap.size w (w.drewN nq)) := below_drewN (Below.refl _ _) _
  generalize w.drewN nq = W5 at U5
  have R5 : Hid (RR W5 r s p (-1)) := HR.out.up U5.out
  clear k0 k1 k2
  have k1 := rcell R5.out 1 _ rfl
  have k2 := rcell R5.out 2 _ rfl
  have z2 : W5.frozen? ⟨r, 2, none⟩ = false := Lib.frozen_of_heap R5.out 2
  go_wp2_with fail
  exact bodyPost_ret (v := .tuple #[]) (by simp [results, Tryd.results12, go_sem]) rfl ⟨rfl, by show (W5.setCell _ _).heap[r]? = _; rw [blk_set _ R5.out]; rfl, Fr.set (Fr.of_below U5.out)⟩
set_option maxRecDepth 100000 in
set_option maxHeartbeats 16000000 in
theorem sign_any {r p : Nat} {s : ByteArray} (d : Nat) (hs : s.size ≤ 140737488355328) (hp : p < s.size) (w : World) (hr : RR w r s p (-1)) :
    Calls Tryd.prog 12 #[.pointer (some ⟨r, 0, none⟩), .int .u8 (d : Int)] w fun e w' => e = .returned (.tuple #[]) ∧ ((s[p].toNat = d → RR w' r s (p + 1) (-1)) ∧ (s[p].toNat ≠ d → RR w' r s p (p : Int))) ∧ Fr w w' r := by
  have HR : Hid (RR w r s p (-1)) := hr
  have k0 := rcell hr 0 _ rfl
  have k1 := rcell hr 1 _ rfl
  have k2 := rcell hr 2 _ rfl
  have f1 : decide ((s.size : Int) ≤ (p : Int)) = false := by rw [decide_eq_false_iff_not]; omega
  have f2 : decide (s.size ≤ p) = false := by rw [decide_eq_false_iff_not]; omega
  have hix : p < s.size := hp
  obtain ⟨b, hb⟩ : ∃ b, s[p] = b := ⟨_, rfl⟩
  obtain ⟨c, hc⟩ : ∃ c, b.toNat = c := ⟨_, rfl⟩
  rw [hb, hc]
  have hbl : b.toNat < 256 := UInt8.toNat_lt b
  rw [hc] at hbl
  have e3 : (p : Int) < (s.size : Int) := by omega
  have hwa := w64n p (by omega)
  clear hr hp
  by_cases hcd : c = d
  · subst hcd
    go_enter Tryd.func12, Tryd.ntmps12
    go_upto_region 1 with fail
    go_quiet (fail)
    have U5 : Hid (Below w.heap.size w (w.drewN nq)) := below_drewN (Below.refl _ _) _
    generalize w.drewN nq = W5 at U5
    have R5 : Hid (RR W5 r s p (-1)) := HR.out.up U5.out
    clear k0 k1 k2
    have k1 := rcell R5.out 1 _ rfl
    have z1 : W5.frozen? ⟨r, 1, none⟩ = false := Lib.frozen_of_heap R5.out 1
    go_wp2_with fail
    exact bodyPost_end (v := .tuple #[]) (by simp [results, Tryd.results12, go_sem]) rfl ⟨rfl, ⟨fun _ => (by show (W5.setCell _ _).heap[r]? = _; rw [blk_set _ R5.out]; rfl), fun h => absurd rfl h⟩, Fr.set (Fr.of_below U5.out)⟩
  · have g1 : decide ((c : Int) = (d : Int)) = false := by rw [decide_eq_false_iff_not]; omega
    have g2 : decide (c = d) = false := by rw [decide_eq_false_iff_not]; omega
    have g3 : ¬ ((c : Int) = (d : Int)) := by omega
    go_enter Tryd.func12, Tryd.ntmps12
    go_upto_region 1 with fail
    go_quiet (fail)
    have U5 : Hid (Below w.heap.size w (w.drewN nq)) := below_drewN (Below.refl _ _) _
    generalize w.drewN nq = W5 at U5
    have R5 : Hid (RR W5 r s p (-1)) := HR.out.up U5.out
    clear k0 k1 k2
    have k1 := rcell R5.out 1 _ rfl
    have k2 := rcell R5.out 2 _ rfl
    have z2 : W5.frozen? ⟨r, 2, none⟩ = false := Lib.frozen_of_heap R5.out 2
    go_wp2_with fail
    exact bodyPost_ret (v := .tuple #[]) (by simp [results, Tryd.results12, go_sem]) rfl ⟨rfl, ⟨fun h => absurd h hcd, fun _ => (by show (W5.setCell _ _).heap[r]? = _; rw [blk_set _ R5.out]; rfl)⟩, Fr.set (Fr.of_below U5.out)⟩
end Go.Proofs.YtgdmoeocgflhgaaDoor
