import Derived.Test.YtgdmoeocgflhgaaDoorDsz
namespace Go.Proofs.YtgdmoeocgflhgaaDoor
open Go.RowKit Go.Maps

/-- The reference's reader in its block. -/
def RR (W : World) (r : Nat) (s : ByteArray) (p : Nat) (b : Int) : Prop := W.heap[r]? = some (.cells #[.string s, .int .i64 (p : Int), .int .i64 b] 46 (0, 0))
theorem RR.up {W W' : World} {r p : Nat} {b : Int} {s : ByteArray} (h : RR W r s p b) (hb : Below W.heap.size W W') : RR W' r s p b := (hb.block _ (lt_of_heap h)).trans h
theorem shl_run2 (c i : Nat) (hi : i < 9) (W : World) : Sem.run Tryd.prog (Op.shift BinOp.shl IntKind.u64 ((c : Int) % 128) IntKind.u64 (7 * (i : Int))) W = Result.ok (Value.int .u64 ((c % 128 * 2 ^ (7 * i) : Nat) : Int)) W := by
  have h63 := (shl_run c i hi W).2
  go_simp
  rw [show (7 * (i : Int)).toNat = 7 * i by omega]
  have h4 : ((c % 128 * 2 ^ (7 * i) : Nat) : Int) = (c : Int) % 128 * 2 ^ (7 * i) := by simp
  rw [← h4]
  exact u64_wrap' _ (by omega)
/-- What the reference's number answers. -/
def Nq (r : Nat) (s : ByteArray) (x : Except Nat (Nat × Nat)) (e : Ending) (w' : World) : Prop := match x with
  | .ok (v, q) => e = .returned (.int .i64 (v : Int)) ∧ RR w' r s q (-1)
  | .error b => e = .returned (.int .i64 0) ∧ ∃ q, RR w' r s q (b : Int)
set_option maxRecDepth 100000 in
set_option maxHeartbeats 16000000 in
theorem rnum_bad {r p : Nat} {b : Nat} {s : ByteArray} (lo hi : Int) (w : World) (hr : RR w r s p (b : Int)) :
    Calls Tryd.prog 13 #[.pointer (some ⟨r, 0, none⟩), .int .i64 lo, .int .i64 hi] w fun e w' => e = .returned (.int .i64 0) ∧ w' = w := by
  have k2 := rcell hr 2 _ rfl
  have e1 : decide ((0 : Int) ≤ (b : Int)) = true := by rw [decide_eq_true_eq]; omega
  go_enter Tryd.func13, Tryd.ntmps13
  go_wp2_with fail
  go_ret
  exact ⟨rfl, rfl⟩
set_option maxRecDepth 100000 in
set_option maxHeartbeats 16000000 in
theorem rnum_any {r p lo hi : Nat} {s : ByteArray} (hs : s.size ≤ 140737488355328) (hp : p ≤ s.size) (hlo : lo ≤ 128) (hhi : hi ≤ 4608) (w : World) (hr : RR w r s p (-1)) :
    Calls Tryd.prog 13 #[.pointer (some ⟨r, 0, none⟩), .int .i64 (lo : Int), .int .i64 (hi : Int)] w fun e w' => Nq r s (num s lo hi p) e w' ∧ Fr w w' r := by
  have HS : Hid (s.size ≤ 140737488355328 ∧ p ≤ s.size) := ⟨hs, hp⟩
  have HR : Hid (RR w r s p (-1)) := hr
  have HL : Hid (lo ≤ 128 ∧ hi ≤ 4608) := ⟨hlo, hhi⟩
  have cl : IntKind.u64.wrap (lo : Int) = (lo : Int) := u64_wrap' _ (by omega)
  have ch : IntKind.u64.wrap (hi : Int) = (hi : Int) := u64_wrap' _ (by omega)
  clear hs hp hlo hhi
  obtain ⟨N, hN⟩ : ∃ N, num s lo hi p = N := ⟨_, rfl⟩
  have HN : Hid (num s lo hi p = N) := hN
  rw [hN]
  clear hN
  have k1 := rcell hr 1 _ rfl
  have k2 := rcell hr 2 _ rfl
  clear hr
  go_enter Tryd.func13, Tryd.ntmps13
  go_upto_region 7 with fail
  clear k1 k2
  go_loopg [8, 9] 10 (fun gm v8 v9 wr => ∃ (k n : Nat), v8 = .int .u64 (n : Int) ∧ v9 = .int .i64 (k : Int) ∧ Hid (k ≤ 9 ∧ gm = 10 - k ∧ p + k ≤ s.size) ∧ Hid (RR wr r s (p + k) (-1)) ∧ Hid (Fr w wr r) ∧ Hid (n < 2 ^ (7 * k)) ∧ Hid (cr 0 0 (s.data.toList.drop p) = cr k n (s.data.toList.drop (p + k))))
  case atStart => exact ⟨0, 0, rfl, rfl, ⟨by omega, rfl, HS.out.2⟩, HR, World.grownBy.refl _ _, by show (0 : Nat) < 1; omega, rfl⟩
  case round =>
    obtain ⟨k, n, rfl, rfl, HK, HRD, HF, HNN, HC⟩ := hrel
    obtain ⟨a, ha⟩ : ∃ a, p + k = a := ⟨_, rfl⟩
    have HA : Hid (p + k = a) := ha
    rw [ha] at HRD HC HK
    clear ha
    have k0 := rcell HRD.out 0 _ rfl
    have k1 := rcell HRD.out 1 _ rfl
    have hbig : ¬ False := fun h => h
    by_cases hz : s.size ≤ a
    · have f1 : decide ((s.size : Int) ≤ (a : Int)) = true := by rw [decide_eq_true_eq]; omega
      have f2 : decide (s.size ≤ a) = true := by rw [decide_eq_true_eq]; omega
      have HBAD : Hid (num s lo hi p = .error p) := num_no (by rw [HC.out, List.drop_of_length_le (by rw [ba_len]; exact hz)]; exact cr_nil k n)
      clear hz
      go_upto_region 7 with fail
      go_quiet (fail)
      have U5 : Hid (Below wr.heap.size wr (wr.drewN nq)) := below_drewN (Below.refl _ _) _
      generalize wr.drewN nq = W5 at U5
      have R5 : Hid (RR W5 r s a (-1)) := HRD.out.up U5.out
      clear k0 k1
      have k0 := rcell R5.out 0 _ rfl
      have k1 := rcell R5.out 1 _ rfl
      have k2 := rcell R5.out 2 _ rfl
      have z1 : W5.frozen? ⟨r, 1, none⟩ = false := Lib.frozen_of_heap R5.out 1
      have z2 : W5.frozen? ⟨r, 2, none⟩ = false := Lib.frozen_of_heap R5.out 2
      go_wp2_with fail
      go_ret
      exact ⟨by rw [← HN.out, HBAD.out]; exact ⟨rfl, a, by show (W5.setCell _ _).heap[r]? = _; rw [blk_set _ R5.out]; rfl⟩, Fr.set (HF.out.trans (Fr.of_below U5.out))⟩
    have f1 : decide ((s.size : Int) ≤ (a : Int)) = false := by rw [decide_eq_false_iff_not]; omega
    have f2 : decide (s.size ≤ a) = false := by rw [decide_eq_false_iff_not]; omega
    by_cases h8 : 8 < k
    · have f3 : decide ((8 : Int) < (k : Int)) = true := by rw [decide_eq_true_eq]; omega
      have f4 : decide (8 < k) = true := by rw [decide_eq_true_eq]; omega
      have HBAD : Hid (num s lo hi p = .error p) := num_no (by rw [HC.out]; exact cr_nine (by omega))
      clear hz h8
      go_upto_region 7 with fail
      go_quiet (fail)
      have U5 : Hid (Below wr.heap.size wr (wr.drewN nq)) := below_drewN (Below.refl _ _) _
      generalize wr.drewN nq = W5 at U5
      have R5 : Hid (RR W5 r s a (-1)) := HRD.out.up U5.out
      clear k0 k1
      have k0 := rcell R5.out 0 _ rfl
      have k1 := rcell R5.out 1 _ rfl
      have k2 := rcell R5.out 2 _ rfl
      have z1 : W5.frozen? ⟨r, 1, none⟩ = false := Lib.frozen_of_heap R5.out 1
      have z2 : W5.frozen? ⟨r, 2, none⟩ = false := Lib.frozen_of_heap R5.out 2
      go_wp2_with fail
      go_ret
      exact ⟨by rw [← HN.out, HBAD.out]; exact ⟨rfl, a, by show (W5.setCell _ _).heap[r]? = _; rw [blk_set _ R5.out]; rfl⟩, Fr.set (HF.out.trans (Fr.of_below U5.out))⟩
    have f3 : decide ((8 : Int) < (k : Int)) = false := by rw [decide_eq_false_iff_not]; omega
    have f4 : decide (8 < k) = false := by rw [decide_eq_false_iff_not]; omega
    have hi9 : k < 9 := by omega
    have hix : a < s.size := by omega
    have HDR : Hid (s.data.toList.drop a = s[a] :: s.data.toList.drop (a + 1)) := by
      show _ = _
      rw [List.drop_eq_getElem_cons (by rw [ba_len]; exact hix)]
      rfl
    obtain ⟨b, hb⟩ : ∃ b, s[a] = b := ⟨_, rfl⟩
    rw [hb] at HDR
    have HCB : Hid (cr 0 0 (s.data.toList.drop p) = cr k n (b :: s.data.toList.drop (a + 1))) := by show _ = _; rw [HC.out, HDR.out]
    have hbl : b.toNat < 256 := UInt8.toNat_lt b
    obtain ⟨c, hc⟩ : ∃ c, b.toNat = c := ⟨_, rfl⟩
    have HBC : Hid (b.toNat = c) := hc
    rw [hc] at hbl
    have e3 : (a : Int) < (s.size : Int) := by omega
    have hwk := w64n k (by omega)
    have hwa := w64n a (by have := HS.out; omega)
    have hw7 : IntKind.i64.wrap (7 * (k : Int)) = 7 * (k : Int) := by rw [IntKind.wrap_i64]; omega
    have hw7u : IntKind.u64.wrap (7 * (k : Int)) = 7 * (k : Int) := u64_wrap _ (by omega) (by omega)
    have HKL : Hid (k < 9 ∧ a < s.size) := ⟨hi9, hix⟩
    have HSL : Hid (n + c % 128 * 2 ^ (7 * k) < 2 ^ (7 * (k + 1))) := sum_lt c k n HNN.out
    have hsr := fun W => shl_run2 c k hi9 W
    have hM63 := (shl_run c k hi9 w).2
    have HN63 : Hid (n < 2 ^ 63) := Nat.lt_of_lt_of_le HNN.out (pow7 k hi9)
    have HCR : Hid (c < 128 → c * 2 ^ (7 * k) = c % 128 * 2 ^ (7 * k)) := fun h => by rw [Nat.mod_eq_of_lt h]
    obtain ⟨M, hM⟩ : ∃ M, c % 128 * 2 ^ (7 * k) = M := ⟨_, rfl⟩
    have HMM : Hid (c % 128 * 2 ^ (7 * k) = M) := hM
    rw [hM] at HSL hM63 HCR
    have hsh : ∀ W : World, Sem.run Tryd.prog (Op.shift BinOp.shl IntKind.u64 ((c : Int) % 128) IntKind.u64 (7 * (k : Int))) W = Result.ok (Value.int .u64 (M : Int)) W := fun W => by have h9 := hsr W; rw [hM] at h9; exact h9
    have hsw : IntKind.u64.wrap ((c : Int) % 128 * 2 ^ (7 * k)) = (M : Int) := by
      have h4 : ((c % 128 * 2 ^ (7 * k) : Nat) : Int) = (c : Int) % 128 * 2 ^ (7 * k) := by simp
      rw [← h4, hM]
      exact u64_wrap' _ (by omega)
    obtain ⟨n2, hn2⟩ : ∃ n2, n + M = n2 := ⟨_, rfl⟩
    have HN2 : Hid (n + M = n2) := hn2
    have hsum : IntKind.u64.wrap ((n : Int) + (M : Int)) = (n2 : Int) := by
      have h1 := HN63.out
      rw [← hn2, ← Int.natCast_add]
      exact u64_wrap' _ (by omega)
    rw [hn2] at HSL
    clear hz h8 hi9 hsr hM63 hn2 hM
    go_upto_region 7 with fail
    go_quiet (fail)
    have U5 : Hid (Below wr.heap.size wr (wr.drewN nq)) := below_drewN (Below.refl _ _) _
    generalize wr.drewN nq = W5 at U5
    have R5 : Hid (RR W5 r s a (-1)) := HRD.out.up U5.out
    clear k0 k1
    have k0 := rcell R5.out 0 _ rfl
    have k1 := rcell R5.out 1 _ rfl
    have k2 := rcell R5.out 2 _ rfl
    have z1 : W5.frozen? ⟨r, 1, none⟩ = false := Lib.frozen_of_heap R5.out 1
    have z2 : W5.frozen? ⟨r, 2, none⟩ = false := Lib.frozen_of_heap R5.out 2
    go_upto_region 10 with fail
    go_quiet (fail)
    have U6 : Hid (Below W5.heap.size W5 (W5.drewN nq)) := below_drewN (Below.refl _ _) _
    generalize W5.drewN nq = W6 at U6
    have R6 : Hid (RR W6 r s a (-1)) := R5.out.up U6.out
    clear k0 k1 k2 z1 z2
    have k1 := rcell R6.out 1 _ rfl
    have z1 : W6.frozen? ⟨r, 1, none⟩ = false := Lib.frozen_of_heap R6.out 1
    go_upto_region 13 with fail
    obtain ⟨W7, hW7⟩ : ∃ W7, W7 = W6.setCell ⟨r, 1, none⟩ (.int .i64 ((a : Int) + 1)) := ⟨_, rfl⟩
    rw [← hW7]
    have R7 : Hid (RR W7 r s (a + 1) (-1)) := by rw [hW7]; show (W6.setCell _ _).heap[r]? = _; rw [blk_set _ R6.out]; rfl
    have F7 : Hid (Fr w W7 r) := by rw [hW7]; exact Fr.set ((HF.out.trans (Fr.of_below U5.out)).trans (Fr.of_below U6.out))
    clear k1 z1 hsh hsw hsum hW7
    have k2 := rcell R7.out 2 _ rfl
    have z2 : W7.frozen? ⟨r, 2, none⟩ = false := Lib.frozen_of_heap R7.out 2
    by_cases hm : c < 128
    · have g1 : decide ((c : Int) < 128) = true := by rw [decide_eq_true_eq]; omega
      have g1' : decide (c < 128) = true := by rw [decide_eq_true_eq]; omega
      by_cases h0 : c = 0 ∧ 0 < k
      · have HBAD : Hid (num s lo hi p = .error p) := num_no (by rw [HCB.out]; exact cr_zero (by rw [HBC.out]; exact h0.1) h0.2)
        have g0 : decide ((c : Int) = 0) = true := by rw [decide_eq_true_eq]; omega
        have g0' : decide (c = 0) = true := by rw [decide_eq_true_eq]; omega
        have g0k : (c : Int) = 0 := by omega
        have g2 : decide ((0 : Int) < (k : Int)) = true := by rw [decide_eq_true_eq]; omega
        have g2' : decide (0 < k) = true := by rw [decide_eq_true_eq]; omega
        clear h0 hm
        go_wp2_with fail
        go_ret
        exact ⟨by rw [← HN.out, HBAD.out]; exact ⟨rfl, a + 1, by show (W7.setCell _ _).heap[r]? = _; rw [blk_set _ R7.out]; rfl⟩, Fr.set F7.out⟩
      have HCL : Hid (cr 0 0 (s.data.toList.drop p) = some (n2, k + 1)) := by
        show _ = _
        rw [HCB.out, cr_last HKL.out.1 (by rw [HBC.out]; exact hm) (by rw [HBC.out]; exact h0), HBC.out, HCR.out hm, HN2.out]
      have HLT : Hid (n2 < 2 ^ 63) := (cr_bound _ _ _ _ _ HCL.out (by decide)).1
      have hwn : IntKind.i64.wrap (n2 : Int) = (n2 : Int) := by have := HLT.out; rw [IntKind.wrap_i64]; omega
      by_cases hin : lo ≤ n2 ∧ n2 ≤ hi
      · have HOK : Hid (num s lo hi p = .ok (n2, p + (k + 1))) := num_yes HCL.out hin.1 hin.2
        have g5 : decide ((hi : Int) < (n2 : Int)) = false := by rw [decide_eq_false_iff_not]; omega
        have g5' : decide (hi < n2) = false := by rw [decide_eq_false_iff_not]; omega
        have g6 : decide ((n2 : Int) < (lo : Int)) = false := by rw [decide_eq_false_iff_not]; omega
        have g6' : decide (n2 < lo) = false := by rw [decide_eq_false_iff_not]; omega
        have HQ : Hid (p + (k + 1) = a + 1) := by have := HA.out; show _ = _; omega
        rcases Nat.eq_zero_or_pos c with hc0 | hc0
        · have hk0 : k = 0 := by omega
          have g0 : decide ((c : Int) = 0) = true := by rw [decide_eq_true_eq]; omega
          have g0k : (c : Int) = 0 := by omega
          have g2 : decide ((0 : Int) < (k : Int)) = false := by rw [decide_eq_false_iff_not]; omega
          have g2' : decide (0 < k) = false := by rw [decide_eq_false_iff_not]; omega
          clear h0 hm hin hc0 hk0
          go_wp2_with fail
          go_ret
          exact ⟨by rw [← HN.out, HOK.out, HQ.out]; exact ⟨rfl, R7.out⟩, F7.out⟩
        · have g0 : decide ((c : Int) = 0) = false := by rw [decide_eq_false_iff_not]; omega
          have g0k : ¬ ((c : Int) = 0) := by omega
          clear h0 hm hin hc0
          go_wp2_with fail
          go_ret
          exact ⟨by rw [← HN.out, HOK.out, HQ.out]; exact ⟨rfl, R7.out⟩, F7.out⟩
      have HBAD : Hid (num s lo hi p = .error p) := num_out HCL.out hin
      rcases Nat.eq_zero_or_pos c with hc0 | hc0
      · have hk0 : k = 0 := by omega
        have g0 : decide ((c : Int) = 0) = true := by rw [decide_eq_true_eq]; omega
        have g0k : (c : Int) = 0 := by omega
        have g2 : decide ((0 : Int) < (k : Int)) = false := by rw [decide_eq_false_iff_not]; omega
        have g2' : decide (0 < k) = false := by rw [decide_eq_false_iff_not]; omega
        clear h0 hm hc0 hk0
        by_cases hu : hi < n2
        · have g5 : decide ((hi : Int) < (n2 : Int)) = true := by rw [decide_eq_true_eq]; omega
          have g5' : decide (hi < n2) = true := by rw [decide_eq_true_eq]; omega
          clear hu hin
          go_wp2_with fail
          go_ret
          exact ⟨by rw [← HN.out, HBAD.out]; exact ⟨rfl, a + 1, by show (W7.setCell _ _).heap[r]? = _; rw [blk_set _ R7.out]; rfl⟩, Fr.set F7.out⟩
        · have g5 : decide ((hi : Int) < (n2 : Int)) = false := by rw [decide_eq_false_iff_not]; omega
          have g5' : decide (hi < n2) = false := by rw [decide_eq_false_iff_not]; omega
          have g6 : decide ((n2 : Int) < (lo : Int)) = true := by rw [decide_eq_true_eq]; omega
          have g6' : decide (n2 < lo) = true := by rw [decide_eq_true_eq]; omega
          clear hu hin
          go_wp2_with fail
          go_ret
          exact ⟨by rw [← HN.out, HBAD.out]; exact ⟨rfl, a + 1, by show (W7.setCell _ _).heap[r]? = _; rw [blk_set _ R7.out]; rfl⟩, Fr.set F7.out⟩
      · have g0 : decide ((c : Int) = 0) = false := by rw [decide_eq_false_iff_not]; omega
        have g0k : ¬ ((c : Int) = 0) := by omega
        clear h0 hm hc0
        by_cases hu : hi < n2
        · have g5 : decide ((hi : Int) < (n2 : Int)) = true := by rw [decide_eq_true_eq]; omega
          have g5' : decide (hi < n2) = true := by rw [decide_eq_true_eq]; omega
          clear hu hin
          go_wp2_with fail
          go_ret
          exact ⟨by rw [← HN.out, HBAD.out]; exact ⟨rfl, a + 1, by show (W7.setCell _ _).heap[r]? = _; rw [blk_set _ R7.out]; rfl⟩, Fr.set F7.out⟩
        · have g5 : decide ((hi : Int) < (n2 : Int)) = false := by rw [decide_eq_false_iff_not]; omega
          have g5' : decide (hi < n2) = false := by rw [decide_eq_false_iff_not]; omega
          have g6 : decide ((n2 : Int) < (lo : Int)) = true := by rw [decide_eq_true_eq]; omega
          have g6' : decide (n2 < lo) = true := by rw [decide_eq_true_eq]; omega
          clear hu hin
          go_wp2_with fail
          go_ret
          exact ⟨by rw [← HN.out, HBAD.out]; exact ⟨rfl, a + 1, by show (W7.setCell _ _).heap[r]? = _; rw [blk_set _ R7.out]; rfl⟩, Fr.set F7.out⟩
    have g1 : decide ((c : Int) < 128) = false := by rw [decide_eq_false_iff_not]; omega
    have g1' : decide (c < 128) = false := by rw [decide_eq_false_iff_not]; omega
    have HM8 : Hid (128 ≤ c) := by show _ ≤ _; omega
    clear hm
    go_wp2_with fail
    have h1 := HKL.out
    have h2 := HA.out
    have h3 := HK.out
    go_roundg (10 - (k + 1))
    case measure => omega
    case rel =>
      refine ⟨k + 1, n2, rfl, by rw [Int.natCast_add]; rfl, ⟨by omega, rfl, by omega⟩, ?_, F7, HSL, ?_⟩
      · rw [← Nat.add_assoc, h2]; exact R7
      · rw [← Nat.add_assoc, h2]
        show _ = _
        rw [HCB.out, cr_more h1.1 (by rw [HBC.out]; exact HM8.out), HBC.out, HMM.out, HN2.out]
end Go.Proofs.YtgdmoeocgflhgaaDoor
