import Derived.Test.YtkjcnnecdclgfaaDoorBase
namespace Go.Proofs.YtkjcnnecdclgfaaDoor
open Go.RowKit
theorem info30 : (Tryd.prog.info? 30).map (fun i => (i.zero, i.size, i.bytes)) = some (some (.int .u64 0), 1, 8) := by kernel_rfl
theorem agg_idx (x0 x1 x2 x3 : Value) (k : Nat) (v : Value) (hk : k < 4) (hv : [x0, x1, x2, x3][k]? = some v) (W : World) : (Instr.index 32 (.agg #[x0, x1, x2, x3]) (.int .i64 (k : Int))).run Tryd.prog W = .ok v W := by
  obtain ⟨i0, hi, hz0, hz1, hz2⟩ := info_parts info30
  have h : (0 : Int) ≤ (k : Int) ∧ (k : Int) < ((4 : Nat) : Int) := by omega
  simp [Instr.index, run_underlying Tryd.underlying32, asIntOf, h, sizeOf, typeInfo, hi, hz1, go_sem, part]
  rw [if_pos hk, hv]
  rfl
theorem agg4 (x0 x1 x2 x3 : Value) : (∀ W : World, (Instr.index 32 (.agg #[x0, x1, x2, x3]) (.int .i64 0)).run Tryd.prog W = .ok x0 W) ∧ (∀ W : World, (Instr.index 32 (.agg #[x0, x1, x2, x3]) (.int .i64 1)).run Tryd.prog W = .ok x1 W) ∧ (∀ W : World, (Instr.index 32 (.agg #[x0, x1, x2, x3]) (.int .i64 2)).run Tryd.prog W = .ok x2 W) ∧ (∀ W : World, (Instr.index 32 (.agg #[x0, x1, x2, x3]) (.int .i64 3)).run Tryd.prog W = .ok x3 W) :=
  ⟨fun W => agg_idx x0 x1 x2 x3 0 x0 (by omega) rfl W, fun W => agg_idx x0 x1 x2 x3 1 x1 (by omega) rfl W, fun W => agg_idx x0 x1 x2 x3 2 x2 (by omega) rfl W, fun W => agg_idx x0 x1 x2 x3 3 x3 (by omega) rfl W⟩
theorem i64_and63 (j : Nat) (h : j < 256) : bits .and .i64 (j : Int) 63 = ((j % 64 : Nat) : Int) := by
  have := bits_mask .i64 8 (by decide) (fun n h0 h1 => by rw [IntKind.wrap_i64]; omega) 6 (by decide) (j : Int) (by omega) (by omega)
  simpa using this
theorem w64n (k : Nat) (h : k < 9223372036854775807) : wrap64 (k : Int) = (k : Int) := by
  unfold wrap64
  omega
theorem BoxC.drew {W : World} {b : Nat} {m : Nat → Bool} (h : BoxC W b m) : BoxC W.drew b m := h.mono (Below.drew (Below.refl _ _))
theorem w64a (k j : Nat) (h : k + j < 9223372036854775807) : wrap64 ((k : Int) + (j : Int)) = ((k + j : Nat) : Int) := by
  unfold wrap64
  omega
theorem pc_le (m : Nat → Bool) (i : Nat) : pc 64 (wd m i) ≤ 64 := by
  rw [pc_wd]
  exact cnt_le _ _
theorem w64 (k : Nat) (h : k < 9223372036854775807) : wrap64 ((k : Int) + 1) = ((k + 1 : Nat) : Int) := by
  unfold wrap64
  omega
set_option maxRecDepth 100000 in
set_option maxHeartbeats 1000000 in
theorem rest_any (m : Nat → Bool) (w : World) : Calls Tryd.prog 61 #[CV m] w fun e w' => e = .returned (CV fun b => !m b) ∧ Below w.heap.size w w' := by
  go_enter Tryd.func61, Tryd.ntmps61
  go_wp2_with fail
  go_loopg [6] 4 (fun g v wr => ∃ k : Nat, v = .int .i64 (k : Int) ∧ k ≤ 4 ∧ g = 4 - k ∧ BoxC wr w.heap.size (fun b => if b < 64 * k then !m b else m b) ∧ BoxC wr (w.heap.size + 1) (fun _ => false) ∧ Below w.heap.size w wr)
  case atStart =>
    refine ⟨0, rfl, by omega, rfl, ?_, ?_, ?_⟩
    · have h := (BoxC.new w m 32).up (.cells #[.int .u64 0, .int .u64 0, .int .u64 0, .int .u64 0] 32)
      simpa using h
    · have h := BoxC.new (w.alloc (.cells #[.int .u64 (wd m 0 : Nat), .int .u64 (wd m 1 : Nat), .int .u64 (wd m 2 : Nat), .int .u64 (wd m 3 : Nat)] 32)) (fun _ => false) 32
      simp only [wd_none] at h
      rw [World.size_alloc] at h
      exact h
    · exact below_trans (bel_up _ _) (bel_up _ _)
  case round =>
    obtain ⟨k, rfl, hk, hg, hx, hr, hbel⟩ := hrel
    have HG : Hid _ := hg
    have HX : Hid _ := hx
    have HR : Hid _ := hr
    have HB : Hid _ := hbel
    clear hg hbel
    have put : ∀ K, K < 4 → BoxC wr w.heap.size (fun b => if b < 64 * K then !m b else m b) → BoxC (wr.setCell ⟨w.heap.size, K, none⟩ (.int .u64 (bits .xor .u64 18446744073709551615 (wd m K : Nat)))) w.heap.size (fun b => if b < 64 * (K + 1) then !m b else m b) := by
      intro K hK hX
      rw [u64_not]
      have e : wd (fun k => !m k) K = wd (fun b => if b < 64 * (K + 1) then !m b else m b) K := wd_congr _ _ _ (fun j hj => by rw [if_pos (by omega)])
      rw [e]
      refine hX.put K hK (fun i hi => wd_congr _ _ _ (fun j hj => ?_))
      have : 64 * i + j < 64 * (K + 1) ↔ 64 * i + j < 64 * K := by omega
      simp only [this]
    have PUT : Hid _ := put
    clear put
    rcases (by omega : k = 0 ∨ k = 1 ∨ k = 2 ∨ k = 3 ∨ k = 4) with rfl | rfl | rfl | rfl | rfl
    · obtain ⟨a0, a1, a2, a3, af⟩ := hx
      obtain ⟨q0, q1, q2, q3⟩ := agg4 (.int .u64 (wd m 0 : Nat)) (.int .u64 (wd m 1 : Nat)) (.int .u64 (wd m 2 : Nat)) (.int .u64 (wd m 3 : Nat))
      clear hr hk
      go_wp2_with fail
      go_roundg 3
      case measure => have := HG.out; omega
      case rel => exact ⟨1, rfl, by omega, rfl, PUT.out 0 (by omega) HX.out, HR.out.aside _ _ (by simp), HB.out.setCell (Nat.le_refl _) _⟩
    · obtain ⟨a0, a1, a2, a3, af⟩ := hx
      obtain ⟨q0, q1, q2, q3⟩ := agg4 (.int .u64 (wd m 0 : Nat)) (.int .u64 (wd m 1 : Nat)) (.int .u64 (wd m 2 : Nat)) (.int .u64 (wd m 3 : Nat))
      clear hr hk
      go_wp2_with fail
      go_roundg 2
      case measure => have := HG.out; omega
      case rel => exact ⟨2, rfl, by omega, rfl, PUT.out 1 (by omega) HX.out, HR.out.aside _ _ (by simp), HB.out.setCell (Nat.le_refl _) _⟩
    · obtain ⟨a0, a1, a2, a3, af⟩ := hx
      obtain ⟨q0, q1, q2, q3⟩ := agg4 (.int .u64 (wd m 0 : Nat)) (.int .u64 (wd m 1 : Nat)) (.int .u64 (wd m 2 : Nat)) (.int .u64 (wd m 3 : Nat))
      clear hr hk
      go_wp2_with fail
      go_roundg 1
      case measure => have := HG.out; omega
      case rel => exact ⟨3, rfl, by omega, rfl, PUT.out 2 (by omega) HX.out, HR.out.aside _ _ (by simp), HB.out.setCell (Nat.le_refl _) _⟩
    · obtain ⟨a0, a1, a2, a3, af⟩ := hx
      obtain ⟨q0, q1, q2, q3⟩ := agg4 (.int .u64 (wd m 0 : Nat)) (.int .u64 (wd m 1 : Nat)) (.int .u64 (wd m 2 : Nat)) (.int .u64 (wd m 3 : Nat))
      clear hr hk
      go_wp2_with fail
      go_roundg 0
      case measure => have := HG.out; omega
      case rel => exact ⟨4, rfl, by omega, rfl, PUT.out 3 (by omega) HX.out, HR.out.aside _ _ (by simp), HB.out.setCell (Nat.le_refl _) _⟩
    · obtain ⟨a0, a1, a2, a3, af⟩ := hx
      obtain ⟨b0, b1, b2, b3, bf⟩ := hr
      go_wp2_with fail
      (try simp only [Exit.inBlock, Exit.then])
      have e : ∀ i, i < 4 → wd (fun b => if b < 256 then !m b else m b) i = wd (fun b => !m b) i := fun i hi => wd_congr _ _ _ (fun j hj => by rw [if_pos (by omega)])
      simp only [e 0 (by omega), e 1 (by omega), e 2 (by omega), e 3 (by omega)]
      refine bodyPost_ret (v := CV fun b => !m b) ?_ rfl ⟨rfl, ?_⟩
      · rw [results_cell1 rfl]; go_simp
      · exact bel_set4 HB.out (by omega) _ _ _ _

set_option maxHeartbeats 1000000 in
theorem has_any (m : Nat → Bool) (b : Nat) (hb : b < 256) (w : World) : Calls Tryd.prog 31 #[CV m, .int .u8 (b : Int)] w fun e w' => e = .returned (.bool (m b)) ∧ Below w.heap.size w w' := by
  have hc := cv_get m (b / 64) (by omega)
  go_enter Tryd.func31, Tryd.ntmps31
  go_wp2_with fail
  go_ret
  exact ⟨ret_bool (u64_in m b), bel_up _ _⟩

set_option maxHeartbeats 1000000 in
theorem count_any (m : Nat → Bool) (w : World) : Calls Tryd.prog 56 #[CV m] w fun e w' => e = .returned (.int .i64 (cnt m 256 : Nat)) ∧ Below w.heap.size w w' := by
  go_enter Tryd.func56, Tryd.ntmps56
  go_wp2_with fail
  go_loopg [3, 7] 4 (fun g c v wr => ∃ k n : Nat, v = .int .i64 (k : Int) ∧ c = .int .i64 (n : Int) ∧ k ≤ 4 ∧ g = 4 - k ∧ n = cnt m (64 * k) ∧ Below w.heap.size w wr)
  case atStart => exact ⟨0, 0, rfl, rfl, by omega, rfl, rfl, bel_up _ _⟩
  case round =>
    obtain ⟨k, n, rfl, rfl, hk, hg, hn, hbel⟩ := hrel
    have HG : Hid _ := hg
    have HB : Hid _ := hbel
    have HN : Hid _ := hn
    clear hg hbel hn
    have add : ∀ K, K < 4 → cnt m (64 * K) + pc 64 (wd m K) = cnt m (64 * (K + 1)) := by
      intro K hK
      rw [pc_wd, show 64 * (K + 1) = 64 * K + 64 by omega, cnt_add]
    have ADD : Hid _ := add
    clear add
    have hnl : n ≤ 256 := by have := HN.out; have := cnt_le m (64 * k); omega
    have HNL : Hid _ := hnl
    clear hnl
    rcases (by omega : k = 0 ∨ k = 1 ∨ k = 2 ∨ k = 3 ∨ k = 4) with rfl | rfl | rfl | rfl | rfl
    · clear hk
      obtain ⟨q0, q1, q2, q3⟩ := agg4 (.int .u64 (wd m 0 : Nat)) (.int .u64 (wd m 1 : Nat)) (.int .u64 (wd m 2 : Nat)) (.int .u64 (wd m 3 : Nat))
      go_wp2_with fail
      refine (ones_any _ (wd_lt m 0) _).mono ?_
      rintro e w1 ⟨rfl, rfl⟩
      go_wp2_with fail
      go_roundg 3
      case measure => have := HG.out; omega
      case rel => exact ⟨1, n + pc 64 (wd m 0), rfl, by rw [w64a n (pc 64 (wd m 0)) (by have := HNL.out; have := pc_le m 0; omega)], by omega, rfl, by rw [HN.out]; exact ADD.out 0 (by omega), HB.out⟩
    · clear hk
      obtain ⟨q0, q1, q2, q3⟩ := agg4 (.int .u64 (wd m 0 : Nat)) (.int .u64 (wd m 1 : Nat)) (.int .u64 (wd m 2 : Nat)) (.int .u64 (wd m 3 : Nat))
      go_wp2_with fail
      refine (ones_any _ (wd_lt m 1) _).mono ?_
      rintro e w1 ⟨rfl, rfl⟩
      go_wp2_with fail
      go_roundg 2
      case measure => have := HG.out; omega
      case rel => exact ⟨2, n + pc 64 (wd m 1), rfl, by rw [w64a n (pc 64 (wd m 1)) (by have := HNL.out; have := pc_le m 1; omega)], by omega, rfl, by rw [HN.out]; exact ADD.out 1 (by omega), HB.out⟩
    · clear hk
      obtain ⟨q0, q1, q2, q3⟩ := agg4 (.int .u64 (wd m 0 : Nat)) (.int .u64 (wd m 1 : Nat)) (.int .u64 (wd m 2 : Nat)) (.int .u64 (wd m 3 : Nat))
      go_wp2_with fail
      refine (ones_any _ (wd_lt m 2) _).mono ?_
      rintro e w1 ⟨rfl, rfl⟩
      go_wp2_with fail
      go_roundg 1
      case measure => have := HG.out; omega
      case rel => exact ⟨3, n + pc 64 (wd m 2), rfl, by rw [w64a n (pc 64 (wd m 2)) (by have := HNL.out; have := pc_le m 2; omega)], by omega, rfl, by rw [HN.out]; exact ADD.out 2 (by omega), HB.out⟩
    · clear hk
      obtain ⟨q0, q1, q2, q3⟩ := agg4 (.int .u64 (wd m 0 : Nat)) (.int .u64 (wd m 1 : Nat)) (.int .u64 (wd m 2 : Nat)) (.int .u64 (wd m 3 : Nat))
      go_wp2_with fail
      refine (ones_any _ (wd_lt m 3) _).mono ?_
      rintro e w1 ⟨rfl, rfl⟩
      go_wp2_with fail
      go_roundg 0
      case measure => have := HG.out; omega
      case rel => exact ⟨4, n + pc 64 (wd m 3), rfl, by rw [w64a n (pc 64 (wd m 3)) (by have := HNL.out; have := pc_le m 3; omega)], by omega, rfl, by rw [HN.out]; exact ADD.out 3 (by omega), HB.out⟩
    · clear hk
      go_wp2_with fail
      (try simp only [Exit.inBlock, Exit.then])
      go_ret
      exact ⟨ret_int (by rw [HN.out]), HB.out⟩

set_option maxHeartbeats 1000000 in
theorem span_any (lo hi : Nat) (hl : lo < 256) (hh : hi < 256) (w : World) : Calls Tryd.prog 71 #[.int .u8 (lo : Int), .int .u8 (hi : Int)] w fun e w' => e = .returned (CV fun b => decide (lo ≤ b) && decide (b ≤ hi)) ∧ Below w.heap.size w w' := by
  have HH : Hid _ := hh
  go_enter Tryd.func71, Tryd.ntmps71
  go_wp2_with fail
  go_loopg [6] (hi + 1 - lo) (fun g v wr => ∃ j : Nat, v = .int .i64 (j : Int) ∧ lo ≤ j ∧ (j ≤ hi + 1 ∨ j = lo) ∧ g = hi + 1 - j ∧ BoxC wr (w.heap.size + 1) (fun b => decide (lo ≤ b) && decide (b < j)) ∧ BoxC wr w.heap.size (fun _ => false) ∧ Below w.heap.size w wr)
  case atStart =>
    refine ⟨lo, rfl, Nat.le_refl _, .inr rfl, rfl, ?_, ?_, ?_⟩
    · have h := BoxC.new (w.alloc (.cells #[.int .u64 0, .int .u64 0, .int .u64 0, .int .u64 0] 32)) (fun _ => false) 32
      simp only [wd_none] at h
      rw [World.size_alloc] at h
      have e : (fun b => decide (lo ≤ b) && decide (b < lo)) = fun _ => false := by
        funext b
        by_cases h : lo ≤ b
        · have : ¬ b < lo := by omega
          simp [this]
        · simp [h]
      rw [e]
      exact h
    · have h := (BoxC.new w (fun _ => false) 32).up (.cells #[.int .u64 0, .int .u64 0, .int .u64 0, .int .u64 0] 32)
      simp only [wd_none] at h
      exact h
    · exact below_trans (bel_up _ _) (bel_up _ _)
  case round =>
    obtain ⟨j, rfl, hlj, hjh, hg, hx, hr, hbel⟩ := hrel
    have HG : Hid _ := hg
    have HX : Hid _ := hx
    have HR : Hid _ := hr
    have HB : Hid _ := hbel
    have HL : Hid _ := hlj
    have HJ : Hid _ := hjh
    clear hg hbel hlj hjh hl hh
    by_cases hj : j ≤ hi
    · have hjI : (j : Int) ≤ (hi : Int) := by omega
      have hq : j / 64 < 4 := by have := HH.out; omega
      have hc := hx.get (j / 64) hq
      have hf := hx.fr (j / 64)
      have h63 := i64_and63 j (by have := HH.out; omega)
      have hwh : wrap64 (hi : Int) = (hi : Int) := w64n _ (by have := HH.out; omega)
      clear hx hr
      go_wp2_with fail
      go_region
      go_wp2_with fail
      go_roundg (hi + 1 - (j + 1))
      case measure =>
        have := HG.out
        omega
      case rel =>
        have hl := HL.out
        refine ⟨j + 1, by simp, by omega, by omega, rfl, ?_, ?_, ?_⟩
        · have e : (fun b => (decide (lo ≤ b) && decide (b < j + 1))) = fun k => ((decide (lo ≤ k) && decide (k < j))) || k == j := by
            funext b
            by_cases h : b = j
            · subst h
              simp [hl]
            · have : b < j + 1 ↔ b < j := by omega
              simp [this, h]
          rw [u64_orw, e]
          refine BoxC.drew (HX.out.put (j / 64) hq (fun i hi => ?_))
          exact (wd_or_other _ j i hi).symm
        · exact (HR.out.aside _ _ (by simp)).drew
        · exact Below.drew (HB.out.setCell (by dsimp only; omega) _)
    · have hjI : ¬ (j : Int) ≤ (hi : Int) := by omega
      obtain ⟨a0, a1, a2, a3, af⟩ := hx
      obtain ⟨b0, b1, b2, b3, bf⟩ := hr
      have hwh : wrap64 (hi : Int) = (hi : Int) := w64n _ (by have := HH.out; omega)
      go_wp2_with fail
      (try simp only [Exit.inBlock, Exit.then])
      have e : (fun b => decide (lo ≤ b) && decide (b ≤ hi)) = fun b => decide (lo ≤ b) && decide (b < j) := by
        funext b
        have h1 := HL.out
        have h2 := HJ.out
        rcases h2 with h2 | h2
        · have : b ≤ hi ↔ b < j := by omega
          simp [this]
        · by_cases h : lo ≤ b
          · have e1 : ¬ b ≤ hi := by omega
            have e2 : ¬ b < j := by omega
            simp [e1, e2]
          · simp [h]
      rw [e]
      refine bodyPost_ret (v := CV fun b => decide (lo ≤ b) && decide (b < j)) ?_ rfl ⟨rfl, ?_⟩
      · rw [results_cell1 rfl]; go_simp
      · exact bel_set4 HB.out (by omega) _ _ _ _

theorem dot_any (w : World) : Calls Tryd.prog 59 #[] w fun e w' => e = .returned (CV fun b => !(b == 10)) ∧ Below w.heap.size w w' := by
  go_enter Tryd.func59, Tryd.ntmps59
  go_wp2_with fail
  refine (span_any 10 10 (by omega) (by omega) _).mono ?_
  rintro e w1 ⟨rfl, hb1⟩
  go_wp2_with fail
  refine (rest_any _ _).mono ?_
  rintro e w2 ⟨rfl, hb2⟩
  have e : (fun b => !(decide (10 ≤ b) && decide (b ≤ 10))) = fun b => !(b == 10) := by
    funext b
    by_cases h : b = 10
    · subst h; rfl
    · have : ¬ (10 ≤ b ∧ b ≤ 10) := by omega
      have h1 : (b == 10) = false := by simpa using h
      rw [h1]
      have h2 : (decide (10 ≤ b) && decide (b ≤ 10)) = false := by simpa using this
      rw [h2]
  rw [e]
  have hR := ((BoxC.new w (fun _ => false) 32).mono (by simp only [wd_none]; exact hb1)).mono hb2
  have HB : Hid _ := below_trans (below_trans (bel_up _ _) hb1) hb2
  clear hb1 hb2 e
  obtain ⟨b0, b1, b2, b3, bf⟩ := hR
  go_wp2_with fail
  refine bodyPost_ret (v := CV fun b => !(b == 10)) ?_ rfl ⟨rfl, ?_⟩
  · rw [results_cell1 rfl]; go_simp
  · exact bel_set4 HB.out (Nat.le_refl _) _ _ _ _
end Go.Proofs.YtkjcnnecdclgfaaDoor
