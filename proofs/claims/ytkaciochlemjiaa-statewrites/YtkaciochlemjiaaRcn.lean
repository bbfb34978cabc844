import Derived.Test.YtkaciochlemjiaaRcu
namespace Go.Proofs.Ytkaciochlemjiaa
open Go.RowKit Go.Maps

theorem gb_set1 {W W' : World} {r k : Nat} {v : Value} (h : W.grownBy W' (some r)) : W.grownBy (W'.setCell ⟨r, k, none⟩ v) (some r) := gb_trans h grown_set
/-- What the cursor's number answers. -/
def NumC (b : ByteArray) (k r : Nat) (W : World) (e : Ending) (W' : World) : Prop := ∃ n k' : Nat, e = .returned (.int .i64 (n : Int)) ∧ RdC b k n k' ∧ Cur W' r b k' ∧ W.grownBy W' (some r)
set_option maxRecDepth 100000 in
set_option maxHeartbeats 8000000 in
theorem cnum_any {r k : Nat} {b : ByteArray} (hz : b.size ≤ 140737488355328) (hk : k ≤ b.size) (W : World) (h : Cur W r b k) :
    Calls Try.prog 34 #[.pointer (some ⟨r, 0, none⟩)] W fun e W' => NumC b k r W e W' := by
  have HZ : Hid (b.size ≤ 140737488355328) := hz
  have HK : Hid (k ≤ b.size) := hk
  have HH : Hid (Cur W r b k) := h
  clear hz hk h
  go_enter Try.func34, Try.ntmps34
  go_wp2_with fail
  go_loopg [3, 4, 5] 4 (fun gm v3 v4 v5 wr => ∃ g N P : Nat, v3 = .int .i64 (N : Int) ∧ v4 = .int .i64 (P : Int) ∧ v5 = .int .i64 (g : Int) ∧ Hid (g ≤ 3 ∧ gm = 4 - g) ∧ Hid (P = 128 ^ g) ∧ Hid (k + g ≤ b.size) ∧ Hid (N = gv ((b.data.toList.drop k).take g)) ∧ Hid (∀ c ∈ (b.data.toList.drop k).take g, 128 ≤ c.toNat) ∧ Hid (Cur wr r b (k + g)) ∧ Hid (W.grownBy wr (some r)))
  case atStart => exact ⟨0, 0, 1, rfl, rfl, rfl, ⟨by omega, rfl⟩, rfl, HK, rfl, (fun c hc => by cases hc), HH, gb_refl _ _⟩
  case round =>
    obtain ⟨g, N, P, rfl, rfl, rfl, HG, HP, HS, HN, HA, HC, HB⟩ := hrel
    obtain ⟨a, ha⟩ : ∃ a, k + g = a := ⟨_, rfl⟩
    rw [ha] at HS HC
    have HAE : Hid (k + g = a) := ha
    have c0 := HC.out.c0
    have c1 := HC.out.c1
    have cf := HC.out.frz
    by_cases hg : g < 3
    · have d1 : decide ((g : Int) < 3) = true := by rw [decide_eq_true_eq]; omega
      have d2 : decide (g < 3) = true := by rw [decide_eq_true_eq]; omega
      have HGL : Hid (g < 3) := hg
      by_cases hl : a < b.size
      · have d3 : decide ((a : Int) < (b.size : Int)) = true := by rw [decide_eq_true_eq]; omega
        have d4 : decide (a < b.size) = true := by rw [decide_eq_true_eq]; omega
        have HL : Hid (a < b.size) := hl
        have hix := idx_fact b a hl
        obtain ⟨x, hx⟩ : ∃ x, b.get! a = x := ⟨_, rfl⟩
        rw [hx] at hix
        have hdl : (b.data.toList.drop k).length = b.size - k := by rw [List.length_drop, lst_siz']
        have hgl : g < (b.data.toList.drop k).length := by rw [hdl]; omega
        have hxl : (b.data.toList.drop k)[g] = x := by
          have h2 : a < b.data.toList.length := by rw [lst_siz']; exact hl
          have : (b.data.toList.drop k)[g]? = some x := by rw [List.getElem?_drop, ha, List.getElem?_eq_getElem h2, ← hx, get_list b a hl]
          rw [List.getElem?_eq_getElem hgl] at this
          exact Option.some.inj this
        have HSN : Hid (gv ((b.data.toList.drop k).take (g + 1)) = N + x.toNat % 128 * P) := by
          show _ = _
          rw [gv_snoc _ g hgl, hxl, ← HN.out, HP.out]
        have HTA : Hid (128 ≤ x.toNat → ∀ c ∈ (b.data.toList.drop k).take (g + 1), 128 ≤ c.toNat) := fun h => take_all (fun c => 128 ≤ c.toNat) _ g hgl HA.out (by rw [hxl]; exact h)
        have HEN : Hid (x.toNat < 128 → RdC b k (N + x.toNat % 128 * P) (a + 1)) := fun h => by
          have := rdc_end (n := N + x.toNat % 128 * P) (by rw [ha]; exact hl) (by rw [ha]; exact hx) HA.out h hg (by rw [← HN.out, HP.out, Nat.mod_eq_of_lt h])
          rw [ha] at this
          exact this
        have hbl : x.toNat < 256 := x.toNat_lt
        obtain ⟨bn, hbn⟩ : ∃ bn : Nat, x.toNat = bn := ⟨_, rfl⟩
        rw [hbn] at hix hbl HSN HTA HEN
        have hpw : P ≤ 16384 ∧ 0 < P := by
          rw [HP.out]
          obtain rfl | rfl | rfl : g = 0 ∨ g = 1 ∨ g = 2 := by omega
          · exact ⟨by decide, by decide⟩
          · exact ⟨by decide, by decide⟩
          · exact ⟨by decide, by decide⟩
        have hNb : N ≤ 2097152 := by
          have h1 := gv_lt ((b.data.toList.drop k).take g)
          rw [← HN.out, List.length_take, Nat.min_eq_left (by omega)] at h1
          have h2 : 128 ^ g ≤ 16384 := by rw [← HP.out]; exact hpw.1
          omega
        obtain ⟨M, hM⟩ : ∃ M : Nat, bn % 128 * P = M := ⟨_, rfl⟩
        obtain ⟨v, hv⟩ : ∃ v : Nat, N + M = v := ⟨_, rfl⟩
        obtain ⟨P2, hP2⟩ : ∃ P2 : Nat, P * 128 = P2 := ⟨_, rfl⟩
        have hMb : M ≤ 127 * 16384 := by
          rw [← hM]
          exact Nat.mul_le_mul (Nat.le_of_lt_succ (Nat.mod_lt _ (by decide))) hpw.1
        rw [hM, hv] at HSN HEN
        have HP2 : Hid (P2 = 128 ^ (g + 1)) := by show _ = _; rw [← hP2, HP.out, Nat.pow_succ]
        have hMi : (bn : Int) % 128 * (P : Int) = (M : Int) := by rw [← hM]; simp
        have HWR : Hid (wrap64 ((bn : Int) % 128 * (P : Int)) = (M : Int) ∧ wrap64 ((N : Int) + (M : Int)) = (v : Int) ∧ wrap64 ((P : Int) * 128) = (P2 : Int) ∧ wrap64 (bn : Int) = (bn : Int) ∧ wrap64 ((a : Int) + 1) = (a : Int) + 1 ∧ wrap64 ((g : Int) + 1) = (g : Int) + 1) := by
          have q1 : M ≤ 1000000000000 := by omega
          have q2 : N + M ≤ 1000000000000 := by omega
          have q3 : bn ≤ 1000000000000 := by omega
          have q4 : P * 128 ≤ 1000000000000 := by have := hpw.1; omega
          have q5 : a + 1 ≤ 140737488355329 := by have := HZ.out; omega
          have q6 : g + 1 ≤ 1000000000000 := by omega
          refine ⟨by rw [hMi]; exact w64_id M q1, by rw [← hv, ← Int.natCast_add]; exact w64_id _ q2, ?_, w64_id bn q3, ?_, w64_id (g + 1) q6⟩
          · rw [← hP2]; exact w64_id (P * 128) q4
          · clear hMi hMb hpw hNb; unfold wrap64; omega
        clear hpw hNb hMi hMb hxl hgl hdl hx hbn hM hP2
        by_cases hb : 128 ≤ bn
        · have f1 : decide ((bn : Int) < 128) = false := by rw [decide_eq_false_iff_not]; omega
          have f2 : decide (bn < 128) = false := by rw [decide_eq_false_iff_not]; omega
          have HBB : Hid (128 ≤ bn) := hb
          clear hb hbl hl hg ha hv
          go_wp2_with fail
          go_quiet (fail)
          go_wp2_with fail
          go_quiet (fail)
          obtain ⟨k1, k2, k3, k4, k5, k6⟩ := HWR.out
          go_wp2_with fail
          clear k1 k2 k3 k4 k5 k6
          go_roundg (4 - (g + 1))
          case measure => have := HG.out; have := HGL.out; omega
          case rel =>
            refine ⟨g + 1, v, P2, ?_, ?_, ?_, ⟨HGL.out, rfl⟩, HP2, ?_, HSN.out.symm, HTA.out HBB.out, ?_, ?_⟩
            · first | rfl | (rw [HWR.out.2.1]; done) | (rw [HWR.out.2.1]; rfl) | (rw [HWR.out.1, HWR.out.2.1]; done)
            · first | rfl | rw [HWR.out.2.2.1]
            · first | rfl | (rw [HWR.out.2.2.2.2.2]; rfl)
            · show k + (g + 1) ≤ b.size; have := HL.out; have := HAE.out; omega
            · have e : k + (g + 1) = a + 1 := by have := HAE.out; omega
              rw [e]
              first | exact HC.out.set (a + 1) | (rw [HWR.out.2.2.2.2.1]; exact HC.out.set (a + 1))
            · exact gb_set1 (gb_trans HB.out (gb_of (below_drewN (Below.refl _ _) _)))
        · have f1 : decide ((bn : Int) < 128) = true := by rw [decide_eq_true_eq]; omega
          have f2 : decide (bn < 128) = true := by rw [decide_eq_true_eq]; omega
          have HBB : Hid (bn < 128) := by show bn < 128; omega
          clear hb hbl hl hg ha hv
          go_wp2_with fail
          go_quiet (fail)
          go_wp2_with fail
          go_quiet (fail)
          obtain ⟨k1, k2, k3, k4, k5, k6⟩ := HWR.out
          go_wp2_with fail
          clear k1 k2 k3 k4 k5 k6
          go_ret
          refine ⟨v, a + 1, ?_, HEN.out HBB.out, ?_, ?_⟩
          · first | rfl | (rw [HWR.out.2.1]; done) | (rw [HWR.out.2.1]; rfl) | (rw [HWR.out.1, HWR.out.2.1]; done)
          · first | exact HC.out.set (a + 1) | (rw [HWR.out.2.2.2.2.1]; exact HC.out.set (a + 1))
          · exact gb_set1 (gb_trans HB.out (gb_of (below_drewN (Below.refl _ _) _)))
      · have d3 : decide ((a : Int) < (b.size : Int)) = false := by rw [decide_eq_false_iff_not]; omega
        have d4 : decide (a < b.size) = false := by rw [decide_eq_false_iff_not]; omega
        have HR : Hid (RdC b k 0 a) := by
          have := rdc_none (b := b) (k := k) (g := g) (by rw [ha]; exact HS.out) (.inr (by rw [ha]; have := HS.out; omega)) HA.out
          rw [ha] at this
          exact this
        clear hl hg ha
        go_wp2_with fail
        go_quiet (fail)
        go_wp2_with fail
        go_ret
        exact ⟨0, a, rfl, HR.out, HC.out, gb_trans HB.out (gb_of (below_drewN (Below.refl _ _) _))⟩
    · have d1 : decide ((g : Int) < 3) = false := by rw [decide_eq_false_iff_not]; omega
      have d2 : decide (g < 3) = false := by rw [decide_eq_false_iff_not]; omega
      have HR : Hid (RdC b k 0 a) := by
        have := rdc_none (b := b) (k := k) (g := g) (by rw [ha]; exact HS.out) (.inl (by have := HG.out; omega)) HA.out
        rw [ha] at this
        exact this
      clear hg ha
      go_wp2_with fail
      go_quiet (fail)
      go_wp2_with fail
      go_ret
      exact ⟨0, a, rfl, HR.out, HC.out, gb_trans HB.out (gb_of (below_drewN (Below.refl _ _) _))⟩
end Go.Proofs.Ytkaciochlemjiaa
