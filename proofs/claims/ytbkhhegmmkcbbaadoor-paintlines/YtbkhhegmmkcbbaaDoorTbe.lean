import Derived.Test.YtbkhhegmmkcbbaaDoorTti
namespace Go.Proofs.YtbkhhegmmkcbbaaDoor
open Go.RowKit Go.Maps

theorem iC_take (l : List Int) (n : Nat) : (iC l).take (n * 1) = iC (l.take n) := by unfold iC; rw [Nat.mul_one, List.map_take]
theorem iC_set (l : List Int) (k : Nat) (z : Int) : (iC l).set k (.int .i64 z) = iC (l.set k z) := by unfold iC; rw [List.map_set]
set_option maxRecDepth 100000 in
set_option maxHeartbeats 8000000 in
theorem beyond_any {v : Value} {t : List Nd} (w : World) (h : Ns w v t) (hs : Sm t) :
    Calls Tryd.prog 5 #[v] w fun e w' => ∃ b, e = .returned (.bool b) ∧ Below w.heap.size w w' := by
  obtain ⟨i3, hi3, hx0, hx1, hx2⟩ := info_parts info3
  have HT : Hid (Ns w v t) := h
  have HS : Hid (Sm t) := hs
  obtain ⟨a, cap, rfl⟩ := h.form
  clear h hs
  obtain ⟨n, hn⟩ : ∃ n, t.length = n := ⟨_, rfl⟩
  have HN : Hid (t.length = n) := hn
  rw [hn] at HT ⊢
  have HSZ : Hid (n * 72 + 4096 ≤ 140737488355328) := by have := HS.out; unfold Sm at this; rw [hn] at this; exact this
  clear hn
  go_enter Tryd.func5, Tryd.ntmps5
  go_upto_region 3 with fail
  go_loopg [3, 4] n (fun gm v3 v4 wr => ∃ (i m : Nat) (xs : List Int), v4 = .int .i64 (i : Int) ∧ Hid (gm = n - i ∧ i ≤ n) ∧ Hid (xs.length = m ∧ m ≤ 65536) ∧ Hid (wr.ownsRow w.heap.size 3 1 v3 m (iC xs)) ∧ Hid (Below w.heap.size w wr))
  case atStart => exact ⟨0, 0, [], rfl, ⟨rfl, Nat.zero_le _⟩, ⟨rfl, Nat.zero_le _⟩, World.ownsRow_nil _ _ _ _, Below.refl _ _⟩
  case round =>
    obtain ⟨i, m, xs, rfl, HI, HM, HO, HBW⟩ := hrel
    by_cases hi : i < n
    · have e1 : decide ((i : Int) < (n : Int)) = true := by rw [decide_eq_true_eq]; omega
      have e2 : decide (i < n) = true := by rw [decide_eq_true_eq]; omega
      have HIM : Hid (i < n) := hi
      obtain ⟨ra, rc, hv⟩ := row_shape HO.out
      subst hv
      clear hi
      go_upto_region 5 with fail
      clear e1 e2
      obtain ⟨wo, hwo⟩ : ∃ wo, wo = wr := ⟨_, rfl⟩
      rw [← hwo] at HO HBW ⊢
      clear hwo
      go_loopg [3] m (fun gm v3 wr => ∃ (m : Nat) (xs : List Int), Hid (gm = m) ∧ Hid (xs.length = m ∧ m ≤ 65536) ∧ Hid (wr.ownsRow w.heap.size 3 1 v3 m (iC xs)) ∧ Hid (Below w.heap.size w wr))
      case atStart => exact ⟨m, xs, rfl, HM, HO, HBW⟩
      case round =>
        clear HM HO HBW
        obtain ⟨m, xs, HG, HM, HO, HBW⟩ := hrel
        obtain ⟨i', hi'⟩ : ∃ i', i = i' := ⟨_, rfl⟩
        clear hi'
        by_cases hm : 0 < m
        · obtain ⟨g, c, hv, _, hcm, _⟩ := row_form HO.out hm
          subst hv
          have e1 : decide ((0 : Int) < (m : Int)) = true := by rw [decide_eq_true_eq]; omega
          have e2 : decide (0 < m) = true := by rw [decide_eq_true_eq]; omega
          have e0 : 0 < m := hm
          obtain ⟨p, hp⟩ : ∃ p, m = p + 1 := ⟨m - 1, by omega⟩
          have hw : IntKind.i64.wrap ((m : Int) - 1) = (p : Int) := by rw [w64 _ (by omega) (by have := HM.out; omega)]; omega
          have HP : Hid (m = p + 1) := hp
          have hc0 := row_at HO.out p _ (iC_get xs p (by have := HM.out.1; omega))
          obtain ⟨x, hx⟩ : ∃ x, xs.getD p 0 = x := ⟨_, rfl⟩
          rw [hx] at hc0
          have e3 : (p : Int) < (m : Int) := by omega
          have e4 : p < m := by omega
          have e5 : p ≤ c := by omega
          have e6 : (p : Int) ≤ (c : Int) := by omega
          clear hm hp hx hcm
          by_cases hx0 : x ≤ 0
          · have f1 : decide (x ≤ 0) = true := by rw [decide_eq_true_eq]; exact hx0
            have HO2 : Hid (wr.ownsRow w.heap.size 3 1 (.slice (some ⟨g, 0, none⟩) p c) p (iC (xs.take p))) := by have h7 := row_low HO.out (n := p) (by have := HP.out; omega); rw [iC_take] at h7; exact h7
            clear hx0
            go_wp2_with fail
            go_roundg p
            case measure => have := HG.out; have := HP.out; omega
            case rel => exact ⟨p, xs.take p, rfl, ⟨by rw [List.length_take]; have := HM.out; have := HP.out; omega, by have := HM.out; have := HP.out; omega⟩, HO2, HBW⟩
          · have f1 : decide (x ≤ 0) = false := by rw [decide_eq_false_iff_not]; exact hx0
            have d3 := row_froz HO.out p
            obtain ⟨z, hz⟩ : ∃ z, IntKind.i64.wrap (x - 1) = z := ⟨_, rfl⟩
            have HO2 : Hid ((wr.setCell ⟨g, p, none⟩ (.int .i64 z)).ownsRow w.heap.size 3 1 (.slice (some ⟨g, 0, none⟩) m c) m (iC (xs.set p z))) := by have h7 := row_set HO.out p (.int .i64 z); rw [iC_set] at h7; exact h7
            have HB2 : Hid (Below w.heap.size w (wr.setCell ⟨g, p, none⟩ (.int .i64 z))) := HBW.out.setCell (p := ⟨g, p, none⟩) (row_tag HO.out g rfl).1 _
            clear hx0
            go_upto_region 9 with fail
            have HXL : Hid ((xs.set p z).length = m) := by rw [List.length_set]; exact HM.out.1
            clear hz hc0 d3 e1 e2 e0 hw e3 e4 e5 e6 f1
            obtain ⟨W2, hW2⟩ : ∃ W2, wr.setCell ⟨g, p, none⟩ (.int .i64 z) = W2 := ⟨_, rfl⟩
            rw [hW2] at HO2 HB2 ⊢
            clear hW2
            obtain ⟨g2, o2, rfl, hk⟩ := (HT.out.up HB2.out).kid i (by have := HN.out; have := HIM.out; omega)
            obtain ⟨y, hy⟩ : ∃ y, (t.getD i ndd).kd = y := ⟨_, rfl⟩
            rw [hy] at hk
            have n1 : (i : Int) < (n : Int) := by have := HIM.out; omega
            have n2 : i < n := HIM.out
            have HROW : Hid ((W2.alloc (.cells #[.int .i64 y] 3)).ownsRow w.heap.size 3 1 (.slice (some ⟨g, 0, none⟩) m c) m (iC (xs.set p z))) := HO2.out.alloc _
            have HSA : Hid (w.heap.size ≤ (W2.alloc (.cells #[.int .i64 y] 3)).heap.size) := Nat.le_trans HB2.out.size (bel_up _ _).size
            have HMX : Hid (m + 1 ≤ maxLen ∧ (m + 1) * 8 ≤ 140737488355328) := by have := HM.out; show _ ∧ _; unfold maxLen; omega
            have hwi := w64n i (by have := HSZ.out; have := HIM.out; omega)
            clear hy
            go_upto_region 10 with (at_builtin; refine wpList_append_own_at _ rfl _ _ 55 rfl w.heap.size 3 i3 (.int .i64 0) 1 8 Tryd.underlying55 hi3 hx0 hx1 hx2 rfl (by decide) _ _ _ rfl HROW.out ⟨W2.heap.size, 0, none⟩ 1 1 [.int .i64 y] rfl rfl (cell_one_new _ _ _) (by simp [Value.oneCell']) HMX.out.1 HMX.out.2 HSA.out ?_; intro v5 w5 ho5 hg5 _ ha5; have HB5 : Hid (Below w.heap.size w w5) := bel_app HB2.out HB2.out.size HO2.out hg5; have HO5 : Hid (w5.ownsRow w.heap.size 3 1 v5 (m + 1) (iC ((xs.set p z) ++ [y]))) := (by rw [iC_app]; exact ho5); obtain ⟨qa, qc, rfl⟩ := row_shape ho5; clear ho5 hg5 ha5)
            obtain ⟨m1, hm1⟩ : ∃ m1, m + 1 = m1 := ⟨_, rfl⟩
            rw [hm1] at HO5 ⊢
            have HM1 : Hid (m + 1 = m1 ∧ ((xs.set p z) ++ [y]).length = m1) := ⟨hm1, by rw [List.length_append, HXL.out]; exact hm1⟩
            clear hm1
            by_cases hbig : 65536 < m1
            · have k1 : decide ((65536 : Int) < (m1 : Int)) = true := by rw [decide_eq_true_eq]; omega
              have k2 : decide (65536 < m1) = true := by rw [decide_eq_true_eq]; exact hbig
              clear hbig
              go_wp2_with fail
              go_ret
              exact ⟨_, rfl, HB5.out⟩
            · have k1 : decide ((65536 : Int) < (m1 : Int)) = false := by rw [decide_eq_false_iff_not]; omega
              have k2 : decide (65536 < m1) = false := by rw [decide_eq_false_iff_not]; exact hbig
              have HSM : Hid (m1 ≤ 65536) := by show _ ≤ _; omega
              clear hbig
              go_wp2_with fail
              go_roundg (n - (i + 1))
              case measure => have := HI.out.1; have := HIM.out; omega
              case rel => exact ⟨i + 1, m1, (xs.set p z) ++ [y], by first | rfl | (rw [show (i : Int) + 1 = ((i + 1 : Nat) : Int) by omega]), ⟨rfl, HIM.out⟩, ⟨HM1.out.2, HSM.out⟩, HO5, HB5⟩
        · have hm0 : m = 0 := by omega
          obtain ⟨ra, rc, hv⟩ := row_shape HO.out
          subst hv
          have HXL : Hid (xs.length = m) := HM.out.1
          clear hm
          have e1 : decide ((0 : Int) < (m : Int)) = false := by rw [decide_eq_false_iff_not]; omega
          have e2 : decide (0 < m) = false := by rw [decide_eq_false_iff_not]; omega
          clear hm0
          go_upto_region 9 with fail
          clear e1 e2
          obtain ⟨g2, o2, rfl, hk⟩ := (HT.out.up HBW.out).kid i (by have := HN.out; have := HIM.out; omega)
          obtain ⟨y, hy⟩ : ∃ y, (t.getD i ndd).kd = y := ⟨_, rfl⟩
          rw [hy] at hk
          have n1 : (i : Int) < (n : Int) := by have := HIM.out; omega
          have n2 : i < n := HIM.out
          have HROW : Hid ((wr.alloc (.cells #[.int .i64 y] 3)).ownsRow w.heap.size 3 1 (.slice ra m rc) m (iC (xs))) := HO.out.alloc _
          have HSA : Hid (w.heap.size ≤ (wr.alloc (.cells #[.int .i64 y] 3)).heap.size) := Nat.le_trans HBW.out.size (bel_up _ _).size
          have HMX : Hid (m + 1 ≤ maxLen ∧ (m + 1) * 8 ≤ 140737488355328) := by have := HM.out; show _ ∧ _; unfold maxLen; omega
          have hwi := w64n i (by have := HSZ.out; have := HIM.out; omega)
          clear hy
          go_upto_region 10 with (at_builtin; refine wpList_append_own_at _ rfl _ _ 55 rfl w.heap.size 3 i3 (.int .i64 0) 1 8 Tryd.underlying55 hi3 hx0 hx1 hx2 rfl (by decide) _ _ _ rfl HROW.out ⟨wr.heap.size, 0, none⟩ 1 1 [.int .i64 y] rfl rfl (cell_one_new _ _ _) (by simp [Value.oneCell']) HMX.out.1 HMX.out.2 HSA.out ?_; intro v5 w5 ho5 hg5 _ ha5; have HB5 : Hid (Below w.heap.size w w5) := bel_app HBW.out HBW.out.size HO.out hg5; have HO5 : Hid (w5.ownsRow w.heap.size 3 1 v5 (m + 1) (iC ((xs) ++ [y]))) := (by rw [iC_app]; exact ho5); obtain ⟨qa, qc, rfl⟩ := row_shape ho5; clear ho5 hg5 ha5)
          obtain ⟨m1, hm1⟩ : ∃ m1, m + 1 = m1 := ⟨_, rfl⟩
          rw [hm1] at HO5 ⊢
          have HM1 : Hid (m + 1 = m1 ∧ ((xs) ++ [y]).length = m1) := ⟨hm1, by rw [List.length_append, HXL.out]; exact hm1⟩
          clear hm1
          by_cases hbig : 65536 < m1
          · have k1 : decide ((65536 : Int) < (m1 : Int)) = true := by rw [decide_eq_true_eq]; omega
            have k2 : decide (65536 < m1) = true := by rw [decide_eq_true_eq]; exact hbig
            clear hbig
            go_wp2_with fail
            go_ret
            exact ⟨_, rfl, HB5.out⟩
          · have k1 : decide ((65536 : Int) < (m1 : Int)) = false := by rw [decide_eq_false_iff_not]; omega
            have k2 : decide (65536 < m1) = false := by rw [decide_eq_false_iff_not]; exact hbig
            have HSM : Hid (m1 ≤ 65536) := by show _ ≤ _; omega
            clear hbig
            go_wp2_with fail
            go_roundg (n - (i + 1))
            case measure => have := HI.out.1; have := HIM.out; omega
            case rel => exact ⟨i + 1, m1, (xs) ++ [y], by first | rfl | (rw [show (i : Int) + 1 = ((i + 1 : Nat) : Int) by omega]), ⟨rfl, HIM.out⟩, ⟨HM1.out.2, HSM.out⟩, HO5, HB5⟩
    · have e1 : decide ((i : Int) < (n : Int)) = false := by rw [decide_eq_false_iff_not]; omega
      have e2 : decide (i < n) = false := by rw [decide_eq_false_iff_not]; omega
      obtain ⟨ra, rc, hv⟩ := row_shape HO.out
      subst hv
      clear hi
      go_wp2_with fail
      go_ret
      exact ⟨_, rfl, HBW.out⟩
end Go.Proofs.YtbkhhegmmkcbbaaDoor
