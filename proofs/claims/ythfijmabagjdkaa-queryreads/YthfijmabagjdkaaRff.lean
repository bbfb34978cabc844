import Derived.Test.YthfijmabagjdkaaRfe
namespace Go.Proofs.Ythfijmabagjdkaa
open Go.RowKit Go.Maps

theorem lx_code {l : List UInt8} {e o : Nat} (h : lx l = .inl (e, o)) : e ≠ 0 := by
  cases l with
  | nil => simp only [lx, Sum.inl.injEq, Prod.mk.injEq] at h; omega
  | cons x t =>
    simp only [lx] at h
    split at h
    · split at h
      · simp only [Sum.inl.injEq, Prod.mk.injEq] at h; omega
      · cases h
    · split at h
      · split at h
        · simp only [Sum.inl.injEq, Prod.mk.injEq] at h; omega
        · cases h
      · split at h
        · split at h
          · simp only [Sum.inl.injEq, Prod.mk.injEq] at h; omega
          · cases h
        · split at h
          · split at h
            · simp only [Sum.inl.injEq, Prod.mk.injEq] at h; omega
            · cases h
          · split at h
            · cases h
            · simp only [Sum.inl.injEq, Prod.mk.injEq] at h; omega
theorem cutC_hash (k : Nat) (x : UInt8) (t : List UInt8) (h : nI x = 35) : cutC k (x :: t) = cut k (x :: t) := by
  rw [cut_hash k x t h, cutC_on k x t (by rw [h]; decide)]

set_option maxRecDepth 100000 in
set_option maxHeartbeats 8000000 in
theorem rcut_any (s : ByteArray) (w : World) : Calls Try.prog 9 #[.string s] w fun e w' => cutE w.heap.size s e w' ∧ Below w.heap.size w w' := by
  by_cases hz : 16384 < s.size
  · have d1 : decide ((16384 : Int) < (s.size : Int)) = true := by rw [decide_eq_true_eq]; omega
    have d2 : decide (16384 < s.size) = true := by rw [decide_eq_true_eq]; omega
    have HR : Hid (cutR s = .inl (80, 16384)) := if_pos hz
    clear hz
    go_enter Try.func9, Try.ntmps9
    go_wp2_with fail
    go_ret3
    exact ⟨.inr ⟨80, 16384, by decide, HR.out, rfl⟩, Below.refl _ _⟩
  · have d1 : decide ((16384 : Int) < (s.size : Int)) = false := by rw [decide_eq_false_iff_not]; omega
    have d2 : decide (16384 < s.size) = false := by rw [decide_eq_false_iff_not]; omega
    obtain ⟨A, hA⟩ : ∃ A, cut 0 s.data.toList = A := ⟨_, rfl⟩
    have HR : Hid (cutR s = A) := by rw [← hA]; exact if_neg hz
    have HA : Hid (pfx [] (cut 0 (s.data.toList.drop 0)) = A) := by rw [pfx_nil]; exact hA
    have HZ : Hid (s.size ≤ 16384) := by show s.size ≤ 16384; omega
    obtain ⟨iE, hi3, hx0, hx1, hx2⟩ := info_parts infoW
    clear hz hA
    go_enter Try.func9, Try.ntmps9
    go_wp2_with fail
    clear d1 d2
    go_loopg [5, 6] (s.size - 0) (fun gm v5 v6 wr => ∃ (k : Nat) (ws : List Wd), v6 = .int .i64 (k : Int) ∧ Hid (k ≤ s.size ∧ gm = s.size - k) ∧ Hid (pfx ws (cut k (s.data.toList.drop k)) = A) ∧ Hid (Wow w.heap.size wr v5 ws) ∧ Hid (ws.length ≤ k) ∧ Hid (Below w.heap.size w wr))
    case atStart => exact ⟨0, [], rfl, ⟨Nat.zero_le _, rfl⟩, HA, World.ownsRow_nil _ _ _ _, Nat.le_refl _, Below.refl _ _⟩
    case round =>
      obtain ⟨k, ws, rfl, HJ, HI, HW, HLL, HB⟩ := hrel
      obtain ⟨ra, rc, hrv⟩ := row_shape HW.out
      subst hrv
      by_cases hj : k < s.size
      · have d1 : decide ((k : Int) < (s.size : Int)) = true := by rw [decide_eq_true_eq]; omega
        have d2 : decide (k < s.size) = true := by rw [decide_eq_true_eq]; omega
        have hix := idx_fact s k hj
        have HJL : Hid (k < s.size) := hj
        have HDA : Hid (s.data.toList.drop k = s.get! k :: s.data.toList.drop (k + 1)) := drop_at s k hj
        obtain ⟨x, hx⟩ : ∃ x, s.get! k = x := ⟨_, rfl⟩
        rw [hx] at hix HDA
        have hwk := w64n k (by have := HJL.out; have := HZ.out; omega)
        clear hj hx
        go_wp2_with fail
        refine (in_any (⟨#[32, 9, 13, 10]⟩ : ByteArray) x (by decide) wr).mono ?_
        rintro e w9 ⟨rfl, hw9⟩
        rw [hw9, blk_con]
        clear hw9 w9
        cases cB : isB (nI x) with
        | true =>
          have HE : Hid (pfx ws (cut (k + 1) (s.data.toList.drop (k + 1))) = A) := by rw [← HI.out, HDA.out, cut_bl _ _ _ cB]; exact rfl
          clear cB
          go_wp2_with fail
          go_roundg (s.size - (k + 1))
          case measure => have := HJ.out; have := HJL.out; omega
          case rel => exact ⟨k + 1, ws, by simp, ⟨HJL.out, rfl⟩, HE, HW, by have := HLL.out; show ws.length ≤ k + 1; omega, HB⟩
        | false =>
          have HCB : Hid (isB (nI x) = false) := cB
          obtain ⟨y, hy⟩ : ∃ y, x.toNat = y := ⟨_, rfl⟩
          have HNY : Hid (nI x = (y : Int)) := by unfold nI; rw [hy]; exact rfl
          rw [hy] at hix ⊢
          clear cB hy
          by_cases c35 : y = 35
          · subst c35
            have HCI : Hid (pfx ws (cutC k (s.data.toList.drop k)) = A) := by rw [← HI.out, HDA.out, cutC_hash _ _ _ HNY.out]; exact rfl
            clear hwk
            go_wp2_with fail
            go_loopg [6] (s.size - k) (fun gm v6 wr2 => ∃ j : Nat, v6 = .int .i64 (j : Int) ∧ Hid (k ≤ j ∧ j ≤ s.size ∧ gm = s.size - j) ∧ Hid (pfx ws (cutC j (s.data.toList.drop j)) = A) ∧ wr2 = wr)
            case atStart => exact ⟨k, rfl, ⟨Nat.le_refl _, Nat.le_of_lt HJL.out, rfl⟩, HCI, rfl⟩
            case round =>
              obtain ⟨j, rfl, HJJ, HJI, hwr2⟩ := hrel
              rw [hwr2]
              clear hwr2
              clear hix d1 d2
              by_cases hjs : j < s.size
              · have d1 : decide ((j : Int) < (s.size : Int)) = true := by rw [decide_eq_true_eq]; omega
                have d2 : decide (j < s.size) = true := by rw [decide_eq_true_eq]; omega
                have hix := idx_fact s j hjs
                have HJS : Hid (j < s.size) := hjs
                have HDJ : Hid (s.data.toList.drop j = s.get! j :: s.data.toList.drop (j + 1)) := drop_at s j hjs
                obtain ⟨z, hz⟩ : ∃ z, (s.get! j).toNat = z := ⟨_, rfl⟩
                have HNZ : Hid (nI (s.get! j) = (z : Int)) := by unfold nI; rw [hz]; exact rfl
                rw [hz] at hix
                have hwj := w64n j (by have := HJS.out; have := HZ.out; omega)
                by_cases cz : z = 10
                · subst cz
                  have HE : Hid (pfx ws (cut j (s.data.toList.drop j)) = A) := by rw [← HJI.out, HDJ.out, cutC_nl _ _ _ HNZ.out]; exact rfl
                  have HNE : Hid (k < j) := by
                    show k < j
                    rcases Nat.lt_or_ge k j with h | h
                    · exact h
                    · have e : j = k := by have := HJJ.out; omega
                      have h1 := HNZ.out
                      have h2 := HDA.out
                      rw [← e, HDJ.out] at h2
                      injection h2 with h2 _
                      rw [h2, HNY.out] at h1
                      omega
                  clear hjs hz
                  go_wp2_with fail
                  go_roundg (s.size - j)
                  case measure => have := HJ.out; have := HNE.out; have := HJS.out; omega
                  case rel => exact ⟨j, ws, rfl, ⟨Nat.le_of_lt HJS.out, rfl⟩, HE, HW, by have := HLL.out; have := HNE.out; show ws.length ≤ j; omega, HB⟩
                · have ez : ¬ ((z : Int) = 10) := by omega
                  have mz : (z == 10) = false := by simp; omega
                  have HE : Hid (pfx ws (cutC (j + 1) (s.data.toList.drop (j + 1))) = A) := by rw [← HJI.out, HDJ.out, cutC_on _ _ _ (by rw [HNZ.out]; exact ez)]; exact rfl
                  clear hjs hz cz
                  go_wp2_with fail
                  go_roundg (s.size - (j + 1))
                  case measure => have := HJJ.out; have := HJS.out; omega
                  case rel => exact ⟨j + 1, by simp, ⟨by have := HJJ.out; omega, HJS.out, rfl⟩, HE, rfl⟩
              · have d1 : decide ((j : Int) < (s.size : Int)) = false := by rw [decide_eq_false_iff_not]; omega
                have d2 : decide (j < s.size) = false := by rw [decide_eq_false_iff_not]; omega
                have HE : Hid (pfx ws (cut j (s.data.toList.drop j)) = A) := by rw [← HJI.out, drop_end s j (by omega), cutC_nil]; exact rfl
                have HNS : Hid (s.size ≤ j) := by show s.size ≤ j; omega
                clear hjs
                go_wp2_with fail
                go_roundg (s.size - j)
                case measure => have := HJ.out; have := HJL.out; have := HJJ.out; have := HNS.out; omega
                case rel => exact ⟨j, ws, rfl, ⟨HJJ.out.2.1, rfl⟩, HE, HW, by have := HLL.out; have := HJJ.out; show ws.length ≤ j; omega, HB⟩
          · have e35 : ¬ ((y : Int) = 35) := by omega
            have m35 : (y == 35) = false := by simp; omega
            have hcb := cut_begin k x (s.data.toList.drop (k + 1)) HCB.out (by rw [HNY.out]; exact e35)
            have hI := HI.out
            rw [HDA.out, hcb] at hI
            clear hcb c35
            go_wp2_with fail
            refine (rword_any s k HJL.out (by have := HZ.out; omega) wr).mono ?_
            rintro e w5 ⟨rfl, b5⟩
            have HB5 : Hid (Below w.heap.size w w5) := HB.out.trans (b5.mono HB.out.size)
            have HW5 : Hid (Wow w.heap.size w5 (.slice ra ws.length rc) ws) := row_up HW.out b5
            rw [HDA.out]
            clear b5
            cases hlx : lx (x :: s.data.toList.drop (k + 1)) with
            | inl p =>
              obtain ⟨c, o⟩ := p
              rw [hlx] at hI
              have hc0 := lx_code hlx
              have HE : Hid (A = .inl (c, k + o)) := hI.symm
              have HC0 : Hid (c ≠ 0) := hc0
              have n1 : ¬ ((c : Int) = 0) := by omega
              have n2 : ((c : Int) != 0) = true := by simpa using hc0
              have n3 : (c != 0) = true := by simpa using hc0
              simp only [wdA]
              clear hlx hI hc0
              go_wp2_with fail
              go_ret3
              exact ⟨.inr ⟨c, k + o, HC0.out, HR.out.trans HE.out, rfl⟩, HB5.out.trans ((bel_up _ _).mono HB5.out.size)⟩
            | inr p =>
              obtain ⟨wd, n⟩ := p
              rw [hlx] at hI
              have hps := lx_pos hlx
              have hle : k + n ≤ s.size := by
                have h1 := hps.2
                rw [← HDA.out, List.length_drop, lst_siz] at h1
                have := HJL.out
                omega
              obtain ⟨m, hm⟩ : ∃ m, k + n = m := ⟨_, rfl⟩
              have HMM : Hid (k < m ∧ m ≤ s.size) := ⟨by omega, by omega⟩
              obtain ⟨wx, hwx⟩ : ∃ wx : Wd, wx = { wd with a := (k : Int) } := ⟨_, rfl⟩
              have HE : Hid (pfx (ws ++ [wx]) (cut m (s.data.toList.drop m)) = A) := by
                rw [← hI]
                show _ = _
                simp only
                rw [pfx_cns, ← hwx, hm, ← HDA.out, List.drop_drop, hm]
              simp only [wdA]
              rw [← hwx, hm]
              simp only [wV]
              clear hlx hI hps hle hm hwx
              obtain ⟨W6, hW6⟩ : ∃ W6, W6 = w5.alloc (.cells #[.int .i64 wx.k, .string ⟨wx.t.toArray⟩, .int .i64 wx.n, .int .i64 wx.a] 41) := ⟨_, rfl⟩
              have HB6 : Hid (Below w.heap.size w W6) := by rw [hW6]; exact HB5.out.trans ((bel_up _ _).mono HB5.out.size)
              have HW6 : Hid (Wow w.heap.size W6 (.slice ra ws.length rc) ws) := by rw [hW6]; exact HW5.out.alloc _
              have hb6 : W6.heap[w5.heap.size]? = some (.cells #[.int .i64 wx.k, .string ⟨wx.t.toArray⟩, .int .i64 wx.n, .int .i64 wx.a] 41 (0, 0)) := by rw [hW6]; exact heap_new _ _
              have q0 : W6.cell? ⟨w5.heap.size, 0, none⟩ = some (.int .i64 wx.k) := by rw [Lib.cell_of_heap hb6]; rfl
              have q1 : W6.cell? ⟨w5.heap.size, 1, none⟩ = some (.string ⟨wx.t.toArray⟩) := by rw [Lib.cell_of_heap hb6]; rfl
              have q2 : W6.cell? ⟨w5.heap.size, 2, none⟩ = some (.int .i64 wx.n) := by rw [Lib.cell_of_heap hb6]; rfl
              have q3 : W6.cell? ⟨w5.heap.size, 3, none⟩ = some (.int .i64 wx.a) := by rw [Lib.cell_of_heap hb6]; rfl
              have HE6 : Hid (W6 = w5.alloc (.cells #[.int .i64 wx.k, .string ⟨wx.t.toArray⟩, .int .i64 wx.n, .int .i64 wx.a] 41)) := hW6
              have HROW : Hid ((W6.alloc (.cells #[.int .i64 wx.k, .string ⟨wx.t.toArray⟩, .int .i64 wx.n, .int .i64 wx.a] 41)).ownsRow w.heap.size 41 4 (.slice ra ws.length rc) ws.length (wC ws)) := HW6.out.alloc _
              clear hW6 hb6
              go_upto_region 12 with fail
              rw [← HE6.out]
              go_wp2_with (at_builtin; refine wpList_append_own_at _ rfl _ _ 33 rfl w.heap.size 41 iE _ 4 40 Try.underlying33 hi3 hx0 hx1 hx2 rfl (by decide) _ _ _ rfl HROW.out ⟨W6.heap.size, 0, none⟩ 1 1 [.int .i64 wx.k, .string ⟨wx.t.toArray⟩, .int .i64 wx.n, .int .i64 wx.a] rfl rfl (cell_four_new _ _ _ _ _ _) (by simp [Value.oneCell']) (by have := HLL.out; have := HJ.out; have := HZ.out; unfold maxLen; omega) (by have := HLL.out; have := HJ.out; have := HZ.out; omega) (by have := HB6.out.size; simp; omega) ?_; intro v7 w7 ho7 hg7 _ ha7; have HO7 : Hid (Wow w.heap.size w7 v7 (ws ++ [wx])) := wow_app ho7; have HG7 : Hid (W6.grownBy w7 (Value.ownBlock (.slice ra ws.length rc))) := (World.grownBy_alloc _ _ _).trans hg7; obtain ⟨qa, qc, rfl⟩ := row_shape ho7; clear ho7 hg7 ha7)
              go_roundg (s.size - m)
              case measure => have := HJ.out; have := HMM.out; omega
              case rel =>
                have h1 := HMM.out
                have h2 := HLL.out
                exact ⟨m, ws ++ [wx], rfl, ⟨h1.2, rfl⟩, HE, HO7, by show (ws ++ [wx]).length ≤ m; simp; omega, HB6.out.trans ((Below.refl _ _).grown HG7.out HB6.out.size (fun r e => (row_tag HW6.out r e).1))⟩
      · have d1 : decide ((k : Int) < (s.size : Int)) = false := by rw [decide_eq_false_iff_not]; omega
        have d2 : decide (k < s.size) = false := by rw [decide_eq_false_iff_not]; omega
        have HE : Hid (A = .inr ws) := by
          rw [← HI.out, drop_end s k (by omega), cut_end k (by simp)]
          show _ = _
          simp [pfx]
        clear hj
        go_wp2_with fail
        go_ret3
        exact ⟨.inl ⟨ws, _, HR.out.trans HE.out, rfl, HW.out⟩, HB.out⟩
end Go.Proofs.Ythfijmabagjdkaa
