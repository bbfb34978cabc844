import Derived.Test.YthfijmabagjdkaaRfc
namespace Go.Proofs.Ythfijmabagjdkaa
open Go.RowKit Go.Maps

theorem results_tmp4 {fn : Func} {t u v x : Tmp} (h : fn.results = #[.tmp t, .tmp u, .tmp v, .tmp x]) (tmps : Array Value) (P : Program) (w : World) :
    (results fn tmps).run P w = .ok (.tuple #[tmps.getD t undef, tmps.getD u undef, tmps.getD v undef, tmps.getD x undef]) w := by
  simp [results, h]
/-- What the reference's str answers. -/
def strA (f : Nat) : Sum Nat (List UInt8 × Nat) → Value
  | .inl e => .tuple #[.int .i64 0, .string ⟨#[]⟩, .int .i64 82, .int .i64 ((f + e : Nat) : Int)]
  | .inr (a, n) => .tuple #[.int .i64 ((f + n : Nat) : Int), .string ⟨a.toArray⟩, .int .i64 0, .int .i64 0]

set_option maxRecDepth 100000 in
set_option maxHeartbeats 8000000 in
theorem rstr_any (s : ByteArray) (f : Nat) (hf : f < s.size) (hs : s.size ≤ 1000000000) (w : World) : Calls Try.prog 29 #[.string s, .int .i64 (f : Int)] w fun e w' => e = .returned (strA f (st 0 0 (s.data.toList.drop (f + 1)) 1 [])) ∧ Below w.heap.size w w' := by
  have HZ : Hid (s.size ≤ 1000000000) := hs
  have HF : Hid (f < s.size) := hf
  obtain ⟨R, hR⟩ : ∃ R, st 0 0 (s.data.toList.drop (f + 1)) 1 [] = R := ⟨_, rfl⟩
  have HR : Hid (st 0 0 (s.data.toList.drop (f + 1)) 1 [] = R) := hR
  rw [hR]
  obtain ⟨i5, hi5, hx0, hx1, hx2⟩ := info_parts info5
  have hw0 := w64n f (by omega)
  clear hf hs hR
  go_enter Try.func29, Try.ntmps29
  go_wp2_with fail
  go_loopg [8, 9] (s.size + 2 - (f + 1)) (fun gm v8 v9 wr => ∃ (k : Nat) (l : List UInt8), v9 = .int .i64 (k : Int) ∧ Hid (f < k ∧ k ≤ s.size ∧ gm = s.size + 2 - k) ∧ Hid (st 0 0 (s.data.toList.drop k) (k - f) l = R) ∧ Hid (Byt w.heap.size wr v8 l) ∧ Hid (l.length ≤ k) ∧ Hid (Below w.heap.size w wr))
  case atStart => exact ⟨f + 1, [], by simp, ⟨by omega, HF.out, rfl⟩, by rw [show f + 1 - f = 1 by omega]; exact HR.out, World.ownsRow_nil _ _ _ _, Nat.zero_le _, Below.refl _ _⟩
  case round =>
    obtain ⟨k, l, rfl, HJ, HI, HBy, HLL, HB⟩ := hrel
    obtain ⟨ra, rc, hrv⟩ := row_shape HBy.out
    subst hrv
    by_cases hj : k < s.size
    · have d1 : decide ((k : Int) < (s.size : Int)) = true := by rw [decide_eq_true_eq]; omega
      have d2 : decide (k < s.size) = true := by rw [decide_eq_true_eq]; omega
      have hix := idx_fact s k hj
      have HJL : Hid (k < s.size) := hj
      have hI := HI.out
      rw [drop_at s k hj] at hI
      obtain ⟨y, hy⟩ : ∃ y, (s.get! k).toNat = y := ⟨_, rfl⟩
      have hny : nI (s.get! k) = (y : Int) := by unfold nI; rw [hy]
      simp only [st] at hI
      rw [hny] at hI
      rw [hy] at hix
      have hwk := w64n k (by have := HJL.out; have := HZ.out; omega)
      obtain ⟨k1, hk1⟩ : ∃ k1, k + 1 = k1 := ⟨_, rfl⟩
      have HK1 : Hid (k + 1 = k1) := hk1
      rw [hk1] at hwk hI
      by_cases c10 : y = 10
      · subst c10
        rw [if_neg (by decide), if_pos (by decide)] at hI
        have HE : Hid (R = .inl 0) := hI.symm
        clear hj hI hy hny
        go_wp2_with fail
        (try simp only [Exit.inBlock, Exit.then])
        refine bodyPost_ret (results_tmp4 rfl _ _ _) rfl ?_
        exact ⟨by rw [HE.out]; rfl, HB.out⟩
      · have e10 : ¬ ((y : Int) = 10) := by omega
        have m10 : (y == 10) = false := by simp; omega
        by_cases c34 : y = 34
        · subst c34
          rw [if_pos (by decide)] at hI
          have HE : Hid (strA f R = .tuple #[.int .i64 (k1 : Int), .string ⟨l.toArray⟩, .int .i64 0, .int .i64 0]) := by
            have := HJ.out
            rw [← hI]
            show strA f (.inr (l, k - f + 1)) = _
            simp only [strA]
            rw [show f + (k - f + 1) = k1 by omega]
          have hcv := byt_conv HBy.out
          clear hj hI hy hny
          go_upto_region 5 with fail
          have hcw : (convert 58 9 (.slice ra l.length rc)).run Try.prog wr.drew = .ok (.string ⟨l.toArray⟩) wr.drew := byt_conv (row_up HBy.out (Below.drew (Below.refl _ _)))
          go_region
          go_wp2_with fail
          (try simp only [Exit.inBlock, Exit.then])
          refine bodyPost_ret (results_tmp4 rfl _ _ _) rfl ?_
          exact ⟨by rw [HE.out]; rfl, HB.out.trans (Below.drew (Below.refl _ _))⟩
        · have e34 : ¬ ((y : Int) = 34) := by omega
          have m34 : (y == 34) = false := by simp; omega
          rw [if_neg e34, if_neg e10] at hI
          by_cases c92 : y = 92
          · subst c92
            rw [if_pos (by decide)] at hI
            rw [← hk1] at hI
            rw [st_es (k + 1) (k - f + 1) l] at hI
            have hle := es_le (s := s) (k + 1)
            have hin := es_in (s := s) (k + 1)
            have hlo := es_lo s (k + 1)
            obtain ⟨v, q, hvq⟩ : ∃ v q, es s (k + 1) = (v, q) := ⟨_, _, rfl⟩
            rw [hvq] at hI hle hin hlo
            simp only at hI hle hin hlo
            have hA : esA s k = if v = -1 then (0, 0) else (((q + 1 - k : Nat) : Int), v) := by unfold esA; rw [hvq]
            by_cases cv : v = -1
            · rw [if_pos cv] at hI hA
              have HE : Hid (strA f R = .tuple #[.int .i64 0, .string ⟨#[]⟩, .int .i64 82, .int .i64 (k : Int)]) := by
                have := HJ.out
                rw [← hI]
                show strA f (.inl (k - f + 1 - 1)) = _
                simp only [strA]
                rw [show f + (k - f + 1 - 1) = k by omega]
              have HA : Hid (esA s k = (0, 0)) := hA
              clear hj hI hy hny hle hin hlo hvq cv hA
              go_wp2_with fail
              refine (resc_any s k HJL.out HZ.out wr).mono ?_
              rintro e w5 ⟨rfl, b5⟩
              have HB5 : Hid (Below w.heap.size w w5) := HB.out.trans (b5.mono HB.out.size)
              rw [HA.out]
              clear b5
              go_wp2_with fail
              (try simp only [Exit.inBlock, Exit.then])
              refine bodyPost_ret (results_tmp4 rfl _ _ _) rfl ?_
              exact ⟨by rw [HE.out]; rfl, HB5.out⟩
            · rw [if_neg cv] at hI hA
              have hq := hin cv
              obtain ⟨n, hn⟩ : ∃ n, q + 1 - k = n := ⟨_, rfl⟩
              rw [hn] at hA
              have HA : Hid (esA s k = ((n : Int), v)) := hA
              obtain ⟨k2, hk2⟩ : ∃ k2, q + 1 = k2 := ⟨_, rfl⟩
              have hkn : IntKind.i64.wrap ((k : Int) + (n : Int)) = (k2 : Int) := by have := HZ.out; rw [IntKind.wrap_i64]; omega
              have nn : ¬ ((n : Int) = 0) := by omega
              have nb : (n == 0) = false := by simp; omega
              have HE : Hid (st 0 0 (s.data.toList.drop k2) (k2 - f) (l ++ [ub v]) = R) := by
                have := HJ.out
                rw [← hI, hk2, show k - f + 1 + (k2 - (k + 1)) = k2 - f by omega]; exact rfl
              have HKK : Hid (k < k2 ∧ k2 ≤ s.size) := ⟨by omega, by omega⟩
              have HUB : Hid (v = ((ub v).toNat : Int)) := (ub_int v (by omega) (by omega)).symm
              clear hj hI hy hny hle hin hlo hvq cv hA hq hn hk2
              go_wp2_with fail
              refine (resc_any s k HJL.out HZ.out wr).mono ?_
              rintro e w5 ⟨rfl, b5⟩
              have HB5 : Hid (Below w.heap.size w w5) := HB.out.trans (b5.mono HB.out.size)
              rw [HA.out]
              have HROW : Hid ((w5.alloc (.cells #[.int .u8 v] 5)).ownsRow w.heap.size 5 1 (.slice ra l.length rc) l.length (Lib.byteCells l)) := (row_up HBy.out b5).alloc _
              have HR5 : Hid (Byt w.heap.size w5 (.slice ra l.length rc) l) := row_up HBy.out b5
              clear b5
              go_wp2_with (at_builtin; refine wpList_append_own_at _ rfl _ _ 58 rfl w.heap.size 5 i5 (.int .u8 0) 1 1 Try.underlying58 hi5 hx0 hx1 hx2 rfl (by decide) _ _ _ rfl HROW.out ⟨w5.heap.size, 0, none⟩ 1 1 [.int .u8 v] rfl rfl (cell_one_new _ _ _) (by simp [Value.oneCell']) (by have := HLL.out; have := HJ.out; have := HZ.out; unfold maxLen; omega) (by have := HLL.out; have := HJ.out; have := HZ.out; omega) (by have := HB5.out.size; simp; omega) ?_; intro v6 w6 ho6 hg6 _ ha6; have ho7 := ho6; rw [HUB.out] at ho7; have HO6 : Hid (Byt w.heap.size w6 v6 (l ++ [ub v])) := byt_app ho7; have HG6 : Hid (w5.grownBy w6 (Value.ownBlock (.slice ra l.length rc))) := (World.grownBy_alloc _ _ _).trans hg6; obtain ⟨qa, qc, rfl⟩ := row_shape ho6; clear ho6 ho7 hg6 ha6)
              go_roundg (s.size + 2 - k2)
              case measure => have := HJ.out; have := HKK.out; omega
              case rel =>
                have h1 := HJ.out
                have h2 := HKK.out
                have h3 := HLL.out
                exact ⟨k2, l ++ [ub v], rfl, ⟨by omega, by omega, rfl⟩, HE.out, HO6.out, by show (l ++ [ub v]).length ≤ k2; simp; omega, HB5.out.trans ((Below.refl _ _).grown HG6.out HB5.out.size (fun r e => (row_tag HR5.out r e).1))⟩
          · have e92 : ¬ ((y : Int) = 92) := by omega
            have m92 : (y == 92) = false := by simp; omega
            rw [if_neg e92] at hI
            have HE : Hid (st 0 0 (s.data.toList.drop k1) (k1 - f) (l ++ [s.get! k]) = R) := by
              rw [← hI, show k - f + 1 = k1 - f by have := HJ.out; omega]; exact rfl
            have HUB : Hid ((y : Int) = ((s.get! k).toNat : Int)) := by rw [hy]; exact rfl
            have HROW : Hid ((wr.alloc (.cells #[.int .u8 (y : Int)] 5)).ownsRow w.heap.size 5 1 (.slice ra l.length rc) l.length (Lib.byteCells l)) := HBy.out.alloc _
            clear hj hI hy hny hk1
            go_wp2_with (at_builtin; refine wpList_append_own_at _ rfl _ _ 58 rfl w.heap.size 5 i5 (.int .u8 0) 1 1 Try.underlying58 hi5 hx0 hx1 hx2 rfl (by decide) _ _ _ rfl HROW.out ⟨wr.heap.size, 0, none⟩ 1 1 [.int .u8 (y : Int)] rfl rfl (cell_one_new _ _ _) (by simp [Value.oneCell']) (by have := HLL.out; have := HJ.out; have := HZ.out; unfold maxLen; omega) (by have := HLL.out; have := HJ.out; have := HZ.out; omega) (by have := HB.out.size; simp; omega) ?_; intro v6 w6 ho6 hg6 _ ha6; have ho7 := ho6; rw [HUB.out] at ho7; have HO6 : Hid (Byt w.heap.size w6 v6 (l ++ [s.get! k])) := byt_app ho7; have HG6 : Hid (wr.grownBy w6 (Value.ownBlock (.slice ra l.length rc))) := (World.grownBy_alloc _ _ _).trans hg6; obtain ⟨qa, qc, rfl⟩ := row_shape ho6; clear ho6 ho7 hg6 ha6)
            go_roundg (s.size + 2 - k1)
            case measure => have := HJ.out; have := HK1.out; have := HJL.out; omega
            case rel =>
              have h1 := HJ.out
              have h2 := HK1.out
              have h3 := HLL.out
              have h4 := HJL.out
              exact ⟨k1, l ++ [s.get! k], rfl, ⟨by omega, by omega, rfl⟩, HE.out, HO6.out, by show (l ++ [s.get! k]).length ≤ k1; simp; omega, HB.out.trans ((Below.refl _ _).grown HG6.out HB.out.size (fun r e => (row_tag HBy.out r e).1))⟩
    · have d1 : decide ((k : Int) < (s.size : Int)) = false := by rw [decide_eq_false_iff_not]; omega
      have d2 : decide (k < s.size) = false := by rw [decide_eq_false_iff_not]; omega
      have HE : Hid (R = .inl 0) := by have h := HI.out; rw [drop_end s k (by omega)] at h; rw [← h]; exact rfl
      clear hj
      go_wp2_with fail
      (try simp only [Exit.inBlock, Exit.then])
      refine bodyPost_ret (results_tmp4 rfl _ _ _) rfl ?_
      exact ⟨by rw [HE.out]; rfl, HB.out⟩
end Go.Proofs.Ythfijmabagjdkaa
