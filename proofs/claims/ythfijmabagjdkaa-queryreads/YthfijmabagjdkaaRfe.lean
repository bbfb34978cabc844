import Derived.Test.YthfijmabagjdkaaRfd
namespace Go.Proofs.Ythfijmabagjdkaa
open Go.RowKit Go.Maps

theorem let_mem : ∀ n : Fin 256, (⟨#[65, 66, 67, 68, 69, 70, 71, 72, 73, 74, 75, 76, 77, 78, 79, 80, 81, 82, 83, 84, 85, 86, 87, 88, 89, 90, 97, 98, 99, 100, 101, 102, 103, 104, 105, 106, 107, 108, 109, 110, 111, 112, 113, 114, 115, 116, 117, 118, 119, 120, 121, 122, 95]⟩ : ByteArray).data.toList.contains (UInt8.ofNat n.val) = isL (n.val : Int) := by decide +kernel
theorem let_con (x : UInt8) : (⟨#[65, 66, 67, 68, 69, 70, 71, 72, 73, 74, 75, 76, 77, 78, 79, 80, 81, 82, 83, 84, 85, 86, 87, 88, 89, 90, 97, 98, 99, 100, 101, 102, 103, 104, 105, 106, 107, 108, 109, 110, 111, 112, 113, 114, 115, 116, 117, 118, 119, 120, 121, 122, 95]⟩ : ByteArray).data.toList.contains x = isL (nI x) := by
  have h := let_mem ⟨x.toNat, UInt8.toNat_lt x⟩
  simp only [UInt8.ofNat_toNat] at h
  exact h
theorem dig_mem : ∀ n : Fin 256, (⟨#[48, 49, 50, 51, 52, 53, 54, 55, 56, 57]⟩ : ByteArray).data.toList.contains (UInt8.ofNat n.val) = isD (n.val : Int) := by decide +kernel
theorem dig_con (x : UInt8) : (⟨#[48, 49, 50, 51, 52, 53, 54, 55, 56, 57]⟩ : ByteArray).data.toList.contains x = isD (nI x) := by
  have h := dig_mem ⟨x.toNat, UInt8.toNat_lt x⟩
  simp only [UInt8.ofNat_toNat] at h
  exact h
theorem ld_mem : ∀ n : Fin 256, (⟨#[65, 66, 67, 68, 69, 70, 71, 72, 73, 74, 75, 76, 77, 78, 79, 80, 81, 82, 83, 84, 85, 86, 87, 88, 89, 90, 97, 98, 99, 100, 101, 102, 103, 104, 105, 106, 107, 108, 109, 110, 111, 112, 113, 114, 115, 116, 117, 118, 119, 120, 121, 122, 95, 48, 49, 50, 51, 52, 53, 54, 55, 56, 57]⟩ : ByteArray).data.toList.contains (UInt8.ofNat n.val) = isN (n.val : Int) := by decide +kernel
theorem ld_con (x : UInt8) : (⟨#[65, 66, 67, 68, 69, 70, 71, 72, 73, 74, 75, 76, 77, 78, 79, 80, 81, 82, 83, 84, 85, 86, 87, 88, 89, 90, 97, 98, 99, 100, 101, 102, 103, 104, 105, 106, 107, 108, 109, 110, 111, 112, 113, 114, 115, 116, 117, 118, 119, 120, 121, 122, 95, 48, 49, 50, 51, 52, 53, 54, 55, 56, 57]⟩ : ByteArray).data.toList.contains x = isN (nI x) := by
  have h := ld_mem ⟨x.toNat, UInt8.toNat_lt x⟩
  simp only [UInt8.ofNat_toNat] at h
  exact h
theorem sgn_mem : ∀ n : Fin 256, (⟨#[123, 125, 40, 41, 124, 42, 43, 63, 58, 59, 44, 61, 64]⟩ : ByteArray).data.toList.contains (UInt8.ofNat n.val) = isS (n.val : Int) := by decide +kernel
theorem sgn_con (x : UInt8) : (⟨#[123, 125, 40, 41, 124, 42, 43, 63, 58, 59, 44, 61, 64]⟩ : ByteArray).data.toList.contains x = isS (nI x) := by
  have h := sgn_mem ⟨x.toNat, UInt8.toNat_lt x⟩
  simp only [UInt8.ofNat_toNat] at h
  exact h
theorem blk_mem : ∀ n : Fin 256, (⟨#[32, 9, 13, 10]⟩ : ByteArray).data.toList.contains (UInt8.ofNat n.val) = isB (n.val : Int) := by decide +kernel
theorem blk_con (x : UInt8) : (⟨#[32, 9, 13, 10]⟩ : ByteArray).data.toList.contains x = isB (nI x) := by
  have h := blk_mem ⟨x.toNat, UInt8.toNat_lt x⟩
  simp only [UInt8.ofNat_toNat] at h
  exact h

theorem results_cell4 {fn : Func} {p t u v : Tmp} {ty : TypeId} (h : fn.results = #[.cell p ty, .tmp t, .tmp u, .tmp v]) (tmps : Array Value) (P : Program) (w : World) :
    (results fn tmps).run P w = ((asAddr (tmps.getD p undef)).run P w).andThen fun a w₁ => ((loadVar ty a).run P w₁).andThen fun x w₂ => .ok (.tuple #[x, tmps.getD t undef, tmps.getD u undef, tmps.getD v undef]) w₂ := by
  simp only [results, h]
  simp [Sem.run_bind, Result.andThen]
/-- A word's value. -/
def wV (w : Wd) : Value := .agg #[.int .i64 w.k, .string ⟨w.t.toArray⟩, .int .i64 w.n, .int .i64 w.a]
/-- What the reference's Word answers at k. -/
def wdA (k : Nat) : Sum (Nat × Nat) (Wd × Nat) → Value
  | .inl (e, o) => .tuple #[.agg #[.int .i64 0, .string ⟨#[]⟩, .int .i64 0, .int .i64 0], .int .i64 0, .int .i64 (e : Int), .int .i64 ((k + o : Nat) : Int)]
  | .inr (w, n) => .tuple #[wV { w with a := (k : Int) }, .int .i64 ((k + n : Nat) : Int), .int .i64 0, .int .i64 0]
/-- The result's block. -/
structure Rb (B : Nat) (W : World) : Prop where
  c0 : W.cell? ⟨B, 0, none⟩ = some (.int .i64 0)
  c1 : W.cell? ⟨B, 1, none⟩ = some (.string ⟨#[]⟩)
  c2 : W.cell? ⟨B, 2, none⟩ = some (.int .i64 0)
  c3 : W.cell? ⟨B, 3, none⟩ = some (.int .i64 0)
  fr : ∀ o, W.frozen? ⟨B, o, none⟩ = false
theorem rb_new (w : World) : Rb w.heap.size (w.alloc (.cells #[.int .i64 0, .string ⟨#[]⟩, .int .i64 0, .int .i64 0] 41)) := by
  have h := heap_new w (.cells #[.int .i64 0, .string ⟨#[]⟩, .int .i64 0, .int .i64 0] 41)
  refine ⟨?_, ?_, ?_, ?_, fun o => Lib.frozen_of_heap h o⟩
  all_goals rw [Lib.cell_of_heap h]; rfl
theorem Rb.up {B : Nat} {W W' : World} (h : Rb B W) (hb : Below W.heap.size W W') : Rb B W' :=
  ⟨below_cell hb h.c0, below_cell hb h.c1, below_cell hb h.c2, below_cell hb h.c3, fun o => by rw [hb.frozen (p := ⟨B, o, none⟩) (show B < W.heap.size from cell_lt h.c0)]; exact h.fr o⟩
theorem bel_set4 {w W : World} {r : Nat} (h : Below w.heap.size w W) (hr : w.heap.size ≤ r) (x y z u : Value) : Below w.heap.size w ((((W.setCell ⟨r, 0, none⟩ x).setCell ⟨r, 1, none⟩ y).setCell ⟨r, 2, none⟩ z).setCell ⟨r, 3, none⟩ u) :=
  Below.setCell (Below.setCell (Below.setCell (Below.setCell h hr _) hr _) hr _) hr _
theorem cat_list (s : ByteArray) (k n : Nat) : (⟨((s.data.toList.drop k).take n).toArray⟩ : ByteArray) = s.extract k (k + n) := by
  have h := ext_list s k (k + n)
  rw [show k + n - k = n by omega] at h
  rw [← h]

set_option maxRecDepth 100000 in
set_option maxHeartbeats 8000000 in
theorem rword_any (s : ByteArray) (k : Nat) (hk : k < s.size) (hs : s.size ≤ 1000000000) (w : World) : Calls Try.prog 15 #[.string s, .int .i64 (k : Int)] w fun e w' => e = .returned (wdA k (lx (s.data.toList.drop k))) ∧ Below w.heap.size w w' := by
  have HZ : Hid (s.size ≤ 1000000000) := hs
  have HK : Hid (k < s.size) := hk
  have hix := idx_fact s k hk
  obtain ⟨x, hx⟩ : ∃ x, s.get! k = x := ⟨_, rfl⟩
  have HX : Hid (s.get! k = x) := hx
  rw [hx] at hix
  obtain ⟨R, hR⟩ : ∃ R, lx (s.data.toList.drop k) = R := ⟨_, rfl⟩
  obtain ⟨D, hD⟩ : ∃ D, s.data.toList.drop k = D := ⟨_, rfl⟩
  have HDD : Hid (s.data.toList.drop k = D) := hD
  have HDX : Hid (D = x :: s.data.toList.drop (k + 1)) := by rw [← hD, drop_at s k hk, hx]; exact rfl
  have HR : Hid (lx D = R) := by rw [← hD]; exact hR
  rw [hR]
  obtain ⟨w1, hw1⟩ : ∃ w1, w1 = w.alloc (.cells #[.int .i64 0, .string ⟨#[]⟩, .int .i64 0, .int .i64 0] 41) := ⟨_, rfl⟩
  have HW1 : Hid (w1 = w.alloc (.cells #[.int .i64 0, .string ⟨#[]⟩, .int .i64 0, .int .i64 0] 41)) := hw1
  have HRB : Hid (Rb w.heap.size w1) := by rw [hw1]; exact rb_new w
  have HB1 : Hid (Below w.heap.size w w1) := by rw [hw1]; exact bel_up _ _
  clear hk hs hx hR hD hw1
  go_enter Try.func15, Try.ntmps15
  go_upto_region 1 with fail
  rw [← HW1.out]
  clear HW1
  have q0 := HRB.out.c0
  have q1 := HRB.out.c1
  have q2 := HRB.out.c2
  have q3 := HRB.out.c3
  have g0 := HRB.out.fr 0
  have g1 := HRB.out.fr 1
  have g2 := HRB.out.fr 2
  have g3 := HRB.out.fr 3
  go_wp2_with fail
  refine (in_any (⟨#[65, 66, 67, 68, 69, 70, 71, 72, 73, 74, 75, 76, 77, 78, 79, 80, 81, 82, 83, 84, 85, 86, 87, 88, 89, 90, 97, 98, 99, 100, 101, 102, 103, 104, 105, 106, 107, 108, 109, 110, 111, 112, 113, 114, 115, 116, 117, 118, 119, 120, 121, 122, 95]⟩ : ByteArray) x (by decide) w1).mono ?_
  rintro e w9 ⟨rfl, hw9⟩
  rw [hw9, let_con]
  clear hw9 w9
  cases cL : isL (nI x) with
  | true =>
    have HE : Hid (R = if 24 < tw isN D then .inl (83, 0) else .inr (⟨1, D.take (tw isN D), 0, 0⟩, tw isN D)) := by
      show _ = _
      rw [← HR.out, HDX.out]
      simp only [lx, cL, if_true]
    have htl := tw_le isN D
    rw [← HDD.out, List.length_drop, lst_siz] at htl
    have HRUN : Hid _ := rrun_any s (⟨#[65, 66, 67, 68, 69, 70, 71, 72, 73, 74, 75, 76, 77, 78, 79, 80, 81, 82, 83, 84, 85, 86, 87, 88, 89, 90, 97, 98, 99, 100, 101, 102, 103, 104, 105, 106, 107, 108, 109, 110, 111, 112, 113, 114, 115, 116, 117, 118, 119, 120, 121, 122, 95, 48, 49, 50, 51, 52, 53, 54, 55, 56, 57]⟩ : ByteArray) k isN ld_con (by have := HZ.out; omega) (by have := HK.out; omega) (by decide) w1
    rw [HDD.out] at htl HRUN
    obtain ⟨t, ht⟩ : ∃ t, tw isN D = t := ⟨_, rfl⟩
    rw [ht] at HE htl HRUN
    have HRU : Hid (Calls Try.prog 27 #[.string s, .int .i64 (k : Int), .string (⟨#[65, 66, 67, 68, 69, 70, 71, 72, 73, 74, 75, 76, 77, 78, 79, 80, 81, 82, 83, 84, 85, 86, 87, 88, 89, 90, 97, 98, 99, 100, 101, 102, 103, 104, 105, 106, 107, 108, 109, 110, 111, 112, 113, 114, 115, 116, 117, 118, 119, 120, 121, 122, 95, 48, 49, 50, 51, 52, 53, 54, 55, 56, 57]⟩ : ByteArray)] w1 fun e w' => e = .returned (.int .i64 (t : Int)) ∧ w' = w1) := HRUN
    clear HRUN ht cL
    go_wp2_with fail
    refine HRU.out.mono ?_
    rintro e w9 ⟨rfl, hw9⟩
    rw [hw9]
    clear hw9 w9
    by_cases c24 : 24 < t
    · have d1 : decide ((24 : Int) < (t : Int)) = true := by rw [decide_eq_true_eq]; omega
      have d2 : decide (24 < t) = true := by rw [decide_eq_true_eq]; omega
      have HE2 : Hid (R = .inl (83, 0)) := by rw [HE.out, if_pos c24]; exact rfl
      clear c24 htl
      go_wp2_with fail
      (try simp only [Exit.inBlock, Exit.then])
      refine bodyPost_ret (v := wdA k R) ?_ rfl ⟨rfl, ?_⟩
      · rw [results_cell4 rfl, HE2.out]; go_simp; try rfl
      · exact bel_set4 HB1.out (Nat.le_refl _) _ _ _ _
    · have d1 : decide ((24 : Int) < (t : Int)) = false := by rw [decide_eq_false_iff_not]; omega
      have d2 : decide (24 < t) = false := by rw [decide_eq_false_iff_not]; omega
      have HE2 : Hid (wdA k R = .tuple #[.agg #[.int .i64 1, .string (s.extract k (k + t)), .int .i64 0, .int .i64 (k : Int)], .int .i64 ((k + t : Nat) : Int), .int .i64 0, .int .i64 0]) := by
        rw [HE.out, if_neg c24, ← HDD.out]
        simp only [wdA, wV]
        rw [cat_list]
        exact rfl
      obtain ⟨m, hm⟩ : ∃ m, k + t = m := ⟨_, rfl⟩
      rw [hm] at HE2
      have hwm : IntKind.i64.wrap ((k : Int) + (t : Int)) = (m : Int) := by have := HZ.out; have := HK.out; rw [IntKind.wrap_i64]; omega
      have s0 : (0 : Int) ≤ (k : Int) := by omega
      have s1 : (k : Int) ≤ (m : Int) := by omega
      have s2 : (m : Int) ≤ (s.size : Int) := by have := HK.out; omega
      have s3 : k ≤ m := by omega
      have s4 : m ≤ s.size := by have := HK.out; omega
      clear c24 htl hm
      go_wp2_with fail
      (try simp only [Exit.inBlock, Exit.then])
      refine bodyPost_ret (v := wdA k R) ?_ rfl ⟨rfl, ?_⟩
      · rw [results_cell4 rfl, HE2.out]; go_simp; try rfl
      · exact bel_set4 HB1.out (Nat.le_refl _) _ _ _ _
  | false =>
    go_wp2_with fail
    refine (in_any (⟨#[48, 49, 50, 51, 52, 53, 54, 55, 56, 57]⟩ : ByteArray) x (by decide) w1).mono ?_
    rintro e w9 ⟨rfl, hw9⟩
    rw [hw9, dig_con]
    clear hw9 w9
    cases cD : isD (nI x) with
    | true =>
      have HE : Hid (R = if 65535 < nvf 0 (D.take (tw isD D)) then .inl (84, 0) else .inr (⟨4, [], nvf 0 (D.take (tw isD D)), 0⟩, tw isD D)) := by
        show _ = _
        rw [← HR.out, HDX.out]
        simp only [lx, cL, cD, if_true, Bool.false_eq_true, if_false]
      have htl := tw_le isD D
      rw [← HDD.out, List.length_drop, lst_siz] at htl
      have HRUN : Hid _ := rrun_any s (⟨#[48, 49, 50, 51, 52, 53, 54, 55, 56, 57]⟩ : ByteArray) k isD dig_con (by have := HZ.out; omega) (by have := HK.out; omega) (by decide) w1
      have hall := tw_all isD D
      rw [HDD.out] at htl HRUN
      obtain ⟨t, ht⟩ : ∃ t, tw isD D = t := ⟨_, rfl⟩
      rw [ht] at HE htl HRUN hall
      have HRU : Hid (Calls Try.prog 27 #[.string s, .int .i64 (k : Int), .string (⟨#[48, 49, 50, 51, 52, 53, 54, 55, 56, 57]⟩ : ByteArray)] w1 fun e w' => e = .returned (.int .i64 (t : Int)) ∧ w' = w1) := HRUN
      obtain ⟨m, hm⟩ : ∃ m, k + t = m := ⟨_, rfl⟩
      have HMM : Hid (k + t = m) := hm
      have hex : (s.extract k m).data.toList = D.take t := by rw [ext_list, HDD.out, show m - k = t by omega]
      obtain ⟨T, hT⟩ : ∃ T, s.extract k m = T := ⟨_, rfl⟩
      rw [hT] at hex
      have HTS : Hid (T.size ≤ 1000000000000) := by
        rw [← hT]
        show (s.extract k m).size ≤ _
        have := HZ.out
        rw [ByteArray.size_extract]
        omega
      obtain ⟨v, hv⟩ : ∃ v, nvf 0 (D.take t) = v := ⟨_, rfl⟩
      have HNU : Hid (Calls Try.prog 28 #[.string T] w1 fun e w' => e = .returned (.int .i64 v) ∧ w' = w1) := by
        have h := rnum_any T HTS.out (by rw [hex]; exact hall) w1
        rw [hex, hv] at h
        exact h
      rw [hv] at HE
      have hwm : IntKind.i64.wrap ((k : Int) + (t : Int)) = (m : Int) := by have := HZ.out; have := HK.out; rw [IntKind.wrap_i64]; omega
      have s0 : (0 : Int) ≤ (k : Int) := by omega
      have s1 : (k : Int) ≤ (m : Int) := by omega
      have s2 : (m : Int) ≤ (s.size : Int) := by have := HK.out; omega
      have s3 : k ≤ m := by omega
      have s4 : m ≤ s.size := by have := HK.out; omega
      clear HRUN ht cL cD htl hall hex hv hm
      go_wp2_with fail
      refine HRU.out.mono ?_
      rintro e w9 ⟨rfl, hw9⟩
      rw [hw9]
      clear hw9 w9
      go_wp2_with fail
      refine HNU.out.mono ?_
      rintro e w9 ⟨rfl, hw9⟩
      rw [hw9]
      clear hw9 w9
      by_cases cb : 65535 < v
      · have d1 : decide ((65535 : Int) < v) = true := by rw [decide_eq_true_eq]; exact cb
        have HE2 : Hid (R = .inl (84, 0)) := by rw [HE.out, if_pos cb]; exact rfl
        clear cb
        go_wp2_with fail
        (try simp only [Exit.inBlock, Exit.then])
        refine bodyPost_ret (v := wdA k R) ?_ rfl ⟨rfl, ?_⟩
        · rw [results_cell4 rfl, HE2.out]; go_simp; try rfl
        · exact bel_set4 HB1.out (Nat.le_refl _) _ _ _ _
      · have d1 : decide ((65535 : Int) < v) = false := by rw [decide_eq_false_iff_not]; exact cb
        have HE2 : Hid (wdA k R = .tuple #[.agg #[.int .i64 4, .string ⟨#[]⟩, .int .i64 v, .int .i64 (k : Int)], .int .i64 (m : Int), .int .i64 0, .int .i64 0]) := by
          rw [HE.out, if_neg cb]
          simp only [wdA, wV]
          rw [HMM.out]
          exact rfl
        clear cb
        go_wp2_with fail
        (try simp only [Exit.inBlock, Exit.then])
        refine bodyPost_ret (v := wdA k R) ?_ rfl ⟨rfl, ?_⟩
        · rw [results_cell4 rfl, HE2.out]; go_simp; try rfl
        · exact bel_set4 HB1.out (Nat.le_refl _) _ _ _ _
    | false =>
      obtain ⟨y, hy⟩ : ∃ y, x.toNat = y := ⟨_, rfl⟩
      have hny : nI x = (y : Int) := by unfold nI; rw [hy]
      rw [hny] at cL cD
      have hlx : lx D = if (y : Int) = 34 then (match st 0 0 (s.data.toList.drop (k + 1)) 1 [] with | .inl e => .inl (82, e) | .inr (a, n) => .inr (⟨2, a, 0, 0⟩, n))
          else if (y : Int) = 47 then (match rg false (s.data.toList.drop (k + 1)) 1 with | none => .inl (82, 0) | some n => .inr (⟨3, (s.data.toList.drop (k + 1)).take (n - 2), 0, 0⟩, n))
          else if isS (y : Int) then .inr (⟨5, [x], 0, 0⟩, 1) else .inl (81, 0) := by
        rw [HDX.out]
        simp only [lx]
        rw [hny, cL, cD]
        simp only [Bool.false_eq_true, if_false]
        rfl
      rw [HR.out] at hlx
      rw [hy] at hix ⊢
      by_cases c34 : y = 34
      · subst c34
        rw [if_pos (by decide)] at hlx
        have HE : Hid (R = match st 0 0 (s.data.toList.drop (k + 1)) 1 [] with | .inl e => .inl (82, e) | .inr (a, n) => .inr (⟨2, a, 0, 0⟩, n)) := hlx
        clear hlx hny hy cL cD
        go_wp2_with fail
        refine (rstr_any s k HK.out HZ.out w1).mono ?_
        rintro e w5 ⟨rfl, b5⟩
        have HB5 : Hid (Below w.heap.size w w5) := HB1.out.trans (b5.mono HB1.out.size)
        have HR5 : Hid (Rb w.heap.size w5) := HRB.out.up b5
        clear b5 q0 q1 q2 q3 g0 g1 g2 g3
        have q0 := HR5.out.c0
        have q1 := HR5.out.c1
        have q2 := HR5.out.c2
        have q3 := HR5.out.c3
        have g0 := HR5.out.fr 0
        have g1 := HR5.out.fr 1
        have g2 := HR5.out.fr 2
        have g3 := HR5.out.fr 3
        have hE := HE.out
        cases hst : st 0 0 (s.data.toList.drop (k + 1)) 1 [] with
        | inl e =>
          rw [hst] at hE
          have HE2 : Hid (R = .inl (82, e)) := hE
          simp only [strA]
          clear hst hE
          go_wp2_with fail
          (try simp only [Exit.inBlock, Exit.then])
          refine bodyPost_ret (v := wdA k R) ?_ rfl ⟨rfl, ?_⟩
          · rw [results_cell4 rfl, HE2.out]; go_simp; try rfl
          · exact bel_set4 HB5.out (Nat.le_refl _) _ _ _ _
        | inr p =>
          obtain ⟨a, n⟩ := p
          rw [hst] at hE
          have HE2 : Hid (R = .inr (⟨2, a, 0, 0⟩, n)) := hE
          simp only [strA]
          clear hst hE
          go_wp2_with fail
          (try simp only [Exit.inBlock, Exit.then])
          refine bodyPost_ret (v := wdA k R) ?_ rfl ⟨rfl, ?_⟩
          · rw [results_cell4 rfl, HE2.out]; go_simp; try rfl
          · exact bel_set4 HB5.out (Nat.le_refl _) _ _ _ _
      · have e34 : ¬ ((y : Int) = 34) := by omega
        have m34 : (y == 34) = false := by simp; omega
        rw [if_neg e34] at hlx
        by_cases c47 : y = 47
        · subst c47
          rw [if_pos (by decide)] at hlx
          have HRX := rregex_any s k HK.out (by have := HZ.out; omega) w1
          have hpos := rg_pos (s.data.toList.drop (k + 1)) false 1
          obtain ⟨G, hG⟩ : ∃ G, rg false (s.data.toList.drop (k + 1)) 1 = G := ⟨_, rfl⟩
          rw [hG] at hlx HRX
          cases G with
          | none =>
            have HE2 : Hid (R = .inl (82, 0)) := hlx
            have HRY : Hid (Calls Try.prog 30 #[.string s, .int .i64 (k : Int)] w1 fun e w' => e = .returned (.int .i64 0) ∧ w' = w1) := HRX
            clear hlx hny hy cL cD hG hpos HRX
            go_wp2_with fail
            refine HRY.out.mono ?_
            rintro e w9 ⟨rfl, hw9⟩
            rw [hw9]
            clear hw9 w9
            go_wp2_with fail
            (try simp only [Exit.inBlock, Exit.then])
            refine bodyPost_ret (v := wdA k R) ?_ rfl ⟨rfl, ?_⟩
            · rw [results_cell4 rfl, HE2.out]; go_simp; try rfl
            · exact bel_set4 HB1.out (Nat.le_refl _) _ _ _ _
          | some n =>
            obtain ⟨hp1, hp2⟩ := hpos n hG
            rw [List.length_drop, lst_siz] at hp2
            obtain ⟨m, hm⟩ : ∃ m, k + n = m := ⟨_, rfl⟩
            have HRY : Hid (Calls Try.prog 30 #[.string s, .int .i64 (k : Int)] w1 fun e w' => e = .returned (.int .i64 (m : Int)) ∧ w' = w1) := by rw [← hm]; exact HRX
            obtain ⟨k1, hk1⟩ : ∃ k1, k + 1 = k1 := ⟨_, rfl⟩
            obtain ⟨m1, hm1⟩ : ∃ m1, m - 1 = m1 := ⟨_, rfl⟩
            have HE2 : Hid (wdA k R = .tuple #[.agg #[.int .i64 3, .string (s.extract k1 m1), .int .i64 0, .int .i64 (k : Int)], .int .i64 (m : Int), .int .i64 0, .int .i64 0]) := by
              rw [hlx]
              simp only [wdA, wV]
              rw [cat_list, hm, hk1, show k1 + (n - 2) = m1 by omega]
              exact rfl
            have hks := HK.out
            have nm : ¬ ((m : Int) = 0) := by omega
            have nb : (m == 0) = false := by simp; omega
            have hwk : IntKind.i64.wrap ((k : Int) + 1) = (k1 : Int) := by have := HZ.out; rw [IntKind.wrap_i64]; omega
            have hwm : IntKind.i64.wrap ((m : Int) - 1) = (m1 : Int) := by have := HZ.out; rw [IntKind.wrap_i64]; omega
            have s0 : (0 : Int) ≤ (k1 : Int) := by omega
            have s1 : (k1 : Int) ≤ (m1 : Int) := by omega
            have s2 : (m1 : Int) ≤ (s.size : Int) := by omega
            have s3 : k1 ≤ m1 := by omega
            have s4 : m1 ≤ s.size := by omega
            clear hlx hny hy cL cD hG hpos HRX hp1 hp2 hm hk1 hm1 hks
            go_wp2_with fail
            refine HRY.out.mono ?_
            rintro e w9 ⟨rfl, hw9⟩
            rw [hw9]
            clear hw9 w9
            go_wp2_with fail
            (try simp only [Exit.inBlock, Exit.then])
            refine bodyPost_ret (v := wdA k R) ?_ rfl ⟨rfl, ?_⟩
            · rw [results_cell4 rfl, HE2.out]; go_simp; try rfl
            · exact bel_set4 HB1.out (Nat.le_refl _) _ _ _ _
        · have e47 : ¬ ((y : Int) = 47) := by omega
          have m47 : (y == 47) = false := by simp; omega
          rw [if_neg e47] at hlx
          have HIN := in_any (⟨#[123, 125, 40, 41, 124, 42, 43, 63, 58, 59, 44, 61, 64]⟩ : ByteArray) x (by decide) w1
          rw [sgn_con, hny, hy] at HIN
          have HIM : Hid _ := HIN
          clear HIN
          cases cS : isS (y : Int) with
          | true =>
            rw [cS, if_pos rfl] at hlx
            obtain ⟨m, hm⟩ : ∃ m, k + 1 = m := ⟨_, rfl⟩
            have HE2 : Hid (wdA k R = .tuple #[.agg #[.int .i64 5, .string (s.extract k m), .int .i64 0, .int .i64 (k : Int)], .int .i64 (m : Int), .int .i64 0, .int .i64 0]) := by
              rw [hlx]
              simp only [wdA, wV]
              have h := cat_list s k 1
              rw [HDD.out, HDX.out, hm] at h
              rw [← h, hm]
              exact rfl
            have hks := HK.out
            have hwk : IntKind.i64.wrap ((k : Int) + 1) = (m : Int) := by have := HZ.out; rw [IntKind.wrap_i64]; omega
            have s0 : (0 : Int) ≤ (k : Int) := by omega
            have s1 : (k : Int) ≤ (m : Int) := by omega
            have s2 : (m : Int) ≤ (s.size : Int) := by omega
            have s3 : k ≤ m := by omega
            have s4 : m ≤ s.size := by omega
            clear hlx hny hy cL cD hm hks
            go_wp2_with fail
            refine Calls.mono HIM.out ?_
            rintro e w9 ⟨rfl, hw9⟩
            rw [hw9, cS]
            clear hw9 w9
            go_wp2_with fail
            (try simp only [Exit.inBlock, Exit.then])
            refine bodyPost_ret (v := wdA k R) ?_ rfl ⟨rfl, ?_⟩
            · rw [results_cell4 rfl, HE2.out]; go_simp; try rfl
            · exact bel_set4 HB1.out (Nat.le_refl _) _ _ _ _
          | false =>
            rw [cS, if_neg (by decide)] at hlx
            have HE2 : Hid (R = .inl (81, 0)) := hlx
            clear hlx hny hy cL cD
            go_wp2_with fail
            refine Calls.mono HIM.out ?_
            rintro e w9 ⟨rfl, hw9⟩
            rw [hw9, cS]
            clear hw9 w9
            go_wp2_with fail
            (try simp only [Exit.inBlock, Exit.then])
            refine bodyPost_ret (v := wdA k R) ?_ rfl ⟨rfl, ?_⟩
            · rw [results_cell4 rfl, HE2.out]; go_simp; try rfl
            · exact bel_set4 HB1.out (Nat.le_refl _) _ _ _ _
end Go.Proofs.Ythfijmabagjdkaa
