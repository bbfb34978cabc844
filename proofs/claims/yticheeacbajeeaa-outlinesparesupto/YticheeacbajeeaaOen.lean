import Derived.Test.YticheeacbajeeaaOmk
namespace Go.Proofs.Yticheeacbajeeaa
open Go.RowKit Go.Maps

/-- The ends of subtrees, from a place on. -/
def ew (T : List Nd) (i : Nat) : List Int := List.replicate i 0 ++ (List.range' i (T.length - i)).map fun a => ((eA (kds T) a : Nat) : Int)
def ends (T : List Nd) : List Int := (List.range T.length).map fun a => ((eA (kds T) a : Nat) : Int)
theorem ew_len (T : List Nd) (i : Nat) (h : i ≤ T.length) : (ew T i).length = T.length := by unfold ew; simp; omega
theorem ew_zero (T : List Nd) : ew T 0 = ends T := by unfold ew ends; rw [List.range_eq_range']; simp
theorem ew_top (T : List Nd) : ew T T.length = List.replicate T.length 0 := by unfold ew; simp
theorem ew_get (T : List Nd) (i a : Nat) (h1 : i ≤ a) (h2 : a < T.length) : (ew T i).getD a 0 = ((eA (kds T) a : Nat) : Int) := by
  unfold ew
  rw [List.getD_eq_getElem?_getD, List.getElem?_append_right (by simp; exact h1), List.length_replicate, List.getElem?_map, List.getElem?_range' (by omega)]
  simp
  rw [show i + (a - i) = a by omega]
theorem ew_set (T : List Nd) (i : Nat) (h : i < T.length) : (ew T (i + 1)).set i ((eA (kds T) i : Nat) : Int) = ew T i := by
  unfold ew
  rw [List.replicate_succ', List.append_assoc, List.set_append_right _ _ (by simp), List.length_replicate, Nat.sub_self]
  have e : T.length - i = (T.length - (i + 1)) + 1 := by omega
  rw [e, List.range'_succ]
  simp
theorem infoI : (Try.prog.info? 3).map (fun i => (i.zero, i.size, i.bytes)) = some (some (.int .i64 0), 1, 8) := by kernel_rfl
theorem made_ints (n : Nat) : (madeCells (Value.int .i64 0).cells (n * 1)).toList = iC (List.replicate n 0) := by
  refine List.ext_getElem? fun k => ?_
  by_cases hk : k < n
  · simp [madeCells, hk, iC, Value.cells, Nat.mod_one]
  · simp [madeCells, hk, iC]
theorem iC_setn (l : List Int) (k : Nat) (z : Int) : (iC l).set k (.int .i64 z) = iC (l.set k z) := by unfold iC; rw [List.map_set]
theorem w64z (z : Int) (h0 : -9223372036854775808 ≤ z) (h1 : z ≤ 9223372036854775807) : IntKind.i64.wrap z = z := by rw [IntKind.wrap_i64]; omega
set_option maxRecDepth 100000 in
set_option maxHeartbeats 8000000 in
theorem ends_any {v : Value} {T : List Nd} (w : World) (h : Ns w v T) (hs : Sm T) (hf : Fo (kds T)) : Calls Try.prog 35 #[v] w fun e w' => ∃ v', e = .returned v' ∧ w'.ownsRow w.heap.size 3 1 v' (ends T).length (iC (ends T)) ∧ Below w.heap.size w w' := by
  obtain ⟨iI, hiI, hx0, hx1, hx2⟩ := info_parts infoI
  have HT : Hid (Ns w v T) := h
  have HF : Hid (Fo (kds T)) := hf
  obtain ⟨a, cp, rfl⟩ := h.form
  obtain ⟨n, hn⟩ : ∃ n, T.length = n := ⟨_, rfl⟩
  rw [hn] at HT ⊢
  have HN : Hid (T.length = n) := hn
  have HZ : Hid (n * 72 + 4096 ≤ 140737488355328) := by have h9 := hs; unfold Sm at h9; rw [hn] at h9; exact h9
  have hw0 := w64z ((n : Int) - 1) (by omega) (by have := HZ.out; omega)
  clear h hs hf hn
  go_enter Try.func35, Try.ntmps35
  go_upto_region 3 with (refine wpList_make_full _ rfl _ _ 66 rfl w.heap.size 3 iI _ 1 Try.underlying66 hiI hx0 hx1 .i64 .i64 _ _ n rfl rfl rfl rfl (by rw [hx2]; have := HZ.out; omega) (by have := HZ.out; unfold maxLen; omega) (Nat.le_refl _) ?_; intro w1 ho1 hg1; have HO1 : Hid (w1.ownsRow w.heap.size 3 1 (.slice (some ⟨w.heap.size, 0, none⟩) n n) n (iC (ew T n))) := (by have e2 : ew T n = List.replicate n 0 := (by rw [← HN.out]; exact ew_top T); rw [e2, ← made_ints]; exact ho1); have HB1 : Hid (Below w.heap.size w w1) := (Below.refl _ _).grown hg1 (Nat.le_refl _) (fun r hr => by cases hr); clear ho1 hg1)
  obtain ⟨g, hg⟩ : ∃ g, w.heap.size = g := ⟨_, rfl⟩
  have HG : Hid (w.heap.size = g) := hg
  rw [hg] at HO1 ⊢
  clear hg hw0
  go_loopg [4] n (fun gm v4 wr => ∃ i : Nat, v4 = .int .i64 ((i : Int) - 1) ∧ Hid (i ≤ n ∧ gm = i) ∧ Hid (wr.ownsRow g 3 1 (.slice (some ⟨g, 0, none⟩) n n) n (iC (ew T i))) ∧ Hid (Below g w wr))
  case atStart => exact ⟨n, rfl, ⟨Nat.le_refl _, rfl⟩, HO1, by rw [← HG.out]; exact HB1⟩
  case round =>
    clear HO1 HB1
    obtain ⟨i, rfl, HI, HO, HB⟩ := hrel
    cases i with
    | zero =>
      have d1 : decide ((0 : Int) ≤ ((0 : Nat) : Int) - 1) = false := by decide
      go_wp2_with fail
      go_ret
      refine ⟨_, rfl, ?_, by rw [HG.out]; exact HB.out⟩
      have h9 := HO.out
      rw [ew_zero] at h9
      have e9 : (ends T).length = n := by unfold ends; rw [List.length_map, List.length_range, HN.out]
      rw [HG.out, e9]
      exact h9
    | succ a0 =>
      have ha : a0 < n := by have := HI.out; omega
      have HA : Hid (a0 < n) := ha
      have hat : a0 < T.length := by rw [HN.out]; exact ha
      have HAT : Hid (a0 < (kds T).length) := by show _ < _; rw [kds_len]; exact hat
      obtain ⟨s1, s2, s3, s4⟩ := HF.out.step a0 HAT.out
      have hb' : Below w.heap.size w wr := by rw [HG.out]; exact HB.out
      obtain ⟨g2, o2, rfl, c5⟩ := (HT.out.up hb').kid a0 hat
      rw [← kds_get, s2] at c5
      have HS3 : Hid (kA (kds T) a0 ≤ rA (kds T) (a0 + 1)) := s3
      obtain ⟨K, hK⟩ : ∃ K, kA (kds T) a0 = K := ⟨_, rfl⟩
      have HK : Hid (kA (kds T) a0 = K) := hK
      rw [hK] at c5 HS3
      have HKN : Hid (K ≤ n) := by
        have h9 := HF.out.le (a0 + 1)
        rw [kds_len, HN.out] at h9
        have := HS3.out
        show _ ≤ _
        omega
      have ea : (((a0 + 1 : Nat) : Int) - 1) = (a0 : Int) := by omega
      rw [ea]
      have d1 : decide ((0 : Int) ≤ (a0 : Int)) = true := by rw [decide_eq_true_eq]; omega
      have d2 : (a0 : Int) < (n : Int) := by omega
      have hw1 := w64n a0 (by have := HZ.out; omega)
      obtain ⟨a1, ha1⟩ : ∃ a1, a0 + 1 = a1 := ⟨_, rfl⟩
      have HA1 : Hid (a0 + 1 = a1) := ha1
      rw [ha1] at hw1 HO
      clear ha hat s1 s2 s3 s4 hb' hK ea ha1
      go_upto_region 7 with fail
      clear c5 d1 d2 hw1
      obtain ⟨wo, hwo⟩ : ∃ wo, wo = wr := ⟨_, rfl⟩
      rw [← hwo] at HO HB ⊢
      clear hwo
      go_loopg [5, 23] K (fun gm v5 v23 wr => ∃ j : Nat, v23 = .int .i64 (j : Int) ∧ v5 = .int .i64 ((wA (kds T) (a0 + 1) j : Nat) : Int) ∧ Hid (j ≤ K ∧ gm = K - j) ∧ wr = wo)
      case atStart => exact ⟨0, rfl, by rw [wA_zero, HA1.out], ⟨Nat.zero_le _, rfl⟩, rfl⟩
      case round =>
        obtain ⟨j, rfl, rfl, HJ, hwr⟩ := hrel
        subst hwr
        by_cases hj : j < K
        · have e1 : decide ((j : Int) < (K : Int)) = true := by rw [decide_eq_true_eq]; omega
          have e2 : decide (j < K) = true := by rw [decide_eq_true_eq]; omega
          have HJL : Hid (j < K) := hj
          have hlt := HF.out.lt (a0 + 1) j (by have := HAT.out; omega) (by have := HS3.out; omega)
          have hge := (HF.out.end (a0 + 1) j (by have := HAT.out; omega) (by have := HS3.out; omega)).2.2
          have hnx := HF.out.next (a0 + 1) j (by have := HS3.out; omega)
          obtain ⟨x, hx⟩ : ∃ x, wA (kds T) (a0 + 1) j = x := ⟨_, rfl⟩
          rw [hx] at hlt hge hnx ⊢
          rw [kds_len] at hlt
          have hcell := row_at HO.out x _ (iC_get (ew T a1) x (by rw [ew_len T a1 (by have := HA1.out; have := HI.out; rw [HN.out]; omega)]; exact hlt))
          rw [ew_get T a1 x (by have := HA1.out; omega) hlt] at hcell
          have d2 : (x : Int) < (n : Int) := by have := HN.out; omega
          have d3 : x < n := by have := HN.out; omega
          have hwj := w64n j (by have := HKN.out; have := HZ.out; omega)
          obtain ⟨E, hE⟩ : ∃ E, eA (kds T) x = E := ⟨_, rfl⟩
          rw [hE] at hcell hnx
          have HNX : Hid (wA (kds T) (a0 + 1) (j + 1) = E) := hnx
          clear hj hlt hge hnx hx hE
          go_wp2_with fail
          go_roundg (K - (j + 1))
          case measure => have := HJ.out; have := HJL.out; omega
          case rel => exact ⟨j + 1, by simp, by rw [HNX.out], ⟨HJL.out, rfl⟩, rfl⟩
        · have e1 : decide ((j : Int) < (K : Int)) = false := by rw [decide_eq_false_iff_not]; omega
          have e2 : decide (j < K) = false := by rw [decide_eq_false_iff_not]; omega
          have hjk : j = K := by have := HJ.out; omega
          have heq := HF.out.eq a0 HAT.out
          rw [HK.out, ← hjk] at heq
          rw [← heq]
          have hO := HO.out
          obtain ⟨_, cur, hcur⟩ := row_tag hO g rfl
          have f0 := Lib.frozen_of_heap hcur a0
          have hcell := row_at hO a0 _ (iC_get (ew T a1) a0 (by rw [ew_len T a1 (by have := HA1.out; have := HI.out; rw [HN.out]; omega), HN.out]; exact HA.out))
          have d2 : (a0 : Int) < (n : Int) := by have := HA.out; omega
          have d3 : a0 < n := HA.out
          have hwm := w64z ((a0 : Int) - 1) (by omega) (by have := HZ.out; omega)
          obtain ⟨E, hE⟩ : ∃ E, eA (kds T) a0 = E := ⟨_, rfl⟩
          have HE : Hid (eA (kds T) a0 = E) := hE
          rw [hE]
          clear hj hjk heq hO hcur hE
          go_wp2_with fail
          go_roundg a0
          case measure => have := HI.out; omega
          case rel =>
            refine ⟨a0, rfl, ⟨Nat.le_of_lt HA.out, rfl⟩, ?_, Below.setCell HB.out (Nat.le_refl _) _⟩
            have h9 := row_set HO.out a0 (.int .i64 (E : Int))
            rw [iC_setn, ← HE.out, ← HA1.out, ew_set T a0 (by rw [HN.out]; exact HA.out)] at h9
            rw [← HE.out]
            exact h9
end Go.Proofs.Yticheeacbajeeaa
