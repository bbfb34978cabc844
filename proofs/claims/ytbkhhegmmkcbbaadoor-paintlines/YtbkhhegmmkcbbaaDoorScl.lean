import Derived.Test.YtbkhhegmmkcbbaaDoorScu
namespace Go.Proofs.YtbkhhegmmkcbbaaDoor
open Go.RowKit Go.Maps

theorem made_rC (n : Nat) : (madeCells (Value.int .i64 0).cells (n * 1)).toList = rC (List.replicate n 0) := by
  refine List.ext_getElem? fun k => ?_
  by_cases hk : k < n
  · simp [madeCells, hk, rC, Value.cells, Nat.mod_one]
  · simp [madeCells, hk, rC]
/-- Free ones, up to a place. -/
def rw0 (n i : Nat) : List Nat := (List.range n).map fun j => if j < i then j else 0
theorem rw0_len (n i : Nat) : (rw0 n i).length = n := by unfold rw0; rw [List.length_map, List.length_range]
theorem rw0_start (n : Nat) : List.replicate n 0 = rw0 n 0 := by
  refine List.ext_getElem? fun k => ?_
  unfold rw0
  rw [List.getElem?_map]
  by_cases h : k < n
  · rw [List.getElem?_range h, List.getElem?_replicate_of_lt h]; rfl
  · rw [List.getElem?_eq_none (by rw [List.length_replicate]; omega), List.getElem?_eq_none (by rw [List.length_range]; omega)]; rfl
theorem rw0_step (n i : Nat) (h : i < n) : (rw0 n i).set i i = rw0 n (i + 1) := by
  refine List.ext_getElem? fun k => ?_
  unfold rw0
  by_cases e : i = k
  · subst e
    rw [List.getElem?_set_self (by rw [List.length_map, List.length_range]; exact h), List.getElem?_map, List.getElem?_range h]
    simp
  · rw [List.getElem?_set_ne e, List.getElem?_map, List.getElem?_map]
    cases hq : (List.range n)[k]? with
    | none => rfl
    | some j =>
      have hj : j = k := by
        have h1 := (List.getElem?_eq_some_iff.1 hq).2
        rw [List.getElem_range] at h1; exact h1.symm
      subst hj
      simp only [Option.map_some, Option.some.injEq]
      by_cases h2 : j < i
      · rw [if_pos h2, if_pos (by omega)]
      · rw [if_neg h2, if_neg (by omega)]
theorem rw0_end (n : Nat) : rw0 n n = List.range n := by
  unfold rw0
  refine Eq.trans (List.map_congr_left (g := id) fun x hx => ?_) (List.map_id _)
  rw [if_pos (List.mem_range.1 hx)]; rfl
set_option maxRecDepth 100000 in
set_option maxHeartbeats 8000000 in
/-- A row of free numbers. -/
theorem newRow_any (n : Nat) (hn : n ≤ 4398046511104) (w : World) : Calls Tryd.prog 22 #[.int .i64 (n : Int)] w fun e w' => ∃ g, e = .returned (.slice (some ⟨g, 0, none⟩) n n) ∧ w'.ownsRow w.heap.size 3 1 (.slice (some ⟨g, 0, none⟩) n n) n (rC (List.range n)) ∧ Below w.heap.size w w' := by
  obtain ⟨iI, hiI, hi0, hi1, hi2⟩ := info_parts infoI0
  have HN : Hid (n ≤ 4398046511104) := hn
  clear hn
  go_enter Tryd.func22, Tryd.ntmps22
  have hn0 : (0 : Int) ≤ (n : Int) := by omega
  go_upto_region 3 with (refine wpList_make_full _ rfl _ _ 78 rfl w.heap.size 3 iI _ 1 Tryd.underlying78 hiI hi0 hi1 .i64 .i64 _ _ n rfl rfl rfl rfl (by rw [hi2]; have := HN.out; omega) (by have := HN.out; unfold maxLen; omega) (Nat.le_refl _) ?_; intro w1 ho1 hg1; have HO1 : Hid (w1.ownsRow w.heap.size 3 1 (.slice (some ⟨w.heap.size, 0, none⟩) n n) n (rC (rw0 n 0))) := (by rw [← rw0_start, ← made_rC]; exact ho1); have HB1 : Hid (Below w.heap.size w w1) := (Below.refl _ _).grown hg1 (Nat.le_refl _) (fun r hr => by cases hr); clear ho1 hg1)
  obtain ⟨g, hg⟩ : ∃ g, w.heap.size = g := ⟨_, rfl⟩
  have HG : Hid (w.heap.size = g) := hg
  rw [hg] at HO1 HB1 ⊢
  clear hg hn0
  go_loopg [9] n (fun gm v9 wr => ∃ i : Nat, v9 = .int .i64 (i : Int) ∧ Hid (i ≤ n ∧ gm = n - i) ∧ Hid (wr.ownsRow g 3 1 (.slice (some ⟨g, 0, none⟩) n n) n (rC (rw0 n i))) ∧ Hid (Below g w wr))
  case atStart => exact ⟨0, rfl, ⟨Nat.zero_le _, rfl⟩, HO1, HB1⟩
  case round =>
    clear HO1 HB1
    obtain ⟨i, rfl, HI, HO, HB⟩ := hrel
    by_cases hi : i < n
    · have e1 : decide ((i : Int) < (n : Int)) = true := by rw [decide_eq_true_eq]; omega
      have e2 : decide (i < n) = true := by rw [decide_eq_true_eq]; omega
      have b1 : (i : Int) < (n : Int) := by omega
      have b2 : i < n := hi
      have b3 : (0 : Int) ≤ (i : Int) := by omega
      have HIL : Hid (i < n) := hi
      have hwi := w64n i (by have := HN.out; omega)
      have c0 := row_at HO.out i _ (rC_get (rw0 n i) i (by rw [rw0_len]; exact hi))
      have fz := row_frz HO.out i
      have HO2 : Hid ((wr.setCell ⟨g, i, none⟩ (.int .i64 (i : Int))).ownsRow g 3 1 (.slice (some ⟨g, 0, none⟩) n n) n (rC (rw0 n (i + 1)))) := by
        have h9 := row_set HO.out i (.int .i64 (i : Int))
        rw [rC_set, rw0_step n i hi] at h9
        exact h9
      have HB2 : Hid (Below g w (wr.setCell ⟨g, i, none⟩ (.int .i64 (i : Int)))) := Below.setCell HB.out (Nat.le_refl _) _
      clear hi
      go_wp2_with fail
      go_roundg (n - (i + 1))
      case measure => have := HI.out; have := HIL.out; omega
      case rel => exact ⟨i + 1, by simp, ⟨HIL.out, rfl⟩, HO2, HB2⟩
    · have e1 : decide ((i : Int) < (n : Int)) = false := by rw [decide_eq_false_iff_not]; omega
      have e2 : decide (i < n) = false := by rw [decide_eq_false_iff_not]; omega
      have hin : i = n := by have := HI.out; omega
      clear hi
      go_wp2_with fail
      go_ret
      refine ⟨g, rfl, ?_, by rw [HG.out]; exact HB.out⟩
      have h9 := HO.out
      rw [hin, rw0_end] at h9
      rw [HG.out]
      exact h9
end Go.Proofs.YtbkhhegmmkcbbaaDoor
