import Derived.Test.YtodncbkdlnepjaaFls
import Derived.Laws.MakeOwn
namespace Go.Proofs.Ytodncbkdlnepjaa
open Go.RowKit Go.Maps

theorem info4 : (Try.prog.info? 4).map (fun i => (i.zero, i.size, i.bytes)) = some (some (.bool false), 1, 1) := by kernel_rfl
theorem info29 : (Try.prog.info? 29).map (fun i => (i.zero, i.size, i.bytes)) = some (some (.int .u64 0), 1, 8) := by kernel_rfl
theorem made_list (z : Value) (n : Nat) : madeCells #[z] n = ((List.range n).map fun _ => z).toArray := by
  refine Array.ext_getElem? fun k => ?_
  by_cases hk : k < n
  · simp [madeCells, hk, Nat.mod_one]
  · simp [madeCells, hk]
/-- A list that is filled, element by element. -/
def fil (f : Nat → Value) (z : Value) (n i : Nat) : List Value := (List.range n).map fun j => if j < i then f j else z
theorem fil_len (f : Nat → Value) (z : Value) (n i : Nat) : (fil f z n i).length = n := by unfold fil; rw [List.length_map, List.length_range]
theorem fil_get (f : Nat → Value) (z : Value) (n i j : Nat) (h : j < n) : (fil f z n i)[j]? = some (if j < i then f j else z) := by
  unfold fil; rw [List.getElem?_map, List.getElem?_range h]; rfl
theorem fil_set (f : Nat → Value) (z : Value) (n i : Nat) (h : i < n) : (fil f z n i).set i (f i) = fil f z n (i + 1) := by
  refine List.ext_getElem? fun k => ?_
  by_cases hk : k < n
  · rw [fil_get _ _ _ _ _ hk]
    by_cases e : i = k
    · subst e
      rw [List.getElem?_set_self (by rw [fil_len]; exact h), if_pos (by omega)]
    · rw [List.getElem?_set_ne e, fil_get _ _ _ _ _ hk]
      by_cases h2 : k < i
      · rw [if_pos h2, if_pos (by omega)]
      · rw [if_neg h2, if_neg (by omega)]
  · rw [List.getElem?_eq_none (by rw [List.length_set, fil_len]; omega), List.getElem?_eq_none (by rw [fil_len]; omega)]
theorem fil_zero (f : Nat → Value) (z : Value) (n : Nat) : fil f z n 0 = (List.range n).map fun _ => z := by
  unfold fil
  refine List.map_congr_left fun j _ => ?_
  rw [if_neg (by omega)]
theorem fil_all (f : Nat → Value) (z : Value) (n : Nat) : fil f z n n = (List.range n).map f := by
  unfold fil
  refine List.map_congr_left fun j hj => ?_
  rw [if_pos (List.mem_range.1 hj)]

set_option maxRecDepth 100000 in
set_option maxHeartbeats 8000000 in
theorem nullable_any {v0 v1 v2 : Value} {nT nS : Nat} {P : List Pd} (w : World) (h : Gm w v0 v1 v2 nT nS P) (hz : Gz nT nS P) :
    Calls Try.prog 12 #[.agg #[v0, v1, v2]] w fun e w' => (snd nT nS P = false → e = .returned (.slice none 0 0)) ∧ (snd nT nS P = true → Fk nT (P.map pq) (fin nT (P.map pq)) ∧ ∃ ob, e = .returned (.slice (some ⟨ob, 0, none⟩) (nT + nS) (nT + nS)) ∧ w'.heap[ob]? = some (.cells ((List.range (nT + nS)).map fun j => .bool (fin nT (P.map pq) j).2).toArray 4 (0, 0))) ∧ Below w.heap.size w w' := by
  have HG : Hid (Gm w v0 v1 v2 nT nS P) := h
  have HZ : Hid _ := hz
  obtain ⟨a0, c0, a1, c1, a2, c2, rfl, rfl, rfl⟩ := h.form
  clear h hz
  obtain ⟨n, hn⟩ : ∃ n, P.length = n := ⟨_, rfl⟩
  rw [hn] at HG ⊢
  clear hn
  obtain ⟨W1, hW1⟩ : ∃ W1, W1 = w.alloc (.cells #[.slice a0 nT c0, .slice a1 nS c1, .slice a2 n c2] 26) := ⟨_, rfl⟩
  have HX : Hid (W1.heap[w.heap.size]? = some (.cells #[.slice a0 nT c0, .slice a1 nS c1, .slice a2 n c2] 26 (0, 0))) := by rw [hW1]; exact heap_new w _
  have HB1 : Hid (Below w.heap.size w W1) := by rw [hW1]; exact bel_up _ _
  have HG1 : Hid _ := HG.out.up HB1.out
  go_enter Try.func12, Try.ntmps12
  go_upto_region 1 with fail
  rw [← hW1]
  clear hW1
  obtain ⟨gb, hgb⟩ : ∃ gb, w.heap.size = gb := ⟨_, rfl⟩
  have HGB : Hid (w.heap.size = gb) := hgb
  rw [hgb] at HX ⊢
  clear hgb
  have p0 := rcell HX.out 0 (.slice a0 nT c0) rfl
  have p1 := rcell HX.out 1 (.slice a1 nS c1) rfl
  have p2 := rcell HX.out 2 (.slice a2 n c2) rfl
  have HCC : Hid (∀ W, Below W1.heap.size W1 W → W.cell? ⟨gb, 0, none⟩ = some (.slice a0 nT c0) ∧ W.cell? ⟨gb, 1, none⟩ = some (.slice a1 nS c1) ∧ W.cell? ⟨gb, 2, none⟩ = some (.slice a2 n c2)) := fun W hW => ⟨below_cell hW p0, below_cell hW p1, below_cell hW p2⟩
  cases hs : snd nT nS P with
  | false =>
    have HSN : Hid (snd nT nS P = false) := hs
    clear hs
    go_wp2_with (go_at_call 27; refine (sound_any W1 HG1.out HZ.out).mono ?_; rintro e w2 ⟨rfl, hb2⟩; have B2 : Hid (Below W1.heap.size W1 w2) := hb2; clear hb2; rw [HSN.out])
    go_ret
    exact ⟨fun _ => rfl, fun h => (by rw [HSN.out] at h; cases h), below_trans HB1.out B2.out⟩
  | true =>
  have HSN : Hid (snd nT nS P = true) := hs
  clear hs
  go_upto_region 3 with (go_at_call 27; refine (sound_any W1 HG1.out HZ.out).mono ?_; rintro e w2 ⟨rfl, hb2⟩; have B2 : Hid (Below W1.heap.size W1 w2) := hb2; clear hb2; rw [HSN.out])
  clear p0 p1 p2
  obtain ⟨p0, p1, p2⟩ := HCC.out w2 B2.out
  go_upto_region 4 with (first | (go_at_call 29; refine (settled_any w2 (HG1.out.up B2.out) HZ.out HSN.out).mono ?_; rintro e w4 ⟨rfl, hk1, hk2, hb4⟩; have B4 : Hid (Below W1.heap.size W1 w4) := below_trans B2.out hb4; have HFK : Hid (Fk nT (P.map pq) (fin nT (P.map pq))) := fk_of (snd_mem HSN.out).1.2.1 hk1 hk2; clear hb4 hk1 hk2) | (refine wpList_alloc_row rfl 65 rfl _ zero65 ?_; (try simp only [Act.put, List.setIfInBounds_toArray, List.set_cons_zero, List.set_cons_succ])) | (refine wpList_store_row rfl 65 _ _ rfl _ _ _ (heap_new _ _) (size65 _) (by rw [List.size_toArray, List.size_toArray, sC_len, sC_len]) (one65 _) rfl rfl ?_; (try simp only [Act.put])))
  rw [setRow_new]
  clear p0 p1 p2
  obtain ⟨S, hS⟩ : ∃ S, fin nT (P.map pq) = S := ⟨_, rfl⟩
  have HSE : Hid (fin nT (P.map pq) = S) := hS
  rw [hS]
  clear hS
  obtain ⟨W5, hW5⟩ : ∃ W5, W5 = w4.alloc (.cells (sC S).toArray 65) := ⟨_, rfl⟩
  rw [← hW5]
  have B5 : Hid (Below W1.heap.size W1 W5) := by rw [hW5]; exact below_trans B4.out (bel_up _ _)
  have HS5 : Hid (Sb W5 w4.heap.size S) := by show Sb _ _ _; unfold Sb; rw [hW5]; exact heap_new _ _
  obtain ⟨s0, hs0⟩ : ∃ g, w4.heap.size = g := ⟨_, rfl⟩
  rw [hs0] at HS5 ⊢
  clear hs0 hW5
  obtain ⟨p0, p1, p2⟩ := HCC.out W5 B5.out
  obtain ⟨N, hN⟩ : ∃ N, nT + nS = N := ⟨_, rfl⟩
  have HNN : Hid (nT + nS = N) := hN
  have HNL : Hid (N ≤ 192) := by have := (snd_mem HSN.out).1; show N ≤ 192; omega
  clear hN
  have hmk : ∀ W : World, (Instr.makeSlice 37 (.int .i64 (N : Int)) (.int .i64 (N : Int))).run Try.prog W = .ok (.slice (some ⟨W.heap.size, 0, none⟩) N N) (W.alloc (.cells ((List.range N).map fun _ => (.bool false : Value)).toArray 4)) := fun W => by
    obtain ⟨i0, hi, hz0, hz1, hz2⟩ := info_parts info4
    have h := run_make W 37 4 i0 (.bool false) Try.underlying37 hi hz0 .i64 .i64 (N : Int) (N : Int) (by omega) (Int.le_refl _) (by rw [hz2]; have := HNL.out; omega) (by have := HNL.out; omega)
    rw [hz1] at h
    simp only [Int.toNat_natCast, Nat.mul_one] at h
    rw [← made_list]
    exact h
  go_upto_region 5 with (go_at_call 32; refine (symbols_any W5 (HG1.out.up B5.out) HZ.out).mono ?_; rintro e w6 ⟨rfl, hb6⟩; have B6 : Hid (Below W5.heap.size W5 w6) := hb6; clear hb6; rw [HNN.out])
  clear hmk p0 p1 p2
  obtain ⟨W7, hW7⟩ : ∃ W7, W7 = w6.alloc (.cells ((List.range N).map fun _ => (.bool false : Value)).toArray 4) := ⟨_, rfl⟩
  rw [← hW7]
  have B7 : Hid (Below w.heap.size w W7) := by rw [hW7]; exact below_trans HB1.out (below_trans B5.out (below_trans B6.out (bel_up _ _)))
  have HO7 : Hid (W7.heap[w6.heap.size]? = some (.cells (fil (fun j => .bool (S j).2) (.bool false) N 0).toArray 4 (0, 0))) := by rw [hW7, fil_zero]; exact heap_new _ _
  have HS7 : Hid (Sb W7 s0 S) := HS5.out.up (by rw [hW7]; exact below_trans B6.out (bel_up _ _))
  obtain ⟨o0, ho0⟩ : ∃ g, w6.heap.size = g := ⟨_, rfl⟩
  have HNE : Hid (s0 < o0) := by
    have h1 := lt_of_heap HS5.out
    have h2 := B6.out.size
    show s0 < o0
    omega
  have HWO : Hid (w.heap.size ≤ o0) := by
    have h1 := HB1.out.size
    have h2 := B5.out.size
    have h3 := B6.out.size
    show _ ≤ o0
    omega
  rw [ho0] at HO7 ⊢
  clear ho0 hW7 HS5 B5 B6 B4 B2 HCC
  go_upto_region 6 with fail
  go_loopg [16] N (fun gm v16 wr => ∃ i : Nat, v16 = .int .i64 (i : Int) ∧ Hid (Below w.heap.size w wr) ∧ Hid (i ≤ N ∧ gm = N - i) ∧ Hid (Sb wr s0 S) ∧ Hid (wr.heap[o0]? = some (.cells (fil (fun j => .bool (S j).2) (.bool false) N i).toArray 4 (0, 0))))
  case atStart => exact ⟨0, rfl, B7, ⟨Nat.zero_le _, rfl⟩, HS7, HO7⟩
  case round =>
    clear B7 HS7 HO7
    obtain ⟨i, rfl, HBW, HI, HSB, HO⟩ := hrel
    by_cases hi : i < N
    · have e1 : decide ((i : Int) < (N : Int)) = true := by rw [decide_eq_true_eq]; omega
      have e2 : decide (i < N) = true := by rw [decide_eq_true_eq]; omega
      have e5 : (i : Int) < (N : Int) := by omega
      have e6 : i < N := hi
      have e7 : (i : Int) < 192 := by have := HNL.out; omega
      have e8 : i < 192 := by have := HNL.out; omega
      have HIL : Hid (i < N) := hi
      have hwr := w64n i (by have := HNL.out; omega)
      obtain ⟨k1, k2⟩ := HSB.out.get i e8
      have f1 : wr.frozen? ⟨o0, i, none⟩ = false := Lib.frozen_of_heap HO.out i
      have c1 := rcell HO.out i _ (by rw [List.getElem?_toArray]; exact fil_get _ _ _ _ _ hi)
      rw [if_neg (by omega)] at c1
      clear hi
      go_wp2_with fail
      have HO2 : Hid ((wr.setCell ⟨o0, i, none⟩ (.bool (S i).2)).heap[o0]? = some (.cells (fil (fun j => .bool (S j).2) (.bool false) N (i + 1)).toArray 4 (0, 0))) := by
        show _ = _
        rw [blk_set _ HO.out, List.setIfInBounds_toArray, fil_set (fun j => .bool (S j).2) _ N i HIL.out]
      go_roundg (N - (i + 1))
      case measure => have := HI.out; have := HIL.out; omega
      case rel => exact ⟨i + 1, by first | rfl | (rw [show (i : Int) + 1 = ((i + 1 : Nat) : Int) by omega]), HBW.out.setCell (p := ⟨o0, i, none⟩) HWO.out _, ⟨HIL.out, rfl⟩, (Below.heap_setCell wr ⟨o0, i, none⟩ _ s0 (by have := HNE.out; show s0 ≠ o0; omega)).trans HSB.out, HO2⟩
    · have e1 : decide ((i : Int) < (N : Int)) = false := by rw [decide_eq_false_iff_not]; omega
      have e2 : decide (i < N) = false := by rw [decide_eq_false_iff_not]; omega
      have HIN : Hid (i = N) := by have := HI.out; show i = N; omega
      clear hi
      go_wp2_with fail
      go_ret
      refine ⟨fun h => (by rw [HSN.out] at h; cases h), fun _ => ⟨HFK.out, o0, by rw [HNN.out]; rfl, ?_⟩, HBW.out⟩
      rw [HSE.out, HNN.out, ← fil_all _ (.bool false), ← HIN.out]
      have := HO.out
      rw [HIN.out] at this ⊢
      exact this

set_option maxRecDepth 100000 in
set_option maxHeartbeats 8000000 in
theorem first_any {v0 v1 v2 : Value} {nT nS : Nat} {P : List Pd} (w : World) (h : Gm w v0 v1 v2 nT nS P) (hz : Gz nT nS P) :
    Calls Try.prog 13 #[.agg #[v0, v1, v2]] w fun e w' => (snd nT nS P = false → e = .returned (.slice none 0 0)) ∧ (snd nT nS P = true → Fk nT (P.map pq) (fin nT (P.map pq)) ∧ ∃ ob, e = .returned (.slice (some ⟨ob, 0, none⟩) (nT + nS) (nT + nS)) ∧ w'.heap[ob]? = some (.cells ((List.range (nT + nS)).map fun j => .int .u64 ((fin nT (P.map pq) j).1 : Int)).toArray 29 (0, 0))) ∧ Below w.heap.size w w' := by
  have HG : Hid (Gm w v0 v1 v2 nT nS P) := h
  have HZ : Hid _ := hz
  obtain ⟨a0, c0, a1, c1, a2, c2, rfl, rfl, rfl⟩ := h.form
  clear h hz
  obtain ⟨n, hn⟩ : ∃ n, P.length = n := ⟨_, rfl⟩
  rw [hn] at HG ⊢
  clear hn
  obtain ⟨W1, hW1⟩ : ∃ W1, W1 = w.alloc (.cells #[.slice a0 nT c0, .slice a1 nS c1, .slice a2 n c2] 26) := ⟨_, rfl⟩
  have HX : Hid (W1.heap[w.heap.size]? = some (.cells #[.slice a0 nT c0, .slice a1 nS c1, .slice a2 n c2] 26 (0, 0))) := by rw [hW1]; exact heap_new w _
  have HB1 : Hid (Below w.heap.size w W1) := by rw [hW1]; exact bel_up _ _
  have HG1 : Hid _ := HG.out.up HB1.out
  go_enter Try.func13, Try.ntmps13
  go_upto_region 1 with fail
  rw [← hW1]
  clear hW1
  obtain ⟨gb, hgb⟩ : ∃ gb, w.heap.size = gb := ⟨_, rfl⟩
  have HGB : Hid (w.heap.size = gb) := hgb
  rw [hgb] at HX ⊢
  clear hgb
  have p0 := rcell HX.out 0 (.slice a0 nT c0) rfl
  have p1 := rcell HX.out 1 (.slice a1 nS c1) rfl
  have p2 := rcell HX.out 2 (.slice a2 n c2) rfl
  have HCC : Hid (∀ W, Below W1.heap.size W1 W → W.cell? ⟨gb, 0, none⟩ = some (.slice a0 nT c0) ∧ W.cell? ⟨gb, 1, none⟩ = some (.slice a1 nS c1) ∧ W.cell? ⟨gb, 2, none⟩ = some (.slice a2 n c2)) := fun W hW => ⟨below_cell hW p0, below_cell hW p1, below_cell hW p2⟩
  cases hs : snd nT nS P with
  | false =>
    have HSN : Hid (snd nT nS P = false) := hs
    clear hs
    go_wp2_with (go_at_call 27; refine (sound_any W1 HG1.out HZ.out).mono ?_; rintro e w2 ⟨rfl, hb2⟩; have B2 : Hid (Below W1.heap.size W1 w2) := hb2; clear hb2; rw [HSN.out])
    go_ret
    exact ⟨fun _ => rfl, fun h => (by rw [HSN.out] at h; cases h), below_trans HB1.out B2.out⟩
  | true =>
  have HSN : Hid (snd nT nS P = true) := hs
  clear hs
  go_upto_region 3 with (go_at_call 27; refine (sound_any W1 HG1.out HZ.out).mono ?_; rintro e w2 ⟨rfl, hb2⟩; have B2 : Hid (Below W1.heap.size W1 w2) := hb2; clear hb2; rw [HSN.out])
  clear p0 p1 p2
  obtain ⟨p0, p1, p2⟩ := HCC.out w2 B2.out
  go_upto_region 4 with (first | (go_at_call 29; refine (settled_any w2 (HG1.out.up B2.out) HZ.out HSN.out).mono ?_; rintro e w4 ⟨rfl, hk1, hk2, hb4⟩; have B4 : Hid (Below W1.heap.size W1 w4) := below_trans B2.out hb4; have HFK : Hid (Fk nT (P.map pq) (fin nT (P.map pq))) := fk_of (snd_mem HSN.out).1.2.1 hk1 hk2; clear hb4 hk1 hk2) | (refine wpList_alloc_row rfl 65 rfl _ zero65 ?_; (try simp only [Act.put, List.setIfInBounds_toArray, List.set_cons_zero, List.set_cons_succ])) | (refine wpList_store_row rfl 65 _ _ rfl _ _ _ (heap_new _ _) (size65 _) (by rw [List.size_toArray, List.size_toArray, sC_len, sC_len]) (one65 _) rfl rfl ?_; (try simp only [Act.put])))
  rw [setRow_new]
  clear p0 p1 p2
  obtain ⟨S, hS⟩ : ∃ S, fin nT (P.map pq) = S := ⟨_, rfl⟩
  have HSE : Hid (fin nT (P.map pq) = S) := hS
  rw [hS]
  clear hS
  obtain ⟨W5, hW5⟩ : ∃ W5, W5 = w4.alloc (.cells (sC S).toArray 65) := ⟨_, rfl⟩
  rw [← hW5]
  have B5 : Hid (Below W1.heap.size W1 W5) := by rw [hW5]; exact below_trans B4.out (bel_up _ _)
  have HS5 : Hid (Sb W5 w4.heap.size S) := by show Sb _ _ _; unfold Sb; rw [hW5]; exact heap_new _ _
  obtain ⟨s0, hs0⟩ : ∃ g, w4.heap.size = g := ⟨_, rfl⟩
  rw [hs0] at HS5 ⊢
  clear hs0 hW5
  obtain ⟨p0, p1, p2⟩ := HCC.out W5 B5.out
  obtain ⟨N, hN⟩ : ∃ N, nT + nS = N := ⟨_, rfl⟩
  have HNN : Hid (nT + nS = N) := hN
  have HNL : Hid (N ≤ 192) := by have := (snd_mem HSN.out).1; show N ≤ 192; omega
  clear hN
  have hmk : ∀ W : World, (Instr.makeSlice 38 (.int .i64 (N : Int)) (.int .i64 (N : Int))).run Try.prog W = .ok (.slice (some ⟨W.heap.size, 0, none⟩) N N) (W.alloc (.cells ((List.range N).map fun _ => (.int .u64 0 : Value)).toArray 29)) := fun W => by
    obtain ⟨i0, hi, hz0, hz1, hz2⟩ := info_parts info29
    have h := run_make W 38 29 i0 (.int .u64 0) Try.underlying38 hi hz0 .i64 .i64 (N : Int) (N : Int) (by omega) (Int.le_refl _) (by rw [hz2]; have := HNL.out; omega) (by have := HNL.out; omega)
    rw [hz1] at h
    simp only [Int.toNat_natCast, Nat.mul_one] at h
    rw [← made_list]
    exact h
  go_upto_region 5 with (go_at_call 32; refine (symbols_any W5 (HG1.out.up B5.out) HZ.out).mono ?_; rintro e w6 ⟨rfl, hb6⟩; have B6 : Hid (Below W5.heap.size W5 w6) := hb6; clear hb6; rw [HNN.out])
  clear hmk p0 p1 p2
  obtain ⟨W7, hW7⟩ : ∃ W7, W7 = w6.alloc (.cells ((List.range N).map fun _ => (.int .u64 0 : Value)).toArray 29) := ⟨_, rfl⟩
  rw [← hW7]
  have B7 : Hid (Below w.heap.size w W7) := by rw [hW7]; exact below_trans HB1.out (below_trans B5.out (below_trans B6.out (bel_up _ _)))
  have HO7 : Hid (W7.heap[w6.heap.size]? = some (.cells (fil (fun j => .int .u64 ((S j).1 : Int)) (.int .u64 0) N 0).toArray 29 (0, 0))) := by rw [hW7, fil_zero]; exact heap_new _ _
  have HS7 : Hid (Sb W7 s0 S) := HS5.out.up (by rw [hW7]; exact below_trans B6.out (bel_up _ _))
  obtain ⟨o0, ho0⟩ : ∃ g, w6.heap.size = g := ⟨_, rfl⟩
  have HNE : Hid (s0 < o0) := by
    have h1 := lt_of_heap HS5.out
    have h2 := B6.out.size
    show s0 < o0
    omega
  have HWO : Hid (w.heap.size ≤ o0) := by
    have h1 := HB1.out.size
    have h2 := B5.out.size
    have h3 := B6.out.size
    show _ ≤ o0
    omega
  rw [ho0] at HO7 ⊢
  clear ho0 hW7 HS5 B5 B6 B4 B2 HCC
  go_upto_region 6 with fail
  go_loopg [16] N (fun gm v16 wr => ∃ i : Nat, v16 = .int .i64 (i : Int) ∧ Hid (Below w.heap.size w wr) ∧ Hid (i ≤ N ∧ gm = N - i) ∧ Hid (Sb wr s0 S) ∧ Hid (wr.heap[o0]? = some (.cells (fil (fun j => .int .u64 ((S j).1 : Int)) (.int .u64 0) N i).toArray 29 (0, 0))))
  case atStart => exact ⟨0, rfl, B7, ⟨Nat.zero_le _, rfl⟩, HS7, HO7⟩
  case round =>
    clear B7 HS7 HO7
    obtain ⟨i, rfl, HBW, HI, HSB, HO⟩ := hrel
    by_cases hi : i < N
    · have e1 : decide ((i : Int) < (N : Int)) = true := by rw [decide_eq_true_eq]; omega
      have e2 : decide (i < N) = true := by rw [decide_eq_true_eq]; omega
      have e5 : (i : Int) < (N : Int) := by omega
      have e6 : i < N := hi
      have e7 : (i : Int) < 192 := by have := HNL.out; omega
      have e8 : i < 192 := by have := HNL.out; omega
      have HIL : Hid (i < N) := hi
      have hwr := w64n i (by have := HNL.out; omega)
      obtain ⟨k1, k2⟩ := HSB.out.get i e8
      have f1 : wr.frozen? ⟨o0, i, none⟩ = false := Lib.frozen_of_heap HO.out i
      have c1 := rcell HO.out i _ (by rw [List.getElem?_toArray]; exact fil_get _ _ _ _ _ hi)
      rw [if_neg (by omega)] at c1
      clear hi
      go_wp2_with fail
      have HO2 : Hid ((wr.setCell ⟨o0, i, none⟩ (.int .u64 ((S i).1 : Int))).heap[o0]? = some (.cells (fil (fun j => .int .u64 ((S j).1 : Int)) (.int .u64 0) N (i + 1)).toArray 29 (0, 0))) := by
        show _ = _
        rw [blk_set _ HO.out, List.setIfInBounds_toArray, fil_set (fun j => .int .u64 ((S j).1 : Int)) _ N i HIL.out]
      go_roundg (N - (i + 1))
      case measure => have := HI.out; have := HIL.out; omega
      case rel => exact ⟨i + 1, by first | rfl | (rw [show (i : Int) + 1 = ((i + 1 : Nat) : Int) by omega]), HBW.out.setCell (p := ⟨o0, i, none⟩) HWO.out _, ⟨HIL.out, rfl⟩, (Below.heap_setCell wr ⟨o0, i, none⟩ _ s0 (by have := HNE.out; show s0 ≠ o0; omega)).trans HSB.out, HO2⟩
    · have e1 : decide ((i : Int) < (N : Int)) = false := by rw [decide_eq_false_iff_not]; omega
      have e2 : decide (i < N) = false := by rw [decide_eq_false_iff_not]; omega
      have HIN : Hid (i = N) := by have := HI.out; show i = N; omega
      clear hi
      go_wp2_with fail
      go_ret
      refine ⟨fun h => (by rw [HSN.out] at h; cases h), fun _ => ⟨HFK.out, o0, by rw [HNN.out]; rfl, ?_⟩, HBW.out⟩
      rw [HSE.out, HNN.out, ← fil_all _ (.int .u64 0), ← HIN.out]
      have := HO.out
      rw [HIN.out] at this ⊢
      exact this
end Go.Proofs.Ytodncbkdlnepjaa
