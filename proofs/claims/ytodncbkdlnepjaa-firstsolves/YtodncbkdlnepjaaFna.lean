import Derived.Test.YtodncbkdlnepjaaFtd
import Derived.Laws.MakeOwn
namespace Go.Proofs.Ytodncbkdlnepjaa
open Go.RowKit Go.Maps

set_option maxRecDepth 100000 in
set_option maxHeartbeats 8000000 in
theorem nullable_new {v0 v1 v2 : Value} {nT nS : Nat} {P : List Pd} (w : World) (h : Gm w v0 v1 v2 nT nS P) (hz : Gz nT nS P) :
    Calls Try.prog 12 #[.agg #[v0, v1, v2]] w fun e w' => (snd nT nS P = false → e = .returned (.slice none 0 0)) ∧ (snd nT nS P = true → Fk nT (P.map pq) (fin nT (P.map pq)) ∧ ∃ ob, e = .returned (.slice (some ⟨ob, 0, none⟩) (nT + nS) (nT + nS)) ∧ w.heap.size ≤ ob ∧ w'.heap[ob]? = some (.cells ((List.range (nT + nS)).map fun j => .bool (fin nT (P.map pq) j).2).toArray 4 (0, 0))) ∧ Below w.heap.size w w' := by
  have HG : Hid (Gm w v0 v1 v2 nT nS P) := h
  have HZ : Hid _ := hz
  obtain ⟨a0, c0, a1, c1, a2, c2, rfl, rfl, rfl⟩ := h.form
  clear h hz
  obtain ⟨n, hn⟩ : ∃ n, P.length = n := ⟨_, rfl⟩
  rw [hn] at HG ⊢
  clear hn
  obtain ⟨W1, hW1⟩ : ∃ W1, W1 = w.alloc (.cells #[.slice a0 nT c0, .slice a1 nS c1, .slice a2 n c2] 26) := ⟨_, rfl⟩
  have HX : Hid (W1.heap[w.heap.size]? = some (.cells #[.slice a0 nT c0, .slice a1 nS c1, .slice a2 n c2] 26 (0, 0))) := by rw [hW1]; exact heap_new w _
  have HB1 : Hid (Below w.heap.size w W1) := by rw [hW1]; exact bel_up _ _
  have HG1 : Hid _ := HG.out.up HB1.out
  go_enter Try.func12, Try.ntmps12
  go_upto_region 1 with fail
  rw [← hW1]
  clear hW1
  obtain ⟨gb, hgb⟩ : ∃ gb, w.heap.size = gb := ⟨_, rfl⟩
  have HGB : Hid (w.heap.size = gb) := hgb
  rw [hgb] at HX ⊢
  clear hgb
  have p0 := rcell HX.out 0 (.slice a0 nT c0) rfl
  have p1 := rcell HX.out 1 (.slice a1 nS c1) rfl
  have p2 := rcell HX.out 2 (.slice a2 n c2) rfl
  have HCC : Hid (∀ W, Below W1.heap.size W1 W → W.cell? ⟨gb, 0, none⟩ = some (.slice a0 nT c0) ∧ W.cell? ⟨gb, 1, none⟩ = some (.slice a1 nS c1) ∧ W.cell? ⟨gb, 2, none⟩ = some (.slice a2 n c2)) := fun W hW => ⟨below_cell hW p0, below_cell hW p1, below_cell hW p2⟩
  cases hs : snd nT nS P with
  | false =>
    have HSN : Hid (snd nT nS P = false) := hs
    clear hs
    go_wp2_with (go_at_call 27; refine (sound_any W1 HG1.out HZ.out).mono ?_; rintro e w2 ⟨rfl, hb2⟩; have B2 : Hid (Below W1.heap.size W1 w2) := hb2; clear hb2; rw [HSN.out])
    go_ret
    exact ⟨fun _ => rfl, fun h => (by rw [HSN.out] at h; cases h), below_trans HB1.out B2.out⟩
  | true =>
  have HSN : Hid (snd nT nS P = true) := hs
  clear hs
  go_upto_region 3 with (go_at_call 27; refine (sound_any W1 HG1.out HZ.out).mono ?_; rintro e w2 ⟨rfl, hb2⟩; have B2 : Hid (Below W1.heap.size W1 w2) := hb2; clear hb2; rw [HSN.out])
  clear p0 p1 p2
  obtain ⟨p0, p1, p2⟩ := HCC.out w2 B2.out
  go_upto_region 4 with (first | (go_at_call 29; refine (settled_any w2 (HG1.out.up B2.out) HZ.out HSN.out).mono ?_; rintro e w4 ⟨rfl, hk1, hk2, hb4⟩; have B4 : Hid (Below W1.heap.size W1 w4) := below_trans B2.out hb4; have HFK : Hid (Fk nT (P.map pq) (fin nT (P.map pq))) := fk_of (snd_mem HSN.out).1.2.1 hk1 hk2; clear hb4 hk1 hk2) | (refine wpList_alloc_row rfl 65 rfl _ zero65 ?_; (try simp only [Act.put, List.setIfInBounds_toArray, List.set_cons_zero, List.set_cons_succ])) | (refine wpList_store_row rfl 65 _ _ rfl _ _ _ (heap_new _ _) (size65 _) (by rw [List.size_toArray, List.size_toArray, sC_len, sC_len]) (one65 _) rfl rfl ?_; (try simp only [Act.put])))
  rw [setRow_new]
  clear p0 p1 p2
  obtain ⟨S, hS⟩ : ∃ S, fin nT (P.map pq) = S := ⟨_, rfl⟩
  have HSE : Hid (fin nT (P.map pq) = S) := hS
  rw [hS]
  clear hS
  obtain ⟨W5, hW5⟩ : ∃ W5, W5 = w4.alloc (.cells (sC S).toArray 65) := ⟨_, rfl⟩
  rw [← hW5]
  have B5 : Hid (Below W1.heap.size W1 W5) := by rw [hW5]; exact below_trans B4.out (bel_up _ _)
  have HS5 : Hid (Sb W5 w4.heap.size S) := by show Sb _ _ _; unfold Sb; rw [hW5]; exact heap_new _ _
  obtain ⟨s0, hs0⟩ : ∃ g, w4.heap.size = g := ⟨_, rfl⟩
  rw [hs0] at HS5 ⊢
  clear hs0 hW5
  obtain ⟨p0, p1, p2⟩ := HCC.out W5 B5.out
  obtain ⟨N, hN⟩ : ∃ N, nT + nS = N := ⟨_, rfl⟩
  have HNN : Hid (nT + nS = N) := hN
  have HNL : Hid (N ≤ 192) := by have := (snd_mem HSN.out).1; show N ≤ 192; omega
  clear hN
  have hmk : ∀ W : World, (Instr.makeSlice 37 (.int .i64 (N : Int)) (.int .i64 (N : Int))).run Try.prog W = .ok (.slice (some ⟨W.heap.size, 0, none⟩) N N) (W.alloc (.cells ((List.range N).map fun _ => (.bool false : Value)).toArray 4)) := fun W => by
    obtain ⟨i0, hi, hz0, hz1, hz2⟩ := info_parts info4
    have h := run_make W 37 4 i0 (.bool false) Try.underlying37 hi hz0 .i64 .i64 (N : Int) (N : Int) (by omega) (Int.le_refl _) (by rw [hz2]; have := HNL.out; omega) (by have := HNL.out; omega)
    rw [hz1] at h
    simp only [Int.toNat_natCast, Nat.mul_one] at h
    rw [← made_list]
    exact h
  go_upto_region 5 with (go_at_call 32; refine (symbols_any W5 (HG1.out.up B5.out) HZ.out).mono ?_; rintro e w6 ⟨rfl, hb6⟩; have B6 : Hid (Below W5.heap.size W5 w6) := hb6; clear hb6; rw [HNN.out])
  clear hmk p0 p1 p2
  obtain ⟨W7, hW7⟩ : ∃ W7, W7 = w6.alloc (.cells ((List.range N).map fun _ => (.bool false : Value)).toArray 4) := ⟨_, rfl⟩
  rw [← hW7]
  have B7 : Hid (Below w.heap.size w W7) := by rw [hW7]; exact below_trans HB1.out (below_trans B5.out (below_trans B6.out (bel_up _ _)))
  have HO7 : Hid (W7.heap[w6.heap.size]? = some (.cells (fil (fun j => .bool (S j).2) (.bool false) N 0).toArray 4 (0, 0))) := by rw [hW7, fil_zero]; exact heap_new _ _
  have HS7 : Hid (Sb W7 s0 S) := HS5.out.up (by rw [hW7]; exact below_trans B6.out (bel_up _ _))
  obtain ⟨o0, ho0⟩ : ∃ g, w6.heap.size = g := ⟨_, rfl⟩
  have HNE : Hid (s0 < o0) := by
    have h1 := lt_of_heap HS5.out
    have h2 := B6.out.size
    show s0 < o0
    omega
  have HWO : Hid (w.heap.size ≤ o0) := by
    have h1 := HB1.out.size
    have h2 := B5.out.size
    have h3 := B6.out.size
    show _ ≤ o0
    omega
  rw [ho0] at HO7 ⊢
  clear ho0 hW7 HS5 B5 B6 B4 B2 HCC
  go_upto_region 6 with fail
  go_loopg [16] N (fun gm v16 wr => ∃ i : Nat, v16 = .int .i64 (i : Int) ∧ Hid (Below w.heap.size w wr) ∧ Hid (i ≤ N ∧ gm = N - i) ∧ Hid (Sb wr s0 S) ∧ Hid (wr.heap[o0]? = some (.cells (fil (fun j => .bool (S j).2) (.bool false) N i).toArray 4 (0, 0))))
  case atStart => exact ⟨0, rfl, B7, ⟨Nat.zero_le _, rfl⟩, HS7, HO7⟩
  case round =>
    clear B7 HS7 HO7
    obtain ⟨i, rfl, HBW, HI, HSB, HO⟩ := hrel
    by_cases hi : i < N
    · have e1 : decide ((i : Int) < (N : Int)) = true := by rw [decide_eq_true_eq]; omega
      have e2 : decide (i < N) = true := by rw [decide_eq_true_eq]; omega
      have e5 : (i : Int) < (N : Int) := by omega
      have e6 : i < N := hi
      have e7 : (i : Int) < 192 := by have := HNL.out; omega
      have e8 : i < 192 := by have := HNL.out; omega
      have HIL : Hid (i < N) := hi
      have hwr := w64n i (by have := HNL.out; omega)
      obtain ⟨k1, k2⟩ := HSB.out.get i e8
      have f1 : wr.frozen? ⟨o0, i, none⟩ = false := Lib.frozen_of_heap HO.out i
      have c1 := rcell HO.out i _ (by rw [List.getElem?_toArray]; exact fil_get _ _ _ _ _ hi)
      rw [if_neg (by omega)] at c1
      clear hi
      go_wp2_with fail
      have HO2 : Hid ((wr.setCell ⟨o0, i, none⟩ (.bool (S i).2)).heap[o0]? = some (.cells (fil (fun j => .bool (S j).2) (.bool false) N (i + 1)).toArray 4 (0, 0))) := by
        show _ = _
        rw [blk_set _ HO.out, List.setIfInBounds_toArray, fil_set (fun j => .bool (S j).2) _ N i HIL.out]
      go_roundg (N - (i + 1))
      case measure => have := HI.out; have := HIL.out; omega
      case rel => exact ⟨i + 1, by first | rfl | (rw [show (i : Int) + 1 = ((i + 1 : Nat) : Int) by omega]), HBW.out.setCell (p := ⟨o0, i, none⟩) HWO.out _, ⟨HIL.out, rfl⟩, (Below.heap_setCell wr ⟨o0, i, none⟩ _ s0 (by have := HNE.out; show s0 ≠ o0; omega)).trans HSB.out, HO2⟩
    · have e1 : decide ((i : Int) < (N : Int)) = false := by rw [decide_eq_false_iff_not]; omega
      have e2 : decide (i < N) = false := by rw [decide_eq_false_iff_not]; omega
      have HIN : Hid (i = N) := by have := HI.out; show i = N; omega
      clear hi
      go_wp2_with fail
      go_ret
      refine ⟨fun h => (by rw [HSN.out] at h; cases h), fun _ => ⟨HFK.out, o0, by rw [HNN.out]; rfl, HWO.out, ?_⟩, HBW.out⟩
      rw [HSE.out, HNN.out, ← fil_all _ (.bool false), ← HIN.out]
      have := HO.out
      rw [HIN.out] at this ⊢
      exact this

set_option maxRecDepth 100000 in
set_option maxHeartbeats 8000000 in
theorem first_new {v0 v1 v2 : Value} {nT nS : Nat} {P : List Pd} (w : World) (h : Gm w v0 v1 v2 nT nS P) (hz : Gz nT nS P) :
    Calls Try.prog 13 #[.agg #[v0, v1, v2]] w fun e w' => (snd nT nS P = false → e = .returned (.slice none 0 0)) ∧ (snd nT nS P = true → Fk nT (P.map pq) (fin nT (P.map pq)) ∧ ∃ ob, e = .returned (.slice (some ⟨ob, 0, none⟩) (nT + nS) (nT + nS)) ∧ w.heap.size ≤ ob ∧ w'.heap[ob]? = some (.cells ((List.range (nT + nS)).map fun j => .int .u64 ((fin nT (P.map pq) j).1 : Int)).toArray 29 (0, 0))) ∧ Below w.heap.size w w' := by
  have HG : Hid (Gm w v0 v1 v2 nT nS P) := h
  have HZ : Hid _ := hz
  obtain ⟨a0, c0, a1, c1, a2, c2, rfl, rfl, rfl⟩ := h.form
  clear h hz
  obtain ⟨n, hn⟩ : ∃ n, P.length = n := ⟨_, rfl⟩
  rw [hn] at HG ⊢
  clear hn
  obtain ⟨W1, hW1⟩ : ∃ W1, W1 = w.alloc (.cells #[.slice a0 nT c0, .slice a1 nS c1, .slice a2 n c2] 26) := ⟨_, rfl⟩
  have HX : Hid (W1.heap[w.heap.size]? = some (.cells #[.slice a0 nT c0, .slice a1 nS c1, .slice a2 n c2] 26 (0, 0))) := by rw [hW1]; exact heap_new w _
  have HB1 : Hid (Below w.heap.size w W1) := by rw [hW1]; exact bel_up _ _
  have HG1 : Hid _ := HG.out.up HB1.out
  go_enter Try.func13, Try.ntmps13
  go_upto_region 1 with fail
  rw [← hW1]
  clear hW1
  obtain ⟨gb, hgb⟩ : ∃ gb, w.heap.size = gb := ⟨_, rfl⟩
  have HGB : Hid (w.heap.size = gb) := hgb
  rw [hgb] at HX ⊢
  clear hgb
  have p0 := rcell HX.out 0 (.slice a0 nT c0) rfl
  have p1 := rcell HX.out 1 (.slice a1 nS c1) rfl
  have p2 := rcell HX.out 2 (.slice a2 n c2) rfl
  have HCC : Hid (∀ W, Below W1.heap.size W1 W → W.cell? ⟨gb, 0, none⟩ = some (.slice a0 nT c0) ∧ W.cell? ⟨gb, 1, none⟩ = some (.slice a1 nS c1) ∧ W.cell? ⟨gb, 2, none⟩ = some (.slice a2 n c2)) := fun W hW => ⟨below_cell hW p0, below_cell hW p1, below_cell hW p2⟩
  cases hs : snd nT nS P with
  | false =>
    have HSN : Hid (snd nT nS P = false) := hs
    clear hs
    go_wp2_with (go_at_call 27; refine (sound_any W1 HG1.out HZ.out).mono ?_; rintro e w2 ⟨rfl, hb2⟩; have B2 : Hid (Below W1.heap.size W1 w2) := hb2; clear hb2; rw [HSN.out])
    go_ret
    exact ⟨fun _ => rfl, fun h => (by rw [HSN.out] at h; cases h), below_trans HB1.out B2.out⟩
  | true =>
  have HSN : Hid (snd nT nS P = true) := hs
  clear hs
  go_upto_region 3 with (go_at_call 27; refine (sound_any W1 HG1.out HZ.out).mono ?_; rintro e w2 ⟨rfl, hb2⟩; have B2 : Hid (Below W1.heap.size W1 w2) := hb2; clear hb2; rw [HSN.out])
  clear p0 p1 p2
  obtain ⟨p0, p1, p2⟩ := HCC.out w2 B2.out
  go_upto_region 4 with (first | (go_at_call 29; refine (settled_any w2 (HG1.out.up B2.out) HZ.out HSN.out).mono ?_; rintro e w4 ⟨rfl, hk1, hk2, hb4⟩; have B4 : Hid (Below W1.heap.size W1 w4) := below_trans B2.out hb4; have HFK : Hid (Fk nT (P.map pq) (fin nT (P.map pq))) := fk_of (snd_mem HSN.out).1.2.1 hk1 hk2; clear hb4 hk1 hk2) | (refine wpList_alloc_row rfl 65 rfl _ zero65 ?_; (try simp only [Act.put, List.setIfInBounds_toArray, List.set_cons_zero, List.set_cons_succ])) | (refine wpList_store_row rfl 65 _ _ rfl _ _ _ (heap_new _ _) (size65 _) (by rw [List.size_toArray, List.size_toArray, sC_len, sC_len]) (one65 _) rfl rfl ?_; (try simp only [Act.put])))
  rw [setRow_new]
  clear p0 p1 p2
  obtain ⟨S, hS⟩ : ∃ S, fin nT (P.map pq) = S := ⟨_, rfl⟩
  have HSE : Hid (fin nT (P.map pq) = S) := hS
  rw [hS]
  clear hS
  obtain ⟨W5, hW5⟩ : ∃ W5, W5 = w4.alloc (.cells (sC S).toArray 65) := ⟨_, rfl⟩
  rw [← hW5]
  have B5 : Hid (Below W1.heap.size W1 W5) := by rw [hW5]; exact below_trans B4.out (bel_up _ _)
  have HS5 : Hid (Sb W5 w4.heap.size S) := by show Sb _ _ _; unfold Sb; rw [hW5]; exact heap_new _ _
  obtain ⟨s0, hs0⟩ : ∃ g, w4.heap.size = g := ⟨_, rfl⟩
  rw [hs0] at HS5 ⊢
  clear hs0 hW5
  obtain ⟨p0, p1, p2⟩ := HCC.out W5 B5.out
  obtain ⟨N, hN⟩ : ∃ N, nT + nS = N := ⟨_, rfl⟩
  have HNN : Hid (nT + nS = N) := hN
  have HNL : Hid (N ≤ 192) := by have := (snd_mem HSN.out).1; show N ≤ 192; omega
  clear hN
  have hmk : ∀ W : World, (Instr.makeSlice 38 (.int .i64 (N : Int)) (.int .i64 (N : Int))).run Try.prog W = .ok (.slice (some ⟨W.heap.size, 0, none⟩) N N) (W.alloc (.cells ((List.range N).map fun _ => (.int .u64 0 : Value)).toArray 29)) := fun W => by
    obtain ⟨i0, hi, hz0, hz1, hz2⟩ := info_parts info29
    have h := run_make W 38 29 i0 (.int .u64 0) Try.underlying38 hi hz0 .i64 .i64 (N : Int) (N : Int) (by omega) (Int.le_refl _) (by rw [hz2]; have := HNL.out; omega) (by have := HNL.out; omega)
    rw [hz1] at h
    simp only [Int.toNat_natCast, Nat.mul_one] at h
    rw [← made_list]
    exact h
  go_upto_region 5 with (go_at_call 32; refine (symbols_any W5 (HG1.out.up B5.out) HZ.out).mono ?_; rintro e w6 ⟨rfl, hb6⟩; have B6 : Hid (Below W5.heap.size W5 w6) := hb6; clear hb6; rw [HNN.out])
  clear hmk p0 p1 p2
  obtain ⟨W7, hW7⟩ : ∃ W7, W7 = w6.alloc (.cells ((List.range N).map fun _ => (.int .u64 0 : Value)).toArray 29) := ⟨_, rfl⟩
  rw [← hW7]
  have B7 : Hid (Below w.heap.size w W7) := by rw [hW7]; exact below_trans HB1.out (below_trans B5.out (below_trans B6.out (bel_up _ _)))
  have HO7 : Hid (W7.heap[w6.heap.size]? = some (.cells (fil (fun j => .int .u64 ((S j).1 : Int)) (.int .u64 0) N 0).toArray 29 (0, 0))) := by rw [hW7, fil_zero]; exact heap_new _ _
  have HS7 : Hid (Sb W7 s0 S) := HS5.out.up (by rw [hW7]; exact below_trans B6.out (bel_up _ _))
  obtain ⟨o0, ho0⟩ : ∃ g, w6.heap.size = g := ⟨_, rfl⟩
  have HNE : Hid (s0 < o0) := by
    have h1 := lt_of_heap HS5.out
    have h2 := B6.out.size
    show s0 < o0
    omega
  have HWO : Hid (w.heap.size ≤ o0) := by
    have h1 := HB1.out.size
    have h2 := B5.out.size
    have h3 := B6.out.size
    show _ ≤ o0
    omega
  rw [ho0] at HO7 ⊢
  clear ho0 hW7 HS5 B5 B6 B4 B2 HCC
  go_upto_region 6 with fail
  go_loopg [16] N (fun gm v16 wr => ∃ i : Nat, v16 = .int .i64 (i : Int) ∧ Hid (Below w.heap.size w wr) ∧ Hid (i ≤ N ∧ gm = N - i) ∧ Hid (Sb wr s0 S) ∧ Hid (wr.heap[o0]? = some (.cells (fil (fun j => .int .u64 ((S j).1 : Int)) (.int .u64 0) N i).toArray 29 (0, 0))))
  case atStart => exact ⟨0, rfl, B7, ⟨Nat.zero_le _, rfl⟩, HS7, HO7⟩
  case round =>
    clear B7 HS7 HO7
    obtain ⟨i, rfl, HBW, HI, HSB, HO⟩ := hrel
    by_cases hi : i < N
    · have e1 : decide ((i : Int) < (N : Int)) = true := by rw [decide_eq_true_eq]; omega
      have e2 : decide (i < N) = true := by rw [decide_eq_true_eq]; omega
      have e5 : (i : Int) < (N : Int) := by omega
      have e6 : i < N := hi
      have e7 : (i : Int) < 192 := by have := HNL.out; omega
      have e8 : i < 192 := by have := HNL.out; omega
      have HIL : Hid (i < N) := hi
      have hwr := w64n i (by have := HNL.out; omega)
      obtain ⟨k1, k2⟩ := HSB.out.get i e8
      have f1 : wr.frozen? ⟨o0, i, none⟩ = false := Lib.frozen_of_heap HO.out i
      have c1 := rcell HO.out i _ (by rw [List.getElem?_toArray]; exact fil_get _ _ _ _ _ hi)
      rw [if_neg (by omega)] at c1
      clear hi
      go_wp2_with fail
      have HO2 : Hid ((wr.setCell ⟨o0, i, none⟩ (.int .u64 ((S i).1 : Int))).heap[o0]? = some (.cells (fil (fun j => .int .u64 ((S j).1 : Int)) (.int .u64 0) N (i + 1)).toArray 29 (0, 0))) := by
        show _ = _
        rw [blk_set _ HO.out, List.setIfInBounds_toArray, fil_set (fun j => .int .u64 ((S j).1 : Int)) _ N i HIL.out]
      go_roundg (N - (i + 1))
      case measure => have := HI.out; have := HIL.out; omega
      case rel => exact ⟨i + 1, by first | rfl | (rw [show (i : Int) + 1 = ((i + 1 : Nat) : Int) by omega]), HBW.out.setCell (p := ⟨o0, i, none⟩) HWO.out _, ⟨HIL.out, rfl⟩, (Below.heap_setCell wr ⟨o0, i, none⟩ _ s0 (by have := HNE.out; show s0 ≠ o0; omega)).trans HSB.out, HO2⟩
    · have e1 : decide ((i : Int) < (N : Int)) = false := by rw [decide_eq_false_iff_not]; omega
      have e2 : decide (i < N) = false := by rw [decide_eq_false_iff_not]; omega
      have HIN : Hid (i = N) := by have := HI.out; show i = N; omega
      clear hi
      go_wp2_with fail
      go_ret
      refine ⟨fun h => (by rw [HSN.out] at h; cases h), fun _ => ⟨HFK.out, o0, by rw [HNN.out]; rfl, HWO.out, ?_⟩, HBW.out⟩
      rw [HSE.out, HNN.out, ← fil_all _ (.int .u64 0), ← HIN.out]
      have := HO.out
      rw [HIN.out] at this ⊢
      exact this

/-- How long the answers are; sets as cells. -/
def nN (nT nS : Nat) (P : List Pd) : Nat := if snd nT nS P = true then nT + nS else 0
theorem nN_le (nT nS : Nat) (P : List Pd) : nN nT nS P ≤ 192 := by
  unfold nN
  split
  · rename_i h; have := (snd_mem h).1; omega
  · omega
def tC (K : Nat) (S : Ss) : List Value := (List.range K).map fun j => .int .u64 ((S j).1 : Int)
theorem tC_len (K : Nat) (S : Ss) : (tC K S).length = K := by unfold tC; rw [List.length_map, List.length_range]
theorem tC_get {K : Nat} (S : Ss) {j : Nat} (h : j < K) : (tC K S)[j]? = some (.int .u64 ((S j).1 : Int)) := rng_get _ _ _ h
theorem own_block {W : World} {b K B : Nat} {cs : List Value} {t : TypeId} (h : W.heap[b]? = some (.cells cs.toArray t (0, 0))) (hb : B ≤ b) (hK : cs.length = K) (hk : K ≤ 192) : W.ownsRow B t 1 (.slice (some ⟨b, 0, none⟩) K K) K cs :=
  ⟨by rw [hK, Nat.mul_one], Or.inr ⟨b, K, cs.toArray, rfl, hb, h, Nat.le_refl _, by unfold maxLen; omega, by rw [List.size_toArray, hK, Nat.mul_one], by rw [Nat.mul_one, ← hK, List.take_length]⟩⟩
theorem nullable_own {v0 v1 v2 : Value} {nT nS : Nat} {P : List Pd} (w : World) (h : Gm w v0 v1 v2 nT nS P) (hz : Gz nT nS P) :
    Calls Try.prog 12 #[.agg #[v0, v1, v2]] w fun e w' => ∃ u, e = .returned u ∧ w'.ownsRow w.heap.size 4 1 u (nN nT nS P) (qC (nN nT nS P) fun x => (fin nT (P.map pq) x).2) ∧ Below w.heap.size w w' := by
  refine (nullable_new w h hz).mono ?_
  rintro e w' ⟨h1, h2, hb⟩
  cases hs : snd nT nS P with
  | false =>
    have e0 : nN nT nS P = 0 := by unfold nN; rw [hs]; rfl
    rw [e0]
    exact ⟨_, h1 hs, World.ownsRow_nil _ _ _ _, hb⟩
  | true =>
    obtain ⟨_, ob, rfl, hge, ho⟩ := h2 hs
    have e0 : nN nT nS P = nT + nS := by unfold nN; rw [hs]; rfl
    have hk := nN_le nT nS P
    rw [e0] at hk ⊢
    exact ⟨_, rfl, own_block ho hge (qC_len _ _) hk, hb⟩
theorem first_own {v0 v1 v2 : Value} {nT nS : Nat} {P : List Pd} (w : World) (h : Gm w v0 v1 v2 nT nS P) (hz : Gz nT nS P) :
    Calls Try.prog 13 #[.agg #[v0, v1, v2]] w fun e w' => ∃ u, e = .returned u ∧ w'.ownsRow w.heap.size 29 1 u (nN nT nS P) (tC (nN nT nS P) (fin nT (P.map pq))) ∧ Below w.heap.size w w' := by
  refine (first_new w h hz).mono ?_
  rintro e w' ⟨h1, h2, hb⟩
  cases hs : snd nT nS P with
  | false =>
    have e0 : nN nT nS P = 0 := by unfold nN; rw [hs]; rfl
    rw [e0]
    exact ⟨_, h1 hs, World.ownsRow_nil _ _ _ _, hb⟩
  | true =>
    obtain ⟨_, ob, rfl, hge, ho⟩ := h2 hs
    have e0 : nN nT nS P = nT + nS := by unfold nN; rw [hs]; rfl
    have hk := nN_le nT nS P
    rw [e0] at hk ⊢
    exact ⟨_, rfl, own_block ho hge (tC_len _ _) hk, hb⟩
theorem rnull_own {v0 v1 v2 : Value} {nT nS : Nat} {P : List Pd} (w : World) (h : Gm w v0 v1 v2 nT nS P) (hz : Gz nT nS P) :
    Calls Try.prog 23 #[.agg #[v0, v1, v2]] w fun e w' => ∃ u, e = .returned u ∧ w'.ownsRow w.heap.size 4 1 u (nN nT nS P) (qC (nN nT nS P) fun x => (fin nT (P.map pq) x).2) ∧ Below w.heap.size w w' := by
  refine (rnull_any w h hz).mono ?_
  rintro e w' ⟨h1, h2, hb⟩
  cases hs : snd nT nS P with
  | false =>
    have e0 : nN nT nS P = 0 := by unfold nN; rw [hs]; rfl
    rw [e0]
    exact ⟨_, h1 hs, World.ownsRow_nil _ _ _ _, hb⟩
  | true =>
    obtain ⟨ob, rfl, hge, ho⟩ := h2 hs
    have e0 : nN nT nS P = nT + nS := by unfold nN; rw [hs]; rfl
    have hk := nN_le nT nS P
    rw [nit_fin (fk_pure hs) (fun p hp => ((snd_mem hs).2 p hp).2.1)] at ho
    rw [e0] at hk ⊢
    exact ⟨_, rfl, own_block ho hge (qC_len _ _) hk, hb⟩
theorem nN_pd2 {nT nS : Nat} {P P' : List Pd} (h : P'.map pd2 = P.map pd2) : nN nT nS P' = nN nT nS P := by unfold nN; rw [snd_pd2 h]

set_option maxRecDepth 100000 in
set_option maxHeartbeats 8000000 in
theorem sameBools_any {va vb : Value} {N : Nat} {Q : Nat → Bool} (w : World) (ha : Rw w va N (qC N Q)) (hb : Rw w vb N (qC N Q)) (hl : N ≤ 192) :
    Calls Try.prog 25 #[va, vb] w fun e w' => e = .returned (.bool true) ∧ Below w.heap.size w w' := by
  have HVA : Hid (Rw w va N (qC N Q)) := ha
  have HVB : Hid (Rw w vb N (qC N Q)) := hb
  have HL : Hid (N ≤ 192) := hl
  obtain ⟨xa, ca, rfl⟩ := ha.form
  obtain ⟨xb, cb, rfl⟩ := hb.form
  clear ha hb hl
  have kk1 : ((N : Int) == (N : Int)) = true := by rw [beq_iff_eq]
  go_enter Try.func25, Try.ntmps25
  go_upto_region 4 with fail
  go_loopg [5] N (fun gm v5 wr => ∃ i : Nat, v5 = .int .i64 (i : Int) ∧ Hid (Below w.heap.size w wr) ∧ Hid (i ≤ N ∧ gm = N - i))
  case atStart => exact ⟨0, rfl, Below.refl _ _, ⟨Nat.zero_le _, rfl⟩⟩
  case round =>
    obtain ⟨i, rfl, HBW, HI⟩ := hrel
    by_cases hi : i < N
    · obtain ⟨g, o, cap, e0, hc⟩ := HVA.out.place (by omega)
      obtain ⟨rfl, -, rfl⟩ := Value.slice.inj e0
      obtain ⟨g2, o2, cap2, e02, hc2⟩ := HVB.out.place (by omega)
      obtain ⟨rfl, -, rfl⟩ := Value.slice.inj e02
      have k0 := below_cell HBW.out (hc _ _ (qC_get Q hi))
      have l0 := below_cell HBW.out (hc2 _ _ (qC_get Q hi))
      have e1 : decide ((i : Int) < (N : Int)) = true := by rw [decide_eq_true_eq]; omega
      have e2 : decide (i < N) = true := by rw [decide_eq_true_eq]; omega
      have e5 : (i : Int) < (N : Int) := by omega
      have e6 : i < N := hi
      have HIL : Hid (i < N) := hi
      have hwr := w64n i (by have := HL.out; have := HIL.out; omega)
      obtain ⟨x, hx⟩ : ∃ x, Q i = x := ⟨_, rfl⟩
      rw [hx] at k0 l0
      have kx : (x == x) = true := by rw [beq_iff_eq]
      clear e0 hc hx hi e02 hc2
      go_upto_region 6 with fail
      obtain ⟨WD, hWD⟩ : ∃ WD, wr.drew = WD := ⟨_, rfl⟩
      have BD : Hid (Below wr.heap.size wr WD) := by rw [← hWD]; exact Below.drew (Below.refl _ _)
      have HS : Hid (WD.cell? ⟨g, o + i, none⟩ = some (.bool x) ∧ WD.cell? ⟨g2, o2 + i, none⟩ = some (.bool x)) := ⟨below_cell BD.out k0, below_cell BD.out l0⟩
      clear k0 l0
      refine wp_region_noPanic ?_
      refine wp_region_held_drew (S := fun W => W.cell? ⟨g, o + i, none⟩ = some (.bool x) ∧ W.cell? ⟨g2, o2 + i, none⟩ = some (.bool x)) (by kernel_rfl) (by rw [hWD]; exact HS.out) (fun hHeld => ?_)
      rw [hWD] at hHeld ⊢
      clear hWD
      refine wpAnyH_take (i := 0) (oi := { dst := _, op := _, type := _, pos := _, after := _, guard := _ }) (v := ?_) rfl (by kernel_rfl) (by kernel_rfl) (by kernel_rfl) (fun _ _ _ h => h) (Or.inl ⟨by rfl, ?_⟩) (by assumption) ?_
      rotate_left
      · intro W hSw
        (try dsimp only at hSw)
        go_simp
        (try with_reducible rfl)
      try simp only [Act.put, List.setIfInBounds_toArray, List.set_cons_zero, List.set_cons_succ]
      refine wpAnyH_take (i := 1) (oi := { dst := _, op := _, type := _, pos := _, after := _, guard := _ }) (v := ?_) rfl (by kernel_rfl) (by kernel_rfl) (by kernel_rfl) (fun _ _ _ h => h) (Or.inl ⟨by rfl, ?_⟩) (by assumption) ?_
      rotate_left
      · intro W hSw
        (try dsimp only at hSw)
        go_simp
        (try with_reducible rfl)
      try simp only [Act.put, List.setIfInBounds_toArray, List.set_cons_zero, List.set_cons_succ]
      refine wpAnyH_take (i := 2) (oi := { dst := _, op := _, type := _, pos := _, after := _, guard := _ }) (v := ?_) rfl (by kernel_rfl) (by kernel_rfl) (by kernel_rfl) (fun _ _ _ h => h) (Or.inl ⟨by rfl, ?_⟩) (by assumption) ?_
      rotate_left
      · intro W hSw
        (try dsimp only at hSw)
        go_simp
        (try with_reducible rfl)
      try simp only [Act.put, List.setIfInBounds_toArray, List.set_cons_zero, List.set_cons_succ]
      refine wpAnyH_take (i := 3) (oi := { dst := _, op := _, type := _, pos := _, after := _, guard := _ }) (v := ?_) rfl (by kernel_rfl) (by kernel_rfl) (by kernel_rfl) (fun _ _ _ h => h) (Or.inl ⟨by rfl, ?_⟩) (by assumption) ?_
      rotate_left
      · intro W hSw
        (try dsimp only at hSw)
        go_simp
        (try with_reducible rfl)
      try simp only [Act.put, List.setIfInBounds_toArray, List.set_cons_zero, List.set_cons_succ]
      refine wpAnyH_take (i := 4) (oi := { dst := _, op := _, type := _, pos := _, after := _, guard := _ }) (v := ?_) rfl (by kernel_rfl) (by kernel_rfl) (by kernel_rfl) (fun _ _ _ h => h) (Or.inl ⟨by rfl, ?_⟩) (by assumption) ?_
      rotate_left
      · intro W hSw
        (try dsimp only at hSw)
        go_simp
        (try with_reducible rfl)
      try simp only [Act.put, List.setIfInBounds_toArray, List.set_cons_zero, List.set_cons_succ]
      refine wpAnyH_take (i := 5) (oi := { dst := _, op := _, type := _, pos := _, after := _, guard := _ }) (v := ?_) rfl (by kernel_rfl) (by kernel_rfl) (by kernel_rfl) (fun _ _ _ h => h) (Or.inl ⟨by rfl, ?_⟩) (by assumption) ?_
      rotate_left
      · intro W hSw
        (try dsimp only at hSw)
        go_simp
        (try with_reducible rfl)
      try simp only [Act.put, List.setIfInBounds_toArray, List.set_cons_zero, List.set_cons_succ]
      refine wpAnyH_take (i := 6) (oi := { dst := _, op := _, type := _, pos := _, after := _, guard := _ }) (v := ?_) rfl (by kernel_rfl) (by kernel_rfl) (by kernel_rfl) (fun _ _ _ h => h) (Or.inl ⟨by rfl, ?_⟩) (by assumption) ?_
      rotate_left
      · intro W hSw
        (try dsimp only at hSw)
        go_simp
        (try with_reducible rfl)
      try simp only [Act.put, List.setIfInBounds_toArray, List.set_cons_zero, List.set_cons_succ]
      refine wpAnyH_take (i := 7) (oi := { dst := _, op := _, type := _, pos := _, after := _, guard := _ }) (v := ?_) rfl (by kernel_rfl) (by kernel_rfl) (by kernel_rfl) (fun _ _ _ h => h) (Or.inl ⟨by rfl, ?_⟩) (by assumption) ?_
      rotate_left
      · intro W hSw
        (try dsimp only at hSw)
        go_simp
        (try with_reducible rfl)
      try simp only [Act.put, List.setIfInBounds_toArray, List.set_cons_zero, List.set_cons_succ]
      refine wpAnyH_take (i := 8) (oi := { dst := _, op := _, type := _, pos := _, after := _, guard := _ }) (v := ?_) rfl (by kernel_rfl) (by kernel_rfl) (by kernel_rfl) (fun _ _ _ h => h) (Or.inl ⟨by rfl, ?_⟩) (by assumption) ?_
      rotate_left
      · intro W hSw
        (try dsimp only at hSw)
        go_simp
        (try with_reducible rfl)
      try simp only [Act.put, List.setIfInBounds_toArray, List.set_cons_zero, List.set_cons_succ]
      refine wpAnyH_done (by kernel_rfl) ?_ _
      refine NoPanic.normal ?_
      clear hHeld
      go_wp2_with fail
      go_roundg (N - (i + 1))
      case measure => have := HI.out; have := HIL.out; omega
      case rel => exact ⟨i + 1, by first | rfl | (rw [show (i : Int) + 1 = ((i + 1 : Nat) : Int) by omega]), below_trans HBW.out BD.out, ⟨HIL.out, rfl⟩⟩
    · have e1 : decide ((i : Int) < (N : Int)) = false := by rw [decide_eq_false_iff_not]; omega
      have e2 : decide (i < N) = false := by rw [decide_eq_false_iff_not]; omega
      clear hi
      go_wp2_with fail
      go_ret
      exact ⟨rfl, HBW.out⟩

set_option maxRecDepth 100000 in
set_option maxHeartbeats 8000000 in
theorem sameTerms_any {va vb : Value} {N : Nat} {Q : Ss} (w : World) (ha : Rw w va N (tC N Q)) (hb : Rw w vb N (tC N Q)) (hl : N ≤ 192) :
    Calls Try.prog 26 #[va, vb] w fun e w' => e = .returned (.bool true) ∧ Below w.heap.size w w' := by
  have HVA : Hid (Rw w va N (tC N Q)) := ha
  have HVB : Hid (Rw w vb N (tC N Q)) := hb
  have HL : Hid (N ≤ 192) := hl
  obtain ⟨xa, ca, rfl⟩ := ha.form
  obtain ⟨xb, cb, rfl⟩ := hb.form
  clear ha hb hl
  have kk1 : ((N : Int) == (N : Int)) = true := by rw [beq_iff_eq]
  go_enter Try.func26, Try.ntmps26
  go_upto_region 4 with fail
  go_loopg [5] N (fun gm v5 wr => ∃ i : Nat, v5 = .int .i64 (i : Int) ∧ Hid (Below w.heap.size w wr) ∧ Hid (i ≤ N ∧ gm = N - i))
  case atStart => exact ⟨0, rfl, Below.refl _ _, ⟨Nat.zero_le _, rfl⟩⟩
  case round =>
    obtain ⟨i, rfl, HBW, HI⟩ := hrel
    by_cases hi : i < N
    · obtain ⟨g, o, cap, e0, hc⟩ := HVA.out.place (by omega)
      obtain ⟨rfl, -, rfl⟩ := Value.slice.inj e0
      obtain ⟨g2, o2, cap2, e02, hc2⟩ := HVB.out.place (by omega)
      obtain ⟨rfl, -, rfl⟩ := Value.slice.inj e02
      have k0 := below_cell HBW.out (hc _ _ (tC_get Q hi))
      have l0 := below_cell HBW.out (hc2 _ _ (tC_get Q hi))
      have e1 : decide ((i : Int) < (N : Int)) = true := by rw [decide_eq_true_eq]; omega
      have e2 : decide (i < N) = true := by rw [decide_eq_true_eq]; omega
      have e5 : (i : Int) < (N : Int) := by omega
      have e6 : i < N := hi
      have HIL : Hid (i < N) := hi
      have hwr := w64n i (by have := HL.out; have := HIL.out; omega)
      obtain ⟨x, hx⟩ : ∃ x, (Q i).1 = x := ⟨_, rfl⟩
      rw [hx] at k0 l0
      have kx : ((x : Int) == (x : Int)) = true := by rw [beq_iff_eq]
      clear e0 hc hx hi e02 hc2
      go_upto_region 6 with fail
      obtain ⟨WD, hWD⟩ : ∃ WD, wr.drew = WD := ⟨_, rfl⟩
      have BD : Hid (Below wr.heap.size wr WD) := by rw [← hWD]; exact Below.drew (Below.refl _ _)
      have HS : Hid (WD.cell? ⟨g, o + i, none⟩ = some (.int .u64 (x : Int)) ∧ WD.cell? ⟨g2, o2 + i, none⟩ = some (.int .u64 (x : Int))) := ⟨below_cell BD.out k0, below_cell BD.out l0⟩
      clear k0 l0
      refine wp_region_noPanic ?_
      refine wp_region_held_drew (S := fun W => W.cell? ⟨g, o + i, none⟩ = some (.int .u64 (x : Int)) ∧ W.cell? ⟨g2, o2 + i, none⟩ = some (.int .u64 (x : Int))) (by kernel_rfl) (by rw [hWD]; exact HS.out) (fun hHeld => ?_)
      rw [hWD] at hHeld ⊢
      clear hWD
      refine wpAnyH_take (i := 0) (oi := { dst := _, op := _, type := _, pos := _, after := _, guard := _ }) (v := ?_) rfl (by kernel_rfl) (by kernel_rfl) (by kernel_rfl) (fun _ _ _ h => h) (Or.inl ⟨by rfl, ?_⟩) (by assumption) ?_
      rotate_left
      · intro W hSw
        (try dsimp only at hSw)
        go_simp
        (try with_reducible rfl)
      try simp only [Act.put, List.setIfInBounds_toArray, List.set_cons_zero, List.set_cons_succ]
      refine wpAnyH_take (i := 1) (oi := { dst := _, op := _, type := _, pos := _, after := _, guard := _ }) (v := ?_) rfl (by kernel_rfl) (by kernel_rfl) (by kernel_rfl) (fun _ _ _ h => h) (Or.inl ⟨by rfl, ?_⟩) (by assumption) ?_
      rotate_left
      · intro W hSw
        (try dsimp only at hSw)
        go_simp
        (try with_reducible rfl)
      try simp only [Act.put, List.setIfInBounds_toArray, List.set_cons_zero, List.set_cons_succ]
      refine wpAnyH_take (i := 2) (oi := { dst := _, op := _, type := _, pos := _, after := _, guard := _ }) (v := ?_) rfl (by kernel_rfl) (by kernel_rfl) (by kernel_rfl) (fun _ _ _ h => h) (Or.inl ⟨by rfl, ?_⟩) (by assumption) ?_
      rotate_left
      · intro W hSw
        (try dsimp only at hSw)
        go_simp
        (try with_reducible rfl)
      try simp only [Act.put, List.setIfInBounds_toArray, List.set_cons_zero, List.set_cons_succ]
      refine wpAnyH_take (i := 3) (oi := { dst := _, op := _, type := _, pos := _, after := _, guard := _ }) (v := ?_) rfl (by kernel_rfl) (by kernel_rfl) (by kernel_rfl) (fun _ _ _ h => h) (Or.inl ⟨by rfl, ?_⟩) (by assumption) ?_
      rotate_left
      · intro W hSw
        (try dsimp only at hSw)
        go_simp
        (try with_reducible rfl)
      try simp only [Act.put, List.setIfInBounds_toArray, List.set_cons_zero, List.set_cons_succ]
      refine wpAnyH_take (i := 4) (oi := { dst := _, op := _, type := _, pos := _, after := _, guard := _ }) (v := ?_) rfl (by kernel_rfl) (by kernel_rfl) (by kernel_rfl) (fun _ _ _ h => h) (Or.inl ⟨by rfl, ?_⟩) (by assumption) ?_
      rotate_left
      · intro W hSw
        (try dsimp only at hSw)
        go_simp
        (try with_reducible rfl)
      try simp only [Act.put, List.setIfInBounds_toArray, List.set_cons_zero, List.set_cons_succ]
      refine wpAnyH_take (i := 5) (oi := { dst := _, op := _, type := _, pos := _, after := _, guard := _ }) (v := ?_) rfl (by kernel_rfl) (by kernel_rfl) (by kernel_rfl) (fun _ _ _ h => h) (Or.inl ⟨by rfl, ?_⟩) (by assumption) ?_
      rotate_left
      · intro W hSw
        (try dsimp only at hSw)
        go_simp
        (try with_reducible rfl)
      try simp only [Act.put, List.setIfInBounds_toArray, List.set_cons_zero, List.set_cons_succ]
      refine wpAnyH_take (i := 6) (oi := { dst := _, op := _, type := _, pos := _, after := _, guard := _ }) (v := ?_) rfl (by kernel_rfl) (by kernel_rfl) (by kernel_rfl) (fun _ _ _ h => h) (Or.inl ⟨by rfl, ?_⟩) (by assumption) ?_
      rotate_left
      · intro W hSw
        (try dsimp only at hSw)
        go_simp
        (try with_reducible rfl)
      try simp only [Act.put, List.setIfInBounds_toArray, List.set_cons_zero, List.set_cons_succ]
      refine wpAnyH_take (i := 7) (oi := { dst := _, op := _, type := _, pos := _, after := _, guard := _ }) (v := ?_) rfl (by kernel_rfl) (by kernel_rfl) (by kernel_rfl) (fun _ _ _ h => h) (Or.inl ⟨by rfl, ?_⟩) (by assumption) ?_
      rotate_left
      · intro W hSw
        (try dsimp only at hSw)
        go_simp
        (try with_reducible rfl)
      try simp only [Act.put, List.setIfInBounds_toArray, List.set_cons_zero, List.set_cons_succ]
      refine wpAnyH_take (i := 8) (oi := { dst := _, op := _, type := _, pos := _, after := _, guard := _ }) (v := ?_) rfl (by kernel_rfl) (by kernel_rfl) (by kernel_rfl) (fun _ _ _ h => h) (Or.inl ⟨by rfl, ?_⟩) (by assumption) ?_
      rotate_left
      · intro W hSw
        (try dsimp only at hSw)
        go_simp
        (try with_reducible rfl)
      try simp only [Act.put, List.setIfInBounds_toArray, List.set_cons_zero, List.set_cons_succ]
      refine wpAnyH_done (by kernel_rfl) ?_ _
      refine NoPanic.normal ?_
      clear hHeld
      go_wp2_with fail
      go_roundg (N - (i + 1))
      case measure => have := HI.out; have := HIL.out; omega
      case rel => exact ⟨i + 1, by first | rfl | (rw [show (i : Int) + 1 = ((i + 1 : Nat) : Int) by omega]), below_trans HBW.out BD.out, ⟨HIL.out, rfl⟩⟩
    · have e1 : decide ((i : Int) < (N : Int)) = false := by rw [decide_eq_false_iff_not]; omega
      have e2 : decide (i < N) = false := by rw [decide_eq_false_iff_not]; omega
      clear hi
      go_wp2_with fail
      go_ret
      exact ⟨rfl, HBW.out⟩

theorem tC_step (i : Nat) (S : Ss) : tC (i + 1) S = tC i S ++ [.int .u64 ((S i).1 : Int)] := by unfold tC; rw [List.range_succ, List.map_append]; rfl

set_option maxRecDepth 100000 in
set_option maxHeartbeats 8000000 in
theorem rfirst_own {v0 v1 v2 : Value} {nT nS : Nat} {P : List Pd} (w : World) (h : Gm w v0 v1 v2 nT nS P) (hz : Gz nT nS P) :
    Calls Try.prog 24 #[.agg #[v0, v1, v2]] w fun e w' => ∃ u, e = .returned u ∧ w'.ownsRow w.heap.size 29 1 u (nN nT nS P) (tC (nN nT nS P) (fin nT (P.map pq))) ∧ Below w.heap.size w w' := by
  have HG : Hid (Gm w v0 v1 v2 nT nS P) := h
  have HZ : Hid (Gz nT nS P) := hz
  obtain ⟨a0, c0, a1, c1, a2, c2, rfl, rfl, rfl⟩ := h.form
  clear h hz
  obtain ⟨n, hnn⟩ : ∃ n, P.length = n := ⟨_, rfl⟩
  rw [hnn] at HG ⊢
  clear hnn
  obtain ⟨W1, hW1⟩ : ∃ W1, W1 = w.alloc (.cells #[.slice a0 nT c0, .slice a1 nS c1, .slice a2 n c2] 26) := ⟨_, rfl⟩
  have HX : Hid (W1.heap[w.heap.size]? = some (.cells #[.slice a0 nT c0, .slice a1 nS c1, .slice a2 n c2] 26 (0, 0))) := by rw [hW1]; exact heap_new w _
  have HB1 : Hid (Below w.heap.size w W1) := by rw [hW1]; exact bel_up _ _
  go_enter Try.func24, Try.ntmps24
  go_upto_region 1 with fail
  rw [← hW1]
  clear hW1
  obtain ⟨gb, hgb⟩ : ∃ gb, w.heap.size = gb := ⟨_, rfl⟩
  have HGB : Hid (w.heap.size = gb) := hgb
  rw [hgb] at HX ⊢
  clear hgb
  have HGN : Hid (Gm W1 (.slice a0 nT c0) (.slice a1 nS c1) (.slice a2 n c2) nT nS P) := HG.out.up HB1.out
  have HCC : Hid (∀ W : World, W.heap[gb]? = some (.cells #[.slice a0 nT c0, .slice a1 nS c1, .slice a2 n c2] 26 (0, 0)) → W.cell? ⟨gb, 0, none⟩ = some (.slice a0 nT c0) ∧ W.cell? ⟨gb, 1, none⟩ = some (.slice a1 nS c1) ∧ W.cell? ⟨gb, 2, none⟩ = some (.slice a2 n c2)) := fun W hW => ⟨rcell hW 0 _ rfl, rcell hW 1 _ rfl, rcell hW 2 _ rfl⟩
  obtain ⟨p0, p1, p2⟩ := HCC.out W1 HX.out
  by_cases hs : snd nT nS P = true
  rotate_left
  · have HSN : Hid (snd nT nS P = false) := by rw [Bool.not_eq_true] at hs; exact hs
    clear hs
    go_wp2_with (go_at_call 35; refine (rsound_any W1 HGN.out HZ.out).mono ?_; rintro e Y3 ⟨rfl, hy3⟩; have BY3 : Hid (Below W1.heap.size W1 Y3) := hy3; clear hy3; rw [HSN.out])
    go_ret
    have e0 : nN nT nS P = 0 := by unfold nN; rw [HSN.out]; rfl
    rw [e0]
    exact ⟨_, rfl, World.ownsRow_nil _ _ _ _, below_trans HB1.out BY3.out⟩
  have HSN : Hid (snd nT nS P = true) := hs
  clear hs
  have HSM : Hid _ := snd_mem HSN.out
  have HFK : Hid (Fk nT (P.map pq) (fin nT (P.map pq))) := fk_pure HSN.out
  have HNE : Hid (nN nT nS P = nT + nS) := by show _ = _; unfold nN; rw [HSN.out]; rfl
  obtain ⟨N, hN⟩ : ∃ N, nT + nS = N := ⟨_, rfl⟩
  have HN : Hid (nT + nS = N) := hN
  have HNL : Hid (N ≤ 192) := by have := HSM.out.1; show N ≤ 192; omega
  clear hN
  obtain ⟨i29, hi, h0, h1, h2⟩ := info_parts info29
  have HI29 : Hid (Try.prog.info? 29 = some i29 ∧ i29.zero = some (.int .u64 0) ∧ i29.size = 1 ∧ i29.bytes = 8) := ⟨hi, h0, h1, h2⟩
  clear hi h0 h1 h2
  have hadd : IntKind.i64.wrap ((nT : Int) + (nS : Int)) = (N : Int) := by have := HNL.out; have := HN.out; rw [IntKind.wrap_i64]; omega
  go_upto_region 3 with (go_at_call 35; refine (rsound_any W1 HGN.out HZ.out).mono ?_; rintro e Y3 ⟨rfl, hy3⟩; have BY3 : Hid (Below W1.heap.size W1 Y3) := hy3; clear hy3; rw [HSN.out])
  clear p0 p1 p2
  have HX3 : Hid (Y3.heap[gb]? = some (.cells #[.slice a0 nT c0, .slice a1 nS c1, .slice a2 n c2] 26 (0, 0))) := (BY3.out.block _ (lt_of_heap HX.out)).trans HX.out
  obtain ⟨p0, p1, p2⟩ := HCC.out Y3 HX3.out
  go_upto_region 4 with (go_at_call 23; refine (rnull_own Y3 (HGN.out.up BY3.out) HZ.out).mono ?_; rintro e Y4 ⟨un, rfl, ho4, hy4⟩; have BY4 : Hid (Below Y3.heap.size Y3 Y4) := hy4; have HQ4 : Hid (Y4.ownsRow Y3.heap.size 4 1 un N (qC N (fun x => (fin nT (P.map pq) x).2))) := (by have h9 := ho4; rw [HNE.out, HN.out] at h9; exact h9); clear hy4 ho4)
  clear p0 p1 p2
  obtain ⟨S, hS⟩ : ∃ S, fin nT (P.map pq) = S := ⟨_, rfl⟩
  have HSE : Hid (fin nT (P.map pq) = S) := hS
  rw [hS] at HFK HQ4
  clear hS
  obtain ⟨an, cn, rfl⟩ := row_shape HQ4.out
  have BS3 : Hid (w.heap.size ≤ Y3.heap.size) := (below_trans HB1.out BY3.out).size
  have BW4 : Hid (Below w.heap.size w Y4) := below_trans HB1.out (below_trans BY3.out BY4.out)
  have HX4 : Hid (Y4.heap[gb]? = some (.cells #[.slice a0 nT c0, .slice a1 nS c1, .slice a2 n c2] 26 (0, 0))) := (BY4.out.block _ (lt_of_heap HX3.out)).trans HX3.out
  clear BY3 BY4 HX3
  go_upto_region 6 with fail
  have HQ5 : Hid (Y4.ownsRow w.heap.size 4 1 (.slice an N cn) N (qC N (fun x => (S x).2))) := row_base HQ4.out BS3.out
  go_loopg [4, 5] N (fun gm v4 v5 wr => ∃ i : Nat, v5 = .int .i64 (i : Int) ∧ ∃ (ra : Option Addr) (m rc : Nat), v4 = .slice ra m rc ∧ Hid (m = i) ∧ Hid (Below w.heap.size w wr) ∧ Hid (i ≤ N ∧ gm = N - i) ∧ Hid (wr.heap[gb]? = some (.cells #[.slice a0 nT c0, .slice a1 nS c1, .slice a2 n c2] 26 (0, 0))) ∧ Hid (wr.ownsRow w.heap.size 4 1 (.slice an N cn) N (qC N (fun x => (S x).2))) ∧ Hid (wr.ownsRow w.heap.size 29 1 (.slice ra m rc) m (tC i S)))
  case atStart => exact ⟨0, rfl, none, 0, 0, rfl, rfl, BW4, ⟨Nat.zero_le _, rfl⟩, HX4, HQ5, World.ownsRow_nil _ _ _ _⟩
  case round =>
    clear BW4 HX4 HQ5 HQ4
    obtain ⟨i, rfl, ra, m, rc, rfl, HM, HBW, HI, HX, HQ, HRO⟩ := hrel
    obtain ⟨p0, p1, p2⟩ := HCC.out wr HX.out
    by_cases hi : i < N
    · have e1 : decide ((i : Int) < (N : Int)) = true := by rw [decide_eq_true_eq]; omega
      have e2 : decide (i < N) = true := by rw [decide_eq_true_eq]; omega
      have e5 : (i : Int) < (N : Int) := by omega
      have e6 : i < N := hi
      have HIL : Hid (i < N) := hi
      have hwr := w64n i (by have := HNL.out; have := HIL.out; omega)
      clear hi
      obtain ⟨W5, hW5⟩ : ∃ W5, W5 = wr.alloc (.cells #[.int .i64 (i : Int), .string ⟨#[]⟩, .string ⟨#[]⟩] 32) := ⟨_, rfl⟩
      have B5 : Hid (Below wr.heap.size wr W5) := by rw [hW5]; exact bel_up _ _
      have HR5 : Hid (Rw W5 (.slice (some ⟨wr.heap.size, 0, none⟩) 1 1) 1 (flat rf [((i : Int), ⟨#[]⟩, ⟨#[]⟩)])) := by
        have h9 := heap_new wr (.cells #[.int .i64 (i : Int), .string ⟨#[]⟩, .string ⟨#[]⟩] 32)
        rw [← hW5] at h9
        exact ⟨_, wr.heap.size, 0, 1, rfl, Nat.le_refl _, fun h => (by cases h), fun _ => rfl, fun j u hu => by
          rw [Nat.zero_add, Lib.cell_of_heap h9]
          show (List.toArray [_, _, _])[j]? = _
          rw [List.getElem?_toArray]
          exact hu⟩
      have HG5 : Hid (Gm W5 (.slice a0 nT c0) (.slice a1 nS c1) (.slice a2 n c2) nT nS P) := HG.out.up (below_trans HBW.out B5.out)
      have HQ5 : Hid (Bq W5 (.slice an N cn) (nT + nS) (fun x => (S x).2)) := by rw [HN.out]; exact row_rw (row_up HQ.out B5.out) (by decide)
      have HW5 : Hid (wth (nT + nS) [((i : Int), (⟨#[]⟩ : ByteArray), (⟨#[]⟩ : ByteArray))] = true) := by
        show (decide (0 ≤ (i : Int)) && decide ((i : Int) < ((nT + nS : Nat) : Int)) && true) = true
        rw [decide_eq_true (by omega), decide_eq_true (by have := HN.out; have := HIL.out; omega)]
        rfl
      have HAL : Hid ((alg S (syl [((i : Int), (⟨#[]⟩ : ByteArray), (⟨#[]⟩ : ByteArray))])).1 = (S i).1) := by
        show (alg S [((i : Int)).toNat]).1 = _
        rw [Int.toNat_natCast]
        cases e : (S i).2 with
        | false => rw [alg_no S i [] e]
        | true => rw [alg_yes S i [] e]; exact Nat.or_zero _
      go_upto_region 9 with (go_at_call 37; rw [← hW5]; refine (begins_any (l := [((i : Int), ⟨#[]⟩, ⟨#[]⟩)]) W5 HG5.out HZ.out HSN.out HFK.out HQ5.out HR5.out (by show 1 * 40 + 4096 ≤ 140737488355328; decide) HW5.out).mono ?_; rintro e Z1 ⟨rfl, hz1⟩; have BZ1 : Hid (Below wr.heap.size wr Z1) := below_trans B5.out hz1; clear hz1; rw [HAL.out])
      clear hW5 p0 p1 p2
      obtain ⟨t, ht⟩ : ∃ t, (S i).1 = t := ⟨_, rfl⟩
      have HT : Hid ((S i).1 = t) := ht
      rw [ht]
      clear ht
      have HRZ : Hid ((Z1.alloc (.cells #[.int .u64 (t : Int)] 29)).ownsRow w.heap.size 29 1 (.slice ra m rc) m (tC i S)) := row_up (row_up HRO.out BZ1.out) (bel_up _ _)
      have HQZ : Hid ((Z1.alloc (.cells #[.int .u64 (t : Int)] 29)).ownsRow w.heap.size 4 1 (.slice an N cn) N (qC N (fun x => (S x).2))) := row_up (row_up HQ.out BZ1.out) (bel_up _ _)
      have HXZ : Hid ((Z1.alloc (.cells #[.int .u64 (t : Int)] 29)).heap[gb]? = some (.cells #[.slice a0 nT c0, .slice a1 nS c1, .slice a2 n c2] 26 (0, 0))) := ((below_trans BZ1.out (bel_up _ _)).block _ (lt_of_heap HX.out)).trans HX.out
      have HBZ : Hid (Below w.heap.size w (Z1.alloc (.cells #[.int .u64 (t : Int)] 29))) := below_trans HBW.out (below_trans BZ1.out (bel_up _ _))
      go_wp2_with (at_builtin; refine wpList_append_own_at _ rfl _ _ 38 rfl w.heap.size 29 i29 (.int .u64 0) 1 8 Try.underlying38 HI29.out.1 HI29.out.2.1 HI29.out.2.2.1 HI29.out.2.2.2 rfl (by decide) _ _ _ rfl HRZ.out ⟨Z1.heap.size, 0, none⟩ 1 1 [.int .u64 (t : Int)] rfl rfl (cell_one_new _ _ _) (by simp [Value.oneCell']) (by have := HM.out; have := HNL.out; have := HIL.out; unfold maxLen; omega) (by have := HM.out; have := HNL.out; have := HIL.out; omega) HBZ.out.size ?_; intro v6 w6 ho6 hg6 _ ha6; have HO6 : Hid (w6.ownsRow w.heap.size 29 1 v6 (m + 1) (tC i S ++ [.int .u64 (t : Int)])) := ho6; have HG6 : Hid _ := hg6; obtain ⟨qa, qc, rfl⟩ := row_shape ho6; clear ho6 hg6 ha6)
      have HR6 : Hid (w6.ownsRow w.heap.size 29 1 (.slice qa (m + 1) qc) (m + 1) (tC (i + 1) S)) := by
        show World.ownsRow _ _ _ _ _ _ _
        rw [tC_step, HT.out]
        exact HO6.out
      have HQ6 : Hid (w6.ownsRow w.heap.size 4 1 (.slice an N cn) N (qC N (fun x => (S x).2))) := HQZ.out.kept HG6.out (tag_ne HQZ.out HRZ.out (by decide))
      have HX6 : Hid (w6.heap[gb]? = some (.cells #[.slice a0 nT c0, .slice a1 nS c1, .slice a2 n c2] 26 (0, 0))) := (HG6.out.block _ (lt_of_heap HXZ.out) (fun e => tag_ne_blk HRZ.out HXZ.out (by decide) e.symm)).trans HXZ.out
      have BW6 : Hid (Below w.heap.size w w6) := HBZ.out.grown HG6.out HBZ.out.size (fun r e' => (row_tag HRZ.out r e').1)
      go_roundg (N - (i + 1))
      case measure => have := HI.out; have := HIL.out; omega
      case rel => exact ⟨i + 1, by first | rfl | (rw [show (i : Int) + 1 = ((i + 1 : Nat) : Int) by omega]), qa, m + 1, qc, rfl, by have := HM.out; show _ = _; omega, BW6, ⟨HIL.out, rfl⟩, HX6, HQ6, HR6⟩
    · have e1 : decide ((i : Int) < (N : Int)) = false := by rw [decide_eq_false_iff_not]; omega
      have e2 : decide (i < N) = false := by rw [decide_eq_false_iff_not]; omega
      have HIN : Hid (i = N) := by have := HI.out; show i = N; omega
      clear hi
      go_wp2_with fail
      go_ret
      refine ⟨_, rfl, ?_, HBW.out⟩
      rw [HNE.out, HN.out, HSE.out]
      have h9 := HRO.out
      obtain rfl : m = i := HM.out
      rw [HIN.out] at h9
      rw [HIN.out]
      exact h9
end Go.Proofs.Ytodncbkdlnepjaa
