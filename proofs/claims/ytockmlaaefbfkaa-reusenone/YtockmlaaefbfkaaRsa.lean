import Derived.Test.YtockmlaaefbfkaaRtw
namespace Go.Proofs.Ytockmlaaefbfkaa
open Go.RowKit Go.Maps

def lf0 : Lf := ⟨1, 0, 2, 3, 2, sb0⟩
def lf1 : Lf := ⟨1, 1, 1, 2, 6, sb0⟩
theorem st_a : cnz 6 4 0 [lf0, lf1] = 2 := by kernel_rfl
theorem st_b : cnz 6 0 1 [lf0, lf1] = 1 := by kernel_rfl
theorem st_c : fnd (lst (stz 6 0 1 3 [lf0, lf1]) 4) sb0 6 = some lf1 := by kernel_rfl
theorem st_d : fnd (lst (stz 6 0 1 3 [lf0, lf1]) 2) sb0 6 = none := by kernel_rfl
theorem st_e : ∀ k, ((lst (stz 6 0 1 3 [lf0, lf1]) k).length ≤ 140737488355328 ∧ ∀ s ∈ lst (stz 6 0 1 3 [lf0, lf1]) k, s.2.a.size ≤ 140737488355328) := by
  have e : stz 6 0 1 3 [lf0, lf1] = [(4, (sb0, lf1))] := by kernel_rfl
  intro k
  rw [e, lst_one]
  split
  · refine ⟨by simp, fun s hs => ?_⟩
    cases List.mem_singleton.1 hs
    decide
  · exact ⟨by simp, fun s hs => by cases hs⟩
set_option maxRecDepth 100000 in
set_option maxHeartbeats 8000000 in
theorem started_any (w : World) : Calls Try.prog 5 #[] w fun e w' => e = .returned (.bool true) ∧ Below w.heap.size w w' := by
  obtain ⟨L, hL⟩ : ∃ L, L = [lf0, lf1] := ⟨_, rfl⟩
  have HNA : Hid (∀ (W : World) (v : Value), Lv W v L → Calls Try.prog 6 #[.int .i64 6, .agg (rsA v), edv 4 0 ⟨#[120]⟩] W fun e w' => ∃ p b m f S, e = .returned (.pointer (some ⟨p, 0, none⟩)) ∧ Ol W.heap.size w' p b m f S 2 ∧ Below W.heap.size W w') := fun W v h => by
    have h1 := new_any ru 6 4 0 ⟨#[120]⟩ W h (by rw [hL]; decide) (by decide) (by rw [hL]; intro x hx; simp only [List.mem_cons, List.not_mem_nil, or_false] at hx; rcases hx with rfl | rfl <;> decide)
    refine h1.mono ?_
    rintro e w' ⟨p, b, m, f, rfl, ho, hb⟩
    rw [hL, st_a] at ho
    exact ⟨p, b, m, f, _, rfl, ho, hb⟩
  have HNB : Hid (∀ (W : World) (v : Value), Lv W v L → Calls Try.prog 6 #[.int .i64 6, .agg (rsA v), edv 0 1 ⟨#[120, 121, 122]⟩] W fun e w' => ∃ p b m f, e = .returned (.pointer (some ⟨p, 0, none⟩)) ∧ Ol W.heap.size w' p b m f (stz 6 0 1 3 [lf0, lf1]) 1 ∧ Below W.heap.size W w') := fun W v h => by
    have h1 := new_any ru 6 0 1 ⟨#[120, 121, 122]⟩ W h (by rw [hL]; decide) (by decide) (by rw [hL]; intro x hx; simp only [List.mem_cons, List.not_mem_nil, or_false] at hx; rcases hx with rfl | rfl <;> decide)
    refine h1.mono ?_
    rintro e w' ⟨p, b, m, f, rfl, ho, hb⟩
    rw [hL, st_b] at ho
    exact ⟨p, b, m, f, rfl, ho, hb⟩
  have HFA : Hid (∀ (W : World) (B p b m : Nat) (f : Int → Value), Ol B W p b m f (stz 6 0 1 3 [lf0, lf1]) 1 → Calls Try.prog 8 #[.pointer (some ⟨p, 0, none⟩), .int .i64 4, .string sb0, .int .u64 6] W fun e w' => e = .returned (.tuple #[.agg #[.int .i64 1, .int .i64 1, .int .i64 1, .int .i64 2, .int .u64 6, .string sb0], .bool true]) ∧ Below W.heap.size W w') := fun W B p b m f h => by
    have h1 := find_any W h 4 ⟨by decide, by decide⟩ sb0 6 (st_e 4).1 (st_e 4).2
    rw [st_c] at h1
    exact h1
  have HFB : Hid (∀ (W : World) (B p b m : Nat) (f : Int → Value), Ol B W p b m f (stz 6 0 1 3 [lf0, lf1]) 1 → Calls Try.prog 8 #[.pointer (some ⟨p, 0, none⟩), .int .i64 2, .string sb0, .int .u64 6] W fun e w' => e = .returned (.tuple #[.agg #[.int .i64 0, .int .i64 0, .int .i64 0, .int .i64 0, .int .u64 0, .string ⟨#[]⟩], .bool false]) ∧ Below W.heap.size W w') := fun W B p b m f h => by
    have h1 := find_any W h 2 ⟨by decide, by decide⟩ sb0 6 (st_e 2).1 (st_e 2).2
    rw [st_d] at h1
    exact h1
  have HLV : Hid (∀ W : World, Lv (W.alloc (.cells #[.int .i64 1, .int .i64 0, .int .i64 2, .int .i64 3, .int .u64 2, .string sb0, .int .i64 1, .int .i64 1, .int .i64 1, .int .i64 2, .int .u64 6, .string sb0] 36)) (.slice (some ⟨W.heap.size, 0, none⟩) 2 2) L) := fun W => by
    rw [hL]
    refine ⟨_, W.heap.size, 0, 2, rfl, by decide, fun h => (by cases h), fun _ => rfl, fun j u hu => ?_⟩
    rw [Lib.cell_of_heap (heap_new W _), Nat.zero_add]
    simpa [flat, lf, lf0, lf1] using hu
  have HL : Hid (L = [lf0, lf1]) := hL
  clear hL
  generalize hsb : sb0 = sb at HFA HFB HLV
  have HSB : Hid (sb0 = sb) := hsb
  clear hsb
  generalize hST : stz 6 0 1 3 [lf0, lf1] = ST at HNB HFA HFB
  clear hST
  unfold rsA edv at HNA HNB
  have HEN : Hid (∀ W : World, Calls Try.prog 15 #[startv] W fun e w' => e = .returned (.tuple #[.string sb, .int .i64 0]) ∧ Below W.heap.size W w') := fun W => by rw [← HSB.out]; exact encode_start W
  go_enter Try.func5, Try.ntmps5
  go_upto_region 2 with first | (go_at_call 16; refine Calls.mono (start_any _) ?_; rintro ee W5 ⟨rfl, hb5⟩; have HB5 : Hid (Below w.heap.size w W5) := hb5; clear hb5) | (go_at_call 15; refine Calls.mono (HEN.out _) ?_; rintro ee W1 ⟨rfl, hb6⟩; have HB1 : Hid (Below w.heap.size w W1) := below_trans HB5.out hb6; clear hb6)
  clear HB5
  go_upto_region 3 with fail
  obtain ⟨W2, hW2⟩ : ∃ W2, W2 = W1.alloc (.cells #[.int .i64 1, .int .i64 0, .int .i64 2, .int .i64 3, .int .u64 2, .string sb, .int .i64 1, .int .i64 1, .int .i64 1, .int .i64 2, .int .u64 6, .string sb] 36) := ⟨_, rfl⟩
  rw [← hW2]
  have HV2 : Hid (Lv W2 (.slice (some ⟨W1.heap.size, 0, none⟩) 2 2) L) := by rw [hW2]; exact HLV.out W1
  have HX2 : Hid (W2.heap[W1.heap.size]? = some (.cells #[.int .i64 1, .int .i64 0, .int .i64 2, .int .i64 3, .int .u64 2, .string sb, .int .i64 1, .int .i64 1, .int .i64 1, .int .i64 2, .int .u64 6, .string sb] 36 (0, 0))) := by rw [hW2]; exact heap_new W1 _
  have HB2 : Hid (Below w.heap.size w W2) := by rw [hW2]; exact below_trans HB1.out (bel_up _ _)
  obtain ⟨q, hq⟩ : ∃ q, W1.heap.size = q := ⟨_, rfl⟩
  rw [hq] at HV2 HX2 ⊢
  clear hW2 hq HLV HB1
  go_upto_region 4 with (go_at_call 6; refine Calls.mono (HNA.out _ _ HV2.out) ?_; rintro ee W3 ⟨po, bo, mo, fo, So, rfl, ho3, hb3⟩; have HO3 : Hid (Ol W2.heap.size W3 po bo mo fo So 2) := ho3; have HU3 : Hid (Below W2.heap.size W2 W3) := hb3; clear ho3 hb3)
  have HV3 : Hid (Lv W3 (.slice (some ⟨q, 0, none⟩) 2 2) L) := HV2.out.up HU3.out
  go_upto_region 5 with (go_at_call 6; refine Calls.mono (HNB.out _ _ HV3.out) ?_; rintro ee W4 ⟨pp, bp, mp, fp, rfl, ho4, hb4⟩; have HO4 : Hid (Ol W3.heap.size W4 pp bp mp fp ST 1) := ho4; have HU4 : Hid (Below W3.heap.size W3 W4) := hb4; clear ho4 hb4)
  have HP4 : Hid (Ol W2.heap.size W4 po bo mo fo So 2) := HO3.out.up HU4.out
  have HX4 : Hid (W4.heap[q]? = some (.cells #[.int .i64 1, .int .i64 0, .int .i64 2, .int .i64 3, .int .u64 2, .string sb, .int .i64 1, .int .i64 1, .int .i64 1, .int .i64 2, .int .u64 6, .string sb] 36 (0, 0))) := ((below_trans HU3.out HU4.out).block _ (lt_of_heap HX2.out)).trans HX2.out
  have HB4 : Hid (Below w.heap.size w W4) := below_trans HB2.out (below_trans HU3.out HU4.out)
  clear HV2 HV3 HX2 HB2 HU3 HU4 HO3 HNA HNB
  go_upto_region 7 with first | (go_at_call_of 9 po; refine Calls.mono (standing_any _ HP4.out) ?_; rintro ee ww ⟨rfl, rfl⟩) | (go_at_call 9; refine Calls.mono (standing_any _ HO4.out) ?_; rintro ee ww ⟨rfl, rfl⟩)
  go_upto_region 8 with (go_at_call 8; refine Calls.mono (HFA.out _ _ _ _ _ _ HO4.out) ?_; rintro ee W5 ⟨rfl, hb5⟩; have HB5 : Hid (Below W4.heap.size W4 W5) := hb5; clear hb5)
  obtain ⟨W6, hW6⟩ : ∃ W6, W6 = W5.alloc (.cells #[.int .i64 1, .int .i64 1, .int .i64 1, .int .i64 2, .int .u64 6, .string sb] 36) := ⟨_, rfl⟩
  rw [← hW6]
  have HB6 : Hid (Below W4.heap.size W4 W6) := by rw [hW6]; exact below_trans HB5.out (bel_up _ _)
  obtain ⟨r, hr⟩ : ∃ r, W5.heap.size = r := ⟨_, rfl⟩
  have HY6 : Hid (W6.heap[r]? = some (.cells #[.int .i64 1, .int .i64 1, .int .i64 1, .int .i64 2, .int .u64 6, .string sb] 36 (0, 0))) := by rw [hW6, ← hr]; exact heap_new W5 _
  have HO6 : Hid (Ol W3.heap.size W6 pp bp mp fp ST 1) := HO4.out.up HB6.out
  rw [hr]
  clear hW6 hr HB5
  go_upto_region 9 with (go_at_call 8; refine Calls.mono (HFB.out _ _ _ _ _ _ HO6.out) ?_; rintro ee W7 ⟨rfl, hb7⟩; have HB7 : Hid (Below W6.heap.size W6 W7) := hb7; clear hb7)
  obtain ⟨W8, hW8⟩ : ∃ W8, W8 = W7.alloc (.cells #[.int .i64 0, .int .i64 0, .int .i64 0, .int .i64 0, .int .u64 0, .string ⟨#[]⟩] 36) := ⟨_, rfl⟩
  rw [← hW8]
  have HB8 : Hid (Below W6.heap.size W6 W8) := by rw [hW8]; exact below_trans HB7.out (bel_up _ _)
  clear hW8 HB7
  have HY8 : Hid (W8.heap[r]? = some (.cells #[.int .i64 1, .int .i64 1, .int .i64 1, .int .i64 2, .int .u64 6, .string sb] 36 (0, 0))) := (HB8.out.block _ (lt_of_heap HY6.out)).trans HY6.out
  have HX8 : Hid (W8.heap[q]? = some (.cells #[.int .i64 1, .int .i64 0, .int .i64 2, .int .i64 3, .int .u64 2, .string sb, .int .i64 1, .int .i64 1, .int .i64 1, .int .i64 2, .int .u64 6, .string sb] 36 (0, 0))) := ((below_trans HB6.out HB8.out).block _ (lt_of_heap HX4.out)).trans HX4.out
  have HW8 : Hid (Below w.heap.size w W8) := below_trans HB4.out (below_trans HB6.out HB8.out)
  clear HB6 HB8 HY6 HX4 HB4 HO6 HO4 HP4 HFA HFB
  refine wp_region_noPanic ?_
  refine wp_region_held_drew (S := fun V => V.cell? ⟨r, 0, none⟩ = some (.int .i64 1) ∧ V.cell? ⟨r, 1, none⟩ = some (.int .i64 1) ∧ V.cell? ⟨r, 2, none⟩ = some (.int .i64 1) ∧ V.cell? ⟨r, 3, none⟩ = some (.int .i64 2) ∧ V.cell? ⟨r, 4, none⟩ = some (.int .u64 6) ∧ V.cell? ⟨r, 5, none⟩ = some (.string sb) ∧ V.cell? ⟨q, 6, none⟩ = some (.int .i64 1) ∧ V.cell? ⟨q, 7, none⟩ = some (.int .i64 1) ∧ V.cell? ⟨q, 8, none⟩ = some (.int .i64 1) ∧ V.cell? ⟨q, 9, none⟩ = some (.int .i64 2) ∧ V.cell? ⟨q, 10, none⟩ = some (.int .u64 6) ∧ V.cell? ⟨q, 11, none⟩ = some (.string sb)) (by kernel_rfl) ⟨rcell (W := W8.drew) HY8.out 0 _ rfl, rcell (W := W8.drew) HY8.out 1 _ rfl, rcell (W := W8.drew) HY8.out 2 _ rfl, rcell (W := W8.drew) HY8.out 3 _ rfl, rcell (W := W8.drew) HY8.out 4 _ rfl, rcell (W := W8.drew) HY8.out 5 _ rfl, rcell (W := W8.drew) HX8.out 6 _ rfl, rcell (W := W8.drew) HX8.out 7 _ rfl, rcell (W := W8.drew) HX8.out 8 _ rfl, rcell (W := W8.drew) HX8.out 9 _ rfl, rcell (W := W8.drew) HX8.out 10 _ rfl, rcell (W := W8.drew) HX8.out 11 _ rfl⟩ (fun hHeld => ?_)
  refine wpAnyH_take (i := 0) (oi := { dst := _, op := _, type := _, pos := _, after := _, guard := _ }) (v := ?_) rfl (by kernel_rfl) (by kernel_rfl) (by kernel_rfl) (fun _ _ _ h => h) (Or.inl ⟨by rfl, ?_⟩) (by assumption) ?_
  rotate_left
  · intro W hSw
    (try dsimp only at hSw)
    obtain ⟨a0, a1, a2, a3, a4, a5, b0, b1, b2, b3, b4, b5⟩ := hSw
    go_simp
    (try with_reducible rfl)
  try simp only [Act.put, List.setIfInBounds_toArray, List.set_cons_zero, List.set_cons_succ]
  refine wpAnyH_take (i := 1) (oi := { dst := _, op := _, type := _, pos := _, after := _, guard := _ }) (v := ?_) rfl (by kernel_rfl) (by kernel_rfl) (by kernel_rfl) (fun _ _ _ h => h) (Or.inl ⟨by rfl, ?_⟩) (by assumption) ?_
  rotate_left
  · intro W hSw
    (try dsimp only at hSw)
    obtain ⟨a0, a1, a2, a3, a4, a5, b0, b1, b2, b3, b4, b5⟩ := hSw
    go_simp
    (try with_reducible rfl)
  try simp only [Act.put, List.setIfInBounds_toArray, List.set_cons_zero, List.set_cons_succ]
  refine wpAnyH_take (i := 2) (oi := { dst := _, op := _, type := _, pos := _, after := _, guard := _ }) (v := ?_) rfl (by kernel_rfl) (by kernel_rfl) (by kernel_rfl) (fun _ _ _ h => h) (Or.inl ⟨by rfl, ?_⟩) (by assumption) ?_
  rotate_left
  · intro W hSw
    (try dsimp only at hSw)
    obtain ⟨a0, a1, a2, a3, a4, a5, b0, b1, b2, b3, b4, b5⟩ := hSw
    go_simp
    (try with_reducible rfl)
  try simp only [Act.put, List.setIfInBounds_toArray, List.set_cons_zero, List.set_cons_succ]
  refine wpAnyH_take (i := 3) (oi := { dst := _, op := _, type := _, pos := _, after := _, guard := _ }) (v := ?_) rfl (by kernel_rfl) (by kernel_rfl) (by kernel_rfl) (fun _ _ _ h => h) (Or.inl ⟨by rfl, ?_⟩) (by assumption) ?_
  rotate_left
  · intro W hSw
    (try dsimp only at hSw)
    obtain ⟨a0, a1, a2, a3, a4, a5, b0, b1, b2, b3, b4, b5⟩ := hSw
    go_simp
    (try with_reducible rfl)
  try simp only [Act.put, List.setIfInBounds_toArray, List.set_cons_zero, List.set_cons_succ]
  refine wpAnyH_take (i := 4) (oi := { dst := _, op := _, type := _, pos := _, after := _, guard := _ }) (v := ?_) rfl (by kernel_rfl) (by kernel_rfl) (by kernel_rfl) (fun _ _ _ h => h) (Or.inl ⟨by rfl, ?_⟩) (by assumption) ?_
  rotate_left
  · intro W hSw
    (try dsimp only at hSw)
    obtain ⟨a0, a1, a2, a3, a4, a5, b0, b1, b2, b3, b4, b5⟩ := hSw
    go_simp
    (try with_reducible rfl)
  try simp only [Act.put, List.setIfInBounds_toArray, List.set_cons_zero, List.set_cons_succ]
  refine wpAnyH_take (i := 5) (oi := { dst := _, op := _, type := _, pos := _, after := _, guard := _ }) (v := ?_) rfl (by kernel_rfl) (by kernel_rfl) (by kernel_rfl) (fun _ _ _ h => h) (Or.inl ⟨by rfl, ?_⟩) (by assumption) ?_
  rotate_left
  · intro W hSw
    (try dsimp only at hSw)
    obtain ⟨a0, a1, a2, a3, a4, a5, b0, b1, b2, b3, b4, b5⟩ := hSw
    go_simp
    (try with_reducible rfl)
  try simp only [Act.put, List.setIfInBounds_toArray, List.set_cons_zero, List.set_cons_succ]
  refine wpAnyH_take (i := 6) (oi := { dst := _, op := _, type := _, pos := _, after := _, guard := _ }) (v := ?_) rfl (by kernel_rfl) (by kernel_rfl) (by kernel_rfl) (fun _ _ _ h => h) (Or.inl ⟨by rfl, ?_⟩) (by assumption) ?_
  rotate_left
  · intro W hSw
    (try dsimp only at hSw)
    obtain ⟨a0, a1, a2, a3, a4, a5, b0, b1, b2, b3, b4, b5⟩ := hSw
    go_simp
    (try with_reducible rfl)
  try simp only [Act.put, List.setIfInBounds_toArray, List.set_cons_zero, List.set_cons_succ]
  refine wpAnyH_take (i := 7) (oi := { dst := _, op := _, type := _, pos := _, after := _, guard := _ }) (v := ?_) rfl (by kernel_rfl) (by kernel_rfl) (by kernel_rfl) (fun _ _ _ h => h) (Or.inl ⟨by rfl, ?_⟩) (by assumption) ?_
  rotate_left
  · intro W hSw
    (try dsimp only at hSw)
    obtain ⟨a0, a1, a2, a3, a4, a5, b0, b1, b2, b3, b4, b5⟩ := hSw
    go_simp
    (try with_reducible rfl)
  try simp only [Act.put, List.setIfInBounds_toArray, List.set_cons_zero, List.set_cons_succ]
  refine wpAnyH_take (i := 8) (oi := { dst := _, op := _, type := _, pos := _, after := _, guard := _ }) (v := ?_) rfl (by kernel_rfl) (by kernel_rfl) (by kernel_rfl) (fun _ _ _ h => h) (Or.inl ⟨by rfl, ?_⟩) (by assumption) ?_
  rotate_left
  · intro W hSw
    (try dsimp only at hSw)
    obtain ⟨a0, a1, a2, a3, a4, a5, b0, b1, b2, b3, b4, b5⟩ := hSw
    go_simp
    (try with_reducible rfl)
  try simp only [Act.put, List.setIfInBounds_toArray, List.set_cons_zero, List.set_cons_succ]
  refine wpAnyH_take (i := 9) (oi := { dst := _, op := _, type := _, pos := _, after := _, guard := _ }) (v := ?_) rfl (by kernel_rfl) (by kernel_rfl) (by kernel_rfl) (fun _ _ _ h => h) (Or.inl ⟨by rfl, ?_⟩) (by assumption) ?_
  rotate_left
  · intro W hSw
    (try dsimp only at hSw)
    obtain ⟨a0, a1, a2, a3, a4, a5, b0, b1, b2, b3, b4, b5⟩ := hSw
    go_simp
    (try with_reducible rfl)
  try simp only [Act.put, List.setIfInBounds_toArray, List.set_cons_zero, List.set_cons_succ]
  refine wpAnyH_take (i := 10) (oi := { dst := _, op := _, type := _, pos := _, after := _, guard := _ }) (v := ?_) rfl (by kernel_rfl) (by kernel_rfl) (by kernel_rfl) (fun _ _ _ h => h) (Or.inl ⟨by rfl, ?_⟩) (by assumption) ?_
  rotate_left
  · intro W hSw
    (try dsimp only at hSw)
    obtain ⟨a0, a1, a2, a3, a4, a5, b0, b1, b2, b3, b4, b5⟩ := hSw
    go_simp
    (try with_reducible rfl)
  try simp only [Act.put, List.setIfInBounds_toArray, List.set_cons_zero, List.set_cons_succ]
  refine wpAnyH_take (i := 11) (oi := { dst := _, op := _, type := _, pos := _, after := _, guard := _ }) (v := ?_) rfl (by kernel_rfl) (by kernel_rfl) (by kernel_rfl) (fun _ _ _ h => h) (Or.inl ⟨by rfl, ?_⟩) (by assumption) ?_
  rotate_left
  · intro W hSw
    (try dsimp only at hSw)
    obtain ⟨a0, a1, a2, a3, a4, a5, b0, b1, b2, b3, b4, b5⟩ := hSw
    go_simp
    (try with_reducible rfl)
  try simp only [Act.put, List.setIfInBounds_toArray, List.set_cons_zero, List.set_cons_succ]
  refine wpAnyH_take (i := 12) (oi := { dst := _, op := _, type := _, pos := _, after := _, guard := _ }) (v := ?_) rfl (by kernel_rfl) (by kernel_rfl) (by kernel_rfl) (fun _ _ _ h => h) (Or.inl ⟨by rfl, ?_⟩) (by assumption) ?_
  rotate_left
  · intro W hSw
    (try dsimp only at hSw)
    obtain ⟨a0, a1, a2, a3, a4, a5, b0, b1, b2, b3, b4, b5⟩ := hSw
    go_simp
    (try with_reducible rfl)
  try simp only [Act.put, List.setIfInBounds_toArray, List.set_cons_zero]
  refine wpAnyH_done (by kernel_rfl) ?_ _
  refine NoPanic.normal ?_
  go_wp2_with fail
  go_ret
  exact ⟨rfl, Below.drew HW8.out⟩
end Go.Proofs.Ytockmlaaefbfkaa
