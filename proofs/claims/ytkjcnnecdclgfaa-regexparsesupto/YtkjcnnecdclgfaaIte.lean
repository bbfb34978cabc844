import Derived.Test.YtkjcnnecdclgfaaEsc
namespace Go.Proofs.Ytkjcnnecdclgfaa
open Go.RowKit
/-- What item answers. -/
def ires (s : ByteArray) (i : Nat) (sets : Bool) : Value := setV (if sets then psets s i else none) (i + 2) (oneV (pone s i wth))
abbrev RI (s : ByteArray) (i : Nat) (sets : Bool) (w : World) : Prop := Calls Try.prog 60 #[.string s, .int .i64 (i : Int), .bool sets] w fun e w' => e = .returned (ires s i sets) ∧ Below w.heap.size w w'
/-- An answer in eight cells. -/
def Eight (v : Value) : Prop := ∃ m one y n d, v = bitV m one y n d
theorem oneV8 (r : Except Nat (Nat × Nat)) : Eight (oneV r) := by
  rcases r with p | ⟨v, j⟩ <;> exact ⟨_, _, _, _, _, rfl⟩
theorem setV8 (r : Option (Nat → Bool)) (j : Nat) (u : Value) (h : Eight u) : Eight (setV r j u) := by
  cases r with
  | none => exact h
  | some m => exact ⟨_, _, _, _, _, rfl⟩
set_option maxRecDepth 100000 in
set_option maxHeartbeats 4000000 in
theorem itm_end (s : ByteArray) (i : Nat) (sets : Bool) (w : World) (hi : ¬ i < s.size) : RI s i sets w := by
  have h0 : pk s i = 0 := by unfold pk; rw [if_neg hi]
  have hr : ires s i sets = bitV (fun _ => false) false 0 0 (i : Int) := by
    unfold ires psets pone
    rw [h0]
    cases sets <;> rfl
  have HR : Hid _ := hr
  have iI : (s.size : Int) ≤ (i : Int) := by omega
  clear hr h0 hi
  go_enter Try.func60, Try.ntmps60
  go_wp2_with fail
  refine bodyPost_ret (v := bitV (fun _ => false) false 0 0 (i : Int)) ?_ rfl ⟨by rw [HR.out], ?_⟩
  · rw [results_cell1 rfl]; simp only [bitV, wd_none]; go_simp
  · with_reducible exact bel_up _ _
set_option maxRecDepth 100000 in
set_option maxHeartbeats 4000000 in
theorem itm_esc (s : ByteArray) (i : Nat) (sets : Bool) (w : World) (hi : i < s.size) (hs : s.size < 1000000000000000) (hx : pk s i = 92) : RI s i sets w := by
  have HR0 : Hid (ires s i sets = eres s (i + 1) sets) := by
    have e1 : psets s i = bseq s (i + 1) := by rw [psets_eq, if_pos hx]
    have e2 : pone s i wth = pesc s (i + 1) := by unfold pone; rw [if_pos hx]
    exact (by unfold ires eres; rw [e1, e2] : ires s i sets = eres s (i + 1) sets)
  have E := fun W => rescape_any s (i + 1) sets W (by omega) hs
  obtain ⟨m, one, y, n, d, h8⟩ := setV8 (if sets then bseq s (i + 1) else none) (i + 1 + 1) _ (oneV8 (pesc s (i + 1)))
  have h8' : eres s (i + 1) sets = bitV m one y n d := h8
  have HR : Hid (ires s i sets = bitV m one y n d) := HR0.out.trans h8'
  unfold RE at E
  rw [h8'] at E
  have hidx := idx_nat hi hx
  have hw := w64 i (by omega)
  have A0 : Hid (AtV (w.alloc (.cells z8 93)) w.heap.size z8 93) := AtV.new _ _ _
  have iI : ¬ ((s.size : Int) ≤ (i : Int)) := by omega
  clear hx hi hs h8 h8' HR0
  go_enter Try.func60, Try.ntmps60
  go_wp2_with fail
  refine (E _).mono ?_
  clear E
  rintro e w1 ⟨rfl, hb1⟩
  have A1 : Hid _ := A0.out.mono hb1
  have B1 : Hid _ := below_trans (bel_up w (.cells z8 93)) hb1
  clear hb1 A0
  obtain ⟨c0, c1, c2, c3, c4, c5, c6, c7, cf⟩ := A1.out.c8
  go_wp2_with fail
  refine bodyPost_ret (v := bitV m one y n d) ?_ rfl ⟨by rw [HR.out], ?_⟩
  · rw [results_cell1 rfl]; go_simp
  · exact bel_set8 B1.out (Nat.le_refl _) _ _ _ _ _ _ _ _
set_option maxRecDepth 100000 in
set_option maxHeartbeats 4000000 in
theorem itm_low (s : ByteArray) (i x : Nat) (sets : Bool) (w : World) (hi : i < s.size) (hs : s.size < 1000000000000000) (hx : pk s i = x) (h92 : x ≠ 92) (hl : x < 32) : RI s i sets w := by
  have hx8 : x < 256 := by rw [← hx]; exact pk_lt s i
  have HR : Hid (ires s i sets = bitV (fun _ => false) false 0 0 (i : Int)) := by
    have e1 : psets s i = none := by rw [psets_eq, hx, if_neg h92]
    have e2 : pone s i wth = .error i := by
      unfold pone
      rw [hx, if_neg h92, if_neg]
      simp; omega
    exact (by unfold ires; rw [e1, e2]; cases sets <;> rfl : ires s i sets = bitV (fun _ => false) false 0 0 (i : Int))

  have e92 : ((x : Int) == 92) = false := by rw [beq_eq_false_iff_ne]; omega
  have l32 : decide ((x : Int) < 32) = true := by rw [decide_eq_true_eq]; omega
  have hidx := idx_nat hi hx
  have AM := fun W => among_nat x hx8 wth (by decide) W
  have hw := w64 i (by omega)
  have hwx := w64n x (by omega)
  have A0 : Hid (AtV (w.alloc (.cells z8 93)) w.heap.size z8 93) := AtV.new _ _ _
  have iI : ¬ ((s.size : Int) ≤ (i : Int)) := by omega
  have HX8 : Hid _ := hx8
  clear hx hx8 hi hs h92 hl AM
  go_enter Try.func60, Try.ntmps60
  go_wp2_with fail
  refine bodyPost_ret (v := bitV (fun _ => false) false 0 0 (i : Int)) ?_ rfl ⟨by rw [HR.out], ?_⟩
  · rw [results_cell1 rfl]; simp only [bitV, wd_none]; go_simp
  · with_reducible exact bel_up _ _
set_option maxRecDepth 100000 in
set_option maxHeartbeats 4000000 in
theorem itm_high (s : ByteArray) (i x : Nat) (sets : Bool) (w : World) (hi : i < s.size) (hs : s.size < 1000000000000000) (hx : pk s i = x) (h92 : x ≠ 92) (hl : 126 < x) : RI s i sets w := by
  have hx8 : x < 256 := by rw [← hx]; exact pk_lt s i
  have HR : Hid (ires s i sets = bitV (fun _ => false) false 0 0 (i : Int)) := by
    have e1 : psets s i = none := by rw [psets_eq, hx, if_neg h92]
    have e2 : pone s i wth = .error i := by
      unfold pone
      rw [hx, if_neg h92, if_neg]
      simp; omega
    exact (by unfold ires; rw [e1, e2]; cases sets <;> rfl : ires s i sets = bitV (fun _ => false) false 0 0 (i : Int))

  have e92 : ((x : Int) == 92) = false := by rw [beq_eq_false_iff_ne]; omega
  have l32 : decide ((x : Int) < 32) = false := by rw [decide_eq_false_iff_not]; omega
  have l126 : decide ((126 : Int) < (x : Int)) = true := by rw [decide_eq_true_eq]; omega
  have hidx := idx_nat hi hx
  have AM := fun W => among_nat x hx8 wth (by decide) W
  have hw := w64 i (by omega)
  have hwx := w64n x (by omega)
  have A0 : Hid (AtV (w.alloc (.cells z8 93)) w.heap.size z8 93) := AtV.new _ _ _
  have iI : ¬ ((s.size : Int) ≤ (i : Int)) := by omega
  have HX8 : Hid _ := hx8
  clear hx hx8 hi hs h92 hl AM
  go_enter Try.func60, Try.ntmps60
  go_wp2_with fail
  refine bodyPost_ret (v := bitV (fun _ => false) false 0 0 (i : Int)) ?_ rfl ⟨by rw [HR.out], ?_⟩
  · rw [results_cell1 rfl]; simp only [bitV, wd_none]; go_simp
  · with_reducible exact bel_up _ _
set_option maxRecDepth 100000 in
set_option maxHeartbeats 4000000 in
theorem itm_sign (s : ByteArray) (i x : Nat) (sets : Bool) (w : World) (hi : i < s.size) (hs : s.size < 1000000000000000) (hx : pk s i = x) (h92 : x ≠ 92) (h1 : 32 ≤ x) (h2 : x ≤ 126) (hc : wth.contains (UInt8.ofNat x) = true) : RI s i sets w := by
  have hx8 : x < 256 := by rw [← hx]; exact pk_lt s i
  have HR : Hid (ires s i sets = bitV (fun _ => false) false 0 0 (i : Int)) := by
    have e1 : psets s i = none := by rw [psets_eq, hx, if_neg h92]
    have e2 : pone s i wth = .error i := by
      unfold pone
      rw [hx, if_neg h92, if_neg]
      simp only [hc]; simp
    exact (by unfold ires; rw [e1, e2]; cases sets <;> rfl : ires s i sets = bitV (fun _ => false) false 0 0 (i : Int))

  have e92 : ((x : Int) == 92) = false := by rw [beq_eq_false_iff_ne]; omega
  have l32 : decide ((x : Int) < 32) = false := by rw [decide_eq_false_iff_not]; omega
  have l126 : decide ((126 : Int) < (x : Int)) = false := by rw [decide_eq_false_iff_not]; omega
  have HC : Hid _ := hc
  have hidx := idx_nat hi hx
  have AM := fun W => among_nat x hx8 wth (by decide) W
  have hw := w64 i (by omega)
  have hwx := w64n x (by omega)
  have A0 : Hid (AtV (w.alloc (.cells z8 93)) w.heap.size z8 93) := AtV.new _ _ _
  have iI : ¬ ((s.size : Int) ≤ (i : Int)) := by omega
  have HX8 : Hid _ := hx8
  clear hx hx8 hi hs h92 h1 h2 hc
  go_enter Try.func60, Try.ntmps60
  go_wp2_with fail
  refine (AM _).mono ?_
  clear AM
  rintro e w0 ⟨rfl, rfl⟩
  rw [HC.out]
  go_wp2_with fail
  refine bodyPost_ret (v := bitV (fun _ => false) false 0 0 (i : Int)) ?_ rfl ⟨by rw [HR.out], ?_⟩
  · rw [results_cell1 rfl]; simp only [bitV, wd_none]; go_simp
  · with_reducible exact bel_up _ _
set_option maxRecDepth 100000 in
set_option maxHeartbeats 4000000 in
theorem itm_plain (s : ByteArray) (i x : Nat) (sets : Bool) (w : World) (hi : i < s.size) (hs : s.size < 1000000000000000) (hx : pk s i = x) (h92 : x ≠ 92) (h1 : 32 ≤ x) (h2 : x ≤ 126) (hc : wth.contains (UInt8.ofNat x) = false) : RI s i sets w := by
  have hx8 : x < 256 := by rw [← hx]; exact pk_lt s i
  have HR0 : Hid (ires s i sets = bitV (sg x) true (x : Int) ((i + 1 : Nat) : Int) (-1)) := by
    have e1 : psets s i = none := by rw [psets_eq, hx, if_neg h92]
    have e2 : pone s i wth = .ok (x, i + 1) := by
      unfold pone
      rw [hx, if_neg h92, if_pos]
      rw [hc]
      simp
      omega
    exact (by unfold ires; rw [e1, e2]; cases sets <;> rfl : ires s i sets = bitV (sg x) true (x : Int) ((i + 1 : Nat) : Int) (-1))

  have e92 : ((x : Int) == 92) = false := by rw [beq_eq_false_iff_ne]; omega
  have l32 : decide ((x : Int) < 32) = false := by rw [decide_eq_false_iff_not]; omega
  have l126 : decide ((126 : Int) < (x : Int)) = false := by rw [decide_eq_false_iff_not]; omega
  have HC : Hid _ := hc
  have hidx := idx_nat hi hx
  have AM := fun W => among_nat x hx8 wth (by decide) W
  have hw := w64 i (by omega)
  have hwx := w64n x (by omega)
  have A0 : Hid (AtV (w.alloc (.cells z8 93)) w.heap.size z8 93) := AtV.new _ _ _
  have iI : ¬ ((s.size : Int) ≤ (i : Int)) := by omega
  have HX8 : Hid _ := hx8
  clear hx hx8 hi hs h92 h1 h2 hc
  go_enter Try.func60, Try.ntmps60
  go_wp2_with fail
  refine (AM _).mono ?_
  clear AM
  rintro e w0 ⟨rfl, rfl⟩
  rw [HC.out]
  go_wp2_with fail
  refine (oneByte_any x (i + 1) HX8.out _).mono ?_
  rintro e w1 ⟨rfl, hb1⟩
  have A1 : Hid _ := A0.out.mono hb1
  have B1 : Hid _ := below_trans (bel_up w (.cells z8 93)) hb1
  obtain ⟨m, hm⟩ : ∃ m : Nat → Bool, sg x = m := ⟨_, rfl⟩
  rw [show (fun b => decide (x ≤ b) && decide (b ≤ x)) = m from hm]
  have HR : Hid (ires s i sets = bitV m true (x : Int) ((i + 1 : Nat) : Int) (-1)) := by
    rw [← hm]
    exact HR0.out
  clear hb1 A0 HR0 hm
  obtain ⟨c0, c1, c2, c3, c4, c5, c6, c7, cf⟩ := A1.out.c8
  go_wp2_with fail
  refine bodyPost_ret (v := bitV m true (x : Int) ((i + 1 : Nat) : Int) (-1)) ?_ rfl ⟨by rw [HR.out], ?_⟩
  · rw [results_cell1 rfl]; go_simp
  · exact bel_set8 B1.out (Nat.le_refl _) _ _ _ _ _ _ _ _
theorem ritem_any (s : ByteArray) (i : Nat) (sets : Bool) (w : World) (hs : s.size < 1000000000000000) : RI s i sets w := by
  by_cases h0 : i < s.size
  · obtain ⟨x, hx⟩ : ∃ x, pk s i = x := ⟨_, rfl⟩
    by_cases h92 : x = 92
    · exact itm_esc s i sets w h0 hs (hx.trans h92)
    by_cases h1 : x < 32
    · exact itm_low s i x sets w h0 hs hx h92 h1
    by_cases h2 : 126 < x
    · exact itm_high s i x sets w h0 hs hx h92 h2
    cases hc : wth.contains (UInt8.ofNat x) with
    | true => exact itm_sign s i x sets w h0 hs hx h92 (by omega) (by omega) hc
    | false => exact itm_plain s i x sets w h0 hs hx h92 (by omega) (by omega) hc
  · exact itm_end s i sets w h0
end Go.Proofs.Ytkjcnnecdclgfaa
