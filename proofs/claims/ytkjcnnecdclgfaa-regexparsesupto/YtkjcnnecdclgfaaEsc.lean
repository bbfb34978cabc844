import Derived.Test.YtkjcnnecdclgfaaRex
namespace Go.Proofs.Ytkjcnnecdclgfaa
open Go.RowKit
abbrev badV (p : Nat) : Value := bitV (fun _ => false) false 0 0 (p : Int)
abbrev sg (v : Nat) : Nat → Bool := fun b => decide (v ≤ b) && decide (b ≤ v)
/-- A set behind a backslash. -/
def bseq (s : ByteArray) (i : Nat) : Option (Nat → Bool) := if pk s i = 100 then some mdig else if pk s i = 119 then some mlet else if pk s i = 115 then some mblk else none
theorem psets_eq (s : ByteArray) (i : Nat) : psets s i = if pk s i = 92 then bseq s (i + 1) else none := rfl
def oneV (r : Except Nat (Nat × Nat)) : Value := match r with
  | .ok (v, j) => bitV (sg v) true (v : Int) (j : Int) (-1)
  | .error p => badV p
def setV (r : Option (Nat → Bool)) (j : Nat) (u : Value) : Value := match r with
  | some m => bitV m false 0 (j : Int) (-1)
  | none => u
/-- What escape answers. -/
def eres (s : ByteArray) (i : Nat) (sets : Bool) : Value := setV (if sets then bseq s i else none) (i + 1) (oneV (pesc s i))
theorem pk_at {s : ByteArray} {i : Nat} (h : i < s.size) : pk s i = (s.get! i).toNat := by unfold pk; rw [if_pos h]
theorem let_eq : (fun b => (((decide (48 ≤ b) && decide (b ≤ 57)) || (decide (65 ≤ b) && decide (b ≤ 90))) || (decide (97 ≤ b) && decide (b ≤ 122))) || (decide (95 ≤ b) && decide (b ≤ 95))) = mlet := by
  funext b
  unfold mlet mdig
  cases (decide (48 ≤ b) && decide (b ≤ 57)) <;> cases (decide (65 ≤ b) && decide (b ≤ 90)) <;> cases (decide (97 ≤ b) && decide (b ≤ 122)) <;> cases (decide (95 ≤ b) && decide (b ≤ 95)) <;> rfl
theorem blk_eq : (fun b => ((decide (9 ≤ b) && decide (b ≤ 10)) || (decide (13 ≤ b) && decide (b ≤ 13))) || (decide (32 ≤ b) && decide (b ≤ 32))) = mblk := by
  funext b
  unfold mblk
  cases (decide (9 ≤ b) && decide (b ≤ 10)) <;> cases (decide (13 ≤ b) && decide (b ≤ 13)) <;> cases (decide (32 ≤ b) && decide (b ≤ 32)) <;> rfl
theorem among_nat (x : Nat) (hx : x < 256) (l : List UInt8) (hl : l.length < 1000) (w : World) : Calls Try.prog 39 #[.int .u8 (x : Int), ST l] w fun e w' => e = .returned (.bool (l.contains (UInt8.ofNat x))) ∧ w' = w := by
  have h := among_any (UInt8.ofNat x) l hl w
  rw [of_toNat x hx] at h
  exact h
theorem idx_nat {s : ByteArray} {i x : Nat} (hi : i < s.size) (hx : pk s i = x) : ∀ W : World, (Instr.index 9 (.string s) (.int .i64 (i : Int))).run Try.prog W = .ok (.int .u8 (x : Int)) W := by
  have h := idx_fact s i hi
  rw [← pk_at hi, hx] at h
  exact h
abbrev RE (s : ByteArray) (i : Nat) (sets : Bool) (w : World) : Prop := Calls Try.prog 44 #[.string s, .int .i64 (i : Int), .bool sets] w fun e w' => e = .returned (eres s i sets) ∧ Below w.heap.size w w'
set_option maxRecDepth 100000 in
set_option maxHeartbeats 4000000 in
theorem esc_end (s : ByteArray) (i : Nat) (sets : Bool) (w : World) (hi : i = s.size) : RE s i sets w := by
  subst hi
  have h0 : pk s s.size = 0 := by unfold pk; rw [if_neg (by omega)]
  have hr : eres s s.size sets = bitV (fun _ => false) false 0 0 (s.size : Int) := by
    unfold eres bseq pesc
    rw [h0]
    cases sets <;> rfl
  have HR : Hid _ := hr
  have W0 := wd_none 0
  have W1 := wd_none 1
  have W2 := wd_none 2
  have W3 := wd_none 3
  clear hr h0
  go_enter Try.func44, Try.ntmps44
  go_wp2_with fail
  refine bodyPost_ret (v := bitV (fun _ => false) false 0 0 (s.size : Int)) ?_ rfl ⟨by rw [HR.out], ?_⟩
  · rw [results_cell1 rfl]; simp only [bitV, wd_none]; go_simp
  · with_reducible exact bel_up _ _
set_option maxRecDepth 100000 in
set_option maxHeartbeats 4000000 in
theorem esc_self (s : ByteArray) (i x : Nat) (sets : Bool) (w : World) (hi : i < s.size) (hs : s.size < 1000000000000000) (hx : pk s i = x) (hc : esc13.contains (UInt8.ofNat x) = true) : RE s i sets w := by
  have hx8 : x < 256 := by rw [← hx]; exact pk_lt s i
  have HR0 : Hid (eres s i sets = bitV (sg x) true (x : Int) ((i + 1 : Nat) : Int) (-1)) := by
    have k : ∀ y, y < 256 → esc13.contains (UInt8.ofNat y) = true → ¬ y = 100 ∧ ¬ y = 119 ∧ ¬ y = 115 ∧ ¬ y = 110 ∧ ¬ y = 116 ∧ ¬ y = 114 ∧ ¬ y = 120 := by decide +kernel
    obtain ⟨k1, k2, k3, k4, k5, k6, k7⟩ := k x hx8 hc
    unfold eres bseq pesc
    rw [hx, if_neg k1, if_neg k2, if_neg k3, if_neg k4, if_neg k5, if_neg k6, if_neg k7, if_pos hc]
    cases sets <;> rfl

  have hidx := idx_nat hi hx
  have AM := fun W => among_nat x hx8 esc13 (by decide) W
  have hw := w64 i (by omega)
  have hwx := w64n x (by omega)
  have A0 : Hid (AtV (w.alloc (.cells z8 93)) w.heap.size z8 93) := AtV.new _ _ _
  have iI : ¬ ((s.size : Int) ≤ (i : Int)) := by omega
  have HX8 : Hid _ := hx8
  have HX : Hid _ := hx
  have HI : Hid _ := hi
  have HS : Hid _ := hs
  have HC : Hid (esc13.contains (UInt8.ofNat x) = true) := hc
  clear hx hx8 hi hs
  go_enter Try.func44, Try.ntmps44
  go_wp2_with fail
  refine (AM _).mono ?_
  clear AM
  rintro e w0 ⟨rfl, rfl⟩
  rw [HC.out]
  go_wp2_with fail
  refine (oneByte_any x (i + 1) HX8.out _).mono ?_
  rintro e w1 ⟨rfl, hb1⟩
  have A1 : Hid _ := A0.out.mono hb1
  have B1 : Hid _ := below_trans (bel_up w (.cells z8 93)) hb1
  obtain ⟨m, hm⟩ : ∃ m : Nat → Bool, sg x = m := ⟨_, rfl⟩
  rw [show (fun b => decide (x ≤ b) && decide (b ≤ x)) = m from hm]
  have HR : Hid (eres s i sets = bitV m true ((x : Nat) : Int) (((i + 1) : Nat) : Int) (-1)) := by
    rw [← hm]
    exact HR0.out
  clear hb1 A0 HR0 hm
  obtain ⟨c0, c1, c2, c3, c4, c5, c6, c7, cf⟩ := A1.out.c8
  go_wp2_with fail
  refine bodyPost_ret (v := bitV m true (x : Int) ((i + 1 : Nat) : Int) (-1)) ?_ rfl ⟨by rw [HR.out], ?_⟩
  · rw [results_cell1 rfl]; go_simp
  · exact bel_set8 B1.out (Nat.le_refl _) _ _ _ _ _ _ _ _
set_option maxRecDepth 100000 in
set_option maxHeartbeats 4000000 in
theorem esc_n (s : ByteArray) (i x : Nat) (sets : Bool) (w : World) (hi : i < s.size) (hs : s.size < 1000000000000000) (hx : pk s i = x) (hxv : x = 110) : RE s i sets w := by
  have hx8 : x < 256 := by rw [← hx]; exact pk_lt s i
  subst hxv
  have HR0 : Hid (eres s i sets = bitV (sg 10) true ((10 : Nat) : Int) ((i + 1 : Nat) : Int) (-1)) := by
    unfold eres bseq pesc
    rw [hx]
    cases sets <;> rfl

  have hidx := idx_nat hi hx
  have AM := fun W => among_nat 110 hx8 esc13 (by decide) W
  have hw := w64 i (by omega)
  have hwx := w64n 110 (by omega)
  have A0 : Hid (AtV (w.alloc (.cells z8 93)) w.heap.size z8 93) := AtV.new _ _ _
  have iI : ¬ ((s.size : Int) ≤ (i : Int)) := by omega
  have HX8 : Hid _ := hx8
  have HX : Hid _ := hx
  have HI : Hid _ := hi
  have HS : Hid _ := hs
  have HC : Hid (esc13.contains (UInt8.ofNat 110) = false) := (by decide +kernel : esc13.contains (UInt8.ofNat 110) = false)
  clear hx hx8 hi hs
  go_enter Try.func44, Try.ntmps44
  go_wp2_with fail
  refine (AM _).mono ?_
  clear AM
  rintro e w0 ⟨rfl, rfl⟩
  rw [HC.out]
  go_wp2_with fail
  refine (oneByte_any 10 (i + 1) (by decide) _).mono ?_
  rintro e w1 ⟨rfl, hb1⟩
  have A1 : Hid _ := A0.out.mono hb1
  have B1 : Hid _ := below_trans (bel_up w (.cells z8 93)) hb1
  obtain ⟨m, hm⟩ : ∃ m : Nat → Bool, sg 10 = m := ⟨_, rfl⟩
  rw [show (fun b => decide (10 ≤ b) && decide (b ≤ 10)) = m from hm]
  have HR : Hid (eres s i sets = bitV m true ((10 : Nat) : Int) (((i + 1) : Nat) : Int) (-1)) := by
    rw [← hm]
    exact HR0.out
  clear hb1 A0 HR0 hm
  obtain ⟨c0, c1, c2, c3, c4, c5, c6, c7, cf⟩ := A1.out.c8
  go_wp2_with fail
  refine bodyPost_ret (v := bitV m true ((10 : Nat) : Int) ((i + 1 : Nat) : Int) (-1)) ?_ rfl ⟨by rw [HR.out], ?_⟩
  · rw [results_cell1 rfl]; go_simp
  · exact bel_set8 B1.out (Nat.le_refl _) _ _ _ _ _ _ _ _
set_option maxRecDepth 100000 in
set_option maxHeartbeats 4000000 in
theorem esc_t (s : ByteArray) (i x : Nat) (sets : Bool) (w : World) (hi : i < s.size) (hs : s.size < 1000000000000000) (hx : pk s i = x) (hxv : x = 116) : RE s i sets w := by
  have hx8 : x < 256 := by rw [← hx]; exact pk_lt s i
  subst hxv
  have HR0 : Hid (eres s i sets = bitV (sg 9) true ((9 : Nat) : Int) ((i + 1 : Nat) : Int) (-1)) := by
    unfold eres bseq pesc
    rw [hx]
    cases sets <;> rfl

  have hidx := idx_nat hi hx
  have AM := fun W => among_nat 116 hx8 esc13 (by decide) W
  have hw := w64 i (by omega)
  have hwx := w64n 116 (by omega)
  have A0 : Hid (AtV (w.alloc (.cells z8 93)) w.heap.size z8 93) := AtV.new _ _ _
  have iI : ¬ ((s.size : Int) ≤ (i : Int)) := by omega
  have HX8 : Hid _ := hx8
  have HX : Hid _ := hx
  have HI : Hid _ := hi
  have HS : Hid _ := hs
  have HC : Hid (esc13.contains (UInt8.ofNat 116) = false) := (by decide +kernel : esc13.contains (UInt8.ofNat 116) = false)
  clear hx hx8 hi hs
  go_enter Try.func44, Try.ntmps44
  go_wp2_with fail
  refine (AM _).mono ?_
  clear AM
  rintro e w0 ⟨rfl, rfl⟩
  rw [HC.out]
  go_wp2_with fail
  refine (oneByte_any 9 (i + 1) (by decide) _).mono ?_
  rintro e w1 ⟨rfl, hb1⟩
  have A1 : Hid _ := A0.out.mono hb1
  have B1 : Hid _ := below_trans (bel_up w (.cells z8 93)) hb1
  obtain ⟨m, hm⟩ : ∃ m : Nat → Bool, sg 9 = m := ⟨_, rfl⟩
  rw [show (fun b => decide (9 ≤ b) && decide (b ≤ 9)) = m from hm]
  have HR : Hid (eres s i sets = bitV m true ((9 : Nat) : Int) (((i + 1) : Nat) : Int) (-1)) := by
    rw [← hm]
    exact HR0.out
  clear hb1 A0 HR0 hm
  obtain ⟨c0, c1, c2, c3, c4, c5, c6, c7, cf⟩ := A1.out.c8
  go_wp2_with fail
  refine bodyPost_ret (v := bitV m true ((9 : Nat) : Int) ((i + 1 : Nat) : Int) (-1)) ?_ rfl ⟨by rw [HR.out], ?_⟩
  · rw [results_cell1 rfl]; go_simp
  · exact bel_set8 B1.out (Nat.le_refl _) _ _ _ _ _ _ _ _
set_option maxRecDepth 100000 in
set_option maxHeartbeats 4000000 in
theorem esc_r (s : ByteArray) (i x : Nat) (sets : Bool) (w : World) (hi : i < s.size) (hs : s.size < 1000000000000000) (hx : pk s i = x) (hxv : x = 114) : RE s i sets w := by
  have hx8 : x < 256 := by rw [← hx]; exact pk_lt s i
  subst hxv
  have HR0 : Hid (eres s i sets = bitV (sg 13) true ((13 : Nat) : Int) ((i + 1 : Nat) : Int) (-1)) := by
    unfold eres bseq pesc
    rw [hx]
    cases sets <;> rfl

  have hidx := idx_nat hi hx
  have AM := fun W => among_nat 114 hx8 esc13 (by decide) W
  have hw := w64 i (by omega)
  have hwx := w64n 114 (by omega)
  have A0 : Hid (AtV (w.alloc (.cells z8 93)) w.heap.size z8 93) := AtV.new _ _ _
  have iI : ¬ ((s.size : Int) ≤ (i : Int)) := by omega
  have HX8 : Hid _ := hx8
  have HX : Hid _ := hx
  have HI : Hid _ := hi
  have HS : Hid _ := hs
  have HC : Hid (esc13.contains (UInt8.ofNat 114) = false) := (by decide +kernel : esc13.contains (UInt8.ofNat 114) = false)
  clear hx hx8 hi hs
  go_enter Try.func44, Try.ntmps44
  go_wp2_with fail
  refine (AM _).mono ?_
  clear AM
  rintro e w0 ⟨rfl, rfl⟩
  rw [HC.out]
  go_wp2_with fail
  refine (oneByte_any 13 (i + 1) (by decide) _).mono ?_
  rintro e w1 ⟨rfl, hb1⟩
  have A1 : Hid _ := A0.out.mono hb1
  have B1 : Hid _ := below_trans (bel_up w (.cells z8 93)) hb1
  obtain ⟨m, hm⟩ : ∃ m : Nat → Bool, sg 13 = m := ⟨_, rfl⟩
  rw [show (fun b => decide (13 ≤ b) && decide (b ≤ 13)) = m from hm]
  have HR : Hid (eres s i sets = bitV m true ((13 : Nat) : Int) (((i + 1) : Nat) : Int) (-1)) := by
    rw [← hm]
    exact HR0.out
  clear hb1 A0 HR0 hm
  obtain ⟨c0, c1, c2, c3, c4, c5, c6, c7, cf⟩ := A1.out.c8
  go_wp2_with fail
  refine bodyPost_ret (v := bitV m true ((13 : Nat) : Int) ((i + 1 : Nat) : Int) (-1)) ?_ rfl ⟨by rw [HR.out], ?_⟩
  · rw [results_cell1 rfl]; go_simp
  · exact bel_set8 B1.out (Nat.le_refl _) _ _ _ _ _ _ _ _
set_option maxRecDepth 100000 in
set_option maxHeartbeats 4000000 in
theorem esc_d (s : ByteArray) (i x : Nat) (w : World) (hi : i < s.size) (hs : s.size < 1000000000000000) (hx : pk s i = x) (hxv : x = 100) : RE s i true w := by
  have hx8 : x < 256 := by rw [← hx]; exact pk_lt s i
  subst hxv
  have HR : Hid (eres s i true = bitV mdig false 0 ((i + 1 : Nat) : Int) (-1)) := by
    unfold eres bseq
    rw [hx, if_pos rfl, if_pos rfl]
    rfl

  have hidx := idx_nat hi hx
  have AM := fun W => among_nat 100 hx8 esc13 (by decide) W
  have hw := w64 i (by omega)
  have hwx := w64n 100 (by omega)
  have A0 : Hid (AtV (w.alloc (.cells z8 93)) w.heap.size z8 93) := AtV.new _ _ _
  have iI : ¬ ((s.size : Int) ≤ (i : Int)) := by omega
  have HX8 : Hid _ := hx8
  have HX : Hid _ := hx
  have HI : Hid _ := hi
  have HS : Hid _ := hs
  have HC : Hid (esc13.contains (UInt8.ofNat 100) = false) := (by decide +kernel : esc13.contains (UInt8.ofNat 100) = false)
  clear hx hx8 hi hs
  go_enter Try.func44, Try.ntmps44
  go_wp2_with fail
  refine (AM _).mono ?_
  clear AM
  rintro e w0 ⟨rfl, rfl⟩
  rw [HC.out]
  go_wp2_with fail
  refine (with0_any 48 57 (by decide) _).mono ?_
  rintro e w1 ⟨rfl, hb1⟩
  rw [show (fun b => decide (48 ≤ b) && decide (b ≤ 57)) = mdig from rfl]
  have A1 : Hid _ := A0.out.mono hb1
  have B1 : Hid _ := below_trans (bel_up w (.cells z8 93)) hb1
  clear hb1 A0
  obtain ⟨c0, c1, c2, c3, c4, c5, c6, c7, cf⟩ := A1.out.c8
  go_wp2_with fail
  refine bodyPost_ret (v := bitV mdig false 0 ((i + 1 : Nat) : Int) (-1)) ?_ rfl ⟨by rw [HR.out], ?_⟩
  · rw [results_cell1 rfl]; go_simp
  · exact bel_set8 B1.out (Nat.le_refl _) _ _ _ _ _ _ _ _
set_option maxRecDepth 100000 in
set_option maxHeartbeats 4000000 in
theorem esc_w (s : ByteArray) (i x : Nat) (w : World) (hi : i < s.size) (hs : s.size < 1000000000000000) (hx : pk s i = x) (hxv : x = 119) : RE s i true w := by
  have hx8 : x < 256 := by rw [← hx]; exact pk_lt s i
  subst hxv
  have HR : Hid (eres s i true = bitV mlet false 0 ((i + 1 : Nat) : Int) (-1)) := by
    unfold eres bseq
    rw [hx, if_pos rfl, if_neg (by decide), if_pos rfl]
    rfl

  have hidx := idx_nat hi hx
  have AM := fun W => among_nat 119 hx8 esc13 (by decide) W
  have hw := w64 i (by omega)
  have hwx := w64n 119 (by omega)
  have A0 : Hid (AtV (w.alloc (.cells z8 93)) w.heap.size z8 93) := AtV.new _ _ _
  have iI : ¬ ((s.size : Int) ≤ (i : Int)) := by omega
  have HX8 : Hid _ := hx8
  have HX : Hid _ := hx
  have HI : Hid _ := hi
  have HS : Hid _ := hs
  have HC : Hid (esc13.contains (UInt8.ofNat 119) = false) := (by decide +kernel : esc13.contains (UInt8.ofNat 119) = false)
  clear hx hx8 hi hs
  go_enter Try.func44, Try.ntmps44
  go_wp2_with fail
  refine (AM _).mono ?_
  clear AM
  rintro e w0 ⟨rfl, rfl⟩
  rw [HC.out]
  go_wp2_with fail
  refine (with0_any 48 57 (by decide) _).mono ?_
  rintro e w1 ⟨rfl, hb1⟩
  have A1 : Hid _ := A0.out.mono hb1
  have B1 : Hid _ := below_trans (bel_up w (.cells z8 93)) hb1
  obtain ⟨m1, hm1⟩ : ∃ m : Nat → Bool, (fun b => decide (48 ≤ b) && decide (b ≤ 57)) = m := ⟨_, rfl⟩
  rw [hm1]
  have HM1 : Hid _ := hm1
  clear hb1 A0 hm1
  go_wp2_with fail
  refine (with_any m1 65 90 (by decide) _).mono ?_
  rintro e w2 ⟨rfl, hb1⟩
  have A2 : Hid _ := A1.out.mono hb1
  have B2 : Hid _ := below_trans B1.out hb1
  obtain ⟨m2, hm1⟩ : ∃ m : Nat → Bool, (fun b => m1 b || (decide (65 ≤ b) && decide (b ≤ 90))) = m := ⟨_, rfl⟩
  rw [hm1]
  have HM2 : Hid _ := hm1
  clear hb1 A1 B1 hm1
  go_wp2_with fail
  refine (with_any m2 97 122 (by decide) _).mono ?_
  rintro e w3 ⟨rfl, hb1⟩
  have A3 : Hid _ := A2.out.mono hb1
  have B3 : Hid _ := below_trans B2.out hb1
  obtain ⟨m3, hm1⟩ : ∃ m : Nat → Bool, (fun b => m2 b || (decide (97 ≤ b) && decide (b ≤ 122))) = m := ⟨_, rfl⟩
  rw [hm1]
  have HM3 : Hid _ := hm1
  clear hb1 A2 B2 hm1
  have A4 : Hid _ := A3.out.up (.cells #[.int .u64 (wd m3 0 : Nat), .int .u64 (wd m3 1 : Nat), .int .u64 (wd m3 2 : Nat), .int .u64 (wd m3 3 : Nat)] 32)
  have B4 : Hid _ := below_trans B3.out (bel_up w3 (.cells #[.int .u64 (wd m3 0 : Nat), .int .u64 (wd m3 1 : Nat), .int .u64 (wd m3 2 : Nat), .int .u64 (wd m3 3 : Nat)] 32))
  clear A3 B3
  go_wp2_with fail
  refine (with_any m3 95 95 (by decide) _).mono ?_
  rintro e w4 ⟨rfl, hb1⟩
  have A5 : Hid _ := A4.out.mono hb1
  have B5 : Hid _ := below_trans B4.out hb1
  rw [show (fun b => m3 b || (decide (95 ≤ b) && decide (b ≤ 95))) = mlet by rw [← HM3.out, ← HM2.out, ← HM1.out]; exact let_eq]
  clear hb1 A4 B4
  obtain ⟨c0, c1, c2, c3, c4, c5, c6, c7, cf⟩ := A5.out.c8
  go_wp2_with fail
  refine bodyPost_ret (v := bitV mlet false 0 ((i + 1 : Nat) : Int) (-1)) ?_ rfl ⟨by rw [HR.out], ?_⟩
  · rw [results_cell1 rfl]; go_simp
  · exact bel_set8 B5.out (Nat.le_refl _) _ _ _ _ _ _ _ _
set_option maxRecDepth 100000 in
set_option maxHeartbeats 4000000 in
theorem esc_s (s : ByteArray) (i x : Nat) (w : World) (hi : i < s.size) (hs : s.size < 1000000000000000) (hx : pk s i = x) (hxv : x = 115) : RE s i true w := by
  have hx8 : x < 256 := by rw [← hx]; exact pk_lt s i
  subst hxv
  have HR : Hid (eres s i true = bitV mblk false 0 ((i + 1 : Nat) : Int) (-1)) := by
    unfold eres bseq
    rw [hx, if_pos rfl, if_neg (by decide), if_neg (by decide), if_pos rfl]
    rfl

  have hidx := idx_nat hi hx
  have AM := fun W => among_nat 115 hx8 esc13 (by decide) W
  have hw := w64 i (by omega)
  have hwx := w64n 115 (by omega)
  have A0 : Hid (AtV (w.alloc (.cells z8 93)) w.heap.size z8 93) := AtV.new _ _ _
  have iI : ¬ ((s.size : Int) ≤ (i : Int)) := by omega
  have HX8 : Hid _ := hx8
  have HX : Hid _ := hx
  have HI : Hid _ := hi
  have HS : Hid _ := hs
  have HC : Hid (esc13.contains (UInt8.ofNat 115) = false) := (by decide +kernel : esc13.contains (UInt8.ofNat 115) = false)
  clear hx hx8 hi hs
  go_enter Try.func44, Try.ntmps44
  go_wp2_with fail
  refine (AM _).mono ?_
  clear AM
  rintro e w0 ⟨rfl, rfl⟩
  rw [HC.out]
  go_wp2_with fail
  refine (with0_any 9 10 (by decide) _).mono ?_
  rintro e w1 ⟨rfl, hb1⟩
  have A1 : Hid _ := A0.out.mono hb1
  have B1 : Hid _ := below_trans (bel_up w (.cells z8 93)) hb1
  obtain ⟨m1, hm1⟩ : ∃ m : Nat → Bool, (fun b => decide (9 ≤ b) && decide (b ≤ 10)) = m := ⟨_, rfl⟩
  rw [hm1]
  have HM1 : Hid _ := hm1
  clear hb1 A0 hm1
  go_wp2_with fail
  refine (with_any m1 13 13 (by decide) _).mono ?_
  rintro e w2 ⟨rfl, hb1⟩
  have A2 : Hid _ := A1.out.mono hb1
  have B2 : Hid _ := below_trans B1.out hb1
  obtain ⟨m2, hm1⟩ : ∃ m : Nat → Bool, (fun b => m1 b || (decide (13 ≤ b) && decide (b ≤ 13))) = m := ⟨_, rfl⟩
  rw [hm1]
  have HM2 : Hid _ := hm1
  clear hb1 A1 B1 hm1
  have A3 : Hid _ := A2.out.up (.cells #[.int .u64 (wd m2 0 : Nat), .int .u64 (wd m2 1 : Nat), .int .u64 (wd m2 2 : Nat), .int .u64 (wd m2 3 : Nat)] 32)
  have B3 : Hid _ := below_trans B2.out (bel_up w2 (.cells #[.int .u64 (wd m2 0 : Nat), .int .u64 (wd m2 1 : Nat), .int .u64 (wd m2 2 : Nat), .int .u64 (wd m2 3 : Nat)] 32))
  clear A2 B2
  go_wp2_with fail
  refine (with_any m2 32 32 (by decide) _).mono ?_
  rintro e w3 ⟨rfl, hb1⟩
  have A4 : Hid _ := A3.out.mono hb1
  have B4 : Hid _ := below_trans B3.out hb1
  rw [show (fun b => m2 b || (decide (32 ≤ b) && decide (b ≤ 32))) = mblk by rw [← HM2.out, ← HM1.out]; exact blk_eq]
  clear hb1 A3 B3
  obtain ⟨c0, c1, c2, c3, c4, c5, c6, c7, cf⟩ := A4.out.c8
  go_wp2_with fail
  refine bodyPost_ret (v := bitV mblk false 0 ((i + 1 : Nat) : Int) (-1)) ?_ rfl ⟨by rw [HR.out], ?_⟩
  · rw [results_cell1 rfl]; go_simp
  · exact bel_set8 B4.out (Nat.le_refl _) _ _ _ _ _ _ _ _
set_option maxRecDepth 100000 in
set_option maxHeartbeats 4000000 in
theorem esc_bad0 (s : ByteArray) (i x : Nat) (w : World) (hi : i < s.size) (hs : s.size < 1000000000000000) (hx : pk s i = x) (hc : esc13.contains (UInt8.ofNat x) = false) (h1 : x ≠ 110) (h2 : x ≠ 116) (h3 : x ≠ 114) (h4 : x ≠ 120) : RE s i false w := by
  have hx8 : x < 256 := by rw [← hx]; exact pk_lt s i
  have HR : Hid (eres s i false = bitV (fun _ => false) false 0 0 (i : Int)) := by
    unfold eres pesc
    rw [hx, if_neg (by decide), if_neg h1, if_neg h2, if_neg h3, if_neg h4, hc]
    rfl
  have e110 : ((x : Int) == 110) = false := by rw [beq_eq_false_iff_ne]; omega
  have e116 : ((x : Int) == 116) = false := by rw [beq_eq_false_iff_ne]; omega
  have e114 : ((x : Int) == 114) = false := by rw [beq_eq_false_iff_ne]; omega
  have e120 : ((x : Int) == 120) = false := by rw [beq_eq_false_iff_ne]; omega
  clear h1 h2 h3 h4
  have hidx := idx_nat hi hx
  have AM := fun W => among_nat x hx8 esc13 (by decide) W
  have hw := w64 i (by omega)
  have hwx := w64n x (by omega)
  have A0 : Hid (AtV (w.alloc (.cells z8 93)) w.heap.size z8 93) := AtV.new _ _ _
  have iI : ¬ ((s.size : Int) ≤ (i : Int)) := by omega
  have HX8 : Hid _ := hx8
  have HX : Hid _ := hx
  have HI : Hid _ := hi
  have HS : Hid _ := hs
  have HC : Hid (esc13.contains (UInt8.ofNat x) = false) := hc
  clear hx hx8 hi hs
  go_enter Try.func44, Try.ntmps44
  go_wp2_with fail
  refine (AM _).mono ?_
  clear AM
  rintro e w0 ⟨rfl, rfl⟩
  rw [HC.out]
  clear hc
  go_wp2_with fail
  refine bodyPost_ret (v := bitV (fun _ => false) false 0 0 (i : Int)) ?_ rfl ⟨by rw [HR.out], ?_⟩
  · rw [results_cell1 rfl]; simp only [bitV, wd_none]; go_simp
  · with_reducible exact bel_up _ _
set_option maxRecDepth 100000 in
set_option maxHeartbeats 4000000 in
theorem esc_bad1 (s : ByteArray) (i x : Nat) (w : World) (hi : i < s.size) (hs : s.size < 1000000000000000) (hx : pk s i = x) (hc : esc13.contains (UInt8.ofNat x) = false) (h1 : x ≠ 110) (h2 : x ≠ 116) (h3 : x ≠ 114) (h4 : x ≠ 120) (h5 : x ≠ 100) (h6 : x ≠ 119) (h7 : x ≠ 115) : RE s i true w := by
  have hx8 : x < 256 := by rw [← hx]; exact pk_lt s i
  have HR : Hid (eres s i true = bitV (fun _ => false) false 0 0 (i : Int)) := by
    unfold eres bseq pesc
    rw [hx, if_pos rfl, if_neg h5, if_neg h6, if_neg h7, if_neg h1, if_neg h2, if_neg h3, if_neg h4, hc]
    rfl
  have e110 : ((x : Int) == 110) = false := by rw [beq_eq_false_iff_ne]; omega
  have e116 : ((x : Int) == 116) = false := by rw [beq_eq_false_iff_ne]; omega
  have e114 : ((x : Int) == 114) = false := by rw [beq_eq_false_iff_ne]; omega
  have e120 : ((x : Int) == 120) = false := by rw [beq_eq_false_iff_ne]; omega
  have e100 : ((x : Int) == 100) = false := by rw [beq_eq_false_iff_ne]; omega
  have e119 : ((x : Int) == 119) = false := by rw [beq_eq_false_iff_ne]; omega
  have e115 : ((x : Int) == 115) = false := by rw [beq_eq_false_iff_ne]; omega
  clear h1 h2 h3 h4 h5 h6 h7
  have hidx := idx_nat hi hx
  have AM := fun W => among_nat x hx8 esc13 (by decide) W
  have hw := w64 i (by omega)
  have hwx := w64n x (by omega)
  have A0 : Hid (AtV (w.alloc (.cells z8 93)) w.heap.size z8 93) := AtV.new _ _ _
  have iI : ¬ ((s.size : Int) ≤ (i : Int)) := by omega
  have HX8 : Hid _ := hx8
  have HX : Hid _ := hx
  have HI : Hid _ := hi
  have HS : Hid _ := hs
  have HC : Hid (esc13.contains (UInt8.ofNat x) = false) := hc
  clear hx hx8 hi hs
  go_enter Try.func44, Try.ntmps44
  go_wp2_with fail
  refine (AM _).mono ?_
  clear AM
  rintro e w0 ⟨rfl, rfl⟩
  rw [HC.out]
  clear hc
  go_wp2_with fail
  refine bodyPost_ret (v := bitV (fun _ => false) false 0 0 (i : Int)) ?_ rfl ⟨by rw [HR.out], ?_⟩
  · rw [results_cell1 rfl]; simp only [bitV, wd_none]; go_simp
  · with_reducible exact bel_up _ _
/-- What two hexadecimal digits answer. -/
def hres (s : ByteArray) (i : Nat) : Value := oneV (match hexd (pk s (i + 1)) with
    | none => .error (i + 1)
    | some h => match hexd (pk s (i + 2)) with
      | none => .error (i + 2)
      | some l => .ok (h * 16 + l, i + 3))
/-- The digits that have been read. -/
def Hx (s : ByteArray) (i j v : Nat) : Prop := (j = 0 ∧ v = 0) ∨ (j = 1 ∧ hexd (pk s (i + 1)) = some v) ∨ (j = 2 ∧ ∃ h l, hexd (pk s (i + 1)) = some h ∧ hexd (pk s (i + 2)) = some l ∧ v = h * 16 + l)
theorem Hx.bad {s : ByteArray} {i j v : Nat} (h : Hx s i j v) (hj : j < 2) (hb : hexd (pk s (i + 1 + j)) = none) : hres s i = badV (i + 1 + j) := by
  unfold hres
  rcases h with ⟨rfl, rfl⟩ | ⟨rfl, h⟩ | ⟨rfl, _⟩
  · rw [show hexd (pk s (i + 1)) = none from hb]
    rfl
  · rw [h]
    dsimp only
    rw [show hexd (pk s (i + 2)) = none from hb]
    rfl
  · omega
theorem Hx.next {s : ByteArray} {i j v d : Nat} (h : Hx s i j v) (hj : j < 2) (hb : hexd (pk s (i + 1 + j)) = some d) : Hx s i (j + 1) (v * 16 + d) := by
  rcases h with ⟨rfl, rfl⟩ | ⟨rfl, h⟩ | ⟨rfl, _⟩
  · exact .inr (.inl ⟨rfl, by rw [show hexd (pk s (i + 1)) = some d from hb]; simp⟩)
  · exact .inr (.inr ⟨rfl, v, d, h, hb, rfl⟩)
  · omega
theorem Hx.lt {s : ByteArray} {i j v : Nat} (h : Hx s i j v) : v < 256 := by
  rcases h with ⟨rfl, rfl⟩ | ⟨rfl, h⟩ | ⟨rfl, a, b, h1, h2, rfl⟩
  · omega
  · have := hexd_lt h; omega
  · have := hexd_lt h1; have := hexd_lt h2; omega
theorem Hx.done {s : ByteArray} {i v : Nat} (h : Hx s i 2 v) : hres s i = bitV (sg v) true (v : Int) ((i + 3 : Nat) : Int) (-1) := by
  rcases h with ⟨h, _⟩ | ⟨h, _⟩ | ⟨_, a, b, h1, h2, rfl⟩
  · omega
  · omega
  · unfold hres
    rw [h1]
    dsimp only
    rw [h2]
    rfl
theorem hexi_neg {c : Nat} (h : hexd c = none) : decide (hexi c < 0) = true := by rw [hexi_none h]; rfl
theorem hexi_pos {c d : Nat} (h : hexd c = some d) : decide (hexi c < 0) = false := by rw [hexi_some h, decide_eq_false_iff_not]; omega
set_option maxRecDepth 100000 in
set_option maxHeartbeats 4000000 in
theorem esc_x (s : ByteArray) (i x : Nat) (sets : Bool) (w : World) (hi : i < s.size) (hs : s.size < 1000000000000000) (hx : pk s i = x) (hxv : x = 120) : RE s i sets w := by
  have hx8 : x < 256 := by rw [← hx]; exact pk_lt s i
  subst hxv
  have HR0 : Hid (eres s i sets = hres s i) := by
    unfold eres bseq pesc
    rw [hx]
    cases sets <;> rfl

  have hidx := idx_nat hi hx
  have AM := fun W => among_nat 120 hx8 esc13 (by decide) W
  have hw := w64 i (by omega)
  have hwx := w64n 120 (by omega)
  have A0 : Hid (AtV (w.alloc (.cells z8 93)) w.heap.size z8 93) := AtV.new _ _ _
  have iI : ¬ ((s.size : Int) ≤ (i : Int)) := by omega
  have HX8 : Hid _ := hx8
  have HX : Hid _ := hx
  have HI : Hid _ := hi
  have HS : Hid _ := hs
  have HC : Hid (esc13.contains (UInt8.ofNat 120) = false) := (by decide +kernel : esc13.contains (UInt8.ofNat 120) = false)
  have hw3 : wrap64 ((i : Int) + 3) = ((i + 3 : Nat) : Int) := by unfold wrap64; omega
  clear hx hx8 hi hs
  go_enter Try.func44, Try.ntmps44
  go_wp2_with fail
  refine (AM _).mono ?_
  clear AM
  rintro e w0 ⟨rfl, rfl⟩
  rw [HC.out]
  go_wp2_with fail
  rw [hw]
  go_loopg [8, 9] 2 (fun gh vv vk wr => ∃ (j v : Nat), vv = .int .i64 (v : Int) ∧ vk = .int .i64 ((i + 1 + j : Nat) : Int) ∧ j ≤ 2 ∧ gh = 2 - j ∧ Hx s i j v ∧ AtV wr w.heap.size z8 93 ∧ Below w.heap.size w wr)
  case atStart =>
    refine ⟨0, 0, rfl, ?_, by omega, rfl, .inl ⟨rfl, rfl⟩, A0.out, bel_up _ _⟩
    first | rfl | (rw [hw]; rfl) | simp
  case round =>
    obtain ⟨j, v, rfl, rfl, hj, hg, hH, hA, hB⟩ := hrel
    have A1 : Hid _ := hA
    have B1 : Hid _ := hB
    have HH : Hid (Hx s i j v) := hH
    have HG : Hid _ := hg
    have HJ : Hid _ := hj
    by_cases h2 : j = 2
    · subst h2
      have kI : ¬ ((((i + 1 + 2 : Nat)) : Int) < ((i + 3 : Nat) : Int)) := by omega
      have HV : Hid _ := hH.lt
      clear hA hB hH hg hj
      go_wp2_with fail
      refine (oneByte_any v (i + 3) HV.out _).mono ?_
      rintro e w1 ⟨rfl, hb1⟩
      have A2 : Hid _ := A1.out.mono hb1
      have B2 : Hid _ := below_trans B1.out hb1
      obtain ⟨m, hm⟩ : ∃ m : Nat → Bool, sg v = m := ⟨_, rfl⟩
      rw [show (fun b => decide (v ≤ b) && decide (b ≤ v)) = m from hm]
      have HR : Hid (eres s i sets = bitV m true (v : Int) ((i + 3 : Nat) : Int) (-1)) := by
        rw [← hm]
        exact HR0.out.trans (Hx.done HH.out)
      clear hb1 A0 HR0 hm A1 B1
      obtain ⟨c0, c1, c2, c3, c4, c5, c6, c7, cf⟩ := A2.out.c8
      go_wp2_with fail
      refine bodyPost_ret (v := bitV m true (v : Int) ((i + 3 : Nat) : Int) (-1)) ?_ rfl ⟨by rw [HR.out], ?_⟩
      · rw [results_cell1 rfl]; go_simp
      · exact bel_set8 B2.out (Nat.le_refl _) _ _ _ _ _ _ _ _
    · have kI : (((i + 1 + j : Nat)) : Int) < ((i + 3 : Nat) : Int) := by omega
      obtain ⟨k, hk⟩ : ∃ k, i + 1 + j = k := ⟨_, rfl⟩
      rw [hk] at kI ⊢
      have HK : Hid _ := hk
      have HJ2 : Hid (j < 2) := (by omega : j < 2)
      by_cases hks : k < s.size
      · have kS : ¬ ((s.size : Int) ≤ (k : Int)) := by omega
        obtain ⟨y, hy⟩ : ∃ y, pk s k = y := ⟨_, rfl⟩
        have hidk := idx_nat hks hy
        have hy8 : y < 256 := by rw [← hy]; exact pk_lt s k
        have HX2 := fun W => hex_any y hy8 W
        have HY : Hid _ := hy
        have hwk := w64 k (by have := HS.out; omega)
        have hv16 : wrap64 ((v : Int) * 16) = ((v * 16 : Nat) : Int) := by have := hH.lt; unfold wrap64; omega
        have HV : Hid _ := hH.lt
        have hk2 : hexd (pk s (i + 1 + j)) = hexd y := by rw [hk, hy]
        have HK2 : Hid _ := hk2
        clear hA hB hH hg hj hk h2 hks hy hy8 hk2
        go_wp2_with fail
        refine (HX2 _).mono ?_
        rintro e w1 ⟨rfl, rfl⟩
        cases hd : hexd y with
        | none =>
          have hng := hexi_neg hd
          have HR : Hid (eres s i sets = bitV (fun _ => false) false 0 0 (k : Int)) := by
            rw [HR0.out, Hx.bad HH.out HJ2.out (HK2.out.trans hd), HK.out]
            rfl
          clear HR0 hd
          obtain ⟨q, hq⟩ : ∃ q, hexi y = q := ⟨_, rfl⟩
          rw [hq] at hng ⊢
          obtain ⟨c0, c1, c2, c3, c4, c5, c6, c7, cf⟩ := A1.out.c8
          go_wp2_with fail
          refine bodyPost_ret (v := bitV (fun _ => false) false 0 0 (k : Int)) ?_ rfl ⟨by rw [HR.out], ?_⟩
          · rw [results_cell1 rfl]; simp only [bitV, wd_none]; go_simp
          · exact bel_set8 B1.out (Nat.le_refl _) _ _ _ _ _ _ _ _
        | some d =>
          have hng := hexi_pos hd
          have HD : Hid _ := hd
          have hqd := hexi_some hd
          rw [hqd] at hng HX2 ⊢
          have hvd : wrap64 (((v * 16 : Nat) : Int) + (d : Int)) = ((v * 16 + d : Nat) : Int) := by have := HV.out; have := hexd_lt hd; unfold wrap64; omega
          clear hd hqd
          obtain ⟨v16, hv6⟩ : ∃ v16, v * 16 = v16 := ⟨_, rfl⟩
          rw [hv6] at hv16 hvd
          have HV6 : Hid _ := hv6
          clear hv6
          go_wp2_with fail
          refine (HX2 _).mono ?_
          rintro e w2 ⟨rfl, rfl⟩
          clear HX2
          go_wp2_with fail
          go_roundg (2 - (j + 1))
          case measure =>
            have := HG.out
            have := HJ2.out
            omega
          case rel =>
            refine ⟨j + 1, v16 + d, ?_, ?_, by have := HJ2.out; omega, rfl, ?_, A1.out, B1.out⟩
            · rw [hvd]
            · rw [hwk, show i + 1 + (j + 1) = k + 1 by have := HK.out; omega]
            · rw [← HV6.out]
              exact Hx.next HH.out HJ2.out (HK2.out.trans HD.out)
      · have kS : (s.size : Int) ≤ (k : Int) := by omega
        have hn : hexd (pk s (i + 1 + j)) = none := by
          rw [hk]
          unfold pk
          rw [if_neg hks]
          rfl
        have HR : Hid (eres s i sets = bitV (fun _ => false) false 0 0 (k : Int)) := by
          rw [HR0.out, Hx.bad HH.out HJ2.out hn, HK.out]
          rfl
        obtain ⟨c0, c1, c2, c3, c4, c5, c6, c7, cf⟩ := A1.out.c8
        clear hA hB hH hg hj hk h2 hks hn HR0
        go_wp2_with fail
        refine bodyPost_ret (v := bitV (fun _ => false) false 0 0 (k : Int)) ?_ rfl ⟨by rw [HR.out], ?_⟩
        · rw [results_cell1 rfl]; simp only [bitV, wd_none]; go_simp
        · exact bel_set8 B1.out (Nat.le_refl _) _ _ _ _ _ _ _ _
theorem rescape_any (s : ByteArray) (i : Nat) (sets : Bool) (w : World) (hi : i ≤ s.size) (hs : s.size < 1000000000000000) : RE s i sets w := by
  by_cases h0 : i < s.size
  · obtain ⟨x, hx⟩ : ∃ x, pk s i = x := ⟨_, rfl⟩
    cases hc : esc13.contains (UInt8.ofNat x) with
    | true => exact esc_self s i x sets w h0 hs hx hc
    | false =>
      by_cases h1 : x = 110
      · exact esc_n s i x sets w h0 hs hx h1
      by_cases h2 : x = 116
      · exact esc_t s i x sets w h0 hs hx h2
      by_cases h3 : x = 114
      · exact esc_r s i x sets w h0 hs hx h3
      by_cases h4 : x = 120
      · exact esc_x s i x sets w h0 hs hx h4
      cases sets with
      | false => exact esc_bad0 s i x w h0 hs hx hc h1 h2 h3 h4
      | true =>
        by_cases h5 : x = 100
        · exact esc_d s i x w h0 hs hx h5
        by_cases h6 : x = 119
        · exact esc_w s i x w h0 hs hx h6
        by_cases h7 : x = 115
        · exact esc_s s i x w h0 hs hx h7
        exact esc_bad1 s i x w h0 hs hx hc h1 h2 h3 h4 h5 h6 h7
  · exact esc_end s i sets w (by omega)
end Go.Proofs.Ytkjcnnecdclgfaa
