import Derived.Test.YtkjcnnecdclgfaaRec
namespace Go.Proofs.Ytkjcnnecdclgfaa
open Go.RowKit
/-- The value of a hexadecimal digit; -1: it is none. -/
def hexi (c : Nat) : Int := match hexd c with
  | some d => (d : Int)
  | none => -1
theorem hexi_some {c d : Nat} (h : hexd c = some d) : hexi c = (d : Int) := by unfold hexi; rw [h]
theorem hexi_none {c : Nat} (h : hexd c = none) : hexi c = -1 := by unfold hexi; rw [h]
set_option maxRecDepth 100000 in
set_option maxHeartbeats 2000000 in
theorem hex_any (x : Nat) (hx8 : x < 256) (w : World) : Calls Try.prog 62 #[.int .u8 (x : Int)] w fun e w' => e = .returned (.int .i64 (hexi x)) ∧ w' = w := by
  go_enter Try.func62, Try.ntmps62
  by_cases h1 : 48 ≤ x ∧ x ≤ 57
  · have a1 : decide ((48 : Int) ≤ (x : Int)) = true := by rw [decide_eq_true_eq]; omega
    have a2 : decide ((x : Int) ≤ 57) = true := by rw [decide_eq_true_eq]; omega
    have hv : hexd x = some (x - 48) := by unfold hexd; rw [if_pos h1]
    have hs : IntKind.u8.wrap ((x : Int) - 48) = ((x - 48 : Nat) : Int) := by rw [IntKind.wrap_u8]; omega
    have HV : Hid _ := hv
    have H1 : Hid _ := h1
    obtain ⟨y, hy⟩ : ∃ y, x - 48 = y := ⟨_, rfl⟩
    rw [hy] at hs HV
    clear h1 hv hy
    have hw : wrap64 (y : Int) = (y : Int) := w64n y (by have := hexd_lt HV.out; omega)
    go_wp2_with fail
    go_ret
    rw [hexi_some HV.out]
    exact ⟨by first | rfl | exact ret_int hw, rfl⟩
  · have n1 : (decide ((48 : Int) ≤ (x : Int)) = true ∧ decide ((x : Int) ≤ 57) = false) ∨ decide ((48 : Int) ≤ (x : Int)) = false := by
      by_cases q : 48 ≤ x
      · exact .inl ⟨by rw [decide_eq_true_eq]; omega, by rw [decide_eq_false_iff_not]; omega⟩
      · exact .inr (by rw [decide_eq_false_iff_not]; omega)
    by_cases h2 : 97 ≤ x ∧ x ≤ 102
    · have b1 : decide ((97 : Int) ≤ (x : Int)) = true := by rw [decide_eq_true_eq]; omega
      have b2 : decide ((x : Int) ≤ 102) = true := by rw [decide_eq_true_eq]; omega
      have hv : hexd x = some (x - 97 + 10) := by unfold hexd; rw [if_neg h1, if_pos h2]; congr 1; omega
      have hs : IntKind.u8.wrap ((x : Int) - 97) = ((x - 97 : Nat) : Int) := by rw [IntKind.wrap_u8]; omega
      obtain ⟨y, hy⟩ : ∃ y, x - 97 = y := ⟨_, rfl⟩
      rw [hy] at hs hv
      have hw : wrap64 (y : Int) = (y : Int) := w64n y (by omega)
      have hs2 : wrap64 ((y : Int) + 10) = ((y + 10 : Nat) : Int) := by unfold wrap64; omega
      have HV : Hid _ := hv
      clear h1 h2 hv hy
      rcases n1 with ⟨a1, a2⟩ | a1 <;> (go_wp2_with fail; go_ret; rw [hexi_some HV.out]; exact ⟨by first | rfl | (refine ret_int ?_; simpa using hs2), rfl⟩)
    · have n2 : (decide ((97 : Int) ≤ (x : Int)) = true ∧ decide ((x : Int) ≤ 102) = false) ∨ decide ((97 : Int) ≤ (x : Int)) = false := by
        by_cases q : 97 ≤ x
        · exact .inl ⟨by rw [decide_eq_true_eq]; omega, by rw [decide_eq_false_iff_not]; omega⟩
        · exact .inr (by rw [decide_eq_false_iff_not]; omega)
      by_cases h3 : 65 ≤ x ∧ x ≤ 70
      · have d1 : decide ((65 : Int) ≤ (x : Int)) = true := by rw [decide_eq_true_eq]; omega
        have d2 : decide ((x : Int) ≤ 70) = true := by rw [decide_eq_true_eq]; omega
        have hv : hexd x = some (x - 65 + 10) := by unfold hexd; rw [if_neg h1, if_neg h2, if_pos h3]; congr 1; omega
        have hs : IntKind.u8.wrap ((x : Int) - 65) = ((x - 65 : Nat) : Int) := by rw [IntKind.wrap_u8]; omega
        obtain ⟨y, hy⟩ : ∃ y, x - 65 = y := ⟨_, rfl⟩
        rw [hy] at hs hv
        have hw : wrap64 (y : Int) = (y : Int) := w64n y (by omega)
        have hs2 : wrap64 ((y : Int) + 10) = ((y + 10 : Nat) : Int) := by unfold wrap64; omega
        have HV : Hid _ := hv
        have a1 : decide ((48 : Int) ≤ (x : Int)) = true := by rw [decide_eq_true_eq]; omega
        have a2 : decide ((x : Int) ≤ 57) = false := by rw [decide_eq_false_iff_not]; omega
        have b1 : decide ((97 : Int) ≤ (x : Int)) = false := by rw [decide_eq_false_iff_not]; omega
        clear h1 h2 h3 hv n1 n2 hy
        go_wp2_with fail
        go_ret
        rw [hexi_some HV.out]
        exact ⟨by first | rfl | (refine ret_int ?_; simpa using hs2), rfl⟩
      · have n3 : (decide ((65 : Int) ≤ (x : Int)) = true ∧ decide ((x : Int) ≤ 70) = false) ∨ decide ((65 : Int) ≤ (x : Int)) = false := by
          by_cases q : 65 ≤ x
          · exact .inl ⟨by rw [decide_eq_true_eq]; omega, by rw [decide_eq_false_iff_not]; omega⟩
          · exact .inr (by rw [decide_eq_false_iff_not]; omega)
        have hv : hexd x = none := by unfold hexd; rw [if_neg h1, if_neg h2, if_neg h3]
        have HV : Hid _ := hv
        clear h1 h2 h3 hv
        rcases n1 with ⟨a1, a2⟩ | a1 <;> rcases n2 with ⟨b1, b2⟩ | b1 <;> rcases n3 with ⟨d1, d2⟩ | d1 <;>
          (go_wp2_with fail
           go_ret
           rw [hexi_none HV.out]
           exact ⟨rfl, rfl⟩)
/-- A bit. -/
abbrev bitV (m : Nat → Bool) (one : Bool) (byte next bad : Int) : Value := .agg #[.int .u64 (wd m 0 : Nat), .int .u64 (wd m 1 : Nat), .int .u64 (wd m 2 : Nat), .int .u64 (wd m 3 : Nat), .bool one, .int .i64 byte, .int .i64 next, .int .i64 bad]
theorem with0_any (lo hi : Nat) (hh : hi < 256) (w : World) : Calls Try.prog 43 #[.agg #[.int .u64 0, .int .u64 0, .int .u64 0, .int .u64 0], .int .i64 (lo : Int), .int .i64 (hi : Int)] w fun e w' => e = .returned (CV fun b => decide (lo ≤ b) && decide (b ≤ hi)) ∧ Below w.heap.size w w' := by
  have h := with_any (fun _ => false) lo hi hh w
  simp only [CV, wd_none, Bool.false_or] at h
  exact h
/-- A block with these cells. -/
structure AtV (W : World) (k : Nat) (vs : Array Value) (t : TypeId) : Prop where
  h : W.heap[k]? = some (.cells vs t (0, 0))
theorem AtV.new (w : World) (vs : Array Value) (t : TypeId) : AtV (w.alloc (.cells vs t)) w.heap.size vs t := ⟨al_new _ _⟩
theorem AtV.mono {W W' : World} {k : Nat} {vs : Array Value} {t : TypeId} (h : AtV W k vs t) (hb : Below W.heap.size W W') : AtV W' k vs t := ⟨below_heap hb h.h (lt_of_heap h.h)⟩
theorem AtV.up {W : World} {k : Nat} {vs : Array Value} {t : TypeId} (h : AtV W k vs t) (o : Obj) : AtV (W.alloc o) k vs t := h.mono (bel_up _ _)
theorem AtV.dr {W : World} {k : Nat} {vs : Array Value} {t : TypeId} (h : AtV W k vs t) : AtV W.drew k vs t := ⟨h.h⟩
theorem AtV.lt {W : World} {k : Nat} {vs : Array Value} {t : TypeId} (h : AtV W k vs t) : k < W.heap.size := lt_of_heap h.h
theorem AtV.cell {W : World} {k : Nat} {vs : Array Value} {t : TypeId} (h : AtV W k vs t) (j : Nat) (v : Value) (hv : vs[j]? = some v) : W.cell? ⟨k, j, none⟩ = some v := by rw [Lib.cell_of_heap h.h]; exact hv
theorem AtV.fr {W : World} {k : Nat} {vs : Array Value} {t : TypeId} (h : AtV W k vs t) (o : Nat) : W.frozen? ⟨k, o, none⟩ = false := Lib.frozen_of_heap h.h o
theorem AtV.c8 {W : World} {k : Nat} {a b c d e f g i : Value} {t : TypeId} (h : AtV W k #[a, b, c, d, e, f, g, i] t) : W.cell? ⟨k, 0, none⟩ = some a ∧ W.cell? ⟨k, 1, none⟩ = some b ∧ W.cell? ⟨k, 2, none⟩ = some c ∧ W.cell? ⟨k, 3, none⟩ = some d ∧ W.cell? ⟨k, 4, none⟩ = some e ∧ W.cell? ⟨k, 5, none⟩ = some f ∧ W.cell? ⟨k, 6, none⟩ = some g ∧ W.cell? ⟨k, 7, none⟩ = some i ∧ ∀ o, W.frozen? ⟨k, o, none⟩ = false :=
  ⟨h.cell _ _ rfl, h.cell _ _ rfl, h.cell _ _ rfl, h.cell _ _ rfl, h.cell _ _ rfl, h.cell _ _ rfl, h.cell _ _ rfl, h.cell _ _ rfl, h.fr⟩
theorem AtV.c3 {W : World} {k : Nat} {a b c : Value} {t : TypeId} (h : AtV W k #[a, b, c] t) : W.cell? ⟨k, 0, none⟩ = some a ∧ W.cell? ⟨k, 1, none⟩ = some b ∧ W.cell? ⟨k, 2, none⟩ = some c ∧ ∀ o, W.frozen? ⟨k, o, none⟩ = false := ⟨h.cell _ _ rfl, h.cell _ _ rfl, h.cell _ _ rfl, h.fr⟩
theorem AtV.c2 {W : World} {k : Nat} {a b : Value} {t : TypeId} (h : AtV W k #[a, b] t) : W.cell? ⟨k, 0, none⟩ = some a ∧ W.cell? ⟨k, 1, none⟩ = some b ∧ ∀ o, W.frozen? ⟨k, o, none⟩ = false := ⟨h.cell _ _ rfl, h.cell _ _ rfl, h.fr⟩
theorem bel_set8 {w W : World} {r : Nat} (h : Below w.heap.size w W) (hr : w.heap.size ≤ r) (a b c d e f g i : Value) : Below w.heap.size w ((((((((W.setCell ⟨r, 0, none⟩ a).setCell ⟨r, 1, none⟩ b).setCell ⟨r, 2, none⟩ c).setCell ⟨r, 3, none⟩ d).setCell ⟨r, 4, none⟩ e).setCell ⟨r, 5, none⟩ f).setCell ⟨r, 6, none⟩ g).setCell ⟨r, 7, none⟩ i) :=
  (((((((h.setCell (p := ⟨r, 0, none⟩) hr _).setCell (p := ⟨r, 1, none⟩) hr _).setCell (p := ⟨r, 2, none⟩) hr _).setCell (p := ⟨r, 3, none⟩) hr _).setCell (p := ⟨r, 4, none⟩) hr _).setCell (p := ⟨r, 5, none⟩) hr _).setCell (p := ⟨r, 6, none⟩) hr _).setCell (p := ⟨r, 7, none⟩) hr _
abbrev z8 : Array Value := #[.int .u64 0, .int .u64 0, .int .u64 0, .int .u64 0, .bool false, .int .i64 0, .int .i64 0, .int .i64 0]
set_option maxRecDepth 100000 in
set_option maxHeartbeats 2000000 in
theorem oneByte_any (v n : Nat) (hv : v < 256) (w : World) : Calls Try.prog 61 #[.int .i64 (v : Int), .int .i64 (n : Int)] w fun e w' => e = .returned (bitV (fun b => decide (v ≤ b) && decide (b ≤ v)) true (v : Int) (n : Int) (-1)) ∧ Below w.heap.size w w' := by
  have C := fun W => with0_any v v hv W
  have A0 : Hid (AtV (w.alloc (.cells z8 93)) w.heap.size z8 93) := AtV.new _ _ _
  clear hv
  go_enter Try.func61, Try.ntmps61
  go_wp2_with fail
  refine (C _).mono ?_
  clear C
  rintro e w1 ⟨rfl, hb1⟩
  have A1 : Hid _ := A0.out.mono hb1
  have B1 : Hid _ := below_trans (bel_up w (.cells z8 93)) hb1
  obtain ⟨m, hm⟩ : ∃ m : Nat → Bool, (fun b => decide (v ≤ b) && decide (b ≤ v)) = m := ⟨_, rfl⟩
  rw [hm]
  clear hb1 A0
  obtain ⟨c0, c1, c2, c3, c4, c5, c6, c7, cf⟩ := A1.out.c8
  go_wp2_with fail
  refine bodyPost_ret (v := bitV m true (v : Int) (n : Int) (-1)) ?_ rfl ⟨by rw [hm], ?_⟩
  · rw [results_cell1 rfl]; go_simp
  · exact bel_set8 B1.out (Nat.le_refl _) _ _ _ _ _ _ _ _
end Go.Proofs.Ytkjcnnecdclgfaa
