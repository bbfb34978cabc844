import Derived.Test.YtcfmpmhdjkchjaaTcu
import Derived.Lib.Strings
namespace Go.Proofs.Ytcfmpmhdjkchjaa
open Go.RowKit Go.Maps

/-- A Ref: a symbol's number, two texts: the field, the other name. -/
abbrev Rf := Int × ByteArray × ByteArray
def rf (x : Rf) : List Value := [.int .i64 x.1, .string x.2.1, .string x.2.2]
theorem rf_len (x : Rf) : (rf x).length = 3 := rfl
def rfd : Rf := (0, ⟨#[]⟩, ⟨#[]⟩)
theorem rf_get (l : List Rf) (i : Nat) (h : i < l.length) : (flat rf l)[i * 3]? = some (.int .i64 (l.getD i rfd).1) ∧ (flat rf l)[i * 3 + 1]? = some (.string (l.getD i rfd).2.1) ∧ (flat rf l)[i * 3 + 2]? = some (.string (l.getD i rfd).2.2) :=
  ⟨flat_get rf_len rfd l i 0 h (by decide), flat_get rf_len rfd l i 1 h (by decide), flat_get rf_len rfd l i 2 h (by decide)⟩
/-- A production in memory: its symbol, its row's slice, the row. -/
abbrev Pd := Int × Value × List Rf
def pf (x : Pd) : List Value := [.int .i64 x.1, x.2.1]
theorem pf_len (x : Pd) : (pf x).length = 2 := rfl
def pfd : Pd := (0, .slice none 0 0, [])
theorem pf_get (l : List Pd) (i : Nat) (h : i < l.length) : (flat pf l)[i * 2]? = some (.int .i64 (l.getD i pfd).1) ∧ (flat pf l)[i * 2 + 1]? = some (l.getD i pfd).2.1 :=
  ⟨flat_get pf_len pfd l i 0 h (by decide), flat_get pf_len pfd l i 1 h (by decide)⟩
abbrev Td := ByteArray × Bool
abbrev Sd := ByteArray × Int
def tdf (x : Td) : List Value := [.string x.1, .bool x.2]
def sdf (x : Sd) : List Value := [.string x.1, .int .i64 x.2]
def tdd : Td := (⟨#[]⟩, false)
def sdd : Sd := (⟨#[]⟩, 0)
theorem tdf_len (x : Td) : (tdf x).length = 2 := rfl
theorem sdf_len (x : Sd) : (sdf x).length = 2 := rfl
theorem getD_mem {α : Type} (l : List α) (d : α) (i : Nat) (h : i < l.length) : l.getD i d ∈ l := by
  rw [List.getD_eq_getElem?_getD, List.getElem?_eq_getElem h]
  exact List.getElem_mem h
/-- A grammar in memory. -/
structure Gx (W : World) (v0 v1 v2 : Value) (Te : List Td) (Sy : List Sd) (P : List Pd) : Prop where
  t : Rw W v0 Te.length (flat tdf Te)
  s : Rw W v1 Sy.length (flat sdf Sy)
  p : Rw W v2 P.length (flat pf P)
  r : ∀ x ∈ P, Rw W x.2.1 x.2.2.length (flat rf x.2.2)
theorem Gx.up {W W' : World} {v0 v1 v2 : Value} {Te : List Td} {Sy : List Sd} {P : List Pd} (h : Gx W v0 v1 v2 Te Sy P) (hb : Below W.heap.size W W') : Gx W' v0 v1 v2 Te Sy P :=
  ⟨h.t.up hb, h.s.up hb, h.p.up hb, fun x hx => (h.r x hx).up hb⟩
theorem Gx.form {W : World} {v0 v1 v2 : Value} {Te : List Td} {Sy : List Sd} {P : List Pd} (h : Gx W v0 v1 v2 Te Sy P) : ∃ a0 c0 a1 c1 a2 c2, v0 = .slice a0 Te.length c0 ∧ v1 = .slice a1 Sy.length c1 ∧ v2 = .slice a2 P.length c2 := by
  obtain ⟨a0, c0, e0⟩ := h.t.form
  obtain ⟨a1, c1, e1⟩ := h.s.form
  obtain ⟨a2, c2, e2⟩ := h.p.form
  exact ⟨a0, c0, a1, c1, a2, c2, e0, e1, e2⟩
/-- The sizes of a grammar. -/
structure Gs (Te : List Td) (Sy : List Sd) (P : List Pd) : Prop where
  t : Te.length * 24 + 4096 ≤ 140737488355328
  s : Sy.length * 24 + 4096 ≤ 140737488355328
  p : P.length * 32 + 4096 ≤ 140737488355328
  r : ∀ x ∈ P, x.2.2.length * 40 + 4096 ≤ 140737488355328
theorem Gx.term {W : World} {a0 : Option Addr} {n c0 : Nat} {v1 v2 : Value} {Te : List Td} {Sy : List Sd} {P : List Pd} (h : Gx W (.slice a0 n c0) v1 v2 Te Sy P) (i : Nat) (hi : i < Te.length) : ∃ g o, a0 = some ⟨g, o, none⟩ ∧ W.cell? ⟨g, o + i * 2, none⟩ = some (.string (Te.getD i tdd).1) ∧ W.cell? ⟨g, o + i * 2 + 1, none⟩ = some (.bool (Te.getD i tdd).2) := by
  obtain ⟨g, o, cap', e, hc⟩ := h.t.place (by omega)
  obtain ⟨rfl, -, -⟩ := Value.slice.inj e
  exact ⟨g, o, rfl, hc _ _ (flat_get tdf_len tdd Te i 0 hi (by decide)), by rw [Nat.add_assoc]; exact hc _ _ (flat_get tdf_len tdd Te i 1 hi (by decide))⟩
theorem Gx.sym {W : World} {a0 : Option Addr} {n c0 : Nat} {v0 v2 : Value} {Te : List Td} {Sy : List Sd} {P : List Pd} (h : Gx W v0 (.slice a0 n c0) v2 Te Sy P) (i : Nat) (hi : i < Sy.length) : ∃ g o, a0 = some ⟨g, o, none⟩ ∧ W.cell? ⟨g, o + i * 2, none⟩ = some (.string (Sy.getD i sdd).1) ∧ W.cell? ⟨g, o + i * 2 + 1, none⟩ = some (.int .i64 (Sy.getD i sdd).2) := by
  obtain ⟨g, o, cap', e, hc⟩ := h.s.place (by omega)
  obtain ⟨rfl, -, -⟩ := Value.slice.inj e
  exact ⟨g, o, rfl, hc _ _ (flat_get sdf_len sdd Sy i 0 hi (by decide)), by rw [Nat.add_assoc]; exact hc _ _ (flat_get sdf_len sdd Sy i 1 hi (by decide))⟩
theorem Gx.prod {W : World} {a0 : Option Addr} {n c0 : Nat} {v0 v1 : Value} {Te : List Td} {Sy : List Sd} {P : List Pd} (h : Gx W v0 v1 (.slice a0 n c0) Te Sy P) (i : Nat) (hi : i < P.length) : ∃ g o, a0 = some ⟨g, o, none⟩ ∧ W.cell? ⟨g, o + i * 2, none⟩ = some (.int .i64 (P.getD i pfd).1) ∧ W.cell? ⟨g, o + i * 2 + 1, none⟩ = some (P.getD i pfd).2.1 := by
  obtain ⟨g, o, cap', e, hc⟩ := h.p.place (by omega)
  obtain ⟨rfl, -, -⟩ := Value.slice.inj e
  obtain ⟨q0, q1⟩ := pf_get P i hi
  exact ⟨g, o, rfl, hc _ _ q0, by rw [Nat.add_assoc]; exact hc _ _ q1⟩
/-- Is it a token? -/
def itk (Te : List Td) (z : Int) : Bool := decide (0 ≤ z) && decide (z < (Te.length : Int))
theorem itk_true {Te : List Td} {z : Int} (h : itk Te z = true) : ∃ a : Nat, z = (a : Int) ∧ a < Te.length := by
  simp only [itk, Bool.and_eq_true, decide_eq_true_eq] at h
  exact ⟨z.toNat, by omega, by omega⟩
set_option maxRecDepth 100000 in
set_option maxHeartbeats 8000000 in
theorem isToken_any (a0 : Option Addr) (c0 : Nat) (v1 v2 : Value) (Te : List Td) (z : Int) (w : World) :
    Calls Try.prog 52 #[.agg #[.slice a0 Te.length c0, v1, v2], .int .i64 z] w fun e w' => e = .returned (.bool (itk Te z)) ∧ Below w.heap.size w w' := by
  by_cases h0 : 0 ≤ z
  · have e1 : decide ((0 : Int) ≤ z) = true := by rw [decide_eq_true_eq]; exact h0
    have HE : Hid (itk Te z = decide (z < (Te.length : Int))) := by show _ = _; unfold itk; rw [e1]; rfl
    rw [HE.out]
    obtain ⟨n, hn⟩ : ∃ n, Te.length = n := ⟨_, rfl⟩
    rw [hn]
    clear h0 HE hn
    obtain ⟨b, hb⟩ : ∃ b, decide (z < (n : Int)) = b := ⟨_, rfl⟩
    rw [hb]
    go_enter Try.func52, Try.ntmps52
    go_wp2_with fail
    go_ret
    exact ⟨rfl, bel_up _ _⟩
  · have e1 : decide ((0 : Int) ≤ z) = false := by rw [decide_eq_false_iff_not]; exact h0
    have HE : Hid (itk Te z = false) := by show _ = _; unfold itk; rw [e1]; rfl
    rw [HE.out]
    clear h0 HE
    go_enter Try.func52, Try.ntmps52
    go_wp2_with fail
    go_ret
    exact ⟨rfl, bel_up _ _⟩
/-- Does a name begin with the sign of what is hidden? -/
def hpf (s : ByteArray) : Bool := Lib.hasPrefix s.data.toList [95]
set_option maxRecDepth 100000 in
set_option maxHeartbeats 8000000 in
theorem litePrefix_any (s : ByteArray) (w : World) :
    Calls Try.prog 88 #[.string s, .string ⟨#[95]⟩] w fun e w' => e = .returned (.bool (hpf s)) ∧ w = w' := by
  have HE : Hid (hpf s = (decide ((1 : Nat) ≤ s.size) && (s.data.toList.take 1 == [95]))) := by
    show _ = _
    unfold hpf
    rw [← Lib.hasPrefix_of_take, ← Lib.size_eq]; rfl
  by_cases h : 1 ≤ s.size
  · have e1 : decide ((1 : Int) ≤ (s.size : Int)) = true := by rw [decide_eq_true_eq]; omega
    have e2 : decide (1 ≤ s.size) = true := by rw [decide_eq_true_eq]; omega
    have HH : Hid (1 ≤ s.size) := h
    go_enter Try.func88, Try.ntmps88
    go_wp2_with fail
    go_ret
    refine ⟨?_, rfl⟩
    rw [HE.out, e2]
    show Ending.returned (Value.bool ((s.extract 0 1).toList == [95])) = _
    rw [Lib.extract_toList]
    simp
  · have e1 : decide ((1 : Int) ≤ (s.size : Int)) = false := by rw [decide_eq_false_iff_not]; omega
    have e2 : decide (1 ≤ s.size) = false := by rw [decide_eq_false_iff_not]; omega
    go_enter Try.func88, Try.ntmps88
    go_wp2_with fail
    go_ret
    refine ⟨?_, rfl⟩
    rw [HE.out, e2]
    rfl
set_option maxRecDepth 100000 in
set_option maxHeartbeats 8000000 in
theorem hasPrefix_any (s : ByteArray) (w : World) :
    Calls Try.prog 83 #[.string s, .string ⟨#[95]⟩] w fun e w' => e = .returned (.bool (hpf s)) ∧ w = w' := by
  go_enter Try.func83, Try.ntmps83
  go_wp2_with (go_at_call 88; refine (litePrefix_any _ _).mono ?_; rintro ee ww ⟨rfl, rfl⟩)
  go_ret
  exact ⟨rfl, rfl⟩
/-- Is it a hidden token? -/
def hdn (Te : List Td) (z : Int) : Bool := itk Te z && (!(Te.getD z.toNat tdd).2 && hpf (Te.getD z.toNat tdd).1)
set_option maxRecDepth 100000 in
set_option maxHeartbeats 8000000 in
theorem isHidden_any {v0 v1 v2 : Value} {Te : List Td} {Sy : List Sd} {P : List Pd} (w : World) (h : Gx w v0 v1 v2 Te Sy P) (z : Int) :
    Calls Try.prog 73 #[.agg #[v0, v1, v2], .int .i64 z] w fun e w' => e = .returned (.bool (hdn Te z)) ∧ Below w.heap.size w w' := by
  have HG : Hid (Gx w v0 v1 v2 Te Sy P) := h
  obtain ⟨a0, c0, a1, c1, a2, c2, rfl, rfl, rfl⟩ := h.form
  clear h
  cases hh : itk Te z with
  | false =>
    have HE : Hid (hdn Te z = false) := by show _ = _; unfold hdn; rw [hh]; rfl
    have HK : Hid (∀ W v1 v2, Calls Try.prog 52 #[.agg #[.slice a0 Te.length c0, v1, v2], .int .i64 z] W fun e w' => e = .returned (.bool false) ∧ Below W.heap.size W w') := fun W v1 v2 => by have := isToken_any a0 c0 v1 v2 Te z W; rw [hh] at this; exact this
    rw [HE.out]
    obtain ⟨n0, h0⟩ : ∃ n, Te.length = n := ⟨_, rfl⟩
    obtain ⟨n1, h1⟩ : ∃ n, Sy.length = n := ⟨_, rfl⟩
    obtain ⟨n2, h2⟩ : ∃ n, P.length = n := ⟨_, rfl⟩
    rw [h0] at HK
    rw [h0, h1, h2]
    clear hh HE h0 h1 h2 HG
    go_enter Try.func73, Try.ntmps73
    go_wp2_with (go_at_call 52; refine Calls.mono (HK.out _ _ _) ?_; rintro ee ww ⟨rfl, hb5⟩; have HB5 : Hid _ := hb5; clear hb5)
    go_ret
    exact ⟨rfl, below_trans (bel_up _ _) HB5.out⟩
  | true =>
    obtain ⟨p, rfl, hp⟩ := itk_true hh
    have HK : Hid (∀ W v1 v2, Calls Try.prog 52 #[.agg #[.slice a0 Te.length c0, v1, v2], .int .i64 (p : Int)] W fun e w' => e = .returned (.bool true) ∧ Below W.heap.size W w') := fun W v1 v2 => by have := isToken_any a0 c0 v1 v2 Te (p : Int) W; rw [hh] at this; exact this
    obtain ⟨g, o, rfl, q0, q1⟩ := HG.out.term p hp
    have HE : Hid (hdn Te (p : Int) = (!(Te.getD p tdd).2 && hpf (Te.getD p tdd).1)) := by show _ = _; unfold hdn; rw [hh]; rfl
    rw [HE.out]
    obtain ⟨n0, h0⟩ : ∃ n, Te.length = n := ⟨_, rfl⟩
    obtain ⟨n1, h1⟩ : ∃ n, Sy.length = n := ⟨_, rfl⟩
    obtain ⟨n2, h2⟩ : ∃ n, P.length = n := ⟨_, rfl⟩
    obtain ⟨nm, hnm⟩ : ∃ n, (Te.getD p tdd).1 = n := ⟨_, rfl⟩
    obtain ⟨lt, hlt⟩ : ∃ n, (Te.getD p tdd).2 = n := ⟨_, rfl⟩
    rw [h0] at HK hp
    rw [hnm] at q0
    rw [hlt] at q1
    rw [hnm, hlt, h0, h1, h2]
    have e3 : (p : Int) < (n0 : Int) := by omega
    have e4 : p < n0 := by omega
    have Q0 : Hid (w.cell? ⟨g, o + p * 2, none⟩ = some (.string nm)) := q0
    have Q1 : Hid (w.cell? ⟨g, o + p * 2 + 1, none⟩ = some (.bool lt)) := q1
    clear hh HE h0 h1 h2 hnm hlt hp q0 q1 HG
    obtain ⟨W1, hW1⟩ : ∃ W1, W1 = w.alloc (.cells #[.slice (some ⟨g, o, none⟩) n0 c0, .slice a1 n1 c1, .slice a2 n2 c2] 41) := ⟨_, rfl⟩
    have HB1 : Hid (Below w.heap.size w W1) := by rw [hW1]; exact bel_up _ _
    have HX1 : Hid (W1.heap[w.heap.size]? = some (.cells #[.slice (some ⟨g, o, none⟩) n0 c0, .slice a1 n1 c1, .slice a2 n2 c2] 41 (0, 0))) := by rw [hW1]; exact heap_new _ _
    have x0 := rcell HX1.out 0 _ rfl
    have x1 := rcell HX1.out 1 _ rfl
    have x2 := rcell HX1.out 2 _ rfl
    go_enter Try.func73, Try.ntmps73
    go_upto_region 1 with fail
    rw [← hW1]
    clear hW1
    cases lt with
    | true =>
      go_wp2_with first | (go_at_call 52; refine Calls.mono (HK.out _ _ _) ?_; rintro ee W2 ⟨rfl, hb5⟩; have HB5 : Hid (Below w.heap.size w W2) := below_trans HB1.out hb5; have y0 := below_cell hb5 x0; have y1 := below_cell HB5.out Q0.out; have y2 := below_cell HB5.out Q1.out; clear hb5) | (go_at_call 83; refine (hasPrefix_any _ _).mono ?_; rintro ee ww ⟨rfl, rfl⟩)
      go_ret
      exact ⟨rfl, HB5.out⟩
    | false =>
      go_wp2_with first | (go_at_call 52; refine Calls.mono (HK.out _ _ _) ?_; rintro ee W2 ⟨rfl, hb5⟩; have HB5 : Hid (Below w.heap.size w W2) := below_trans HB1.out hb5; have y0 := below_cell hb5 x0; have y1 := below_cell HB5.out Q0.out; have y2 := below_cell HB5.out Q1.out; clear hb5) | (go_at_call 83; refine (hasPrefix_any _ _).mono ?_; rintro ee ww ⟨rfl, rfl⟩)
      go_ret
      exact ⟨rfl, HB5.out⟩
/-- Is it a Sym that is shown? -/
def ish (Sy : List Sd) (z : Int) : Bool := (decide (0 ≤ z) && decide (z < (Sy.length : Int))) && ((Sy.getD z.toNat sdd).2 == 1)
set_option maxRecDepth 100000 in
set_option maxHeartbeats 8000000 in
theorem isShown_any {v0 v1 v2 : Value} {Te : List Td} {Sy : List Sd} {P : List Pd} (w : World) (h : Gx w v0 v1 v2 Te Sy P) (z : Int) :
    Calls Try.prog 77 #[.agg #[v0, v1, v2], .int .i64 z] w fun e w' => e = .returned (.bool (ish Sy z)) ∧ Below w.heap.size w w' := by
  have HG : Hid (Gx w v0 v1 v2 Te Sy P) := h
  obtain ⟨a0, c0, a1, c1, a2, c2, rfl, rfl, rfl⟩ := h.form
  clear h
  by_cases h0 : 0 ≤ z
  · have e1 : decide ((0 : Int) ≤ z) = true := by rw [decide_eq_true_eq]; exact h0
    by_cases h1 : z < (Sy.length : Int)
    · have e2 : decide (z < (Sy.length : Int)) = true := by rw [decide_eq_true_eq]; exact h1
      obtain ⟨p, rfl⟩ : ∃ p : Nat, z = (p : Int) := ⟨z.toNat, by omega⟩
      have HE : Hid (ish Sy (p : Int) = ((Sy.getD p sdd).2 == 1)) := by show _ = _; unfold ish; rw [e1, e2]; rfl
      rw [HE.out]
      obtain ⟨g, o, rfl, q0, q1⟩ := HG.out.sym p (by omega)
      obtain ⟨x, hx⟩ : ∃ x, (Sy.getD p sdd).2 = x := ⟨_, rfl⟩
      rw [hx] at q1 ⊢
      obtain ⟨n0, hn0⟩ : ∃ n, Te.length = n := ⟨_, rfl⟩
      obtain ⟨n1, hn1⟩ : ∃ n, Sy.length = n := ⟨_, rfl⟩
      obtain ⟨n2, hn2⟩ : ∃ n, P.length = n := ⟨_, rfl⟩
      rw [hn1] at e2 h1
      rw [hn0, hn1, hn2]
      have e4 : p < n1 := by omega
      have e5 : decide (p < n1) = true := by rw [decide_eq_true_eq]; exact e4
      have q2 := cell_up (.cells #[.slice a0 n0 c0, .slice (some ⟨g, o, none⟩) n1 c1, .slice a2 n2 c2] 41) q1
      clear HE hx hn0 hn1 hn2 h0 q0 HG
      go_enter Try.func77, Try.ntmps77
      go_wp2_with fail
      go_ret
      exact ⟨rfl, bel_up _ _⟩
    · have e2 : decide (z < (Sy.length : Int)) = false := by rw [decide_eq_false_iff_not]; exact h1
      have HE : Hid (ish Sy z = false) := by show _ = _; unfold ish; rw [e1, e2]; rfl
      rw [HE.out]
      obtain ⟨n1, hn1⟩ : ∃ n, Sy.length = n := ⟨_, rfl⟩
      rw [hn1] at e2 ⊢
      clear HE h0 h1 hn1 HG
      go_enter Try.func77, Try.ntmps77
      go_wp2_with fail
      go_ret
      exact ⟨rfl, bel_up _ _⟩
  · have e1 : decide ((0 : Int) ≤ z) = false := by rw [decide_eq_false_iff_not]; exact h0
    have HE : Hid (ish Sy z = false) := by show _ = _; unfold ish; rw [e1]; rfl
    rw [HE.out]
    clear HE h0 HG
    go_enter Try.func77, Try.ntmps77
    go_wp2_with fail
    go_ret
    exact ⟨rfl, bel_up _ _⟩
end Go.Proofs.Ytcfmpmhdjkchjaa
