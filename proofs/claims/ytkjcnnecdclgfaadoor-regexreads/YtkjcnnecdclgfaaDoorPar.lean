import Derived.Test.YtkjcnnecdclgfaaDoorRoo
namespace Go.Proofs.YtkjcnnecdclgfaaDoor
open Go.RowKit
/-- What reading keeps: all below B; and every block but the parser's that is no row of nodes. -/
structure FP (B b : Nat) (W W' : World) : Prop where
  bel : Below B W W'
  kept : ∀ k vs t fz, W.heap[k]? = some (.cells vs t fz) → k ≠ b → t ≠ 34 → W'.heap[k]? = some (.cells vs t fz)
theorem FP.refl (B b : Nat) (W : World) : FP B b W W := ⟨Below.refl _ _, fun _ _ _ _ h _ _ => h⟩
theorem FP.trans {B b : Nat} {W W1 W2 : World} (h : FP B b W W1) (k : FP B b W1 W2) : FP B b W W2 :=
  ⟨h.bel.trans k.bel, fun j vs t fz h1 h2 h3 => k.kept j vs t fz (h.kept j vs t fz h1 h2 h3) h2 h3⟩
theorem FP.of {B b : Nat} {W W' : World} (h : Below W.heap.size W W') (hB : B ≤ W.heap.size) : FP B b W W' :=
  ⟨h.mono hB, fun _ _ _ _ h1 _ _ => below_heap h h1 (lt_of_heap h1)⟩
theorem FP.set {B b : Nat} (W : World) (o : Nat) (v : Value) (hB : B ≤ b) : FP B b W (W.setCell ⟨b, o, none⟩ v) :=
  ⟨(Below.refl B W).setCell (p := ⟨b, o, none⟩) hB v, fun k _ _ _ h1 h2 _ => by rw [Below.heap_setCell _ _ _ _ (fun e => h2 e)]; exact h1⟩
theorem FP.dr {B b : Nat} {w : World} : FP B b w w.drew := ⟨Below.drew (Below.refl _ _), fun _ _ _ _ h _ _ => h⟩
theorem own_ne {w : World} {B : Nat} {e T : TypeId} {z : Nat} {v : Value} {n : Nat} {xs : List Value} {b : Nat} {cs : Array Value} {fr : Nat × Nat} (hown : w.ownsRow B e z v n xs) (hb : w.heap[b]? = some (.cells cs T fr)) (hTe : T ≠ e) : v.ownBlock ≠ some b := by
  rcases hown.2 with ⟨rfl, _⟩ | ⟨g, cap, cur, rfl, _, hg, _⟩
  · simp [Value.ownBlock]
  · intro h
    simp only [Value.ownBlock, Option.some.injEq] at h
    subst h
    rw [hg] at hb
    injection hb with hb
    injection hb with _ h2 _
    exact hTe h2.symm

/-- A parser: its text, place, open brackets, nodes; are there too many? -/
structure IsP (B b : Nat) (s : ByteArray) (i opn : Nat) (nds : List Nd) (lg : Bool) (w : World) : Prop where
  le : B ≤ b
  sz : B ≤ w.heap.size
  h : ∃ v, w.heap[b]? = some (.cells #[.string s, .int .i64 (i : Int), .int .i64 (opn : Int), v, .bool lg] 54 (0, 0)) ∧ w.ownsRow B 34 7 v nds.length (ncs nds)
theorem IsP.cells {B b : Nat} {s : ByteArray} {i opn : Nat} {nds : List Nd} {lg : Bool} {w : World} (h : IsP B b s i opn nds lg w) : w.cell? ⟨b, 0, none⟩ = some (.string s) ∧ w.cell? ⟨b, 1, none⟩ = some (.int .i64 (i : Int)) ∧ w.cell? ⟨b, 2, none⟩ = some (.int .i64 (opn : Int)) ∧ w.cell? ⟨b, 4, none⟩ = some (.bool lg) ∧ ∀ o, w.frozen? ⟨b, o, none⟩ = false := by
  obtain ⟨v, hv, _⟩ := h.h
  exact ⟨by rw [Lib.cell_of_heap hv]; rfl, by rw [Lib.cell_of_heap hv]; rfl, by rw [Lib.cell_of_heap hv]; rfl, by rw [Lib.cell_of_heap hv]; rfl, fun o => Lib.frozen_of_heap hv o⟩
theorem IsP.mono {B b : Nat} {s : ByteArray} {i opn : Nat} {nds : List Nd} {lg : Bool} {w w' : World} (h : IsP B b s i opn nds lg w) (hb : Below w.heap.size w w') : IsP B b s i opn nds lg w' := by
  obtain ⟨v, hv, ho⟩ := h.h
  exact ⟨h.le, Nat.le_trans h.sz hb.size, v, below_heap hb hv (lt_of_heap hv), own_mono ho hb⟩
theorem IsP.lt {B b : Nat} {s : ByteArray} {i opn : Nat} {nds : List Nd} {lg : Bool} {w : World} (h : IsP B b s i opn nds lg w) : b < w.heap.size := by
  obtain ⟨v, hv, _⟩ := h.h
  exact lt_of_heap hv
theorem own_set {w : World} {B b : Nat} {e T : TypeId} {z n : Nat} {v u : Value} {xs : List Value} {cs : Array Value} {o : Nat} (ho : w.ownsRow B e z v n xs) (hb : w.heap[b]? = some (.cells cs T (0, 0))) (hT : T ≠ e) : (w.setCell ⟨b, o, none⟩ u).ownsRow B e z v n xs :=
  ho.kept (row := some b) ⟨rfl, rfl, rfl, by simp [World.setCell], fun k _ hk => Below.heap_setCell _ _ _ _ (fun e => hk (by simp [e]))⟩ (Or.inr (own_ne ho hb hT))
theorem IsP.at_ {B b : Nat} {s : ByteArray} {i opn : Nat} {nds : List Nd} {lg : Bool} {w : World} (h : IsP B b s i opn nds lg w) (j : Nat) : IsP B b s j opn nds lg (w.setCell ⟨b, 1, none⟩ (.int .i64 (j : Int))) := by
  obtain ⟨v, hv, ho⟩ := h.h
  refine ⟨h.le, by simpa using h.sz, v, ?_, own_set ho hv (by decide)⟩
  simp [World.setCell, Array.getElem?_modify, hv]
theorem IsP.drew {B b : Nat} {s : ByteArray} {i opn : Nat} {nds : List Nd} {lg : Bool} {w : World} (h : IsP B b s i opn nds lg w) : IsP B b s i opn nds lg w.drew := ⟨h.le, h.sz, h.h⟩

/-- The next byte; 0 at the end. -/
def pk (s : ByteArray) (i : Nat) : Nat := if i < s.size then (s.get! i).toNat else 0
theorem pk_lt (s : ByteArray) (i : Nat) : pk s i < 256 := by
  unfold pk
  split
  · exact (s.get! i).toNat_lt
  · omega
/-- A fault. -/
abbrev flt (code at' : Int) : Ending := .panicked [{ v := .iface 52 (.agg #[.int .i64 code, .int .i64 at']), recovered := false }]

set_option maxRecDepth 100000 in
set_option maxHeartbeats 1000000 in
theorem peek_any (B b : Nat) (s : ByteArray) (i opn : Nat) (nds : List Nd) (lg : Bool) (w : World) (h : IsP B b s i opn nds lg w) (hi : i ≤ s.size) :
    Calls Tryd.prog 68 #[.pointer (some ⟨b, 0, none⟩)] w fun e w' => e = .returned (.int .u8 (pk s i : Nat)) ∧ Below w.heap.size w w' := by
  obtain ⟨c0, c1, c2, c4, cf⟩ := h.cells
  by_cases hlt : i < s.size
  · have e1 : ((i : Int) == (s.size : Int)) = false := by rw [beq_eq_false_iff_ne]; omega
    have hx := idx_fact s i hlt
    have hp : pk s i = (s.get! i).toNat := by unfold pk; rw [if_pos hlt]
    rw [hp]
    clear h hi hp
    go_enter Tryd.func68, Tryd.ntmps68
    go_wp2_with fail
    go_region
    go_wp2_with fail
    go_region
    go_wp2_with fail
    go_ret
    exact ⟨rfl, Below.drew (Below.drew (Below.refl _ _))⟩
  · have e0 : i = s.size := by omega
    have hp : pk s i = 0 := by unfold pk; rw [if_neg hlt]
    rw [hp]
    subst e0
    clear h hi hp hlt
    go_enter Tryd.func68, Tryd.ntmps68
    go_wp2_with fail
    go_region
    go_wp2_with fail
    go_ret
    exact ⟨rfl, Below.drew (Below.refl _ _)⟩
theorem giveUp_any (code at' : Int) (w : World) : Calls Tryd.prog 38 #[.int .i64 code, .int .i64 at'] w fun e w' => e = flt code at' ∧ w' = w := by
  go_enter Tryd.func38, Tryd.ntmps38
  go_wp2_with fail
  exact ⟨rfl, rfl, rfl⟩

/-- What a hexadecimal digit stands for. -/
def hexd (c : Nat) : Option Nat := if 48 ≤ c ∧ c ≤ 57 then some (c - 48) else if 97 ≤ c ∧ c ≤ 102 then some (c - 87) else if 65 ≤ c ∧ c ≤ 70 then some (c - 55) else none
theorem hexd_lt {c d : Nat} (h : hexd c = some d) : d < 16 := by
  unfold hexd at h
  repeat' split at h
  all_goals first | (injection h; omega) | cases h
set_option maxRecDepth 100000 in
set_option maxHeartbeats 2000000 in
theorem take_any (B b : Nat) (s : ByteArray) (i opn : Nat) (nds : List Nd) (lg : Bool) (c : Nat) (w : World) (h : IsP B b s i opn nds lg w) (hi : i ≤ s.size) (hs : s.size < 1000000000000000) :
    Calls Tryd.prog 54 #[.pointer (some ⟨b, 0, none⟩), .int .u8 (c : Int)] w fun e w' => e = .returned (.bool (pk s i == c)) ∧ IsP B b s (if pk s i = c then i + 1 else i) opn nds lg w' ∧ FP B b w w' := by
  have P := peek_any B b s i opn nds lg w h hi
  obtain ⟨x, hx⟩ : ∃ x, pk s i = x := ⟨_, rfl⟩
  rw [hx] at P ⊢
  have H : Hid _ := h
  have HI : Hid (i + 1 < 9223372036854775807) := by exact (by omega : i + 1 < 9223372036854775807)
  clear h hx hi hs
  go_enter Tryd.func54, Tryd.ntmps54
  go_wp2_with fail
  refine P.mono ?_
  rintro e w1 ⟨rfl, hb1⟩
  have H1 : Hid _ := H.out.mono hb1
  have F1 : Hid (FP B b w w1) := FP.of hb1 H.out.sz
  clear hb1 P
  by_cases hc : x = c
  · subst hc
    obtain ⟨c0, c1, c2, c4, cf⟩ := H1.out.cells
    have hw := w64 i (by have := HI.out; omega)
    go_wp2_with fail
    go_ret
    refine ⟨ret_bool (by simp), ?_, F1.out.trans (FP.set _ _ _ H.out.le)⟩
    exact H1.out.at_ (i + 1)
  · have e : ((x : Int) != (c : Int)) = true := by
      have : ¬ ((x : Int) = (c : Int)) := by omega
      simpa using this
    have hb : (x == c) = false := by simpa using hc
    have HC : Hid _ := hc
    have HBF : Hid _ := hb
    clear hc hb
    go_wp2_with fail
    go_ret
    refine ⟨ret_bool HBF.out.symm, ?_, F1.out⟩
    first
    | exact H1.out
    | (rw [if_neg HC.out]; exact H1.out)
set_option maxRecDepth 100000 in
set_option maxHeartbeats 2000000 in
theorem digit_any (B b : Nat) (s : ByteArray) (i opn : Nat) (nds : List Nd) (lg : Bool) (w : World) (h : IsP B b s i opn nds lg w) (hi : i ≤ s.size) (hs : s.size < 1000000000000000) :
    Calls Tryd.prog 90 #[.pointer (some ⟨b, 0, none⟩)] w fun e w' => (∃ d, hexd (pk s i) = some d ∧ e = .returned (.int .u8 (d : Int)) ∧ IsP B b s (i + 1) opn nds lg w' ∧ FP B b w w') ∨ (hexd (pk s i) = none ∧ e = flt 40 (i : Int) ∧ FP B b w w') := by
  have P := peek_any B b s i opn nds lg w h hi
  have hx8 := pk_lt s i
  obtain ⟨x, hx⟩ : ∃ x, pk s i = x := ⟨_, rfl⟩
  rw [hx] at P hx8 ⊢
  have H : Hid _ := h
  have HX8 : Hid _ := hx8
  have HI : Hid (i + 1 < 9223372036854775807) := by exact (by omega : i + 1 < 9223372036854775807)
  clear h hx hi hs hx8
  go_enter Tryd.func90, Tryd.ntmps90
  go_wp2_with fail
  refine P.mono ?_
  rintro e w1 ⟨rfl, hb1⟩
  have H1 : Hid _ := H.out.mono hb1
  have F1 : Hid (FP B b w w1) := FP.of hb1 H.out.sz
  clear hb1 P
  obtain ⟨c0, c1, c2, c4, cf⟩ := H1.out.cells
  have hw := w64 i (by have := HI.out; omega)
  by_cases h1 : 48 ≤ x ∧ x ≤ 57
  · have a1 : decide ((48 : Int) ≤ (x : Int)) = true := by rw [decide_eq_true_eq]; omega
    have a2 : decide ((x : Int) ≤ 57) = true := by rw [decide_eq_true_eq]; omega
    have hv : hexd x = some (x - 48) := by unfold hexd; rw [if_pos h1]
    have hs : IntKind.u8.wrap ((x : Int) - 48) = ((x - 48 : Nat) : Int) := by rw [IntKind.wrap_u8]; omega
    have HV : Hid _ := hv
    clear h1 hv
    go_wp2_with fail
    go_ret
    exact .inl ⟨x - 48, HV.out, by first | rfl | (rw [← hs]; rfl), H1.out.at_ (i + 1), F1.out.trans (FP.set _ _ _ H.out.le)⟩
  · have n1 : (decide ((48 : Int) ≤ (x : Int)) = true ∧ decide ((x : Int) ≤ 57) = false) ∨ decide ((48 : Int) ≤ (x : Int)) = false := by
      by_cases q : 48 ≤ x
      · exact .inl ⟨by rw [decide_eq_true_eq]; omega, by rw [decide_eq_false_iff_not]; omega⟩
      · exact .inr (by rw [decide_eq_false_iff_not]; omega)
    by_cases h2 : 97 ≤ x ∧ x ≤ 102
    · have b1 : decide ((97 : Int) ≤ (x : Int)) = true := by rw [decide_eq_true_eq]; omega
      have b2 : decide ((x : Int) ≤ 102) = true := by rw [decide_eq_true_eq]; omega
      have hv : hexd x = some (x - 87) := by unfold hexd; rw [if_neg h1, if_pos h2]
      have hs : IntKind.u8.wrap ((x : Int) - 87) = ((x - 87 : Nat) : Int) := by rw [IntKind.wrap_u8]; omega
      have HV : Hid _ := hv
      clear h1 h2 hv
      rcases n1 with ⟨a1, a2⟩ | a1
      · go_wp2_with fail
        go_ret
        exact .inl ⟨x - 87, HV.out, by first | rfl | (rw [← hs]; rfl), H1.out.at_ (i + 1), F1.out.trans (FP.set _ _ _ H.out.le)⟩
      · go_wp2_with fail
        go_ret
        exact .inl ⟨x - 87, HV.out, by first | rfl | (rw [← hs]; rfl), H1.out.at_ (i + 1), F1.out.trans (FP.set _ _ _ H.out.le)⟩
    · have n2 : (decide ((97 : Int) ≤ (x : Int)) = true ∧ decide ((x : Int) ≤ 102) = false) ∨ decide ((97 : Int) ≤ (x : Int)) = false := by
        by_cases q : 97 ≤ x
        · exact .inl ⟨by rw [decide_eq_true_eq]; omega, by rw [decide_eq_false_iff_not]; omega⟩
        · exact .inr (by rw [decide_eq_false_iff_not]; omega)
      by_cases h3 : 65 ≤ x ∧ x ≤ 70
      · have d1 : decide ((65 : Int) ≤ (x : Int)) = true := by rw [decide_eq_true_eq]; omega
        have d2 : decide ((x : Int) ≤ 70) = true := by rw [decide_eq_true_eq]; omega
        have hv : hexd x = some (x - 55) := by unfold hexd; rw [if_neg h1, if_neg h2, if_pos h3]
        have hs : IntKind.u8.wrap ((x : Int) - 55) = ((x - 55 : Nat) : Int) := by rw [IntKind.wrap_u8]; omega
        have HV : Hid _ := hv
        have a1 : decide ((48 : Int) ≤ (x : Int)) = true := by rw [decide_eq_true_eq]; omega
        have a2 : decide ((x : Int) ≤ 57) = false := by rw [decide_eq_false_iff_not]; omega
        have b1 : decide ((97 : Int) ≤ (x : Int)) = false := by rw [decide_eq_false_iff_not]; omega
        clear h1 h2 h3 hv n1 n2
        go_wp2_with fail
        go_ret
        exact .inl ⟨x - 55, HV.out, by first | rfl | (rw [← hs]; rfl), H1.out.at_ (i + 1), F1.out.trans (FP.set _ _ _ H.out.le)⟩
      · have n3 : (decide ((65 : Int) ≤ (x : Int)) = true ∧ decide ((x : Int) ≤ 70) = false) ∨ decide ((65 : Int) ≤ (x : Int)) = false := by
          by_cases q : 65 ≤ x
          · exact .inl ⟨by rw [decide_eq_true_eq]; omega, by rw [decide_eq_false_iff_not]; omega⟩
          · exact .inr (by rw [decide_eq_false_iff_not]; omega)
        have hv : hexd x = none := by unfold hexd; rw [if_neg h1, if_neg h2, if_neg h3]
        have HV : Hid _ := hv
        clear h1 h2 h3 hv
        rcases n1 with ⟨a1, a2⟩ | a1 <;> rcases n2 with ⟨b1, b2⟩ | b1 <;> rcases n3 with ⟨d1, d2⟩ | d1 <;>
          (go_wp2_with fail
           refine (giveUp_any 40 (i : Int) _).mono ?_
           rintro e w2 ⟨rfl, rfl⟩
           go_wp2_with fail
           exact ⟨rfl, .inr ⟨HV.out, rfl, F1.out⟩⟩)
end Go.Proofs.YtkjcnnecdclgfaaDoor
