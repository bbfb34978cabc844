import Derived.Test.YtkjljnneghnpiaaZyc
namespace Go.Proofs.Ytkjljnneghnpiaa.Rg
open Go.RowKit
/-- What reading keeps: all below B; and every block but the parser's that is no row of nodes. -/
structure FP (B b : Nat) (W W' : World) : Prop where
  bel : Below B W W'
  kept : ∀ k vs t fz, W.heap[k]? = some (.cells vs t fz) → k ≠ b → t ≠ 58 → W'.heap[k]? = some (.cells vs t fz)
theorem FP.refl (B b : Nat) (W : World) : FP B b W W := ⟨Below.refl _ _, fun _ _ _ _ h _ _ => h⟩
theorem FP.trans {B b : Nat} {W W1 W2 : World} (h : FP B b W W1) (k : FP B b W1 W2) : FP B b W W2 :=
  ⟨h.bel.trans k.bel, fun j vs t fz h1 h2 h3 => k.kept j vs t fz (h.kept j vs t fz h1 h2 h3) h2 h3⟩
theorem FP.of {B b : Nat} {W W' : World} (h : Below W.heap.size W W') (hB : B ≤ W.heap.size) : FP B b W W' :=
  ⟨h.mono hB, fun _ _ _ _ h1 _ _ => below_heap h h1 (lt_of_heap h1)⟩
theorem FP.set {B b : Nat} (W : World) (o : Nat) (v : Value) (hB : B ≤ b) : FP B b W (W.setCell ⟨b, o, none⟩ v) :=
  ⟨(Below.refl B W).setCell (p := ⟨b, o, none⟩) hB v, fun k _ _ _ h1 h2 _ => by rw [Below.heap_setCell _ _ _ _ (fun e => h2 e)]; exact h1⟩
theorem FP.dr {B b : Nat} {w : World} : FP B b w w.drew := ⟨Below.drew (Below.refl _ _), fun _ _ _ _ h _ _ => h⟩
theorem own_ne {w : World} {B : Nat} {e T : TypeId} {z : Nat} {v : Value} {n : Nat} {xs : List Value} {b : Nat} {cs : Array Value} {fr : Nat × Nat} (hown : w.ownsRow B e z v n xs) (hb : w.heap[b]? = some (.cells cs T fr)) (hTe : T ≠ e) : v.ownBlock ≠ some b := by
  rcases hown.2 with ⟨rfl, _⟩ | ⟨g, cap, cur, rfl, _, hg, _⟩
  · simp [Value.ownBlock]
  · intro h
    simp only [Value.ownBlock, Option.some.injEq] at h
    subst h
    rw [hg] at hb
    injection hb with hb
    injection hb with _ h2 _
    exact hTe h2.symm

/-- A parser: its text, place, open brackets, nodes; are there too many? -/
structure IsP (B b : Nat) (s : ByteArray) (i opn : Nat) (nds : List Nd) (lg : Bool) (w : World) : Prop where
  le : B ≤ b
  sz : B ≤ w.heap.size
  h : ∃ v, w.heap[b]? = some (.cells #[.string s, .int .i64 (i : Int), .int .i64 (opn : Int), v, .bool lg] 79 (0, 0)) ∧ w.ownsRow B 58 7 v nds.length (ncs nds)
theorem IsP.cells {B b : Nat} {s : ByteArray} {i opn : Nat} {nds : List Nd} {lg : Bool} {w : World} (h : IsP B b s i opn nds lg w) : w.cell? ⟨b, 0, none⟩ = some (.string s) ∧ w.cell? ⟨b, 1, none⟩ = some (.int .i64 (i : Int)) ∧ w.cell? ⟨b, 2, none⟩ = some (.int .i64 (opn : Int)) ∧ w.cell? ⟨b, 4, none⟩ = some (.bool lg) ∧ ∀ o, w.frozen? ⟨b, o, none⟩ = false := by
  obtain ⟨v, hv, _⟩ := h.h
  exact ⟨by rw [Lib.cell_of_heap hv]; rfl, by rw [Lib.cell_of_heap hv]; rfl, by rw [Lib.cell_of_heap hv]; rfl, by rw [Lib.cell_of_heap hv]; rfl, fun o => Lib.frozen_of_heap hv o⟩
theorem IsP.mono {B b : Nat} {s : ByteArray} {i opn : Nat} {nds : List Nd} {lg : Bool} {w w' : World} (h : IsP B b s i opn nds lg w) (hb : Below w.heap.size w w') : IsP B b s i opn nds lg w' := by
  obtain ⟨v, hv, ho⟩ := h.h
  exact ⟨h.le, Nat.le_trans h.sz hb.size, v, below_heap hb hv (lt_of_heap hv), own_mono ho hb⟩
theorem IsP.lt {B b : Nat} {s : ByteArray} {i opn : Nat} {nds : List Nd} {lg : Bool} {w : World} (h : IsP B b s i opn nds lg w) : b < w.heap.size := by
  obtain ⟨v, hv, _⟩ := h.h
  exact lt_of_heap hv
theorem own_set {w : World} {B b : Nat} {e T : TypeId} {z n : Nat} {v u : Value} {xs : List Value} {cs : Array Value} {o : Nat} (ho : w.ownsRow B e z v n xs) (hb : w.heap[b]? = some (.cells cs T (0, 0))) (hT : T ≠ e) : (w.setCell ⟨b, o, none⟩ u).ownsRow B e z v n xs :=
  ho.kept (row := some b) ⟨rfl, rfl, rfl, by simp [World.setCell], fun k _ hk => Below.heap_setCell _ _ _ _ (fun e => hk (by simp [e]))⟩ (Or.inr (own_ne ho hb hT))
theorem IsP.at_ {B b : Nat} {s : ByteArray} {i opn : Nat} {nds : List Nd} {lg : Bool} {w : World} (h : IsP B b s i opn nds lg w) (j : Nat) : IsP B b s j opn nds lg (w.setCell ⟨b, 1, none⟩ (.int .i64 (j : Int))) := by
  obtain ⟨v, hv, ho⟩ := h.h
  refine ⟨h.le, by simpa using h.sz, v, ?_, own_set ho hv (by decide)⟩
  simp [World.setCell, Array.getElem?_modify, hv]
theorem IsP.drew {B b : Nat} {s : ByteArray} {i opn : Nat} {nds : List Nd} {lg : Bool} {w : World} (h : IsP B b s i opn nds lg w) : IsP B b s i opn nds lg w.drew := ⟨h.le, h.sz, h.h⟩

/-- The next byte; 0 at the end. -/
def pk (s : ByteArray) (i : Nat) : Nat := if i < s.size then (s.get! i).toNat else 0
theorem pk_lt (s : ByteArray) (i : Nat) : pk s i < 256 := by
  unfold pk
  split
  · exact (s.get! i).toNat_lt
  · omega
/-- A fault. -/
abbrev flt (code at' : Int) : Ending := .panicked [{ v := .iface 77 (.agg #[.int .i64 code, .int .i64 at']), recovered := false }]

set_option maxRecDepth 100000 in
set_option maxHeartbeats 1000000 in
theorem peek_any (B b : Nat) (s : ByteArray) (i opn : Nat) (nds : List Nd) (lg : Bool) (w : World) (h : IsP B b s i opn nds lg w) (hi : i ≤ s.size) :
    Calls Try.prog 61 #[.pointer (some ⟨b, 0, none⟩)] w fun e w' => e = .returned (.int .u8 (pk s i : Nat)) ∧ Below w.heap.size w w' := by
  obtain ⟨c0, c1, c2, c4, cf⟩ := h.cells
  by_cases hlt : i < s.size
  · have e1 : ((i : Int) == (s.size : Int)) = false := by rw [beq_eq_false_iff_ne]; omega
    have hx := idx_fact s i hlt
    have hp : pk s i = (s.get! i).toNat := by unfold pk; rw [if_pos hlt]
    rw [hp]
    clear h hi hp
    go_enter Try.func61, Try.ntmps61
    go_wp2_with fail
    go_region
    go_wp2_with fail
    go_region
    go_wp2_with fail
    go_ret
    exact ⟨rfl, Below.drew (Below.drew (Below.refl _ _))⟩
  · have e0 : i = s.size := by omega
    have hp : pk s i = 0 := by unfold pk; rw [if_neg hlt]
    rw [hp]
    subst e0
    clear h hi hp hlt
    go_enter Try.func61, Try.ntmps61
    go_wp2_with fail
    go_region
    go_wp2_with fail
    go_ret
    exact ⟨rfl, Below.drew (Below.refl _ _)⟩
theorem giveUp_any (code at' : Int) (w : World) : Calls Try.prog 55 #[.int .i64 code, .int .i64 at'] w fun e w' => e = flt code at' ∧ w' = w := by
  go_enter Try.func55, Try.ntmps55
  go_wp2_with fail
  exact ⟨rfl, rfl, rfl⟩

/-- What a hexadecimal digit stands for. -/
def hexd (c : Nat) : Option Nat := if 48 ≤ c ∧ c ≤ 57 then some (c - 48) else if 97 ≤ c ∧ c ≤ 102 then some (c - 87) else if 65 ≤ c ∧ c ≤ 70 then some (c - 55) else none
theorem hexd_lt {c d : Nat} (h : hexd c = some d) : d < 16 := by
  unfold hexd at h
  repeat' split at h
  all_goals first | (injection h; omega) | cases h
set_option maxRecDepth 100000 in
set_option maxHeartbeats 2000000 in
theorem take_any (B b : Nat) (s : ByteArray) (i opn : Nat) (nds : List Nd) (lg : Bool) (c : Nat) (w : World) (h : IsP B b s i opn nds lg w) (hi : i ≤ s.size) (hs : s.size < 1000000000000000) :
    Calls Try.prog 58 #[.pointer (some ⟨b, 0, none⟩), .int .u8 (c : Int)] w fun e w' => e = .returned (.bool (pk s i == c)) ∧ IsP B b s (if pk s i = c then i + 1 else i) opn nds lg w' ∧ FP B b w w' := by
  have P := peek_any B b s i opn nds lg w h hi
  obtain ⟨x, hx⟩ : ∃ x, pk s i = x := ⟨_, rfl⟩
  rw [hx] at P ⊢
  have H : Hid _ := h
  have HI : Hid (i + 1 < 9223372036854775807) := by exact (by omega : i + 1 < 9223372036854775807)
  clear h hx hi hs
  go_enter Try.func58, Try.ntmps58
  go_wp2_with fail
  refine P.mono ?_
  rintro e w1 ⟨rfl, hb1⟩
  have H1 : Hid _ := H.out.mono hb1
  have F1 : Hid (FP B b w w1) := FP.of hb1 H.out.sz
  clear hb1 P
  by_cases hc : x = c
  · subst hc
    obtain ⟨c0, c1, c2, c4, cf⟩ := H1.out.cells
    have hw := w64 i (by have := HI.out; omega)
    go_wp2_with fail
    go_ret
    refine ⟨ret_bool (by simp), ?_, F1.out.trans (FP.set _ _ _ H.out.le)⟩
    exact H1.out.at_ (i + 1)
  · have e : ((x : Int) != (c : Int)) = true := by
      have : ¬ ((x : Int) = (c : Int)) := by omega
      simpa using this
    have hb : (x == c) = false := by simpa using hc
    have HC : Hid _ := hc
    have HBF : Hid _ := hb
    clear hc hb
    go_wp2_with fail
    go_ret
    refine ⟨ret_bool HBF.out.symm, ?_, F1.out⟩
    first
    | exact H1.out
    | (rw [if_neg HC.out]; exact H1.out)
set_option maxRecDepth 100000 in
set_option maxHeartbeats 2000000 in
theorem digit_any (B b : Nat) (s : ByteArray) (i opn : Nat) (nds : List Nd) (lg : Bool) (w : World) (h : IsP B b s i opn nds lg w) (hi : i ≤ s.size) (hs : s.size < 1000000000000000) :
    Calls Try.prog 80 #[.pointer (some ⟨b, 0, none⟩)] w fun e w' => (∃ d, hexd (pk s i) = some d ∧ e = .returned (.int .u8 (d : Int)) ∧ IsP B b s (i + 1) opn nds lg w' ∧ FP B b w w') ∨ (hexd (pk s i) = none ∧ e = flt 40 (i : Int) ∧ FP B b w w') := by
  have P := peek_any B b s i opn nds lg w h hi
  have hx8 := pk_lt s i
  obtain ⟨x, hx⟩ : ∃ x, pk s i = x := ⟨_, rfl⟩
  rw [hx] at P hx8 ⊢
  have H : Hid _ := h
  have HX8 : Hid _ := hx8
  have HI : Hid (i + 1 < 9223372036854775807) := by exact (by omega : i + 1 < 9223372036854775807)
  clear h hx hi hs hx8
  go_enter Try.func80, Try.ntmps80
  go_wp2_with fail
  refine P.mono ?_
  rintro e w1 ⟨rfl, hb1⟩
  have H1 : Hid _ := H.out.mono hb1
  have F1 : Hid (FP B b w w1) := FP.of hb1 H.out.sz
  clear hb1 P
  obtain ⟨c0, c1, c2, c4, cf⟩ := H1.out.cells
  have hw := w64 i (by have := HI.out; omega)
  by_cases h1 : 48 ≤ x ∧ x ≤ 57
  · have a1 : decide ((48 : Int) ≤ (x : Int)) = true := by rw [decide_eq_true_eq]; omega
    have a2 : decide ((x : Int) ≤ 57) = true := by rw [decide_eq_true_eq]; omega
    have hv : hexd x = some (x - 48) := by unfold hexd; rw [if_pos h1]
    have hs : IntKind.u8.wrap ((x : Int) - 48) = ((x - 48 : Nat) : Int) := by rw [IntKind.wrap_u8]; omega
    have HV : Hid _ := hv
    clear h1 hv
    go_wp2_with fail
    go_ret
    exact .inl ⟨x - 48, HV.out, by first | rfl | (rw [← hs]; rfl), H1.out.at_ (i + 1), F1.out.trans (FP.set _ _ _ H.out.le)⟩
  · have n1 : (decide ((48 : Int) ≤ (x : Int)) = true ∧ decide ((x : Int) ≤ 57) = false) ∨ decide ((48 : Int) ≤ (x : Int)) = false := by
      by_cases q : 48 ≤ x
      · exact .inl ⟨by rw [decide_eq_true_eq]; omega, by rw [decide_eq_false_iff_not]; omega⟩
      · exact .inr (by rw [decide_eq_false_iff_not]; omega)
    by_cases h2 : 97 ≤ x ∧ x ≤ 102
    · have b1 : decide ((97 : Int) ≤ (x : Int)) = true := by rw [decide_eq_true_eq]; omega
      have b2 : decide ((x : Int) ≤ 102) = true := by rw [decide_eq_true_eq]; omega
      have hv : hexd x = some (x - 87) := by unfold hexd; rw [if_neg h1, if_pos h2]
      have hs : IntKind.u8.wrap ((x : Int) - 87) = ((x - 87 : Nat) : Int) := by rw [IntKind.wrap_u8]; omega
      have HV : Hid _ := hv
      clear h1 h2 hv
      rcases n1 with ⟨a1, a2⟩ | a1
      · go_wp2_with fail
        go_ret
        exact .inl ⟨x - 87, HV.out, by first | rfl | (rw [← hs]; rfl), H1.out.at_ (i + 1), F1.out.trans (FP.set _ _ _ H.out.le)⟩
      · go_wp2_with fail
        go_ret
        exact .inl ⟨x - 87, HV.out, by first | rfl | (rw [← hs]; rfl), H1.out.at_ (i + 1), F1.out.trans (FP.set _ _ _ H.out.le)⟩
    · have n2 : (decide ((97 : Int) ≤ (x : Int)) = true ∧ decide ((x : Int) ≤ 102) = false) ∨ decide ((97 : Int) ≤ (x : Int)) = false := by
        by_cases q : 97 ≤ x
        · exact .inl ⟨by rw [decide_eq_true_eq]; omega, by rw [decide_eq_false_iff_not]; omega⟩
        · exact .inr (by rw [decide_eq_false_iff_not]; omega)
      by_cases h3 : 65 ≤ x ∧ x ≤ 70
      · have d1 : decide ((65 : Int) ≤ (x : Int)) = true := by rw [decide_eq_true_eq]; omega
        have d2 : decide ((x : Int) ≤ 70) = true := by rw [decide_eq_true_eq]; omega
        have hv : hexd x = some (x - 55) := by unfold hexd; rw [if_neg h1, if_neg h2, if_pos h3]
        have hs : IntKind.u8.wrap ((x : Int) - 55) = ((x - 55 : Nat) : Int) := by rw [IntKind.wrap_u8]; omega
        have HV : Hid _ := hv
        have a1 : decide ((48 : Int) ≤ (x : Int)) = true := by rw [decide_eq_true_eq]; omega
        have a2 : decide ((x : Int) ≤ 57) = false := by rw [decide_eq_false_iff_not]; omega
        have b1 : decide ((97 : Int) ≤ (x : Int)) = false := by rw [decide_eq_false_iff_not]; omega
        clear h1 h2 h3 hv n1 n2
        go_wp2_with fail
        go_ret
        exact .inl ⟨x - 55, HV.out, by first | rfl | (rw [← hs]; rfl), H1.out.at_ (i + 1), F1.out.trans (FP.set _ _ _ H.out.le)⟩
      · have n3 : (decide ((65 : Int) ≤ (x : Int)) = true ∧ decide ((x : Int) ≤ 70) = false) ∨ decide ((65 : Int) ≤ (x : Int)) = false := by
          by_cases q : 65 ≤ x
          · exact .inl ⟨by rw [decide_eq_true_eq]; omega, by rw [decide_eq_false_iff_not]; omega⟩
          · exact .inr (by rw [decide_eq_false_iff_not]; omega)
        have hv : hexd x = none := by unfold hexd; rw [if_neg h1, if_neg h2, if_neg h3]
        have HV : Hid _ := hv
        clear h1 h2 h3 hv
        rcases n1 with ⟨a1, a2⟩ | a1 <;> rcases n2 with ⟨b1, b2⟩ | b1 <;> rcases n3 with ⟨d1, d2⟩ | d1 <;>
          (go_wp2_with fail
           refine (giveUp_any 40 (i : Int) _).mono ?_
           rintro e w2 ⟨rfl, rfl⟩
           go_wp2_with fail
           exact ⟨rfl, .inr ⟨HV.out, rfl, F1.out⟩⟩)
end Go.Proofs.Ytkjljnneghnpiaa.Rg
namespace Go.Proofs.Ytkjljnneghnpiaa.Rg
open Go.RowKit
def esc13 : List UInt8 := [92, 47, 124, 42, 43, 63, 40, 41, 91, 93, 46, 45, 94]
/-- What stands behind a backslash: the byte and the place behind it, or the place of the first byte that cannot stand there. -/
def pesc (s : ByteArray) (i : Nat) : Except Nat (Nat × Nat) :=
  if pk s i = 110 then .ok (10, i + 1) else if pk s i = 116 then .ok (9, i + 1) else if pk s i = 114 then .ok (13, i + 1)
  else if pk s i = 120 then (match hexd (pk s (i + 1)) with
    | none => .error (i + 1)
    | some h => match hexd (pk s (i + 2)) with
      | none => .error (i + 2)
      | some l => .ok (h * 16 + l, i + 3))
  else if esc13.contains (UInt8.ofNat (pk s i)) then .ok (pk s i, i + 1) else .error i
theorem pk_in {s : ByteArray} {i : Nat} (h : pk s i ≠ 0) : i < s.size := by
  unfold pk at h
  split at h
  · assumption
  · exact absurd rfl h
theorem hexd_in {s : ByteArray} {i d : Nat} (h : hexd (pk s i) = some d) : i < s.size := by
  apply pk_in
  intro e
  rw [e] at h
  cases h
/-- What a reading of one byte answers. -/
def OneRes (B b : Nat) (s : ByteArray) (opn : Nat) (nds : List Nd) (lg : Bool) (w : World) (r : Except Nat (Nat × Nat)) (e : Ending) (w' : World) : Prop :=
  match r with
  | .ok (v, j) => e = .returned (.int .u8 (v : Int)) ∧ IsP B b s j opn nds lg w' ∧ FP B b w w' ∧ j ≤ s.size ∧ v < 256
  | .error p => e = flt 40 (p : Int) ∧ FP B b w w'
set_option maxRecDepth 100000 in
set_option maxHeartbeats 4000000 in
theorem escape_any (B b : Nat) (s : ByteArray) (i opn : Nat) (nds : List Nd) (lg : Bool) (w : World) (h : IsP B b s i opn nds lg w) (hi : i ≤ s.size) (hs : s.size < 1000000000000000) :
    Calls Try.prog 77 #[.pointer (some ⟨b, 0, none⟩)] w fun e w' => OneRes B b s opn nds lg w (pesc s i) e w' := by
  have P := peek_any B b s i opn nds lg w h hi
  have hx8 := pk_lt s i
  obtain ⟨x, hx⟩ : ∃ x, pk s i = x := ⟨_, rfl⟩
  have HX : Hid _ := hx
  rw [hx] at P hx8
  have H : Hid _ := h
  have HX8 : Hid _ := hx8
  have HS : Hid _ := hs
  have HI : Hid (i + 1 < 9223372036854775807) := by exact (by omega : i + 1 < 9223372036854775807)
  have HIN : Hid (x ≠ 0 → i < s.size) := fun h0 => pk_in (by rw [hx]; exact h0)
  clear h hx hi hs hx8
  go_enter Try.func77, Try.ntmps77
  go_wp2_with fail
  refine P.mono ?_
  rintro e w1 ⟨rfl, hb1⟩
  have H1 : Hid _ := H.out.mono hb1
  have F1 : Hid (FP B b w w1) := FP.of hb1 H.out.sz
  clear hb1 P
  obtain ⟨c0, c1, c2, c4, cf⟩ := H1.out.cells
  have hw := w64 i (by have := HI.out; omega)
  by_cases h1 : x = 110
  · subst h1
    have hr : pesc s i = .ok (10, i + 1) := by unfold pesc; rw [if_pos HX.out]
    have HR : Hid _ := hr
    clear hr
    go_wp2_with fail
    go_ret
    rw [HR.out]
    exact ⟨rfl, H1.out.at_ (i + 1), F1.out.trans (FP.set _ _ _ H.out.le), HIN.out (by decide), by omega⟩
  by_cases h2 : x = 116
  · subst h2
    have hr : pesc s i = .ok (9, i + 1) := by unfold pesc; rw [if_neg (by rw [HX.out]; decide), if_pos HX.out]
    have HR : Hid _ := hr
    clear hr h1
    go_wp2_with fail
    go_ret
    rw [HR.out]
    exact ⟨rfl, H1.out.at_ (i + 1), F1.out.trans (FP.set _ _ _ H.out.le), HIN.out (by decide), by omega⟩
  by_cases h3 : x = 114
  · subst h3
    have hr : pesc s i = .ok (13, i + 1) := by unfold pesc; rw [if_neg (by rw [HX.out]; decide), if_neg (by rw [HX.out]; decide), if_pos HX.out]
    have HR : Hid _ := hr
    clear hr h1 h2
    go_wp2_with fail
    go_ret
    rw [HR.out]
    exact ⟨rfl, H1.out.at_ (i + 1), F1.out.trans (FP.set _ _ _ H.out.le), HIN.out (by decide), by omega⟩
  have e1 : ((x : Int) == 110) = false := by rw [beq_eq_false_iff_ne]; omega
  have e2 : ((x : Int) == 116) = false := by rw [beq_eq_false_iff_ne]; omega
  have e3 : ((x : Int) == 114) = false := by rw [beq_eq_false_iff_ne]; omega
  by_cases h4 : x = 120
  · subst h4
    have hr : pesc s i = (match hexd (pk s (i + 1)) with
      | none => .error (i + 1)
      | some h => match hexd (pk s (i + 2)) with
        | none => .error (i + 2)
        | some l => .ok (h * 16 + l, i + 3)) := by
      unfold pesc
      rw [if_neg (by rw [HX.out]; decide), if_neg (by rw [HX.out]; decide), if_neg (by rw [HX.out]; decide), if_pos HX.out]
    have HR : Hid _ := hr
    have G1 : Hid _ := H1.out.at_ (i + 1)
    have K1 : Hid (FP B b w (w1.setCell ⟨b, 1, none⟩ (.int .i64 ((i + 1 : Nat) : Int)))) := F1.out.trans (FP.set _ _ _ H.out.le)
    clear hr h1 h2 h3
    go_wp2_with fail
    have D := digit_any B b s (i + 1) opn nds lg _ G1.out (HIN.out (by decide)) HS.out
    refine D.mono ?_
    clear D
    rintro e w2 (⟨d, hd, rfl, p2, f2⟩ | ⟨hd, rfl, f2⟩)
    · have P2 : Hid _ := p2
      have F2 : Hid _ := K1.out.trans f2
      have HD : Hid _ := hd
      have hd16 := hexd_lt hd
      have HD16 : Hid _ := hd16
      have hshl : IntKind.u8.wrap ((d : Int) * 16) = ((d * 16 : Nat) : Int) := by rw [IntKind.wrap_u8]; omega
      clear p2 f2 hd hd16
      go_wp2_with fail
      have D := digit_any B b s (i + 1 + 1) opn nds lg _ P2.out (by have := hexd_in HD.out; omega) HS.out
      refine D.mono ?_
      clear D
      rintro e w3 (⟨d2, hd2, rfl, p3, f3⟩ | ⟨hd2, rfl, f3⟩)
      · have P3 : Hid _ := p3
        have F3 : Hid _ := F2.out.trans f3
        have HD2 : Hid _ := hd2
        have hd16 := hexd_lt hd2
        have hor : bits .or .u8 ((d * 16 : Nat) : Int) (d2 : Int) = ((d * 16 + d2 : Nat) : Int) := by
          have := bits_join .u8 8 (by decide) wraps_u8 4 ((d * 16 : Nat) : Int) (d2 : Int) (by omega) (by omega) (by have := HD16.out; omega) (by omega) (by omega) (by omega)
          rw [this]
          omega
        have HD216 : Hid _ := hd16
        clear p3 f3 hd2 hd16
        obtain ⟨dd, hdd⟩ : ∃ dd, d * 16 = dd := ⟨_, rfl⟩
        rw [hdd] at hshl hor
        have HDD : Hid _ := hdd
        clear hdd
        go_wp2_with fail
        go_ret
        rw [HR.out, HD.out]
        have e2 : hexd (pk s (i + 2)) = some d2 := HD2.out
        dsimp only
        rw [e2]
        refine ⟨?_, P3.out, F3.out, ?_, ?_⟩
        · rw [HDD.out]
          have q : ((d : Int) * 16) = (dd : Int) := by have := HDD.out; omega
          show Ending.returned (.int .u8 (bits .or .u8 ((d : Int) * 16) (d2 : Int))) = _
          rw [q, hor]
        · exact hexd_in HD2.out
        · have := HD16.out
          have := HD216.out
          omega
      · have F3 : Hid _ := F2.out.trans f3
        have HD2 : Hid _ := hd2
        clear f3 hd2
        go_wp2_with fail
        refine ⟨rfl, ?_⟩
        rw [HR.out, HD.out]
        have e2 : hexd (pk s (i + 2)) = none := HD2.out
        dsimp only
        rw [e2]
        exact ⟨rfl, F3.out⟩
    · have F2 : Hid _ := K1.out.trans f2
      have HD : Hid _ := hd
      clear f2 hd
      go_wp2_with fail
      refine ⟨rfl, ?_⟩
      rw [HR.out, HD.out]
      exact ⟨rfl, F2.out⟩
  have e4 : ((x : Int) == 120) = false := by rw [beq_eq_false_iff_ne]; omega
  have hr : pesc s i = if esc13.contains (UInt8.ofNat x) then .ok (x, i + 1) else .error i := by
    unfold pesc
    rw [HX.out, if_neg h1, if_neg h2, if_neg h3, if_neg h4]
  have HR : Hid _ := hr
  clear hr h1 h2 h3 h4
  go_wp2_with fail
  have IB := Try.strings_IndexByte ⟨esc13.toArray⟩ (x : Int) w1
  refine IB.mono ?_
  clear IB
  rintro e w2 ⟨rfl, rfl⟩
  have ex : ((x : Int).toNat.toUInt8) = UInt8.ofNat x := by simp [Nat.toUInt8]
  rw [ex]
  have pp := plain_pure (UInt8.ofNat x) esc13
  cases hc : esc13.contains (UInt8.ofNat x) with
  | false =>
    have hlt : decide (Lib.indexByte esc13 (UInt8.ofNat x) < 0) = true := by rw [decide_eq_true_eq]; exact pp.2 hc
    have HC : Hid _ := hc
    clear pp hc
    obtain ⟨y, hy⟩ : ∃ y, Lib.indexByte esc13 (UInt8.ofNat x) = y := ⟨_, rfl⟩
    rw [hy] at hlt
    rw [show (ByteArray.mk esc13.toArray).data.toList = esc13 by rfl, hy]
    clear hy
    go_wp2_with fail
    refine (giveUp_any 40 (i : Int) _).mono ?_
    rintro e w3 ⟨rfl, rfl⟩
    go_wp2_with fail
    refine ⟨rfl, ?_⟩
    rw [HR.out, HC.out]
    exact ⟨rfl, F1.out⟩
  | true =>
    have hlt : decide (Lib.indexByte esc13 (UInt8.ofNat x) < 0) = false := by
      rw [decide_eq_false_iff_not]
      intro hn
      rw [pp.1 hn] at hc
      cases hc
    have HC : Hid _ := hc
    clear pp hc
    obtain ⟨y, hy⟩ : ∃ y, Lib.indexByte esc13 (UInt8.ofNat x) = y := ⟨_, rfl⟩
    rw [hy] at hlt
    rw [show (ByteArray.mk esc13.toArray).data.toList = esc13 by rfl, hy]
    clear hy
    go_wp2_with fail
    go_ret
    rw [HR.out, HC.out]
    refine ⟨rfl, H1.out.at_ (i + 1), F1.out.trans (FP.set _ _ _ H.out.le), ?_, HX8.out⟩
    refine HIN.out ?_
    intro h0
    have := HC.out
    rw [h0] at this
    revert this
    decide

/-- One byte, where those bytes do not stand for themselves, or an escape. -/
def pone (s : ByteArray) (i : Nat) (nt : List UInt8) : Except Nat (Nat × Nat) :=
  if pk s i = 92 then pesc s (i + 1)
  else if (decide (32 ≤ pk s i) && decide (pk s i ≤ 126) && !nt.contains (UInt8.ofNat (pk s i))) = true then .ok (pk s i, i + 1) else .error i
set_option maxRecDepth 100000 in
set_option maxHeartbeats 4000000 in
theorem one_any (B b : Nat) (s : ByteArray) (i opn : Nat) (nds : List Nd) (lg : Bool) (nt : List UInt8) (w : World) (h : IsP B b s i opn nds lg w) (hi : i ≤ s.size) (hs : s.size < 1000000000000000) :
    Calls Try.prog 68 #[.pointer (some ⟨b, 0, none⟩), ST nt] w fun e w' => OneRes B b s opn nds lg w (pone s i nt) e w' := by
  have T := take_any B b s i opn nds lg 92 w h hi hs
  have hx8 := pk_lt s i
  have HIN : Hid (pk s i ≠ 0 → i < s.size) := fun h0 => pk_in h0
  have H : Hid _ := h
  have HI : Hid _ := hi
  have HS : Hid _ := hs
  have HX8 : Hid _ := hx8
  have HW : Hid (i + 1 < 9223372036854775807) := by exact (by omega : i + 1 < 9223372036854775807)
  clear h hi hs hx8
  by_cases h92 : pk s i = 92
  · have hr : pone s i nt = pesc s (i + 1) := by unfold pone; rw [if_pos h92]
    have HR : Hid _ := hr
    have hb : (pk s i == 92) = true := by simpa using h92
    rw [hb, if_pos h92] at T
    have HIL : Hid (i < s.size) := HIN.out (by rw [h92]; decide)
    clear hr hb h92
    go_enter Try.func68, Try.ntmps68
    go_wp2_with fail
    refine T.mono ?_
    rintro e w1 ⟨rfl, h1, f1⟩
    have H1 : Hid _ := h1
    have F1 : Hid _ := f1
    clear h1 f1 T
    go_wp2_with fail
    refine (escape_any B b s (i + 1) opn nds lg w1 H1.out HIL.out HS.out).mono ?_
    intro e w2 hr2
    have HR2 : Hid _ := hr2
    clear hr2
    cases hp : pesc s (i + 1) with
    | error q =>
      have hq := HR2.out
      rw [hp] at hq
      obtain ⟨rfl, f2⟩ := hq
      have F2 : Hid _ := F1.out.trans f2
      have HPP : Hid _ := hp
      clear f2 hp HR2
      go_wp2_with fail
      refine ⟨rfl, ?_⟩
      rw [HR.out, HPP.out]
      exact ⟨rfl, F2.out⟩
    | ok vj =>
      obtain ⟨v, j⟩ := vj
      have hq := HR2.out
      rw [hp] at hq
      obtain ⟨rfl, p2, f2, hj, hv⟩ := hq
      have P2 : Hid _ := p2
      have F2 : Hid _ := F1.out.trans f2
      have HPP : Hid _ := hp
      have HJ : Hid _ := hj
      have HV : Hid _ := hv
      clear p2 f2 hj hv hp HR2
      go_wp2_with fail
      go_ret
      rw [HR.out, HPP.out]
      exact ⟨rfl, P2.out, F2.out, HJ.out, HV.out⟩
  · have hb : (pk s i == 92) = false := by simpa using h92
    rw [hb, if_neg h92] at T
    obtain ⟨x, hx⟩ : ∃ x, pk s i = x := ⟨_, rfl⟩
    have hr : pone s i nt = if (decide (32 ≤ x) && decide (x ≤ 126) && !nt.contains (UInt8.ofNat x)) = true then .ok (x, i + 1) else .error i := by unfold pone; rw [if_neg h92, hx]
    have HR : Hid _ := hr
    have HX : Hid _ := hx
    clear hr hb h92 hx
    go_enter Try.func68, Try.ntmps68
    go_wp2_with fail
    refine T.mono ?_
    rintro e w1 ⟨rfl, h1, f1⟩
    have H1 : Hid (IsP B b s i opn nds lg w1) := h1
    have F1 : Hid _ := f1
    clear h1 f1 T
    go_wp2_with fail
    have P := peek_any B b s i opn nds lg w1 H1.out HI.out
    rw [HX.out] at P
    refine P.mono ?_
    rintro e w2 ⟨rfl, hb2⟩
    have H2 : Hid _ := H1.out.mono hb2
    have F2 : Hid (FP B b w w2) := F1.out.trans (FP.of hb2 H1.out.sz)
    clear hb2 P
    go_wp2_with fail
    refine (plain_any x (by rw [← HX.out]; exact HX8.out) nt _).mono ?_
    rintro e w3 ⟨rfl, rfl⟩
    obtain ⟨c0, c1, c2, c4, cf⟩ := H2.out.cells
    have hw := w64 i (by have := HW.out; omega)
    cases hp : (decide (32 ≤ x) && decide (x ≤ 126) && !nt.contains (UInt8.ofNat x)) with
    | false =>
      have HP : Hid _ := hp
      clear hp
      go_wp2_with fail
      refine (giveUp_any 40 (i : Int) _).mono ?_
      rintro e w4 ⟨rfl, rfl⟩
      go_wp2_with fail
      refine ⟨rfl, ?_⟩
      rw [HR.out, HP.out]
      exact ⟨rfl, F2.out⟩
    | true =>
      have HP : Hid _ := hp
      clear hp
      go_wp2_with fail
      go_ret
      rw [HR.out, HP.out]
      refine ⟨rfl, H2.out.at_ (i + 1), F2.out.trans (FP.set _ _ _ H.out.le), ?_, by rw [← HX.out]; exact HX8.out⟩
      refine HIN.out ?_
      rw [HX.out]
      intro h0
      have := HP.out
      rw [h0] at this
      simp at this
end Go.Proofs.Ytkjljnneghnpiaa.Rg
