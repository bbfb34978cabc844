import Derived.Test.YtcfmpmhdjkchjaaTga
namespace Go.Proofs.Ytcfmpmhdjkchjaa
open Go.RowKit Go.Maps

/-- Does the symbol have a node of its own? -/
def hnd (Te : List Td) (Sy : List Sd) (z : Int) : Bool := itk Te z || (decide ((Te.length : Int) ≤ z) && ish Sy (z - (Te.length : Int)))
theorem itk_false {Te : List Td} {z : Int} (h : itk Te z = false) : z < 0 ∨ (Te.length : Int) ≤ z := by
  rcases Int.lt_or_le z 0 with h1 | h1
  · exact .inl h1
  · rcases Int.lt_or_le z (Te.length : Int) with h2 | h2
    · simp [itk, h1, h2] at h
    · exact .inr h2
set_option maxRecDepth 100000 in
set_option maxHeartbeats 8000000 in
theorem hasNode_any {v0 v1 v2 : Value} {Te : List Td} {Sy : List Sd} {P : List Pd} (w : World) (h : Gx w v0 v1 v2 Te Sy P) (hs : Gs Te Sy P) (z : Int) (hz : z ≤ 9223372036854775807) :
    Calls Try.prog 85 #[.agg #[v0, v1, v2], .int .i64 z] w fun e w' => e = .returned (.bool (hnd Te Sy z)) ∧ Below w.heap.size w w' := by
  have HG : Hid (Gx w v0 v1 v2 Te Sy P) := h
  have HS : Hid (Gs Te Sy P) := hs
  obtain ⟨a0, c0, a1, c1, a2, c2, rfl, rfl, rfl⟩ := h.form
  clear h hs
  obtain ⟨n0, h0⟩ : ∃ n, Te.length = n := ⟨_, rfl⟩
  obtain ⟨n1, h1⟩ : ∃ n, Sy.length = n := ⟨_, rfl⟩
  obtain ⟨n2, h2⟩ : ∃ n, P.length = n := ⟨_, rfl⟩
  have HN0 : Hid (Te.length = n0) := h0
  rw [h0, h1, h2] at HG
  rw [h0, h1, h2]
  clear h0 h1 h2
  obtain ⟨W1, hW1⟩ : ∃ W1, W1 = w.alloc (.cells #[.slice a0 n0 c0, .slice a1 n1 c1, .slice a2 n2 c2] 41) := ⟨_, rfl⟩
  have HB1 : Hid (Below w.heap.size w W1) := by rw [hW1]; exact bel_up _ _
  have HX1 : Hid (W1.heap[w.heap.size]? = some (.cells #[.slice a0 n0 c0, .slice a1 n1 c1, .slice a2 n2 c2] 41 (0, 0))) := by rw [hW1]; exact heap_new _ _
  have x0 := rcell HX1.out 0 _ rfl
  have x1 := rcell HX1.out 1 _ rfl
  have x2 := rcell HX1.out 2 _ rfl
  have HK : Hid (∀ W v1 v2, Calls Try.prog 52 #[.agg #[.slice a0 n0 c0, v1, v2], .int .i64 z] W fun e w' => e = .returned (.bool (itk Te z)) ∧ Below W.heap.size W w') := fun W v1 v2 => by rw [← HN0.out]; exact isToken_any a0 c0 v1 v2 Te z W
  cases hh : itk Te z with
  | true =>
    have HE : Hid (hnd Te Sy z = true) := by show _ = _; unfold hnd; rw [hh]; rfl
    rw [hh] at HK
    rw [HE.out]
    clear hh HE
    go_enter Try.func85, Try.ntmps85
    go_upto_region 1 with fail
    rw [← hW1]
    clear hW1
    go_wp2_with (go_at_call 52; refine Calls.mono (HK.out _ _ _) ?_; rintro ee W2 ⟨rfl, hb5⟩; have HB5 : Hid (Below w.heap.size w W2) := below_trans HB1.out hb5; clear hb5)
    go_ret
    exact ⟨rfl, HB5.out⟩
  | false =>
    rw [hh] at HK
    by_cases hz0 : (n0 : Int) ≤ z
    · have e1 : decide ((n0 : Int) ≤ z) = true := by rw [decide_eq_true_eq]; exact hz0
      have HE : Hid (hnd Te Sy z = ish Sy (z - (n0 : Int))) := by show _ = _; unfold hnd; rw [hh, HN0.out, e1]; rfl
      have hw : IntKind.i64.wrap (z - (n0 : Int)) = z - (n0 : Int) := w64 _ (by omega) (by omega)
      rw [HE.out]
      clear hh HE hz0 hz
      obtain ⟨y, hy⟩ : ∃ y, z - (n0 : Int) = y := ⟨_, rfl⟩
      rw [hy] at hw ⊢
      have hw2 : IntKind.i64.wrap (z - (n0 : Int)) = y := by rw [hy]; exact hw
      clear hy hw
      go_enter Try.func85, Try.ntmps85
      go_upto_region 1 with fail
      rw [← hW1]
      clear hW1
      go_wp2_with first | (go_at_call 52; refine Calls.mono (HK.out _ _ _) ?_; rintro ee W2 ⟨rfl, hb5⟩; have HB5 : Hid (Below w.heap.size w W2) := below_trans HB1.out hb5; have y0 := below_cell hb5 x0; have y1 := below_cell hb5 x1; have y2 := below_cell hb5 x2; clear hb5) | (go_at_call 77; refine (isShown_any _ (HG.out.up HB5.out) _).mono ?_; rintro ee W3 ⟨rfl, hb6⟩; have HB6 : Hid (Below w.heap.size w W3) := below_trans HB5.out hb6; clear hb6)
      go_ret
      exact ⟨rfl, HB6.out⟩
    · have e1 : decide ((n0 : Int) ≤ z) = false := by rw [decide_eq_false_iff_not]; exact hz0
      have HE : Hid (hnd Te Sy z = false) := by show _ = _; unfold hnd; rw [hh, HN0.out, e1]; rfl
      rw [HE.out]
      clear hh HE hz0 hz
      go_enter Try.func85, Try.ntmps85
      go_upto_region 1 with fail
      rw [← hW1]
      clear hW1
      go_wp2_with (go_at_call 52; refine Calls.mono (HK.out _ _ _) ?_; rintro ee W2 ⟨rfl, hb5⟩; have HB5 : Hid (Below w.heap.size w W2) := below_trans HB1.out hb5; have y0 := below_cell hb5 x0; clear hb5)
      go_ret
      exact ⟨rfl, HB5.out⟩
theorem own_new {w : World} {B n s : Nat} {e : TypeId} {A : Array Value} (hB : B ≤ w.heap.size) (hs : A.size = n * s) (hn : n ≤ maxLen) : (w.alloc (.cells A e)).ownsRow B e s (.slice (some ⟨w.heap.size, 0, none⟩) n n) n A.toList :=
  ⟨by rw [Array.length_toList, hs], Or.inr ⟨w.heap.size, n, A, rfl, hB, heap_new _ _, Nat.le_refl _, hn, hs, by rw [List.take_of_length_le (by rw [Array.length_toList, hs]; exact Nat.le_refl _)]⟩⟩
/-- A language: its grammar, and what is not looked at. -/
def lgv (u : Nat → Value) (v0 v1 v2 : Value) : Value := .agg #[u 0, u 1, v0, v1, v2, u 5, u 6, u 7, u 8, u 9, u 10, u 11]
/-- A token's node. -/
def tkn (Te : List Td) (z lf fr tt : Int) : List Nd := if z == 0 || !itk Te z then [] else [⟨(Te.getD z.toNat tdd).1, !(Te.getD z.toNat tdd).2, ⟨#[]⟩, fr, tt, 0, lf⟩]
set_option maxRecDepth 100000 in
set_option maxHeartbeats 8000000 in
theorem token_any {v0 v1 v2 : Value} {Te : List Td} {Sy : List Sd} {P : List Pd} (u : Nat → Value) (w : World) (h : Gx w v0 v1 v2 Te Sy P) (z lf fr tt : Int) :
    Calls Try.prog 33 #[lgv u v0 v1 v2, .int .i64 z, .int .i64 lf, .int .i64 fr, .int .i64 tt] w fun e w' => ∃ v', e = .returned v' ∧ w'.ownsRow w.heap.size 33 7 v' (tkn Te z lf fr tt).length (flat nf (tkn Te z lf fr tt)) ∧ Below w.heap.size w w' := by
  have HG : Hid (Gx w v0 v1 v2 Te Sy P) := h
  obtain ⟨a0, c0, a1, c1, a2, c2, rfl, rfl, rfl⟩ := h.form
  clear h
  obtain ⟨n0, h0⟩ : ∃ n, Te.length = n := ⟨_, rfl⟩
  obtain ⟨n1, h1⟩ : ∃ n, Sy.length = n := ⟨_, rfl⟩
  obtain ⟨n2, h2⟩ : ∃ n, P.length = n := ⟨_, rfl⟩
  have HN0 : Hid (Te.length = n0) := h0
  rw [h0, h1, h2] at HG
  rw [h0, h1, h2]
  clear h0 h1 h2
  have HK : Hid (∀ W v1 v2, Calls Try.prog 52 #[.agg #[.slice a0 n0 c0, v1, v2], .int .i64 z] W fun e w' => e = .returned (.bool (itk Te z)) ∧ Below W.heap.size W w') := fun W v1 v2 => by rw [← HN0.out]; exact isToken_any a0 c0 v1 v2 Te z W
  unfold lgv
  by_cases hz : z = 0
  · have HE : Hid (tkn Te z lf fr tt = []) := by show _ = _; unfold tkn; rw [hz]; rfl
    rw [HE.out]
    subst hz
    go_enter Try.func33, Try.ntmps33
    go_wp2_with fail
    go_ret
    exact ⟨_, rfl, World.ownsRow_nil _ _ _ _, bel_up _ _⟩
  · have e0 : (z == 0) = false := by rw [beq_eq_false_iff_ne]; exact hz
    cases hh : itk Te z with
    | false =>
      have HE : Hid (tkn Te z lf fr tt = []) := by show _ = _; unfold tkn; rw [hh]; simp
      rw [hh] at HK
      rw [HE.out]
      clear hh HE hz
      go_enter Try.func33, Try.ntmps33
      go_wp2_with (go_at_call 52; refine Calls.mono (HK.out _ _ _) ?_; rintro ee W2 ⟨rfl, hb5⟩; have HB5 : Hid _ := hb5; clear hb5)
      go_ret
      exact ⟨_, rfl, World.ownsRow_nil _ _ _ _, below_trans (bel_up _ _) HB5.out⟩
    | true =>
      rw [hh] at HK
      obtain ⟨p, rfl, hp⟩ := itk_true hh
      have HE : Hid (tkn Te (p : Int) lf fr tt = [⟨(Te.getD p tdd).1, !(Te.getD p tdd).2, ⟨#[]⟩, fr, tt, 0, lf⟩]) := by show _ = _; unfold tkn; rw [hh, e0]; rfl
      rw [HE.out]
      obtain ⟨g, o, rfl, q0, q1⟩ := HG.out.term p hp
      obtain ⟨nm, hnm⟩ : ∃ n, (Te.getD p tdd).1 = n := ⟨_, rfl⟩
      obtain ⟨lt, hlt⟩ : ∃ n, (Te.getD p tdd).2 = n := ⟨_, rfl⟩
      rw [hnm] at q0
      rw [hlt] at q1
      rw [hnm, hlt]
      rw [HN0.out] at hp
      have e3 : (p : Int) < (n0 : Int) := by omega
      have e4 : p < n0 := by omega
      have Q0 : Hid (w.cell? ⟨g, o + p * 2, none⟩ = some (.string nm)) := q0
      have Q1 : Hid (w.cell? ⟨g, o + p * 2 + 1, none⟩ = some (.bool lt)) := q1
      clear hh HE hnm hlt hp q0 q1 HG hz
      obtain ⟨W1, hW1⟩ : ∃ W1, W1 = w.alloc (.cells #[u 0, u 1, .slice (some ⟨g, o, none⟩) n0 c0, .slice a1 n1 c1, .slice a2 n2 c2, u 5, u 6, u 7, u 8, u 9, u 10, u 11] 52) := ⟨_, rfl⟩
      have HB1 : Hid (Below w.heap.size w W1) := by rw [hW1]; exact bel_up _ _
      have HX1 : Hid (W1.heap[w.heap.size]? = some (.cells #[u 0, u 1, .slice (some ⟨g, o, none⟩) n0 c0, .slice a1 n1 c1, .slice a2 n2 c2, u 5, u 6, u 7, u 8, u 9, u 10, u 11] 52 (0, 0))) := by rw [hW1]; exact heap_new _ _
      have x0 := rcell HX1.out 2 _ rfl
      have x1 := rcell HX1.out 3 _ rfl
      have x2 := rcell HX1.out 4 _ rfl
      go_enter Try.func33, Try.ntmps33
      go_upto_region 1 with fail
      rw [← hW1]
      clear hW1
      go_wp2_with (go_at_call 52; refine Calls.mono (HK.out _ _ _) ?_; rintro ee W2 ⟨rfl, hb5⟩; have HB5 : Hid (Below w.heap.size w W2) := below_trans HB1.out hb5; have y0 := below_cell hb5 x0; have y1 := below_cell HB5.out Q0.out; have y2 := below_cell HB5.out Q1.out; clear hb5)
      go_ret
      have h9 := own_new (w := W2.alloc (.cells #[.string nm, .bool lt] 95)) (B := w.heap.size) (n := 1) (s := 7) (e := 33) (A := #[.string nm, .bool !lt, .string ⟨#[]⟩, .int .i64 fr, .int .i64 tt, .int .i64 0, .int .i64 lf]) (by have := HB5.out.size; simp; omega) rfl (by decide)
      rw [show (W2.alloc (.cells #[.string nm, .bool lt] 95)).heap.size = W2.heap.size + 1 from by simp] at h9
      exact ⟨_, rfl, h9, below_trans HB5.out (below_trans (bel_up _ _) (bel_up _ _))⟩
end Go.Proofs.Ytcfmpmhdjkchjaa
