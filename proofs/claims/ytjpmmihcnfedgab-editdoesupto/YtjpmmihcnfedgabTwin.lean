import Derived.Test.YtjpmmihcnfedgabAlls
namespace Go.Proofs.Ytjpmmihcnfedgab
open Go.RowKit

theorem ecells_len (V : List (Int × Int × ByteArray)) : (ecells V).length = V.length * 3 := by
  induction V with
  | nil => rfl
  | cons m M ih => simp only [ecells, List.flatMap_cons, List.length_append, List.length_cons] at *; simp at *; omega
theorem EditsAt.row {w : World} {blk off : Nat} {E : List (Int × Int × ByteArray)} (h : EditsAt w blk off E) (j : Nat) (u : Value) (hu : (ecells E)[j]? = some u) : w.cell? ⟨blk, off + j, none⟩ = some u := by
  have hl : j < (ecells E).length := (List.getElem?_eq_some_iff.1 hu).1
  rw [ecells_len] at hl
  obtain ⟨e, he⟩ : ∃ e, E[j / 3]? = some e := ⟨E[j / 3]'(by omega), List.getElem?_eq_getElem _⟩
  obtain ⟨m0, m1, m2⟩ := h _ _ he
  obtain ⟨k0, k1, k2⟩ := ecells_at E _ _ he
  have hr : j % 3 = 0 ∨ j % 3 = 1 ∨ j % 3 = 2 := by omega
  rcases hr with h | h | h
  · rw [show j / 3 * 3 = j by omega, hu] at k0
    rw [show off + j / 3 * 3 = off + j by omega, ← k0] at m0
    exact m0
  · rw [show j / 3 * 3 + 1 = j by omega, hu] at k1
    rw [show off + j / 3 * 3 + 1 = off + j by omega, ← k1] at m1
    exact m1
  · rw [show j / 3 * 3 + 2 = j by omega, hu] at k2
    rw [show off + j / 3 * 3 + 2 = off + j by omega, ← k2] at m2
    exact m2
theorem own_edits {w : World} {base g cap n : Nat} {V : List (Int × Int × ByteArray)} (h : w.ownsRow base 23 3 (.slice (some ⟨g, 0, none⟩) n cap) n (ecells V)) (hn : n = V.length) : EditsAt w g 0 V := fun i e he => by
  have hi : i < V.length := (List.getElem?_eq_some_iff.1 he).1
  obtain ⟨k0, k1, k2⟩ := ecells_at V i e he
  exact ⟨by rw [Nat.zero_add, h.cellAt _ (by omega)]; exact k0, by rw [Nat.zero_add, h.cellAt _ (by omega)]; exact k1, by rw [Nat.zero_add, h.cellAt _ (by omega)]; exact k2⟩
theorem EditsAt.pre {w : World} {blk off : Nat} {E F : List (Int × Int × ByteArray)} (h : EditsAt w blk off (E ++ F)) : EditsAt w blk off E := fun i e he => h i e (by rw [List.getElem?_append_left (List.getElem?_eq_some_iff.1 he).1]; exact he)

set_option maxRecDepth 1000000 in
set_option maxHeartbeats 2000000 in
theorem twin_any (E : List (Int × Int × ByteArray)) (ad : Addr) (cap : Nat) (w : World) (hE : ∀ j u, (ecells E)[j]? = some u → w.cell? (ad.add j) = some u) (hlen : E.length ≤ 1048576) :
    Calls Try.prog 9 #[.slice (some ad) E.length cap] w fun x w' => ∃ v, x = .returned v ∧ w'.ownsRow w.heap.size 23 3 v E.length (ecells E) ∧ Below w.heap.size w w' := by
  have HE : Hid _ := hE
  clear hE
  obtain ⟨i23, hi23, hz23, hs23, hy23⟩ := info_parts info23
  have hO : Hid (w.ownsRow w.heap.size 23 3 (.slice none 0 0) 0 []) := World.ownsRow_nil _ _ _ _
  go_enter Try.func9, Try.ntmps9
  go_wp2_with (at_builtin; refine wpList_append_own _ rfl (.tmp 4) (.tmp 5) 27 rfl w.heap.size 23 i23 (.agg #[.int .i64 0, .int .i64 0, .string ⟨#[]⟩]) 3 32 Try.underlying27 hi23 hz23 hs23 hy23 rfl (by decide) _ _ _ rfl hO.out ad E.length cap (ecells E) rfl (ecells_len E) ?c1 ?c2 ?c3 ?c4 ?c5 ?_)
  case c1 => exact HE.out
  case c2 =>
    intro y hy
    unfold ecells at hy
    rw [List.mem_flatMap] at hy
    obtain ⟨e, _, hy⟩ := hy
    simp at hy
    rcases hy with rfl | rfl | rfl <;> rfl
  case c3 => unfold maxLen; omega
  case c4 => omega
  case c5 => exact Nat.le_refl _
  intro v1 w8 hown1 hgrow1 _
  have OW : Hid _ := hown1
  have GR : Hid _ := hgrow1
  clear hown1 hgrow1 hO hi23 hz23 hs23 hy23
  go_wp2_with fail
  go_ret
  refine ⟨_, rfl, ?_, ?_⟩
  · exact OW.out
  · exact (Below.refl _ _).grown GR.out (Nat.le_refl _) (fun q hq => by cases hq)

set_option maxRecDepth 1000000 in
set_option maxHeartbeats 2000000 in
theorem twin_nil (w : World) : Calls Try.prog 9 #[.slice none 0 0] w fun x w' => ∃ v, x = .returned v ∧ w'.ownsRow w.heap.size 23 3 v 0 (ecells []) ∧ Below w.heap.size w w' := by
  go_enter Try.func9, Try.ntmps9
  go_wp2_with fail
  go_ret
  exact ⟨_, rfl, World.ownsRow_nil _ _ _ _, Below.refl _ _⟩

theorem addPlain (b o i : Nat) : (⟨b, o, none⟩ : Addr).add i = ⟨b, o + i, none⟩ := by unfold Addr.add; split <;> simp_all
/-- a list of edits, as it is handed over -/
structure Lst (w : World) (lp : Option Addr) (blk off cap : Nat) (E : List (Int × Int × ByteArray)) : Prop where
  ptr : 0 < E.length → lp = some ⟨blk, off, none⟩
  nil : lp = none → E = [] ∧ cap = 0
  at_ : EditsAt w blk off E
theorem Lst.up {w w' : World} {lp : Option Addr} {blk off cap : Nat} {E : List (Int × Int × ByteArray)} (h : Lst w lp blk off cap E) (hb : Below w.heap.size w w') : Lst w' lp blk off cap E := ⟨h.ptr, h.nil, h.at_.up hb⟩
theorem twin_lst (E : List (Int × Int × ByteArray)) (lp : Option Addr) (blk off cap : Nat) (w : World) (h : Lst w lp blk off cap E) (hlen : E.length ≤ 1048576) :
    Calls Try.prog 9 #[.slice lp E.length cap] w fun x w' => ∃ v, x = .returned v ∧ w'.ownsRow w.heap.size 23 3 v E.length (ecells E) ∧ Below w.heap.size w w' := by
  cases lp with
  | none =>
    obtain ⟨h1, h2⟩ := h.nil rfl
    subst h1
    subst h2
    exact twin_nil w
  | some ad =>
    refine twin_any E ad cap w (fun j u hu => ?_) hlen
    have hl : j < (ecells E).length := (List.getElem?_eq_some_iff.1 hu).1
    rw [ecells_len] at hl
    have e := h.ptr (by omega)
    injection e with e
    rw [e, addPlain]
    exact h.at_.row j u hu

theorem cell_six_new (w : World) (a b c d e f : Value) (t : TypeId) : ∀ (j : Nat) (u : Value), [a, b, c, d, e, f][j]? = some u → (w.alloc (.cells #[a, b, c, d, e, f] t)).cell? ((⟨w.heap.size, 0, none⟩ : Addr).add j) = some u := by
  intro j u hu
  rw [addPlain, Nat.zero_add]
  have hj : j < 6 := (List.getElem?_eq_some_iff.1 hu).1
  rw [World.cell?_alloc_at _ _ _ _ (by simp)]
  match j, hj, hu with
  | 0, _, hu => simpa using hu
  | 1, _, hu => simpa using hu
  | 2, _, hu => simpa using hu
  | 3, _, hu => simpa using hu
  | 4, _, hu => simpa using hu
  | 5, _, hu => simpa using hu

abbrev m7 : Int × Int × ByteArray := (-7, 0, ⟨#[]⟩)
abbrev m8 : Int × Int × ByteArray := (-8, 0, ⟨#[]⟩)

/-- a row of edits that is written over -/
structure Kat (W : World) (g n : Nat) (F : Nat → Int × Int × ByteArray) : Prop where
  c : ∀ j, j < n → W.cell? ⟨g, j * 3, none⟩ = some (.int .i64 (F j).1) ∧ W.cell? ⟨g, j * 3 + 1, none⟩ = some (.int .i64 (F j).2.1) ∧ W.cell? ⟨g, j * 3 + 2, none⟩ = some (.string (F j).2.2)
  fr : ∀ o, W.frozen? ⟨g, o, none⟩ = false
theorem Kat.up {W W' : World} {g n : Nat} {F : Nat → Int × Int × ByteArray} (h : Kat W g n F) (hb : Below W.heap.size W W') (hn : 0 < n) : Kat W' g n F :=
  ⟨fun j hj => by
    obtain ⟨h0, h1, h2⟩ := h.c j hj
    exact ⟨below_cell hb h0, below_cell hb h1, below_cell hb h2⟩, fun o => by
    have hl : g < W.heap.size := cell_lt (h.c 0 hn).1
    rw [hb.frozen (p := ⟨g, o, none⟩) hl]
    exact h.fr o⟩
theorem ad_ne {g a b : Nat} (h : a ≠ b) : (⟨g, a, none⟩ : Addr) ≠ ⟨g, b, none⟩ := fun e => h (by injection e)
theorem set_ne {W : World} {g a b : Nat} {v : Value} (h : a ≠ b) : (W.setCell ⟨g, a, none⟩ v).cell? ⟨g, b, none⟩ = W.cell? ⟨g, b, none⟩ := World.cell?_setCell_other _ _ _ _ (ad_ne h)
theorem set_eq {W : World} {g a : Nat} {u v : Value} (h : W.cell? ⟨g, a, none⟩ = some u) : (W.setCell ⟨g, a, none⟩ v).cell? ⟨g, a, none⟩ = some v := World.cell?_setCell_same _ _ _ h
theorem Kat.set {W : World} {g n i : Nat} {F : Nat → Int × Int × ByteArray} (h : Kat W g n F) (hi : i < n) (e : Int × Int × ByteArray) :
    Kat (((W.setCell ⟨g, i * 3, none⟩ (.int .i64 e.1)).setCell ⟨g, i * 3 + 1, none⟩ (.int .i64 e.2.1)).setCell ⟨g, i * 3 + 2, none⟩ (.string e.2.2)) g n (fun j => if j = i then e else F j) := by
  obtain ⟨x0, x1, x2⟩ := h.c i hi
  refine ⟨fun j hj => ?_, fun o => ?_⟩
  · by_cases hji : j = i
    · subst hji
      rw [if_pos rfl]
      refine ⟨?_, ?_, ?_⟩
      · rw [set_ne (by omega), set_ne (by omega)]
        exact set_eq x0
      · rw [set_ne (by omega)]
        exact set_eq (by rw [set_ne (by omega)]; exact x1)
      · exact set_eq (by rw [set_ne (by omega), set_ne (by omega)]; exact x2)
    · rw [if_neg hji]
      obtain ⟨y0, y1, y2⟩ := h.c j hj
      refine ⟨?_, ?_, ?_⟩
      · rw [set_ne (by omega), set_ne (by omega), set_ne (by omega)]; exact y0
      · rw [set_ne (by omega), set_ne (by omega), set_ne (by omega)]; exact y1
      · rw [set_ne (by omega), set_ne (by omega), set_ne (by omega)]; exact y2
  · rw [World.frozen?_setCell, World.frozen?_setCell, World.frozen?_setCell]
    exact h.fr o

end Go.Proofs.Ytjpmmihcnfedgab
