import Derived.Test.YteaanieohcanlaaDoorLbk
import Derived.Test.YteaanieohcanlaaDoorRwf
namespace Go.Proofs.YteaanieohcanlaaDoor
open Go.RowKit Go.Maps

def mrk (i : Nat) : Wd := ⟨0, [], ((900 + i : Nat) : Int), 7⟩
def mks (n : Nat) : List Wd := (List.range n).map mrk
theorem mks_succ (n : Nat) : mks (n + 1) = mks n ++ [mrk n] := by simp [mks, List.range_succ]
theorem mks_len (n : Nat) : (mks n).length = n := by simp [mks]
theorem mks_get (n i : Nat) (h : i < n) : (mks n).getD i w0 = mrk i := by
  rw [List.getD_eq_getElem?_getD, List.getElem?_eq_getElem (by rw [mks_len]; exact h)]
  simp [mks]
theorem row_set {W : World} {B g n cap : Nat} {e : TypeId} {s : Nat} {xs : List Value} (h : W.ownsRow B e s (.slice (some ⟨g, 0, none⟩) n cap) n xs) (k : Nat) (x : Value) : (W.setCell ⟨g, k, none⟩ x).ownsRow B e s (.slice (some ⟨g, 0, none⟩) n cap) n (xs.set k x) := by
  obtain ⟨hl, h1 | ⟨g', cap', cur, e, h1, h2, h3, h4, h5, h6⟩⟩ := h
  · cases h1.1
  · injection e with e1 e2 e3
    injection e1 with e1
    injection e1 with e1
    subst e1 e3
    refine ⟨by rw [List.length_set]; exact hl, .inr ⟨g, cap, _, rfl, h1, blk_set x h2, h3, h4, ?_, ?_⟩⟩
    · simpa using h5
    · rw [← h6, Array.toList_setIfInBounds, List.take_set]
theorem wC_set (l : List Wd) : ∀ (i : Nat) (x : Wd), i < l.length → wC (l.set i x) = ((((wC l).set (i * 4) (.int .i64 x.k)).set (i * 4 + 1) (.string ⟨x.t.toArray⟩)).set (i * 4 + 2) (.int .i64 x.n)).set (i * 4 + 3) (.int .i64 x.a) := by
  induction l with
  | nil => intro i x h; cases h
  | cons m l ih =>
    intro i x h
    cases i with
    | zero => rfl
    | succ i =>
      rw [List.set_cons_succ]
      have hc : ∀ k : List Wd, wC (m :: k) = [Value.int .i64 m.k, .string ⟨m.t.toArray⟩, .int .i64 m.n, .int .i64 m.a] ++ wC k := fun _ => rfl
      rw [hc, hc, ih i x (by simpa using h)]
      have e : ∀ d, (i + 1) * 4 + d = i * 4 + d + 1 + 1 + 1 + 1 := fun d => by omega
      have e0 : (i + 1) * 4 = i * 4 + 1 + 1 + 1 + 1 := by omega
      rw [e 1, e 2, e 3, e0]
      simp only [List.cons_append, List.nil_append, List.set_cons_succ]
/-- A lent list: n words, then the marks. -/
abbrev Lnt (B : Nat) (W : World) (g cap n : Nat) (l : List Wd) : Prop := W.ownsRow B 32 4 (.slice (some ⟨g, 0, none⟩) (n + 20) cap) (n + 20) (wC (l ++ mks 20))
theorem Lnt.rw {B : Nat} {W : World} {g cap : Nat} {l : List Wd} (h : Lnt B W g cap l.length l) : Rw W (.slice (some ⟨g, 0, none⟩) l.length cap) l.length (wC l) := by
  obtain ⟨hl, h1 | ⟨g', cap', cur, e, h1, h2, h3, h4, h5, h6⟩⟩ := h
  · cases h1.1
  · injection e with e1 e2 e3
    injection e1 with e1
    injection e1 with e1
    subst e1 e3
    refine ⟨_, g, 0, cap, rfl, by omega, fun h => (by cases h), fun _ => rfl, fun j u hu => ?_⟩
    rw [Nat.zero_add, Lib.cell_of_heap h2]
    have hj : j < (wC l).length := (List.getElem?_eq_some_iff.1 hu).1
    have hu2 : (wC (l ++ mks 20))[j]? = some u := by rw [wC_app, List.getElem?_append_left hj]; exact hu
    rw [← h6, List.getElem?_take_of_lt (by rw [wC_len] at hj; omega)] at hu2
    simpa using hu2
theorem Lnt.get {B : Nat} {W : World} {g cap : Nat} {l : List Wd} (h : Lnt B W g cap l.length l) (i : Nat) (hi : i < 20) : W.cell? ⟨g, (l.length + i) * 4, none⟩ = some (.int .i64 0) ∧ W.cell? ⟨g, (l.length + i) * 4 + 1, none⟩ = some (.string ⟨#[]⟩) ∧ W.cell? ⟨g, (l.length + i) * 4 + 2, none⟩ = some (.int .i64 ((900 + i : Nat) : Int)) ∧ W.cell? ⟨g, (l.length + i) * 4 + 3, none⟩ = some (.int .i64 7) := by
  have hr := row_rw h
  obtain ⟨a, g', o, cap', e, _, _, h3, h4⟩ := hr
  injection e with e1 e2 e3
  have e4 := h3 (by omega)
  rw [← e1] at e4
  injection e4 with e4
  injection e4 with e5 e6
  subst e5 e6
  obtain ⟨k0, k1, k2, k3⟩ := wC_get (l ++ mks 20) (l.length + i) (by rw [List.length_append, mks_len]; omega)
  have e7 : (l ++ mks 20).getD (l.length + i) w0 = mrk i := by
    rw [← mks_get 20 i hi, List.getD_eq_getElem?_getD, List.getD_eq_getElem?_getD, List.getElem?_append_right (by omega), Nat.add_sub_cancel_left]
  rw [e7] at k0 k1 k2 k3
  have c0 := h4 _ _ k0
  have c1 := h4 _ _ k1
  have c2 := h4 _ _ k2
  have c3 := h4 _ _ k3
  rw [Nat.zero_add] at c0 c1 c2 c3
  exact ⟨c0, c1, c2, c3⟩

end Go.Proofs.YteaanieohcanlaaDoor
