import Derived.Test.YtcfmpmhdjkchjaaTpx
import Derived.Test.YtcfmpmhdjkchjaaTlw
namespace Go.Proofs.Ytcfmpmhdjkchjaa
open Go.RowKit Go.Maps

theorem sq_next : ∀ {lo hi : Int} {l : List (Int × Int)} (i : Nat) {x y : Int × Int}, sq lo l hi → l[i]? = some x → l[i + 1]? = some y → x.2 ≤ y.1
  | _, _, [], _, _, _, _, h, _ => by cases h
  | _, _, [_], 0, _, _, _, _, h => by cases h
  | _, _, _ :: b :: l, 0, x, y, h, hx, hy => by
    cases hx
    have : b = y := by simpa using hy
    subst this
    exact h.2.2.1
  | _, _, _ :: l, i + 1, x, y, h, hx, hy => sq_next (l := l) i h.2.2 (by simpa using hx) (by simpa using hy)
theorem kys_getN (t : List Nd) (j : Nat) (k a b : Int) (h : (kys t)[j]? = some (k, a, b)) : j < t.length ∧ (t.getD j ndd).kd = k ∧ (t.getD j ndd).fr = a ∧ (t.getD j ndd).tt = b := by
  unfold kys at h
  rw [List.getElem?_map] at h
  cases hj : t[j]? with
  | none => rw [hj] at h; cases h
  | some x =>
    rw [hj] at h
    injection h with h
    injection h with h1 h2
    injection h2 with h2 h3
    rw [List.getD_eq_getElem?_getD, hj]
    exact ⟨(List.getElem?_eq_some_iff.1 hj).1, h1, h2, h3⟩
/-- A node's place, its children's. -/
structure Na (t : List Nd) (a : Nat) : Prop where
  p : (t.getD a ndd).fr ≤ (t.getD a ndd).tt
  k : (t.getD a ndd).kd = (kA (kds t) a : Int)
  f : 0 < kA (kds t) a → (t.getD (wA (kds t) (a + 1) 0) ndd).fr = (t.getD a ndd).fr
  l : 0 < kA (kds t) a → (t.getD (wA (kds t) (a + 1) (kA (kds t) a - 1)) ndd).tt = (t.getD a ndd).tt
  n : ∀ i, i + 1 < kA (kds t) a → (t.getD (wA (kds t) (a + 1) i) ndd).tt ≤ (t.getD (wA (kds t) (a + 1) (i + 1)) ndd).fr
  c : ∀ i, i < kA (kds t) a → wA (kds t) (a + 1) i < t.length
theorem kds_drop (t : List Nd) (a : Nat) : ((kys t).drop a).map (·.1) = (kds t).drop a := by rw [List.map_drop, kys_kds]
theorem Sp.na {t : List Nd} {rs : List (Int × Int)} (h : Sp (kys t) rs) (a : Nat) (ha : a < t.length) : Na t a := by
  obtain ⟨qs, hd⟩ := Sp.drop _ _ a h
  have hl : a < (kys t).length := by unfold kys; rw [List.length_map]; exact ha
  rw [List.drop_eq_getElem_cons hl] at hd
  obtain ⟨ks, q2, h1, h2, h3, _⟩ := hd.tail
  obtain ⟨x, hx⟩ : ∃ x, (kys t)[a] = x := ⟨_, rfl⟩
  rw [hx] at h2 h3
  obtain ⟨k0, f0, t0⟩ := x
  obtain ⟨_, e1, e2, e3⟩ := kys_getN t a k0 f0 t0 (by rw [List.getElem?_eq_getElem hl, hx])
  dsimp only at h2 h3
  have hk : kA (kds t) a = ks.length := by
    unfold kA
    have : (kds t).getD a 0 = (t.getD a ndd).kd := by
      unfold kds
      rw [List.getD_eq_getElem?_getD, List.getElem?_map, List.getD_eq_getElem?_getD, List.getElem?_eq_getElem ha]
      rfl
    rw [this, e1, h2]; simp
  have sp : ∀ i r, ks[i]? = some r → wA (kds t) (a + 1) i < t.length ∧ (t.getD (wA (kds t) (a + 1) i) ndd).fr = r.1 ∧ (t.getD (wA (kds t) (a + 1) i) ndd).tt = r.2 := fun i r hr => by
    obtain ⟨k, hk⟩ := Sp.root _ _ i r h1 (by rw [List.getElem?_append_left (List.getElem?_eq_some_iff.1 hr).1]; exact hr)
    rw [kds_drop, List.getElem?_drop] at hk
    have e := kys_getN t _ k r.1 r.2 hk
    unfold wA
    exact ⟨e.1, e.2.2.1, e.2.2.2⟩
  have hne : 0 < ks.length → ks ≠ [] := fun h0 e => by rw [e] at h0; cases h0
  refine ⟨by rw [e2, e3]; exact h3.1, by rw [e1, h2, hk], fun h0 => ?_, fun h0 => ?_, fun i hi => ?_, fun i hi => ?_⟩
  · rw [hk] at h0
    obtain ⟨⟨e, r, hks⟩, _, _⟩ := h3.2 (hne h0)
    rw [(sp 0 (f0, e) (by rw [hks]; rfl)).2.1, e2]
  · rw [hk] at h0 ⊢
    obtain ⟨_, ⟨b, q, hks⟩, _⟩ := h3.2 (hne h0)
    have : ks[ks.length - 1]? = some (b, t0) := by rw [hks, List.length_append]; simp
    rw [(sp _ _ this).2.2, e3]
  · rw [hk] at hi
    obtain ⟨_, _, hs⟩ := h3.2 (hne (by omega))
    have g1 : ks[i]? = some ks[i] := List.getElem?_eq_getElem (by omega)
    have g2 : ks[i + 1]? = some ks[i + 1] := List.getElem?_eq_getElem hi
    rw [(sp _ _ g1).2.2, (sp _ _ g2).2.1]
    exact sq_next i hs g1 g2
  · rw [hk] at hi
    exact (sp _ _ (List.getElem?_eq_getElem hi)).1
/-- Roots one behind the other. -/
theorem Sp.nr {t : List Nd} {rs : List (Int × Int)} {lo hi : Int} (h : Sp (kys t) rs) (hs : sq lo rs hi) (i : Nat) (hi' : i + 1 < rA (kds t) 0) : (t.getD (wA (kds t) 0 i) ndd).tt ≤ (t.getD (wA (kds t) 0 (i + 1)) ndd).fr ∧ wA (kds t) 0 i < t.length := by
  have hr : rA (kds t) 0 = rs.length := Fo.top h.fo
  rw [hr] at hi'
  have sp : ∀ j, j < rs.length → wA (kds t) 0 j < t.length ∧ (t.getD (wA (kds t) 0 j) ndd).fr = (rs.getD j (0, 0)).1 ∧ (t.getD (wA (kds t) 0 j) ndd).tt = (rs.getD j (0, 0)).2 := fun j hj => by
    obtain ⟨k, hk⟩ := Sp.root _ _ j _ h (List.getElem?_eq_getElem hj)
    rw [kys_kds] at hk
    have e := kys_getN t _ k _ _ hk
    unfold wA
    rw [List.drop_zero, Nat.zero_add, List.getD_eq_getElem?_getD (l := rs), List.getElem?_eq_getElem hj]
    exact ⟨e.1, e.2.2.1, e.2.2.2⟩
  obtain ⟨g1, g2, g3⟩ := sp i (by omega)
  obtain ⟨f1, f2, f3⟩ := sp (i + 1) hi'
  refine ⟨?_, g1⟩
  rw [g3, f2, List.getD_eq_getElem?_getD, List.getElem?_eq_getElem (by omega), List.getD_eq_getElem?_getD, List.getElem?_eq_getElem hi']
  exact sq_next i hs (List.getElem?_eq_getElem (by omega)) (List.getElem?_eq_getElem hi')
/-- The last root ahead of a place. -/
def lrt (l : List Int) (r : Nat) : Int := if r = 0 then -1 else ((wA l 0 (r - 1) : Nat) : Int)
theorem Ri.next {l : List Int} (h : Fo l) {i r : Nat} (hi : i < l.length) (hr : Ri l i r) : (pl l i = -1 ∧ Ri l (i + 1) (r + 1) ∧ wA l 0 r = i ∧ r < rA l 0) ∨ (pl l i ≠ -1 ∧ Ri l (i + 1) r) := by
  rcases Ri.step h hi hr with ⟨h1, h2⟩ | h1
  · have g1 := h2.2.2 r (by omega)
    have g2 := hr.2.1
    exact .inl ⟨h1, h2, by omega, h2.1⟩
  · exact .inr h1
end Go.Proofs.Ytcfmpmhdjkchjaa
