import Derived.Test.YtcfmpmhdjkchjaaThm
import Derived.Test.YtcfmpmhdjkchjaaThy
namespace Go.Proofs.Ytcfmpmhdjkchjaa
open Go.RowKit Go.Maps

/-- The marked lists while they are written over: row i, its nodes from j on as they were, the rows behind it too. -/
structure Iv (w : World) (A : Array Value) (es : List Int) (L : List (Value × List Nd)) (kg n kc : Nat) (EV : Value) (i j : Nat) (RV : Value) (t : List Nd) (W : World) (N : List (Value × List Nd)) : Prop where
  l : N.map (fun x => x.2.length) = L.map (fun x => x.2.length)
  k : Kmy w.heap.size W (.slice (some ⟨kg, 0, none⟩) n kc) N
  d : Kd N
  e : Emy w.heap.size W EV es
  x : W.heap[w.heap.size]? = some (.cells A 52 (0, 0))
  b : Below w.heap.size w W
  il : i < N.length
  r : (N.getD i krd).1 = RV
  tl : (N.getD i krd).2.length = t.length
  o : ∀ p, j ≤ p → p < t.length → (N.getD i krd).2.getD p ndd = t.getD p ndd
  f : ∀ k, i < k → k < L.length → (N.getD k krd).2 = (L.getD k krd).2
theorem Iv.put {w : World} {A : Array Value} {es : List Int} {L : List (Value × List Nd)} {kg n kc : Nat} {EV : Value} {i j0 : Nat} {g nn cap : Nat} {t : List Nd} {W : World} {N : List (Value × List Nd)} (h : Iv w A es L kg n kc EV i j0 (.slice (some ⟨g, 0, none⟩) nn cap) t W N) {j c : Nat} (hj : j < t.length) (hj0 : j0 ≤ j + 1) (hc : c < 7) (u : Value) {x : Nd} (hx : (N.getD i krd).2.getD j ndd = x) (y : Nd) (hy : nf y = (nf x).set c u) :
    ∃ N', Iv w A es L kg n kc EV i (j + 1) (.slice (some ⟨g, 0, none⟩) nn cap) t (W.setCell ⟨g, j * 7 + c, none⟩ u) N' ∧ (N'.getD i krd).2.getD j ndd = y := by
  have hjl : j < (N.getD i krd).2.length := by rw [h.tl]; exact hj
  obtain ⟨h1, h2⟩ := h.k.put h.d h.il h.r rfl hjl hc u y (by rw [hx]; exact hy)
  obtain ⟨_, _, _, _, _, h3⟩ := h.k
  have hr := h3 _ (getD_mem N krd i h.il)
  rw [h.r] at hr
  obtain ⟨g', cur, e1, e2, e3⟩ := hr.blk
  cases e1
  have hgi : (N.set i ((N.getD i krd).1, (N.getD i krd).2.set j y)).getD i krd = ((N.getD i krd).1, (N.getD i krd).2.set j y) := by rw [setk_getD N i i _ h.il, if_pos rfl]
  refine ⟨_, ⟨?_, h1, h2, ?_, ?_, h.b.setCell (p := ⟨g, j * 7 + c, none⟩) e2 _, ?_, ?_, ?_, ?_, ?_⟩, ?_⟩
  · rw [set_lens N i _ _ h.il (by rw [List.length_set])]; exact h.l
  · obtain ⟨a, b, e, q1, q2⟩ := h.e
    exact ⟨a, b, e, q1, q2.kept grown_set (.inr (tag_ne_blk q2 e3 (by decide)))⟩
  · rw [(grown_set (W := W) (b := g) (k := j * 7 + c) (v := u)).block _ (lt_of_heap h.x) (fun e => by cases e; rw [h.x] at e3; cases e3)]
    exact h.x
  · rw [List.length_set]; exact h.il
  · rw [hgi]; exact h.r
  · rw [hgi]; show (List.set _ _ _).length = _; rw [List.length_set]; exact h.tl
  · intro p hp hpt
    rw [hgi]
    show (List.set _ _ _).getD p ndd = _
    rw [List.getD_eq_getElem?_getD, List.getElem?_set_ne (by omega), ← List.getD_eq_getElem?_getD]
    exact h.o p (by omega) hpt
  · intro k hk hkl
    rw [setk_getD N i k _ h.il, if_neg (by omega)]
    exact h.f k hk hkl
  · rw [hgi]
    show (List.set _ _ _).getD j ndd = _
    rw [List.getD_eq_getElem?_getD, List.getElem?_set_self hjl]
    rfl
theorem Iv.cells {w : World} {A : Array Value} {es : List Int} {L : List (Value × List Nd)} {kg n kc : Nat} {EV : Value} {i j0 : Nat} {g nn cap : Nat} {t : List Nd} {W : World} {N : List (Value × List Nd)} (h : Iv w A es L kg n kc EV i j0 (.slice (some ⟨g, 0, none⟩) nn cap) t W N) {j : Nat} (hj : j < t.length) {x : Nd} (hx : (N.getD i krd).2.getD j ndd = x) :
    W.cell? ⟨kg, i, none⟩ = some (.slice (some ⟨g, 0, none⟩) nn cap) ∧ W.cell? ⟨g, j * 7, none⟩ = some (.string x.nm) ∧ W.cell? ⟨g, j * 7 + 4, none⟩ = some (.int .i64 x.tt) ∧ (∀ k, W.frozen? ⟨g, k, none⟩ = false) ∧ W.cell? ⟨g, j * 7 + 2, none⟩ = some (.string x.fd) := by
  have hjl : j < (N.getD i krd).2.length := by rw [h.tl]; exact hj
  obtain ⟨g1, o1, b1, c1, f1, f2, f3, f4⟩ := h.k.kr.at i h.il
  cases f1
  rw [← f2, h.r, Nat.zero_add] at f3
  obtain ⟨_, _, _, _, _, h3⟩ := h.k
  have hr := h3 _ (getD_mem N krd i h.il)
  rw [h.r] at hr
  obtain ⟨g', cap', e0, q1, q2⟩ := hr
  cases e0
  have hgd : ((N.getD i krd).2 ++ [m71, m72]).getD j ndd = x := by rw [List.getD_eq_getElem?_getD, List.getElem?_append_left hjl, ← List.getD_eq_getElem?_getD]; exact hx
  have key : ∀ c v, c < 7 → (nf x)[c]? = some v → W.cell? ⟨g, j * 7 + c, none⟩ = some v := fun c v hc hv => by
    refine row_at q2 (j * 7 + c) _ ?_
    rw [flat_get nf_len ndd _ j c (by rw [List.length_append]; omega) hc, hgd]
    exact hv
  exact ⟨f3, key 0 _ (by decide) rfl, key 4 _ (by decide) rfl, fun k => row_froz q2 k, key 2 _ (by decide) rfl⟩
theorem Iv.up {w : World} {A : Array Value} {es : List Int} {L : List (Value × List Nd)} {kg n kc : Nat} {EV : Value} {i j : Nat} {RV : Value} {t : List Nd} {W W' : World} {N : List (Value × List Nd)} (h : Iv w A es L kg n kc EV i j RV t W N) (hb : Below W.heap.size W W') : Iv w A es L kg n kc EV i j RV t W' N :=
  ⟨h.l, h.k.up hb, h.d, h.e.up hb, by rw [hb.block _ (lt_of_heap h.x)]; exact h.x, below_trans h.b hb, h.il, h.r, h.tl, h.o, h.f⟩
theorem Iv.cell0 {w : World} {A : Array Value} {es : List Int} {L : List (Value × List Nd)} {kg n kc : Nat} {EV : Value} {i j : Nat} {RV : Value} {t : List Nd} {W : World} {N : List (Value × List Nd)} (h : Iv w A es L kg n kc EV i j RV t W N) : W.cell? ⟨kg, i, none⟩ = some RV := by
  obtain ⟨g1, o1, b1, c1, f1, f2, f3, f4⟩ := h.k.kr.at i h.il
  cases f1
  rw [← f2, h.r, Nat.zero_add] at f3
  exact f3
theorem Iv.ne {w : World} {A : Array Value} {es : List Int} {L : List (Value × List Nd)} {kg n kc : Nat} {EV : Value} {i j g nn cap : Nat} {t : List Nd} {W : World} {N : List (Value × List Nd)} (h : Iv w A es L kg n kc EV i j (.slice (some ⟨g, 0, none⟩) nn cap) t W N) : g ≠ kg := by
  obtain ⟨g1, c1, e1, _, h2, h3⟩ := h.k
  cases e1
  have hr := h3 _ (getD_mem N krd i h.il)
  rw [h.r] at hr
  obtain ⟨g', cur, f1, f2, f3⟩ := hr.blk
  cases f1
  intro e
  subst e
  exact tag_ne_blk h2 f3 (by decide) rfl
end Go.Proofs.Ytcfmpmhdjkchjaa
