import Derived.Test.YtkaciochlemjiabRsc
namespace Go.Proofs.Ytkaciochlemjiab
open Go.RowKit Go.Maps

/-- What the reference's Do answers. -/
def Ral (w : World) (r : Except Int Stt) (e : Ending) (w' : World) : Prop :=
  Below w.heap.size w w' ∧ ((∃ t vi vq vf, r = .ok t ∧ e = .returned (.tuple #[sv vi vq vf t, .int .i64 0]) ∧ Stl w.heap.size w' vi vq vf t) ∨ ∃ c, r = .error c ∧ e = .returned (.tuple #[zV, .int .i64 c]))
theorem Rwl.take {lo : Nat} {W : World} {a : Option Addr} {n cap m : Nat} {cs : List Value} (sz : Nat) (h : Rwl lo W (.slice a n cap) n cs) (hm : m ≤ n) : Rwl lo W (.slice a m cap) m (cs.take (m * sz)) := by
  obtain ⟨a', g, o, cap', e, h2, h3, h4, h5⟩ := h
  obtain ⟨rfl, -, rfl⟩ := Value.slice.inj e
  refine ⟨a, g, o, cap, rfl, by omega, fun ha => ⟨by have := (h3 ha).1; omega, (h3 ha).2⟩, fun hp => h4 (by omega), fun j u hu => h5 j u ?_⟩
  rw [List.getElem?_take] at hu
  split at hu
  · exact hu
  · cases hu
theorem Rwl.drop1 {lo : Nat} {W : World} {g o n cap cap' : Nat} {cs : List Value} (h : Rwl lo W (.slice (some ⟨g, o, none⟩) n cap) n cs) (hn : 0 < n) (hc : n - 1 ≤ cap') : Rwl lo W (.slice (some ⟨g, o + 1, none⟩) (n - 1) cap') (n - 1) (cs.drop 1) := by
  obtain ⟨a', g', o', cap1, e, h2, h3, h4, h5⟩ := h
  obtain ⟨e1, -, rfl⟩ := Value.slice.inj e
  obtain ⟨h6, h7⟩ := h4 hn
  rw [← e1] at h6
  have h8 := Option.some.inj h6
  have eg : g = g' := congrArg Addr.block h8
  have eo : o = o' := congrArg Addr.off h8
  subst eg eo
  refine ⟨_, g, o + 1, _, rfl, hc, fun h => (by cases h), fun _ => ⟨rfl, h7⟩, fun j u hu => ?_⟩
  rw [List.getElem?_drop] at hu
  have := h5 (1 + j) u hu
  rw [show o + 1 + j = o + (1 + j) by omega]
  exact this
theorem cell_eq {W W' : World} {g k : Nat} (h : W'.heap[g]? = W.heap[g]?) : W'.cell? ⟨g, k, none⟩ = W.cell? ⟨g, k, none⟩ := by
  unfold World.cell?
  rw [h]
/-- Blocks from one on stay. -/
def Kab (lo : Nat) (W W' : World) : Prop := ∀ g, lo ≤ g → g < W.heap.size → W'.heap[g]? = W.heap[g]?
theorem Rwl.kab {lo : Nat} {W W' : World} {v : Value} {n : Nat} {cs : List Value} (h : Rwl lo W v n cs) (hk : Kab lo W W') (hn0 : n = 0 → cs = []) : Rwl lo W' v n cs := by
  obtain ⟨a, g, o, cap, h1, h2, h3, h4, h5⟩ := h
  refine ⟨a, g, o, cap, h1, h2, h3, h4, fun j u hu => ?_⟩
  have hn : 0 < n := by
    rcases Nat.eq_zero_or_pos n with hz | hz
    · rw [hn0 hz] at hu; simp at hu
    · exact hz
  rw [cell_eq (hk g (h4 hn).2 (cell_lt (h5 j u hu)))]
  exact h5 j u hu
theorem Stl.kab {lo : Nat} {W W' : World} {vi vq vf : Value} {s : Stt} (h : Stl lo W vi vq vf s) (hk : Kab lo W W') : Stl lo W' vi vq vf s :=
  ⟨h.i.kab hk (fun e => by rw [List.length_eq_zero_iff.1 e]; rfl), h.q.kab hk (fun e => by rw [List.length_eq_zero_iff.1 e]; rfl), h.f.kab hk (fun e => by rw [List.length_eq_zero_iff.1 e]; rfl)⟩
theorem kab_five {lo b : Nat} {W : World} {v0 v1 v2 v3 v4 : Value} (hb : b < lo) : Kab lo W (five W b v0 v1 v2 v3 v4) := fun g hg _ => by
  show ((((W.setCell ⟨b, 0, none⟩ v0).setCell ⟨b, 1, none⟩ v1).setCell ⟨b, 2, none⟩ v2).setCell ⟨b, 3, none⟩ v3 |>.setCell ⟨b, 4, none⟩ v4).heap[g]? = _
  rw [Below.heap_setCell _ _ _ _ (by show g ≠ b; omega), Below.heap_setCell _ _ _ _ (by show g ≠ b; omega), Below.heap_setCell _ _ _ _ (by show g ≠ b; omega), Below.heap_setCell _ _ _ _ (by show g ≠ b; omega), Below.heap_setCell _ _ _ _ (by show g ≠ b; omega)]
theorem stl_takeI {lo W} {a : Option Addr} {y q : Nat} {vq vf : Value} {s t : Stt} (h : Own lo W (.slice a s.ind.length y) vq vf s) (hq : s.ind.length = q + 1) (h1 : t.ind = s.ind.take (s.ind.length - 1)) (h2 : t.que = s.que) (h3 : t.frm = s.frm) : Stl lo W (.slice a q y) vq vf t := by
  have hi := (row_rwl h.i (by omega)).take (m := q) 1 (by omega)
  rw [← iC_take] at hi
  have e : t.ind = s.ind.take q := by rw [h1, hq]; rfl
  refine ⟨?_, by rw [h2]; exact h.stl.q, by rw [h3]; exact h.stl.f⟩
  rw [e, show (s.ind.take q).length = q by rw [List.length_take]; omega]
  exact hi
theorem stl_takeF {lo W} {a : Option Addr} {y q : Nat} {vi vq : Value} {s t : Stt} (h : Own lo W vi vq (.slice a s.frm.length y) s) (hq : s.frm.length = q + 1) (h1 : t.frm = s.frm.take (s.frm.length - 1)) (h2 : t.que = s.que) (h3 : t.ind = s.ind) : Stl lo W vi vq (.slice a q y) t := by
  have hi := (row_rwl h.f (by omega)).take (m := q) 2 (by omega)
  rw [← fC_take] at hi
  have e : t.frm = s.frm.take q := by rw [h1, hq]; rfl
  refine ⟨by rw [h3]; exact h.stl.i, by rw [h2]; exact h.stl.q, ?_⟩
  rw [e, show (s.frm.take q).length = q by rw [List.length_take]; omega]
  exact hi
theorem stl_dropQ {lo W} {g o y y' q : Nat} {vi vf : Value} {s t : Stt} (h : Own lo W vi (.slice (some ⟨g, o, none⟩) s.que.length y) vf s) (hq : s.que.length = q + 1) (hy : q ≤ y') (h1 : t.que = s.que.drop 1) (h2 : t.ind = s.ind) (h3 : t.frm = s.frm) : Stl lo W vi (.slice (some ⟨g, o + 1, none⟩) q y') vf t := by
  have hi := (row_rwl h.q (by omega)).drop1 (cap' := y') (by omega) (by omega)
  rw [show s.que.length - 1 = q by omega] at hi
  refine ⟨by rw [h2]; exact h.stl.i, ?_, by rw [h3]; exact h.stl.f⟩
  rw [h1, show (s.que.drop 1).length = q by rw [List.length_drop]; omega, show qC (s.que.drop 1) = (qC s.que).drop 1 by simp [qC]]
  exact hi
end Go.Proofs.Ytkaciochlemjiab
