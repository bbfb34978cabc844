import Derived.Test.YtkaciochlemjiabTww
import Derived.Test.YtkaciochlemjiabRsd
import Derived.ArgAppend
import Derived.OwnWalk
namespace Go.Proofs.Ytkaciochlemjiab
open Go.RowKit Go.Maps

/-- A slice that goes on where another ends, or elsewhere. -/
structure Lcl (B : Nat) (w0 W : World) (e : TypeId) (size : Nat) (vo : Value) (n : Nat) (xo : List Value) (v : Value) (k : Nat) : Prop where
  own : ∃ xs, W.ownsRow B e size v k xs ∧ ∀ g, v.ownBlock = some g → vo.ownBlock = some g → xo = xs.take (n * size) ∧ ∃ cap, v = .slice (some ⟨g, 0, none⟩) k cap ∧ vo = .slice (some ⟨g, 0, none⟩) n cap
  orig : W.ownsRow B e size vo n xo
  le : n ≤ k
  nw : ∀ g, v.ownBlock = some g → vo.ownBlock = some g ∨ w0.heap.size ≤ g
theorem Lcl.init {B : Nat} {w0 W : World} {e : TypeId} {size : Nat} {vo : Value} {n : Nat} {xo : List Value} (h : W.ownsRow B e size vo n xo) : Lcl B w0 W e size vo n xo vo n := by
  refine ⟨⟨xo, h, fun g hg _ => ⟨(List.take_of_length_le (by rw [h.1]; exact Nat.le_refl _)).symm, ?_⟩⟩, h, Nat.le_refl _, fun g hg => Or.inl hg⟩
  rcases h.2 with ⟨rfl, _⟩ | ⟨g', cap, cur, rfl, _⟩
  · cases hg
  · cases hg; exact ⟨cap, rfl, rfl⟩
theorem Lcl.kept {B : Nat} {w0 W W' : World} {e e' : TypeId} {size size' k' : Nat} {vo v v' : Value} {n k : Nat} {xo xs' : List Value} (h : Lcl B w0 W e size vo n xo v k) (hr : W.ownsRow B e' size' v' k' xs') (hne : e ≠ e') (hg : W.grownBy W' v'.ownBlock) : Lcl B w0 W' e size vo n xo v k := by
  obtain ⟨xs, h1, h2⟩ := h.own
  exact ⟨⟨xs, h1.kept hg (tag_ne h1 hr hne), h2⟩, h.orig.kept hg (tag_ne h.orig hr hne), h.le, h.nw⟩
theorem Lcl.up {B : Nat} {w0 W W' : World} {e : TypeId} {size : Nat} {vo v : Value} {n k : Nat} {xo : List Value} (h : Lcl B w0 W e size vo n xo v k) (hb : Below W.heap.size W W') : Lcl B w0 W' e size vo n xo v k := by
  obtain ⟨xs, h1, h2⟩ := h.own
  exact ⟨⟨xs, row_up h1 hb, h2⟩, row_up h.orig hb, h.le, h.nw⟩
theorem row_low {W : World} {B : Nat} {e : TypeId} {size n k g cap : Nat} {xs : List Value} (h : W.ownsRow B e size (.slice (some ⟨g, 0, none⟩) k cap) k xs) (hn : n ≤ k) : W.ownsRow B e size (.slice (some ⟨g, 0, none⟩) n cap) n (xs.take (n * size)) := by
  have hl := h.1
  refine ⟨by rw [List.length_take, hl]; exact Nat.min_eq_left (Nat.mul_le_mul_right _ hn), ?_⟩
  rcases h.2 with ⟨h0, _⟩ | ⟨g', cap', cur, h0, h1, h2, h3, h4, h5, h6⟩
  · cases h0
  · obtain ⟨e1, -, rfl⟩ := Value.slice.inj h0
    obtain rfl : g' = g := by simpa using (Option.some.inj e1).symm
    refine Or.inr ⟨g', cap, cur, rfl, h1, h2, by omega, h4, h5, ?_⟩
    rw [← h6, List.take_take, Nat.min_eq_left (Nat.mul_le_mul_right _ hn)]
/-- An append to such a slice: what it came of stays. -/
theorem wpList_append_lcl {P : Program} (W : World) {ops : Array Oper} {rest : List Oper} {o : Oper} {a : Act} {Q : Exit → Act → World → Prop}
    (hg : o.guard = none) (s x : Operand) (t : TypeId) (hop : o.op = Op.call { callee := Callee.builtin Builtin.append, args := #[s, x], argTypes := #[t, t] })
    (e : TypeId) (i : TypeInfo) (z : Value) (size bytes : Nat) (h1 : P.underlying t = some (.slice e)) (h2 : P.info? e = some i) (h3 : i.zero = some z) (h4 : i.size = size) (h5 : i.bytes = bytes) (h6 : z.cells.size = size) (h7 : 0 < size)
    (B : Nat) (w0 : World) (vo v : Value) (n k : Nat) (xo : List Value) (hs : a.eval s = v) (hL : Lcl B w0 W e size vo n xo v k) (hB : B ≤ W.heap.size) (hw0 : w0.heap.size ≤ W.heap.size)
    (ad : Addr) (c : Nat) (news : List Value) (hx : a.eval x = .slice (some ad) 1 c) (hn : news.length = 1 * size) (hc : ∀ j u, news[j]? = some u → W.cell? (ad.add j) = some u) (h1c : ∀ u ∈ news, u.oneCell' = true)
    (b1 : k + 1 ≤ maxLen) (b2 : (k + 1) * bytes ≤ 140737488355328)
    (hK : ∀ v' w', Lcl B w0 w' e size vo n xo v' (k + 1) → (∃ xs, W.ownsRow B e size v k xs) → W.grownBy w' v.ownBlock → wpList P ops Q rest (a.put o.dst v') w') :
    wpList P ops Q (o :: rest) a W := by
  obtain ⟨xs, ho, hcn⟩ := hL.own
  have hlen := ho.1
  rcases ho.2 with ⟨rfl, rfl⟩ | ⟨g, cap, cur, rfl, hb, hh, hkc, hcm, hsz, htk⟩
  · have hxs : xs = [] := List.length_eq_zero_iff.1 (by rw [hlen]; omega)
    subst hxs
    have hn0 : n = 0 := by have := hL.le; omega
    refine wpList_append_grows W hg s x t hop e i z size bytes h1 h2 h3 h4 h5 h6 h7 none 0 0 [] hs (fun _ => ⟨rfl, rfl⟩) (by simp) (fun b hb => by cases hb) ad 1 c news hx hn hc h1c (by omega) b1 b2 (fun v' w' r1 r2 => ?_)
    refine hK v' w' ⟨⟨_, row_base r1 hB, fun g hg1 hg2 => ?_⟩, hL.orig.kept r2 (by cases vo.ownBlock <;> simp), by omega, fun g hg1 => Or.inr ?_⟩ ⟨[], ho⟩ (by exact r2)
    · have h8 := (row_tag r1 g hg1).1
      obtain ⟨_, _, h9⟩ := row_tag hL.orig g hg2
      have := lt_of_heap h9
      omega
    · exact Nat.le_trans hw0 (row_tag r1 g hg1).1
  · by_cases hfit : k + 1 ≤ cap
    · refine wpList_append_fits W hg s x t hop B e i size h1 h2 h4 g k cap xs hs ho ad 1 c news hx hn hc h1c hfit (fun w' r1 r2 => ?_)
      refine hK _ w' ⟨⟨_, r1, fun g' hg1 hg2 => ?_⟩, ?_, by have := hL.le; omega, fun g' hg1 => ?_⟩ ⟨xs, ho⟩ r2
      · cases hg1
        obtain ⟨q1, cap2, q2, q3⟩ := hcn g rfl hg2
        obtain ⟨-, -, rfl⟩ := Value.slice.inj q2
        refine ⟨?_, cap, rfl, q3⟩
        rw [List.take_append_of_le_length (by rw [hlen]; exact Nat.mul_le_mul_right _ hL.le)]
        exact q1
      · by_cases hv : vo.ownBlock = some g
        · obtain ⟨q1, cap2, q2, q3⟩ := hcn g rfl hv
          obtain ⟨-, -, rfl⟩ := Value.slice.inj q2
          have := row_low r1 (n := n) (by have := hL.le; omega)
          rw [List.take_append_of_le_length (by rw [hlen]; exact Nat.mul_le_mul_right _ hL.le), ← q1, ← q3] at this
          exact this
        · exact hL.orig.kept r2 (Or.inr hv)
      · cases hg1
        exact hL.nw g rfl
    · refine wpList_append_grows W hg s x t hop e i z size bytes h1 h2 h3 h4 h5 h6 h7 (some ⟨g, 0, none⟩) k cap xs hs (fun h => by cases h) hlen (fun b hb2 j u hu => ?_) ad 1 c news hx hn hc h1c (by omega) b1 b2 (fun v' w' r1 r2 => ?_)
      · cases hb2
        rw [addPl, Nat.zero_add]
        exact row_at ho j u hu
      · refine hK v' w' ⟨⟨_, row_base r1 hB, fun g' hg1 hg2 => ?_⟩, hL.orig.kept r2 (by cases vo.ownBlock <;> simp), by have := hL.le; omega, fun g' hg1 => Or.inr ?_⟩ ⟨xs, ho⟩ (r2.but _)
        · have h8 := (row_tag r1 g' hg1).1
          obtain ⟨_, _, h9⟩ := row_tag hL.orig g' hg2
          have := lt_of_heap h9
          omega
        · exact Nat.le_trans hw0 (row_tag r1 g' hg1).1
/-- Nothing but the blocks of three rows has turned. -/
structure Cho (w W : World) (vi vq vf : Value) : Prop where
  os : W.os = w.os
  tape : W.tape = w.tape
  output : W.output = w.output
  size : w.heap.size ≤ W.heap.size
  block : ∀ j, j < w.heap.size → vi.ownBlock ≠ some j → vq.ownBlock ≠ some j → vf.ownBlock ≠ some j → W.heap[j]? = w.heap[j]?
theorem Cho.refl (w : World) (vi vq vf : Value) : Cho w w vi vq vf := ⟨rfl, rfl, rfl, Nat.le_refl _, fun _ _ _ _ _ => rfl⟩
theorem Cho.up {w W W' : World} {vi vq vf : Value} (h : Cho w W vi vq vf) (hb : Below W.heap.size W W') : Cho w W' vi vq vf :=
  ⟨hb.os.trans h.os, hb.tape.trans h.tape, hb.output.trans h.output, Nat.le_trans h.size hb.size, fun j hj a b c => (hb.block j (Nat.lt_of_lt_of_le hj h.size)).trans (h.block j hj a b c)⟩
theorem Cho.grown {w W W' : World} {vi vq vf v : Value} (h : Cho w W vi vq vf) (hg : W.grownBy W' v.ownBlock) (hv : ∀ g, v.ownBlock = some g → (vi.ownBlock = some g ∨ vq.ownBlock = some g ∨ vf.ownBlock = some g) ∨ w.heap.size ≤ g) : Cho w W' vi vq vf :=
  ⟨hg.os.trans h.os, hg.tape.trans h.tape, hg.output.trans h.output, Nat.le_trans h.size hg.size, fun j hj a b c => (hg.block j (Nat.lt_of_lt_of_le hj h.size) (fun e => by
    rcases hv j e.symm with (h1 | h1 | h1) | h1
    · exact a h1
    · exact b h1
    · exact c h1
    · omega)).trans (h.block j hj a b c)⟩
end Go.Proofs.Ytkaciochlemjiab
