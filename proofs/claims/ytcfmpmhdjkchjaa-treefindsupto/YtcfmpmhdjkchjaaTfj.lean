import Derived.Test.YtcfmpmhdjkchjaaTfi
import Derived.Test.YtcfmpmhdjkchjaaTbe
namespace Go.Proofs.Ytcfmpmhdjkchjaa
open Go.RowKit Go.Maps

/-- A row of numbers of the call's own, in blocks from lo to hi. -/
structure Rk (W : World) (lo hi : Nat) (v : Value) (l : List Int) : Prop where
  ow : W.ownsRow lo 3 1 v l.length (iC l)
  hi : ∀ r, v.ownBlock = some r → r < hi
theorem Rk.of {W : World} {lo : Nat} {v : Value} {l : List Int} (h : W.ownsRow lo 3 1 v l.length (iC l)) : Rk W lo W.heap.size v l := ⟨h, own_lt h⟩
theorem Rk.rw {W : World} {lo hi : Nat} {v : Value} {l : List Int} (h : Rk W lo hi v l) : Rw W v l.length (iC l) := row_rw h.ow (by decide)
theorem Rk.up {W W' : World} {lo hi : Nat} {v : Value} {l : List Int} (h : Rk W lo hi v l) (hb : Below W.heap.size W W') : Rk W' lo hi v l := ⟨row_up h.ow hb, h.hi⟩
/-- Below H nothing but two blocks has turned. -/
structure Fw (W W' : World) (H : Nat) (A B : Option Nat) : Prop where
  os : W'.os = W.os
  tape : W'.tape = W.tape
  output : W'.output = W.output
  size : W.heap.size ≤ W'.heap.size
  block : ∀ k, k < H → some k ≠ A → some k ≠ B → W'.heap[k]? = W.heap[k]?
theorem Fw.refl (W : World) (H : Nat) (A B : Option Nat) : Fw W W H A B := ⟨rfl, rfl, rfl, Nat.le_refl _, fun _ _ _ _ => rfl⟩
theorem Fw.grown {W W1 W2 : World} {H : Nat} {A B row : Option Nat} (h : Fw W W1 H A B) (hH : H ≤ W1.heap.size) (hg : W1.grownBy W2 row) (hr : ∀ r, row = some r → r < H → row = A ∨ row = B) : Fw W W2 H A B :=
  ⟨hg.os.trans h.os, hg.tape.trans h.tape, hg.output.trans h.output, Nat.le_trans h.size hg.size, fun k hk h1 h2 => by
    rw [hg.block k (by omega) (fun e => (hr k e.symm hk).elim (fun e' => h1 (e.trans e')) (fun e' => h2 (e.trans e')))]
    exact h.block k hk h1 h2⟩
theorem Fw.below {W W1 : World} {H B0 : Nat} {A B : Option Nat} {w : World} (h : Fw W W1 H A B) (hw : Below B0 w W) (hB : B0 ≤ H) (hA : ∀ r, A = some r → B0 ≤ r) (hC : ∀ r, B = some r → B0 ≤ r) : Below B0 w W1 :=
  ⟨h.os.trans hw.os, h.tape.trans hw.tape, h.output.trans hw.output, Nat.le_trans hw.size h.size, fun k hk => by
    rw [h.block k (by omega) (fun e => by have := hA k e.symm; omega) (fun e => by have := hC k e.symm; omega)]
    exact hw.block k hk⟩
theorem Rk.fw {W W' : World} {lo hi H : Nat} {v : Value} {l : List Int} {A B : Option Nat} (h : Rk W lo hi v l) (hf : Fw W W' H A B) (hH : hi ≤ H) (hA : ∀ r, A = some r → r < lo ∨ hi ≤ r) (hB : ∀ r, B = some r → r < lo ∨ hi ≤ r) : Rk W' lo hi v l := by
  obtain ⟨h1, h2⟩ := h
  refine ⟨⟨h1.1, ?_⟩, h2⟩
  rcases h1.2 with h3 | ⟨g, cap, cur, rfl, h3, h4, h5⟩
  · exact .inl h3
  · have hg := h2 g rfl
    refine .inr ⟨g, cap, cur, rfl, h3, ?_, h5⟩
    rw [hf.block g (by omega) (fun e => by have := hA g e.symm; omega) (fun e => by have := hB g e.symm; omega)]
    exact h4
theorem take_put {α : Type} (l : List α) (k : Nat) (e : α) (h : k < l.length) : (l.set k e).take (k + 1) = l.take k ++ [e] := by
  rw [List.take_set, List.take_add_one, List.getElem?_eq_getElem h]
  rw [List.set_append_right _ _ (by rw [List.length_take]; omega)]
  rw [List.length_take, Nat.min_eq_left (by omega)]
  simp
/-- One number is written. -/
theorem Rk.set {W : World} {lo hi g cap n : Nat} {l : List Int} (h : Rk W lo hi (.slice (some ⟨g, 0, none⟩) n cap) l) (hl : l.length = n) (i : Nat) (x : Int) : Rk (W.setCell ⟨g, i, none⟩ (.int .i64 x)) lo hi (.slice (some ⟨g, 0, none⟩) n cap) (l.set i x) := by
  obtain ⟨h1, h2⟩ := h
  refine ⟨?_, h2⟩
  rw [hl] at h1
  have h3 := row_set h1 i (.int .i64 x)
  rw [iC_set] at h3
  rw [List.length_set, hl]
  exact h3
/-- A row that is written over, and one that has gone on from it. -/
structure Pr (W : World) (lo hi H : Nat) (va vl : Value) (n : Nat) (x y : Int) (i : Nat) : Prop where
  ow : W.ownsRow lo 3 1 vl (n + i) (iC (List.replicate n x ++ List.replicate i y))
  fm : ∃ cap, va = .slice none 0 0 ∧ n = 0 ∨ ∃ g, va = .slice (some ⟨g, 0, none⟩) n cap ∧ n ≤ cap ∧ lo ≤ g ∧ g < hi
  rw : Rw W va n (iC (List.replicate n x))
  lb : vl.ownBlock = va.ownBlock ∨ ∀ r, vl.ownBlock = some r → H ≤ r
theorem Pr.start {W : World} {lo hi H : Nat} {va : Value} {n : Nat} {x y : Int} (h : Rk W lo hi va (List.replicate n x)) : Pr W lo hi H va va n x y 0 := by
  have hr := h.rw
  obtain ⟨h1, h2⟩ := h
  rw [List.length_replicate] at h1 hr
  refine ⟨?_, ?_, hr, Or.inl rfl⟩
  · rw [show List.replicate 0 y = [] from rfl, List.append_nil]; exact h1
  · rcases h1.2 with ⟨e, hn⟩ | ⟨g, cap, cur, e, h3, h4, h5, _⟩
    · exact ⟨0, Or.inl ⟨e, hn⟩⟩
    · exact ⟨cap, Or.inr ⟨g, e, h5, h3, h2 g (by rw [e]; rfl)⟩⟩
theorem Pr.ab {W : World} {lo hi H : Nat} {va vl : Value} {n : Nat} {x y : Int} {i : Nat} (h : Pr W lo hi H va vl n x y i) : ∀ r, va.ownBlock = some r → lo ≤ r ∧ r < hi := fun r hr => by
  obtain ⟨cap, h1 | ⟨g, h1, h2, h3, h4⟩⟩ := h.fm
  · rw [h1.1] at hr; cases hr
  · rw [h1] at hr; cases hr; exact ⟨h3, h4⟩
theorem rw_block {W W' : World} {g n cap : Nat} {cs : List Value} (h : Rw W (.slice (some ⟨g, 0, none⟩) n cap) n cs) (hb : W'.heap[g]? = W.heap[g]?) (hl : cs.length = n) : Rw W' (.slice (some ⟨g, 0, none⟩) n cap) n cs := by
  obtain ⟨a, g', o, cap', e, h1, h2, h3, h4⟩ := h
  refine ⟨a, g', o, cap', e, h1, h2, h3, fun j u hu => ?_⟩
  have hj := (List.getElem?_eq_some_iff.1 hu).1
  have h5 := h3 (by omega)
  rw [h5] at e
  cases e
  have h6 := h4 j u hu
  unfold World.cell? at h6 ⊢
  rw [hb]
  exact h6
theorem Pr.keep {W W' : World} {lo hi H : Nat} {va vl : Value} {n : Nat} {x y : Int} {i : Nat} {row : Option Nat} (h : Pr W lo hi H va vl n x y i) (hH : hi ≤ W.heap.size) (hg : W.grownBy W' row) (h1 : vl.ownBlock = none ∨ vl.ownBlock ≠ row) (h2 : va.ownBlock = none ∨ va.ownBlock ≠ row) : Pr W' lo hi H va vl n x y i := by
  refine ⟨h.ow.kept hg h1, h.fm, ?_, h.lb⟩
  obtain ⟨cap, e | ⟨g, e, hc, hl, hu⟩⟩ := h.fm
  · obtain ⟨e1, e2⟩ := e
    subst e2
    rw [e1]
    exact Rw.nil _
  · have hr := h.rw
    rw [e] at hr ⊢ h2
    refine rw_block hr (hg.block g (by omega) (fun e' => ?_)) (by rw [iC_len, List.length_replicate, Nat.mul_one])
    rcases h2 with h2 | h2
    · cases h2
    · exact h2 e'
theorem Pr.up {W W' : World} {lo hi H : Nat} {va vl : Value} {n : Nat} {x y : Int} {i : Nat} (h : Pr W lo hi H va vl n x y i) (hH : hi ≤ W.heap.size) (hb : Below W.heap.size W W') : Pr W' lo hi H va vl n x y i :=
  h.keep hH (grown_of_below hb) (by cases vl.ownBlock with | none => exact Or.inl rfl | some r => exact Or.inr (fun e => by cases e)) (by cases va.ownBlock with | none => exact Or.inl rfl | some r => exact Or.inr (fun e => by cases e))
theorem iC_rep (n : Nat) (x y : Int) (i : Nat) : iC (List.replicate n x ++ List.replicate i y) ++ [Value.int .i64 y] = iC (List.replicate n x ++ List.replicate (i + 1) y) := by
  rw [List.replicate_succ', ← List.append_assoc, iC_app (_ ++ _)]
  rfl
theorem Pr.step {W W' : World} {lo hi H : Nat} {va vl vl' : Value} {n : Nat} {x y : Int} {i : Nat} (h : Pr W lo hi H va vl n x y i) (hH : hi ≤ H) (hW : H ≤ W.heap.size) (ho : W'.ownsRow lo 3 1 vl' (n + i + 1) (iC (List.replicate n x ++ List.replicate i y) ++ [.int .i64 y]))
    (ht : (∃ g, vl.ownBlock = some g ∧ vl'.ownBlock = some g ∧ W.grownBy W' (some g)) ∨ (∃ g, vl'.ownBlock = some g ∧ W.heap.size ≤ g ∧ W.grownBy W' none)) : Pr W' lo hi H va vl' n x y (i + 1) := by
  rw [iC_rep] at ho
  refine ⟨ho, h.fm, ?_, ?_⟩
  · obtain ⟨cap, e | ⟨g, e, hc, hl, hu⟩⟩ := h.fm
    · obtain ⟨e1, e2⟩ := e
      subst e2
      rw [e1]
      exact Rw.nil _
    · have hr := h.rw
      have hlb := h.lb
      rw [e] at hr hlb ⊢
      rcases ht with ⟨g1, k1, k2, k3⟩ | ⟨g1, k1, k2, k3⟩
      · by_cases hgg : g1 = g
        · subst hgg
          refine ⟨some ⟨g1, 0, none⟩, g1, 0, cap, rfl, hc, (fun e => by cases e), fun _ => rfl, fun j u hu' => ?_⟩
          have hj := (List.getElem?_eq_some_iff.1 hu').1
          rw [iC_len, List.length_replicate, Nat.mul_one] at hj
          obtain ⟨g2, c2, e2, _⟩ := row_form ho (by omega)
          rw [e2] at k2
          cases k2
          rw [e2] at ho
          have hcell := row_at ho j u (by rw [iC_app, List.getElem?_append_left (by rw [iC_len, List.length_replicate, Nat.mul_one]; exact hj)]; exact hu')
          rw [Nat.zero_add]
          exact hcell
        · exact rw_block hr (k3.block g (by omega) (fun e' => hgg (Option.some.inj e').symm)) (by rw [iC_len, List.length_replicate, Nat.mul_one])
      · exact rw_block hr (k3.block g (by omega) (fun e' => by cases e')) (by rw [iC_len, List.length_replicate, Nat.mul_one])
  · rcases ht with ⟨g1, k1, k2, k3⟩ | ⟨g1, k1, k2, k3⟩
    · rw [k2, ← k1]; exact h.lb
    · exact Or.inr (fun r hr => by rw [k1] at hr; cases hr; omega)
theorem Pr.lrw {W : World} {lo hi H : Nat} {va vl : Value} {n : Nat} {x y : Int} {i : Nat} (h : Pr W lo hi H va vl n x y i) : Rw W vl (n + i) (iC (List.replicate n x ++ List.replicate i y)) := row_rw h.ow (by decide)
end Go.Proofs.Ytcfmpmhdjkchjaa
