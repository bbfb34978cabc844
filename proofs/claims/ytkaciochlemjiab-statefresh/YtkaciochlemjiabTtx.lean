import Derived.Test.YtkaciochlemjiabTrs
namespace Go.Proofs.Ytkaciochlemjiab
open Go.RowKit Go.Maps

/-- Nothing but three blocks has turned. -/
structure Chg (w W : World) (g1 g2 g3 : Nat) : Prop where
  os : W.os = w.os
  tape : W.tape = w.tape
  output : W.output = w.output
  size : w.heap.size ≤ W.heap.size
  block : ∀ j, j < w.heap.size → j ≠ g1 → j ≠ g2 → j ≠ g3 → W.heap[j]? = w.heap[j]?
theorem Chg.refl (w : World) (g1 g2 g3 : Nat) : Chg w w g1 g2 g3 := ⟨rfl, rfl, rfl, Nat.le_refl _, fun _ _ _ _ _ => rfl⟩
theorem Chg.up {w W W' : World} {g1 g2 g3 : Nat} (h : Chg w W g1 g2 g3) (hb : Below W.heap.size W W') : Chg w W' g1 g2 g3 :=
  ⟨hb.os.trans h.os, hb.tape.trans h.tape, hb.output.trans h.output, Nat.le_trans h.size hb.size, fun j hj a b c => (hb.block j (Nat.lt_of_lt_of_le hj h.size)).trans (h.block j hj a b c)⟩
theorem Chg.set {w W : World} {g1 g2 g3 g k : Nat} {u : Value} (h : Chg w W g1 g2 g3) (hg : g = g1 ∨ g = g2 ∨ g = g3) : Chg w (W.setCell ⟨g, k, none⟩ u) g1 g2 g3 :=
  ⟨h.os, h.tape, h.output, by simpa using h.size, fun j hj a b c => (Below.heap_setCell W ⟨g, k, none⟩ u j (fun e => by rcases hg with e' | e' | e' <;> simp_all)).trans (h.block j hj a b c)⟩
theorem Chg.below {w W : World} {B g1 g2 g3 : Nat} (h : Chg w W g1 g2 g3) (hB : B ≤ w.heap.size) (h1 : B ≤ g1) (h2 : B ≤ g2) (h3 : B ≤ g3) : Below B w W :=
  ⟨h.os, h.tape, h.output, h.size, fun j hj => h.block j (Nat.lt_of_lt_of_le hj hB) (by omega) (by omega) (by omega)⟩
abbrev mI : List Value := [.int .i64 71, .int .i64 72]
abbrev mQ : List Value := [.string ⟨#[109, 97, 114, 107]⟩, .string ⟨#[109, 97, 114, 107]⟩]
abbrev mF : List Value := [.int .i64 73, .string ⟨#[]⟩, .int .i64 74, .string ⟨#[]⟩]
/-- A state's lists are written over where they stand. -/
structure Ty (B : Nat) (w W : World) (M n1 n2 n3 g1 k1 g2 k2 g3 k3 : Nat) (sb : Array Value) : Prop where
  bs : W.heap[w.heap.size]? = some (.cells sb 27 (0, 0))
  ri : ∃ l : List Int, l.length = n1 ∧ W.ownsRow B 3 1 (.slice (some ⟨g1, 0, none⟩) (n1 + 2) k1) (n1 + 2) (iC l ++ mI)
  rq : ∃ l : List ByteArray, l.length = n2 ∧ (∀ d ∈ l, d.size ≤ M) ∧ W.ownsRow B 9 1 (.slice (some ⟨g2, 0, none⟩) (n2 + 2) k2) (n2 + 2) (qC l ++ mQ)
  rf : ∃ l : List (Int × ByteArray), l.length = n3 ∧ (∀ f ∈ l, f.2.size ≤ M) ∧ W.ownsRow B 42 2 (.slice (some ⟨g3, 0, none⟩) (n3 + 2) k3) (n3 + 2) (fC l ++ mF)
  ch : Chg w W g1 g2 g3
theorem iC_set (l : List Int) (i : Nat) (x : Int) : iC (l.set i x) = (iC l).set i (.int .i64 x) := by simp [iC, List.map_set]
theorem qC_set (l : List ByteArray) (i : Nat) (x : ByteArray) : qC (l.set i x) = (qC l).set i (.string x) := by simp [qC, List.map_set]
theorem fC_set (l : List (Int × ByteArray)) : ∀ (i : Nat) (x : Int × ByteArray), fC (l.set i x) = ((fC l).set (i * 2) (.int .i64 x.1)).set (i * 2 + 1) (.string x.2) := by
  induction l with
  | nil => intro i x; rfl
  | cons m l ih =>
    intro i x
    cases i with
    | zero => rfl
    | succ i =>
      show [Value.int .i64 m.1, Value.string m.2] ++ fC (l.set i x) = _
      rw [ih i x]
      show _ = (([Value.int .i64 m.1, Value.string m.2] ++ fC l).set ((i + 1) * 2) _).set ((i + 1) * 2 + 1) _
      rw [show (i + 1) * 2 = i * 2 + 1 + 1 by omega, show i * 2 + 1 + 1 + 1 = (i * 2 + 1) + 1 + 1 by omega]
      rfl
theorem row_blk {W : World} {B : Nat} {e : TypeId} {size n m g cap : Nat} {xs : List Value} (h : W.ownsRow B e size (.slice (some ⟨g, 0, none⟩) n cap) m xs) : B ≤ g ∧ ∃ cur, W.heap[g]? = some (.cells cur e (0, 0)) := row_tag h g rfl
theorem mem_set {α : Type} {l : List α} {i : Nat} {x y : α} (h : y ∈ l.set i x) : y ∈ l ∨ y = x := by
  rcases List.mem_or_eq_of_mem_set h with h | h
  · exact Or.inl h
  · exact Or.inr h
section
variable {B : Nat} {w W W' : World} {M n1 n2 n3 g1 k1 g2 k2 g3 k3 : Nat} {sb : Array Value}
theorem Ty.up (h : Ty B w W M n1 n2 n3 g1 k1 g2 k2 g3 k3 sb) (hb : Below W.heap.size W W') : Ty B w W' M n1 n2 n3 g1 k1 g2 k2 g3 k3 sb := by
  obtain ⟨l1, e1, r1⟩ := h.ri
  obtain ⟨l2, e2, s2, r2⟩ := h.rq
  obtain ⟨l3, e3, s3, r3⟩ := h.rf
  exact ⟨by rw [hb.block _ (lt_of_heap h.bs)]; exact h.bs, ⟨l1, e1, row_up r1 hb⟩, ⟨l2, e2, s2, row_up r2 hb⟩, ⟨l3, e3, s3, row_up r3 hb⟩, h.ch.up hb⟩
/-- A block of another kind stays under a store. -/
theorem far_blk {e t : TypeId} {size n m g cap b k : Nat} {xs : List Value} {cs : Array Value} {u : Value} (hr : W.ownsRow B e size (.slice (some ⟨g, 0, none⟩) n cap) m xs) (hb : W.heap[b]? = some (.cells cs t (0, 0))) (hne : e ≠ t) : (W.setCell ⟨g, k, none⟩ u).heap[b]? = some (.cells cs t (0, 0)) := by
  rw [Below.heap_setCell _ _ _ _ (fun e' => by subst e'; obtain ⟨_, cur, h2⟩ := row_blk hr; rw [hb] at h2; cases h2; exact hne rfl)]
  exact hb
theorem far_row {e e' : TypeId} {size size' n m n' m' g g' cap cap' k B' : Nat} {xs xs' : List Value} {u : Value} (hr : W.ownsRow B e size (.slice (some ⟨g, 0, none⟩) n cap) m xs) (hr' : W.ownsRow B' e' size' (.slice (some ⟨g', 0, none⟩) n' cap') m' xs') (hne : e' ≠ e) : (W.setCell ⟨g, k, none⟩ u).ownsRow B' e' size' (.slice (some ⟨g', 0, none⟩) n' cap') m' xs' :=
  hr'.kept grown_set (tag_ne hr' hr hne)
theorem Ty.si (h : Ty B w W M n1 n2 n3 g1 k1 g2 k2 g3 k3 sb) (i : Nat) (hi : i < n1) (x : Int) : Ty B w (W.setCell ⟨g1, i, none⟩ (.int .i64 x)) M n1 n2 n3 g1 k1 g2 k2 g3 k3 sb := by
  obtain ⟨l1, e1, r1⟩ := h.ri
  obtain ⟨l2, e2, s2, r2⟩ := h.rq
  obtain ⟨l3, e3, s3, r3⟩ := h.rf
  refine ⟨far_blk r1 h.bs (by decide), ⟨l1.set i x, by simpa using e1, ?_⟩, ⟨l2, e2, s2, far_row r1 r2 (by decide)⟩, ⟨l3, e3, s3, far_row r1 r3 (by decide)⟩, h.ch.set (Or.inl rfl)⟩
  have := (r1.stored i (.int .i64 x)).1
  rw [List.set_append_left _ _ (by rw [iC_len]; omega), ← iC_set] at this
  exact this
theorem Ty.sq (h : Ty B w W M n1 n2 n3 g1 k1 g2 k2 g3 k3 sb) (i : Nat) (hi : i < n2) (x : ByteArray) (hx : x.size ≤ M) : Ty B w (W.setCell ⟨g2, i, none⟩ (.string x)) M n1 n2 n3 g1 k1 g2 k2 g3 k3 sb := by
  obtain ⟨l1, e1, r1⟩ := h.ri
  obtain ⟨l2, e2, s2, r2⟩ := h.rq
  obtain ⟨l3, e3, s3, r3⟩ := h.rf
  refine ⟨far_blk r2 h.bs (by decide), ⟨l1, e1, far_row r2 r1 (by decide)⟩, ⟨l2.set i x, by simpa using e2, fun d hd => (mem_set hd).elim (s2 d) (fun e => by rw [e]; exact hx), ?_⟩, ⟨l3, e3, s3, far_row r2 r3 (by decide)⟩, h.ch.set (Or.inr (Or.inl rfl))⟩
  have := (r2.stored i (.string x)).1
  rw [List.set_append_left _ _ (by rw [qC_len]; omega), ← qC_set] at this
  exact this
theorem Ty.sf (h : Ty B w W M n1 n2 n3 g1 k1 g2 k2 g3 k3 sb) (i : Nat) (hi : i < n3) (x : Int × ByteArray) (hx : x.2.size ≤ M) : Ty B w ((W.setCell ⟨g3, i * 2, none⟩ (.int .i64 x.1)).setCell ⟨g3, i * 2 + 1, none⟩ (.string x.2)) M n1 n2 n3 g1 k1 g2 k2 g3 k3 sb := by
  obtain ⟨l1, e1, r1⟩ := h.ri
  obtain ⟨l2, e2, s2, r2⟩ := h.rq
  obtain ⟨l3, e3, s3, r3⟩ := h.rf
  have r3b := (r3.stored (i * 2) (.int .i64 x.1)).1
  refine ⟨far_blk r3b (far_blk r3 h.bs (by decide)) (by decide), ⟨l1, e1, far_row r3b (far_row r3 r1 (by decide)) (by decide)⟩, ⟨l2, e2, s2, far_row r3b (far_row r3 r2 (by decide)) (by decide)⟩, ⟨l3.set i x, by simpa using e3, fun d hd => (mem_set hd).elim (s3 d) (fun e => by rw [e]; exact hx), ?_⟩, (h.ch.set (Or.inr (Or.inr rfl))).set (Or.inr (Or.inr rfl))⟩
  have := (r3b.stored (i * 2 + 1) (.string x.2)).1
  rw [List.set_append_left _ _ (by rw [fC_len]; omega), List.set_append_left _ _ (by rw [List.length_set, fC_len]; omega), ← fC_set] at this
  exact this
theorem set_same {α : Type} (l : List α) (i : Nat) (x : α) (h : l[i]? = some x) : l.set i x = l := by
  apply List.ext_getElem?
  intro j
  by_cases hj : i = j
  · subst hj; rw [List.getElem?_set_self (List.getElem?_eq_some_iff.1 h).1, h]
  · rw [List.getElem?_set_ne hj]
theorem Ty.sd (h : Ty B w W M n1 n2 n3 g1 k1 g2 k2 g3 k3 sb) (i : Nat) (hi : i < n3) (x : ByteArray) (hx : x.size ≤ M) : Ty B w (W.setCell ⟨g3, i * 2 + 1, none⟩ (.string x)) M n1 n2 n3 g1 k1 g2 k2 g3 k3 sb := by
  obtain ⟨l1, e1, r1⟩ := h.ri
  obtain ⟨l2, e2, s2, r2⟩ := h.rq
  obtain ⟨l3, e3, s3, r3⟩ := h.rf
  have hl : i < l3.length := by omega
  refine ⟨far_blk r3 h.bs (by decide), ⟨l1, e1, far_row r3 r1 (by decide)⟩, ⟨l2, e2, s2, far_row r3 r2 (by decide)⟩, ⟨l3.set i ((l3.getD i (0, ⟨#[]⟩)).1, x), by simpa using e3, fun d hd => (mem_set hd).elim (s3 d) (fun e => by rw [e]; exact hx), ?_⟩, h.ch.set (Or.inr (Or.inr rfl))⟩
  have := (r3.stored (i * 2 + 1) (.string x)).1
  rw [List.set_append_left _ _ (by rw [fC_len]; omega)] at this
  rw [fC_set, set_same (fC l3) (i * 2) _ (fC_get l3 i hl).1]
  exact this
theorem Ty.mono {M' : Nat} (h : Ty B w W M n1 n2 n3 g1 k1 g2 k2 g3 k3 sb) (hm : M ≤ M') : Ty B w W M' n1 n2 n3 g1 k1 g2 k2 g3 k3 sb := by
  obtain ⟨l2, e2, s2, r2⟩ := h.rq
  obtain ⟨l3, e3, s3, r3⟩ := h.rf
  exact ⟨h.bs, h.ri, ⟨l2, e2, fun d hd => Nat.le_trans (s2 d hd) hm, r2⟩, ⟨l3, e3, fun f hf => Nat.le_trans (s3 f hf) hm, r3⟩, h.ch⟩
/-- Rows of later blocks stay. -/
theorem own_far {g k : Nat} {u ki kq kf : Value} {s : Stt} (ho : Own w.heap.size W ki kq kf s) (hg : g < w.heap.size) : Own w.heap.size (W.setCell ⟨g, k, none⟩ u) ki kq kf s := by
  have f : ∀ {e' : TypeId} {size' n' : Nat} {v' : Value} {xs' : List Value}, W.ownsRow w.heap.size e' size' v' n' xs' → (W.setCell ⟨g, k, none⟩ u).ownsRow w.heap.size e' size' v' n' xs' := fun hr => hr.kept grown_set (.inr (fun e => by have := (row_tag hr g e).1; omega))
  exact ⟨f ho.i, f ho.q, f ho.f⟩
end
end Go.Proofs.Ytkaciochlemjiab
