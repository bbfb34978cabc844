import Derived.Test.YtdchopljojlcpaaRrj
namespace Go.Proofs.Ytdchopljojlcpaa
open Go.RowKit Go.Maps

theorem row_set {W : World} {B g n cap : Nat} {e : TypeId} {s : Nat} {xs : List Value} (h : W.ownsRow B e s (.slice (some ⟨g, 0, none⟩) n cap) n xs) (k : Nat) (x : Value) : (W.setCell ⟨g, k, none⟩ x).ownsRow B e s (.slice (some ⟨g, 0, none⟩) n cap) n (xs.set k x) := by
  obtain ⟨hl, h1 | ⟨g', cap', cur, e, h1, h2, h3, h4, h5, h6⟩⟩ := h
  · cases h1.1
  · injection e with e1 e2 e3
    injection e1 with e1
    injection e1 with e1
    subst e1 e3
    refine ⟨by rw [List.length_set]; exact hl, .inr ⟨g, cap, _, rfl, h1, blk_set x h2, h3, h4, ?_, ?_⟩⟩
    · simpa using h5
    · rw [← h6, Array.toList_setIfInBounds, List.take_set]
/-- Cells written one behind the other. -/
def sets (xs : List Value) (k : Nat) : List Value → List Value
  | [] => xs
  | c :: cs => sets (xs.set k c) (k + 1) cs
def wsets (W : World) (g k : Nat) : List Value → World
  | [] => W
  | c :: cs => wsets (W.setCell ⟨g, k, none⟩ c) g (k + 1) cs
theorem row_sets {B g n cap : Nat} {e : TypeId} {s : Nat} (cs : List Value) : ∀ {W : World} {xs : List Value} (k : Nat) (_ : W.ownsRow B e s (.slice (some ⟨g, 0, none⟩) n cap) n xs), (wsets W g k cs).ownsRow B e s (.slice (some ⟨g, 0, none⟩) n cap) n (sets xs k cs) := by
  induction cs with
  | nil => intro W xs k h; exact h
  | cons c cs ih => intro W xs k h; exact ih (k + 1) (row_set h k c)
theorem wsets_far {g : Nat} (cs : List Value) : ∀ {W : World} (k b : Nat) (_ : b ≠ g), (wsets W g k cs).heap[b]? = W.heap[b]? := by
  induction cs with
  | nil => intro W k b h; rfl
  | cons c cs ih => intro W k b h; rw [wsets, ih (k + 1) b h, Below.heap_setCell _ _ _ _ (by simpa using h)]
theorem wsets_size {g : Nat} (cs : List Value) : ∀ {W : World} (k : Nat), (wsets W g k cs).heap.size = W.heap.size := by
  induction cs with
  | nil => intro W k; rfl
  | cons c cs ih => intro W k; rw [wsets, ih (k + 1)]; simp
theorem wsets_below {g : Nat} {w : World} (hg : w.heap.size ≤ g) (cs : List Value) : ∀ {W : World} (k : Nat) (_ : Below w.heap.size w W), Below w.heap.size w (wsets W g k cs) := by
  induction cs with
  | nil => intro W k h; exact h
  | cons c cs ih => intro W k h; exact ih (k + 1) (h.setCell (p := ⟨g, k, none⟩) hg _)
theorem sets_at (c : List Value) : ∀ (p a b : List Value) (_ : a.length = c.length), sets (p ++ (a ++ b)) p.length c = p ++ (c ++ b) := by
  induction c with
  | nil => intro p a b h; rw [List.length_eq_zero_iff.1 h]; rfl
  | cons x c ih =>
    intro p a b h
    match a, h with
    | y :: a, h =>
      have h1 : (p ++ (y :: a ++ b)).set p.length x = (p ++ [x]) ++ (a ++ b) := by rw [List.set_append_right _ _ (Nat.le_refl _), Nat.sub_self]; simp
      have h2 := ih (p ++ [x]) a b (by simpa using h)
      rw [sets, h1]
      rw [List.length_append] at h2
      simpa using h2
theorem flat_sets {α : Type} {f : α → List Value} {n : Nat} (hf : ∀ x, (f x).length = n) (l : List α) (i : Nat) (x : α) (hi : i < l.length) (M : List Value) : sets (flat f l ++ M) (i * n) (f x) = flat f (l.set i x) ++ M := by
  have e1 : l = l.take i ++ l[i] :: l.drop (i + 1) := by rw [← List.drop_eq_getElem_cons hi, List.take_append_drop]
  have e2 : l.set i x = l.take i ++ x :: l.drop (i + 1) := List.set_eq_take_append_cons_drop.trans (if_pos hi)
  have hl : (flat f (l.take i)).length = i * n := by rw [flat_len hf, List.length_take, Nat.min_eq_left (Nat.le_of_lt hi)]
  have h1 : flat f l ++ M = flat f (l.take i) ++ (f l[i] ++ (flat f (l.drop (i + 1)) ++ M)) := by
    have h3 := congrArg (flat f) e1
    rw [flat_app] at h3
    rw [h3]
    simp only [flat, List.append_assoc]
  rw [h1, ← hl, sets_at _ _ _ _ (by rw [hf, hf]), e2, flat_app]
  simp only [flat, List.append_assoc]
theorem iC_flat (l : List Int) : iC l = flat jf l := by
  induction l with
  | nil => rfl
  | cons x l ih => show Value.int .i64 x :: iC l = _; rw [ih]; rfl
/-- Nothing but three blocks has turned. -/
structure Trd (w W : World) (ge gi gt : Nat) : Prop where
  size : w.heap.size ≤ W.heap.size
  block : ∀ b, b < w.heap.size → b ≠ ge → b ≠ gi → b ≠ gt → W.heap[b]? = w.heap[b]?
theorem Trd.of {w W : World} (h : Below w.heap.size w W) (ge gi gt : Nat) : Trd w W ge gi gt := ⟨h.size, fun b hb _ _ _ => h.block b hb⟩
theorem Trd.drew {w W : World} {ge gi gt : Nat} (h : Trd w W ge gi gt) : Trd w W.drew ge gi gt := ⟨h.size, h.block⟩
theorem Trd.sets {w W : World} {ge gi gt : Nat} (h : Trd w W ge gi gt) {g k : Nat} {cs : List Value} (hg : g = ge ∨ g = gi ∨ g = gt) : Trd w (wsets W g k cs) ge gi gt := by
  refine ⟨by rw [wsets_size]; exact h.size, fun b hb h1 h2 h3 => ?_⟩
  rw [wsets_far cs k b (by rcases hg with rfl | rfl | rfl <;> assumption)]
  exact h.block b hb h1 h2 h3
/-- What turning keeps. -/
structure Tz (w0 w W : World) (P : Nat) (ca cb : Array Value) (ge ke gi ki gt kt ga ka : Nat) (r : Rul) (re : List Nd) (inn : List Int) (tes : List (Int × Int)) : Prop where
  m : Rmr w0.heap.size W ge ke gi ki gt kt ga ka { r with re := re, inn := inn, tes := tes }
  l1 : re.length = r.re.length
  l2 : inn.length = r.inn.length
  l3 : tes.length = r.tes.length
  ba : W.heap[P]? = some (.cells ca 28 (0, 0))
  bb : W.heap[P + 1]? = some (.cells cb 28 (0, 0))
  bel : Below w0.heap.size w0 W
  trd : Trd w W ge gi gt
section
variable {w0 w W : World} {P : Nat} {ca cb : Array Value} {ge ke gi ki gt kt ga ka : Nat} {r : Rul} {re : List Nd} {inn : List Int} {tes : List (Int × Int)}
theorem Tz.drew (h : Tz w0 w W P ca cb ge ke gi ki gt kt ga ka r re inn tes) : Tz w0 w W.drew P ca cb ge ke gi ki gt kt ga ka r re inn tes :=
  ⟨h.m.up (Below.drew (Below.refl _ _)), h.l1, h.l2, h.l3, h.ba, h.bb, Below.drew h.bel, h.trd.drew⟩
theorem wsets_grown {g : Nat} (cs : List Value) : ∀ {W : World} (k : Nat), W.grownBy (wsets W g k cs) (some g) := by
  induction cs with
  | nil => intro W k; exact World.grownBy.refl _ _
  | cons c cs ih =>
    intro W k
    have h1 := ih (W := W.setCell ⟨g, k, none⟩ c) (k + 1)
    have h2 : W.grownBy (W.setCell ⟨g, k, none⟩ c) (some g) := grown_set
    exact ⟨h1.os.trans h2.os, h1.tape.trans h2.tape, h1.output.trans h2.output, Nat.le_trans h2.size h1.size, fun j hj hne => (h1.block j (Nat.lt_of_lt_of_le hj h2.size) hne).trans (h2.block j hj hne)⟩
theorem keep_set {B B' g k n cap : Nat} {e e' : TypeId} {size size' n' : Nat} {v : Value} {cs xs xs' : List Value} (hr : W.ownsRow B e size (.slice (some ⟨g, 0, none⟩) n cap) n xs) (h : W.ownsRow B' e' size' v n' xs') (hne : e' ≠ e) : (wsets W g k cs).ownsRow B' e' size' v n' xs' :=
  h.kept (wsets_grown cs k) (tag_ne h hr hne)
theorem blk_keep {g k n cap b B : Nat} {e t : TypeId} {size : Nat} {cs xs : List Value} {ca : Array Value} (hr : W.ownsRow B e size (.slice (some ⟨g, 0, none⟩) n cap) n xs) (hb : W.heap[b]? = some (.cells ca t (0, 0))) (hne : e ≠ t) : (wsets W g k cs).heap[b]? = some (.cells ca t (0, 0)) := by
  rw [wsets_far cs k b (fun e' => tag_ne_blk hr hb hne (by rw [e']; rfl))]; exact hb
theorem Tz.nodes (h : Tz w0 w W P ca cb ge ke gi ki gt kt ga ka r re inn tes) {i : Nat} (x : Nd) (hi : i < re.length) : Tz w0 w (wsets W ge (i * 7) (nf x)) P ca cb ge ke gi ki gt kt ga ka r (re.set i x) inn tes := by
  have hr : W.ownsRow w0.heap.size 50 7 (.slice (some ⟨ge, 0, none⟩) (re.length + 3) ke) (re.length + 3) (flat nf re ++ (nf (0, 0, 0, 0, 0, -7, 0) ++ (nf (0, 0, 0, 0, 0, -7, 0) ++ nf (0, 0, 0, 0, 0, -7, 0)))) := h.m.e
  have hs := row_sets (nf x) (i * 7) hr
  rw [flat_sets nf_len re i x hi] at hs
  refine ⟨⟨?_, keep_set hr h.m.i (by decide), keep_set hr h.m.t (by decide), keep_set hr h.m.a (by decide)⟩, by rw [List.length_set]; exact h.l1, h.l2, h.l3, blk_keep hr h.ba (by decide), blk_keep hr h.bb (by decide), wsets_below (row_tag hr ge rfl).1 _ _ h.bel, h.trd.sets (.inl rfl)⟩
  show (wsets W ge (i * 7) (nf x)).ownsRow w0.heap.size 50 7 (.slice (some ⟨ge, 0, none⟩) ((re.set i x).length + 3) ke) ((re.set i x).length + 3) _
  rw [List.length_set]
  exact hs
theorem Tz.modes (h : Tz w0 w W P ca cb ge ke gi ki gt kt ga ka r re inn tes) {i : Nat} (x : Int) (hi : i < inn.length) : Tz w0 w (wsets W gi (i * 1) (jf x)) P ca cb ge ke gi ki gt kt ga ka r re (inn.set i x) tes := by
  have hr : W.ownsRow w0.heap.size 3 1 (.slice (some ⟨gi, 0, none⟩) (inn.length + 3) ki) (inn.length + 3) (iC inn ++ ([.int .i64 (-7)] ++ ([.int .i64 (-7)] ++ [.int .i64 (-7)]))) := h.m.i
  have hs := row_sets (jf x) (i * 1) hr
  rw [iC_flat, flat_sets (f := jf) (n := 1) (fun _ => rfl) inn i x hi, ← iC_flat] at hs
  refine ⟨⟨keep_set hr h.m.e (by decide), ?_, keep_set hr h.m.t (by decide), keep_set hr h.m.a (by decide)⟩, h.l1, by rw [List.length_set]; exact h.l2, h.l3, blk_keep hr h.ba (by decide), blk_keep hr h.bb (by decide), wsets_below (row_tag hr gi rfl).1 _ _ h.bel, h.trd.sets (.inr (.inl rfl))⟩
  show (wsets W gi (i * 1) (jf x)).ownsRow w0.heap.size 3 1 (.slice (some ⟨gi, 0, none⟩) ((inn.set i x).length + 3) ki) ((inn.set i x).length + 3) _
  rw [List.length_set]
  exact hs
theorem Tz.tests (h : Tz w0 w W P ca cb ge ke gi ki gt kt ga ka r re inn tes) {i : Nat} (x : Int × Int) (hi : i < tes.length) : Tz w0 w (wsets W gt (i * 2) (tf x)) P ca cb ge ke gi ki gt kt ga ka r re inn (tes.set i x) := by
  have hr : W.ownsRow w0.heap.size 53 2 (.slice (some ⟨gt, 0, none⟩) (tes.length + 3) kt) (tes.length + 3) (flat tf tes ++ (tf (0, -7) ++ (tf (0, -7) ++ tf (0, -7)))) := h.m.t
  have hs := row_sets (tf x) (i * 2) hr
  rw [flat_sets tf_len tes i x hi] at hs
  refine ⟨⟨keep_set hr h.m.e (by decide), keep_set hr h.m.i (by decide), ?_, keep_set hr h.m.a (by decide)⟩, h.l1, h.l2, by rw [List.length_set]; exact h.l3, blk_keep hr h.ba (by decide), blk_keep hr h.bb (by decide), wsets_below (row_tag hr gt rfl).1 _ _ h.bel, h.trd.sets (.inr (.inr rfl))⟩
  show (wsets W gt (i * 2) (tf x)).ownsRow w0.heap.size 53 2 (.slice (some ⟨gt, 0, none⟩) ((tes.set i x).length + 3) kt) ((tes.set i x).length + 3) _
  rw [List.length_set]
  exact hs
end
end Go.Proofs.Ytdchopljojlcpaa
