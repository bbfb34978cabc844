import Derived.Test.YtkjcnnecdclgfaaDoorGzo
import Derived.Test.YtkjcnnecdclgfaaDoorGzq
import Derived.Deep.AppendLies
namespace Go.Proofs.YtkjcnnecdclgfaaDoor
open Go.RowKit Go.Shelf

/-! The chart while it is made. -/
def sl (f : Nat → Nat) (n : Nat) : Nat → List Value
  | 0 => []
  | k + 1 => sl f n k ++ [.slice (some ⟨f k, 0, none⟩) n n]
theorem sl_len (f : Nat → Nat) (n k : Nat) : (sl f n k).length = k := by
  induction k with
  | zero => rfl
  | succ k ih => simp [sl, ih]
theorem sl_at (f : Nat → Nat) (n : Nat) : ∀ k i, i < k → (sl f n k)[i]? = some (.slice (some ⟨f i, 0, none⟩) n n) := by
  intro k
  induction k with
  | zero => intro i h; omega
  | succ k ih =>
    intro i h
    unfold sl
    by_cases hik : i < k
    · rw [List.getElem?_append_left (by rw [sl_len]; exact hik)]; exact ih i hik
    · obtain rfl : i = k := by omega
      rw [List.getElem?_append_right (by rw [sl_len]; exact Nat.le_refl _), sl_len]; simp
theorem sl_congr {f f' : Nat → Nat} {n : Nat} : ∀ k, (∀ i, i < k → f' i = f i) → sl f' n k = sl f n k := by
  intro k
  induction k with
  | zero => intro _; rfl
  | succ k ih => intro h; unfold sl; rw [ih (fun i hi => h i (by omega)), h k (by omega)]
/-- One of the three lists of rows. -/
structure Ro (K : Nat → Option (Nat × Nat)) (B tag r k : Nat) (f : Nat → Nat) (n : Nat) (c0 v : Value) (W : World) : Prop where
  row : W.ownsRow B tag 1 v k (sl f n k)
  own : ∀ g, v.ownBlock = some g → K g = none
  kk : ∀ i, i < k → K (f i) = some (r, i)
  lt : ∀ i, i < k → B ≤ f i ∧ f i < W.heap.size
  cells : ∀ i, i < k → ∀ p, p < n → W.cell? ⟨f i, p, none⟩ = some c0
  fz : ∀ i, i < k → ∀ o, W.frozen? ⟨f i, o, none⟩ = false
theorem Ro.keep {K K' : Nat → Option (Nat × Nat)} {B tag r k n : Nat} {f : Nat → Nat} {c0 v : Value} {W W' : World} (h : Ro K B tag r k f n c0 v W) (hs : W.heap.size ≤ W'.heap.size)
    (hb : ∀ b, b < W.heap.size → (v.ownBlock = some b ∨ ∃ i, i < k ∧ f i = b) → W'.heap[b]? = W.heap[b]?) (hK : ∀ b, b < W.heap.size → K' b = K b) : Ro K' B tag r k f n c0 v W' := by
  refine ⟨row_same h.row (fun g e hl => hb g hl (.inl e)), fun g e => ?_, fun i hi => ?_, fun i hi => ⟨(h.lt i hi).1, Nat.lt_of_lt_of_le (h.lt i hi).2 hs⟩, fun i hi p hp => ?_, fun i hi o => ?_⟩
  · rw [hK g (row_lt h.row g e).2]; exact h.own g e
  · rw [hK _ (h.lt i hi).2]; exact h.kk i hi
  · rw [World.cell?_of_block (a := ⟨f i, p, none⟩) (hb _ (h.lt i hi).2 (.inr ⟨i, hi, rfl⟩))]; exact h.cells i hi p hp
  · rw [World.frozen?_of_block (a := ⟨f i, o, none⟩) (hb _ (h.lt i hi).2 (.inr ⟨i, hi, rfl⟩))]; exact h.fz i hi o
/-- The made cells. -/
theorem made_cells (W : World) (z : Value) (n tg : Nat) : (∀ p, p < n → (W.alloc (.cells ((List.range n).map fun _ => z).toArray tg)).cell? ⟨W.heap.size, p, none⟩ = some z) ∧ (∀ o, (W.alloc (.cells ((List.range n).map fun _ => z).toArray tg)).frozen? ⟨W.heap.size, o, none⟩ = false) := by
  have hb : (W.alloc (.cells ((List.range n).map fun _ => z).toArray tg)).heap[W.heap.size]? = some (.cells ((List.range n).map fun _ => z).toArray tg (0, 0)) := (MapKept.heap_alloc W _).1
  refine ⟨fun p hp => ?_, fun o => Lib.frozen_of_heap hb o⟩
  rw [Lib.cell_of_heap hb]
  simp [hp]
/-- A row more: made, laid into a list of one, put behind. -/
theorem Ro.push {K K' : Nat → Option (Nat × Nat)} {B tag r k n tg : Nat} {f f' : Nat → Nat} {c0 v v' : Value} {W W2 W3 : World} {x : Obj} (h : Ro K B tag r k f n c0 v W) (hB : B ≤ W.heap.size)
    (hW2 : W2 = (W.alloc (.cells ((List.range n).map fun _ => c0).toArray tg)).alloc x) (ho : W3.ownsRow B tag 1 v' (k + 1) (sl f n k ++ [.slice (some ⟨W.heap.size, 0, none⟩) n n])) (hg : W2.grownBy W3 v.ownBlock) (hat : v'.ownBlock = v.ownBlock ∨ ∃ g, v'.ownBlock = some g ∧ W2.heap.size ≤ g)
    (hf : ∀ i, i < k → f' i = f i) (hfk : f' k = W.heap.size) (hK : ∀ b, b < W.heap.size → K' b = K b) (hKk : K' W.heap.size = some (r, k)) (hKn : ∀ b, W.heap.size < b → K' b = none) : Ro K' B tag r (k + 1) f' n c0 v' W3 := by
  have z2 : W2.heap.size = W.heap.size + 2 := by rw [hW2]; simp
  have b2 : ∀ b, b < W.heap.size → W2.heap[b]? = W.heap[b]? := fun b hb => by rw [hW2]; exact (below_trans (bel_up W _) (bel_up _ x)).block b hb
  have nb : ∀ g, v.ownBlock = some g → g < W.heap.size := fun g e => (row_lt h.row g e).2
  have b3 : ∀ b, b < W2.heap.size → v.ownBlock ≠ some b → W3.heap[b]? = W2.heap[b]? := fun b hb hn => hg.block b hb (fun e => hn e.symm)
  have fne : ∀ i, i < k → v.ownBlock ≠ some (f i) := fun i hi e => by have := h.own _ e; rw [h.kk i hi] at this; cases this
  have bf : ∀ i, i < k → W3.heap[f i]? = W.heap[f i]? := fun i hi => (b3 _ (by have := (h.lt i hi).2; omega) (fne i hi)).trans (b2 _ (h.lt i hi).2)
  have bk : W3.heap[W.heap.size]? = (W.alloc (.cells ((List.range n).map fun _ => c0).toArray tg)).heap[W.heap.size]? := (b3 _ (by omega) (fun e => by have := nb _ e; omega)).trans (by rw [hW2]; exact (bel_up _ x).block _ (by simp))
  have mc := made_cells W c0 n tg
  refine ⟨?_, fun g e => ?_, fun i hi => ?_, fun i hi => ?_, fun i hi p hp => ?_, fun i hi o => ?_⟩
  · unfold sl; rw [sl_congr k hf, hfk]; exact ho
  · rcases hat with e1 | ⟨g', e1, hg'⟩
    · rw [e1] at e; rw [hK g (nb g e)]; exact h.own g e
    · rw [e1] at e; injection e with e; exact hKn g (by omega)
  · by_cases hik : i < k
    · rw [hf i hik, hK _ (h.lt i hik).2]; exact h.kk i hik
    · obtain rfl : i = k := by omega
      rw [hfk]; exact hKk
  · have z3 := hg.size
    by_cases hik : i < k
    · rw [hf i hik]; have := h.lt i hik; omega
    · obtain rfl : i = k := by omega
      rw [hfk]; omega
  · by_cases hik : i < k
    · rw [hf i hik, World.cell?_of_block (a := ⟨f i, p, none⟩) (bf i hik)]; exact h.cells i hik p hp
    · obtain rfl : i = k := by omega
      rw [hfk, World.cell?_of_block (a := ⟨W.heap.size, p, none⟩) bk]; exact mc.1 p hp
  · by_cases hik : i < k
    · rw [hf i hik, World.frozen?_of_block (a := ⟨f i, o, none⟩) (bf i hik)]; exact h.fz i hik o
    · obtain rfl : i = k := by omega
      rw [hfk, World.frozen?_of_block (a := ⟨W.heap.size, o, none⟩) bk]; exact mc.2 o
/-- The chart under way: how many rows each list has. -/
structure Ct (rv : Value) (s : ByteArray) (cb : Nat) (K : Nat → Option (Nat × Nat)) (d e q : Nat → Nat) (k1 k2 k3 : Nat) (v1 v2 v3 : Value) (w W : World) : Prop where
  blk : W.heap[cb]? = some (.cells #[rv, .string s, v1, v2, v3] 88 (0, 0))
  rd : Ro K (cb + 1) 48 0 k1 d (s.size + 1) (.bool false) v1 W
  re_ : Ro K (cb + 1) 85 1 k2 e (s.size + 1) (.slice none 0 0) v2 W
  rq : Ro K (cb + 1) 85 2 k3 q (s.size + 1) (.slice none 0 0) v3 W
  n12 : ∀ g, v1.ownBlock = some g → v2.ownBlock ≠ some g
  n13 : ∀ g, v1.ownBlock = some g → v3.ownBlock ≠ some g
  n23 : ∀ g, v2.ownBlock = some g → v3.ownBlock ≠ some g
  kn : ∀ b, W.heap.size ≤ b → K b = none
  kl : ∀ b, b ≤ cb → K b = none
  sz : cb < W.heap.size
  bel : Below cb w W
theorem Ct.done {rv : Value} {s : ByteArray} {cb : Nat} {K : Nat → Option (Nat × Nat)} {d e q : Nat → Nat} {k1 k2 k3 : Nat} {v1 v2 v3 v' : Value} {w W W2 W3 : World} {x : Obj} (h : Ct rv s cb K d e q k1 k2 k3 v1 v2 v3 w W)
    (hW2 : W2 = (W.alloc (.cells ((List.range (s.size + 1)).map fun _ => (.bool false : Value)).toArray 4)).alloc x) (ho : W3.ownsRow (cb + 1) 48 1 v' (k1 + 1) (sl d (s.size + 1) k1 ++ [.slice (some ⟨W.heap.size, 0, none⟩) (s.size + 1) (s.size + 1)])) (hg : W2.grownBy W3 v1.ownBlock) (hat : v'.ownBlock = v1.ownBlock ∨ ∃ g, v'.ownBlock = some g ∧ W2.heap.size ≤ g) :
    ∃ K' f', Ct rv s cb K' f' e q (k1 + 1) k2 k3 v' v2 v3 w (W3.setCell ⟨cb, 2, none⟩ v') := by
  have z2 : W2.heap.size = W.heap.size + 2 := by rw [hW2]; simp
  have hsz := h.sz
  have z3 := hg.size
  have zs : (W3.setCell ⟨cb, 2, none⟩ v').heap.size = W3.heap.size := by simp [World.setCell]
  have b2 : ∀ b, b < W.heap.size → W2.heap[b]? = W.heap[b]? := fun b hb => by rw [hW2]; exact (below_trans (bel_up W _) (bel_up _ x)).block b hb
  have all : ∀ b, b < W.heap.size → v1.ownBlock ≠ some b → W3.heap[b]? = W.heap[b]? := fun b hb hn => (hg.block b (by omega) (fun e => hn e.symm)).trans (b2 b hb)
  have ncb : v1.ownBlock ≠ some cb := fun e => by have := (row_lt h.rd.row cb e).1; omega
  obtain ⟨K', hK'⟩ : ∃ K' : Nat → Option (Nat × Nat), K' = fun b => if b = W.heap.size then some (0, k1) else K b := ⟨_, rfl⟩
  obtain ⟨f', hf'⟩ : ∃ f' : Nat → Nat, f' = fun i => if i = k1 then W.heap.size else d i := ⟨_, rfl⟩
  have kold : ∀ b, b < W.heap.size → K' b = K b := fun b hb => by rw [hK']; exact if_neg (by omega)
  have mine0 : Ro K' (cb + 1) 48 0 (k1 + 1) f' (s.size + 1) (.bool false) v' W3 := h.rd.push (by omega) hW2 ho hg hat (fun i hi => by rw [hf']; exact if_neg (by omega)) (by rw [hf']; exact if_pos rfl) kold (by rw [hK']; exact if_pos rfl) (fun b hb => by rw [hK']; show (if b = W.heap.size then _ else _) = none; rw [if_neg (by omega)]; exact h.kn b (by omega))
  have mine : Ro K' (cb + 1) 48 0 (k1 + 1) f' (s.size + 1) (.bool false) v' (W3.setCell ⟨cb, 2, none⟩ v') := mine0.keep (by rw [zs]; exact Nat.le_refl _) (fun b hb hor => Below.heap_setCell _ _ _ _ (by
      show b ≠ cb
      rcases hor with e | ⟨i, hi, e⟩
      · have := (row_lt mine0.row b e).1; omega
      · have := (mine0.lt i hi).1; omega)) (fun _ _ => rfl)
  have o1 : Ro K' (cb + 1) 85 1 k2 e (s.size + 1) (.slice none 0 0) v2 (W3.setCell ⟨cb, 2, none⟩ v') := h.re_.keep (by rw [zs]; omega) (fun b hb hor => (Below.heap_setCell _ _ _ _ (by
      show b ≠ cb
      rcases hor with e | ⟨i, hi, e⟩
      · have := (row_lt h.re_.row b e).1; omega
      · have := (h.re_.lt i hi).1; omega)).trans (all b hb (fun e1 => by
      rcases hor with e2 | ⟨i, hi, e2⟩
      · exact h.n12 b e1 e2
      · have k1 := h.rd.own b e1; rw [← e2, h.re_.kk i hi] at k1; cases k1))) kold
  have o2 : Ro K' (cb + 1) 85 2 k3 q (s.size + 1) (.slice none 0 0) v3 (W3.setCell ⟨cb, 2, none⟩ v') := h.rq.keep (by rw [zs]; omega) (fun b hb hor => (Below.heap_setCell _ _ _ _ (by
      show b ≠ cb
      rcases hor with e | ⟨i, hi, e⟩
      · have := (row_lt h.rq.row b e).1; omega
      · have := (h.rq.lt i hi).1; omega)).trans (all b hb (fun e1 => by
      rcases hor with e2 | ⟨i, hi, e2⟩
      · exact h.n13 b e1 e2
      · have k1 := h.rd.own b e1; rw [← e2, h.rq.kk i hi] at k1; cases k1))) kold
  have nn1 : ∀ g, v'.ownBlock = some g → v2.ownBlock ≠ some g := fun g e1 e2 => by
    rcases hat with e3 | ⟨g', e3, hg'⟩
    · rw [e3] at e1; exact h.n12 g e1 e2
    · rw [e3] at e1; injection e1 with e1; have := (row_lt h.re_.row g e2).2; omega
  have nn2 : ∀ g, v'.ownBlock = some g → v3.ownBlock ≠ some g := fun g e1 e2 => by
    rcases hat with e3 | ⟨g', e3, hg'⟩
    · rw [e3] at e1; exact h.n13 g e1 e2
    · rw [e3] at e1; injection e1 with e1; have := (row_lt h.rq.row g e2).2; omega
  refine ⟨K', f', ?_, mine, o1, o2, fun g e1 e2 => nn1 g e1 e2, fun g e1 e2 => nn2 g e1 e2, h.n23, fun b hb => ?_, fun b hb => ?_, by omega, ?_⟩
  · rw [Joins.block_setCell ((all cb hsz ncb).trans h.blk)]; rfl
  · rw [hK']; show (if b = W.heap.size then _ else _) = none; rw [if_neg (by omega)]; exact h.kn b (by omega)
  · rw [hK']; show (if b = W.heap.size then _ else _) = none; rw [if_neg (by omega)]; exact h.kl b hb
  · refine Below.setCell (B := cb) (p := ⟨cb, 2, none⟩) ?_ (Nat.le_refl _) _
    refine Below.grown ?_ hg (by omega) (fun g e => by have := (row_lt h.rd.row g e).1; omega)
    rw [hW2]
    exact (h.bel.trans ((bel_up W _).mono (by omega))).trans ((bel_up _ x).mono (by simp; omega))
theorem Ct.ends {rv : Value} {s : ByteArray} {cb : Nat} {K : Nat → Option (Nat × Nat)} {d e q : Nat → Nat} {k1 k2 k3 : Nat} {v1 v2 v3 v' : Value} {w W W2 W3 : World} {x : Obj} (h : Ct rv s cb K d e q k1 k2 k3 v1 v2 v3 w W)
    (hW2 : W2 = (W.alloc (.cells ((List.range (s.size + 1)).map fun _ => (.slice none 0 0 : Value)).toArray 48)).alloc x) (ho : W3.ownsRow (cb + 1) 85 1 v' (k2 + 1) (sl e (s.size + 1) k2 ++ [.slice (some ⟨W.heap.size, 0, none⟩) (s.size + 1) (s.size + 1)])) (hg : W2.grownBy W3 v2.ownBlock) (hat : v'.ownBlock = v2.ownBlock ∨ ∃ g, v'.ownBlock = some g ∧ W2.heap.size ≤ g) :
    ∃ K' f', Ct rv s cb K' d f' q k1 (k2 + 1) k3 v1 v' v3 w (W3.setCell ⟨cb, 3, none⟩ v') := by
  have z2 : W2.heap.size = W.heap.size + 2 := by rw [hW2]; simp
  have hsz := h.sz
  have z3 := hg.size
  have zs : (W3.setCell ⟨cb, 3, none⟩ v').heap.size = W3.heap.size := by simp [World.setCell]
  have b2 : ∀ b, b < W.heap.size → W2.heap[b]? = W.heap[b]? := fun b hb => by rw [hW2]; exact (below_trans (bel_up W _) (bel_up _ x)).block b hb
  have all : ∀ b, b < W.heap.size → v2.ownBlock ≠ some b → W3.heap[b]? = W.heap[b]? := fun b hb hn => (hg.block b (by omega) (fun e => hn e.symm)).trans (b2 b hb)
  have ncb : v2.ownBlock ≠ some cb := fun e => by have := (row_lt h.re_.row cb e).1; omega
  obtain ⟨K', hK'⟩ : ∃ K' : Nat → Option (Nat × Nat), K' = fun b => if b = W.heap.size then some (1, k2) else K b := ⟨_, rfl⟩
  obtain ⟨f', hf'⟩ : ∃ f' : Nat → Nat, f' = fun i => if i = k2 then W.heap.size else e i := ⟨_, rfl⟩
  have kold : ∀ b, b < W.heap.size → K' b = K b := fun b hb => by rw [hK']; exact if_neg (by omega)
  have mine0 : Ro K' (cb + 1) 85 1 (k2 + 1) f' (s.size + 1) (.slice none 0 0) v' W3 := h.re_.push (by omega) hW2 ho hg hat (fun i hi => by rw [hf']; exact if_neg (by omega)) (by rw [hf']; exact if_pos rfl) kold (by rw [hK']; exact if_pos rfl) (fun b hb => by rw [hK']; show (if b = W.heap.size then _ else _) = none; rw [if_neg (by omega)]; exact h.kn b (by omega))
  have mine : Ro K' (cb + 1) 85 1 (k2 + 1) f' (s.size + 1) (.slice none 0 0) v' (W3.setCell ⟨cb, 3, none⟩ v') := mine0.keep (by rw [zs]; exact Nat.le_refl _) (fun b hb hor => Below.heap_setCell _ _ _ _ (by
      show b ≠ cb
      rcases hor with e | ⟨i, hi, e⟩
      · have := (row_lt mine0.row b e).1; omega
      · have := (mine0.lt i hi).1; omega)) (fun _ _ => rfl)
  have o0 : Ro K' (cb + 1) 48 0 k1 d (s.size + 1) (.bool false) v1 (W3.setCell ⟨cb, 3, none⟩ v') := h.rd.keep (by rw [zs]; omega) (fun b hb hor => (Below.heap_setCell _ _ _ _ (by
      show b ≠ cb
      rcases hor with e | ⟨i, hi, e⟩
      · have := (row_lt h.rd.row b e).1; omega
      · have := (h.rd.lt i hi).1; omega)).trans (all b hb (fun e1 => by
      rcases hor with e2 | ⟨i, hi, e2⟩
      · exact h.n12 b e2 e1
      · have k1 := h.re_.own b e1; rw [← e2, h.rd.kk i hi] at k1; cases k1))) kold
  have o2 : Ro K' (cb + 1) 85 2 k3 q (s.size + 1) (.slice none 0 0) v3 (W3.setCell ⟨cb, 3, none⟩ v') := h.rq.keep (by rw [zs]; omega) (fun b hb hor => (Below.heap_setCell _ _ _ _ (by
      show b ≠ cb
      rcases hor with e | ⟨i, hi, e⟩
      · have := (row_lt h.rq.row b e).1; omega
      · have := (h.rq.lt i hi).1; omega)).trans (all b hb (fun e1 => by
      rcases hor with e2 | ⟨i, hi, e2⟩
      · exact h.n23 b e1 e2
      · have k1 := h.re_.own b e1; rw [← e2, h.rq.kk i hi] at k1; cases k1))) kold
  have nn0 : ∀ g, v'.ownBlock = some g → v1.ownBlock ≠ some g := fun g e1 e2 => by
    rcases hat with e3 | ⟨g', e3, hg'⟩
    · rw [e3] at e1; exact h.n12 g e2 e1
    · rw [e3] at e1; injection e1 with e1; have := (row_lt h.rd.row g e2).2; omega
  have nn2 : ∀ g, v'.ownBlock = some g → v3.ownBlock ≠ some g := fun g e1 e2 => by
    rcases hat with e3 | ⟨g', e3, hg'⟩
    · rw [e3] at e1; exact h.n23 g e1 e2
    · rw [e3] at e1; injection e1 with e1; have := (row_lt h.rq.row g e2).2; omega
  refine ⟨K', f', ?_, o0, mine, o2, fun g e1 e2 => nn0 g e2 e1, h.n13, fun g e1 e2 => nn2 g e1 e2, fun b hb => ?_, fun b hb => ?_, by omega, ?_⟩
  · rw [Joins.block_setCell ((all cb hsz ncb).trans h.blk)]; rfl
  · rw [hK']; show (if b = W.heap.size then _ else _) = none; rw [if_neg (by omega)]; exact h.kn b (by omega)
  · rw [hK']; show (if b = W.heap.size then _ else _) = none; rw [if_neg (by omega)]; exact h.kl b hb
  · refine Below.setCell (B := cb) (p := ⟨cb, 3, none⟩) ?_ (Nat.le_refl _) _
    refine Below.grown ?_ hg (by omega) (fun g e => by have := (row_lt h.re_.row g e).1; omega)
    rw [hW2]
    exact (h.bel.trans ((bel_up W _).mono (by omega))).trans ((bel_up _ x).mono (by simp; omega))
theorem Ct.cuts {rv : Value} {s : ByteArray} {cb : Nat} {K : Nat → Option (Nat × Nat)} {d e q : Nat → Nat} {k1 k2 k3 : Nat} {v1 v2 v3 v' : Value} {w W W2 W3 : World} {x : Obj} (h : Ct rv s cb K d e q k1 k2 k3 v1 v2 v3 w W)
    (hW2 : W2 = (W.alloc (.cells ((List.range (s.size + 1)).map fun _ => (.slice none 0 0 : Value)).toArray 48)).alloc x) (ho : W3.ownsRow (cb + 1) 85 1 v' (k3 + 1) (sl q (s.size + 1) k3 ++ [.slice (some ⟨W.heap.size, 0, none⟩) (s.size + 1) (s.size + 1)])) (hg : W2.grownBy W3 v3.ownBlock) (hat : v'.ownBlock = v3.ownBlock ∨ ∃ g, v'.ownBlock = some g ∧ W2.heap.size ≤ g) :
    ∃ K' f', Ct rv s cb K' d e f' k1 k2 (k3 + 1) v1 v2 v' w (W3.setCell ⟨cb, 4, none⟩ v') := by
  have z2 : W2.heap.size = W.heap.size + 2 := by rw [hW2]; simp
  have hsz := h.sz
  have z3 := hg.size
  have zs : (W3.setCell ⟨cb, 4, none⟩ v').heap.size = W3.heap.size := by simp [World.setCell]
  have b2 : ∀ b, b < W.heap.size → W2.heap[b]? = W.heap[b]? := fun b hb => by rw [hW2]; exact (below_trans (bel_up W _) (bel_up _ x)).block b hb
  have all : ∀ b, b < W.heap.size → v3.ownBlock ≠ some b → W3.heap[b]? = W.heap[b]? := fun b hb hn => (hg.block b (by omega) (fun e => hn e.symm)).trans (b2 b hb)
  have ncb : v3.ownBlock ≠ some cb := fun e => by have := (row_lt h.rq.row cb e).1; omega
  obtain ⟨K', hK'⟩ : ∃ K' : Nat → Option (Nat × Nat), K' = fun b => if b = W.heap.size then some (2, k3) else K b := ⟨_, rfl⟩
  obtain ⟨f', hf'⟩ : ∃ f' : Nat → Nat, f' = fun i => if i = k3 then W.heap.size else q i := ⟨_, rfl⟩
  have kold : ∀ b, b < W.heap.size → K' b = K b := fun b hb => by rw [hK']; exact if_neg (by omega)
  have mine0 : Ro K' (cb + 1) 85 2 (k3 + 1) f' (s.size + 1) (.slice none 0 0) v' W3 := h.rq.push (by omega) hW2 ho hg hat (fun i hi => by rw [hf']; exact if_neg (by omega)) (by rw [hf']; exact if_pos rfl) kold (by rw [hK']; exact if_pos rfl) (fun b hb => by rw [hK']; show (if b = W.heap.size then _ else _) = none; rw [if_neg (by omega)]; exact h.kn b (by omega))
  have mine : Ro K' (cb + 1) 85 2 (k3 + 1) f' (s.size + 1) (.slice none 0 0) v' (W3.setCell ⟨cb, 4, none⟩ v') := mine0.keep (by rw [zs]; exact Nat.le_refl _) (fun b hb hor => Below.heap_setCell _ _ _ _ (by
      show b ≠ cb
      rcases hor with e | ⟨i, hi, e⟩
      · have := (row_lt mine0.row b e).1; omega
      · have := (mine0.lt i hi).1; omega)) (fun _ _ => rfl)
  have o0 : Ro K' (cb + 1) 48 0 k1 d (s.size + 1) (.bool false) v1 (W3.setCell ⟨cb, 4, none⟩ v') := h.rd.keep (by rw [zs]; omega) (fun b hb hor => (Below.heap_setCell _ _ _ _ (by
      show b ≠ cb
      rcases hor with e | ⟨i, hi, e⟩
      · have := (row_lt h.rd.row b e).1; omega
      · have := (h.rd.lt i hi).1; omega)).trans (all b hb (fun e1 => by
      rcases hor with e2 | ⟨i, hi, e2⟩
      · exact h.n13 b e2 e1
      · have k1 := h.rq.own b e1; rw [← e2, h.rd.kk i hi] at k1; cases k1))) kold
  have o1 : Ro K' (cb + 1) 85 1 k2 e (s.size + 1) (.slice none 0 0) v2 (W3.setCell ⟨cb, 4, none⟩ v') := h.re_.keep (by rw [zs]; omega) (fun b hb hor => (Below.heap_setCell _ _ _ _ (by
      show b ≠ cb
      rcases hor with e | ⟨i, hi, e⟩
      · have := (row_lt h.re_.row b e).1; omega
      · have := (h.re_.lt i hi).1; omega)).trans (all b hb (fun e1 => by
      rcases hor with e2 | ⟨i, hi, e2⟩
      · exact h.n23 b e2 e1
      · have k1 := h.rq.own b e1; rw [← e2, h.re_.kk i hi] at k1; cases k1))) kold
  have nn0 : ∀ g, v'.ownBlock = some g → v1.ownBlock ≠ some g := fun g e1 e2 => by
    rcases hat with e3 | ⟨g', e3, hg'⟩
    · rw [e3] at e1; exact h.n13 g e2 e1
    · rw [e3] at e1; injection e1 with e1; have := (row_lt h.rd.row g e2).2; omega
  have nn1 : ∀ g, v'.ownBlock = some g → v2.ownBlock ≠ some g := fun g e1 e2 => by
    rcases hat with e3 | ⟨g', e3, hg'⟩
    · rw [e3] at e1; exact h.n23 g e2 e1
    · rw [e3] at e1; injection e1 with e1; have := (row_lt h.re_.row g e2).2; omega
  refine ⟨K', f', ?_, o0, o1, mine, h.n12, fun g e1 e2 => nn0 g e2 e1, fun g e1 e2 => nn1 g e2 e1, fun b hb => ?_, fun b hb => ?_, by omega, ?_⟩
  · rw [Joins.block_setCell ((all cb hsz ncb).trans h.blk)]; rfl
  · rw [hK']; show (if b = W.heap.size then _ else _) = none; rw [if_neg (by omega)]; exact h.kn b (by omega)
  · rw [hK']; show (if b = W.heap.size then _ else _) = none; rw [if_neg (by omega)]; exact h.kl b hb
  · refine Below.setCell (B := cb) (p := ⟨cb, 4, none⟩) ?_ (Nat.le_refl _) _
    refine Below.grown ?_ hg (by omega) (fun g e => by have := (row_lt h.rq.row g e).1; omega)
    rw [hW2]
    exact (h.bel.trans ((bel_up W _).mono (by omega))).trans ((bel_up _ x).mono (by simp; omega))
end Go.Proofs.YtkjcnnecdclgfaaDoor
namespace Go.Proofs.YtkjcnnecdclgfaaDoor
open Go.RowKit Go.Shelf
attribute [local go_sem] Oper.semAt_some

theorem infoR : (Tryd.prog.info? 85).map (fun i => (i.zero, i.size, i.bytes)) = some (some (.slice none 0 0), 1, 24) := by kernel_rfl
theorem Ct.drew {rv : Value} {s : ByteArray} {cb : Nat} {K : Nat → Option (Nat × Nat)} {d e q : Nat → Nat} {k1 k2 k3 : Nat} {v1 v2 v3 : Value} {w W : World} (h : Ct rv s cb K d e q k1 k2 k3 v1 v2 v3 w W) : Ct rv s cb K d e q k1 k2 k3 v1 v2 v3 w W.drew :=
  ⟨h.blk, h.rd.keep (Nat.le_refl _) (fun _ _ _ => rfl) (fun _ _ => rfl), h.re_.keep (Nat.le_refl _) (fun _ _ _ => rfl) (fun _ _ => rfl), h.rq.keep (Nat.le_refl _) (fun _ _ _ => rfl) (fun _ _ => rfl), h.n12, h.n13, h.n23, h.kn, h.kl, h.sz, Below.drew h.bel⟩
theorem Ct.start (rv : Value) (s : ByteArray) (w : World) : Ct rv s w.heap.size (fun _ => none) (fun _ => 0) (fun _ => 0) (fun _ => 0) 0 0 0 (.slice none 0 0) (.slice none 0 0) (.slice none 0 0) w (w.alloc (.cells #[rv, .string s, .slice none 0 0, .slice none 0 0, .slice none 0 0] 88)) := by
  have em : ∀ (tag r : Nat) (c0 : Value) (W : World), Ro (fun _ => none) (w.heap.size + 1) tag r 0 (fun _ => 0) (s.size + 1) c0 (.slice none 0 0) W := fun tag r c0 W =>
    ⟨⟨rfl, .inl ⟨rfl, rfl⟩⟩, fun g e => (by cases e), fun i hi => absurd hi (Nat.not_lt_zero _), fun i hi => absurd hi (Nat.not_lt_zero _), fun i hi => absurd hi (Nat.not_lt_zero _), fun i hi => absurd hi (Nat.not_lt_zero _)⟩
  exact ⟨(MapKept.heap_alloc w _).1, em _ _ _ _, em _ _ _ _, em _ _ _ _, fun g e => (by cases e), fun g e => (by cases e), fun g e => (by cases e), fun _ _ => rfl, fun _ _ => rfl, by simp, bel_up w _⟩

set_option maxRecDepth 100000 in
set_option maxHeartbeats 8000000 in
theorem rchart_any (re : List Nd) (s : ByteArray) (lp : Option Addr) (cap : Nat) (w : World) (hl : re.length ≤ 128) (hs : s.size + 2 ≤ 1099511627776) :
    Calls Tryd.prog 35 #[.slice lp re.length cap, .string s] w fun e W => ∃ K d e' q v1 v2 v3, e = .returned (.pointer (some ⟨w.heap.size, 0, none⟩)) ∧ Ct (.slice lp re.length cap) s w.heap.size K d e' q re.length re.length re.length v1 v2 v3 w W := by
  obtain ⟨nr, hnr⟩ : ∃ nr, re.length = nr := ⟨_, rfl⟩
  rw [hnr] at hl ⊢
  clear hnr
  obtain ⟨n, hn⟩ : ∃ n, s.size + 1 = n := ⟨_, rfl⟩
  have HN1 : Hid (s.size + 1 = n) := hn
  have hn40 : n ≤ 1099511627776 := by omega
  clear hn
  obtain ⟨i48, hi0, hi1, hi2, hi3⟩ := info_parts infoS
  have HI48 : Hid (Tryd.prog.info? 48 = some i48 ∧ i48.zero = some (.slice none 0 0) ∧ i48.size = 1 ∧ i48.bytes = 24) := ⟨hi0, hi1, hi2, hi3⟩
  obtain ⟨i85, hj0, hj1, hj2, hj3⟩ := info_parts infoR
  have HI85 : Hid (Tryd.prog.info? 85 = some i85 ∧ i85.zero = some (.slice none 0 0) ∧ i85.size = 1 ∧ i85.bytes = 24) := ⟨hj0, hj1, hj2, hj3⟩
  clear hi0 hi1 hi2 hi3 hj0 hj1 hj2 hj3
  have HMB : Hid (∀ W : World, (Instr.makeSlice 48 (.int .i64 ((s.size : Int) + 1)) (.int .i64 ((s.size : Int) + 1))).run Tryd.prog W = .ok (.slice (some ⟨W.heap.size, 0, none⟩) n n) (W.alloc (.cells ((List.range n).map fun _ => (.bool false : Value)).toArray 4))) := fun W => by
    have := makeB n (by omega) W
    rw [← HN1.out] at this ⊢
    exact this
  have HMR : Hid (∀ W : World, (Instr.makeSlice 85 (.int .i64 ((s.size : Int) + 1)) (.int .i64 ((s.size : Int) + 1))).run Tryd.prog W = .ok (.slice (some ⟨W.heap.size, 0, none⟩) n n) (W.alloc (.cells ((List.range n).map fun _ => (.slice none 0 0 : Value)).toArray 48))) := fun W => by
    have := makeR n (by omega) W
    rw [← HN1.out] at this ⊢
    exact this
  have HWR : Hid (IntKind.i64.wrap ((s.size : Int) + 1) = (s.size : Int) + 1) := by show _ = _; rw [IntKind.wrap_i64]; omega
  obtain ⟨cb, hcb⟩ : ∃ cb, w.heap.size = cb := ⟨_, rfl⟩
  have HCB : Hid (w.heap.size = cb) := hcb
  clear hcb
  have HC0 : Hid _ := Ct.start (.slice lp nr cap) s w
  go_enter Tryd.func35, Tryd.ntmps35
  go_wp2_with fail
  obtain ⟨W0, hW0⟩ : ∃ W0, W0 = w.alloc (.cells #[.slice lp nr cap, .string s, .slice none 0 0, .slice none 0 0, .slice none 0 0] 88) := ⟨_, rfl⟩
  rw [← hW0] at HC0 ⊢
  rw [HCB.out] at HC0 ⊢
  clear hW0
  go_loopg [6] nr (fun gh v6 wr => ∃ (k : Nat) (K : Nat → Option (Nat × Nat)) (d e q : Nat → Nat) (v1 v2 v3 : Value), v6 = .int .i64 (k : Int) ∧ k ≤ nr ∧ gh = nr - k ∧ Hid (Ct (.slice lp nr cap) s cb K d e q k k k v1 v2 v3 w wr))
  case atStart => exact ⟨0, _, _, _, _, _, _, _, rfl, by omega, rfl, HC0⟩
  case round =>
    obtain ⟨k, K, d, e, q, v1, v2, v3, rfl, hk, hg, HC⟩ := hrel
    have HG : Hid (gk = nr - k) := hg
    clear hg
    by_cases hkn : k < nr
    · go_upto_region 5 with fail
      go_cut [] from 17 to 29 (fun wx => ∃ (K' : Nat → Option (Nat × Nat)) (f' : Nat → Nat) (v' : Value), Hid (Ct (.slice lp nr cap) s cb K' f' e q (k + 1) k k v' v2 v3 w wx))
      case first =>
        obtain ⟨WD, hWD⟩ : ∃ WD, wr.drew = WD := ⟨_, rfl⟩
        have CD : Hid (Ct (.slice lp nr cap) s cb K d e q k k k v1 v2 v3 w WD) := by rw [← hWD]; exact HC.out.drew
        have kc0 : WD.cell? ⟨cb, 2, none⟩ = some v1 := by rw [Lib.cell_of_heap CD.out.blk]; rfl
        have kc1 : (WD.alloc (.cells ((List.range n).map fun _ => (.bool false : Value)).toArray 4)).cell? ⟨cb, 2, none⟩ = some v1 := cell_up _ kc0
        have kc2 : ((WD.alloc (.cells ((List.range n).map fun _ => (.bool false : Value)).toArray 4)).alloc (.cells #[.slice (some ⟨WD.heap.size, 0, none⟩) n n] 48)).cell? ⟨cb, 2, none⟩ = some v1 := cell_up _ kc1
        have hmk := HMB.out
        have RW : Hid (((WD.alloc (.cells ((List.range n).map fun _ => (.bool false : Value)).toArray 4)).alloc (.cells #[.slice (some ⟨WD.heap.size, 0, none⟩) n n] 48)).ownsRow (cb + 1) 48 1 v1 k (sl d n k)) := by rw [← HN1.out]; exact (CD.out.rd.row.alloc _).alloc _
        have LB : Hid (cb + 1 ≤ ((WD.alloc (.cells ((List.range n).map fun _ => (.bool false : Value)).toArray 4)).alloc (.cells #[.slice (some ⟨WD.heap.size, 0, none⟩) n n] 48)).heap.size) := by have := CD.out.sz; show _ ≤ _; simp; omega
        refine wp_region_noPanic ?_
        refine wp_region_held_drew (S := fun _ => True) (by kernel_rfl) trivial (fun hHeld => ?_)
        rw [hWD]
        clear hWD
        refine wpAnyH_take (i := 0) (oi := { dst := _, op := _, type := _, pos := _, after := _, guard := _ }) (v := ?_) rfl (by kernel_rfl) (by kernel_rfl) (by kernel_rfl) (fun _ _ _ h => h) (Or.inl ⟨by rfl, ?_⟩) (by assumption) ?_
        rotate_left
        · intro W hSw
          (try dsimp only at hSw)
          go_simp
          (try with_reducible rfl)
        try simp only [Act.put, List.setIfInBounds_toArray, List.set_cons_zero, List.set_cons_succ]
        refine wpAnyH_take (i := 1) (oi := { dst := _, op := _, type := _, pos := _, after := _, guard := _ }) (v := ?_) rfl (by kernel_rfl) (by kernel_rfl) (by kernel_rfl) (fun _ _ _ h => h) (Or.inl ⟨by rfl, ?_⟩) (by assumption) ?_
        rotate_left
        · intro W hSw
          (try dsimp only at hSw)
          go_simp
          (try with_reducible rfl)
        try simp only [Act.put, List.setIfInBounds_toArray, List.set_cons_zero, List.set_cons_succ]
        refine wpAnyH_take (i := 2) (oi := { dst := _, op := _, type := _, pos := _, after := _, guard := _ }) (v := ?_) rfl (by kernel_rfl) (by kernel_rfl) (by kernel_rfl) (fun _ _ _ h => h) (Or.inl ⟨by rfl, ?_⟩) (by assumption) ?_
        rotate_left
        · intro W hSw
          (try dsimp only at hSw)
          go_simp
          (try with_reducible rfl)
        try simp only [Act.put, List.setIfInBounds_toArray, List.set_cons_zero, List.set_cons_succ]
        refine wpAnyH_take (i := 3) (oi := { dst := _, op := _, type := _, pos := _, after := _, guard := _ }) (v := ?_) rfl (by kernel_rfl) (by kernel_rfl) (by kernel_rfl) (fun _ _ _ h => h) (Or.inl ⟨by rfl, ?_⟩) (by assumption) ?_
        rotate_left
        · intro W hSw
          (try dsimp only at hSw)
          go_simp
          (try with_reducible rfl)
        try simp only [Act.put, List.setIfInBounds_toArray, List.set_cons_zero, List.set_cons_succ]
        refine wpAnyH_take (i := 5) (oi := { dst := _, op := _, type := _, pos := _, after := _, guard := _ }) (v := ?_) rfl (by kernel_rfl) (by kernel_rfl) (by kernel_rfl) (fun _ _ _ h => h) (Or.inl ⟨by rfl, ?_⟩) (by assumption) ?_
        rotate_left
        · intro W hSw
          (try dsimp only at hSw)
          go_simp
          (try with_reducible rfl)
        try simp only [Act.put, List.setIfInBounds_toArray, List.set_cons_zero, List.set_cons_succ]
        refine wpAnyH_take (i := 6) (oi := { dst := _, op := _, type := _, pos := _, after := _, guard := _ }) (v := ?_) rfl (by kernel_rfl) (by kernel_rfl) (by kernel_rfl) (fun _ _ _ h => h) (Or.inl ⟨by rfl, ?_⟩) (by assumption) ?_
        rotate_left
        · intro W hSw
          (try dsimp only at hSw)
          go_simp
          (try with_reducible rfl)
        try simp only [Act.put, List.setIfInBounds_toArray, List.set_cons_zero, List.set_cons_succ]
        refine wpAnyH_take (i := 7) (oi := { dst := _, op := _, type := _, pos := _, after := _, guard := _ }) (v := ?_) rfl (by kernel_rfl) (by kernel_rfl) (by kernel_rfl) (fun _ _ _ h => h) (Or.inl ⟨by rfl, ?_⟩) (by assumption) ?_
        rotate_left
        · intro W hSw
          (try dsimp only at hSw)
          have wr1 := HWR.out
          go_simp
          (try with_reducible rfl)
        try simp only [Act.put, List.setIfInBounds_toArray, List.set_cons_zero, List.set_cons_succ]
        refine wpAnyH_ready (rs := [4, 8]) (by kernel_rfl) (by simp) ?_
        refine AllReadyH.cons (o := { dst := _, op := _, type := _, pos := _, after := _, guard := _ }) rfl (fun K hK => ?_) (AllReadyH.cons (o := { dst := _, op := _, type := _, pos := _, after := _, guard := _ }) rfl (fun K hK => ?_) (AllReadyH.nil))
        · go_simp
          refine hK.out _ _ ?_ (fun hHeld => ?_)
          · exact trivial
          clear hK K
          try simp only [Act.put, List.setIfInBounds_toArray, List.set_cons_zero, List.set_cons_succ]
          refine wpAnyH_ready (rs := [8]) (by kernel_rfl) (by simp) ?_
          refine AllReadyH.cons (o := { dst := _, op := _, type := _, pos := _, after := _, guard := _ }) rfl (fun K hK => ?_) AllReadyH.nil
          go_simp
          refine hK.out _ _ ?_ (fun hHeld => ?_)
          · exact trivial
          clear hK K
          try simp only [Act.put, List.setIfInBounds_toArray, List.set_cons_zero, List.set_cons_succ]
          refine wpAnyH_ready (rs := [9]) (by kernel_rfl) (by simp) ?_
          refine AllReadyH.cons (o := { dst := _, op := _, type := _, pos := _, after := _, guard := _ }) rfl (fun K hK => ?_) AllReadyH.nil
          go_simp
          refine hK.out _ _ ?_ (fun hHeld => ?_)
          · exact trivial
          clear hK K
          try simp only [Act.put, List.setIfInBounds_toArray, List.set_cons_zero, List.set_cons_succ]
          refine wpAnyH_ready (rs := [10]) (by kernel_rfl) (by simp) ?_
          refine AllReadyH.cons (o := { dst := _, op := _, type := _, pos := _, after := _, guard := _ }) rfl (fun K hK => ?_) AllReadyH.nil
          refine step_append_lies _ rfl (.tmp 21) (.tmp 26) 85 rfl (cb + 1) 48 i48 _ 1 24 Tryd.underlying85 HI48.out.1 HI48.out.2.1 HI48.out.2.2.1 HI48.out.2.2.2 rfl (by decide) v1 _ _ rfl RW.out ⟨WD.heap.size + 1, 0, none⟩ 1 1 [.slice (some ⟨WD.heap.size, 0, none⟩) n n] rfl rfl (by have := cell_one_new (WD.alloc (.cells ((List.range n).map fun _ => (.bool false : Value)).toArray 4)) (.slice (some ⟨WD.heap.size, 0, none⟩) n n) 48; rw [World.size_alloc] at this; exact this) (by intro y hy; simp at hy; subst hy; rfl) (by decide) (by unfold maxLen; omega) (by omega) LB.out (WD.heap.size + 2) (by simp) ?_
          intro g' cap' w' h2 h3 h4 h5
          have HO : Hid _ := h2
          have HG3 : Hid _ := h3
          have HAT : Hid _ := h4
          have ncb : v1.ownBlock ≠ some cb := fun e => by have := (row_lt CD.out.rd.row cb e).1; omega
          have k0b : w'.cell? ⟨cb, 2, none⟩ = some v1 := h3.cell kc2 (fun e => ncb e.symm)
          have f0b : w'.frozen? ⟨cb, 2, none⟩ = false := Lib.frozen_of_heap ((h3.block cb (by have := CD.out.sz; simp; omega) (fun e => ncb e.symm)).trans ((below_trans (bel_up WD _) (bel_up _ _)).block cb CD.out.sz |>.trans CD.out.blk)) 2
          clear h2 h3 h4 h5 kc0 kc1 kc2 ncb
          refine hK.out _ _ ?_ (fun hHeld => ?_)
          · exact trivial
          clear hK K
          try simp only [Act.put, List.setIfInBounds_toArray, List.set_cons_zero, List.set_cons_succ]
          refine wpAnyH_take (i := 11) (oi := { dst := _, op := _, type := _, pos := _, after := _, guard := _ }) (v := ?_) rfl (by kernel_rfl) (by kernel_rfl) (by kernel_rfl) (fun _ _ _ h => h) (Or.inl ⟨by rfl, ?_⟩) (by assumption) ?_
          rotate_left
          · intro W hSw
            (try dsimp only at hSw)
            go_simp
            (try with_reducible rfl)
          try simp only [Act.put, List.setIfInBounds_toArray, List.set_cons_zero, List.set_cons_succ]
          refine wpAnyH_take (i := 12) (oi := { dst := _, op := _, type := _, pos := _, after := _, guard := _ }) (v := ?_) rfl (by kernel_rfl) (by kernel_rfl) (by kernel_rfl) (fun _ _ _ h => h) (Or.inl ⟨by rfl, ?_⟩) (by assumption) ?_
          rotate_left
          · intro W hSw
            (try dsimp only at hSw)
            go_simp
            (try with_reducible rfl)
          try simp only [Act.put, List.setIfInBounds_toArray, List.set_cons_zero, List.set_cons_succ]
          refine wpAnyH_ready (rs := [13]) (by kernel_rfl) (by simp) ?_
          refine AllReadyH.cons (o := { dst := _, op := _, type := _, pos := _, after := _, guard := _ }) rfl (fun K hK => ?_) AllReadyH.nil
          go_simp
          refine hK.out _ _ ?_ (fun hHeld => ?_)
          · exact trivial
          clear hK K
          try simp only [Act.put, List.setIfInBounds_toArray, List.set_cons_zero, List.set_cons_succ]
          refine wpAnyH_done (by kernel_rfl) ?_ _
          refine NoPanic.normal ?_
          clear hHeld k0b f0b
          go_wp2_with fail
          go_meet
          have HO1 := HO.out
          have HAT1 : (Value.slice (some ⟨g', 0, none⟩) (k + 1) cap').ownBlock = v1.ownBlock ∨ ∃ g, (Value.slice (some ⟨g', 0, none⟩) (k + 1) cap').ownBlock = some g ∧ ((WD.alloc (.cells ((List.range n).map fun _ => (.bool false : Value)).toArray 4)).alloc (.cells #[.slice (some ⟨WD.heap.size, 0, none⟩) n n] 48)).heap.size ≤ g := by
            rcases HAT.out with h | h
            · exact .inl h.symm
            · exact .inr ⟨g', rfl, by rw [h]; simp⟩
          rw [← HN1.out] at HO1
          obtain ⟨K', f', hc⟩ := CD.out.done (by rw [HN1.out]) HO1 HG3.out HAT1
          exact ⟨K', f', _, hc⟩
        · go_simp
          refine hK.out _ _ ?_ (fun hHeld => ?_)
          · exact trivial
          clear hK K
          try simp only [Act.put, List.setIfInBounds_toArray, List.set_cons_zero, List.set_cons_succ]
          refine wpAnyH_ready (rs := [4, 9]) (by kernel_rfl) (by simp) ?_
          refine AllReadyH.cons (o := { dst := _, op := _, type := _, pos := _, after := _, guard := _ }) rfl (fun K hK => ?_) (AllReadyH.cons (o := { dst := _, op := _, type := _, pos := _, after := _, guard := _ }) rfl (fun K hK => ?_) (AllReadyH.nil))
          · go_simp
            refine hK.out _ _ ?_ (fun hHeld => ?_)
            · exact trivial
            clear hK K
            try simp only [Act.put, List.setIfInBounds_toArray, List.set_cons_zero, List.set_cons_succ]
            refine wpAnyH_ready (rs := [9]) (by kernel_rfl) (by simp) ?_
            refine AllReadyH.cons (o := { dst := _, op := _, type := _, pos := _, after := _, guard := _ }) rfl (fun K hK => ?_) AllReadyH.nil
            go_simp
            refine hK.out _ _ ?_ (fun hHeld => ?_)
            · exact trivial
            clear hK K
            try simp only [Act.put, List.setIfInBounds_toArray, List.set_cons_zero, List.set_cons_succ]
            refine wpAnyH_ready (rs := [10]) (by kernel_rfl) (by simp) ?_
            refine AllReadyH.cons (o := { dst := _, op := _, type := _, pos := _, after := _, guard := _ }) rfl (fun K hK => ?_) AllReadyH.nil
            refine step_append_lies _ rfl (.tmp 21) (.tmp 26) 85 rfl (cb + 1) 48 i48 _ 1 24 Tryd.underlying85 HI48.out.1 HI48.out.2.1 HI48.out.2.2.1 HI48.out.2.2.2 rfl (by decide) v1 _ _ rfl RW.out ⟨WD.heap.size + 1, 0, none⟩ 1 1 [.slice (some ⟨WD.heap.size, 0, none⟩) n n] rfl rfl (by have := cell_one_new (WD.alloc (.cells ((List.range n).map fun _ => (.bool false : Value)).toArray 4)) (.slice (some ⟨WD.heap.size, 0, none⟩) n n) 48; rw [World.size_alloc] at this; exact this) (by intro y hy; simp at hy; subst hy; rfl) (by decide) (by unfold maxLen; omega) (by omega) LB.out (WD.heap.size + 2) (by simp) ?_
            intro g' cap' w' h2 h3 h4 h5
            have HO : Hid _ := h2
            have HG3 : Hid _ := h3
            have HAT : Hid _ := h4
            have ncb : v1.ownBlock ≠ some cb := fun e => by have := (row_lt CD.out.rd.row cb e).1; omega
            have k0b : w'.cell? ⟨cb, 2, none⟩ = some v1 := h3.cell kc2 (fun e => ncb e.symm)
            have f0b : w'.frozen? ⟨cb, 2, none⟩ = false := Lib.frozen_of_heap ((h3.block cb (by have := CD.out.sz; simp; omega) (fun e => ncb e.symm)).trans ((below_trans (bel_up WD _) (bel_up _ _)).block cb CD.out.sz |>.trans CD.out.blk)) 2
            clear h2 h3 h4 h5 kc0 kc1 kc2 ncb
            refine hK.out _ _ ?_ (fun hHeld => ?_)
            · exact trivial
            clear hK K
            try simp only [Act.put, List.setIfInBounds_toArray, List.set_cons_zero, List.set_cons_succ]
            refine wpAnyH_take (i := 11) (oi := { dst := _, op := _, type := _, pos := _, after := _, guard := _ }) (v := ?_) rfl (by kernel_rfl) (by kernel_rfl) (by kernel_rfl) (fun _ _ _ h => h) (Or.inl ⟨by rfl, ?_⟩) (by assumption) ?_
            rotate_left
            · intro W hSw
              (try dsimp only at hSw)
              go_simp
              (try with_reducible rfl)
            try simp only [Act.put, List.setIfInBounds_toArray, List.set_cons_zero, List.set_cons_succ]
            refine wpAnyH_take (i := 12) (oi := { dst := _, op := _, type := _, pos := _, after := _, guard := _ }) (v := ?_) rfl (by kernel_rfl) (by kernel_rfl) (by kernel_rfl) (fun _ _ _ h => h) (Or.inl ⟨by rfl, ?_⟩) (by assumption) ?_
            rotate_left
            · intro W hSw
              (try dsimp only at hSw)
              go_simp
              (try with_reducible rfl)
            try simp only [Act.put, List.setIfInBounds_toArray, List.set_cons_zero, List.set_cons_succ]
            refine wpAnyH_ready (rs := [13]) (by kernel_rfl) (by simp) ?_
            refine AllReadyH.cons (o := { dst := _, op := _, type := _, pos := _, after := _, guard := _ }) rfl (fun K hK => ?_) AllReadyH.nil
            go_simp
            refine hK.out _ _ ?_ (fun hHeld => ?_)
            · exact trivial
            clear hK K
            try simp only [Act.put, List.setIfInBounds_toArray, List.set_cons_zero, List.set_cons_succ]
            refine wpAnyH_done (by kernel_rfl) ?_ _
            refine NoPanic.normal ?_
            clear hHeld k0b f0b
            go_wp2_with fail
            go_meet
            have HO1 := HO.out
            have HAT1 : (Value.slice (some ⟨g', 0, none⟩) (k + 1) cap').ownBlock = v1.ownBlock ∨ ∃ g, (Value.slice (some ⟨g', 0, none⟩) (k + 1) cap').ownBlock = some g ∧ ((WD.alloc (.cells ((List.range n).map fun _ => (.bool false : Value)).toArray 4)).alloc (.cells #[.slice (some ⟨WD.heap.size, 0, none⟩) n n] 48)).heap.size ≤ g := by
              rcases HAT.out with h | h
              · exact .inl h.symm
              · exact .inr ⟨g', rfl, by rw [h]; simp⟩
            rw [← HN1.out] at HO1
            obtain ⟨K', f', hc⟩ := CD.out.done (by rw [HN1.out]) HO1 HG3.out HAT1
            exact ⟨K', f', _, hc⟩
          · go_simp
            refine hK.out _ _ ?_ (fun hHeld => ?_)
            · exact trivial
            clear hK K
            try simp only [Act.put, List.setIfInBounds_toArray, List.set_cons_zero, List.set_cons_succ]
            refine wpAnyH_ready (rs := [4]) (by kernel_rfl) (by simp) ?_
            refine AllReadyH.cons (o := { dst := _, op := _, type := _, pos := _, after := _, guard := _ }) rfl (fun K hK => ?_) AllReadyH.nil
            go_simp
            refine hK.out _ _ ?_ (fun hHeld => ?_)
            · exact trivial
            clear hK K
            try simp only [Act.put, List.setIfInBounds_toArray, List.set_cons_zero, List.set_cons_succ]
            refine wpAnyH_ready (rs := [10]) (by kernel_rfl) (by simp) ?_
            refine AllReadyH.cons (o := { dst := _, op := _, type := _, pos := _, after := _, guard := _ }) rfl (fun K hK => ?_) AllReadyH.nil
            refine step_append_lies _ rfl (.tmp 21) (.tmp 26) 85 rfl (cb + 1) 48 i48 _ 1 24 Tryd.underlying85 HI48.out.1 HI48.out.2.1 HI48.out.2.2.1 HI48.out.2.2.2 rfl (by decide) v1 _ _ rfl RW.out ⟨WD.heap.size + 1, 0, none⟩ 1 1 [.slice (some ⟨WD.heap.size, 0, none⟩) n n] rfl rfl (by have := cell_one_new (WD.alloc (.cells ((List.range n).map fun _ => (.bool false : Value)).toArray 4)) (.slice (some ⟨WD.heap.size, 0, none⟩) n n) 48; rw [World.size_alloc] at this; exact this) (by intro y hy; simp at hy; subst hy; rfl) (by decide) (by unfold maxLen; omega) (by omega) LB.out (WD.heap.size + 2) (by simp) ?_
            intro g' cap' w' h2 h3 h4 h5
            have HO : Hid _ := h2
            have HG3 : Hid _ := h3
            have HAT : Hid _ := h4
            have ncb : v1.ownBlock ≠ some cb := fun e => by have := (row_lt CD.out.rd.row cb e).1; omega
            have k0b : w'.cell? ⟨cb, 2, none⟩ = some v1 := h3.cell kc2 (fun e => ncb e.symm)
            have f0b : w'.frozen? ⟨cb, 2, none⟩ = false := Lib.frozen_of_heap ((h3.block cb (by have := CD.out.sz; simp; omega) (fun e => ncb e.symm)).trans ((below_trans (bel_up WD _) (bel_up _ _)).block cb CD.out.sz |>.trans CD.out.blk)) 2
            clear h2 h3 h4 h5 kc0 kc1 kc2 ncb
            refine hK.out _ _ ?_ (fun hHeld => ?_)
            · exact trivial
            clear hK K
            try simp only [Act.put, List.setIfInBounds_toArray, List.set_cons_zero, List.set_cons_succ]
            refine wpAnyH_take (i := 11) (oi := { dst := _, op := _, type := _, pos := _, after := _, guard := _ }) (v := ?_) rfl (by kernel_rfl) (by kernel_rfl) (by kernel_rfl) (fun _ _ _ h => h) (Or.inl ⟨by rfl, ?_⟩) (by assumption) ?_
            rotate_left
            · intro W hSw
              (try dsimp only at hSw)
              go_simp
              (try with_reducible rfl)
            try simp only [Act.put, List.setIfInBounds_toArray, List.set_cons_zero, List.set_cons_succ]
            refine wpAnyH_take (i := 12) (oi := { dst := _, op := _, type := _, pos := _, after := _, guard := _ }) (v := ?_) rfl (by kernel_rfl) (by kernel_rfl) (by kernel_rfl) (fun _ _ _ h => h) (Or.inl ⟨by rfl, ?_⟩) (by assumption) ?_
            rotate_left
            · intro W hSw
              (try dsimp only at hSw)
              go_simp
              (try with_reducible rfl)
            try simp only [Act.put, List.setIfInBounds_toArray, List.set_cons_zero, List.set_cons_succ]
            refine wpAnyH_ready (rs := [13]) (by kernel_rfl) (by simp) ?_
            refine AllReadyH.cons (o := { dst := _, op := _, type := _, pos := _, after := _, guard := _ }) rfl (fun K hK => ?_) AllReadyH.nil
            go_simp
            refine hK.out _ _ ?_ (fun hHeld => ?_)
            · exact trivial
            clear hK K
            try simp only [Act.put, List.setIfInBounds_toArray, List.set_cons_zero, List.set_cons_succ]
            refine wpAnyH_done (by kernel_rfl) ?_ _
            refine NoPanic.normal ?_
            clear hHeld k0b f0b
            go_wp2_with fail
            go_meet
            have HO1 := HO.out
            have HAT1 : (Value.slice (some ⟨g', 0, none⟩) (k + 1) cap').ownBlock = v1.ownBlock ∨ ∃ g, (Value.slice (some ⟨g', 0, none⟩) (k + 1) cap').ownBlock = some g ∧ ((WD.alloc (.cells ((List.range n).map fun _ => (.bool false : Value)).toArray 4)).alloc (.cells #[.slice (some ⟨WD.heap.size, 0, none⟩) n n] 48)).heap.size ≤ g := by
              rcases HAT.out with h | h
              · exact .inl h.symm
              · exact .inr ⟨g', rfl, by rw [h]; simp⟩
            rw [← HN1.out] at HO1
            obtain ⟨K', f', hc⟩ := CD.out.done (by rw [HN1.out]) HO1 HG3.out HAT1
            exact ⟨K', f', _, hc⟩
      case rest =>
        clear HC
        obtain ⟨K, d, v1, HC⟩ := hcut
        go_upto_region 6 with fail
        go_cut [] from 30 to 42 (fun wx => ∃ (K' : Nat → Option (Nat × Nat)) (f' : Nat → Nat) (v' : Value), Hid (Ct (.slice lp nr cap) s cb K' d f' q (k + 1) (k + 1) k v1 v' v3 w wx))
        case first =>
          obtain ⟨WD, hWD⟩ : ∃ WD, wc.drew = WD := ⟨_, rfl⟩
          have CD : Hid (Ct (.slice lp nr cap) s cb K d e q (k + 1) k k v1 v2 v3 w WD) := by rw [← hWD]; exact HC.out.drew
          have kc0 : WD.cell? ⟨cb, 3, none⟩ = some v2 := by rw [Lib.cell_of_heap CD.out.blk]; rfl
          have kc1 : (WD.alloc (.cells ((List.range n).map fun _ => (.slice none 0 0 : Value)).toArray 48)).cell? ⟨cb, 3, none⟩ = some v2 := cell_up _ kc0
          have kc2 : ((WD.alloc (.cells ((List.range n).map fun _ => (.slice none 0 0 : Value)).toArray 48)).alloc (.cells #[.slice (some ⟨WD.heap.size, 0, none⟩) n n] 85)).cell? ⟨cb, 3, none⟩ = some v2 := cell_up _ kc1
          have hmk := HMR.out
          have RW : Hid (((WD.alloc (.cells ((List.range n).map fun _ => (.slice none 0 0 : Value)).toArray 48)).alloc (.cells #[.slice (some ⟨WD.heap.size, 0, none⟩) n n] 85)).ownsRow (cb + 1) 85 1 v2 k (sl e n k)) := by rw [← HN1.out]; exact (CD.out.re_.row.alloc _).alloc _
          have LB : Hid (cb + 1 ≤ ((WD.alloc (.cells ((List.range n).map fun _ => (.slice none 0 0 : Value)).toArray 48)).alloc (.cells #[.slice (some ⟨WD.heap.size, 0, none⟩) n n] 85)).heap.size) := by have := CD.out.sz; show _ ≤ _; simp; omega
          refine wp_region_noPanic ?_
          refine wp_region_held_drew (S := fun _ => True) (by kernel_rfl) trivial (fun hHeld => ?_)
          rw [hWD]
          clear hWD
          refine wpAnyH_take (i := 0) (oi := { dst := _, op := _, type := _, pos := _, after := _, guard := _ }) (v := ?_) rfl (by kernel_rfl) (by kernel_rfl) (by kernel_rfl) (fun _ _ _ h => h) (Or.inl ⟨by rfl, ?_⟩) (by assumption) ?_
          rotate_left
          · intro W hSw
            (try dsimp only at hSw)
            go_simp
            (try with_reducible rfl)
          try simp only [Act.put, List.setIfInBounds_toArray, List.set_cons_zero, List.set_cons_succ]
          refine wpAnyH_take (i := 1) (oi := { dst := _, op := _, type := _, pos := _, after := _, guard := _ }) (v := ?_) rfl (by kernel_rfl) (by kernel_rfl) (by kernel_rfl) (fun _ _ _ h => h) (Or.inl ⟨by rfl, ?_⟩) (by assumption) ?_
          rotate_left
          · intro W hSw
            (try dsimp only at hSw)
            go_simp
            (try with_reducible rfl)
          try simp only [Act.put, List.setIfInBounds_toArray, List.set_cons_zero, List.set_cons_succ]
          refine wpAnyH_take (i := 2) (oi := { dst := _, op := _, type := _, pos := _, after := _, guard := _ }) (v := ?_) rfl (by kernel_rfl) (by kernel_rfl) (by kernel_rfl) (fun _ _ _ h => h) (Or.inl ⟨by rfl, ?_⟩) (by assumption) ?_
          rotate_left
          · intro W hSw
            (try dsimp only at hSw)
            go_simp
            (try with_reducible rfl)
          try simp only [Act.put, List.setIfInBounds_toArray, List.set_cons_zero, List.set_cons_succ]
          refine wpAnyH_take (i := 3) (oi := { dst := _, op := _, type := _, pos := _, after := _, guard := _ }) (v := ?_) rfl (by kernel_rfl) (by kernel_rfl) (by kernel_rfl) (fun _ _ _ h => h) (Or.inl ⟨by rfl, ?_⟩) (by assumption) ?_
          rotate_left
          · intro W hSw
            (try dsimp only at hSw)
            go_simp
            (try with_reducible rfl)
          try simp only [Act.put, List.setIfInBounds_toArray, List.set_cons_zero, List.set_cons_succ]
          refine wpAnyH_take (i := 5) (oi := { dst := _, op := _, type := _, pos := _, after := _, guard := _ }) (v := ?_) rfl (by kernel_rfl) (by kernel_rfl) (by kernel_rfl) (fun _ _ _ h => h) (Or.inl ⟨by rfl, ?_⟩) (by assumption) ?_
          rotate_left
          · intro W hSw
            (try dsimp only at hSw)
            go_simp
            (try with_reducible rfl)
          try simp only [Act.put, List.setIfInBounds_toArray, List.set_cons_zero, List.set_cons_succ]
          refine wpAnyH_take (i := 6) (oi := { dst := _, op := _, type := _, pos := _, after := _, guard := _ }) (v := ?_) rfl (by kernel_rfl) (by kernel_rfl) (by kernel_rfl) (fun _ _ _ h => h) (Or.inl ⟨by rfl, ?_⟩) (by assumption) ?_
          rotate_left
          · intro W hSw
            (try dsimp only at hSw)
            go_simp
            (try with_reducible rfl)
          try simp only [Act.put, List.setIfInBounds_toArray, List.set_cons_zero, List.set_cons_succ]
          refine wpAnyH_take (i := 7) (oi := { dst := _, op := _, type := _, pos := _, after := _, guard := _ }) (v := ?_) rfl (by kernel_rfl) (by kernel_rfl) (by kernel_rfl) (fun _ _ _ h => h) (Or.inl ⟨by rfl, ?_⟩) (by assumption) ?_
          rotate_left
          · intro W hSw
            (try dsimp only at hSw)
            have wr1 := HWR.out
            go_simp
            (try with_reducible rfl)
          try simp only [Act.put, List.setIfInBounds_toArray, List.set_cons_zero, List.set_cons_succ]
          refine wpAnyH_ready (rs := [4, 8]) (by kernel_rfl) (by simp) ?_
          refine AllReadyH.cons (o := { dst := _, op := _, type := _, pos := _, after := _, guard := _ }) rfl (fun K hK => ?_) (AllReadyH.cons (o := { dst := _, op := _, type := _, pos := _, after := _, guard := _ }) rfl (fun K hK => ?_) (AllReadyH.nil))
          · go_simp
            refine hK.out _ _ ?_ (fun hHeld => ?_)
            · exact trivial
            clear hK K
            try simp only [Act.put, List.setIfInBounds_toArray, List.set_cons_zero, List.set_cons_succ]
            refine wpAnyH_ready (rs := [8]) (by kernel_rfl) (by simp) ?_
            refine AllReadyH.cons (o := { dst := _, op := _, type := _, pos := _, after := _, guard := _ }) rfl (fun K hK => ?_) AllReadyH.nil
            go_simp
            refine hK.out _ _ ?_ (fun hHeld => ?_)
            · exact trivial
            clear hK K
            try simp only [Act.put, List.setIfInBounds_toArray, List.set_cons_zero, List.set_cons_succ]
            refine wpAnyH_ready (rs := [9]) (by kernel_rfl) (by simp) ?_
            refine AllReadyH.cons (o := { dst := _, op := _, type := _, pos := _, after := _, guard := _ }) rfl (fun K hK => ?_) AllReadyH.nil
            go_simp
            refine hK.out _ _ ?_ (fun hHeld => ?_)
            · exact trivial
            clear hK K
            try simp only [Act.put, List.setIfInBounds_toArray, List.set_cons_zero, List.set_cons_succ]
            refine wpAnyH_ready (rs := [10]) (by kernel_rfl) (by simp) ?_
            refine AllReadyH.cons (o := { dst := _, op := _, type := _, pos := _, after := _, guard := _ }) rfl (fun K hK => ?_) AllReadyH.nil
            refine step_append_lies _ rfl (.tmp 34) (.tmp 39) 86 rfl (cb + 1) 85 i85 _ 1 24 Tryd.underlying86 HI85.out.1 HI85.out.2.1 HI85.out.2.2.1 HI85.out.2.2.2 rfl (by decide) v2 _ _ rfl RW.out ⟨WD.heap.size + 1, 0, none⟩ 1 1 [.slice (some ⟨WD.heap.size, 0, none⟩) n n] rfl rfl (by have := cell_one_new (WD.alloc (.cells ((List.range n).map fun _ => (.slice none 0 0 : Value)).toArray 48)) (.slice (some ⟨WD.heap.size, 0, none⟩) n n) 85; rw [World.size_alloc] at this; exact this) (by intro y hy; simp at hy; subst hy; rfl) (by decide) (by unfold maxLen; omega) (by omega) LB.out (WD.heap.size + 2) (by simp) ?_
            intro g' cap' w' h2 h3 h4 h5
            have HO : Hid _ := h2
            have HG3 : Hid _ := h3
            have HAT : Hid _ := h4
            have ncb : v2.ownBlock ≠ some cb := fun e => by have := (row_lt CD.out.re_.row cb e).1; omega
            have k0b : w'.cell? ⟨cb, 3, none⟩ = some v2 := h3.cell kc2 (fun e => ncb e.symm)
            have f0b : w'.frozen? ⟨cb, 3, none⟩ = false := Lib.frozen_of_heap ((h3.block cb (by have := CD.out.sz; simp; omega) (fun e => ncb e.symm)).trans ((below_trans (bel_up WD _) (bel_up _ _)).block cb CD.out.sz |>.trans CD.out.blk)) 3
            clear h2 h3 h4 h5 kc0 kc1 kc2 ncb
            refine hK.out _ _ ?_ (fun hHeld => ?_)
            · exact trivial
            clear hK K
            try simp only [Act.put, List.setIfInBounds_toArray, List.set_cons_zero, List.set_cons_succ]
            refine wpAnyH_take (i := 11) (oi := { dst := _, op := _, type := _, pos := _, after := _, guard := _ }) (v := ?_) rfl (by kernel_rfl) (by kernel_rfl) (by kernel_rfl) (fun _ _ _ h => h) (Or.inl ⟨by rfl, ?_⟩) (by assumption) ?_
            rotate_left
            · intro W hSw
              (try dsimp only at hSw)
              go_simp
              (try with_reducible rfl)
            try simp only [Act.put, List.setIfInBounds_toArray, List.set_cons_zero, List.set_cons_succ]
            refine wpAnyH_take (i := 12) (oi := { dst := _, op := _, type := _, pos := _, after := _, guard := _ }) (v := ?_) rfl (by kernel_rfl) (by kernel_rfl) (by kernel_rfl) (fun _ _ _ h => h) (Or.inl ⟨by rfl, ?_⟩) (by assumption) ?_
            rotate_left
            · intro W hSw
              (try dsimp only at hSw)
              go_simp
              (try with_reducible rfl)
            try simp only [Act.put, List.setIfInBounds_toArray, List.set_cons_zero, List.set_cons_succ]
            refine wpAnyH_ready (rs := [13]) (by kernel_rfl) (by simp) ?_
            refine AllReadyH.cons (o := { dst := _, op := _, type := _, pos := _, after := _, guard := _ }) rfl (fun K hK => ?_) AllReadyH.nil
            go_simp
            refine hK.out _ _ ?_ (fun hHeld => ?_)
            · exact trivial
            clear hK K
            try simp only [Act.put, List.setIfInBounds_toArray, List.set_cons_zero, List.set_cons_succ]
            refine wpAnyH_done (by kernel_rfl) ?_ _
            refine NoPanic.normal ?_
            clear hHeld k0b f0b
            go_wp2_with fail
            go_meet
            have HO1 := HO.out
            have HAT1 : (Value.slice (some ⟨g', 0, none⟩) (k + 1) cap').ownBlock = v2.ownBlock ∨ ∃ g, (Value.slice (some ⟨g', 0, none⟩) (k + 1) cap').ownBlock = some g ∧ ((WD.alloc (.cells ((List.range n).map fun _ => (.slice none 0 0 : Value)).toArray 48)).alloc (.cells #[.slice (some ⟨WD.heap.size, 0, none⟩) n n] 85)).heap.size ≤ g := by
              rcases HAT.out with h | h
              · exact .inl h.symm
              · exact .inr ⟨g', rfl, by rw [h]; simp⟩
            rw [← HN1.out] at HO1
            obtain ⟨K', f', hc⟩ := CD.out.ends (by rw [HN1.out]) HO1 HG3.out HAT1
            exact ⟨K', f', _, hc⟩
          · go_simp
            refine hK.out _ _ ?_ (fun hHeld => ?_)
            · exact trivial
            clear hK K
            try simp only [Act.put, List.setIfInBounds_toArray, List.set_cons_zero, List.set_cons_succ]
            refine wpAnyH_ready (rs := [4, 9]) (by kernel_rfl) (by simp) ?_
            refine AllReadyH.cons (o := { dst := _, op := _, type := _, pos := _, after := _, guard := _ }) rfl (fun K hK => ?_) (AllReadyH.cons (o := { dst := _, op := _, type := _, pos := _, after := _, guard := _ }) rfl (fun K hK => ?_) (AllReadyH.nil))
            · go_simp
              refine hK.out _ _ ?_ (fun hHeld => ?_)
              · exact trivial
              clear hK K
              try simp only [Act.put, List.setIfInBounds_toArray, List.set_cons_zero, List.set_cons_succ]
              refine wpAnyH_ready (rs := [9]) (by kernel_rfl) (by simp) ?_
              refine AllReadyH.cons (o := { dst := _, op := _, type := _, pos := _, after := _, guard := _ }) rfl (fun K hK => ?_) AllReadyH.nil
              go_simp
              refine hK.out _ _ ?_ (fun hHeld => ?_)
              · exact trivial
              clear hK K
              try simp only [Act.put, List.setIfInBounds_toArray, List.set_cons_zero, List.set_cons_succ]
              refine wpAnyH_ready (rs := [10]) (by kernel_rfl) (by simp) ?_
              refine AllReadyH.cons (o := { dst := _, op := _, type := _, pos := _, after := _, guard := _ }) rfl (fun K hK => ?_) AllReadyH.nil
              refine step_append_lies _ rfl (.tmp 34) (.tmp 39) 86 rfl (cb + 1) 85 i85 _ 1 24 Tryd.underlying86 HI85.out.1 HI85.out.2.1 HI85.out.2.2.1 HI85.out.2.2.2 rfl (by decide) v2 _ _ rfl RW.out ⟨WD.heap.size + 1, 0, none⟩ 1 1 [.slice (some ⟨WD.heap.size, 0, none⟩) n n] rfl rfl (by have := cell_one_new (WD.alloc (.cells ((List.range n).map fun _ => (.slice none 0 0 : Value)).toArray 48)) (.slice (some ⟨WD.heap.size, 0, none⟩) n n) 85; rw [World.size_alloc] at this; exact this) (by intro y hy; simp at hy; subst hy; rfl) (by decide) (by unfold maxLen; omega) (by omega) LB.out (WD.heap.size + 2) (by simp) ?_
              intro g' cap' w' h2 h3 h4 h5
              have HO : Hid _ := h2
              have HG3 : Hid _ := h3
              have HAT : Hid _ := h4
              have ncb : v2.ownBlock ≠ some cb := fun e => by have := (row_lt CD.out.re_.row cb e).1; omega
              have k0b : w'.cell? ⟨cb, 3, none⟩ = some v2 := h3.cell kc2 (fun e => ncb e.symm)
              have f0b : w'.frozen? ⟨cb, 3, none⟩ = false := Lib.frozen_of_heap ((h3.block cb (by have := CD.out.sz; simp; omega) (fun e => ncb e.symm)).trans ((below_trans (bel_up WD _) (bel_up _ _)).block cb CD.out.sz |>.trans CD.out.blk)) 3
              clear h2 h3 h4 h5 kc0 kc1 kc2 ncb
              refine hK.out _ _ ?_ (fun hHeld => ?_)
              · exact trivial
              clear hK K
              try simp only [Act.put, List.setIfInBounds_toArray, List.set_cons_zero, List.set_cons_succ]
              refine wpAnyH_take (i := 11) (oi := { dst := _, op := _, type := _, pos := _, after := _, guard := _ }) (v := ?_) rfl (by kernel_rfl) (by kernel_rfl) (by kernel_rfl) (fun _ _ _ h => h) (Or.inl ⟨by rfl, ?_⟩) (by assumption) ?_
              rotate_left
              · intro W hSw
                (try dsimp only at hSw)
                go_simp
                (try with_reducible rfl)
              try simp only [Act.put, List.setIfInBounds_toArray, List.set_cons_zero, List.set_cons_succ]
              refine wpAnyH_take (i := 12) (oi := { dst := _, op := _, type := _, pos := _, after := _, guard := _ }) (v := ?_) rfl (by kernel_rfl) (by kernel_rfl) (by kernel_rfl) (fun _ _ _ h => h) (Or.inl ⟨by rfl, ?_⟩) (by assumption) ?_
              rotate_left
              · intro W hSw
                (try dsimp only at hSw)
                go_simp
                (try with_reducible rfl)
              try simp only [Act.put, List.setIfInBounds_toArray, List.set_cons_zero, List.set_cons_succ]
              refine wpAnyH_ready (rs := [13]) (by kernel_rfl) (by simp) ?_
              refine AllReadyH.cons (o := { dst := _, op := _, type := _, pos := _, after := _, guard := _ }) rfl (fun K hK => ?_) AllReadyH.nil
              go_simp
              refine hK.out _ _ ?_ (fun hHeld => ?_)
              · exact trivial
              clear hK K
              try simp only [Act.put, List.setIfInBounds_toArray, List.set_cons_zero, List.set_cons_succ]
              refine wpAnyH_done (by kernel_rfl) ?_ _
              refine NoPanic.normal ?_
              clear hHeld k0b f0b
              go_wp2_with fail
              go_meet
              have HO1 := HO.out
              have HAT1 : (Value.slice (some ⟨g', 0, none⟩) (k + 1) cap').ownBlock = v2.ownBlock ∨ ∃ g, (Value.slice (some ⟨g', 0, none⟩) (k + 1) cap').ownBlock = some g ∧ ((WD.alloc (.cells ((List.range n).map fun _ => (.slice none 0 0 : Value)).toArray 48)).alloc (.cells #[.slice (some ⟨WD.heap.size, 0, none⟩) n n] 85)).heap.size ≤ g := by
                rcases HAT.out with h | h
                · exact .inl h.symm
                · exact .inr ⟨g', rfl, by rw [h]; simp⟩
              rw [← HN1.out] at HO1
              obtain ⟨K', f', hc⟩ := CD.out.ends (by rw [HN1.out]) HO1 HG3.out HAT1
              exact ⟨K', f', _, hc⟩
            · go_simp
              refine hK.out _ _ ?_ (fun hHeld => ?_)
              · exact trivial
              clear hK K
              try simp only [Act.put, List.setIfInBounds_toArray, List.set_cons_zero, List.set_cons_succ]
              refine wpAnyH_ready (rs := [4]) (by kernel_rfl) (by simp) ?_
              refine AllReadyH.cons (o := { dst := _, op := _, type := _, pos := _, after := _, guard := _ }) rfl (fun K hK => ?_) AllReadyH.nil
              go_simp
              refine hK.out _ _ ?_ (fun hHeld => ?_)
              · exact trivial
              clear hK K
              try simp only [Act.put, List.setIfInBounds_toArray, List.set_cons_zero, List.set_cons_succ]
              refine wpAnyH_ready (rs := [10]) (by kernel_rfl) (by simp) ?_
              refine AllReadyH.cons (o := { dst := _, op := _, type := _, pos := _, after := _, guard := _ }) rfl (fun K hK => ?_) AllReadyH.nil
              refine step_append_lies _ rfl (.tmp 34) (.tmp 39) 86 rfl (cb + 1) 85 i85 _ 1 24 Tryd.underlying86 HI85.out.1 HI85.out.2.1 HI85.out.2.2.1 HI85.out.2.2.2 rfl (by decide) v2 _ _ rfl RW.out ⟨WD.heap.size + 1, 0, none⟩ 1 1 [.slice (some ⟨WD.heap.size, 0, none⟩) n n] rfl rfl (by have := cell_one_new (WD.alloc (.cells ((List.range n).map fun _ => (.slice none 0 0 : Value)).toArray 48)) (.slice (some ⟨WD.heap.size, 0, none⟩) n n) 85; rw [World.size_alloc] at this; exact this) (by intro y hy; simp at hy; subst hy; rfl) (by decide) (by unfold maxLen; omega) (by omega) LB.out (WD.heap.size + 2) (by simp) ?_
              intro g' cap' w' h2 h3 h4 h5
              have HO : Hid _ := h2
              have HG3 : Hid _ := h3
              have HAT : Hid _ := h4
              have ncb : v2.ownBlock ≠ some cb := fun e => by have := (row_lt CD.out.re_.row cb e).1; omega
              have k0b : w'.cell? ⟨cb, 3, none⟩ = some v2 := h3.cell kc2 (fun e => ncb e.symm)
              have f0b : w'.frozen? ⟨cb, 3, none⟩ = false := Lib.frozen_of_heap ((h3.block cb (by have := CD.out.sz; simp; omega) (fun e => ncb e.symm)).trans ((below_trans (bel_up WD _) (bel_up _ _)).block cb CD.out.sz |>.trans CD.out.blk)) 3
              clear h2 h3 h4 h5 kc0 kc1 kc2 ncb
              refine hK.out _ _ ?_ (fun hHeld => ?_)
              · exact trivial
              clear hK K
              try simp only [Act.put, List.setIfInBounds_toArray, List.set_cons_zero, List.set_cons_succ]
              refine wpAnyH_take (i := 11) (oi := { dst := _, op := _, type := _, pos := _, after := _, guard := _ }) (v := ?_) rfl (by kernel_rfl) (by kernel_rfl) (by kernel_rfl) (fun _ _ _ h => h) (Or.inl ⟨by rfl, ?_⟩) (by assumption) ?_
              rotate_left
              · intro W hSw
                (try dsimp only at hSw)
                go_simp
                (try with_reducible rfl)
              try simp only [Act.put, List.setIfInBounds_toArray, List.set_cons_zero, List.set_cons_succ]
              refine wpAnyH_take (i := 12) (oi := { dst := _, op := _, type := _, pos := _, after := _, guard := _ }) (v := ?_) rfl (by kernel_rfl) (by kernel_rfl) (by kernel_rfl) (fun _ _ _ h => h) (Or.inl ⟨by rfl, ?_⟩) (by assumption) ?_
              rotate_left
              · intro W hSw
                (try dsimp only at hSw)
                go_simp
                (try with_reducible rfl)
              try simp only [Act.put, List.setIfInBounds_toArray, List.set_cons_zero, List.set_cons_succ]
              refine wpAnyH_ready (rs := [13]) (by kernel_rfl) (by simp) ?_
              refine AllReadyH.cons (o := { dst := _, op := _, type := _, pos := _, after := _, guard := _ }) rfl (fun K hK => ?_) AllReadyH.nil
              go_simp
              refine hK.out _ _ ?_ (fun hHeld => ?_)
              · exact trivial
              clear hK K
              try simp only [Act.put, List.setIfInBounds_toArray, List.set_cons_zero, List.set_cons_succ]
              refine wpAnyH_done (by kernel_rfl) ?_ _
              refine NoPanic.normal ?_
              clear hHeld k0b f0b
              go_wp2_with fail
              go_meet
              have HO1 := HO.out
              have HAT1 : (Value.slice (some ⟨g', 0, none⟩) (k + 1) cap').ownBlock = v2.ownBlock ∨ ∃ g, (Value.slice (some ⟨g', 0, none⟩) (k + 1) cap').ownBlock = some g ∧ ((WD.alloc (.cells ((List.range n).map fun _ => (.slice none 0 0 : Value)).toArray 48)).alloc (.cells #[.slice (some ⟨WD.heap.size, 0, none⟩) n n] 85)).heap.size ≤ g := by
                rcases HAT.out with h | h
                · exact .inl h.symm
                · exact .inr ⟨g', rfl, by rw [h]; simp⟩
              rw [← HN1.out] at HO1
              obtain ⟨K', f', hc⟩ := CD.out.ends (by rw [HN1.out]) HO1 HG3.out HAT1
              exact ⟨K', f', _, hc⟩
        case rest =>
          clear HC
          obtain ⟨K, e, v2, HC⟩ := hcut
          go_upto_region 7 with fail
          obtain ⟨WD, hWD⟩ : ∃ WD, wc.drew = WD := ⟨_, rfl⟩
          have CD : Hid (Ct (.slice lp nr cap) s cb K d e q (k + 1) (k + 1) k v1 v2 v3 w WD) := by rw [← hWD]; exact HC.out.drew
          have kc0 : WD.cell? ⟨cb, 4, none⟩ = some v3 := by rw [Lib.cell_of_heap CD.out.blk]; rfl
          have kc1 : (WD.alloc (.cells ((List.range n).map fun _ => (.slice none 0 0 : Value)).toArray 48)).cell? ⟨cb, 4, none⟩ = some v3 := cell_up _ kc0
          have kc2 : ((WD.alloc (.cells ((List.range n).map fun _ => (.slice none 0 0 : Value)).toArray 48)).alloc (.cells #[.slice (some ⟨WD.heap.size, 0, none⟩) n n] 85)).cell? ⟨cb, 4, none⟩ = some v3 := cell_up _ kc1
          have hmk := HMR.out
          have RW : Hid (((WD.alloc (.cells ((List.range n).map fun _ => (.slice none 0 0 : Value)).toArray 48)).alloc (.cells #[.slice (some ⟨WD.heap.size, 0, none⟩) n n] 85)).ownsRow (cb + 1) 85 1 v3 k (sl q n k)) := by rw [← HN1.out]; exact (CD.out.rq.row.alloc _).alloc _
          have LB : Hid (cb + 1 ≤ ((WD.alloc (.cells ((List.range n).map fun _ => (.slice none 0 0 : Value)).toArray 48)).alloc (.cells #[.slice (some ⟨WD.heap.size, 0, none⟩) n n] 85)).heap.size) := by have := CD.out.sz; show _ ≤ _; simp; omega
          refine wp_region_noPanic ?_
          refine wp_region_held_drew (S := fun _ => True) (by kernel_rfl) trivial (fun hHeld => ?_)
          rw [hWD]
          clear hWD
          refine wpAnyH_take (i := 0) (oi := { dst := _, op := _, type := _, pos := _, after := _, guard := _ }) (v := ?_) rfl (by kernel_rfl) (by kernel_rfl) (by kernel_rfl) (fun _ _ _ h => h) (Or.inl ⟨by rfl, ?_⟩) (by assumption) ?_
          rotate_left
          · intro W hSw
            (try dsimp only at hSw)
            go_simp
            (try with_reducible rfl)
          try simp only [Act.put, List.setIfInBounds_toArray, List.set_cons_zero, List.set_cons_succ]
          refine wpAnyH_take (i := 1) (oi := { dst := _, op := _, type := _, pos := _, after := _, guard := _ }) (v := ?_) rfl (by kernel_rfl) (by kernel_rfl) (by kernel_rfl) (fun _ _ _ h => h) (Or.inl ⟨by rfl, ?_⟩) (by assumption) ?_
          rotate_left
          · intro W hSw
            (try dsimp only at hSw)
            go_simp
            (try with_reducible rfl)
          try simp only [Act.put, List.setIfInBounds_toArray, List.set_cons_zero, List.set_cons_succ]
          refine wpAnyH_take (i := 2) (oi := { dst := _, op := _, type := _, pos := _, after := _, guard := _ }) (v := ?_) rfl (by kernel_rfl) (by kernel_rfl) (by kernel_rfl) (fun _ _ _ h => h) (Or.inl ⟨by rfl, ?_⟩) (by assumption) ?_
          rotate_left
          · intro W hSw
            (try dsimp only at hSw)
            go_simp
            (try with_reducible rfl)
          try simp only [Act.put, List.setIfInBounds_toArray, List.set_cons_zero, List.set_cons_succ]
          refine wpAnyH_take (i := 3) (oi := { dst := _, op := _, type := _, pos := _, after := _, guard := _ }) (v := ?_) rfl (by kernel_rfl) (by kernel_rfl) (by kernel_rfl) (fun _ _ _ h => h) (Or.inl ⟨by rfl, ?_⟩) (by assumption) ?_
          rotate_left
          · intro W hSw
            (try dsimp only at hSw)
            go_simp
            (try with_reducible rfl)
          try simp only [Act.put, List.setIfInBounds_toArray, List.set_cons_zero, List.set_cons_succ]
          refine wpAnyH_take (i := 5) (oi := { dst := _, op := _, type := _, pos := _, after := _, guard := _ }) (v := ?_) rfl (by kernel_rfl) (by kernel_rfl) (by kernel_rfl) (fun _ _ _ h => h) (Or.inl ⟨by rfl, ?_⟩) (by assumption) ?_
          rotate_left
          · intro W hSw
            (try dsimp only at hSw)
            go_simp
            (try with_reducible rfl)
          try simp only [Act.put, List.setIfInBounds_toArray, List.set_cons_zero, List.set_cons_succ]
          refine wpAnyH_take (i := 6) (oi := { dst := _, op := _, type := _, pos := _, after := _, guard := _ }) (v := ?_) rfl (by kernel_rfl) (by kernel_rfl) (by kernel_rfl) (fun _ _ _ h => h) (Or.inl ⟨by rfl, ?_⟩) (by assumption) ?_
          rotate_left
          · intro W hSw
            (try dsimp only at hSw)
            go_simp
            (try with_reducible rfl)
          try simp only [Act.put, List.setIfInBounds_toArray, List.set_cons_zero, List.set_cons_succ]
          refine wpAnyH_take (i := 7) (oi := { dst := _, op := _, type := _, pos := _, after := _, guard := _ }) (v := ?_) rfl (by kernel_rfl) (by kernel_rfl) (by kernel_rfl) (fun _ _ _ h => h) (Or.inl ⟨by rfl, ?_⟩) (by assumption) ?_
          rotate_left
          · intro W hSw
            (try dsimp only at hSw)
            have wr1 := HWR.out
            go_simp
            (try with_reducible rfl)
          try simp only [Act.put, List.setIfInBounds_toArray, List.set_cons_zero, List.set_cons_succ]
          refine wpAnyH_ready (rs := [4, 8]) (by kernel_rfl) (by simp) ?_
          refine AllReadyH.cons (o := { dst := _, op := _, type := _, pos := _, after := _, guard := _ }) rfl (fun K hK => ?_) (AllReadyH.cons (o := { dst := _, op := _, type := _, pos := _, after := _, guard := _ }) rfl (fun K hK => ?_) (AllReadyH.nil))
          · go_simp
            refine hK.out _ _ ?_ (fun hHeld => ?_)
            · exact trivial
            clear hK K
            try simp only [Act.put, List.setIfInBounds_toArray, List.set_cons_zero, List.set_cons_succ]
            refine wpAnyH_ready (rs := [8]) (by kernel_rfl) (by simp) ?_
            refine AllReadyH.cons (o := { dst := _, op := _, type := _, pos := _, after := _, guard := _ }) rfl (fun K hK => ?_) AllReadyH.nil
            go_simp
            refine hK.out _ _ ?_ (fun hHeld => ?_)
            · exact trivial
            clear hK K
            try simp only [Act.put, List.setIfInBounds_toArray, List.set_cons_zero, List.set_cons_succ]
            refine wpAnyH_ready (rs := [9]) (by kernel_rfl) (by simp) ?_
            refine AllReadyH.cons (o := { dst := _, op := _, type := _, pos := _, after := _, guard := _ }) rfl (fun K hK => ?_) AllReadyH.nil
            go_simp
            refine hK.out _ _ ?_ (fun hHeld => ?_)
            · exact trivial
            clear hK K
            try simp only [Act.put, List.setIfInBounds_toArray, List.set_cons_zero, List.set_cons_succ]
            refine wpAnyH_ready (rs := [10]) (by kernel_rfl) (by simp) ?_
            refine AllReadyH.cons (o := { dst := _, op := _, type := _, pos := _, after := _, guard := _ }) rfl (fun K hK => ?_) AllReadyH.nil
            refine step_append_lies _ rfl (.tmp 47) (.tmp 52) 86 rfl (cb + 1) 85 i85 _ 1 24 Tryd.underlying86 HI85.out.1 HI85.out.2.1 HI85.out.2.2.1 HI85.out.2.2.2 rfl (by decide) v3 _ _ rfl RW.out ⟨WD.heap.size + 1, 0, none⟩ 1 1 [.slice (some ⟨WD.heap.size, 0, none⟩) n n] rfl rfl (by have := cell_one_new (WD.alloc (.cells ((List.range n).map fun _ => (.slice none 0 0 : Value)).toArray 48)) (.slice (some ⟨WD.heap.size, 0, none⟩) n n) 85; rw [World.size_alloc] at this; exact this) (by intro y hy; simp at hy; subst hy; rfl) (by decide) (by unfold maxLen; omega) (by omega) LB.out (WD.heap.size + 2) (by simp) ?_
            intro g' cap' w' h2 h3 h4 h5
            have HO : Hid _ := h2
            have HG3 : Hid _ := h3
            have HAT : Hid _ := h4
            have ncb : v3.ownBlock ≠ some cb := fun e => by have := (row_lt CD.out.rq.row cb e).1; omega
            have k0b : w'.cell? ⟨cb, 4, none⟩ = some v3 := h3.cell kc2 (fun e => ncb e.symm)
            have f0b : w'.frozen? ⟨cb, 4, none⟩ = false := Lib.frozen_of_heap ((h3.block cb (by have := CD.out.sz; simp; omega) (fun e => ncb e.symm)).trans ((below_trans (bel_up WD _) (bel_up _ _)).block cb CD.out.sz |>.trans CD.out.blk)) 4
            clear h2 h3 h4 h5 kc0 kc1 kc2 ncb
            refine hK.out _ _ ?_ (fun hHeld => ?_)
            · exact trivial
            clear hK K
            try simp only [Act.put, List.setIfInBounds_toArray, List.set_cons_zero, List.set_cons_succ]
            refine wpAnyH_take (i := 11) (oi := { dst := _, op := _, type := _, pos := _, after := _, guard := _ }) (v := ?_) rfl (by kernel_rfl) (by kernel_rfl) (by kernel_rfl) (fun _ _ _ h => h) (Or.inl ⟨by rfl, ?_⟩) (by assumption) ?_
            rotate_left
            · intro W hSw
              (try dsimp only at hSw)
              go_simp
              (try with_reducible rfl)
            try simp only [Act.put, List.setIfInBounds_toArray, List.set_cons_zero, List.set_cons_succ]
            refine wpAnyH_take (i := 12) (oi := { dst := _, op := _, type := _, pos := _, after := _, guard := _ }) (v := ?_) rfl (by kernel_rfl) (by kernel_rfl) (by kernel_rfl) (fun _ _ _ h => h) (Or.inl ⟨by rfl, ?_⟩) (by assumption) ?_
            rotate_left
            · intro W hSw
              (try dsimp only at hSw)
              go_simp
              (try with_reducible rfl)
            try simp only [Act.put, List.setIfInBounds_toArray, List.set_cons_zero, List.set_cons_succ]
            refine wpAnyH_ready (rs := [13]) (by kernel_rfl) (by simp) ?_
            refine AllReadyH.cons (o := { dst := _, op := _, type := _, pos := _, after := _, guard := _ }) rfl (fun K hK => ?_) AllReadyH.nil
            go_simp
            refine hK.out _ _ ?_ (fun hHeld => ?_)
            · exact trivial
            clear hK K
            try simp only [Act.put, List.setIfInBounds_toArray, List.set_cons_zero, List.set_cons_succ]
            refine wpAnyH_done (by kernel_rfl) ?_ _
            refine NoPanic.normal ?_
            clear hHeld k0b f0b
            go_wp2_with fail
            have HO1 := HO.out
            have HAT1 : (Value.slice (some ⟨g', 0, none⟩) (k + 1) cap').ownBlock = v3.ownBlock ∨ ∃ g, (Value.slice (some ⟨g', 0, none⟩) (k + 1) cap').ownBlock = some g ∧ ((WD.alloc (.cells ((List.range n).map fun _ => (.slice none 0 0 : Value)).toArray 48)).alloc (.cells #[.slice (some ⟨WD.heap.size, 0, none⟩) n n] 85)).heap.size ≤ g := by
              rcases HAT.out with h | h
              · exact .inl h.symm
              · exact .inr ⟨g', rfl, by rw [h]; simp⟩
            rw [← HN1.out] at HO1
            obtain ⟨K', f', hc⟩ := CD.out.cuts (by rw [HN1.out]) HO1 HG3.out HAT1
            have HCE : Hid _ := hc
            clear hc HO1 HAT1 HG3 HO HAT RW LB CD HC
            go_roundg (nr - (k + 1))
            case measure => have := HG.out; omega
            case rel => exact ⟨k + 1, K', d, e, f', v1, v2, _, rfl, by omega, rfl, HCE⟩
          · go_simp
            refine hK.out _ _ ?_ (fun hHeld => ?_)
            · exact trivial
            clear hK K
            try simp only [Act.put, List.setIfInBounds_toArray, List.set_cons_zero, List.set_cons_succ]
            refine wpAnyH_ready (rs := [4, 9]) (by kernel_rfl) (by simp) ?_
            refine AllReadyH.cons (o := { dst := _, op := _, type := _, pos := _, after := _, guard := _ }) rfl (fun K hK => ?_) (AllReadyH.cons (o := { dst := _, op := _, type := _, pos := _, after := _, guard := _ }) rfl (fun K hK => ?_) (AllReadyH.nil))
            · go_simp
              refine hK.out _ _ ?_ (fun hHeld => ?_)
              · exact trivial
              clear hK K
              try simp only [Act.put, List.setIfInBounds_toArray, List.set_cons_zero, List.set_cons_succ]
              refine wpAnyH_ready (rs := [9]) (by kernel_rfl) (by simp) ?_
              refine AllReadyH.cons (o := { dst := _, op := _, type := _, pos := _, after := _, guard := _ }) rfl (fun K hK => ?_) AllReadyH.nil
              go_simp
              refine hK.out _ _ ?_ (fun hHeld => ?_)
              · exact trivial
              clear hK K
              try simp only [Act.put, List.setIfInBounds_toArray, List.set_cons_zero, List.set_cons_succ]
              refine wpAnyH_ready (rs := [10]) (by kernel_rfl) (by simp) ?_
              refine AllReadyH.cons (o := { dst := _, op := _, type := _, pos := _, after := _, guard := _ }) rfl (fun K hK => ?_) AllReadyH.nil
              refine step_append_lies _ rfl (.tmp 47) (.tmp 52) 86 rfl (cb + 1) 85 i85 _ 1 24 Tryd.underlying86 HI85.out.1 HI85.out.2.1 HI85.out.2.2.1 HI85.out.2.2.2 rfl (by decide) v3 _ _ rfl RW.out ⟨WD.heap.size + 1, 0, none⟩ 1 1 [.slice (some ⟨WD.heap.size, 0, none⟩) n n] rfl rfl (by have := cell_one_new (WD.alloc (.cells ((List.range n).map fun _ => (.slice none 0 0 : Value)).toArray 48)) (.slice (some ⟨WD.heap.size, 0, none⟩) n n) 85; rw [World.size_alloc] at this; exact this) (by intro y hy; simp at hy; subst hy; rfl) (by decide) (by unfold maxLen; omega) (by omega) LB.out (WD.heap.size + 2) (by simp) ?_
              intro g' cap' w' h2 h3 h4 h5
              have HO : Hid _ := h2
              have HG3 : Hid _ := h3
              have HAT : Hid _ := h4
              have ncb : v3.ownBlock ≠ some cb := fun e => by have := (row_lt CD.out.rq.row cb e).1; omega
              have k0b : w'.cell? ⟨cb, 4, none⟩ = some v3 := h3.cell kc2 (fun e => ncb e.symm)
              have f0b : w'.frozen? ⟨cb, 4, none⟩ = false := Lib.frozen_of_heap ((h3.block cb (by have := CD.out.sz; simp; omega) (fun e => ncb e.symm)).trans ((below_trans (bel_up WD _) (bel_up _ _)).block cb CD.out.sz |>.trans CD.out.blk)) 4
              clear h2 h3 h4 h5 kc0 kc1 kc2 ncb
              refine hK.out _ _ ?_ (fun hHeld => ?_)
              · exact trivial
              clear hK K
              try simp only [Act.put, List.setIfInBounds_toArray, List.set_cons_zero, List.set_cons_succ]
              refine wpAnyH_take (i := 11) (oi := { dst := _, op := _, type := _, pos := _, after := _, guard := _ }) (v := ?_) rfl (by kernel_rfl) (by kernel_rfl) (by kernel_rfl) (fun _ _ _ h => h) (Or.inl ⟨by rfl, ?_⟩) (by assumption) ?_
              rotate_left
              · intro W hSw
                (try dsimp only at hSw)
                go_simp
                (try with_reducible rfl)
              try simp only [Act.put, List.setIfInBounds_toArray, List.set_cons_zero, List.set_cons_succ]
              refine wpAnyH_take (i := 12) (oi := { dst := _, op := _, type := _, pos := _, after := _, guard := _ }) (v := ?_) rfl (by kernel_rfl) (by kernel_rfl) (by kernel_rfl) (fun _ _ _ h => h) (Or.inl ⟨by rfl, ?_⟩) (by assumption) ?_
              rotate_left
              · intro W hSw
                (try dsimp only at hSw)
                go_simp
                (try with_reducible rfl)
              try simp only [Act.put, List.setIfInBounds_toArray, List.set_cons_zero, List.set_cons_succ]
              refine wpAnyH_ready (rs := [13]) (by kernel_rfl) (by simp) ?_
              refine AllReadyH.cons (o := { dst := _, op := _, type := _, pos := _, after := _, guard := _ }) rfl (fun K hK => ?_) AllReadyH.nil
              go_simp
              refine hK.out _ _ ?_ (fun hHeld => ?_)
              · exact trivial
              clear hK K
              try simp only [Act.put, List.setIfInBounds_toArray, List.set_cons_zero, List.set_cons_succ]
              refine wpAnyH_done (by kernel_rfl) ?_ _
              refine NoPanic.normal ?_
              clear hHeld k0b f0b
              go_wp2_with fail
              have HO1 := HO.out
              have HAT1 : (Value.slice (some ⟨g', 0, none⟩) (k + 1) cap').ownBlock = v3.ownBlock ∨ ∃ g, (Value.slice (some ⟨g', 0, none⟩) (k + 1) cap').ownBlock = some g ∧ ((WD.alloc (.cells ((List.range n).map fun _ => (.slice none 0 0 : Value)).toArray 48)).alloc (.cells #[.slice (some ⟨WD.heap.size, 0, none⟩) n n] 85)).heap.size ≤ g := by
                rcases HAT.out with h | h
                · exact .inl h.symm
                · exact .inr ⟨g', rfl, by rw [h]; simp⟩
              rw [← HN1.out] at HO1
              obtain ⟨K', f', hc⟩ := CD.out.cuts (by rw [HN1.out]) HO1 HG3.out HAT1
              have HCE : Hid _ := hc
              clear hc HO1 HAT1 HG3 HO HAT RW LB CD HC
              go_roundg (nr - (k + 1))
              case measure => have := HG.out; omega
              case rel => exact ⟨k + 1, K', d, e, f', v1, v2, _, rfl, by omega, rfl, HCE⟩
            · go_simp
              refine hK.out _ _ ?_ (fun hHeld => ?_)
              · exact trivial
              clear hK K
              try simp only [Act.put, List.setIfInBounds_toArray, List.set_cons_zero, List.set_cons_succ]
              refine wpAnyH_ready (rs := [4]) (by kernel_rfl) (by simp) ?_
              refine AllReadyH.cons (o := { dst := _, op := _, type := _, pos := _, after := _, guard := _ }) rfl (fun K hK => ?_) AllReadyH.nil
              go_simp
              refine hK.out _ _ ?_ (fun hHeld => ?_)
              · exact trivial
              clear hK K
              try simp only [Act.put, List.setIfInBounds_toArray, List.set_cons_zero, List.set_cons_succ]
              refine wpAnyH_ready (rs := [10]) (by kernel_rfl) (by simp) ?_
              refine AllReadyH.cons (o := { dst := _, op := _, type := _, pos := _, after := _, guard := _ }) rfl (fun K hK => ?_) AllReadyH.nil
              refine step_append_lies _ rfl (.tmp 47) (.tmp 52) 86 rfl (cb + 1) 85 i85 _ 1 24 Tryd.underlying86 HI85.out.1 HI85.out.2.1 HI85.out.2.2.1 HI85.out.2.2.2 rfl (by decide) v3 _ _ rfl RW.out ⟨WD.heap.size + 1, 0, none⟩ 1 1 [.slice (some ⟨WD.heap.size, 0, none⟩) n n] rfl rfl (by have := cell_one_new (WD.alloc (.cells ((List.range n).map fun _ => (.slice none 0 0 : Value)).toArray 48)) (.slice (some ⟨WD.heap.size, 0, none⟩) n n) 85; rw [World.size_alloc] at this; exact this) (by intro y hy; simp at hy; subst hy; rfl) (by decide) (by unfold maxLen; omega) (by omega) LB.out (WD.heap.size + 2) (by simp) ?_
              intro g' cap' w' h2 h3 h4 h5
              have HO : Hid _ := h2
              have HG3 : Hid _ := h3
              have HAT : Hid _ := h4
              have ncb : v3.ownBlock ≠ some cb := fun e => by have := (row_lt CD.out.rq.row cb e).1; omega
              have k0b : w'.cell? ⟨cb, 4, none⟩ = some v3 := h3.cell kc2 (fun e => ncb e.symm)
              have f0b : w'.frozen? ⟨cb, 4, none⟩ = false := Lib.frozen_of_heap ((h3.block cb (by have := CD.out.sz; simp; omega) (fun e => ncb e.symm)).trans ((below_trans (bel_up WD _) (bel_up _ _)).block cb CD.out.sz |>.trans CD.out.blk)) 4
              clear h2 h3 h4 h5 kc0 kc1 kc2 ncb
              refine hK.out _ _ ?_ (fun hHeld => ?_)
              · exact trivial
              clear hK K
              try simp only [Act.put, List.setIfInBounds_toArray, List.set_cons_zero, List.set_cons_succ]
              refine wpAnyH_take (i := 11) (oi := { dst := _, op := _, type := _, pos := _, after := _, guard := _ }) (v := ?_) rfl (by kernel_rfl) (by kernel_rfl) (by kernel_rfl) (fun _ _ _ h => h) (Or.inl ⟨by rfl, ?_⟩) (by assumption) ?_
              rotate_left
              · intro W hSw
                (try dsimp only at hSw)
                go_simp
                (try with_reducible rfl)
              try simp only [Act.put, List.setIfInBounds_toArray, List.set_cons_zero, List.set_cons_succ]
              refine wpAnyH_take (i := 12) (oi := { dst := _, op := _, type := _, pos := _, after := _, guard := _ }) (v := ?_) rfl (by kernel_rfl) (by kernel_rfl) (by kernel_rfl) (fun _ _ _ h => h) (Or.inl ⟨by rfl, ?_⟩) (by assumption) ?_
              rotate_left
              · intro W hSw
                (try dsimp only at hSw)
                go_simp
                (try with_reducible rfl)
              try simp only [Act.put, List.setIfInBounds_toArray, List.set_cons_zero, List.set_cons_succ]
              refine wpAnyH_ready (rs := [13]) (by kernel_rfl) (by simp) ?_
              refine AllReadyH.cons (o := { dst := _, op := _, type := _, pos := _, after := _, guard := _ }) rfl (fun K hK => ?_) AllReadyH.nil
              go_simp
              refine hK.out _ _ ?_ (fun hHeld => ?_)
              · exact trivial
              clear hK K
              try simp only [Act.put, List.setIfInBounds_toArray, List.set_cons_zero, List.set_cons_succ]
              refine wpAnyH_done (by kernel_rfl) ?_ _
              refine NoPanic.normal ?_
              clear hHeld k0b f0b
              go_wp2_with fail
              have HO1 := HO.out
              have HAT1 : (Value.slice (some ⟨g', 0, none⟩) (k + 1) cap').ownBlock = v3.ownBlock ∨ ∃ g, (Value.slice (some ⟨g', 0, none⟩) (k + 1) cap').ownBlock = some g ∧ ((WD.alloc (.cells ((List.range n).map fun _ => (.slice none 0 0 : Value)).toArray 48)).alloc (.cells #[.slice (some ⟨WD.heap.size, 0, none⟩) n n] 85)).heap.size ≤ g := by
                rcases HAT.out with h | h
                · exact .inl h.symm
                · exact .inr ⟨g', rfl, by rw [h]; simp⟩
              rw [← HN1.out] at HO1
              obtain ⟨K', f', hc⟩ := CD.out.cuts (by rw [HN1.out]) HO1 HG3.out HAT1
              have HCE : Hid _ := hc
              clear hc HO1 HAT1 HG3 HO HAT RW LB CD HC
              go_roundg (nr - (k + 1))
              case measure => have := HG.out; omega
              case rel => exact ⟨k + 1, K', d, e, f', v1, v2, _, rfl, by omega, rfl, HCE⟩
    · go_wp2_with fail
      go_ret
      have ek : k = nr := by omega
      rw [ek] at HC
      rw [HCB.out]
      exact ⟨K, d, e, q, v1, v2, v3, rfl, HC.out⟩
end Go.Proofs.YtkjcnnecdclgfaaDoor
