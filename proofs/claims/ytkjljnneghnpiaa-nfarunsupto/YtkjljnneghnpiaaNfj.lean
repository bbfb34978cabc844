import Derived.Test.YtkjljnneghnpiaaNfg
namespace Go.Proofs.Ytkjljnneghnpiaa
open Go.RowKit Go.Maps Go.Shelf

/-- How many waits there can be below q. -/
def kk (N : Mc) : Nat → Nat
  | 0 => 0
  | q + 1 => kk N q + (N.nx q).length
theorem nx_len {N : Mc} (q : Nat) : (N.nx q).length ≤ 1 + (N.frees q).length := by
  unfold Mc.nx
  rw [List.length_append]
  have h1 : (N.hz q).length ≤ 1 := by
    rcases hz_ont (N := N) (q := q) with ⟨_, h⟩ | ⟨t, _, h⟩ <;> rw [h] <;> simp
  have h2 : (N.fz (N.frees q)).length ≤ (N.frees q).length := by unfold Mc.fz; exact List.length_filterMap_le _ _
  omega
theorem sum_take : ∀ (l : List (List Int)) (q : Nat), ((l.take q).map List.length).sum ≤ (l.map List.length).sum
  | [], q => by simp
  | x :: l, 0 => by simp
  | x :: l, q + 1 => by have := sum_take l q; simp only [List.take_succ_cons, List.map_cons, List.sum_cons]; omega
theorem kk_sum {N : Mc} (q : Nat) : kk N q ≤ q + ((N.free.take q).map List.length).sum := by
  induction q with
  | zero => simp [kk]
  | succ q ih =>
    have h := nx_len (N := N) q
    unfold kk
    rw [List.take_add_one, List.map_append, List.sum_append]
    have e : (N.frees q).length = (N.free[q]?.toList.map List.length).sum := by
      unfold Mc.frees
      rw [List.getD_eq_getElem?_getD]
      cases N.free[q]? <;> simp
    rw [← e]
    omega
theorem kk_le {N : Mc} (hs : Small N) {q : Nat} (hq : q ≤ N.on.length) : kk N q ≤ 2097152 := by
  have h1 := kk_sum (N := N) q
  have h2 := sum_take N.free q
  have h3 := hs.sum
  have h4 := hs.on
  omega
/-- What is known at the head of living's loop. -/
structure LvR (N : Mc) (w : World) (q : Nat) (L : Nat → Bool) (G : Nat → List Nat) (ds : List Deferred) (W : World) : Prop where
  lv : LvI N q L G
  wm : WMap W (w.heap.size + 2) (w.heap.size + 1) (kk N q) G
  bl : Blw W w.heap.size N.on.length L
  bx : Boxed W (w.heap.size + 2) 86 (.map (some (w.heap.size + 1)))
  be : Below w.heap.size w W
  ma : Marks (w.heap.size + 3) W W.heap.size ds
/-- What is known between two rounds of the loop over next(q). -/
structure LvJ (N : Mc) (w : World) (q : Nat) (L : Nat → Bool) (G : Nat → List Nat) (ds : List Deferred) (hi bq nbm nbq : Nat) (pre : List (Fin N.on.length)) (W : World) : Prop where
  wm : WMap W (w.heap.size + 2) (w.heap.size + 1) (kk N q + pre.length) (addW G q (pre.map Fin.val))
  sh : W.Shuns (w.heap.size + 1) (fun g => g = bq ∨ g = nbm ∨ g = nbq)
  bl : Blw W w.heap.size N.on.length L
  bx : Boxed W (w.heap.size + 2) 86 (.map (some (w.heap.size + 1)))
  bxq : Boxed W bq 3 (.int .i64 (q : Int))
  be : Below w.heap.size w W
  ma : Marks (w.heap.size + 3) W hi ds
  sz : hi ≤ W.heap.size
section
variable {N : Mc} {w : World} {q : Nat} {L : Nat → Bool} {G : Nat → List Nat} {ds : List Deferred} {hi bq nbm nbq : Nat}
theorem LvJ.own (h3 : w.heap.size + 3 ≤ bq) (h4 : bq < hi) : OwnFrom hi (LvJ N w q L G ds hi bq nbm nbq) := by
  intro pre W W' row h hg hr
  have ne : ∀ k, k < hi → some k ≠ row := fun k hk e => by have := (hr k e.symm).1; omega
  refine ⟨h.wm.kept2 hg (ne _ (by omega)) (fun r e => (hr r e).2), h.sh.kept hg h.wm.lt (ne _ (by omega)), h.bl.kept hg (ne _ (by omega)), h.bx.kept hg (ne _ (by omega)), h.bxq.kept hg (ne _ h4), h.be.grown hg h.be.size (fun k e => by have := (hr k e).1; omega), h.ma.grown (Nat.le_refl _) hg (fun r e => .inr (.inl (hr r e).1)), Nat.le_trans h.sz hg.size⟩
theorem LvJ.step {B : Nat} {pre : List (Fin N.on.length)} {x : Fin N.on.length} {Wd W2 W3 : World} {row : Option Nat} (hB : B ≤ w.heap.size) (h3 : w.heap.size + 3 ≤ bq) (h4 : bq < hi) (h5 : w.heap.size + 3 ≤ nbm) (h6 : nbm < hi) (h7 : w.heap.size + 3 ≤ nbq) (h8 : nbq < hi)
    (h : LvJ N w q L G ds hi bq nbm nbq pre Wd) (hg : Wd.grownBy W2 row) (hrow : ∀ r, row = some r → w.heap.size + 2 ≤ r ∧ ¬ (r = bq ∨ r = nbm ∨ r = nbq) ∧ ∃ cur, Wd.heap[r]? = some (.cells cur 3 (0, 0)))
    (hg2 : W2.grownBy W3 (some (w.heap.size + 1))) (wm : WMap W3 (w.heap.size + 2) (w.heap.size + 1) (kk N q + pre.length + 1) (fun s => if s = x.val then addW G q (pre.map Fin.val) s ++ [q] else addW G q (pre.map Fin.val) s))
    (sh : W3.Shuns (w.heap.size + 1) (fun g => g = bq ∨ g = nbm ∨ g = nbq)) :
    KeepsFrom hi Wd W3 ∧ Kept B nbm nbq Wd W3 ∧ LvJ N w q L G ds hi bq nbm nbq (pre ++ [x]) W3 := by
  have sz := h.sz
  have nrow : ∀ k, k ≠ w.heap.size + 1 → (k < w.heap.size + 2 ∨ (k = bq ∨ k = nbm ∨ k = nbq) ∨ (∃ o : Obj, Wd.heap[k]? = some o ∧ ∀ cur, o ≠ .cells cur 3 (0, 0))) → some k ≠ row := fun k _ hk e => by
    obtain ⟨r1, r2, cur, r3⟩ := hrow k e.symm
    rcases hk with hk | hk | ⟨o, k1, k2⟩
    · omega
    · exact r2 hk
    · rw [r3] at k1; cases k1; exact k2 cur rfl
  have keep : ∀ k, k < Wd.heap.size → k ≠ w.heap.size + 1 → (k < w.heap.size + 2 ∨ (k = bq ∨ k = nbm ∨ k = nbq) ∨ (∃ o : Obj, Wd.heap[k]? = some o ∧ ∀ cur, o ≠ .cells cur 3 (0, 0))) → W3.heap[k]? = Wd.heap[k]? := fun k hk h0 h1 =>
    (hg2.block k (Nat.lt_of_lt_of_le hk hg.size) (fun e => by cases e; exact h0 rfl)).trans (hg.block k hk (nrow k h0 h1))
  have be : Below w.heap.size w W3 := (h.be.grown hg h.be.size (fun k e => by have := (hrow k e).1; omega)).grown hg2 (by have := h.be.size; have := hg.size; omega) (fun k e => by cases e; omega)
  refine ⟨⟨Nat.le_trans hg.size hg2.size, fun k o hk ho hc => ?_⟩, ⟨?_, ?_, ?_⟩, ?_⟩
  · exact (keep k (lt_of_heap ho) (by omega) (.inr (.inr ⟨o, ho, fun cur e => by rw [e] at hc; cases hc⟩))).trans ho
  · exact ⟨hg2.os.trans hg.os, hg2.tape.trans hg.tape, hg2.output.trans hg.output, Nat.le_trans hg.size hg2.size, fun k hk => keep k (by have := h.be.size; omega) (by omega) (.inl (by omega))⟩
  · exact World.cell?_of_block (keep nbm (by omega) (by omega) (.inr (.inl (.inr (.inl rfl)))))
  · exact World.cell?_of_block (keep nbq (by omega) (by omega) (.inr (.inl (.inr (.inr rfl)))))
  · refine ⟨?_, sh, ?_, ?_, ?_, be, ?_, Nat.le_trans sz (Nat.le_trans hg.size hg2.size)⟩
    · have e : (fun s => if s = x.val then addW G q (pre.map Fin.val) s ++ [q] else addW G q (pre.map Fin.val) s) = addW G q ((pre ++ [x]).map Fin.val) := by
        funext s
        rw [List.map_append, List.map_cons, List.map_nil, addW_snoc]
      rw [e] at wm
      rw [List.length_append]
      exact wm
    · exact (h.bl.kept hg (nrow _ (by omega) (.inl (by omega)))).kept hg2 (fun e => by simp only [Option.some.injEq] at e; omega)
    · exact (h.bx.kept hg (nrow _ (by omega) (.inr (.inr ⟨_, h.bx, fun cur e => by cases e⟩)))).kept hg2 (fun e => by simp only [Option.some.injEq] at e; omega)
    · exact (h.bxq.kept hg (nrow _ (by omega) (.inr (.inl (.inl rfl))))).kept hg2 (fun e => by simp only [Option.some.injEq] at e; omega)
    · exact (h.ma.grown (Nat.le_refl _) hg (fun r e => by obtain ⟨_, _, cur, r3⟩ := hrow r e; exact .inr (.inr ⟨_, r3, rfl⟩))).grown (Nat.le_refl _) hg2 (fun r e => by cases e; exact .inl (by omega))
/-- A row of a group in memory: the block's make. -/
theorem row_block {W : World} {base : Nat} {v : Value} {zs : List Int} (h : W.ownsInts base 3 .i64 v zs) : ∀ r, v.ownBlock = some r → base ≤ r ∧ ∃ cur, W.heap[r]? = some (.cells cur 3 (0, 0)) := by
  intro r e
  rcases h.1.2 with ⟨rfl, _⟩ | ⟨g, cap, cur, rfl, hb, hh, _⟩
  · cases e
  · cases e; exact ⟨hb, cur, hh⟩
/-- The append and the store of one wait, whichever way round the look-up and the new cell came. -/
theorem LvJ.put {B : Nat} {pre : List (Fin N.on.length)} {x : Fin N.on.length} {Wd Wl W2 : World} {v : Value} {g' cap' : Nat} (hB : B ≤ w.heap.size) (h3 : w.heap.size + 3 ≤ bq) (h4 : bq < hi) (h5 : w.heap.size + 3 ≤ nbm) (h6 : nbm < hi) (h7 : w.heap.size + 3 ≤ nbq) (h8 : nbq < hi) (hq : q < 1000000000000)
    (h : LvJ N w q L G ds hi bq nbm nbq pre Wd) (hl : Wl = Wd ∨ Wl = Wd.alloc (.cells #[.int .i64 (q : Int)] 3))
    (hoi : Wl.ownsInts (w.heap.size + 2) 3 .i64 v ((addW G q (pre.map Fin.val) x.val).map Int.ofNat)) (hsv : ∀ No : Nat → Prop, Wl.Shuns (w.heap.size + 1) No → ∀ g, v.ownBlock = some g → ¬ No g)
    (hbk : Back Wl (w.heap.size + 2) (w.heap.size + 1) (kk N q + pre.length) (addW G q (pre.map Fin.val)) x.val v)
    (hown : W2.ownsRow (w.heap.size + 2) 3 1 (.slice (some ⟨g', 0, none⟩) ((addW G q (pre.map Fin.val) x.val).length + 1) cap') ((addW G q (pre.map Fin.val) x.val).length + 1) (((addW G q (pre.map Fin.val) x.val).map fun t : Nat => Value.int .i64 (t : Int)) ++ [.int .i64 (q : Int)]))
    (hgr : (Wd.alloc (.cells #[.int .i64 (q : Int)] 3)).grownBy W2 v.ownBlock) (hloc : v.ownBlock = some g' ∨ g' = Wd.heap.size + 1) :
    ∃ W3, (Instr.mapUpdate 86 (.map (some (w.heap.size + 1))) (.int .i64 (x.val : Int)) (.slice (some ⟨g', 0, none⟩) ((addW G q (pre.map Fin.val) x.val).length + 1) cap')).run Try.prog W2 = .ok () W3 ∧
      (KeepsFrom hi Wd W3 ∧ Kept B nbm nbq Wd W3 ∧ LvJ N w q L G ds hi bq nbm nbq (pre ++ [x]) W3) := by
  have sz := h.sz
  have hga : ∀ row, Wd.grownBy (Wd.alloc (.cells #[.int .i64 (q : Int)] 3)) row := fun row => World.grownBy_alloc _ _ row
  have hgd : Wd.grownBy W2 v.ownBlock := (hga _).trans hgr
  have hgl : Wl.grownBy W2 v.ownBlock := by
    rcases hl with rfl | rfl
    · exact hgd
    · exact hgr
  have hgl0 : Wd.grownBy Wl none := by
    rcases hl with rfl | rfl
    · exact grown_of_below (Below.refl _ _)
    · exact hga none
  have hszl : Wl.heap.size ≤ Wd.heap.size + 1 := by rcases hl with rfl | rfl <;> simp
  have hshl : Wl.Shuns (w.heap.size + 1) (fun g => g = bq ∨ g = nbm ∨ g = nbq) := h.sh.kept hgl0 h.wm.lt (by simp)
  have hshl2 : Wl.Shuns (w.heap.size + 1) (fun g => Wd.heap.size ≤ g) := h.wm.shuns.kept hgl0 h.wm.lt (by simp)
  have hrow : ∀ r, v.ownBlock = some r → w.heap.size + 2 ≤ r ∧ ¬ (r = bq ∨ r = nbm ∨ r = nbq) ∧ ∃ cur, Wd.heap[r]? = some (.cells cur 3 (0, 0)) := fun r e => by
    obtain ⟨r1, cur, r2⟩ := row_block hoi r e
    have r3 := hsv _ hshl2 r e
    exact ⟨r1, hsv _ hshl r e, cur, (hgl0.block r (by omega) (by simp)).symm.trans r2⟩
  have hown' := hoi.appended (w1 := W2) (v' := .slice (some ⟨g', 0, none⟩) ((addW G q (pre.map Fin.val) x.val).length + 1) cap') (x := (q : Int)) (by
    rw [List.length_map, List.map_map]
    exact hown) (wf_nat hq)
  obtain ⟨W3, hrun, wm, hg2, hs3⟩ := hbk W2 _ q hgl hown' (by
    rcases hloc with e | e
    · exact .inl e.symm
    · exact .inr ⟨g', rfl, by omega⟩)
  refine ⟨W3, hrun, h.step hB h3 h4 h5 h6 h7 h8 hgd hrow hg2 wm (hs3 _ hshl ?_)⟩
  intro g e hno
  cases e
  rcases hloc with e | e
  · exact hsv _ hshl g' e hno
  · have hno' : g' = bq ∨ g' = nbm ∨ g' = nbq := hno
    omega
end
end Go.Proofs.Ytkjljnneghnpiaa
