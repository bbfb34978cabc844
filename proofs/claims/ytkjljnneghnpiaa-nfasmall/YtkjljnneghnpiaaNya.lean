import Derived.Test.YtkjljnneghnpiaaNfk
import Derived.RangeFuncBox
import Derived.Laws.MakeOwn
import Derived.Deep.AppendLies
namespace Go.Proofs.Ytkjljnneghnpiaa
open Go.RowKit Go.Maps Go.Shelf

theorem info4 : (Try.prog.info? 4).map (fun i => (i.zero, i.size, i.bytes)) = some (some (.bool false), 1, 1) := by kernel_rfl
theorem mk_bools (n : Nat) (hn : n ≤ 1048576) (W : World) : (Instr.makeSlice 42 (.int .i64 (n : Int)) (.int .i64 (n : Int))).run Try.prog W = .ok (.slice (some ⟨W.heap.size, 0, none⟩) n n) (W.alloc (.cells (madeCells #[.bool false] n) 4)) := by
  obtain ⟨i0, hi, hz0, hz1, hz2⟩ := info_parts info4
  have h := run_make W 42 4 i0 (.bool false) Try.underlying42 hi hz0 .i64 .i64 (n : Int) (n : Int) (by omega) (Int.le_refl _) (by rw [hz2]; omega) (by omega)
  rw [hz1] at h
  simp only [Int.toNat_natCast, Nat.mul_one] at h
  exact h
theorem made_get (z : Value) (n i : Nat) (hi : i < n) : (madeCells #[z] n)[i]? = some z := by
  simp [madeCells, hi, Nat.mod_one]
theorem Blw.made (w : World) (n : Nat) : Blw (w.alloc (.cells (madeCells #[.bool false] n) 4)) w.heap.size n (fun _ => false) := by
  refine ⟨⟨fun i hi => ?_⟩, fun i => fr_up (Below.refl _ _) i, by simp⟩
  rw [World.cell?_alloc_at _ _ _ _ (by simp)]
  exact made_get _ _ _ hi
/-- The marks that loops over functions leave. -/
def Marks (lo : Nat) (W : World) : Nat → List Deferred → Prop
  | _, [] => True
  | hi, d :: ds => ∃ D, d = { target := .collected D, args := #[] } ∧ lo ≤ D ∧ D < hi ∧ W.heap[D]? = some (.deferred (some [])) ∧ Marks lo W D ds
theorem Marks.same {lo : Nat} {W W' : World} : ∀ {hi hi' : Nat} {ds : List Deferred}, hi ≤ hi' → (∀ D, lo ≤ D → D < hi → W.heap[D]? = some (.deferred (some [])) → W'.heap[D]? = some (.deferred (some []))) → Marks lo W hi ds → Marks lo W' hi' ds
  | _, _, [], _, _, _ => trivial
  | hi, hi', d :: ds, hh, h, ⟨D, e, h1, h2, h3, h4⟩ => ⟨D, e, h1, by omega, h D h1 h2 h3, Marks.same (Nat.le_refl _) (fun D' k1 k2 => h D' k1 (by omega)) h4⟩
theorem Marks.grown {lo hi hi' : Nat} {W W' : World} {ds : List Deferred} {row : Option Nat} (h : Marks lo W hi ds) (hh : hi ≤ hi') (hg : W.grownBy W' row) (hr : ∀ r, row = some r → r < lo ∨ hi ≤ r ∨ ∃ o, W.heap[r]? = some o ∧ o.isCells = true) : Marks lo W' hi' ds :=
  h.same hh (fun D h1 h2 h3 => (hg.block D (lt_of_heap h3) (fun e => by
    rcases hr D e.symm with k | k | ⟨o, k1, k2⟩
    · omega
    · omega
    · rw [h3] at k1; cases k1; cases k2)).trans h3)
/-- What stays when the marks are taken away. -/
structure KeptM (lo : Nat) (W W' : World) : Prop where
  bel : Below lo W W'
  cells : ∀ (k : Nat) (o : Obj), W.heap[k]? = some o → o.isCells = true → W'.heap[k]? = some o
theorem KeptM.refl (lo : Nat) (W : World) : KeptM lo W W := ⟨Below.refl _ _, fun _ _ h _ => h⟩
theorem marks_leave {n : Nat} {fn : Func} {tmps : Array Value} {R : Ending → World → Prop} {lo : Nat} : ∀ (ds : List Deferred) (hi : Nat) (W : World), Marks lo W hi ds →
    (∀ W', KeptM lo W W' → LeavesInM Fence.wide n Try.prog fn tmps R [] .returning W') → LeavesInM Fence.wide n Try.prog fn tmps R ds .returning W
  | [], _, W, _, h => h W (KeptM.refl _ _)
  | d :: ds, hi, W, ⟨D, e, h1, h2, h3, h4⟩, h => by
    subst e
    refine ⟨by simp, .inl ⟨D, _, rfl, run_takeDeferred h3, ?_⟩⟩
    have hg := grownBy_putObj' W D (.deferred none)
    refine marks_leave ds D _ (h4.same (Nat.le_refl _) fun D' k1 k2 k3 => (hg.block D' (lt_of_heap k3) (fun e => by cases e; omega)).trans k3) (fun W' hk => h W' ?_)
    exact ⟨((Below.refl lo W).grown hg (by have := lt_of_heap h3; omega) (fun k e => by cases e; exact h1)).trans hk.bel, fun k o h5 h6 => hk.cells k o ((hg.block k (lt_of_heap h5) (fun e => by cases e; rw [h3] at h5; cases h5; cases h6)).trans h5) h6⟩
end Go.Proofs.Ytkjljnneghnpiaa
namespace Go.Proofs.Ytkjljnneghnpiaa
open Go.RowKit Go.Maps Go.Shelf

theorem WMap.kept2 {W W' : World} {base bm k : Nat} {G : Nat → List Nat} {row : Option Nat} (h : WMap W base bm k G) (hg : W.grownBy W' row) (hb : some bm ≠ row) (hr : ∀ r, row = some r → ∃ o : Obj, W.heap[r]? = some o ∧ o.isCells = false) : WMap W' base bm k G := by
  obtain ⟨D, h1, h2⟩ := h
  refine ⟨D, h1.kept hg hb ?_, h2⟩
  intro es clock hb x hx
  cases hx' : x.val.ownBlock with
  | none => exact .inl rfl
  | some g =>
    refine .inr (fun e => ?_)
    obtain ⟨o, h3, h4⟩ := hr g e.symm
    obtain ⟨es', clock', hb', F, _⟩ := h1
    obtain ⟨rfl, rfl⟩ : es' = es ∧ clock' = clock := by rw [hb'] at hb; simpa using hb
    obtain ⟨y, hy⟩ := F.reads x hx
    obtain ⟨z, hz, _⟩ := WideElems.rd_val hy
    obtain ⟨zs, hoi, _⟩ := rowElem_inv hz
    rcases hoi.1.2 with ⟨e1, _⟩ | ⟨g', cap, cur, e1, _, e2, _⟩
    · rw [e1] at hx'; cases hx'
    · rw [e1] at hx'
      simp [Value.ownBlock] at hx'
      subst hx'
      rw [h3] at e2; cases e2; cases h4
theorem WMap.alloc {W : World} {base bm k : Nat} {G : Nat → List Nat} (h : WMap W base bm k G) (o : Obj) : WMap (W.alloc o) base bm k G := h.kept2 (World.grownBy_alloc _ _ none) (by simp) (fun r e => by cases e)
theorem WMap.made (w : World) : WMap (w.alloc (.map #[] 0)) (w.heap.size + 1) w.heap.size 0 (fun _ => []) :=
  ⟨.map [], World.ownsGroups_made _ _ _ _ _, fun _ _ => rfl⟩
/-- The way back from a look-up. -/
def Back (W : World) (base bm k : Nat) (G : Nat → List Nat) (t : Nat) (v : Value) : Prop :=
  ∀ (W1 : World) (v' : Value) (x : Nat), W.grownBy W1 v.ownBlock → W1.ownsInts base 3 .i64 v' ((G t).map Int.ofNat ++ [(x : Int)]) → (v'.ownBlock = v.ownBlock ∨ ∃ g, v'.ownBlock = some g ∧ W.heap.size ≤ g) →
    ∃ W2, (Instr.mapUpdate 86 (.map (some bm)) (.int .i64 (t : Int)) v').run Try.prog W1 = .ok () W2 ∧ WMap W2 base bm (k + 1) (fun s => if s = t then G s ++ [x] else G s) ∧ W1.grownBy W2 (some bm) ∧
      (∀ No : Nat → Prop, W.Shuns bm No → (∀ g, v'.ownBlock = some g → ¬ No g) → W2.Shuns bm No)
theorem WMap.look {W : World} {base bm k t : Nat} {G : Nat → List Nat} (h : WMap W base bm k G) (hk : k ≤ 1000000000) (ht : t < 1000000000000) :
    ∃ v, (Instr.lookup 86 (.map (some bm)) (.int .i64 (t : Int)) false).run Try.prog W = .ok v W ∧ W.ownsInts base 3 .i64 v ((G t).map Int.ofNat) ∧ (∀ No : Nat → Prop, W.Shuns bm No → ∀ g, v.ownBlock = some g → ¬ No g) ∧ (G t).length ≤ k ∧ Back W base bm k G t v := by
  obtain ⟨D, hown, hD⟩ := h
  have hkey : keyOf Try.prog 3 (.int .i64 (t : Int)) = some (.int .i64 (t : Int)) := keyOf_int_mk Try.underlying3 (wf_nat ht)
  have hn : k < maxLen := by unfold maxLen; omega
  obtain ⟨v, zs, hrun, hat, hoi, hzl, hback⟩ := hown.at law3 Try.underlying86 (zero23 _) hn hkey
  have e : zs = (G t).map Int.ofNat := by rw [← hD t ht, hat, its_row hoi]
  subst e
  refine ⟨v, hrun, hoi, ?_, by simpa using hzl, ?_⟩
  · obtain ⟨es, clock, hb, F, _⟩ := hown
    rcases Maps.fit_look false law3 Try.underlying86 (zero23 _) hb F hkey with ⟨hrun', _, _⟩ | ⟨e0, y, hm0, _, hrun', _, _, _⟩
    · rw [hrun] at hrun'
      obtain rfl : v = .slice none 0 0 := by simpa using hrun'
      intro _ _ g hg'
      cases hg'
    · rw [hrun] at hrun'
      obtain rfl : v = e0.val := by simpa using hrun'
      exact fun No hs g hg' => hs es clock hb e0 hm0 g hg'
  · intro W1 v' x hgr hown' hloc
    obtain ⟨w2, hrun2, r1, r2⟩ := hback W1 v' _ hgr hown' (by simp at hzl ⊢; exact hzl) hloc
    refine ⟨w2, hrun2, ⟨_, r1, fun s hs => ?_⟩, r2, fun No hsh hno => ?_⟩
    · have hm : IsMap D := by obtain ⟨es, clock, _, _, _, rfl, _⟩ := hown; exact ⟨_, rfl⟩
      show _ = List.map Int.ofNat (if s = t then G s ++ [x] else G s)
      by_cases e : s = t
      · subst e
        rw [if_pos rfl, atKey_put_same hm (law3.key hkey), its_row hown']
        simp
      · rw [if_neg e, atKey_put_other (by intro h; cases h; exact e rfl)]
        exact hD s hs
    · obtain ⟨es, clock, hb, F, hs, _, hbb, _⟩ := hown
      have hblt : bm < W.heap.size := lt_of_heap hb
      have hb1 : W1.heap[bm]? = some (.map es clock) := (hgr.block bm hblt (fun e1 => by have := (hoi.1.lt bm e1.symm).1; omega)).trans hb
      obtain ⟨es', clock', hb2, hwho⟩ := stored_who law3 Try.underlying86 hb1 F (Nat.lt_of_le_of_lt hs hn) hkey hrun2
      intro es2 clock2 hb2' y hy g hyg
      obtain ⟨rfl, rfl⟩ : es' = es2 ∧ clock' = clock2 := by rw [hb2] at hb2'; simpa using hb2'
      rcases hwho y hy with ⟨hy0, _⟩ | ⟨_, hval⟩
      · exact hsh es clock hb y hy0 g hyg
      · exact hno g (hval ▸ hyg)
end Go.Proofs.Ytkjljnneghnpiaa
namespace Go.Proofs.Ytkjljnneghnpiaa
open Go.RowKit Go.Maps Go.Shelf

/-- How many waits there can be below q. -/
def kk (N : Mc) : Nat → Nat
  | 0 => 0
  | q + 1 => kk N q + (N.nx q).length
theorem nx_len {N : Mc} (q : Nat) : (N.nx q).length ≤ 1 + (N.frees q).length := by
  unfold Mc.nx
  rw [List.length_append]
  have h1 : (N.hz q).length ≤ 1 := by
    rcases hz_ont (N := N) (q := q) with ⟨_, h⟩ | ⟨t, _, h⟩ <;> rw [h] <;> simp
  have h2 : (N.fz (N.frees q)).length ≤ (N.frees q).length := by unfold Mc.fz; exact List.length_filterMap_le _ _
  omega
theorem sum_take : ∀ (l : List (List Int)) (q : Nat), ((l.take q).map List.length).sum ≤ (l.map List.length).sum
  | [], q => by simp
  | x :: l, 0 => by simp
  | x :: l, q + 1 => by have := sum_take l q; simp only [List.take_succ_cons, List.map_cons, List.sum_cons]; omega
theorem kk_sum {N : Mc} (q : Nat) : kk N q ≤ q + ((N.free.take q).map List.length).sum := by
  induction q with
  | zero => simp [kk]
  | succ q ih =>
    have h := nx_len (N := N) q
    unfold kk
    rw [List.take_add_one, List.map_append, List.sum_append]
    have e : (N.frees q).length = (N.free[q]?.toList.map List.length).sum := by
      unfold Mc.frees
      rw [List.getD_eq_getElem?_getD]
      cases N.free[q]? <;> simp
    rw [← e]
    omega
theorem kk_le {N : Mc} (hs : Small N) {q : Nat} (hq : q ≤ N.on.length) : kk N q ≤ 2097152 := by
  have h1 := kk_sum (N := N) q
  have h2 := sum_take N.free q
  have h3 := hs.sum
  have h4 := hs.on
  omega
/-- What is known at the head of living's loop. -/
structure LvR (N : Mc) (w : World) (q : Nat) (L : Nat → Bool) (G : Nat → List Nat) (ds : List Deferred) (W : World) : Prop where
  lv : LvI N q L G
  wm : WMap W (w.heap.size + 2) (w.heap.size + 1) (kk N q) G
  bl : Blw W w.heap.size N.on.length L
  bx : Boxed W (w.heap.size + 2) 86 (.map (some (w.heap.size + 1)))
  be : Below w.heap.size w W
  ma : Marks (w.heap.size + 3) W W.heap.size ds
/-- What is known between two rounds of the loop over next(q). -/
structure LvJ (N : Mc) (w : World) (q : Nat) (L : Nat → Bool) (G : Nat → List Nat) (ds : List Deferred) (hi bq nbm nbq : Nat) (pre : List (Fin N.on.length)) (W : World) : Prop where
  wm : WMap W (w.heap.size + 2) (w.heap.size + 1) (kk N q + pre.length) (addW G q (pre.map Fin.val))
  sh : W.Shuns (w.heap.size + 1) (fun g => g = bq ∨ g = nbm ∨ g = nbq)
  bl : Blw W w.heap.size N.on.length L
  bx : Boxed W (w.heap.size + 2) 86 (.map (some (w.heap.size + 1)))
  bxq : Boxed W bq 3 (.int .i64 (q : Int))
  be : Below w.heap.size w W
  ma : Marks (w.heap.size + 3) W hi ds
  sz : hi ≤ W.heap.size
section
variable {N : Mc} {w : World} {q : Nat} {L : Nat → Bool} {G : Nat → List Nat} {ds : List Deferred} {hi bq nbm nbq : Nat}
theorem LvJ.own (h3 : w.heap.size + 3 ≤ bq) (h4 : bq < hi) : OwnFrom hi (LvJ N w q L G ds hi bq nbm nbq) := by
  intro pre W W' row h hg hr
  have ne : ∀ k, k < hi → some k ≠ row := fun k hk e => by have := (hr k e.symm).1; omega
  refine ⟨h.wm.kept2 hg (ne _ (by omega)) (fun r e => (hr r e).2), h.sh.kept hg h.wm.lt (ne _ (by omega)), h.bl.kept hg (ne _ (by omega)), h.bx.kept hg (ne _ (by omega)), h.bxq.kept hg (ne _ h4), h.be.grown hg h.be.size (fun k e => by have := (hr k e).1; omega), h.ma.grown (Nat.le_refl _) hg (fun r e => .inr (.inl (hr r e).1)), Nat.le_trans h.sz hg.size⟩
theorem LvJ.step {B : Nat} {pre : List (Fin N.on.length)} {x : Fin N.on.length} {Wd W2 W3 : World} {row : Option Nat} (hB : B ≤ w.heap.size) (h3 : w.heap.size + 3 ≤ bq) (h4 : bq < hi) (h5 : w.heap.size + 3 ≤ nbm) (h6 : nbm < hi) (h7 : w.heap.size + 3 ≤ nbq) (h8 : nbq < hi)
    (h : LvJ N w q L G ds hi bq nbm nbq pre Wd) (hg : Wd.grownBy W2 row) (hrow : ∀ r, row = some r → w.heap.size + 2 ≤ r ∧ ¬ (r = bq ∨ r = nbm ∨ r = nbq) ∧ ∃ cur, Wd.heap[r]? = some (.cells cur 3 (0, 0)))
    (hg2 : W2.grownBy W3 (some (w.heap.size + 1))) (wm : WMap W3 (w.heap.size + 2) (w.heap.size + 1) (kk N q + pre.length + 1) (fun s => if s = x.val then addW G q (pre.map Fin.val) s ++ [q] else addW G q (pre.map Fin.val) s))
    (sh : W3.Shuns (w.heap.size + 1) (fun g => g = bq ∨ g = nbm ∨ g = nbq)) :
    KeepsFrom hi Wd W3 ∧ Kept B nbm nbq Wd W3 ∧ LvJ N w q L G ds hi bq nbm nbq (pre ++ [x]) W3 := by
  have sz := h.sz
  have nrow : ∀ k, k ≠ w.heap.size + 1 → (k < w.heap.size + 2 ∨ (k = bq ∨ k = nbm ∨ k = nbq) ∨ (∃ o : Obj, Wd.heap[k]? = some o ∧ ∀ cur, o ≠ .cells cur 3 (0, 0))) → some k ≠ row := fun k _ hk e => by
    obtain ⟨r1, r2, cur, r3⟩ := hrow k e.symm
    rcases hk with hk | hk | ⟨o, k1, k2⟩
    · omega
    · exact r2 hk
    · rw [r3] at k1; cases k1; exact k2 cur rfl
  have keep : ∀ k, k < Wd.heap.size → k ≠ w.heap.size + 1 → (k < w.heap.size + 2 ∨ (k = bq ∨ k = nbm ∨ k = nbq) ∨ (∃ o : Obj, Wd.heap[k]? = some o ∧ ∀ cur, o ≠ .cells cur 3 (0, 0))) → W3.heap[k]? = Wd.heap[k]? := fun k hk h0 h1 =>
    (hg2.block k (Nat.lt_of_lt_of_le hk hg.size) (fun e => by cases e; exact h0 rfl)).trans (hg.block k hk (nrow k h0 h1))
  have be : Below w.heap.size w W3 := (h.be.grown hg h.be.size (fun k e => by have := (hrow k e).1; omega)).grown hg2 (by have := h.be.size; have := hg.size; omega) (fun k e => by cases e; omega)
  refine ⟨⟨Nat.le_trans hg.size hg2.size, fun k o hk ho hc => ?_⟩, ⟨?_, ?_, ?_⟩, ?_⟩
  · exact (keep k (lt_of_heap ho) (by omega) (.inr (.inr ⟨o, ho, fun cur e => by rw [e] at hc; cases hc⟩))).trans ho
  · exact ⟨hg2.os.trans hg.os, hg2.tape.trans hg.tape, hg2.output.trans hg.output, Nat.le_trans hg.size hg2.size, fun k hk => keep k (by have := h.be.size; omega) (by omega) (.inl (by omega))⟩
  · exact World.cell?_of_block (keep nbm (by omega) (by omega) (.inr (.inl (.inr (.inl rfl)))))
  · exact World.cell?_of_block (keep nbq (by omega) (by omega) (.inr (.inl (.inr (.inr rfl)))))
  · refine ⟨?_, sh, ?_, ?_, ?_, be, ?_, Nat.le_trans sz (Nat.le_trans hg.size hg2.size)⟩
    · have e : (fun s => if s = x.val then addW G q (pre.map Fin.val) s ++ [q] else addW G q (pre.map Fin.val) s) = addW G q ((pre ++ [x]).map Fin.val) := by
        funext s
        rw [List.map_append, List.map_cons, List.map_nil, addW_snoc]
      rw [e] at wm
      rw [List.length_append]
      exact wm
    · exact (h.bl.kept hg (nrow _ (by omega) (.inl (by omega)))).kept hg2 (fun e => by simp only [Option.some.injEq] at e; omega)
    · exact (h.bx.kept hg (nrow _ (by omega) (.inr (.inr ⟨_, h.bx, fun cur e => by cases e⟩)))).kept hg2 (fun e => by simp only [Option.some.injEq] at e; omega)
    · exact (h.bxq.kept hg (nrow _ (by omega) (.inr (.inl (.inl rfl))))).kept hg2 (fun e => by simp only [Option.some.injEq] at e; omega)
    · exact (h.ma.grown (Nat.le_refl _) hg (fun r e => by obtain ⟨_, _, cur, r3⟩ := hrow r e; exact .inr (.inr ⟨_, r3, rfl⟩))).grown (Nat.le_refl _) hg2 (fun r e => by cases e; exact .inl (by omega))
/-- A row of a group in memory: the block's make. -/
theorem row_block {W : World} {base : Nat} {v : Value} {zs : List Int} (h : W.ownsInts base 3 .i64 v zs) : ∀ r, v.ownBlock = some r → base ≤ r ∧ ∃ cur, W.heap[r]? = some (.cells cur 3 (0, 0)) := by
  intro r e
  rcases h.1.2 with ⟨rfl, _⟩ | ⟨g, cap, cur, rfl, hb, hh, _⟩
  · cases e
  · cases e; exact ⟨hb, cur, hh⟩
/-- The append and the store of one wait, whichever way round the look-up and the new cell came. -/
theorem LvJ.put {B : Nat} {pre : List (Fin N.on.length)} {x : Fin N.on.length} {Wd Wl W2 : World} {v : Value} {g' cap' : Nat} (hB : B ≤ w.heap.size) (h3 : w.heap.size + 3 ≤ bq) (h4 : bq < hi) (h5 : w.heap.size + 3 ≤ nbm) (h6 : nbm < hi) (h7 : w.heap.size + 3 ≤ nbq) (h8 : nbq < hi) (hq : q < 1000000000000)
    (h : LvJ N w q L G ds hi bq nbm nbq pre Wd) (hl : Wl = Wd ∨ Wl = Wd.alloc (.cells #[.int .i64 (q : Int)] 3))
    (hoi : Wl.ownsInts (w.heap.size + 2) 3 .i64 v ((addW G q (pre.map Fin.val) x.val).map Int.ofNat)) (hsv : ∀ No : Nat → Prop, Wl.Shuns (w.heap.size + 1) No → ∀ g, v.ownBlock = some g → ¬ No g)
    (hbk : Back Wl (w.heap.size + 2) (w.heap.size + 1) (kk N q + pre.length) (addW G q (pre.map Fin.val)) x.val v)
    (hown : W2.ownsRow (w.heap.size + 2) 3 1 (.slice (some ⟨g', 0, none⟩) ((addW G q (pre.map Fin.val) x.val).length + 1) cap') ((addW G q (pre.map Fin.val) x.val).length + 1) (((addW G q (pre.map Fin.val) x.val).map fun t : Nat => Value.int .i64 (t : Int)) ++ [.int .i64 (q : Int)]))
    (hgr : (Wd.alloc (.cells #[.int .i64 (q : Int)] 3)).grownBy W2 v.ownBlock) (hloc : v.ownBlock = some g' ∨ g' = Wd.heap.size + 1) :
    ∃ W3, (Instr.mapUpdate 86 (.map (some (w.heap.size + 1))) (.int .i64 (x.val : Int)) (.slice (some ⟨g', 0, none⟩) ((addW G q (pre.map Fin.val) x.val).length + 1) cap')).run Try.prog W2 = .ok () W3 ∧
      (KeepsFrom hi Wd W3 ∧ Kept B nbm nbq Wd W3 ∧ LvJ N w q L G ds hi bq nbm nbq (pre ++ [x]) W3) := by
  have sz := h.sz
  have hga : ∀ row, Wd.grownBy (Wd.alloc (.cells #[.int .i64 (q : Int)] 3)) row := fun row => World.grownBy_alloc _ _ row
  have hgd : Wd.grownBy W2 v.ownBlock := (hga _).trans hgr
  have hgl : Wl.grownBy W2 v.ownBlock := by
    rcases hl with rfl | rfl
    · exact hgd
    · exact hgr
  have hgl0 : Wd.grownBy Wl none := by
    rcases hl with rfl | rfl
    · exact grown_of_below (Below.refl _ _)
    · exact hga none
  have hszl : Wl.heap.size ≤ Wd.heap.size + 1 := by rcases hl with rfl | rfl <;> simp
  have hshl : Wl.Shuns (w.heap.size + 1) (fun g => g = bq ∨ g = nbm ∨ g = nbq) := h.sh.kept hgl0 h.wm.lt (by simp)
  have hshl2 : Wl.Shuns (w.heap.size + 1) (fun g => Wd.heap.size ≤ g) := h.wm.shuns.kept hgl0 h.wm.lt (by simp)
  have hrow : ∀ r, v.ownBlock = some r → w.heap.size + 2 ≤ r ∧ ¬ (r = bq ∨ r = nbm ∨ r = nbq) ∧ ∃ cur, Wd.heap[r]? = some (.cells cur 3 (0, 0)) := fun r e => by
    obtain ⟨r1, cur, r2⟩ := row_block hoi r e
    have r3 := hsv _ hshl2 r e
    exact ⟨r1, hsv _ hshl r e, cur, (hgl0.block r (by omega) (by simp)).symm.trans r2⟩
  have hown' := hoi.appended (w1 := W2) (v' := .slice (some ⟨g', 0, none⟩) ((addW G q (pre.map Fin.val) x.val).length + 1) cap') (x := (q : Int)) (by
    rw [List.length_map, List.map_map]
    exact hown) (wf_nat hq)
  obtain ⟨W3, hrun, wm, hg2, hs3⟩ := hbk W2 _ q hgl hown' (by
    rcases hloc with e | e
    · exact .inl e.symm
    · exact .inr ⟨g', rfl, by omega⟩)
  refine ⟨W3, hrun, h.step hB h3 h4 h5 h6 h7 h8 hgd hrow hg2 wm (hs3 _ hshl ?_)⟩
  intro g e hno
  cases e
  rcases hloc with e | e
  · exact hsv _ hshl g' e hno
  · have hno' : g' = bq ∨ g' = nbm ∨ g' = nbq := hno
    omega
end
end Go.Proofs.Ytkjljnneghnpiaa
