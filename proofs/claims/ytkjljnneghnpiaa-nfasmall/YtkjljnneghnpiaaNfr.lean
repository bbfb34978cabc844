import Derived.Test.YtkjljnneghnpiaaNfv
import Derived.Test.YtkjljnneghnpiaaNff
namespace Go.Proofs.Ytkjljnneghnpiaa
open Go.RowKit Go.Maps

theorem blk_set {W : World} {bf k : Nat} {cur : Array Value} {t : TypeId} (v : Value) (h : W.heap[bf]? = some (.cells cur t (0, 0))) : (W.setCell ⟨bf, k, none⟩ v).heap[bf]? = some (.cells (cur.setIfInBounds k v) t (0, 0)) := by
  obtain ⟨hlt, hk⟩ := Array.getElem?_eq_some_iff.1 h
  show (W.heap.modify bf _)[bf]? = _
  rw [Array.getElem?_eq_getElem (by rw [Array.size_modify]; exact hlt), Array.getElem_modify_self, hk]
  rfl
/-- The ten cells of a front. -/
abbrev frC (b g gs n : Nat) (sv bv : Value) (m : Nat → Bool) (c : Nat) : Array Value :=
  #[.pointer (some ⟨b, 0, none⟩), .slice (some ⟨g, 0, none⟩) n n, sv, bv, .int .u64 (wd m 0 : Nat), .int .u64 (wd m 1 : Nat), .int .u64 (wd m 2 : Nat), .int .u64 (wd m 3 : Nat), .int .i64 (c : Int), .slice (some ⟨gs, 0, none⟩) n n]
/-- A front in memory. -/
structure FroV (B : Nat) (W : World) (bf b g gs : Nat) (N : Mc) (L : Nat → Bool) (S P : List Nat) (m : Nat → Bool) (c : Nat) (sn : Nat → Nat) (sv bv : Value) : Prop where
  blk : W.heap[bf]? = some (.cells (frC b g gs N.on.length sv bv m c) 71 (0, 0))
  mac : Mac B W b N
  live : Blw W g N.on.length L
  seen : ∀ i, i < N.on.length → W.cell? ⟨gs, i, none⟩ = some (.int .i64 (sn i : Int))
  sfr : ∀ i, W.frozen? ⟨gs, i, none⟩ = false
  slt : gs < W.heap.size
  srow : W.ownsRow B 3 1 sv S.length (S.map fun t : Nat => Value.int .i64 (t : Int))
  brow : W.ownsRow B 3 1 bv P.length (P.map fun t : Nat => Value.int .i64 (t : Int))
  apart : ∀ r, sv.ownBlock = some r → r ≠ g ∧ r ≠ gs ∧ bv.ownBlock ≠ some r
  bapart : ∀ r, bv.ownBlock = some r → r ≠ g ∧ r ≠ gs
  ne : bf ≠ g ∧ bf ≠ gs ∧ g ≠ gs
  lo : B ≤ bf ∧ B ≤ g ∧ B ≤ gs
  lB : B ≤ W.heap.size
section
variable {B : Nat} {W W' : World} {bf b g gs : Nat} {N : Mc} {L : Nat → Bool} {S P : List Nat} {m : Nat → Bool} {c : Nat} {sn : Nat → Nat} {sv bv : Value}
theorem FroV.cell (h : FroV B W bf b g gs N L S P m c sn sv bv) (k : Nat) (v : Value) (hk : (frC b g gs N.on.length sv bv m c)[k]? = some v) : W.cell? ⟨bf, k, none⟩ = some v := by
  rw [Lib.cell_of_heap h.blk]; exact hk
theorem FroV.fr (h : FroV B W bf b g gs N L S P m c sn sv bv) (k : Nat) : W.frozen? ⟨bf, k, none⟩ = false := Lib.frozen_of_heap h.blk k
theorem FroV.row_ne (h : FroV B W bf b g gs N L S P m c sn sv bv) : sv.ownBlock ≠ some bf ∧ bv.ownBlock ≠ some bf := by
  have key : ∀ v n xs, W.ownsRow B 3 1 v n xs → v.ownBlock ≠ some bf := fun v n xs hr e => by
    rcases hr.2 with ⟨rfl, _⟩ | ⟨g', cap, cur, rfl, _, hh, _⟩
    · cases e
    · cases e
      rw [h.blk] at hh
      cases hh
  exact ⟨key _ _ _ h.srow, key _ _ _ h.brow⟩
theorem FroV.grown (h : FroV B W bf b g gs N L S P m c sn sv bv) (hg : W.grownBy W' none) : FroV B W' bf b g gs N L S P m c sn sv bv := by
  have hb : Below B W W' := (Below.refl B W).grown hg h.lB (fun k e => by cases e)
  have e := hg.block gs h.slt (by simp)
  exact ⟨(hg.block bf (lt_of_heap h.blk) (by simp)).trans h.blk, h.mac.mono hb (Nat.le_refl _), h.live.kept hg (by simp), fun i hi => by rw [World.cell?_of_block (a := ⟨gs, i, none⟩) e]; exact h.seen i hi, fun i => by rw [World.frozen?_of_block (a := ⟨gs, i, none⟩) e]; exact h.sfr i, Nat.lt_of_lt_of_le h.slt hg.size, h.srow.kept hg (by cases sv.ownBlock <;> simp), h.brow.kept hg (by cases bv.ownBlock <;> simp), h.apart, h.bapart, h.ne, h.lo, Nat.le_trans h.lB hg.size⟩
theorem FroV.below (h : FroV B W bf b g gs N L S P m c sn sv bv) (hb : Below W.heap.size W W') : FroV B W' bf b g gs N L S P m c sn sv bv := h.grown (grown_of_below hb)
theorem FroV.drew (h : FroV B W bf b g gs N L S P m c sn sv bv) : FroV B W.drew bf b g gs N L S P m c sn sv bv := h.below (Below.drew (Below.refl _ _))
theorem FroV.mark (h : FroV B W bf b g gs N L S P m c sn sv bv) {q c' : Nat} (hq : q < N.on.length) : FroV B (W.setCell ⟨gs, q, none⟩ (.int .i64 (c' : Int))) bf b g gs N L S P m c (fun t => if t = q then c' else sn t) sv bv ∧ Below B W (W.setCell ⟨gs, q, none⟩ (.int .i64 (c' : Int))) := by
  have hg : W.grownBy (W.setCell ⟨gs, q, none⟩ (.int .i64 (c' : Int))) (some gs) := grown_set
  have hb : Below B W (W.setCell ⟨gs, q, none⟩ (.int .i64 (c' : Int))) := (Below.refl B W).setCell (p := ⟨gs, q, none⟩) h.lo.2.2 _
  refine ⟨⟨(hg.block bf (lt_of_heap h.blk) (fun e => by cases e; exact h.ne.2.1 rfl)).trans h.blk, h.mac.mono hb (Nat.le_refl _), h.live.kept hg (fun e => by cases e; exact h.ne.2.2 rfl), fun i hi => ?_, fun i => by rw [World.frozen?_setCell]; exact h.sfr i, by simpa using h.slt, h.srow.kept hg (.inr fun e => (h.apart _ e).2.1 rfl), h.brow.kept hg (.inr fun e => (h.bapart _ e).2 rfl), h.apart, h.bapart, h.ne, h.lo, by simpa using h.lB⟩, hb⟩
  by_cases e : i = q
  · subst e
    rw [if_pos rfl]
    exact World.cell?_setCell_same' _ _ _ (by rw [h.seen i hq]; rfl)
  · rw [if_neg e, World.cell?_setCell_other _ _ _ _ (by intro h; cases h; exact e rfl)]
    exact h.seen i hi
theorem FroV.push (h : FroV B W bf b g gs N L S P m c sn sv bv) {o : Obj} {W2 : World} {S' : List Nat} {sv' : Value} (hg : (W.alloc o).grownBy W2 sv.ownBlock) (hr : W2.ownsRow B 3 1 sv' S'.length (S'.map fun t : Nat => Value.int .i64 (t : Int)))
    (hloc : sv'.ownBlock = sv.ownBlock ∨ sv'.ownBlock = some (W.heap.size + 1)) : FroV B (W2.setCell ⟨bf, 2, none⟩ sv') bf b g gs N L S' P m c sn sv' bv ∧ Below B W (W2.setCell ⟨bf, 2, none⟩ sv') := by
  have hg1 : W.grownBy W2 sv.ownBlock := (World.grownBy_alloc _ _ _).trans hg
  have hg2 : W2.grownBy (W2.setCell ⟨bf, 2, none⟩ sv') (some bf) := grown_set
  have lt1 := hg1.size
  have hb1 : Below B W W2 := (Below.refl B W).grown hg1 h.lB (fun k e => (h.srow.lt k e).1)
  have hb : Below B W (W2.setCell ⟨bf, 2, none⟩ sv') := hb1.setCell (p := ⟨bf, 2, none⟩) h.lo.1 _
  have hblk : W2.heap[bf]? = some (.cells (frC b g gs N.on.length sv bv m c) 71 (0, 0)) := (hg1.block bf (lt_of_heap h.blk) (fun e => h.row_ne.1 e.symm)).trans h.blk
  have hnr : sv'.ownBlock ≠ some bf := fun e => by
    rcases hloc with h1 | h1
    · rw [e] at h1; exact h.row_ne.1 h1.symm
    · rw [e] at h1; have := lt_of_heap h.blk; simp at h1; omega
  have e3 : (W2.setCell ⟨bf, 2, none⟩ sv').heap[gs]? = W.heap[gs]? := (hg2.block gs (by have := h.slt; omega) (fun e => by cases e; exact h.ne.2.1 rfl)).trans (hg1.block gs h.slt (fun e => (h.apart gs e.symm).2.1 rfl))
  refine ⟨⟨blk_set sv' hblk, h.mac.mono hb (Nat.le_refl _), (h.live.kept hg1 (fun e => (h.apart g e.symm).1 rfl)).kept hg2 (fun e => by cases e; exact h.ne.1 rfl), fun i hi => by rw [World.cell?_of_block (a := ⟨gs, i, none⟩) e3]; exact h.seen i hi, fun i => by rw [World.frozen?_of_block (a := ⟨gs, i, none⟩) e3]; exact h.sfr i, by have := h.slt; simp; omega, hr.kept hg2 (.inr hnr), (h.brow.kept hg1 ?_).kept hg2 (.inr h.row_ne.2), fun r e => ?_, h.bapart, h.ne, h.lo, by have := h.lB; simp; omega⟩, hb⟩
  · cases hbv : bv.ownBlock with
    | none => exact .inl rfl
    | some r => exact .inr fun e => (h.apart r e.symm).2.2 hbv
  · rcases hloc with h1 | h1
    · exact h.apart r (h1 ▸ e)
    · rw [e] at h1
      cases h1
      have h2 := h.live.lt
      have h3 := h.slt
      refine ⟨by omega, by omega, fun e' => ?_⟩
      have := (h.brow.lt _ e').2
      omega
end
/-- What enter leaves. -/
def EntR (B : Nat) (bf b g gs : Nat) (N : Mc) (L : Nat → Bool) (S P : List Nat) (m : Nat → Bool) (c : Nat) (sn : Nat → Nat) (sv bv : Value) (q : Nat) (w' : World) : Prop :=
  (L q = true ∧ sn q ≠ c ∧ ∃ sv', FroV B w' bf b g gs N L (S ++ [q]) P m c (fun t => if t = q then c else sn t) sv' bv) ∨ ((L q = false ∨ sn q = c) ∧ FroV B w' bf b g gs N L S P m c sn sv bv)

set_option maxRecDepth 100000 in
set_option maxHeartbeats 4000000 in
theorem enter_any {B bf b g gs q c : Nat} {N : Mc} {L : Nat → Bool} {S P : List Nat} {m : Nat → Bool} {sn : Nat → Nat} {sv bv : Value} (hq : q < N.on.length) (hS : S.length ≤ 1048576) (W : World) (h : FroV B W bf b g gs N L S P m c sn sv bv) :
    Calls Try.prog 40 #[.pointer (some ⟨bf, 0, none⟩), .int .i64 (q : Int)] W fun e w' => (∃ v, e = .returned v) ∧ Below B W w' ∧ EntR B bf b g gs N L S P m c sn sv bv q w' := by
  have c1 := h.cell 1 _ rfl
  have c2 := h.cell 2 _ rfl
  have c8 := h.cell 8 _ rfl
  have c9 := h.cell 9 _ rfl
  have cl := h.live.row.c q hq
  have cs := h.seen q hq
  have HF : Hid _ := h
  have HQ : Hid (q < N.on.length) := hq
  have HS : Hid (S.length ≤ 1048576) := hS
  clear h hS
  cases hL : L q
  · rw [hL] at cl
    have HL : Hid (L q = false) := hL
    clear hL
    go_enter Try.func40, Try.ntmps40
    go_wp2_with fail
    go_quiet (fail)
    go_wp2_with fail
    go_end0
    have hb : Below W.heap.size W (W.drewN nq) := below_drewN (Below.refl _ _) nq
    exact ⟨⟨_, rfl⟩, hb.mono HF.out.lB, .inr ⟨.inl HL.out, HF.out.below hb⟩⟩
  · rw [hL] at cl
    have HL : Hid (L q = true) := hL
    clear hL
    by_cases e : sn q = c
    · rw [e] at cs
      have HE : Hid (sn q = c) := e
      clear e
      go_enter Try.func40, Try.ntmps40
      go_wp2_with fail
      go_quiet (fail)
      go_wp2_with fail
      go_end0
      have hb : Below W.heap.size W (W.drewN nq) := below_drewN (Below.refl _ _) nq
      exact ⟨⟨_, rfl⟩, hb.mono HF.out.lB, .inr ⟨.inr HE.out, HF.out.below hb⟩⟩
    · have hne : ((sn q : Int) != (c : Int)) = true := by rw [bne_iff_ne]; omega
      have hne2 : ((sn q : Int) == (c : Int)) = false := by rw [beq_eq_false_iff_ne]; omega
      have HE : Hid (sn q ≠ c) := e
      clear e
      go_enter Try.func40, Try.ntmps40
      go_wp2_with fail
      go_quiet (fail)
      go_wp2_with fail
      obtain ⟨Wq, hWq⟩ : ∃ Wq, Wq = W.drewN nq := ⟨_, rfl⟩
      have hb : Below W.heap.size W Wq := by rw [hWq]; exact below_drewN (Below.refl _ _) nq
      rw [← hWq]
      have h1 := HF.out.below hb
      have HBq : Hid (Below B W Wq) := hb.mono HF.out.lB
      clear hWq hb c1 c2 c8 c9 cl cs HF
      have HF : Hid (FroV B Wq bf b g gs N L S P m c sn sv bv) := h1
      have c2 := h1.cell 2 sv rfl
      have c8 := h1.cell 8 (.int .i64 (c : Int)) rfl
      have c9 := h1.cell 9 (.slice (some ⟨gs, 0, none⟩) N.on.length N.on.length) rfl
      have cs := h1.seen q hq
      have fs := h1.sfr q
      have f2 := h1.fr 2
      have n1 : bf ≠ gs := h1.ne.2.1
      have n2 : gs ≠ bf := fun e => n1 e.symm
      clear h1
      go_wp2_with fail
      go_region
      obtain ⟨h2, hb2⟩ := HF.out.mark (c' := c) HQ.out
      obtain ⟨W1, hW1⟩ : ∃ W1, W1 = (Wq.setCell ⟨gs, q, none⟩ (.int .i64 (c : Int))).drew := ⟨_, rfl⟩
      have h3 : FroV B W1 bf b g gs N L S P m c (fun t => if t = q then c else sn t) sv bv := by rw [hW1]; exact h2.drew
      have HB1 : Hid (Below B Wq W1) := by rw [hW1]; exact hb2.drew
      rw [← hW1]
      clear hW1 h2 hb2 c2 c8 c9 cs fs f2
      have HF1 : Hid (FroV B W1 bf b g gs N L S P m c (fun t => if t = q then c else sn t) sv bv) := h3
      have c2 := h3.cell 2 sv rfl
      have f2 := h3.fr 2
      have c2a : ∀ o, (W1.alloc o).cell? ⟨bf, 2, none⟩ = some sv := fun o => cell_up o c2
      obtain ⟨i0, hi, hz0, hz1, hz2⟩ := info_parts info3
      have HROW : Hid ((W1.alloc (.cells #[.int .i64 (q : Int)] 3)).ownsRow B 3 1 sv S.length (S.map fun t : Nat => Value.int .i64 (t : Int))) := h3.srow.alloc _
      have hsl := HS.out
      clear h3 HF
      go_wp2_with (first
        | (at_builtin; refine wpList_append_own_at _ rfl _ _ 23 rfl B 3 i0 (.int .i64 0) 1 8 Try.underlying23 hi hz0 hz1 hz2 rfl (by decide) _ _ _ rfl HROW.out ⟨W1.heap.size, 0, none⟩ 1 1 [.int .i64 (q : Int)] rfl rfl (cell_one_new _ _ _) (ints_oneCell .i64 [(q : Int)]) (by unfold maxLen; omega) (by omega) (by have := HF1.out.lB; simp; omega) ?_; intro sv' W2 hown' hgrow hnil hloc; have HOWN : Hid _ := hown'; have HGROW : Hid _ := hgrow; have HLOC : Hid _ := hloc; obtain ⟨g', cap', rfl⟩ := ownsRow_succ hown'; have c2b : W2.cell? ⟨bf, 2, none⟩ = some sv := hgrow.cell (c2a _) (fun e => HF1.out.row_ne.1 e.symm); have f2b : W2.frozen? ⟨bf, 2, none⟩ = false := (World.frozen?_of_block (a := ⟨bf, 2, none⟩) (hgrow.block bf (by have := lt_of_heap HF1.out.blk; simp; omega) (fun e => HF1.out.row_ne.1 e.symm))).trans (frozen_alloc_l _ c2 f2); clear hown' hgrow hnil hloc)
        | fail)
      go_end0
      have hown : W2.ownsRow B 3 1 (.slice (some ⟨g', 0, none⟩) (S.length + 1) cap') (S ++ [q]).length ((S ++ [q]).map fun t : Nat => Value.int .i64 (t : Int)) := by
        rw [show (S ++ [q]).length = S.length + 1 by simp, show (S ++ [q]).map (fun t : Nat => Value.int .i64 (t : Int)) = S.map (fun t : Nat => Value.int .i64 (t : Int)) ++ [Value.int .i64 (q : Int)] by simp]
        exact HOWN.out
      obtain ⟨hf, hb⟩ := HF1.out.push (S' := S ++ [q]) HGROW.out hown (by have h := HLOC.out; rw [World.size_alloc] at h; exact h)
      exact ⟨⟨_, rfl⟩, HBq.out.trans (HB1.out.trans hb), .inl ⟨HL.out, HE.out, _, hf⟩⟩
end Go.Proofs.Ytkjljnneghnpiaa
