import Derived.Test.YtkjljnneghnpiaaNcc
namespace Go.Proofs.Ytkjljnneghnpiaa
open Go.RowKit Go.Maps

theorem prt_ge (re : List Rg.Nd) : ∀ f i b M, M.on.length ≤ (prt re f i b M).1.on.length := by
  intro f
  induction f with
  | zero => intro i b M; exact Nat.le_refl _
  | succ f ih =>
    intro i b M
    rw [prt]
    split
    · exact Nat.le_refl _
    · split
      · simp [Ms.add]
      split
      · exact Nat.le_trans (ih _ _ _) (ih _ _ _)
      split
      · have h1 := ih (Rg.Nd.a ‹_›).toNat b M
        have h2 := ih (Rg.Nd.b ‹_›).toNat b (prt re f (Rg.Nd.a ‹_›).toNat b M).1
        simp only [Ms.add, List.length_append, List.length_cons, List.length_nil]
        omega
      split
      · have h1 := ih (Rg.Nd.a ‹_›).toNat b M
        simp only [Ms.add, List.length_append, List.length_cons, List.length_nil]
        omega
      split
      · have h1 := ih (Rg.Nd.a ‹_›).toNat (M.on.length : Int) (M.add nob (-1) [])
        simp only [Ms.setF]
        simp only [Ms.add, List.length_append, List.length_cons, List.length_nil] at h1 ⊢
        omega
      split
      · have h1 := ih (Rg.Nd.a ‹_›).toNat (M.on.length : Int) (M.add nob (-1) [])
        simp only [Ms.setF]
        simp only [Ms.add, List.length_append, List.length_cons, List.length_nil] at h1 ⊢
        omega
      · exact Nat.le_refl _
theorem MkM.setFr {B : Nat} {W : World} {bk : Nat} {M : Ms} {st en : Int} {rv : Value} (h : MkM B W bk M st en rv) {k : Nat} (hk : k < M.on.length) {l : List Int} (hl : l ≠ []) :
    ∃ gf cap, W.cell? ⟨bk, 2, none⟩ = some (.slice (some ⟨gf, 0, none⟩) M.on.length cap) ∧ (∃ u, W.cell? ⟨gf, k, none⟩ = some u) ∧ (∀ o, W.frozen? ⟨gf, o, none⟩ = false) ∧
      MkM B ((W.alloc (.cells (l.map (Value.int .i64)).toArray 3)).setCell ⟨gf, k, none⟩ (.slice (some ⟨W.heap.size, 0, none⟩) l.length l.length)) bk (M.setF k l) st en rv ∧
      Below B W ((W.alloc (.cells (l.map (Value.int .i64)).toArray 3)).setCell ⟨gf, k, none⟩ (.slice (some ⟨W.heap.size, 0, none⟩) l.length l.length)) ∧
      FrK W ((W.alloc (.cells (l.map (Value.int .i64)).toArray 3)).setCell ⟨gf, k, none⟩ (.slice (some ⟨W.heap.size, 0, none⟩) l.length l.length)) := by
  obtain ⟨fvs, vo, vt, vf, h1, h2, h3⟩ := h
  rcases h1.fr.2 with ⟨_, h4⟩ | ⟨gf, cap, cur, rfl, hb, hh, hn, hc, hs, ht⟩
  · omega
  have ha := h1.below (bel_up W (.cells (l.map (Value.int .i64)).toArray 3))
  have hst := ha.fr.stored k (.slice (some ⟨W.heap.size, 0, none⟩) l.length l.length)
  obtain ⟨hrow, hg⟩ := hst
  have hha : (W.alloc (.cells (l.map (Value.int .i64)).toArray 3)).heap[gf]? = some (.cells cur 23 (0, 0)) := (Below.heap_alloc _ _ _ (lt_of_heap hh)).trans hh
  have hB1 : B ≤ (W.alloc (.cells (l.map (Value.int .i64)).toArray 3)).heap.size := ha.lB
  have hcell := h1.fr.cells (g := gf) rfl k (fvs.getD k undef) (by rw [List.getD_eq_getElem?_getD, List.getElem?_eq_getElem (by omega)]; rfl)
  have e0 : (⟨gf, 0, none⟩ : Addr).add k = ⟨gf, k, none⟩ := by cases k <;> simp [Addr.add]
  rw [e0] at hcell
  have hkr : ∀ r, some gf = some r → (∃ c e, (W.alloc (.cells (l.map (Value.int .i64)).toArray 3)).heap[r]? = some (.cells c e (0, 0)) ∧ e ≠ 3) ∨ vt.ownBlock = some r := fun r e => by cases e; exact .inl ⟨cur, 23, hha, by decide⟩
  have hnew : FrE B (W.alloc (.cells (l.map (Value.int .i64)).toArray 3)) vt (.slice (some ⟨W.heap.size, 0, none⟩) l.length l.length) l :=
    .inr ⟨W.heap.size, rfl, hl, h1.lB, fun e => by have := (h1.tos.lt _ e).2; omega, World.alloc_heap_new W _⟩
  refine ⟨gf, cap, ?_, ⟨_, hcell⟩, fun o => Lib.frozen_of_heap hh o, ⟨fvs.set k (.slice (some ⟨W.heap.size, 0, none⟩) l.length l.length), vo, vt, .slice (some ⟨gf, 0, none⟩) fvs.length cap, ⟨?_, ha.on.kept hg (.inr fun e => ?_), ha.tos.kept hg (.inr fun e => ?_), ?_, ?_, fun i hi => ?_, ha.lo, ?_⟩, h2, by simp [Ms.setF, h3]⟩, ?_, ?_⟩
  · rw [← h3]; exact h1.cell 2 _ rfl
  · exact (hg.block bk (lt_of_heap ha.blk) (fun e => by cases e; rw [ha.blk] at hha; cases hha)).trans ha.blk
  · obtain ⟨_, c', e'⟩ := row_tag ha.on gf e
    rw [hha] at e'; cases e'
  · obtain ⟨_, c', e'⟩ := row_tag ha.tos gf e
    rw [hha] at e'; cases e'
  · rw [List.length_set]; exact hrow
  · show (fvs.set _ _).length = (M.frs.set k l).length
    rw [List.length_set, List.length_set]; exact h1.len
  · rw [List.length_set] at hi
    show FrE B _ vt _ ((M.frs.set k l).getD i [])
    have hlen := h1.len
    by_cases e : i = k
    · subst e
      have e1 : (fvs.set i (Value.slice (some ⟨W.heap.size, 0, none⟩) l.length l.length)).getD i undef = .slice (some ⟨W.heap.size, 0, none⟩) l.length l.length := by
        rw [List.getD_eq_getElem?_getD, List.getElem?_set_self hi]; rfl
      have e2 : (M.frs.set i l).getD i [] = l := by rw [List.getD_eq_getElem?_getD, List.getElem?_set_self (by omega)]; rfl
      rw [e1, e2]
      exact hnew.kept hg hkr
    · have e1 : (fvs.set k (Value.slice (some ⟨W.heap.size, 0, none⟩) l.length l.length)).getD i undef = fvs.getD i undef := by
        rw [List.getD_eq_getElem?_getD, List.getElem?_set_ne (fun h => e h.symm), ← List.getD_eq_getElem?_getD]
      have e2 : (M.frs.set k l).getD i [] = M.frs.getD i [] := by
        rw [List.getD_eq_getElem?_getD, List.getElem?_set_ne (fun h => e h.symm), ← List.getD_eq_getElem?_getD]
      rw [e1, e2]
      exact (ha.el i hi).kept hg hkr
  · exact Nat.le_trans hB1 hg.size
  · exact ((Below.refl B W).alloc h1.lB _).setCell (p := ⟨gf, k, none⟩) hb _
  · exact (FrK.bel (bel_up _ _)).trans (FrK.of hg (fun r e => by cases e; exact ⟨cur, 23, hha, by decide⟩))

set_option maxRecDepth 100000 in
set_option maxHeartbeats 4000000 in
theorem ring_ok {B bk gr oo cap i : Nat} {re : List Rg.Nd} {z : List Nat} (hgr : gr < B) (hP : PartOk B bk gr oo cap re z i) (f : Nat) (hf : i < f) (W : World) (bh : Int) (M : Ms) (st en : Int) (hM : MkM B W bk M st en (.slice (some ⟨gr, oo, none⟩) re.length cap)) (hN : Rg.NdsAt W gr oo re) (hL : M.on.length + 1 + z.getD i 0 ≤ 1000) :
    Calls Try.prog 47 #[.pointer (some ⟨bk, 0, none⟩), .int .i64 (i : Int), .int .i64 bh] W fun e w' =>
      e = .returned (.tuple #[.int .i64 (M.on.length : Int), .int .i64 (prt re f i (M.on.length : Int) (M.add nob (-1) [])).2]) ∧ Below B W w' ∧ FrK W w' ∧
      MkM B w' bk ((prt re f i (M.on.length : Int) (M.add nob (-1) [])).1.setF M.on.length [(prt re f i (M.on.length : Int) (M.add nob (-1) [])).2, bh]) st en (.slice (some ⟨gr, oo, none⟩) re.length cap) := by
  have hst := state_m (l := []) nob (-1) W hM (.inl ⟨rfl, rfl⟩) (by omega)
  rw [show CV nob = _ from cv_zero] at hst
  have HP : Hid (PartOk B bk gr oo cap re z i) := hP
  have HN : Hid (Rg.NdsAt W gr oo re) := hN
  have HGR : Hid (gr < B) := hgr
  have HL : Hid (M.on.length + 1 + z.getD i 0 ≤ 1000) := hL
  have HF : Hid (i < f) := hf
  clear hP hN hgr hL hf hM
  go_enter Try.func47, Try.ntmps47
  go_wp2_with fail
  refine hst.mono ?_
  clear hst
  rintro e w1 ⟨rfl, hb1, hk1, hm1⟩
  have HB1 : Hid (Below B W w1) := hb1
  have HK1 : Hid (FrK W w1) := hk1
  have HM1 : Hid (MkM B w1 bk (M.add nob (-1) []) st en (.slice (some ⟨gr, oo, none⟩) re.length cap)) := hm1
  clear hb1 hk1 hm1
  go_wp2_with fail
  refine (HP.out f HF.out w1 (M.on.length : Int) (M.add nob (-1) []) st en HM1.out (HN.out.below HB1.out HGR.out) (by have := HL.out; simp only [Ms.add, List.length_append, List.length_cons, List.length_nil]; omega)).mono ?_
  rintro e w2 ⟨rfl, hb2, hk2, hm2⟩
  obtain ⟨r, hr⟩ : ∃ r, prt re f i (M.on.length : Int) (M.add nob (-1) []) = r := ⟨_, rfl⟩
  have hge := prt_ge re f i (M.on.length : Int) (M.add nob (-1) [])
  have HR : Hid (prt re f i (M.on.length : Int) (M.add nob (-1) []) = r) := hr
  rw [hr] at hge hm2 ⊢
  have hkl : M.on.length < r.1.on.length := by simp only [Ms.add, List.length_append, List.length_cons, List.length_nil] at hge; omega
  obtain ⟨gf, cap2, k2, ⟨u, ku⟩, kf, hm3, hb3, hk3⟩ := hm2.setFr hkl (l := [r.2, bh]) (by simp)
  have k2a : ∀ o, (w2.alloc o).cell? ⟨bk, 2, none⟩ = some (.slice (some ⟨gf, 0, none⟩) r.1.on.length cap2) := fun o => cell_up o k2
  have kua : ∀ o, (w2.alloc o).cell? ⟨gf, M.on.length, none⟩ = some u := fun o => cell_up o ku
  have kfa : ∀ o, (w2.alloc o).frozen? ⟨gf, M.on.length, none⟩ = false := fun o => frozen_alloc_l o ku (kf _)
  have HM3 : Hid _ := hm3
  have HB3 : Hid (Below B W _) := HB1.out.trans (hb2.trans hb3)
  have HK3 : Hid (FrK W _) := HK1.out.trans (hk2.trans hk3)
  clear hm3 hb3 hk3 hm2 hb2 hk2 hge hr
  go_wp2_with fail
  go_ret2
  rw [HR.out]
  exact ⟨rfl, HB3.out, HK3.out, HM3.out⟩

set_option maxRecDepth 100000 in
set_option maxHeartbeats 4000000 in
theorem part_ring6 {B bk gr oo cap i : Nat} {re : List Rg.Nd} {z : List Nat} {m : Nat → Bool} {na : Nat} {nb : Int} (hgr : gr < B) (hn : ∃ p s, re = p ++ (⟨6, m, (na : Int), nb⟩ : Rg.Nd) :: s ∧ p.length = i) (ha : na < i) (hz : z.getD na 0 + 1 ≤ z.getD i 0) (hA : PartOk B bk gr oo cap re z na) : PartOk B bk gr oo cap re z i := by
  intro f hf W bh M st en hM hN hL
  obtain ⟨p, s, hre, hpl⟩ := hn
  have hnd := hN.nd p _ s hre
  obtain ⟨c0, c1, c2, c3, c4, c5, c6⟩ := hnd
  rw [hpl] at c0 c1 c2 c3 c4 c5 c6
  have hil : i < re.length := by rw [hre, ← hpl]; simp
  have hget : re[i]? = some ⟨6, m, na, nb⟩ := by rw [hre, ← hpl]; simp
  obtain ⟨f, rfl⟩ : ∃ f', f = f' + 1 := ⟨f - 1, by omega⟩
  have HPR : Hid (prt re (f + 1) i bh M = ((prt re f na (M.on.length : Int) (M.add nob (-1) [])).1.setF M.on.length [(prt re f na (M.on.length : Int) (M.add nob (-1) [])).2, bh], (prt re f na (M.on.length : Int) (M.add nob (-1) [])).2)) := by
    show prt _ _ _ _ _ = _
    rw [prt, hget]; rfl
  have HM1 : Hid (MkM B (W.alloc (.cells #[.int .i64 6, .int .u64 (wd m 0 : Nat), .int .u64 (wd m 1 : Nat), .int .u64 (wd m 2 : Nat), .int .u64 (wd m 3 : Nat), .int .i64 (na : Int), .int .i64 nb] 58)) bk M st en (.slice (some ⟨gr, oo, none⟩) re.length cap)) := hM.below (bel_up _ _)
  have HB0 : Hid (Below B W (W.alloc (.cells #[.int .i64 6, .int .u64 (wd m 0 : Nat), .int .u64 (wd m 1 : Nat), .int .u64 (wd m 2 : Nat), .int .u64 (wd m 3 : Nat), .int .i64 (na : Int), .int .i64 nb] 58))) := (bel_up _ _).mono hM.lB
  have HN1 : Hid (Rg.NdsAt (W.alloc (.cells #[.int .i64 6, .int .u64 (wd m 0 : Nat), .int .u64 (wd m 1 : Nat), .int .u64 (wd m 2 : Nat), .int .u64 (wd m 3 : Nat), .int .i64 (na : Int), .int .i64 nb] 58)) gr oo re) := hN.below HB0.out hgr
  have hring := ring_ok hgr hA f (by omega) _ bh M st en HM1.out HN1.out (by omega)
  obtain ⟨fvs, vo, vt, vf, hv, _⟩ := hM
  have k5 := hv.cell 5 (.slice (some ⟨gr, oo, none⟩) re.length cap) rfl
  clear hv hL hN hf hget hre hpl hA hz ha
  go_enter Try.func33, Try.ntmps33
  go_wp2_with fail
  refine hring.mono ?_
  clear hring
  rintro e w3 ⟨rfl, hb3, hk3, hm3⟩
  have HB3 : Hid _ := hb3
  have HK3 : Hid _ := hk3
  have HM3 : Hid _ := hm3
  clear hb3 hk3 hm3
  go_wp2_with fail
  go_ret
  refine ⟨(by rw [HPR.out]; rfl), HB0.out.trans HB3.out, (FrK.bel (bel_up _ _)).trans HK3.out, ?_⟩
  rw [HPR.out]
  exact HM3.out
end Go.Proofs.Ytkjljnneghnpiaa
