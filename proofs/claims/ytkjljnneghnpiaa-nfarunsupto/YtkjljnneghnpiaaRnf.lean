import Derived.Test.YtkjljnneghnpiaaRne
namespace Go.Proofs.Ytkjljnneghnpiaa
open Go.RowKit Go.Maps

/-- The marks. -/
def mc (i : Nat) : Nat → Bool := fun b => (wrd ((900 + i : Nat) : Int) 1 2 3 (b / 64)).testBit (b % 64)
theorem mc_wd (i : Nat) (hi : i < 20) : wd (mc i) 0 = 900 + i ∧ wd (mc i) 1 = 1 ∧ wd (mc i) 2 = 2 ∧ wd (mc i) 3 = 3 := by
  have h0 := wd_of (wrd ((900 + i : Nat) : Int) 1 2 3) 0 (by show (((900 + i : Nat) : Int)).toNat < _; omega)
  have h1 := wd_of (wrd ((900 + i : Nat) : Int) 1 2 3) 1 (by show (1 : Int).toNat < _; decide)
  have h2 := wd_of (wrd ((900 + i : Nat) : Int) 1 2 3) 2 (by show (2 : Int).toNat < _; decide)
  have h3 := wd_of (wrd ((900 + i : Nat) : Int) 1 2 3) 3 (by show (3 : Int).toNat < _; decide)
  refine ⟨?_, ?_, ?_, ?_⟩
  · exact h0.symm.trans (by show (((900 + i : Nat) : Int)).toNat = _; omega)
  · exact h1.symm
  · exact h2.symm
  · exact h3.symm
def mkC (n : Nat) : List (Nat → Bool) := (List.range n).map mc
def mkI (n : Nat) : List Int := (List.range n).map fun i => ((900 + i : Nat) : Int)
def mkF (n : Nat) : List (List Int) := (List.range n).map fun i => [((900 + i : Nat) : Int)]
def onz (n : Nat) : List Nat := List.replicate n 1
theorem mkC_s (n : Nat) : mkC (n + 1) = mkC n ++ [mc n] := by simp [mkC, List.range_succ]
theorem mkI_s (n : Nat) : mkI (n + 1) = mkI n ++ [((900 + n : Nat) : Int)] := by simp [mkI, List.range_succ]
theorem mkF_s (n : Nat) : mkF (n + 1) = mkF n ++ [[((900 + n : Nat) : Int)]] := by simp [mkF, List.range_succ]
theorem onz_s (n : Nat) : onz (n + 1) = onz n ++ [1] := by simp [onz, List.replicate_succ']
theorem mkC_l (n : Nat) : (mkC n).length = n := by simp [mkC]
theorem mkI_l (n : Nat) : (mkI n).length = n := by simp [mkI]
theorem mkF_l (n : Nat) : (mkF n).length = n := by simp [mkF]
theorem oc_mc (i : Nat) (hi : i < 20) : oc (mc i) = [.int .u64 ((900 + i : Nat) : Int), .int .u64 1, .int .u64 2, .int .u64 3] := by
  obtain ⟨h0, h1, h2, h3⟩ := mc_wd i hi
  unfold oc
  rw [h0, h1, h2, h3]
  rfl
/-- A machine in a block, its rows the call's own, beside the one that came in. -/
structure Lk (w W : World) (bk : Nat) (vo vt vf : Value) (N : Mc) (on : List (Nat → Bool)) (tos : List Int) (fvs : List Value) (frs : List (List Int)) (ns : List Nat) (xo : Value) (no : Nat) (xt : Value) (nt : Nat) (xf : Value) (nf : Nat) : Prop where
  bel : Below w.heap.size w W
  b0 : W.heap[w.heap.size]? = some (.cells #[vo, vt, vf, .int .i64 N.start, .int .i64 N.fin] 26 (0, 0))
  b1 : W.heap[w.heap.size + 1]? = some (.cells #[.slice none 0 0, .slice none 0 0, .slice none 0 0, .int .i64 0, .int .i64 0] 26 (0, 0))
  b2 : W.heap[bk]? = some (.cells #[xo, xt, xf, .int .i64 N.start, .int .i64 N.fin] 26 (0, 0))
  tr : Tr w.heap.size W on tos fvs frs ns xo no xt nt xf nf
  kb : w.heap.size + 2 ≤ bk
section
variable {w W W2 : World} {bk : Nat} {vo vt vf : Value} {N : Mc} {on : List (Nat → Bool)} {tos : List Int} {fvs : List Value} {frs : List (List Int)} {ns : List Nat} {xo xt xf : Value} {no nt nf : Nat}
theorem Lk.below (h : Lk w W bk vo vt vf N on tos fvs frs ns xo no xt nt xf nf) (hb : Below W.heap.size W W2) : Lk w W2 bk vo vt vf N on tos fvs frs ns xo no xt nt xf nf :=
  ⟨below_trans h.bel hb, (hb.block _ (lt_of_heap h.b0)).trans h.b0, (hb.block _ (lt_of_heap h.b1)).trans h.b1, (hb.block _ (lt_of_heap h.b2)).trans h.b2, h.tr.below hb, h.kb⟩
theorem Lk.mid (h : Lk w W bk vo vt vf N on tos fvs frs ns xo no xt nt xf nf) (hg : W.grownBy W2 xo.ownBlock ∨ W.grownBy W2 xt.ownBlock ∨ W.grownBy W2 xf.ownBlock) : Below w.heap.size w W2 ∧ W2.heap[w.heap.size]? = some (.cells #[vo, vt, vf, .int .i64 N.start, .int .i64 N.fin] 26 (0, 0)) ∧ W2.heap[w.heap.size + 1]? = some (.cells #[.slice none 0 0, .slice none 0 0, .slice none 0 0, .int .i64 0, .int .i64 0] 26 (0, 0)) ∧ W2.heap[bk]? = some (.cells #[xo, xt, xf, .int .i64 N.start, .int .i64 N.fin] 26 (0, 0)) := by
  refine ⟨?_, h.tr.cell h.b0 hg, h.tr.cell h.b1 hg, h.tr.cell h.b2 hg⟩
  rcases hg with hg | hg | hg
  · exact h.bel.trans ((Below.refl _ _).grown hg h.bel.size (fun k e => (h.tr.on.tag k e).1))
  · exact h.bel.trans ((Below.refl _ _).grown hg h.bel.size (fun k e => (h.tr.tos.tag k e).1))
  · exact h.bel.trans ((Below.refl _ _).grown hg h.bel.size (fun k e => (h.tr.fr.tag k e).1))
theorem Lk.fin (hb : Below w.heap.size w W2) (h0 : W2.heap[w.heap.size]? = some (.cells #[vo, vt, vf, .int .i64 N.start, .int .i64 N.fin] 26 (0, 0))) (h1 : W2.heap[w.heap.size + 1]? = some (.cells #[.slice none 0 0, .slice none 0 0, .slice none 0 0, .int .i64 0, .int .i64 0] 26 (0, 0))) {cur : Array Value} (h2 : W2.heap[bk]? = some (.cells cur 26 (0, 0))) (kb : w.heap.size + 2 ≤ bk) (ht : Tr w.heap.size W2 on tos fvs frs ns xo no xt nt xf nf) (k : Nat) (v : Value) (hc : cur.setIfInBounds k v = #[xo, xt, xf, .int .i64 N.start, .int .i64 N.fin]) :
    Lk w (W2.setCell ⟨bk, k, none⟩ v) bk vo vt vf N on tos fvs frs ns xo no xt nt xf nf :=
  ⟨hb.setCell (p := ⟨bk, k, none⟩) (by show w.heap.size ≤ bk; omega) _, by rw [heap_other (by omega)]; exact h0, by rw [heap_other (by omega)]; exact h1, by rw [blk_set _ h2, hc], ht.blk h2 grown_set, kb⟩
theorem Lk.on_ (h : Lk w W bk vo vt vf N on tos fvs frs ns xo no xt nt xf nf) {on' : List (Nat → Bool)} {vo' : Value} {no' : Nat} (hg : W.grownBy W2 xo.ownBlock) (hr : Sh w.heap.size W2 40 4 vo' no' on'.length (onC on')) : Lk w (W2.setCell ⟨bk, 0, none⟩ vo') bk vo vt vf N on' tos fvs frs ns vo' no' xt nt xf nf := by
  obtain ⟨m1, m2, m3, m4⟩ := h.mid (.inl hg)
  exact Lk.fin m1 m2 m3 m4 h.kb (h.tr.putOn hg hr) 0 vo' rfl
theorem Lk.to_ (h : Lk w W bk vo vt vf N on tos fvs frs ns xo no xt nt xf nf) {tos' : List Int} {vt' : Value} {nt' : Nat} (hg : W.grownBy W2 xt.ownBlock) (hr : Sh w.heap.size W2 3 1 vt' nt' tos'.length (iC tos')) (hl : vt'.ownBlock = xt.ownBlock ∨ ∃ r, vt'.ownBlock = some r ∧ W.heap.size ≤ r) : Lk w (W2.setCell ⟨bk, 1, none⟩ vt') bk vo vt vf N on tos' fvs frs ns xo no vt' nt' xf nf := by
  obtain ⟨m1, m2, m3, m4⟩ := h.mid (.inr (.inl hg))
  exact Lk.fin m1 m2 m3 m4 h.kb (h.tr.putTo hg hr hl) 1 vt' rfl
theorem Lk.fr_ (h : Lk w W bk vo vt vf N on tos fvs frs ns xo no xt nt xf nf) {v vf' : Value} {l : List Int} {n nf' : Nat} (hg : W.grownBy W2 xf.ownBlock) (hr : Sh w.heap.size W2 23 1 vf' nf' (fvs ++ [v]).length (fvs ++ [v])) (hv : Sh w.heap.size W 3 1 v n l.length (iC l)) (hd : ∀ i, i < fvs.length → dj (fvs.getD i undef) v) (ht : dj v xt) : Lk w (W2.setCell ⟨bk, 2, none⟩ vf') bk vo vt vf N on tos (fvs ++ [v]) (frs ++ [l]) (ns ++ [n]) xo no xt nt vf' nf' := by
  obtain ⟨m1, m2, m3, m4⟩ := h.mid (.inr (.inr hg))
  exact Lk.fin m1 m2 m3 m4 h.kb (h.tr.putFr hg hr hv hd ht) 2 vf' rfl
theorem Sh.cut {B : Nat} {e : TypeId} {s : Nat} {a : Option Addr} {n m cap len : Nat} {cs : List Value} (h : Sh B W e s (.slice a n cap) n len cs) (hm : m ≤ len) : Sh B W e s (.slice a m cap) m len cs := by
  obtain ⟨a', cap', e1, _, h2⟩ := h
  injection e1 with e1 _ e3
  subst e1 e3
  exact ⟨a, cap, rfl, hm, h2⟩
theorem Lk.cutOn {a : Option Addr} {m cap : Nat} (h : Lk w W bk vo vt vf N on tos fvs frs ns (.slice a no cap) no xt nt xf nf) (hm : m ≤ on.length) : Lk w (W.setCell ⟨bk, 0, none⟩ (.slice a m cap)) bk vo vt vf N on tos fvs frs ns (.slice a m cap) m xt nt xf nf :=
  h.on_ (World.grownBy.refl _ _) (h.tr.on.cut hm)
theorem Lk.cutTo {a : Option Addr} {m cap : Nat} (h : Lk w W bk vo vt vf N on tos fvs frs ns xo no (.slice a nt cap) nt xf nf) (hm : m ≤ tos.length) : Lk w (W.setCell ⟨bk, 1, none⟩ (.slice a m cap)) bk vo vt vf N on tos fvs frs ns xo no (.slice a m cap) m xf nf :=
  h.to_ (World.grownBy.refl _ _) (h.tr.tos.cut hm) (.inl (ob_slice _ _ _ _))
theorem Lk.cutFr {a : Option Addr} {m cap : Nat} (h : Lk w W bk vo vt vf N on tos fvs frs ns xo no xt nt (.slice a nf cap) nf) (hm : m ≤ fvs.length) : Lk w (W.setCell ⟨bk, 2, none⟩ (.slice a m cap)) bk vo vt vf N on tos fvs frs ns xo no xt nt (.slice a m cap) m := by
  have ht := h.tr
  have hn : Tr w.heap.size W on tos fvs frs ns xo no xt nt (.slice a m cap) m := ⟨ht.on, ht.tos, ht.fr.cut hm, ht.len, ht.lns, ht.el, ht.ap, ht.ato, ht.lB⟩
  exact Lk.fin h.bel h.b0 h.b1 h.b2 h.kb hn 2 _ rfl
theorem getD_set_eq {α : Type} (l : List α) (x d : α) (i : Nat) (h : i < l.length) : (l.set i x).getD i d = x := by
  rw [List.getD_eq_getElem?_getD, List.getElem?_set_self h]; rfl
theorem getD_set_ne {α : Type} (l : List α) (x d : α) (i j : Nat) (h : i ≠ j) : (l.set i x).getD j d = l.getD j d := by
  rw [List.getD_eq_getElem?_getD, List.getElem?_set_ne h, ← List.getD_eq_getElem?_getD]
theorem row_set {W : World} {B g n cap : Nat} {e : TypeId} {s : Nat} {xs : List Value} (h : W.ownsRow B e s (.slice (some ⟨g, 0, none⟩) n cap) n xs) (k : Nat) (x : Value) : (W.setCell ⟨g, k, none⟩ x).ownsRow B e s (.slice (some ⟨g, 0, none⟩) n cap) n (xs.set k x) := by
  obtain ⟨hl, h1 | ⟨g', cap', cur, e, h1, h2, h3, h4, h5, h6⟩⟩ := h
  · cases h1.1
  · injection e with e1 e2 e3
    injection e1 with e1
    injection e1 with e1
    subst e1 e3
    refine ⟨by rw [List.length_set]; exact hl, .inr ⟨g, cap, _, rfl, h1, blk_set x h2, h3, h4, ?_, ?_⟩⟩
    · simpa using h5
    · rw [← h6, Array.toList_setIfInBounds, List.take_set]
/-- An element of the free rows put anew. -/
theorem Tr.setEl (h : Tr w.heap.size W on tos fvs frs ns xo no xt nt xf nf) {gf cap i : Nat} (hxf : xf = .slice (some ⟨gf, 0, none⟩) nf cap) (hi : i < fvs.length) {v : Value} {R : List Int} {n : Nat} (hg : W.grownBy W2 (fvs.getD i undef).ownBlock) (hv : Sh w.heap.size W2 3 1 v n R.length (iC R)) (hl : v.ownBlock = (fvs.getD i undef).ownBlock ∨ ∃ r, v.ownBlock = some r ∧ W.heap.size ≤ r) :
    Tr w.heap.size (W2.setCell ⟨gf, i, none⟩ v) on tos (fvs.set i v) (frs.set i R) (ns.set i n) xo no xt nt xf nf := by
  have k1 := h.on.kept hg (h.on.ne (h.el i hi) (by decide))
  have k2 := h.tos.kept hg (h.ato i hi).symm.k
  have k3 := h.fr.kept hg (h.fr.ne (h.el i hi) (by decide))
  have k4 : ∀ j, j < fvs.length → j ≠ i → Sh w.heap.size W2 3 1 (fvs.getD j undef) (ns.getD j 0) (frs.getD j []).length (iC (frs.getD j [])) := fun j hj hne => (h.el j hj).kept hg (h.ap j i hj hi hne).k
  have hd : ∀ u : Value, (∀ r, u.ownBlock = some r → r < W.heap.size) → dj (fvs.getD i undef) u → dj v u := fun u hu hdu => by
    rcases hl with e | ⟨r, e, hr⟩
    · unfold dj at hdu ⊢; rw [e]; exact hdu
    · exact (dj_of (k := W.heap.size) hu (fun q hq => by rw [e] at hq; cases hq; exact hr)).symm
  have lt : ∀ j, j < fvs.length → ∀ r, (fvs.getD j undef).ownBlock = some r → r < W.heap.size := fun j hj r e => by obtain ⟨_, c, hc⟩ := (h.el j hj).tag r e; exact lt_of_heap hc
  have ltt : ∀ r, xt.ownBlock = some r → r < W.heap.size := fun r e => by obtain ⟨_, c, hc⟩ := h.tos.tag r e; exact lt_of_heap hc
  have hgs : W2.grownBy (W2.setCell ⟨gf, i, none⟩ v) (some gf) := grown_set
  obtain ⟨_, cc, hcc⟩ : w.heap.size ≤ gf ∧ ∃ cur, W2.heap[gf]? = some (.cells cur 23 (0, 0)) := k3.tag gf (by rw [hxf]; rfl)
  have hfr : Sh w.heap.size (W2.setCell ⟨gf, i, none⟩ v) 23 1 xf nf (fvs.set i v).length (fvs.set i v) := by
    obtain ⟨a', cap', e1, e2, e3⟩ := k3
    rw [hxf] at e1 ⊢
    injection e1 with e1 _ e4
    subst e1 e4
    refine ⟨_, _, rfl, by rw [List.length_set]; exact e2, ?_⟩
    rw [List.length_set]
    exact row_set e3 i v
  refine ⟨k1.kept hgs (.inr (k1.neb hcc (by decide))), k2.kept hgs (.inr (k2.neb hcc (by decide))), hfr, by simp [h.len], by simp [h.lns], fun j hj => ?_, fun j k hj hk hne => ?_, fun j hj => ?_, by have := hg.size; have := h.lB; simp; omega⟩
  · rw [List.length_set] at hj
    by_cases e : i = j
    · subst e
      rw [getD_set_eq fvs _ _ _ hj, getD_set_eq frs _ _ _ (by rw [← h.len]; exact hj), getD_set_eq ns _ _ _ (by rw [← h.lns]; exact hj)]
      exact hv.kept hgs (.inr (hv.neb hcc (by decide)))
    · rw [getD_set_ne _ _ _ _ _ e, getD_set_ne _ _ _ _ _ e, getD_set_ne _ _ _ _ _ e]
      have := k4 j hj (fun e' => e e'.symm)
      exact this.kept hgs (.inr (this.neb hcc (by decide)))
  · rw [List.length_set] at hj hk
    by_cases e : i = j
    · subst e
      rw [getD_set_eq _ _ _ _ hj, getD_set_ne _ _ _ _ _ hne]
      exact hd _ (lt k hk) (h.ap i k hj hk hne)
    · by_cases f : i = k
      · subst f
        rw [getD_set_eq _ _ _ _ hk, getD_set_ne _ _ _ _ _ e]
        exact (hd _ (lt j hj) (h.ap i j hk hj e)).symm
      · rw [getD_set_ne _ _ _ _ _ e, getD_set_ne _ _ _ _ _ f]
        exact h.ap j k hj hk hne
  · rw [List.length_set] at hj
    by_cases e : i = j
    · subst e
      rw [getD_set_eq _ _ _ _ hj]
      exact hd _ ltt (h.ato i hj)
    · rw [getD_set_ne _ _ _ _ _ e]
      exact h.ato j hj
theorem Lk.el_ (h : Lk w W bk vo vt vf N on tos fvs frs ns xo no xt nt xf nf) {gf cap i : Nat} (hxf : xf = .slice (some ⟨gf, 0, none⟩) nf cap) (hi : i < fvs.length) {v : Value} {R : List Int} {n : Nat} (hg : W.grownBy W2 (fvs.getD i undef).ownBlock) (hv : Sh w.heap.size W2 3 1 v n R.length (iC R)) (hl : v.ownBlock = (fvs.getD i undef).ownBlock ∨ ∃ r, v.ownBlock = some r ∧ W.heap.size ≤ r) :
    Lk w (W2.setCell ⟨gf, i, none⟩ v) bk vo vt vf N on tos (fvs.set i v) (frs.set i R) (ns.set i n) xo no xt nt xf nf ∧ W2.heap[bk]? = some (.cells #[xo, xt, xf, .int .i64 N.start, .int .i64 N.fin] 26 (0, 0)) ∧ W2.cell? ⟨gf, i, none⟩ = some (fvs.getD i undef) ∧ W2.frozen? ⟨gf, i, none⟩ = false := by
  have key : ∀ (b : Nat) (cur : Array Value), W.heap[b]? = some (.cells cur 26 (0, 0)) → W2.heap[b]? = some (.cells cur 26 (0, 0)) ∧ (W2.setCell ⟨gf, i, none⟩ v).heap[b]? = some (.cells cur 26 (0, 0)) := fun b cur hb => by
    have h1 : W2.heap[b]? = some (.cells cur 26 (0, 0)) := (hg.block b (lt_of_heap hb) (fun e => (h.tr.el i hi).neb hb (by decide) e.symm)).trans hb
    refine ⟨h1, ?_⟩
    rw [heap_other (fun e => ?_)]
    · exact h1
    · exact h.tr.fr.neb hb (by decide) (by rw [hxf, e]; rfl)
  have k3 := h.tr.fr.kept hg (h.tr.fr.ne (h.tr.el i hi) (by decide))
  obtain ⟨hgf, cc, hcc⟩ : w.heap.size ≤ gf ∧ ∃ cur, W2.heap[gf]? = some (.cells cur 23 (0, 0)) := k3.tag gf (by rw [hxf]; rfl)
  refine ⟨⟨?_, (key _ _ h.b0).2, (key _ _ h.b1).2, (key _ _ h.b2).2, h.tr.setEl hxf hi hg hv hl, h.kb⟩, (key _ _ h.b2).1, ?_, Lib.frozen_of_heap hcc i⟩
  · exact (h.bel.trans ((Below.refl _ _).grown hg h.bel.size (fun k e => ((h.tr.el i hi).tag k e).1))).setCell (p := ⟨gf, i, none⟩) hgf _
  · obtain ⟨a', cap', e1, e2, _, e3 | ⟨g', c', cur, f1, f2, f3, f4, f5, f6, f7⟩⟩ := k3
    · rw [hxf] at e1; injection e1 with e1 _ _; rw [← e1] at e3; cases e3.1
    · rw [hxf] at e1
      injection e1 with e1 _ e4
      subst e1 e4
      injection f1 with f1 _ f8
      injection f1 with f1
      injection f1 with f1
      subst f1
      rw [Lib.cell_of_heap f3]
      have : cur.toList[i]? = some (fvs.getD i undef) := by
        have h9 : fvs[i]? = some (fvs.getD i undef) := by rw [List.getD_eq_getElem?_getD, List.getElem?_eq_getElem hi]; rfl
        obtain ⟨u, hu⟩ : ∃ u, fvs.getD i undef = u := ⟨_, rfl⟩
        rw [hu] at h9 ⊢
        rw [← f7, List.getElem?_take_of_lt (by omega)] at h9
        exact h9
      simpa using this
end
end Go.Proofs.Ytkjljnneghnpiaa
