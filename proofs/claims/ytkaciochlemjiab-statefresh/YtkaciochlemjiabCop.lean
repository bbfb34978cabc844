import Derived.Test.YtkaciochlemjiabOwn
namespace Go.Proofs.Ytkaciochlemjiab
open Go.RowKit Go.Maps

theorem below_of_grown {W W' : World} (h : W.grownBy W' none) : Below W.heap.size W W' := ⟨h.os, h.tape, h.output, h.size, fun k hk => h.block k hk (by simp)⟩
/-- The zero state's cells. -/
def zrC : Array Value := #[.slice none 0 0, .int .i64 0, .slice none 0 0, .slice none 0 0, .int .u16 0]
/-- The boxes of a state that is copied. -/
structure Cp (w W : World) (p : Nat) (x y z : Value) (s : Stt) : Prop where
  b1 : W.heap[p]? = some (.cells #[x, .int .i64 s.pen, y, z, .int .u16 (s.flg : Int)] 27 (0, 0))
  b2 : W.heap[p + 1]? = some (.cells zrC 27 (0, 0))
  bel : Below w.heap.size w W
  lo : w.heap.size ≤ p
section
variable {w W W' : World} {p : Nat} {x y z : Value} {s : Stt}
theorem Cp.up (h : Cp w W p x y z s) (hb : Below W.heap.size W W') : Cp w W' p x y z s :=
  ⟨by rw [hb.block p (lt_of_heap h.b1)]; exact h.b1, by rw [hb.block (p + 1) (lt_of_heap h.b2)]; exact h.b2, below_trans h.bel hb, h.lo⟩
theorem Cp.set0 (h : Cp w W p x y z s) (v : Value) : Cp w (W.setCell ⟨p, 0, none⟩ v) p v y z s :=
  ⟨by rw [blk_set v h.b1]; rfl, by rw [Below.heap_setCell _ _ _ _ (by simp)]; exact h.b2, h.bel.setCell (p := ⟨p, 0, none⟩) h.lo v, h.lo⟩
theorem Cp.set2 (h : Cp w W p x y z s) (v : Value) : Cp w (W.setCell ⟨p, 2, none⟩ v) p x v z s :=
  ⟨by rw [blk_set v h.b1]; rfl, by rw [Below.heap_setCell _ _ _ _ (by simp)]; exact h.b2, h.bel.setCell (p := ⟨p, 2, none⟩) h.lo v, h.lo⟩
theorem Cp.set3 (h : Cp w W p x y z s) (v : Value) : Cp w (W.setCell ⟨p, 3, none⟩ v) p x y v s :=
  ⟨by rw [blk_set v h.b1]; rfl, by rw [Below.heap_setCell _ _ _ _ (by simp)]; exact h.b2, h.bel.setCell (p := ⟨p, 3, none⟩) h.lo v, h.lo⟩
theorem Cp.far (h : Cp w W p x y z s) {g k : Nat} {cur : Array Value} {t : TypeId} (hg : W.heap[g]? = some (.cells cur t (0, 0))) (ht : t ≠ 27) (hl : w.heap.size ≤ g) (v : Value) : Cp w (W.setCell ⟨g, k, none⟩ v) p x y z s := by
  have n1 : p ≠ g := by rintro rfl; rw [h.b1] at hg; cases hg; exact ht rfl
  have n2 : p + 1 ≠ g := by rintro rfl; rw [h.b2] at hg; cases hg; exact ht rfl
  exact ⟨by rw [Below.heap_setCell _ _ _ _ n1]; exact h.b1, by rw [Below.heap_setCell _ _ _ _ n2]; exact h.b2, h.bel.setCell (p := ⟨g, k, none⟩) hl v, h.lo⟩
theorem Cp.c0 (h : Cp w W p x y z s) : W.cell? ⟨p, 0, none⟩ = some x := by rw [Lib.cell_of_heap h.b1]; rfl
theorem Cp.c2 (h : Cp w W p x y z s) : W.cell? ⟨p, 2, none⟩ = some y := by rw [Lib.cell_of_heap h.b1]; rfl
theorem Cp.c3 (h : Cp w W p x y z s) : W.cell? ⟨p, 3, none⟩ = some z := by rw [Lib.cell_of_heap h.b1]; rfl
theorem Cp.fr (h : Cp w W p x y z s) (k : Nat) : W.frozen? ⟨p, k, none⟩ = false := Lib.frozen_of_heap h.b1 k
theorem Cp.all (h : Cp w W p x y z s) : W.cell? ⟨p, 0, none⟩ = some x ∧ W.cell? ⟨p, 1, none⟩ = some (.int .i64 s.pen) ∧ W.cell? ⟨p, 2, none⟩ = some y ∧ W.cell? ⟨p, 3, none⟩ = some z ∧ W.cell? ⟨p, 4, none⟩ = some (.int .u16 (s.flg : Int)) ∧
    W.cell? ⟨p + 1, 0, none⟩ = some (.slice none 0 0) ∧ W.cell? ⟨p + 1, 1, none⟩ = some (.int .i64 0) ∧ W.cell? ⟨p + 1, 2, none⟩ = some (.slice none 0 0) ∧ W.cell? ⟨p + 1, 3, none⟩ = some (.slice none 0 0) ∧ W.cell? ⟨p + 1, 4, none⟩ = some (.int .u16 0) := by
  refine ⟨?_, ?_, ?_, ?_, ?_, ?_, ?_, ?_, ?_, ?_⟩
  · rw [Lib.cell_of_heap h.b1]; rfl
  · rw [Lib.cell_of_heap h.b1]; rfl
  · rw [Lib.cell_of_heap h.b1]; rfl
  · rw [Lib.cell_of_heap h.b1]; rfl
  · rw [Lib.cell_of_heap h.b1]; rfl
  · rw [Lib.cell_of_heap h.b2]; rfl
  · rw [Lib.cell_of_heap h.b2]; rfl
  · rw [Lib.cell_of_heap h.b2]; rfl
  · rw [Lib.cell_of_heap h.b2]; rfl
  · rw [Lib.cell_of_heap h.b2]; rfl
theorem Cp.frz (h : Cp w W p x y z s) (k : Nat) : W.frozen? ⟨p + 1, k, none⟩ = false := Lib.frozen_of_heap h.b2 k
theorem Cp.row {B : Nat} {e : TypeId} {size n : Nat} {v : Value} {xs : List Value} (h : Cp w W p x y z s) (hr : W.ownsRow B e size v n xs) (he : e ≠ 27) (k : Nat) (u : Value) : (W.setCell ⟨p, k, none⟩ u).ownsRow B e size v n xs :=
  hr.kept grown_set (.inr (tag_ne_blk hr h.b1 he))
end
theorem row_far {W : World} {B B' : Nat} {e e' : TypeId} {s s' n n' g c k : Nat} {v : Value} {xs xs' : List Value} (h : W.ownsRow B e s v n xs) (h' : W.ownsRow B' e' s' (.slice (some ⟨g, 0, none⟩) n' c) n' xs') (hne : e ≠ e') (u : Value) : (W.setCell ⟨g, k, none⟩ u).ownsRow B e s v n xs :=
  h.kept grown_set (tag_ne h h' hne)
theorem row_same {W : World} {B : Nat} {e : TypeId} {size n g cap j : Nat} {xs : List Value} {u : Value} (h : W.ownsRow B e size (.slice (some ⟨g, 0, none⟩) n cap) n xs) (hu : xs[j]? = some u) : (W.setCell ⟨g, j, none⟩ u).ownsRow B e size (.slice (some ⟨g, 0, none⟩) n cap) n xs := by
  have hj : j < xs.length := (List.getElem?_eq_some_iff.1 hu).1
  have := (h.stored j u).1
  have e : xs.set j u = xs := by
    apply List.ext_getElem?
    intro i
    by_cases hi : i = j
    · subst hi; rw [List.getElem?_set_self hj, hu]
    · rw [List.getElem?_set_ne (fun e => hi e.symm)]
  rw [e] at this
  exact this

theorem results_cell1 {fn : Func} {p : Tmp} {ty : TypeId} (h : fn.results = #[.cell p ty]) (tmps : Array Value) (P : Program) (w : World) :
    (results fn tmps).run P w = ((asAddr (tmps.getD p undef)).run P w).andThen fun a w₁ => (loadVar ty a).run P w₁ := by
  simp only [results, h]
  simp [Sem.run_bind, Result.andThen]
theorem row_off {W : World} {B b k : Nat} {e t : TypeId} {size n : Nat} {v u : Value} {xs : List Value} {cs : Array Value} (hb : W.heap[b]? = some (.cells cs t (0, 0))) (h : W.ownsRow B e size v n xs) (he : e ≠ t) : (W.setCell ⟨b, k, none⟩ u).ownsRow B e size v n xs ∧ (W.setCell ⟨b, k, none⟩ u).heap[b]? = some (.cells (cs.setIfInBounds k u) t (0, 0)) :=
  ⟨h.kept grown_set (.inr (tag_ne_blk h hb he)), blk_set u hb⟩
/-- The five cells of a state written. -/
@[reducible] def five (W : World) (b : Nat) (v0 v1 v2 v3 v4 : Value) : World := ((((W.setCell ⟨b, 0, none⟩ v0).setCell ⟨b, 1, none⟩ v1).setCell ⟨b, 2, none⟩ v2).setCell ⟨b, 3, none⟩ v3).setCell ⟨b, 4, none⟩ v4
theorem row_five {W : World} {B b : Nat} {e t : TypeId} {size n : Nat} {v v0 v1 v2 v3 v4 : Value} {xs : List Value} {cs : Array Value} (hb : W.heap[b]? = some (.cells cs t (0, 0))) (h : W.ownsRow B e size v n xs) (he : e ≠ t) : (five W b v0 v1 v2 v3 v4).ownsRow B e size v n xs := by
  obtain ⟨h1, b1⟩ := row_off (k := 0) (u := v0) hb h he
  obtain ⟨h2, b2⟩ := row_off (k := 1) (u := v1) b1 h1 he
  obtain ⟨h3, b3⟩ := row_off (k := 2) (u := v2) b2 h2 he
  obtain ⟨h4, b4⟩ := row_off (k := 3) (u := v3) b3 h3 he
  exact (row_off (k := 4) (u := v4) b4 h4 he).1
theorem bel_five {w W : World} {b : Nat} {v0 v1 v2 v3 v4 : Value} (h : Below w.heap.size w W) (hb : w.heap.size ≤ b) : Below w.heap.size w (five W b v0 v1 v2 v3 v4) :=
  ((((h.setCell (p := ⟨b, 0, none⟩) hb _).setCell (p := ⟨b, 1, none⟩) hb _).setCell (p := ⟨b, 2, none⟩) hb _).setCell (p := ⟨b, 3, none⟩) hb _).setCell (p := ⟨b, 4, none⟩) hb _

set_option maxRecDepth 100000 in
set_option maxHeartbeats 8000000 in
theorem copied_any {vi vq vf : Value} {s : Stt} (w : World) (h : Stm w vi vq vf s) (hs : s.shp = true) :
    Calls Try.prog 16 #[sv vi vq vf s] w fun e w' => ∃ vi' vq' vf', e = .returned (sv vi' vq' vf' s) ∧ Own w.heap.size w' vi' vq' vf' s ∧ Below w.heap.size w w' := by
  obtain ⟨a1, c1, a2, c2, a3, c3, rfl, rfl, rfl⟩ := h.form
  obtain ⟨i3, hi3, hx0, hx1, hx2⟩ := info_parts info3
  obtain ⟨i9, hi9, hy0, hy1, hy2⟩ := info_parts info9
  obtain ⟨i54, hi54, hz0, hz1, hz2⟩ := info_parts info54
  have HL : Hid (s.ind.length ≤ 32 ∧ s.que.length ≤ 8 ∧ s.frm.length ≤ 16 ∧ (∀ d ∈ s.que, d.size ≤ 16) ∧ (∀ f ∈ s.frm, f.2.size ≤ 16)) := by
    simp only [Stt.shp, Stt.oi, Stt.oq, Stt.of, Bool.and_eq_true, decide_eq_true_eq, List.all_eq_true, wai, okF1] at hs
    obtain ⟨⟨⟨⟨⟨h1, _⟩, _⟩, _⟩, h4, h4b⟩, h5, h5b⟩ := hs
    exact ⟨h1, h4, h5, fun d hd => (h4b d hd).1.2, fun f hf => (h5b f hf).2⟩
  obtain ⟨W1, hW1⟩ : ∃ W1, W1 = (w.alloc (.cells #[.slice a1 s.ind.length c1, .int .i64 s.pen, .slice a2 s.que.length c2, .slice a3 s.frm.length c3, .int .u16 (s.flg : Int)] 27)).alloc (.cells #[.slice none 0 0, .int .i64 0, .slice none 0 0, .slice none 0 0, .int .u16 0] 27) := ⟨_, rfl⟩
  have HC1 : Hid (Cp w W1 w.heap.size (.slice a1 s.ind.length c1) (.slice a2 s.que.length c2) (.slice a3 s.frm.length c3) s) := by
    rw [hW1]
    refine ⟨?_, ?_, below_trans (bel_up _ _) (bel_up _ _), Nat.le_refl _⟩
    · rw [(bel_up _ _).block _ (by simp)]; exact heap_new w _
    · have := heap_new (w.alloc (.cells #[.slice a1 s.ind.length c1, .int .i64 s.pen, .slice a2 s.que.length c2, .slice a3 s.frm.length c3, .int .u16 (s.flg : Int)] 27)) (.cells #[.slice none 0 0, .int .i64 0, .slice none 0 0, .slice none 0 0, .int .u16 0] 27)
      rw [World.size_alloc] at this
      exact this
  have HW : Hid (W1 = (w.alloc (.cells #[.slice a1 s.ind.length c1, .int .i64 s.pen, .slice a2 s.que.length c2, .slice a3 s.frm.length c3, .int .u16 (s.flg : Int)] 27)).alloc (.cells #[.slice none 0 0, .int .i64 0, .slice none 0 0, .slice none 0 0, .int .u16 0] 27)) := hW1
  have HS : Hid (Stm w (.slice a1 s.ind.length c1) (.slice a2 s.que.length c2) (.slice a3 s.frm.length c3) s) := h
  clear h hs hW1
  go_enter Try.func16, Try.ntmps16
  go_upto_region 1 with fail
  rw [← HW.out]
  have HR1 : Hid (Rw W1 (.slice a1 s.ind.length c1) s.ind.length (iC s.ind)) := HS.out.i.up HC1.out.bel
  have HLB1 : Hid (w.heap.size ≤ W1.heap.size) := HC1.out.bel.size
  have b1 := HC1.out.c0
  have HLN1 : Hid (s.ind.length ≤ 32) := by have := HL.out.1; show s.ind.length ≤ 32; omega
  go_upto_region 2 with (at_builtin; refine wpList_copy _ rfl _ _ 22 rfl w.heap.size 3 i3 (.int .i64 0) 1 8 Try.underlying22 hi3 hx0 hx1 hx2 rfl (by decide) _ s.ind.length (iC s.ind) rfl rfl HR1.out (iC_len _) (iC_one _) (by have := HLN1.out; unfold maxLen; omega) (by have := HLN1.out; omega) HLB1.out ?_; intro v1 u1 ho1 hg1; obtain ⟨ea1, ma1, rfl⟩ := row_shape ho1; have HO1 : Hid _ := ho1; have HG1 : Hid _ := below_of_grown hg1; have k1 := (HC1.out.up HG1.out).c0; have f1 := (HC1.out.up HG1.out).fr 0; clear ho1 hg1)
  have HX1 : Hid (∃ W2, W2 = u1.setCell ⟨w.heap.size, 0, none⟩ (.slice ea1 s.ind.length ma1)) := ⟨_, rfl⟩
  obtain ⟨W2, hW2⟩ := HX1.out
  rw [← hW2]
  have HC2 : Hid (Cp w W2 w.heap.size (.slice ea1 s.ind.length ma1) (.slice a2 s.que.length c2) (.slice a3 s.frm.length c3) s) := by rw [hW2]; exact (HC1.out.up HG1.out).set0 _
  have HQ1 : Hid (W2.ownsRow w.heap.size 3 1 (.slice ea1 s.ind.length ma1) s.ind.length (iC s.ind)) := by rw [hW2]; exact (HC1.out.up HG1.out).row HO1.out (by decide) _ _
  clear hW2 HR1 HLB1 b1 k1 f1 HO1 HG1 HX1 HLN1 HC1
  have HR2 : Hid (Rw W2 (.slice a2 s.que.length c2) s.que.length (qC s.que)) := HS.out.q.up HC2.out.bel
  have HLB2 : Hid (w.heap.size ≤ W2.heap.size) := HC2.out.bel.size
  have b2 := HC2.out.c2
  have HLN2 : Hid (s.que.length ≤ 32) := by have := HL.out.2.1; show s.que.length ≤ 32; omega
  go_upto_region 3 with (at_builtin; refine wpList_copy _ rfl _ _ 23 rfl w.heap.size 9 i9 (.string ⟨#[]⟩) 1 16 Try.underlying23 hi9 hy0 hy1 hy2 rfl (by decide) _ s.que.length (qC s.que) rfl rfl HR2.out (qC_len _) (qC_one _) (by have := HLN2.out; unfold maxLen; omega) (by have := HLN2.out; omega) HLB2.out ?_; intro v2 u2 ho2 hg2; obtain ⟨ea2, ma2, rfl⟩ := row_shape ho2; have HO2 : Hid _ := ho2; have HG2 : Hid _ := below_of_grown hg2; have k2 := (HC2.out.up HG2.out).c2; have f2 := (HC2.out.up HG2.out).fr 2; clear ho2 hg2)
  have HX2 : Hid (∃ W3, W3 = u2.setCell ⟨w.heap.size, 2, none⟩ (.slice ea2 s.que.length ma2)) := ⟨_, rfl⟩
  obtain ⟨W3, hW3⟩ := HX2.out
  rw [← hW3]
  have HC3 : Hid (Cp w W3 w.heap.size (.slice ea1 s.ind.length ma1) (.slice ea2 s.que.length ma2) (.slice a3 s.frm.length c3) s) := by rw [hW3]; exact (HC2.out.up HG2.out).set2 _
  have HQ2 : Hid (W3.ownsRow w.heap.size 9 1 (.slice ea2 s.que.length ma2) s.que.length (qC s.que)) := by rw [hW3]; exact (HC2.out.up HG2.out).row HO2.out (by decide) _ _
  have HQ1' : Hid (W3.ownsRow w.heap.size 3 1 (.slice ea1 s.ind.length ma1) s.ind.length (iC s.ind)) := by rw [hW3]; exact (HC2.out.up HG2.out).row (row_up HQ1.out HG2.out) (by decide) _ _
  clear HQ1
  have HQ1 : Hid _ := HQ1'.out
  clear HQ1'
  clear hW3 HR2 HLB2 b2 k2 f2 HO2 HG2 HX2 HLN2 HC2
  have c0 := HC3.out.c2
  go_upto_region 4 with fail
  clear c0
  go_loopg [18] s.que.length (fun gm v wr => ∃ i : Nat, v = .int .i64 (i : Int) ∧ Hid (i ≤ s.que.length ∧ gm = s.que.length - i) ∧ Hid (Cp w wr w.heap.size (.slice ea1 s.ind.length ma1) (.slice ea2 s.que.length ma2) (.slice a3 s.frm.length c3) s) ∧ Hid (wr.ownsRow w.heap.size 9 1 (.slice ea2 s.que.length ma2) s.que.length (qC s.que)) ∧ Hid (wr.ownsRow w.heap.size 3 1 (.slice ea1 s.ind.length ma1) s.ind.length (iC s.ind)))
  case atStart => exact ⟨0, rfl, ⟨Nat.zero_le _, rfl⟩, HC3, HQ2, HQ1⟩
  case round =>
    obtain ⟨i, rfl, HI, HC, HQ, KHQ1⟩ := hrel
    clear HC3 HQ2 HQ1
    by_cases hi : i < s.que.length
    · obtain ⟨g, cp, hgf, hg1, hg2, hg3⟩ := row_form HQ.out (by omega)
      obtain ⟨rfl, -, rfl⟩ := Value.slice.inj hgf
      clear hgf
      have e1 : decide ((i : Int) < (s.que.length : Int)) = true := by rw [decide_eq_true_eq]; omega
      have e2 : decide (i < s.que.length) = true := by rw [decide_eq_true_eq]; omega
      have e3 : (i : Int) < (s.que.length : Int) := by omega
      have HIL : Hid (i < s.que.length) := hi
      have hwr := w64n i (by have := HL.out.2.1; omega)
      obtain ⟨d, hd⟩ : ∃ d, s.que.getD i ⟨#[]⟩ = d := ⟨_, rfl⟩
      have HCI : Hid ((qC s.que)[i]? = some (.string d)) := by rw [qC_get s.que i hi, hd]; exact rfl
      have ci : wr.cell? ⟨g, i, none⟩ = some (.string d) := by rw [HQ.out.cellAt i (by omega)]; exact HCI.out
      have HDS : Hid (d.size ≤ 281474976710656) := by
        have := HL.out.2.2.2.1 d (by rw [← hd, List.getD_eq_getElem?_getD, List.getElem?_eq_getElem hi]; exact List.getElem_mem hi)
        show d.size ≤ 281474976710656
        omega
      clear hi hd hg1 hg2 hg3
      go_upto_region 6 with fail
      have HWF : Hid (Cp w wr w.heap.size (.slice ea1 s.ind.length ma1) (.slice (some ⟨g, 0, none⟩) s.que.length ma2) (.slice a3 s.frm.length c3) s ∧ wr.ownsRow w.heap.size 9 1 (.slice (some ⟨g, 0, none⟩) s.que.length ma2) s.que.length (qC s.que)) := ⟨HC.out, HQ.out⟩
      have HNE : Hid (w.heap.size ≠ g) := fun e => by
        have h1 := (row_tag HQ.out g rfl).2
        obtain ⟨cur, h2⟩ := h1
        rw [← e, HC.out.b1] at h2
        cases h2
      have kx : wr.drew.cell? ⟨w.heap.size, 2, none⟩ = some (.slice (some ⟨g, 0, none⟩) s.que.length ma2) := HC.out.c2
      clear ci
      refine wp_region_noPanic ?_
      refine wp_region_held_drew (S := fun W => W.cell? ⟨w.heap.size, 2, none⟩ = some (.slice (some ⟨g, 0, none⟩) s.que.length ma2)) (by kernel_rfl) kx (fun hHeld => ?_)
      refine wpAnyH_take (i := 0) (oi := { dst := _, op := _, type := _, pos := _, after := _, guard := _ }) (v := ?_) rfl (by kernel_rfl) (by kernel_rfl) (by kernel_rfl) (fun _ _ _ h => h) (Or.inl ⟨by rfl, ?_⟩) (by assumption) ?_
      rotate_left
      · intro W hSw
        (try dsimp only at hSw)
        go_simp
        (try with_reducible rfl)
      try simp only [Act.put, List.setIfInBounds_toArray, List.set_cons_zero, List.set_cons_succ]
      refine wpAnyH_take (i := 1) (oi := { dst := _, op := _, type := _, pos := _, after := _, guard := _ }) (v := ?_) rfl (by kernel_rfl) (by kernel_rfl) (by kernel_rfl) (fun _ _ _ h => h) (Or.inl ⟨by rfl, ?_⟩) (by assumption) ?_
      rotate_left
      · intro W hSw
        (try dsimp only at hSw)
        go_simp
        (try with_reducible rfl)
      try simp only [Act.put, List.setIfInBounds_toArray, List.set_cons_zero, List.set_cons_succ]
      refine wpAnyH_take (i := 2) (oi := { dst := _, op := _, type := _, pos := _, after := _, guard := _ }) (v := ?_) rfl (by kernel_rfl) (by kernel_rfl) (by kernel_rfl) (fun _ _ _ h => h) (Or.inl ⟨by rfl, ?_⟩) (by assumption) ?_
      rotate_left
      · intro W hSw
        (try dsimp only at hSw)
        go_simp
        (try with_reducible rfl)
      try simp only [Act.put, List.setIfInBounds_toArray, List.set_cons_zero, List.set_cons_succ]
      refine wpAnyH_take (i := 3) (oi := { dst := _, op := _, type := _, pos := _, after := _, guard := _ }) (v := ?_) rfl (by kernel_rfl) (by kernel_rfl) (by kernel_rfl) (fun _ _ _ h => h) (Or.inl ⟨by rfl, ?_⟩) (by assumption) ?_
      rotate_left
      · intro W hSw
        (try dsimp only at hSw)
        go_simp
        (try with_reducible rfl)
      try simp only [Act.put, List.setIfInBounds_toArray, List.set_cons_zero, List.set_cons_succ]
      refine wpAnyH_ready (rs := [4]) (by kernel_rfl) (by simp) ?_
      refine AllReadyH.cons (o := { dst := _, op := _, type := _, pos := _, after := _, guard := _ }) rfl (fun K hK => ?_) AllReadyH.nil
      go_simp
      refine (clone_any d _ HDS.out).mono ?_
      rintro e w6 ⟨rfl, hb6⟩
      have B6 : Hid (Below wr.heap.size wr w6) := below_trans (Below.drew (Below.refl _ _)) hb6
      have ka : w6.cell? ⟨g, i, none⟩ = some (.string d) := by rw [(row_up HQ.out B6.out).cellAt i (by have := HIL.out; omega)]; exact HCI.out
      have fa : w6.frozen? ⟨g, i, none⟩ = false := (row_up HQ.out B6.out).frozenAt i
      have kc : w6.cell? ⟨w.heap.size, 2, none⟩ = some (.slice (some ⟨g, 0, none⟩) s.que.length ma2) := below_cell B6.out kx
      clear hb6 kx
      go_wp2_with fail
      refine hK.out _ _ ?_ (fun hHeld => ?_)
      · (try dsimp only)
        exact kc
      clear hK K
      try simp only [Act.put, List.setIfInBounds_toArray, List.set_cons_zero, List.set_cons_succ]
      refine wpAnyH_take (i := 5) (oi := { dst := _, op := _, type := _, pos := _, after := _, guard := _ }) (v := ?_) rfl (by kernel_rfl) (by kernel_rfl) (by kernel_rfl) (fun _ _ _ h => h) (Or.inl ⟨by rfl, ?_⟩) (by assumption) ?_
      rotate_left
      · intro W hSw
        (try dsimp only at hSw)
        go_simp
        (try with_reducible rfl)
      try simp only [Act.put, List.setIfInBounds_toArray, List.set_cons_zero, List.set_cons_succ]
      refine wpAnyH_ready (rs := [6]) (by kernel_rfl) (by simp) ?_
      refine AllReadyH.cons (o := { dst := _, op := _, type := _, pos := _, after := _, guard := _ }) rfl (fun K hK => ?_) AllReadyH.nil
      go_simp
      refine hK.out _ _ ?_ (fun hHeld => ?_)
      · (try dsimp only)
        rw [World.cell?_setCell_other _ _ _ _ (fun h => HNE.out (congrArg Addr.block h).symm)]; exact kc
      clear hK K
      try simp only [Act.put, List.setIfInBounds_toArray, List.set_cons_zero, List.set_cons_succ]
      refine wpAnyH_done (by kernel_rfl) ?_ _
      refine NoPanic.normal ?_
      clear hHeld kc ka fa
      go_wp2_with fail
      go_roundg (s.que.length - (i + 1))
      case measure => have := HI.out; have := HIL.out; omega
      case rel =>
        have hq6 := row_up HQ.out B6.out
        obtain ⟨cur, hcur⟩ := (row_tag hq6 g rfl).2
        exact ⟨i + 1, by first | rfl | (rw [show (i : Int) + 1 = ((i + 1 : Nat) : Int) by omega]), ⟨HIL.out, rfl⟩, (HC.out.up B6.out).far hcur (by decide) (row_tag hq6 g rfl).1 _, row_same hq6 HCI.out, row_far (row_up KHQ1.out B6.out) hq6 (by decide) _⟩
    · have e1 : decide ((i : Int) < (s.que.length : Int)) = false := by rw [decide_eq_false_iff_not]; omega
      have e2 : decide (i < s.que.length) = false := by rw [decide_eq_false_iff_not]; omega
      clear hi
      go_upto_region 8 with fail
      have HC3 : Hid (Cp w wr w.heap.size (.slice ea1 s.ind.length ma1) (.slice ea2 s.que.length ma2) (.slice a3 s.frm.length c3) s) := HC
      have HQ2 : Hid (wr.ownsRow w.heap.size 9 1 (.slice ea2 s.que.length ma2) s.que.length (qC s.que)) := HQ
      have HQ1 : Hid (wr.ownsRow w.heap.size 3 1 (.slice ea1 s.ind.length ma1) s.ind.length (iC s.ind)) := KHQ1
      clear HC HQ KHQ1 HI e1 e2
      have HR3 : Hid (Rw wr (.slice a3 s.frm.length c3) s.frm.length (fC s.frm)) := HS.out.f.up HC3.out.bel
      have HLB3 : Hid (w.heap.size ≤ wr.heap.size) := HC3.out.bel.size
      have b3 := HC3.out.c3
      have HLN3 : Hid (s.frm.length ≤ 32) := by have := HL.out.2.2.1; show s.frm.length ≤ 32; omega
      go_upto_region 9 with (at_builtin; refine wpList_copy _ rfl _ _ 24 rfl w.heap.size 42 i54 (.agg #[.int .i64 0, .string ⟨#[]⟩]) 2 24 Try.underlying24 hi54 hz0 hz1 hz2 rfl (by decide) _ s.frm.length (fC s.frm) rfl rfl HR3.out (fC_len _) (fC_one _) (by have := HLN3.out; unfold maxLen; omega) (by have := HLN3.out; omega) HLB3.out ?_; intro v3 u3 ho3 hg3; obtain ⟨ea3, ma3, rfl⟩ := row_shape ho3; have HO3 : Hid _ := ho3; have HG3 : Hid _ := below_of_grown hg3; have k3 := (HC3.out.up HG3.out).c3; have f3 := (HC3.out.up HG3.out).fr 3; clear ho3 hg3)
      have HX3 : Hid (∃ W4, W4 = u3.setCell ⟨w.heap.size, 3, none⟩ (.slice ea3 s.frm.length ma3)) := ⟨_, rfl⟩
      obtain ⟨W4, hW4⟩ := HX3.out
      rw [← hW4]
      have HC4 : Hid (Cp w W4 w.heap.size (.slice ea1 s.ind.length ma1) (.slice ea2 s.que.length ma2) (.slice ea3 s.frm.length ma3) s) := by rw [hW4]; exact (HC3.out.up HG3.out).set3 _
      have HQ3 : Hid (W4.ownsRow w.heap.size 42 2 (.slice ea3 s.frm.length ma3) s.frm.length (fC s.frm)) := by rw [hW4]; exact (HC3.out.up HG3.out).row HO3.out (by decide) _ _
      have HQ1' : Hid (W4.ownsRow w.heap.size 3 1 (.slice ea1 s.ind.length ma1) s.ind.length (iC s.ind)) := by rw [hW4]; exact (HC3.out.up HG3.out).row (row_up HQ1.out HG3.out) (by decide) _ _
      clear HQ1
      have HQ1 : Hid _ := HQ1'.out
      clear HQ1'
      have HQ2' : Hid (W4.ownsRow w.heap.size 9 1 (.slice ea2 s.que.length ma2) s.que.length (qC s.que)) := by rw [hW4]; exact (HC3.out.up HG3.out).row (row_up HQ2.out HG3.out) (by decide) _ _
      clear HQ2
      have HQ2 : Hid _ := HQ2'.out
      clear HQ2'
      clear hW4 HR3 HLB3 b3 k3 f3 HO3 HG3 HX3 HLN3 HC3
      have c0 := HC4.out.c3
      go_upto_region 10 with fail
      clear c0
      go_loopg [37] s.frm.length (fun gm v wr => ∃ i : Nat, v = .int .i64 (i : Int) ∧ Hid (i ≤ s.frm.length ∧ gm = s.frm.length - i) ∧ Hid (Cp w wr w.heap.size (.slice ea1 s.ind.length ma1) (.slice ea2 s.que.length ma2) (.slice ea3 s.frm.length ma3) s) ∧ Hid (wr.ownsRow w.heap.size 42 2 (.slice ea3 s.frm.length ma3) s.frm.length (fC s.frm)) ∧ Hid (wr.ownsRow w.heap.size 3 1 (.slice ea1 s.ind.length ma1) s.ind.length (iC s.ind)) ∧ Hid (wr.ownsRow w.heap.size 9 1 (.slice ea2 s.que.length ma2) s.que.length (qC s.que)))
      case atStart => exact ⟨0, rfl, ⟨Nat.zero_le _, rfl⟩, HC4, HQ3, HQ1, HQ2⟩
      case round =>
        obtain ⟨i, rfl, HI, HC, HQ, KHQ1, KHQ2⟩ := hrel
        clear HC4 HQ3 HQ1 HQ2
        by_cases hi : i < s.frm.length
        · obtain ⟨g, cp, hgf, hg1, hg2, hg3⟩ := row_form HQ.out (by omega)
          obtain ⟨rfl, -, rfl⟩ := Value.slice.inj hgf
          clear hgf
          have e1 : decide ((i : Int) < (s.frm.length : Int)) = true := by rw [decide_eq_true_eq]; omega
          have e2 : decide (i < s.frm.length) = true := by rw [decide_eq_true_eq]; omega
          have e3 : (i : Int) < (s.frm.length : Int) := by omega
          have HIL : Hid (i < s.frm.length) := hi
          have hwr := w64n i (by have := HL.out.2.2.1; omega)
          obtain ⟨d, hd⟩ : ∃ d, s.frm.getD i (0, ⟨#[]⟩) = d := ⟨_, rfl⟩
          have HCI : Hid ((fC s.frm)[i * 2 + 1]? = some (.string d.2)) := by rw [(fC_get s.frm i hi).2, hd]; exact rfl
          have ci : wr.cell? ⟨g, i * 2, none⟩ = some (.int .i64 d.1) := by rw [HQ.out.cellAt (i * 2) (by omega), (fC_get s.frm i hi).1, hd]
          have cj : wr.cell? ⟨g, i * 2 + 1, none⟩ = some (.string d.2) := by rw [HQ.out.cellAt (i * 2 + 1) (by omega)]; exact HCI.out
          have HDS : Hid (d.2.size ≤ 281474976710656) := by
            have := HL.out.2.2.2.2 d (by rw [← hd, List.getD_eq_getElem?_getD, List.getElem?_eq_getElem hi]; exact List.getElem_mem hi)
            show d.2.size ≤ 281474976710656
            omega
          clear hi hd hg1 hg2 hg3
          obtain ⟨d1, d2⟩ := d
          go_upto_region 12 with fail
          obtain ⟨wq, hwq⟩ : ∃ wq, wq = wr.alloc (.cells #[.int .i64 d1, .string d2] 42) := ⟨_, rfl⟩
          rw [← hwq]
          have BQ : Hid (Below wr.heap.size wr wq) := by rw [hwq]; exact bel_up _ _
          have HNE : Hid (w.heap.size ≠ g) := fun e => by
            have h1 := (row_tag HQ.out g rfl).2
            obtain ⟨cur, h2⟩ := h1
            rw [← e, HC.out.b1] at h2
            cases h2
          have HNF : Hid (wr.heap.size ≠ g) := fun e => by
            obtain ⟨cur, h2⟩ := (row_tag HQ.out g rfl).2
            have := lt_of_heap h2
            omega
          have kx : wq.drew.cell? ⟨w.heap.size, 3, none⟩ = some (.slice (some ⟨g, 0, none⟩) s.frm.length ma3) := below_cell BQ.out HC.out.c3
          have ky : wq.drew.cell? ⟨wr.heap.size, 1, none⟩ = some (.string d2) := by
            have h1 : wq.heap[wr.heap.size]? = some (.cells #[.int .i64 d1, .string d2] 42 (0, 0)) := by rw [hwq]; exact heap_new wr _
            show wq.cell? _ = _
            rw [Lib.cell_of_heap h1]; rfl
          clear ci cj hwq
          refine wp_region_noPanic ?_
          refine wp_region_held_drew (S := fun W => W.cell? ⟨w.heap.size, 3, none⟩ = some (.slice (some ⟨g, 0, none⟩) s.frm.length ma3) ∧ W.cell? ⟨wr.heap.size, 1, none⟩ = some (.string d2)) (by kernel_rfl) ⟨kx, ky⟩ (fun hHeld => ?_)
          refine wpAnyH_take (i := 0) (oi := { dst := _, op := _, type := _, pos := _, after := _, guard := _ }) (v := ?_) rfl (by kernel_rfl) (by kernel_rfl) (by kernel_rfl) (fun _ _ _ h => h) (Or.inl ⟨by rfl, ?_⟩) (by assumption) ?_
          rotate_left
          · intro W hSw
            obtain ⟨h1, h2⟩ := hSw
            go_simp
            (try with_reducible rfl)
          try simp only [Act.put, List.setIfInBounds_toArray, List.set_cons_zero, List.set_cons_succ]
          refine wpAnyH_take (i := 1) (oi := { dst := _, op := _, type := _, pos := _, after := _, guard := _ }) (v := ?_) rfl (by kernel_rfl) (by kernel_rfl) (by kernel_rfl) (fun _ _ _ h => h) (Or.inl ⟨by rfl, ?_⟩) (by assumption) ?_
          rotate_left
          · intro W hSw
            obtain ⟨h1, h2⟩ := hSw
            go_simp
            (try with_reducible rfl)
          try simp only [Act.put, List.setIfInBounds_toArray, List.set_cons_zero, List.set_cons_succ]
          refine wpAnyH_take (i := 2) (oi := { dst := _, op := _, type := _, pos := _, after := _, guard := _ }) (v := ?_) rfl (by kernel_rfl) (by kernel_rfl) (by kernel_rfl) (fun _ _ _ h => h) (Or.inl ⟨by rfl, ?_⟩) (by assumption) ?_
          rotate_left
          · intro W hSw
            obtain ⟨h1, h2⟩ := hSw
            go_simp
            (try with_reducible rfl)
          try simp only [Act.put, List.setIfInBounds_toArray, List.set_cons_zero, List.set_cons_succ]
          refine wpAnyH_take (i := 3) (oi := { dst := _, op := _, type := _, pos := _, after := _, guard := _ }) (v := ?_) rfl (by kernel_rfl) (by kernel_rfl) (by kernel_rfl) (fun _ _ _ h => h) (Or.inl ⟨by rfl, ?_⟩) (by assumption) ?_
          rotate_left
          · intro W hSw
            obtain ⟨h1, h2⟩ := hSw
            go_simp
            (try with_reducible rfl)
          try simp only [Act.put, List.setIfInBounds_toArray, List.set_cons_zero, List.set_cons_succ]
          refine wpAnyH_take (i := 4) (oi := { dst := _, op := _, type := _, pos := _, after := _, guard := _ }) (v := ?_) rfl (by kernel_rfl) (by kernel_rfl) (by kernel_rfl) (fun _ _ _ h => h) (Or.inl ⟨by rfl, ?_⟩) (by assumption) ?_
          rotate_left
          · intro W hSw
            obtain ⟨h1, h2⟩ := hSw
            go_simp
            (try with_reducible rfl)
          try simp only [Act.put, List.setIfInBounds_toArray, List.set_cons_zero, List.set_cons_succ]
          refine wpAnyH_ready (rs := [5]) (by kernel_rfl) (by simp) ?_
          refine AllReadyH.cons (o := { dst := _, op := _, type := _, pos := _, after := _, guard := _ }) rfl (fun K hK => ?_) AllReadyH.nil
          go_simp
          refine (clone_any d2 _ HDS.out).mono ?_
          rintro e w6 ⟨rfl, hb6⟩
          have B5 : Hid (Below wq.heap.size wq w6) := below_trans (Below.drew (Below.refl _ _)) hb6
          have B6 : Hid (Below wr.heap.size wr w6) := below_trans BQ.out B5.out
          have ka : w6.cell? ⟨g, i * 2 + 1, none⟩ = some (.string d2) := by rw [(row_up HQ.out B6.out).cellAt (i * 2 + 1) (by have := HIL.out; omega)]; exact HCI.out
          have fa : w6.frozen? ⟨g, i * 2 + 1, none⟩ = false := (row_up HQ.out B6.out).frozenAt (i * 2 + 1)
          have kc : w6.cell? ⟨w.heap.size, 3, none⟩ = some (.slice (some ⟨g, 0, none⟩) s.frm.length ma3) ∧ w6.cell? ⟨wr.heap.size, 1, none⟩ = some (.string d2) := ⟨below_cell B5.out kx, below_cell B5.out ky⟩
          clear hb6 kx ky
          go_wp2_with fail
          refine hK.out _ _ ?_ (fun hHeld => ?_)
          · (try dsimp only)
            exact kc
          clear hK K
          try simp only [Act.put, List.setIfInBounds_toArray, List.set_cons_zero, List.set_cons_succ]
          refine wpAnyH_take (i := 6) (oi := { dst := _, op := _, type := _, pos := _, after := _, guard := _ }) (v := ?_) rfl (by kernel_rfl) (by kernel_rfl) (by kernel_rfl) (fun _ _ _ h => h) (Or.inl ⟨by rfl, ?_⟩) (by assumption) ?_
          rotate_left
          · intro W hSw
            obtain ⟨h1, h2⟩ := hSw
            go_simp
            (try with_reducible rfl)
          try simp only [Act.put, List.setIfInBounds_toArray, List.set_cons_zero, List.set_cons_succ]
          refine wpAnyH_take (i := 7) (oi := { dst := _, op := _, type := _, pos := _, after := _, guard := _ }) (v := ?_) rfl (by kernel_rfl) (by kernel_rfl) (by kernel_rfl) (fun _ _ _ h => h) (Or.inl ⟨by rfl, ?_⟩) (by assumption) ?_
          rotate_left
          · intro W hSw
            obtain ⟨h1, h2⟩ := hSw
            go_simp
            (try with_reducible rfl)
          try simp only [Act.put, List.setIfInBounds_toArray, List.set_cons_zero, List.set_cons_succ]
          refine wpAnyH_ready (rs := [8]) (by kernel_rfl) (by simp) ?_
          refine AllReadyH.cons (o := { dst := _, op := _, type := _, pos := _, after := _, guard := _ }) rfl (fun K hK => ?_) AllReadyH.nil
          go_simp
          refine hK.out _ _ ?_ (fun hHeld => ?_)
          · (try dsimp only)
            rw [World.cell?_setCell_other _ _ _ _ (fun h => HNE.out (congrArg Addr.block h).symm), World.cell?_setCell_other _ _ _ _ (fun h => HNF.out (congrArg Addr.block h).symm)]; exact kc
          clear hK K
          try simp only [Act.put, List.setIfInBounds_toArray, List.set_cons_zero, List.set_cons_succ]
          refine wpAnyH_done (by kernel_rfl) ?_ _
          refine NoPanic.normal ?_
          clear hHeld kc ka fa
          go_wp2_with fail
          go_roundg (s.frm.length - (i + 1))
          case measure => have := HI.out; have := HIL.out; omega
          case rel =>
            have hq6 := row_up HQ.out B6.out
            obtain ⟨cur, hcur⟩ := (row_tag hq6 g rfl).2
            exact ⟨i + 1, by first | rfl | (rw [show (i : Int) + 1 = ((i + 1 : Nat) : Int) by omega]), ⟨HIL.out, rfl⟩, (HC.out.up B6.out).far hcur (by decide) (row_tag hq6 g rfl).1 _, row_same hq6 HCI.out, row_far (row_up KHQ1.out B6.out) hq6 (by decide) _, row_far (row_up KHQ2.out B6.out) hq6 (by decide) _⟩
        · have e1 : decide ((i : Int) < (s.frm.length : Int)) = false := by rw [decide_eq_false_iff_not]; omega
          have e2 : decide (i < s.frm.length) = false := by rw [decide_eq_false_iff_not]; omega
          clear hi
          obtain ⟨k0, k1, k2, k3, k4, z0, z1, z2, z3, z4⟩ := HC.out.all
          have fz := HC.out.frz
          have HLO : Hid (w.heap.size ≤ w.heap.size + 1) := Nat.le_succ _
          go_wp2_with fail
          (try simp only [Exit.inBlock, Exit.then])
          refine bodyPost_ret (v := sv (.slice ea1 s.ind.length ma1) (.slice ea2 s.que.length ma2) (.slice ea3 s.frm.length ma3) s) ?_ rfl ⟨_, _, _, rfl, ⟨row_five HC.out.b2 KHQ1.out (by decide), row_five HC.out.b2 KHQ2.out (by decide), row_five HC.out.b2 HQ.out (by decide)⟩, ?_⟩
          · rw [results_cell1 rfl]; go_simp
          · exact bel_five HC.out.bel (Nat.le_succ _)
end Go.Proofs.Ytkaciochlemjiab
