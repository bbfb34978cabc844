import Derived.Test.YtdchopljojlcpaaRrd
namespace Go.Proofs.Ytdchopljojlcpaa
open Go.RowKit Go.Maps

/-- A rule whose rows are the call's own. -/
structure Owr (B : Nat) (W : World) (ve vi vt va : Value) (r : Rul) : Prop where
  e : W.ownsRow B 50 7 ve r.re.length (flat nf r.re)
  i : W.ownsRow B 3 1 vi r.inn.length (iC r.inn)
  t : W.ownsRow B 53 2 vt r.tes.length (flat tf r.tes)
  a : W.ownsRow B 56 3 va r.act.length (flat af r.act)
/-- The box of a rule. -/
def rxC (x2 x4 x5 x6 : Value) (r : Rul) : Array Value := #[.int .i64 r.trm, .int .i64 r.pat, x2, .string r.lit, x4, x5, x6]
structure Tb (w W : World) (T : Nat) (x2 x4 x5 x6 : Value) (r : Rul) : Prop where
  bt : W.heap[T]? = some (.cells (rxC x2 x4 x5 x6 r) 28 (0, 0))
  bw : Below w.heap.size w W
  lt : w.heap.size ≤ T
section
variable {w W W' : World} {T : Nat} {x2 x4 x5 x6 : Value} {r : Rul}
theorem Tb.up (h : Tb w W T x2 x4 x5 x6 r) (hb : Below W.heap.size W W') : Tb w W' T x2 x4 x5 x6 r :=
  ⟨by rw [hb.block _ (lt_of_heap h.bt)]; exact h.bt, h.bw.trans (hb.mono h.bw.size), h.lt⟩
theorem Tb.tcell (h : Tb w W T x2 x4 x5 x6 r) (k : Nat) (v : Value) (hk : (rxC x2 x4 x5 x6 r)[k]? = some v) : W.cell? ⟨T, k, none⟩ = some v := by rw [Lib.cell_of_heap h.bt]; exact hk
theorem Tb.fr (h : Tb w W T x2 x4 x5 x6 r) (k : Nat) : W.frozen? ⟨T, k, none⟩ = false := Lib.frozen_of_heap h.bt k
theorem Tb.set {y2 y4 y5 y6 : Value} (h : Tb w W T x2 x4 x5 x6 r) (k : Nat) (u : Value) (hk : (rxC x2 x4 x5 x6 r).setIfInBounds k u = rxC y2 y4 y5 y6 r) : Tb w (W.setCell ⟨T, k, none⟩ u) T y2 y4 y5 y6 r :=
  ⟨by rw [blk_set u h.bt, hk], h.bw.setCell (p := ⟨T, k, none⟩) h.lt _, h.lt⟩
theorem Tb.row {B : Nat} {e : TypeId} {size n : Nat} {v : Value} {xs : List Value} (h : Tb w W T x2 x4 x5 x6 r) (hr : W.ownsRow B e size v n xs) (he : e ≠ 28) (k : Nat) (u : Value) : (W.setCell ⟨T, k, none⟩ u).ownsRow B e size v n xs := (row_off h.bt hr he).1
/-- An append to one of the rows. -/
theorem Tb.app {e : TypeId} {size n : Nat} {v : Value} {xs : List Value} {y2 y4 y5 y6 : Value} (h : Tb w W T x2 x4 x5 x6 r) (hr : W.ownsRow w.heap.size e size v n xs) (he : e ≠ 28) (hg : W.grownBy W' v.ownBlock) (k : Nat) (u : Value) (hk : (rxC x2 x4 x5 x6 r).setIfInBounds k u = rxC y2 y4 y5 y6 r) : Tb w (W'.setCell ⟨T, k, none⟩ u) T y2 y4 y5 y6 r := by
  have hb : W'.heap[T]? = some (.cells (rxC x2 x4 x5 x6 r) 28 (0, 0)) := (hg.block _ (lt_of_heap h.bt) (fun e' => tag_ne_blk hr h.bt he e'.symm)).trans h.bt
  exact ⟨by rw [blk_set u hb, hk], (h.bw.grown hg h.bw.size (fun r e' => (row_tag hr r e').1)).setCell (p := ⟨T, k, none⟩) h.lt _, h.lt⟩
theorem Tb.other {e e' : TypeId} {size size' n n' : Nat} {v v' u : Value} {xs xs' : List Value} {k : Nat} (h : Tb w W T x2 x4 x5 x6 r) (hr : W.ownsRow w.heap.size e size v n xs) (he : e ≠ 28) (hg : W.grownBy W' v.ownBlock) (hr' : W.ownsRow w.heap.size e' size' v' n' xs') (he' : e' ≠ 28) (hne : e' ≠ e) : (W'.setCell ⟨T, k, none⟩ u).ownsRow w.heap.size e' size' v' n' xs' := by
  have hb : W'.heap[T]? = some (.cells (rxC x2 x4 x5 x6 r) 28 (0, 0)) := (hg.block _ (lt_of_heap h.bt) (fun e' => tag_ne_blk hr h.bt he e'.symm)).trans h.bt
  exact (row_off hb (hr'.kept hg (tag_ne hr' hr hne)) he').1
theorem Tb.got {e : TypeId} {size n n' : Nat} {v v' u : Value} {xs xs' : List Value} {k : Nat} (h : Tb w W T x2 x4 x5 x6 r) (hr : W.ownsRow w.heap.size e size v n xs) (he : e ≠ 28) (hg : W.grownBy W' v.ownBlock) (hr' : W'.ownsRow w.heap.size e size v' n' xs') : (W'.setCell ⟨T, k, none⟩ u).ownsRow w.heap.size e size v' n' xs' := by
  have hb : W'.heap[T]? = some (.cells (rxC x2 x4 x5 x6 r) 28 (0, 0)) := (hg.block _ (lt_of_heap h.bt) (fun e' => tag_ne_blk hr h.bt he e'.symm)).trans h.bt
  exact (row_off hb hr' he).1
end
theorem box7 {W : World} {b : Nat} {x0 x1 x2 x3 x4 x5 x6 : Value} (h : W.heap[b]? = some (.cells #[x0, x1, x2, x3, x4, x5, x6] 28 (0, 0))) : W.cell? ⟨b, 0, none⟩ = some x0 ∧ W.cell? ⟨b, 1, none⟩ = some x1 ∧ W.cell? ⟨b, 2, none⟩ = some x2 ∧ W.cell? ⟨b, 3, none⟩ = some x3 ∧ W.cell? ⟨b, 4, none⟩ = some x4 ∧ W.cell? ⟨b, 5, none⟩ = some x5 ∧ W.cell? ⟨b, 6, none⟩ = some x6 := ⟨rcell h 0 _ rfl, rcell h 1 _ rfl, rcell h 2 _ rfl, rcell h 3 _ rfl, rcell h 4 _ rfl, rcell h 5 _ rfl, rcell h 6 _ rfl⟩
theorem cell_seven_new (w : World) (x0 x1 x2 x3 x4 x5 x6 : Value) (t : TypeId) : ∀ j q, [x0, x1, x2, x3, x4, x5, x6][j]? = some q → (w.alloc (.cells #[x0, x1, x2, x3, x4, x5, x6] t)).cell? ((⟨w.heap.size, 0, none⟩ : Addr).add j) = some q := by
  intro j u hj
  rw [addPl, Nat.zero_add, Lib.cell_of_heap (heap_new w _)]
  simpa using hj
/-- The sizes of a rule's lists. -/
structure Rsz (r : Rul) : Prop where
  e : r.re.length * 56 + 4096 ≤ 140737488355328
  i : r.inn.length * 8 + 4096 ≤ 140737488355328
  t : r.tes.length * 16 + 4096 ≤ 140737488355328
  a : r.act.length * 24 + 4096 ≤ 140737488355328

set_option maxRecDepth 100000 in
set_option maxHeartbeats 16000000 in
theorem twinRules_any {ve vi vt va : Value} {r : Rul} {b : Nat} (w : World) (h : Rlm w ve vi vt va r) (hb : w.heap[b]? = some (.cells (rvC ve vi vt va r) 28 (0, 0))) (hz : Rsz r) :
    Calls Try.prog 13 #[.slice (some ⟨b, 0, none⟩) 1 1] w fun e w' => ∃ g cap ue ui ut ua, e = .returned (.slice (some ⟨g, 0, none⟩) 1 cap) ∧ w'.ownsRow w.heap.size 28 7 (.slice (some ⟨g, 0, none⟩) 1 cap) 1 [.int .i64 r.trm, .int .i64 r.pat, ue, .string r.lit, ui, ut, ua] ∧ Owr w.heap.size w' ue ui ut ua r ∧ Below w.heap.size w w' := by
  have HR : Hid _ := h
  have HZ : Hid _ := hz
  obtain ⟨a1, c1, a2, c2, a3, c3, a4, c4, rfl, rfl, rfl, rfl⟩ := h.form
  have HBX : Hid _ := hb
  clear h hz hb
  obtain ⟨i50, hi, h0, h1, h2⟩ := info_parts info50
  have HI50 : Hid (Try.prog.info? 50 = some i50 ∧ i50.zero = some (.agg #[.int .i64 0, .int .u64 0, .int .u64 0, .int .u64 0, .int .u64 0, .int .i64 0, .int .i64 0]) ∧ i50.size = 7 ∧ i50.bytes = 56) := ⟨hi, h0, h1, h2⟩
  clear hi h0 h1 h2
  obtain ⟨i3, hi, h0, h1, h2⟩ := info_parts info3
  have HI3 : Hid (Try.prog.info? 3 = some i3 ∧ i3.zero = some (.int .i64 0) ∧ i3.size = 1 ∧ i3.bytes = 8) := ⟨hi, h0, h1, h2⟩
  clear hi h0 h1 h2
  obtain ⟨i53, hi, h0, h1, h2⟩ := info_parts info53
  have HI53 : Hid (Try.prog.info? 53 = some i53 ∧ i53.zero = some (.agg #[.int .i64 0, .int .i64 0]) ∧ i53.size = 2 ∧ i53.bytes = 16) := ⟨hi, h0, h1, h2⟩
  clear hi h0 h1 h2
  obtain ⟨i56, hi, h0, h1, h2⟩ := info_parts info56
  have HI56 : Hid (Try.prog.info? 56 = some i56 ∧ i56.zero = some (.agg #[.int .i64 0, .int .i64 0, .int .i64 0]) ∧ i56.size = 3 ∧ i56.bytes = 24) := ⟨hi, h0, h1, h2⟩
  clear hi h0 h1 h2
  obtain ⟨i28, hi, h0, h1, h2⟩ := info_parts info28
  have HI28 : Hid (Try.prog.info? 28 = some i28 ∧ i28.zero = some (.agg #[.int .i64 0, .int .i64 0, .slice none 0 0, .string ⟨#[]⟩, .slice none 0 0, .slice none 0 0, .slice none 0 0]) ∧ i28.size = 7 ∧ i28.bytes = 128) := ⟨hi, h0, h1, h2⟩
  clear hi h0 h1 h2
  go_enter Try.func13, Try.ntmps13
  go_upto_region 3 with fail
  go_loopg [3, 4] 1 (fun gl v3 v4 wr => (v4 = .int .i64 0 ∧ v3 = .slice none 0 0 ∧ wr = w ∧ gl = 1) ∨ (v4 = .int .i64 1 ∧ gl = 0 ∧ ∃ g cap, v3 = .slice (some ⟨g, 0, none⟩) 1 cap ∧ ∃ ue ui ut ua, Hid (wr.ownsRow w.heap.size 28 7 (.slice (some ⟨g, 0, none⟩) 1 cap) 1 [.int .i64 r.trm, .int .i64 r.pat, ue, .string r.lit, ui, ut, ua]) ∧ Hid (Owr w.heap.size wr ue ui ut ua r) ∧ Hid (Below w.heap.size w wr)))
  case atStart => exact Or.inl ⟨rfl, rfl, rfl, rfl⟩
  case round =>
    rcases hrel with ⟨rfl, rfl, hwe, hgl⟩ | ⟨rfl, hgl, g, cap, rfl, ue, ui, ut, ua, HO, HW, HB⟩
    · subst hwe
      have HGL : Hid _ := hgl
      clear hgl
      obtain ⟨p0, p1, p2, p3, p4, p5, p6⟩ := box7 HBX.out
      go_upto_region 6 with fail
      clear p0 p1 p2 p3 p4 p5 p6
      obtain ⟨T, hT⟩ : ∃ T, wr.heap.size = T := ⟨_, rfl⟩
      obtain ⟨V0, hV0⟩ : ∃ V0, V0 = wr.alloc (.cells #[.int .i64 r.trm, .int .i64 r.pat, .slice a1 r.re.length c1, .string r.lit, .slice a2 r.inn.length c2, .slice a3 r.tes.length c3, .slice a4 r.act.length c4] 28) := ⟨_, rfl⟩
      have HM : Hid (Tb wr V0 T (.slice a1 r.re.length c1) (.slice a2 r.inn.length c2) (.slice a3 r.tes.length c3) (.slice a4 r.act.length c4) r) := ⟨by rw [hV0, ← hT]; exact heap_new wr _, by rw [hV0]; exact bel_up _ _, by rw [← hT]; exact Nat.le_refl _⟩
      rw [← hV0, hT]
      have HTT : Hid (wr.heap.size = T) := hT
      clear hV0 hT
      have b0 := cell_up (.cells #[] 50) (HM.out.tcell 2 (.slice a1 r.re.length c1) rfl)
      have HRW0 : Hid (Rw V0 (.slice a1 r.re.length c1) r.re.length (flat nf r.re)) := HR.out.e.up HM.out.bw
      go_upto_region 7 with (at_builtin; refine wpList_twin V0 rfl (.tmp 16) (.tmp 18) 23 rfl 50 i50 (.agg #[.int .i64 0, .int .u64 0, .int .u64 0, .int .u64 0, .int .u64 0, .int .i64 0, .int .i64 0]) 7 56 Try.underlying23 HI50.out.1 HI50.out.2.1 HI50.out.2.2.1 HI50.out.2.2.2 rfl (by decide) (.slice a1 r.re.length c1) r.re.length (flat nf r.re) rfl rfl HRW0.out (flat_len nf_len _) (flat_one nf_one _) (by have := HZ.out.e; unfold maxLen; omega) (by have := HZ.out.e; omega) ?_; intro v0 u0 ho0 hg0; obtain ⟨ea0, ma0, rfl⟩ := row_shape ho0; have HO0 : Hid _ := row_base ho0 HM.out.bw.size; have HG0 : Hid _ := hg0; have k0 := (HM.out.up HG0.out).tcell 2 (.slice a1 r.re.length c1) rfl; have f0 := (HM.out.up HG0.out).fr 2; clear ho0 hg0)
      obtain ⟨V1, hV⟩ : ∃ V1, V1 = u0.setCell ⟨T, 2, none⟩ (.slice ea0 r.re.length ma0) := ⟨_, rfl⟩
      rw [← hV]
      have HM' : Hid (Tb wr V1 T (.slice ea0 r.re.length ma0) (.slice a2 r.inn.length c2) (.slice a3 r.tes.length c3) (.slice a4 r.act.length c4) r) := by rw [hV]; exact (HM.out.up HG0.out).set 2 _ (by first | rfl | (simp [rxC]))
      have RW0 : Hid (V1.ownsRow wr.heap.size 50 7 (.slice ea0 r.re.length ma0) r.re.length (flat nf r.re)) := by rw [hV]; exact (HM.out.up HG0.out).row HO0.out (by decide) _ _
      clear hV b0 HRW0 k0 f0 HO0 HG0 HM
      have HM : Hid _ := HM'.out
      clear HM'
      have b1 := cell_up (.cells #[] 3) (HM.out.tcell 4 (.slice a2 r.inn.length c2) rfl)
      have HRW1 : Hid (Rw V1 (.slice a2 r.inn.length c2) r.inn.length (iC r.inn)) := HR.out.i.up HM.out.bw
      go_upto_region 8 with (at_builtin; refine wpList_twin V1 rfl (.tmp 21) (.tmp 23) 24 rfl 3 i3 (.int .i64 0) 1 8 Try.underlying24 HI3.out.1 HI3.out.2.1 HI3.out.2.2.1 HI3.out.2.2.2 rfl (by decide) (.slice a2 r.inn.length c2) r.inn.length (iC r.inn) rfl rfl HRW1.out (iC_len _) (iC_one _) (by have := HZ.out.i; unfold maxLen; omega) (by have := HZ.out.i; omega) ?_; intro v1 u1 ho1 hg1; obtain ⟨ea1, ma1, rfl⟩ := row_shape ho1; have HO1 : Hid _ := row_base ho1 HM.out.bw.size; have HG1 : Hid _ := hg1; have k1 := (HM.out.up HG1.out).tcell 4 (.slice a2 r.inn.length c2) rfl; have f1 := (HM.out.up HG1.out).fr 4; clear ho1 hg1)
      obtain ⟨V2, hV⟩ : ∃ V2, V2 = u1.setCell ⟨T, 4, none⟩ (.slice ea1 r.inn.length ma1) := ⟨_, rfl⟩
      rw [← hV]
      have HM' : Hid (Tb wr V2 T (.slice ea0 r.re.length ma0) (.slice ea1 r.inn.length ma1) (.slice a3 r.tes.length c3) (.slice a4 r.act.length c4) r) := by rw [hV]; exact (HM.out.up HG1.out).set 4 _ (by first | rfl | (simp [rxC]))
      have RW1 : Hid (V2.ownsRow wr.heap.size 3 1 (.slice ea1 r.inn.length ma1) r.inn.length (iC r.inn)) := by rw [hV]; exact (HM.out.up HG1.out).row HO1.out (by decide) _ _
      have RX : Hid (V2.ownsRow wr.heap.size 50 7 (.slice ea0 r.re.length ma0) r.re.length (flat nf r.re)) := by rw [hV]; exact (HM.out.up HG1.out).row (row_up RW0.out HG1.out) (by decide) _ _
      clear RW0
      have RW0 : Hid _ := RX.out
      clear RX
      clear hV b1 HRW1 k1 f1 HO1 HG1 HM
      have HM : Hid _ := HM'.out
      clear HM'
      have b2 := cell_up (.cells #[] 53) (HM.out.tcell 5 (.slice a3 r.tes.length c3) rfl)
      have HRW2 : Hid (Rw V2 (.slice a3 r.tes.length c3) r.tes.length (flat tf r.tes)) := HR.out.t.up HM.out.bw
      go_upto_region 9 with (at_builtin; refine wpList_twin V2 rfl (.tmp 26) (.tmp 28) 25 rfl 53 i53 (.agg #[.int .i64 0, .int .i64 0]) 2 16 Try.underlying25 HI53.out.1 HI53.out.2.1 HI53.out.2.2.1 HI53.out.2.2.2 rfl (by decide) (.slice a3 r.tes.length c3) r.tes.length (flat tf r.tes) rfl rfl HRW2.out (flat_len tf_len _) (flat_one tf_one _) (by have := HZ.out.t; unfold maxLen; omega) (by have := HZ.out.t; omega) ?_; intro v2 u2 ho2 hg2; obtain ⟨ea2, ma2, rfl⟩ := row_shape ho2; have HO2 : Hid _ := row_base ho2 HM.out.bw.size; have HG2 : Hid _ := hg2; have k2 := (HM.out.up HG2.out).tcell 5 (.slice a3 r.tes.length c3) rfl; have f2 := (HM.out.up HG2.out).fr 5; clear ho2 hg2)
      obtain ⟨V3, hV⟩ : ∃ V3, V3 = u2.setCell ⟨T, 5, none⟩ (.slice ea2 r.tes.length ma2) := ⟨_, rfl⟩
      rw [← hV]
      have HM' : Hid (Tb wr V3 T (.slice ea0 r.re.length ma0) (.slice ea1 r.inn.length ma1) (.slice ea2 r.tes.length ma2) (.slice a4 r.act.length c4) r) := by rw [hV]; exact (HM.out.up HG2.out).set 5 _ (by first | rfl | (simp [rxC]))
      have RW2 : Hid (V3.ownsRow wr.heap.size 53 2 (.slice ea2 r.tes.length ma2) r.tes.length (flat tf r.tes)) := by rw [hV]; exact (HM.out.up HG2.out).row HO2.out (by decide) _ _
      have RX : Hid (V3.ownsRow wr.heap.size 50 7 (.slice ea0 r.re.length ma0) r.re.length (flat nf r.re)) := by rw [hV]; exact (HM.out.up HG2.out).row (row_up RW0.out HG2.out) (by decide) _ _
      clear RW0
      have RW0 : Hid _ := RX.out
      clear RX
      have RX : Hid (V3.ownsRow wr.heap.size 3 1 (.slice ea1 r.inn.length ma1) r.inn.length (iC r.inn)) := by rw [hV]; exact (HM.out.up HG2.out).row (row_up RW1.out HG2.out) (by decide) _ _
      clear RW1
      have RW1 : Hid _ := RX.out
      clear RX
      clear hV b2 HRW2 k2 f2 HO2 HG2 HM
      have HM : Hid _ := HM'.out
      clear HM'
      have b3 := cell_up (.cells #[] 56) (HM.out.tcell 6 (.slice a4 r.act.length c4) rfl)
      have HRW3 : Hid (Rw V3 (.slice a4 r.act.length c4) r.act.length (flat af r.act)) := HR.out.a.up HM.out.bw
      go_upto_region 10 with (at_builtin; refine wpList_twin V3 rfl (.tmp 31) (.tmp 33) 26 rfl 56 i56 (.agg #[.int .i64 0, .int .i64 0, .int .i64 0]) 3 24 Try.underlying26 HI56.out.1 HI56.out.2.1 HI56.out.2.2.1 HI56.out.2.2.2 rfl (by decide) (.slice a4 r.act.length c4) r.act.length (flat af r.act) rfl rfl HRW3.out (flat_len af_len _) (flat_one af_one _) (by have := HZ.out.a; unfold maxLen; omega) (by have := HZ.out.a; omega) ?_; intro v3 u3 ho3 hg3; obtain ⟨ea3, ma3, rfl⟩ := row_shape ho3; have HO3 : Hid _ := row_base ho3 HM.out.bw.size; have HG3 : Hid _ := hg3; have k3 := (HM.out.up HG3.out).tcell 6 (.slice a4 r.act.length c4) rfl; have f3 := (HM.out.up HG3.out).fr 6; clear ho3 hg3)
      obtain ⟨V4, hV⟩ : ∃ V4, V4 = u3.setCell ⟨T, 6, none⟩ (.slice ea3 r.act.length ma3) := ⟨_, rfl⟩
      rw [← hV]
      have HM' : Hid (Tb wr V4 T (.slice ea0 r.re.length ma0) (.slice ea1 r.inn.length ma1) (.slice ea2 r.tes.length ma2) (.slice ea3 r.act.length ma3) r) := by rw [hV]; exact (HM.out.up HG3.out).set 6 _ (by first | rfl | (simp [rxC]))
      have RW3 : Hid (V4.ownsRow wr.heap.size 56 3 (.slice ea3 r.act.length ma3) r.act.length (flat af r.act)) := by rw [hV]; exact (HM.out.up HG3.out).row HO3.out (by decide) _ _
      have RX : Hid (V4.ownsRow wr.heap.size 50 7 (.slice ea0 r.re.length ma0) r.re.length (flat nf r.re)) := by rw [hV]; exact (HM.out.up HG3.out).row (row_up RW0.out HG3.out) (by decide) _ _
      clear RW0
      have RW0 : Hid _ := RX.out
      clear RX
      have RX : Hid (V4.ownsRow wr.heap.size 3 1 (.slice ea1 r.inn.length ma1) r.inn.length (iC r.inn)) := by rw [hV]; exact (HM.out.up HG3.out).row (row_up RW1.out HG3.out) (by decide) _ _
      clear RW1
      have RW1 : Hid _ := RX.out
      clear RX
      have RX : Hid (V4.ownsRow wr.heap.size 53 2 (.slice ea2 r.tes.length ma2) r.tes.length (flat tf r.tes)) := by rw [hV]; exact (HM.out.up HG3.out).row (row_up RW2.out HG3.out) (by decide) _ _
      clear RW2
      have RW2 : Hid _ := RX.out
      clear RX
      clear hV b3 HRW3 k3 f3 HO3 HG3 HM
      have HM : Hid _ := HM'.out
      clear HM'
      have s0 := HM.out.tcell 0 (.int .i64 r.trm) rfl
      have s1 := HM.out.tcell 1 (.int .i64 r.pat) rfl
      have s2 := HM.out.tcell 2 (.slice ea0 r.re.length ma0) rfl
      have s3 := HM.out.tcell 3 (.string r.lit) rfl
      have s4 := HM.out.tcell 4 (.slice ea1 r.inn.length ma1) rfl
      have s5 := HM.out.tcell 5 (.slice ea2 r.tes.length ma2) rfl
      have s6 := HM.out.tcell 6 (.slice ea3 r.act.length ma3) rfl
      go_upto_region 4 with (at_builtin; refine wpList_append_lies _ rfl (.tmp 36) (.tmp 38) 37 rfl wr.heap.size 28 i28 (.agg #[.int .i64 0, .int .i64 0, .slice none 0 0, .string ⟨#[]⟩, .slice none 0 0, .slice none 0 0, .slice none 0 0]) 7 128 Try.underlying37 HI28.out.1 HI28.out.2.1 HI28.out.2.2.1 HI28.out.2.2.2 rfl (by decide) (.slice none 0 0) 0 [] rfl (World.ownsRow_nil _ _ _ _) ⟨V4.heap.size, 0, none⟩ 1 1 [.int .i64 r.trm, .int .i64 r.pat, .slice ea0 r.re.length ma0, .string r.lit, .slice ea1 r.inn.length ma1, .slice ea2 r.tes.length ma2, .slice ea3 r.act.length ma3] rfl rfl (cell_seven_new _ _ _ _ _ _ _ _ _) (by simp [Value.oneCell']) (by decide) (by unfold maxLen; omega) (by omega) (Nat.le_trans HM.out.bw.size (bel_up _ _).size) _ rfl ?_; intro g cap w5 ho hg ha hl; have HO : Hid (w5.ownsRow wr.heap.size 28 7 (.slice (some ⟨g, 0, none⟩) 1 cap) 1 [.int .i64 r.trm, .int .i64 r.pat, .slice ea0 r.re.length ma0, .string r.lit, .slice ea1 r.inn.length ma1, .slice ea2 r.tes.length ma2, .slice ea3 r.act.length ma3]) := ho; have HGB : Hid (Below V4.heap.size V4 w5) := below_trans (bel_up _ _) (below_of_grown hg); clear ho hg ha hl)
      have HRS : Hid (Owr wr.heap.size w5 (.slice ea0 r.re.length ma0) (.slice ea1 r.inn.length ma1) (.slice ea2 r.tes.length ma2) (.slice ea3 r.act.length ma3) r) := ⟨row_up RW0.out HGB.out, row_up RW1.out HGB.out, row_up RW2.out HGB.out, row_up RW3.out HGB.out⟩
      clear s0 s1 s2 s3 s4 s5 s6
      go_wp2_with fail
      go_roundg 0
      case measure => have := HGL.out; omega
      case rel => exact Or.inr ⟨rfl, rfl, g, cap, rfl, _, _, _, _, HO, HRS, HM.out.bw.trans (HGB.out.mono HM.out.bw.size)⟩
    · clear hgl
      go_wp2_with fail
      go_ret
      exact ⟨g, cap, ue, ui, ut, ua, rfl, HO.out, HW.out, HB.out⟩
end Go.Proofs.Ytdchopljojlcpaa
