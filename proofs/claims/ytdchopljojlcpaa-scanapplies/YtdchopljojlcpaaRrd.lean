import Derived.Test.YtdchopljojlcpaaRrc
namespace Go.Proofs.Ytdchopljojlcpaa
open Go.RowKit Go.Maps

/-- The box of a state. -/
def bxC (vi vq vf : Value) (s : Stt) : Array Value := #[vi, .int .i64 s.pen, vq, vf, .int .u16 (s.flg : Int)]
/-- roomy under way: the state's box, the result's cell, the new state's box. -/
structure Rmb (w W : World) (T : Nat) (sb : Array Value) (xi xq xf : Value) (s : Stt) : Prop where
  bs : W.heap[w.heap.size]? = some (.cells sb 33 (0, 0))
  bz : W.heap[w.heap.size + 1]? = some (.cells zrC 33 (0, 0))
  bt : W.heap[T]? = some (.cells (bxC xi xq xf s) 33 (0, 0))
  bw : Below w.heap.size w W
  lt : w.heap.size + 2 ≤ T
section
variable {w W W' : World} {T : Nat} {sb : Array Value} {xi xq xf : Value} {s : Stt}
theorem Rmb.up (h : Rmb w W T sb xi xq xf s) (hb : Below W.heap.size W W') : Rmb w W' T sb xi xq xf s :=
  ⟨by rw [hb.block _ (lt_of_heap h.bs)]; exact h.bs, by rw [hb.block _ (lt_of_heap h.bz)]; exact h.bz, by rw [hb.block _ (lt_of_heap h.bt)]; exact h.bt, h.bw.trans (hb.mono h.bw.size), h.lt⟩
theorem Rmb.tcell (h : Rmb w W T sb xi xq xf s) (k : Nat) (v : Value) (hk : (bxC xi xq xf s)[k]? = some v) : W.cell? ⟨T, k, none⟩ = some v := by rw [Lib.cell_of_heap h.bt]; exact hk
theorem Rmb.app {e : TypeId} {size n : Nat} {v : Value} {xs : List Value} {xi' xq' xf' : Value} (h : Rmb w W T sb xi xq xf s) (hr : W.ownsRow w.heap.size e size v n xs) (he : e ≠ 33) (hg : W.grownBy W' v.ownBlock) (k : Nat) (u : Value) (hk : (bxC xi xq xf s).setIfInBounds k u = bxC xi' xq' xf' s) : Rmb w (W'.setCell ⟨T, k, none⟩ u) T sb xi' xq' xf' s := by
  have kb : ∀ {b : Nat} {cs : Array Value}, W.heap[b]? = some (.cells cs 33 (0, 0)) → W'.heap[b]? = some (.cells cs 33 (0, 0)) := fun hb => (hg.block _ (lt_of_heap hb) (fun e' => tag_ne_blk hr hb he e'.symm)).trans hb
  have hlt := h.lt
  refine ⟨?_, ?_, ?_, ?_, h.lt⟩
  · rw [Below.heap_setCell _ _ _ _ (by simp <;> omega)]; exact kb h.bs
  · rw [Below.heap_setCell _ _ _ _ (by simp <;> omega)]; exact kb h.bz
  · rw [blk_set u (kb h.bt), hk]
  · exact (h.bw.grown hg h.bw.size (fun r e' => (row_tag hr r e').1)).trans ((Below.refl _ _).setCell (p := ⟨T, k, none⟩) (by show w.heap.size ≤ T; omega) _)
/-- A row that is not appended to stays. -/
theorem Rmb.row {e e' : TypeId} {size size' n n' : Nat} {v v' u : Value} {xs xs' : List Value} {k : Nat} (h : Rmb w W T sb xi xq xf s) (hr : W.ownsRow w.heap.size e size v n xs) (he : e ≠ 33) (hg : W.grownBy W' v.ownBlock) (hr' : W.ownsRow w.heap.size e' size' v' n' xs') (he' : e' ≠ 33) (hne : e' ≠ e) : (W'.setCell ⟨T, k, none⟩ u).ownsRow w.heap.size e' size' v' n' xs' := by
  have hb : W'.heap[T]? = some (.cells (bxC xi xq xf s) 33 (0, 0)) := (hg.block _ (lt_of_heap h.bt) (fun e' => tag_ne_blk hr h.bt he e'.symm)).trans h.bt
  exact (row_off hb (hr'.kept hg (tag_ne hr' hr hne)) he').1
/-- The row that was appended to. -/
theorem Rmb.got {e : TypeId} {size n n' : Nat} {v v' u : Value} {xs xs' : List Value} {k : Nat} (h : Rmb w W T sb xi xq xf s) (hr : W.ownsRow w.heap.size e size v n xs) (he : e ≠ 33) (hg : W.grownBy W' v.ownBlock) (hr' : W'.ownsRow w.heap.size e size v' n' xs') : (W'.setCell ⟨T, k, none⟩ u).ownsRow w.heap.size e size v' n' xs' := by
  have hb : W'.heap[T]? = some (.cells (bxC xi xq xf s) 33 (0, 0)) := (hg.block _ (lt_of_heap h.bt) (fun e' => tag_ne_blk hr h.bt he e'.symm)).trans h.bt
  exact (row_off hb hr' he).1
end

/-- So many marks. -/
def mks (mk : List Value) : Nat → List Value
  | 0 => []
  | i + 1 => mks mk i ++ mk
theorem mks3 (mk : List Value) : mks mk 3 = mk ++ (mk ++ mk) := by simp [mks, List.append_assoc]
theorem cell_one_new (w : World) (x : Value) (t : TypeId) : ∀ j q, [x][j]? = some q → (w.alloc (.cells #[x] t)).cell? ((⟨w.heap.size, 0, none⟩ : Addr).add j) = some q := by
  intro j u hj
  rw [addPl, Nat.zero_add, Lib.cell_of_heap (heap_new w _)]
  simpa using hj
theorem cell_two_new (w : World) (x y : Value) (t : TypeId) : ∀ j q, [x, y][j]? = some q → (w.alloc (.cells #[x, y] t)).cell? ((⟨w.heap.size, 0, none⟩ : Addr).add j) = some q := by
  intro j u hj
  rw [addPl, Nat.zero_add, Lib.cell_of_heap (heap_new w _)]
  simpa using hj
theorem box5 {W : World} {b : Nat} {x0 x1 x2 x3 x4 : Value} (h : W.heap[b]? = some (.cells #[x0, x1, x2, x3, x4] 33 (0, 0))) : W.cell? ⟨b, 0, none⟩ = some x0 ∧ W.cell? ⟨b, 1, none⟩ = some x1 ∧ W.cell? ⟨b, 2, none⟩ = some x2 ∧ W.cell? ⟨b, 3, none⟩ = some x3 ∧ W.cell? ⟨b, 4, none⟩ = some x4 := ⟨rcell h 0 _ rfl, rcell h 1 _ rfl, rcell h 2 _ rfl, rcell h 3 _ rfl, rcell h 4 _ rfl⟩

set_option maxRecDepth 100000 in
set_option maxHeartbeats 16000000 in
theorem roomy_any {vi vq vf : Value} {s : Stt} (w : World) (h : Stm w vi vq vf s) (l1 : s.ind.length * 8 + 4096 ≤ 140737488355328) (l2 : s.que.length * 16 + 4096 ≤ 140737488355328) (l3 : s.frm.length * 24 + 4096 ≤ 140737488355328) :
    Calls Try.prog 6 #[sv vi vq vf s] w fun e w' => ∃ gi ki gq kq gf kf, e = .returned (sv (.slice (some ⟨gi, 0, none⟩) s.ind.length ki) (.slice (some ⟨gq, 0, none⟩) s.que.length kq) (.slice (some ⟨gf, 0, none⟩) s.frm.length kf) s) ∧ Rms w.heap.size w' gi ki gq kq gf kf s ∧ Below w.heap.size w w' := by
  obtain ⟨a1, c1, a2, c2, a3, c3, rfl, rfl, rfl⟩ := h.form
  obtain ⟨W1, hW1⟩ : ∃ W1, W1 = (w.alloc (.cells #[.slice a1 s.ind.length c1, .int .i64 s.pen, .slice a2 s.que.length c2, .slice a3 s.frm.length c3, .int .u16 (s.flg : Int)] 33)).alloc (.cells #[.slice none 0 0, .int .i64 0, .slice none 0 0, .slice none 0 0, .int .u16 0] 33) := ⟨_, rfl⟩
  have B1 : Hid (Below w.heap.size w W1) := by rw [hW1]; exact below_trans (bel_up _ _) (bel_up _ _)
  have HP1 : Hid (W1.heap[w.heap.size]? = some (.cells #[.slice a1 s.ind.length c1, .int .i64 s.pen, .slice a2 s.que.length c2, .slice a3 s.frm.length c3, .int .u16 (s.flg : Int)] 33 (0, 0))) := by
    rw [hW1, (bel_up _ _).block _ (by simp)]; exact heap_new w _
  have HP2 : Hid (W1.heap[w.heap.size + 1]? = some (.cells #[.slice none 0 0, .int .i64 0, .slice none 0 0, .slice none 0 0, .int .u16 0] 33 (0, 0))) := by
    rw [hW1]
    have := heap_new (w.alloc (.cells #[.slice a1 s.ind.length c1, .int .i64 s.pen, .slice a2 s.que.length c2, .slice a3 s.frm.length c3, .int .u16 (s.flg : Int)] 33)) (.cells #[.slice none 0 0, .int .i64 0, .slice none 0 0, .slice none 0 0, .int .u16 0] 33)
    rw [World.size_alloc] at this
    exact this
  have HSZ : Hid (W1.heap.size = w.heap.size + 2) := by rw [hW1, World.size_alloc, World.size_alloc]; exact rfl
  have HW : Hid (W1 = (w.alloc (.cells #[.slice a1 s.ind.length c1, .int .i64 s.pen, .slice a2 s.que.length c2, .slice a3 s.frm.length c3, .int .u16 (s.flg : Int)] 33)).alloc (.cells #[.slice none 0 0, .int .i64 0, .slice none 0 0, .slice none 0 0, .int .u16 0] 33)) := hW1
  have HS : Hid (Stm W1 (.slice a1 s.ind.length c1) (.slice a2 s.que.length c2) (.slice a3 s.frm.length c3) s) := h.up B1.out
  have HZ : Hid (s.ind.length * 8 + 4096 ≤ 140737488355328 ∧ s.que.length * 16 + 4096 ≤ 140737488355328 ∧ s.frm.length * 24 + 4096 ≤ 140737488355328) := ⟨l1, l2, l3⟩
  obtain ⟨i3, hi3, hx0, hx1, hx2⟩ := info_parts info3
  have HI3 : Hid (Try.prog.info? 3 = some i3 ∧ i3.zero = some (.int .i64 0) ∧ i3.size = 1 ∧ i3.bytes = 8) := ⟨hi3, hx0, hx1, hx2⟩
  obtain ⟨i9, hq3, hy0, hy1, hy2⟩ := info_parts info9
  have HI9 : Hid (Try.prog.info? 9 = some i9 ∧ i9.zero = some (.string ⟨#[]⟩) ∧ i9.size = 1 ∧ i9.bytes = 16) := ⟨hq3, hy0, hy1, hy2⟩
  obtain ⟨i58, hf3, hz0, hz1, hz2⟩ := info_parts info58
  have HI58 : Hid (Try.prog.info? 58 = some i58 ∧ i58.zero = some (.agg #[.int .i64 0, .string ⟨#[]⟩]) ∧ i58.size = 2 ∧ i58.bytes = 24) := ⟨hf3, hz0, hz1, hz2⟩
  clear h hW1 l1 l2 l3 hi3 hx0 hx1 hx2 hq3 hy0 hy1 hy2 hf3 hz0 hz1 hz2
  go_enter Try.func6, Try.ntmps6
  go_upto_region 1 with fail
  rw [← HW.out]
  obtain ⟨p0, p1, p2, p3, p4⟩ := box5 HP1.out
  go_upto_region 3 with (go_at_call 14; refine (twin_any W1 HS.out (by have := HZ.out; omega) (by have := HZ.out; omega) (by have := HZ.out; omega)).mono ?_; rintro e w2 ⟨ui, uq, uf, rfl, ho2, hb2⟩; obtain ⟨x1, y1, rfl⟩ := row_shape ho2.i; obtain ⟨x2, y2, rfl⟩ := row_shape ho2.q; obtain ⟨x3, y3, rfl⟩ := row_shape ho2.f; have HO2 : Hid _ := ho2; have HB2 : Hid _ := hb2; clear ho2 hb2)
  obtain ⟨W2, hW2⟩ : ∃ W2, W2 = w2.alloc (.cells #[.slice x1 s.ind.length y1, .int .i64 s.pen, .slice x2 s.que.length y2, .slice x3 s.frm.length y3, .int .u16 (s.flg : Int)] 33) := ⟨_, rfl⟩
  have B2 : Hid (Below W1.heap.size W1 W2) := by rw [hW2]; exact below_trans HB2.out (bel_up _ _)
  obtain ⟨T, hT⟩ : ∃ T, w2.heap.size = T := ⟨_, rfl⟩
  have HM : Hid (Rmb w W2 T #[.slice a1 s.ind.length c1, .int .i64 s.pen, .slice a2 s.que.length c2, .slice a3 s.frm.length c3, .int .u16 (s.flg : Int)] (.slice x1 s.ind.length y1) (.slice x2 s.que.length y2) (.slice x3 s.frm.length y3) s) := by
    refine ⟨(B2.out.block _ (lt_of_heap HP1.out)).trans HP1.out, (B2.out.block _ (lt_of_heap HP2.out)).trans HP2.out, ?_, below_trans B1.out B2.out, ?_⟩
    · rw [hW2, ← hT]; exact heap_new w2 _
    · rw [← hT, ← HSZ.out]; exact HB2.out.size
  have hbase : w.heap.size ≤ W1.heap.size := B1.out.size
  have RI : Hid (W2.ownsRow w.heap.size 3 1 (.slice x1 s.ind.length y1) s.ind.length (iC s.ind)) := by rw [hW2]; exact row_up (row_base HO2.out.i hbase) (bel_up _ _)
  have RQ : Hid (W2.ownsRow w.heap.size 9 1 (.slice x2 s.que.length y2) s.que.length (qC s.que)) := by rw [hW2]; exact row_up (row_base HO2.out.q hbase) (bel_up _ _)
  have RF : Hid (W2.ownsRow w.heap.size 58 2 (.slice x3 s.frm.length y3) s.frm.length (fC s.frm)) := by rw [hW2]; exact row_up (row_base HO2.out.f hbase) (bel_up _ _)
  rw [← hW2, hT]
  clear hW2 hT hbase p0 p1 p2 p3 p4 HO2 HB2 HS
  go_loopg [4] 3 (fun gl v4 wr => ∃ i : Nat, v4 = .int .i64 (i : Int) ∧ ∃ (n1 n2 n3 : Nat) (xi xq xf : Value), Hid (n1 = s.ind.length + i ∧ n2 = s.que.length + i ∧ n3 = s.frm.length + i) ∧ Hid (Rmb w wr T #[.slice a1 s.ind.length c1, .int .i64 s.pen, .slice a2 s.que.length c2, .slice a3 s.frm.length c3, .int .u16 (s.flg : Int)] xi xq xf s) ∧ Hid (wr.ownsRow w.heap.size 3 1 xi n1 (iC s.ind ++ mks [.int .i64 (-7)] i)) ∧ Hid (wr.ownsRow w.heap.size 9 1 xq n2 (qC s.que ++ mks [.string ⟨#[109, 97, 114, 107]⟩] i)) ∧ Hid (wr.ownsRow w.heap.size 58 2 xf n3 (fC s.frm ++ mks [.int .i64 (-7), .string ⟨#[]⟩] i)) ∧ Hid (i ≤ 3 ∧ gl = 3 - i))
  case atStart =>
    have r1 : W2.ownsRow w.heap.size 3 1 (.slice x1 s.ind.length y1) s.ind.length (iC s.ind ++ mks [.int .i64 (-7)] 0) := by rw [mks, List.append_nil]; exact RI.out
    have r2 : W2.ownsRow w.heap.size 9 1 (.slice x2 s.que.length y2) s.que.length (qC s.que ++ mks [.string ⟨#[109, 97, 114, 107]⟩] 0) := by rw [mks, List.append_nil]; exact RQ.out
    have r3 : W2.ownsRow w.heap.size 58 2 (.slice x3 s.frm.length y3) s.frm.length (fC s.frm ++ mks [.int .i64 (-7), .string ⟨#[]⟩] 0) := by rw [mks, List.append_nil]; exact RF.out
    exact ⟨0, rfl, _, _, _, _, _, _, ⟨rfl, rfl, rfl⟩, HM, r1, r2, r3, ⟨by omega, rfl⟩⟩
  case round =>
    clear HM RI RQ RF
    obtain ⟨i, rfl, n1, n2, n3, xi, xq, xf, HNN, HM, RI, RQ, RF, HI⟩ := hrel
    by_cases hi : i < 3
    · obtain ⟨e1, k1, rfl⟩ := row_shape RI.out
      obtain ⟨e2, k2, rfl⟩ := row_shape RQ.out
      obtain ⟨e3, k3, rfl⟩ := row_shape RF.out
      have q1 : decide ((i : Int) < 3) = true := by rw [decide_eq_true_eq]; omega
      have q2 : decide (i < 3) = true := by rw [decide_eq_true_eq]; omega
      have hwr := w64n i (by omega)
      have HIL : Hid (i < 3) := hi
      clear hi
      have t0 := HM.out.tcell 0 (.slice e1 n1 k1) rfl
      have KB0 : Hid _ := HM.out.up (bel_up _ (.cells #[.int .i64 (-7)] 3))
      have RB0 : Hid _ := row_up RI.out (bel_up _ (.cells #[.int .i64 (-7)] 3))
      go_upto_region 6 with (at_builtin; refine wpList_append_lies _ rfl (.tmp 12) (.tmp 13) 24 rfl w.heap.size 3 i3 (.int .i64 0) 1 8 Try.underlying24 HI3.out.1 HI3.out.2.1 HI3.out.2.2.1 HI3.out.2.2.2 rfl (by decide) (.slice e1 n1 k1) n1 (iC s.ind ++ mks [.int .i64 (-7)] i) rfl RB0.out ⟨wr.heap.size, 0, none⟩ 1 1 [.int .i64 (-7)] rfl rfl (cell_one_new _ _ _) (by simp [Value.oneCell']) (by decide) (by have := HNN.out.1; have := HZ.out.1; have := HIL.out; unfold maxLen; omega) (by have := HNN.out.1; have := HZ.out.1; have := HIL.out; omega) (Nat.le_trans HM.out.bw.size (bel_up _ _).size) _ rfl ?_; intro g0 c0' u0 ho hg ha hl; have HG0 : Hid _ := hg; have HO0 : Hid _ := ho; have s0 : u0.cell? ⟨T, 0, none⟩ = some (.slice e1 n1 k1) := cel_of hg KB0.out.bt RB0.out (by decide) rfl; have f0 : u0.frozen? ⟨T, 0, none⟩ = false := froz_of hg KB0.out.bt RB0.out (by decide); clear ho hg ha hl)
      obtain ⟨V0, hV0⟩ : ∃ V0, V0 = u0.setCell ⟨T, 0, none⟩ (.slice (some ⟨g0, 0, none⟩) (n1 + 1) c0') := ⟨_, rfl⟩
      rw [← hV0]
      have HM' : Hid (Rmb w V0 T #[.slice a1 s.ind.length c1, .int .i64 s.pen, .slice a2 s.que.length c2, .slice a3 s.frm.length c3, .int .u16 (s.flg : Int)] (.slice (some ⟨g0, 0, none⟩) (n1 + 1) c0') (.slice e2 n2 k2) (.slice e3 n3 k3) s) := by rw [hV0]; exact KB0.out.app RB0.out (by decide) HG0.out 0 _ (by first | rfl | (simp [bxC]))
      have RI' : Hid (V0.ownsRow w.heap.size 3 1 (.slice (some ⟨g0, 0, none⟩) (n1 + 1) c0') (n1 + 1) ((iC s.ind ++ mks [.int .i64 (-7)] i) ++ [.int .i64 (-7)])) := by rw [hV0]; exact KB0.out.got RB0.out (by decide) HG0.out HO0.out
      have RQ' : Hid _ := KB0.out.row (k := 0) (u := (.slice (some ⟨g0, 0, none⟩) (n1 + 1) c0')) RB0.out (by decide) HG0.out (row_up RQ.out (bel_up _ (.cells #[.int .i64 (-7)] 3))) (by decide) (by decide)
      rw [← hV0] at RQ'
      have RF' : Hid _ := KB0.out.row (k := 0) (u := (.slice (some ⟨g0, 0, none⟩) (n1 + 1) c0')) RB0.out (by decide) HG0.out (row_up RF.out (bel_up _ (.cells #[.int .i64 (-7)] 3))) (by decide) (by decide)
      rw [← hV0] at RF'
      clear hV0 HM RI RQ RF t0 KB0 RB0 s0 f0 HG0 HO0
      have HM : Hid _ := HM'.out
      clear HM'
      have RI : Hid _ := RI'.out
      clear RI'
      have RQ : Hid _ := RQ'.out
      clear RQ'
      have RF : Hid _ := RF'.out
      clear RF'
      have t1 := HM.out.tcell 2 (.slice e2 n2 k2) rfl
      have KB1 : Hid _ := HM.out.up (bel_up _ (.cells #[.string ⟨#[109, 97, 114, 107]⟩] 9))
      have RB1 : Hid _ := row_up RQ.out (bel_up _ (.cells #[.string ⟨#[109, 97, 114, 107]⟩] 9))
      go_upto_region 7 with (at_builtin; refine wpList_append_lies _ rfl (.tmp 17) (.tmp 18) 29 rfl w.heap.size 9 i9 (.string ⟨#[]⟩) 1 16 Try.underlying29 HI9.out.1 HI9.out.2.1 HI9.out.2.2.1 HI9.out.2.2.2 rfl (by decide) (.slice e2 n2 k2) n2 (qC s.que ++ mks [.string ⟨#[109, 97, 114, 107]⟩] i) rfl RB1.out ⟨V0.heap.size, 0, none⟩ 1 1 [.string ⟨#[109, 97, 114, 107]⟩] rfl rfl (cell_one_new _ _ _) (by simp [Value.oneCell']) (by decide) (by have := HNN.out.2.1; have := HZ.out.2.1; have := HIL.out; unfold maxLen; omega) (by have := HNN.out.2.1; have := HZ.out.2.1; have := HIL.out; omega) (Nat.le_trans HM.out.bw.size (bel_up _ _).size) _ rfl ?_; intro g1 c1' u1 ho hg ha hl; have HG1 : Hid _ := hg; have HO1 : Hid _ := ho; have s1 : u1.cell? ⟨T, 2, none⟩ = some (.slice e2 n2 k2) := cel_of hg KB1.out.bt RB1.out (by decide) rfl; have f1 : u1.frozen? ⟨T, 2, none⟩ = false := froz_of hg KB1.out.bt RB1.out (by decide); clear ho hg ha hl)
      obtain ⟨V1, hV1⟩ : ∃ V1, V1 = u1.setCell ⟨T, 2, none⟩ (.slice (some ⟨g1, 0, none⟩) (n2 + 1) c1') := ⟨_, rfl⟩
      rw [← hV1]
      have HM' : Hid (Rmb w V1 T #[.slice a1 s.ind.length c1, .int .i64 s.pen, .slice a2 s.que.length c2, .slice a3 s.frm.length c3, .int .u16 (s.flg : Int)] (.slice (some ⟨g0, 0, none⟩) (n1 + 1) c0') (.slice (some ⟨g1, 0, none⟩) (n2 + 1) c1') (.slice e3 n3 k3) s) := by rw [hV1]; exact KB1.out.app RB1.out (by decide) HG1.out 2 _ (by first | rfl | (simp [bxC]))
      have RI' : Hid _ := KB1.out.row (k := 2) (u := (.slice (some ⟨g1, 0, none⟩) (n2 + 1) c1')) RB1.out (by decide) HG1.out (row_up RI.out (bel_up _ (.cells #[.string ⟨#[109, 97, 114, 107]⟩] 9))) (by decide) (by decide)
      rw [← hV1] at RI'
      have RQ' : Hid (V1.ownsRow w.heap.size 9 1 (.slice (some ⟨g1, 0, none⟩) (n2 + 1) c1') (n2 + 1) ((qC s.que ++ mks [.string ⟨#[109, 97, 114, 107]⟩] i) ++ [.string ⟨#[109, 97, 114, 107]⟩])) := by rw [hV1]; exact KB1.out.got RB1.out (by decide) HG1.out HO1.out
      have RF' : Hid _ := KB1.out.row (k := 2) (u := (.slice (some ⟨g1, 0, none⟩) (n2 + 1) c1')) RB1.out (by decide) HG1.out (row_up RF.out (bel_up _ (.cells #[.string ⟨#[109, 97, 114, 107]⟩] 9))) (by decide) (by decide)
      rw [← hV1] at RF'
      clear hV1 HM RI RQ RF t1 KB1 RB1 s1 f1 HG1 HO1
      have HM : Hid _ := HM'.out
      clear HM'
      have RI : Hid _ := RI'.out
      clear RI'
      have RQ : Hid _ := RQ'.out
      clear RQ'
      have RF : Hid _ := RF'.out
      clear RF'
      have t2 := HM.out.tcell 3 (.slice e3 n3 k3) rfl
      have KB2 : Hid _ := HM.out.up (bel_up _ (.cells #[.int .i64 (-7), .string ⟨#[]⟩] 58))
      have RB2 : Hid _ := row_up RF.out (bel_up _ (.cells #[.int .i64 (-7), .string ⟨#[]⟩] 58))
      go_upto_region 4 with (at_builtin; refine wpList_append_lies _ rfl (.tmp 22) (.tmp 24) 30 rfl w.heap.size 58 i58 (.agg #[.int .i64 0, .string ⟨#[]⟩]) 2 24 Try.underlying30 HI58.out.1 HI58.out.2.1 HI58.out.2.2.1 HI58.out.2.2.2 rfl (by decide) (.slice e3 n3 k3) n3 (fC s.frm ++ mks [.int .i64 (-7), .string ⟨#[]⟩] i) rfl RB2.out ⟨V1.heap.size, 0, none⟩ 1 1 [.int .i64 (-7), .string ⟨#[]⟩] rfl rfl (cell_two_new _ _ _ _) (by simp [Value.oneCell']) (by decide) (by have := HNN.out.2.2; have := HZ.out.2.2; have := HIL.out; unfold maxLen; omega) (by have := HNN.out.2.2; have := HZ.out.2.2; have := HIL.out; omega) (Nat.le_trans HM.out.bw.size (bel_up _ _).size) _ rfl ?_; intro g2 c2' u2 ho hg ha hl; have HG2 : Hid _ := hg; have HO2 : Hid _ := ho; have s2 : u2.cell? ⟨T, 3, none⟩ = some (.slice e3 n3 k3) := cel_of hg KB2.out.bt RB2.out (by decide) rfl; have f2 : u2.frozen? ⟨T, 3, none⟩ = false := froz_of hg KB2.out.bt RB2.out (by decide); clear ho hg ha hl)
      obtain ⟨V2, hV2⟩ : ∃ V2, V2 = u2.setCell ⟨T, 3, none⟩ (.slice (some ⟨g2, 0, none⟩) (n3 + 1) c2') := ⟨_, rfl⟩
      rw [← hV2]
      have HM' : Hid (Rmb w V2 T #[.slice a1 s.ind.length c1, .int .i64 s.pen, .slice a2 s.que.length c2, .slice a3 s.frm.length c3, .int .u16 (s.flg : Int)] (.slice (some ⟨g0, 0, none⟩) (n1 + 1) c0') (.slice (some ⟨g1, 0, none⟩) (n2 + 1) c1') (.slice (some ⟨g2, 0, none⟩) (n3 + 1) c2') s) := by rw [hV2]; exact KB2.out.app RB2.out (by decide) HG2.out 3 _ (by first | rfl | (simp [bxC]))
      have RI' : Hid _ := KB2.out.row (k := 3) (u := (.slice (some ⟨g2, 0, none⟩) (n3 + 1) c2')) RB2.out (by decide) HG2.out (row_up RI.out (bel_up _ (.cells #[.int .i64 (-7), .string ⟨#[]⟩] 58))) (by decide) (by decide)
      rw [← hV2] at RI'
      have RQ' : Hid _ := KB2.out.row (k := 3) (u := (.slice (some ⟨g2, 0, none⟩) (n3 + 1) c2')) RB2.out (by decide) HG2.out (row_up RQ.out (bel_up _ (.cells #[.int .i64 (-7), .string ⟨#[]⟩] 58))) (by decide) (by decide)
      rw [← hV2] at RQ'
      have RF' : Hid (V2.ownsRow w.heap.size 58 2 (.slice (some ⟨g2, 0, none⟩) (n3 + 1) c2') (n3 + 1) ((fC s.frm ++ mks [.int .i64 (-7), .string ⟨#[]⟩] i) ++ [.int .i64 (-7), .string ⟨#[]⟩])) := by rw [hV2]; exact KB2.out.got RB2.out (by decide) HG2.out HO2.out
      clear hV2 HM RI RQ RF t2 KB2 RB2 s2 f2 HG2 HO2
      have HM : Hid _ := HM'.out
      clear HM'
      have RI : Hid _ := RI'.out
      clear RI'
      have RQ : Hid _ := RQ'.out
      clear RQ'
      have RF : Hid _ := RF'.out
      clear RF'
      rw [List.append_assoc] at RI RQ RF
      go_wp2_with fail
      go_roundg (3 - (i + 1))
      case measure => have := HI.out; have := HIL.out; omega
      case rel => exact ⟨i + 1, by first | rfl | (rw [show (i : Int) + 1 = ((i + 1 : Nat) : Int) by omega]), _, _, _, _, _, _, (show n1 + 1 = s.ind.length + (i + 1) ∧ n2 + 1 = s.que.length + (i + 1) ∧ n3 + 1 = s.frm.length + (i + 1) by have := HNN.out; omega), HM, RI, RQ, RF, ⟨HIL.out, rfl⟩⟩
    · have hi3 : i = 3 := by have := HI.out; omega
      subst hi3
      rw [mks3] at RI RQ RF
      obtain ⟨g1, k1, rfl, _, hk1, _⟩ := row_form RI.out (by have := HNN.out; omega)
      obtain ⟨g2, k2, rfl, _, hk2, _⟩ := row_form RQ.out (by have := HNN.out; omega)
      obtain ⟨g3, k3, rfl, _, hk3, _⟩ := row_form RF.out (by have := HNN.out; omega)
      obtain ⟨m1, hm1⟩ : ∃ m, s.ind.length = m := ⟨_, rfl⟩
      obtain ⟨m2, hm2⟩ : ∃ m, s.que.length = m := ⟨_, rfl⟩
      obtain ⟨m3, hm3⟩ : ∃ m, s.frm.length = m := ⟨_, rfl⟩
      have v1 : m1 ≤ k1 := by have := HNN.out; omega
      have v2 : m2 ≤ k2 := by have := HNN.out; omega
      have v3 : m3 ≤ k3 := by have := HNN.out; omega
      have u1 : (m1 : Int) ≤ (k1 : Int) := by omega
      have u2 : (m2 : Int) ≤ (k2 : Int) := by omega
      have u3 : (m3 : Int) ≤ (k3 : Int) := by omega
      have q1 : decide (((3 : Nat) : Int) < 3) = false := rfl
      obtain ⟨p0, p1, p2, p3, p4⟩ := box5 HM.out.bs
      rw [hm1] at p0
      rw [hm2] at p2
      rw [hm3] at p3
      have t0 := HM.out.tcell 0 (.slice (some ⟨g1, 0, none⟩) n1 k1) rfl
      have t1 := HM.out.tcell 1 (.int .i64 s.pen) rfl
      have t2 := HM.out.tcell 2 (.slice (some ⟨g2, 0, none⟩) n2 k2) rfl
      have t3 := HM.out.tcell 3 (.slice (some ⟨g3, 0, none⟩) n3 k3) rfl
      have t4 := HM.out.tcell 4 (.int .u16 (s.flg : Int)) rfl
      have tf : ∀ q, wr.frozen? ⟨T, q, none⟩ = false := fun q => Lib.frozen_of_heap HM.out.bt q
      have z0 := rcell HM.out.bz 0 (.slice none 0 0) rfl
      have z1 := rcell HM.out.bz 1 (.int .i64 0) rfl
      have z2 := rcell HM.out.bz 2 (.slice none 0 0) rfl
      have z3 := rcell HM.out.bz 3 (.slice none 0 0) rfl
      have z4 := rcell HM.out.bz 4 (.int .u16 0) rfl
      have HLT : Hid (w.heap.size + 2 ≤ T) := HM.out.lt
      have HMM : Hid (s.ind.length = m1 ∧ s.que.length = m2 ∧ s.frm.length = m3) := ⟨hm1, hm2, hm3⟩
      clear hk1 hk2 hk3 hm1 hm2 hm3 hi
      go_upto_region 11 with fail
      obtain ⟨W5, hW5⟩ : ∃ W5, W5 = ((wr.setCell ⟨T, 0, none⟩ (.slice (some ⟨g1, 0, none⟩) m1 k1)).setCell ⟨T, 2, none⟩ (.slice (some ⟨g2, 0, none⟩) m2 k2)).setCell ⟨T, 3, none⟩ (.slice (some ⟨g3, 0, none⟩) m3 k3) := ⟨_, rfl⟩
      rw [← hW5]
      have BT : Hid (W5.heap[T]? = some (.cells #[.slice (some ⟨g1, 0, none⟩) m1 k1, .int .i64 s.pen, .slice (some ⟨g2, 0, none⟩) m2 k2, .slice (some ⟨g3, 0, none⟩) m3 k3, .int .u16 (s.flg : Int)] 33 (0, 0))) := by
        rw [hW5]
        have := blk_set (k := 3) (.slice (some ⟨g3, 0, none⟩) m3 k3) (blk_set (k := 2) (.slice (some ⟨g2, 0, none⟩) m2 k2) (blk_set (k := 0) (.slice (some ⟨g1, 0, none⟩) m1 k1) HM.out.bt))
        simp [bxC] at this
        exact this
      have BZ : Hid (W5.heap[w.heap.size + 1]? = some (.cells #[.slice none 0 0, .int .i64 0, .slice none 0 0, .slice none 0 0, .int .u16 0] 33 (0, 0))) := by
        have hlt := HLT.out
        rw [hW5, Below.heap_setCell _ _ _ _ (by simp <;> omega), Below.heap_setCell _ _ _ _ (by simp <;> omega), Below.heap_setCell _ _ _ _ (by simp <;> omega)]
        exact HM.out.bz
      have h3 : ∀ {e : TypeId} {size n : Nat} {v : Value} {xs : List Value}, wr.ownsRow w.heap.size e size v n xs → e ≠ 33 → W5.ownsRow w.heap.size e size v n xs := fun hr he => by
        rw [hW5]
        have r1 := row_off (k := 0) (u := .slice (some ⟨g1, 0, none⟩) m1 k1) HM.out.bt hr he
        have r2 := row_off (k := 2) (u := .slice (some ⟨g2, 0, none⟩) m2 k2) r1.2 r1.1 he
        exact (row_off (k := 3) (u := .slice (some ⟨g3, 0, none⟩) m3 k3) r2.2 r2.1 he).1
      have BW : Hid (Below w.heap.size w W5) := by
        have hlt := HLT.out
        rw [hW5]
        exact ((HM.out.bw.setCell (p := ⟨T, 0, none⟩) (show w.heap.size ≤ T by omega) _).setCell (p := ⟨T, 2, none⟩) (show w.heap.size ≤ T by omega) _).setCell (p := ⟨T, 3, none⟩) (show w.heap.size ≤ T by omega) _
      have S1 : Hid (W5.ownsRow w.heap.size 3 1 (.slice (some ⟨g1, 0, none⟩) (m1 + 3) k1) (m1 + 3) (iC s.ind ++ ([.int .i64 (-7)] ++ ([.int .i64 (-7)] ++ [.int .i64 (-7)])))) := by
        have h := h3 RI.out (by decide)
        rw [show n1 = m1 + 3 by have := HNN.out; have := HMM.out; omega] at h
        exact h
      have S2 : Hid (W5.ownsRow w.heap.size 9 1 (.slice (some ⟨g2, 0, none⟩) (m2 + 3) k2) (m2 + 3) (qC s.que ++ ([.string ⟨#[109, 97, 114, 107]⟩] ++ ([.string ⟨#[109, 97, 114, 107]⟩] ++ [.string ⟨#[109, 97, 114, 107]⟩])))) := by
        have h := h3 RQ.out (by decide)
        rw [show n2 = m2 + 3 by have := HNN.out; have := HMM.out; omega] at h
        exact h
      have S3 : Hid (W5.ownsRow w.heap.size 58 2 (.slice (some ⟨g3, 0, none⟩) (m3 + 3) k3) (m3 + 3) (fC s.frm ++ ([.int .i64 (-7), .string ⟨#[]⟩] ++ ([.int .i64 (-7), .string ⟨#[]⟩] ++ [.int .i64 (-7), .string ⟨#[]⟩])))) := by
        have h := h3 RF.out (by decide)
        rw [show n3 = m3 + 3 by have := HNN.out; have := HMM.out; omega] at h
        exact h
      clear h3 hW5 t0 t1 t2 t3 t4 tf z0 z1 z2 z3 z4 p0 p1 p2 p3 p4 HM RI RQ RF u1 u2 u3 v1 v2 v3 q1
      obtain ⟨t0, t1, t2, t3, t4⟩ := box5 BT.out
      obtain ⟨z0, z1, z2, z3, z4⟩ := box5 BZ.out
      have rz : ∀ q, W5.frozen? ⟨w.heap.size + 1, q, none⟩ = false := fun q => Lib.frozen_of_heap BZ.out q
      go_wp2_with fail
      (try simp only [Exit.inBlock, Exit.then])
      refine bodyPost_ret (v := sv (.slice (some ⟨g1, 0, none⟩) m1 k1) (.slice (some ⟨g2, 0, none⟩) m2 k2) (.slice (some ⟨g3, 0, none⟩) m3 k3) s) ?_ rfl ⟨g1, k1, g2, k2, g3, k3, ?_, ⟨?_, ?_, ?_⟩, ?_⟩
      · rw [results_cell1 rfl]; go_simp
      · rw [HMM.out.1, HMM.out.2.1, HMM.out.2.2]
      · have h := row_five (v0 := .slice (some ⟨g1, 0, none⟩) m1 k1) (v1 := .int .i64 s.pen) (v2 := .slice (some ⟨g2, 0, none⟩) m2 k2) (v3 := .slice (some ⟨g3, 0, none⟩) m3 k3) (v4 := .int .u16 (s.flg : Int)) BZ.out S1.out (by decide)
        unfold Mk; rw [HMM.out.1]; exact h
      · have h := row_five (v0 := .slice (some ⟨g1, 0, none⟩) m1 k1) (v1 := .int .i64 s.pen) (v2 := .slice (some ⟨g2, 0, none⟩) m2 k2) (v3 := .slice (some ⟨g3, 0, none⟩) m3 k3) (v4 := .int .u16 (s.flg : Int)) BZ.out S2.out (by decide)
        unfold Mk; rw [HMM.out.2.1]; exact h
      · have h := row_five (v0 := .slice (some ⟨g1, 0, none⟩) m1 k1) (v1 := .int .i64 s.pen) (v2 := .slice (some ⟨g2, 0, none⟩) m2 k2) (v3 := .slice (some ⟨g3, 0, none⟩) m3 k3) (v4 := .int .u16 (s.flg : Int)) BZ.out S3.out (by decide)
        unfold Mk; rw [HMM.out.2.2]; exact h
      · exact bel_five BW.out (by omega)
end Go.Proofs.Ytdchopljojlcpaa
