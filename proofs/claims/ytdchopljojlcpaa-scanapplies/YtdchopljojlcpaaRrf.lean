import Derived.Test.YtdchopljojlcpaaRre
namespace Go.Proofs.Ytdchopljojlcpaa
open Go.RowKit Go.Maps

theorem cell_three_new (w : World) (x0 x1 x2 : Value) (t : TypeId) : ∀ j q, [x0, x1, x2][j]? = some q → (w.alloc (.cells #[x0, x1, x2] t)).cell? ((⟨w.heap.size, 0, none⟩ : Addr).add j) = some q := by
  intro j u hj
  rw [addPl, Nat.zero_add, Lib.cell_of_heap (heap_new w _)]
  simpa using hj
/-- The seven cells of a rule written. -/
@[reducible] def seven (W : World) (b : Nat) (v0 v1 v2 v3 v4 v5 v6 : Value) : World := ((((((W.setCell ⟨b, 0, none⟩ v0).setCell ⟨b, 1, none⟩ v1).setCell ⟨b, 2, none⟩ v2).setCell ⟨b, 3, none⟩ v3).setCell ⟨b, 4, none⟩ v4).setCell ⟨b, 5, none⟩ v5).setCell ⟨b, 6, none⟩ v6
theorem row_seven {W : World} {B b : Nat} {e t : TypeId} {size n : Nat} {v v0 v1 v2 v3 v4 v5 v6 : Value} {xs : List Value} {cs : Array Value} (hb : W.heap[b]? = some (.cells cs t (0, 0))) (h : W.ownsRow B e size v n xs) (he : e ≠ t) : (seven W b v0 v1 v2 v3 v4 v5 v6).ownsRow B e size v n xs := by
  obtain ⟨h1, b1⟩ := row_off (k := 0) (u := v0) hb h he
  obtain ⟨h2, b2⟩ := row_off (k := 1) (u := v1) b1 h1 he
  obtain ⟨h3, b3⟩ := row_off (k := 2) (u := v2) b2 h2 he
  obtain ⟨h4, b4⟩ := row_off (k := 3) (u := v3) b3 h3 he
  obtain ⟨h5, b5⟩ := row_off (k := 4) (u := v4) b4 h4 he
  obtain ⟨h6, b6⟩ := row_off (k := 5) (u := v5) b5 h5 he
  exact (row_off (k := 6) (u := v6) b6 h6 he).1
theorem bel_seven {w W : World} {b : Nat} {v0 v1 v2 v3 v4 v5 v6 : Value} (h : Below w.heap.size w W) (hb : w.heap.size ≤ b) : Below w.heap.size w (seven W b v0 v1 v2 v3 v4 v5 v6) :=
  ((((((h.setCell (p := ⟨b, 0, none⟩) hb _).setCell (p := ⟨b, 1, none⟩) hb _).setCell (p := ⟨b, 2, none⟩) hb _).setCell (p := ⟨b, 3, none⟩) hb _).setCell (p := ⟨b, 4, none⟩) hb _).setCell (p := ⟨b, 5, none⟩) hb _).setCell (p := ⟨b, 6, none⟩) hb _
/-- The argument's box and the result's. -/
structure Ab (W : World) (P : Nat) (cs : Array Value) : Prop where
  bs : W.heap[P]? = some (.cells cs 28 (0, 0))
  bz : W.heap[P + 1]? = some (.cells #[.int .i64 0, .int .i64 0, .slice none 0 0, .string ⟨#[]⟩, .slice none 0 0, .slice none 0 0, .slice none 0 0] 28 (0, 0))
theorem Ab.up {W W' : World} {P : Nat} {cs : Array Value} (h : Ab W P cs) (hb : Below W.heap.size W W') : Ab W' P cs := ⟨(hb.block _ (lt_of_heap h.bs)).trans h.bs, (hb.block _ (lt_of_heap h.bz)).trans h.bz⟩
theorem Ab.app {W W' : World} {P T k B : Nat} {cs : Array Value} {e : TypeId} {size n : Nat} {v u : Value} {xs : List Value} (h : Ab W P cs) (hr : W.ownsRow B e size v n xs) (he : e ≠ 28) (hg : W.grownBy W' v.ownBlock) (hT : P + 2 ≤ T) : Ab (W'.setCell ⟨T, k, none⟩ u) P cs := by
  refine ⟨?_, ?_⟩
  · rw [Below.heap_setCell _ _ _ _ (by simp <;> omega)]; exact (hg.block _ (lt_of_heap h.bs) (fun e' => tag_ne_blk hr h.bs he e'.symm)).trans h.bs
  · rw [Below.heap_setCell _ _ _ _ (by simp <;> omega)]; exact (hg.block _ (lt_of_heap h.bz) (fun e' => tag_ne_blk hr h.bz he e'.symm)).trans h.bz
theorem Ab.set {W : World} {P T k : Nat} {cs : Array Value} {u : Value} (h : Ab W P cs) (hT : P + 2 ≤ T) : Ab (W.setCell ⟨T, k, none⟩ u) P cs := by
  refine ⟨?_, ?_⟩
  · rw [Below.heap_setCell _ _ _ _ (by simp <;> omega)]; exact h.bs
  · rw [Below.heap_setCell _ _ _ _ (by simp <;> omega)]; exact h.bz

set_option maxRecDepth 100000 in
set_option maxHeartbeats 16000000 in
theorem roomyRule_any {ve vi vt va : Value} {r : Rul} (w : World) (h : Rlm w ve vi vt va r) (hz : Rsz r) :
    Calls Try.prog 5 #[rv ve vi vt va r] w fun e w' => ∃ ge ke gi ki gt kt ga ka, e = .returned (rv (.slice (some ⟨ge, 0, none⟩) r.re.length ke) (.slice (some ⟨gi, 0, none⟩) r.inn.length ki) (.slice (some ⟨gt, 0, none⟩) r.tes.length kt) (.slice (some ⟨ga, 0, none⟩) r.act.length ka) r) ∧ Rmr w.heap.size w' ge ke gi ki gt kt ga ka r ∧ Below w.heap.size w w' := by
  obtain ⟨a1, c1, a2, c2, a3, c3, a4, c4, rfl, rfl, rfl, rfl⟩ := h.form
  obtain ⟨W1, hW1⟩ : ∃ W1, W1 = (w.alloc (.cells #[.int .i64 r.trm, .int .i64 r.pat, .slice a1 r.re.length c1, .string r.lit, .slice a2 r.inn.length c2, .slice a3 r.tes.length c3, .slice a4 r.act.length c4] 28)).alloc (.cells #[.int .i64 0, .int .i64 0, .slice none 0 0, .string ⟨#[]⟩, .slice none 0 0, .slice none 0 0, .slice none 0 0] 28) := ⟨_, rfl⟩
  have B1 : Hid (Below w.heap.size w W1) := by rw [hW1]; exact below_trans (bel_up _ _) (bel_up _ _)
  have HP : Hid (Ab W1 w.heap.size #[.int .i64 r.trm, .int .i64 r.pat, .slice a1 r.re.length c1, .string r.lit, .slice a2 r.inn.length c2, .slice a3 r.tes.length c3, .slice a4 r.act.length c4]) := by
    refine ⟨?_, ?_⟩
    · rw [hW1, (bel_up _ _).block _ (by simp)]; exact heap_new w _
    · rw [hW1]
      have := heap_new (w.alloc (.cells #[.int .i64 r.trm, .int .i64 r.pat, .slice a1 r.re.length c1, .string r.lit, .slice a2 r.inn.length c2, .slice a3 r.tes.length c3, .slice a4 r.act.length c4] 28)) (.cells #[.int .i64 0, .int .i64 0, .slice none 0 0, .string ⟨#[]⟩, .slice none 0 0, .slice none 0 0, .slice none 0 0] 28)
      rw [World.size_alloc] at this
      exact this
  have HSZ : Hid (W1.heap.size = w.heap.size + 2) := by rw [hW1, World.size_alloc, World.size_alloc]; exact rfl
  have HW : Hid (W1 = (w.alloc (.cells #[.int .i64 r.trm, .int .i64 r.pat, .slice a1 r.re.length c1, .string r.lit, .slice a2 r.inn.length c2, .slice a3 r.tes.length c3, .slice a4 r.act.length c4] 28)).alloc (.cells #[.int .i64 0, .int .i64 0, .slice none 0 0, .string ⟨#[]⟩, .slice none 0 0, .slice none 0 0, .slice none 0 0] 28)) := hW1
  have HR : Hid (Rlm W1 (.slice a1 r.re.length c1) (.slice a2 r.inn.length c2) (.slice a3 r.tes.length c3) (.slice a4 r.act.length c4) r) := h.up B1.out
  have HZ : Hid _ := hz
  clear h hW1 hz
  obtain ⟨i50, hi, h0, h1, h2⟩ := info_parts info50
  have HI50 : Hid (Try.prog.info? 50 = some i50 ∧ i50.zero = some (.agg #[.int .i64 0, .int .u64 0, .int .u64 0, .int .u64 0, .int .u64 0, .int .i64 0, .int .i64 0]) ∧ i50.size = 7 ∧ i50.bytes = 56) := ⟨hi, h0, h1, h2⟩
  clear hi h0 h1 h2
  obtain ⟨i3, hi, h0, h1, h2⟩ := info_parts info3
  have HI3 : Hid (Try.prog.info? 3 = some i3 ∧ i3.zero = some (.int .i64 0) ∧ i3.size = 1 ∧ i3.bytes = 8) := ⟨hi, h0, h1, h2⟩
  clear hi h0 h1 h2
  obtain ⟨i53, hi, h0, h1, h2⟩ := info_parts info53
  have HI53 : Hid (Try.prog.info? 53 = some i53 ∧ i53.zero = some (.agg #[.int .i64 0, .int .i64 0]) ∧ i53.size = 2 ∧ i53.bytes = 16) := ⟨hi, h0, h1, h2⟩
  clear hi h0 h1 h2
  obtain ⟨i56, hi, h0, h1, h2⟩ := info_parts info56
  have HI56 : Hid (Try.prog.info? 56 = some i56 ∧ i56.zero = some (.agg #[.int .i64 0, .int .i64 0, .int .i64 0]) ∧ i56.size = 3 ∧ i56.bytes = 24) := ⟨hi, h0, h1, h2⟩
  clear hi h0 h1 h2
  go_enter Try.func5, Try.ntmps5
  go_upto_region 1 with fail
  rw [← HW.out]
  obtain ⟨p0, p1, p2, p3, p4, p5, p6⟩ := box7 HP.out.bs
  obtain ⟨WH, hWH⟩ : ∃ WH, WH = W1.alloc (.cells #[.int .i64 r.trm, .int .i64 r.pat, .slice a1 r.re.length c1, .string r.lit, .slice a2 r.inn.length c2, .slice a3 r.tes.length c3, .slice a4 r.act.length c4] 28) := ⟨_, rfl⟩
  have HWH : Hid (WH = W1.alloc (.cells #[.int .i64 r.trm, .int .i64 r.pat, .slice a1 r.re.length c1, .string r.lit, .slice a2 r.inn.length c2, .slice a3 r.tes.length c3, .slice a4 r.act.length c4] 28)) := hWH
  have HH : Hid (WH.heap[W1.heap.size]? = some (.cells #[.int .i64 r.trm, .int .i64 r.pat, .slice a1 r.re.length c1, .string r.lit, .slice a2 r.inn.length c2, .slice a3 r.tes.length c3, .slice a4 r.act.length c4] 28 (0, 0))) := by rw [hWH]; exact heap_new W1 _
  have BH : Hid (Below W1.heap.size W1 WH) := by rw [hWH]; exact bel_up _ _
  clear hWH
  go_upto_region 3 with (go_at_call 13; rw [← HWH.out]; refine (twinRules_any WH (HR.out.up BH.out) HH.out HZ.out).mono ?_; rintro e w2 ⟨gx, cx, ue, ui, ut, ua, rfl, hx2, ho2, hb2⟩; obtain ⟨x1, y1, rfl⟩ := row_shape ho2.e; obtain ⟨x2, y2, rfl⟩ := row_shape ho2.i; obtain ⟨x3, y3, rfl⟩ := row_shape ho2.t; obtain ⟨x4, y4, rfl⟩ := row_shape ho2.a; have x0c := row_at hx2 0 _ rfl; have x1c := row_at hx2 1 _ rfl; have x2c := row_at hx2 2 _ rfl; have x3c := row_at hx2 3 _ rfl; have x4c := row_at hx2 4 _ rfl; have x5c := row_at hx2 5 _ rfl; have x6c := row_at hx2 6 _ rfl; have HO2 : Hid _ := ho2; have HB2 : Hid (Below W1.heap.size W1 w2) := below_trans BH.out hb2; have HBL : Hid _ := BH.out.size; clear ho2 hb2 hx2)
  obtain ⟨W2, hW2⟩ : ∃ W2, W2 = w2.alloc (.cells #[.int .i64 r.trm, .int .i64 r.pat, .slice x1 r.re.length y1, .string r.lit, .slice x2 r.inn.length y2, .slice x3 r.tes.length y3, .slice x4 r.act.length y4] 28) := ⟨_, rfl⟩
  have B2 : Hid (Below W1.heap.size W1 W2) := by rw [hW2]; exact below_trans HB2.out (bel_up _ _)
  obtain ⟨T, hT⟩ : ∃ T, w2.heap.size = T := ⟨_, rfl⟩
  have HM : Hid (Tb w W2 T (.slice x1 r.re.length y1) (.slice x2 r.inn.length y2) (.slice x3 r.tes.length y3) (.slice x4 r.act.length y4) r) := by
    refine ⟨?_, below_trans B1.out B2.out, ?_⟩
    · rw [hW2, ← hT]; exact heap_new w2 _
    · rw [← hT]; have := HB2.out.size; have := HSZ.out; omega
  have HLT : Hid (w.heap.size + 2 ≤ T) := by rw [← hT, ← HSZ.out]; exact HB2.out.size
  have HA : Hid (Ab W2 w.heap.size #[.int .i64 r.trm, .int .i64 r.pat, .slice a1 r.re.length c1, .string r.lit, .slice a2 r.inn.length c2, .slice a3 r.tes.length c3, .slice a4 r.act.length c4]) := HP.out.up B2.out
  have hbase : w.heap.size ≤ WH.heap.size := Nat.le_trans B1.out.size HBL.out
  have RE : Hid (W2.ownsRow w.heap.size 50 7 (.slice x1 r.re.length y1) r.re.length (flat nf r.re)) := by rw [hW2]; exact row_up (row_base HO2.out.e hbase) (bel_up _ _)
  have RI : Hid (W2.ownsRow w.heap.size 3 1 (.slice x2 r.inn.length y2) r.inn.length (iC r.inn)) := by rw [hW2]; exact row_up (row_base HO2.out.i hbase) (bel_up _ _)
  have RT : Hid (W2.ownsRow w.heap.size 53 2 (.slice x3 r.tes.length y3) r.tes.length (flat tf r.tes)) := by rw [hW2]; exact row_up (row_base HO2.out.t hbase) (bel_up _ _)
  have RA : Hid (W2.ownsRow w.heap.size 56 3 (.slice x4 r.act.length y4) r.act.length (flat af r.act)) := by rw [hW2]; exact row_up (row_base HO2.out.a hbase) (bel_up _ _)
  rw [← hW2, hT]
  clear hW2 hT hbase p0 p1 p2 p3 p4 p5 p6 HO2 HB2 HR HP x0c x1c x2c x3c x4c x5c x6c HH BH HBL
  go_loopg [4] 3 (fun gl v4 wr => ∃ i : Nat, v4 = .int .i64 (i : Int) ∧ ∃ (n0 n1 n2 n3 : Nat) (z0 z1 z2 z3 : Value), Hid (n0 = r.re.length + i ∧ n1 = r.inn.length + i ∧ n2 = r.tes.length + i ∧ n3 = r.act.length + i) ∧ Hid (Tb w wr T z0 z1 z2 z3 r) ∧ Hid (Ab wr w.heap.size #[.int .i64 r.trm, .int .i64 r.pat, .slice a1 r.re.length c1, .string r.lit, .slice a2 r.inn.length c2, .slice a3 r.tes.length c3, .slice a4 r.act.length c4]) ∧ Hid (wr.ownsRow w.heap.size 50 7 z0 n0 (flat nf r.re ++ mks (nf (0, 0, 0, 0, 0, -7, 0)) i)) ∧ Hid (wr.ownsRow w.heap.size 3 1 z1 n1 (iC r.inn ++ mks ([.int .i64 (-7)]) i)) ∧ Hid (wr.ownsRow w.heap.size 53 2 z2 n2 (flat tf r.tes ++ mks (tf (0, -7)) i)) ∧ Hid (wr.ownsRow w.heap.size 56 3 z3 n3 (flat af r.act ++ mks (af (0, -7, 0)) i)) ∧ Hid (i ≤ 3 ∧ gl = 3 - i))
  case atStart =>
    have r0 : W2.ownsRow w.heap.size 50 7 (.slice x1 r.re.length y1) r.re.length (flat nf r.re ++ mks (nf (0, 0, 0, 0, 0, -7, 0)) 0) := by rw [mks, List.append_nil]; exact RE.out
    have r1 : W2.ownsRow w.heap.size 3 1 (.slice x2 r.inn.length y2) r.inn.length (iC r.inn ++ mks ([.int .i64 (-7)]) 0) := by rw [mks, List.append_nil]; exact RI.out
    have r2 : W2.ownsRow w.heap.size 53 2 (.slice x3 r.tes.length y3) r.tes.length (flat tf r.tes ++ mks (tf (0, -7)) 0) := by rw [mks, List.append_nil]; exact RT.out
    have r3 : W2.ownsRow w.heap.size 56 3 (.slice x4 r.act.length y4) r.act.length (flat af r.act ++ mks (af (0, -7, 0)) 0) := by rw [mks, List.append_nil]; exact RA.out
    exact ⟨0, rfl, _, _, _, _, _, _, _, _, ⟨rfl, rfl, rfl, rfl⟩, HM, HA, r0, r1, r2, r3, ⟨by omega, rfl⟩⟩
  case round =>
    clear HM HA RE RI RT RA
    obtain ⟨i, rfl, n0, n1, n2, n3, z0, z1, z2, z3, HNN, HM, HA, RE, RI, RT, RA, HI⟩ := hrel
    by_cases hi : i < 3
    · obtain ⟨e0, k0, rfl⟩ := row_shape RE.out
      obtain ⟨e1, k1, rfl⟩ := row_shape RI.out
      obtain ⟨e2, k2, rfl⟩ := row_shape RT.out
      obtain ⟨e3, k3, rfl⟩ := row_shape RA.out
      have q1 : decide ((i : Int) < 3) = true := by rw [decide_eq_true_eq]; omega
      have q2 : decide (i < 3) = true := by rw [decide_eq_true_eq]; omega
      have hwr := w64n i (by omega)
      have HIL : Hid (i < 3) := hi
      clear hi
      have t0 := HM.out.tcell 2 (.slice e0 n0 k0) rfl
      have KB0 : Hid _ := HM.out.up (bel_up _ (.cells #[.int .i64 0, .int .u64 0, .int .u64 0, .int .u64 0, .int .u64 0, .int .i64 (-7), .int .i64 0] 50))
      have AB0 : Hid _ := HA.out.up (bel_up _ (.cells #[.int .i64 0, .int .u64 0, .int .u64 0, .int .u64 0, .int .u64 0, .int .i64 (-7), .int .i64 0] 50))
      have RB0 : Hid _ := row_up RE.out (bel_up _ (.cells #[.int .i64 0, .int .u64 0, .int .u64 0, .int .u64 0, .int .u64 0, .int .i64 (-7), .int .i64 0] 50))
      go_upto_region 6 with (at_builtin; refine wpList_append_lies _ rfl (.tmp 15) (.tmp 17) 23 rfl w.heap.size 50 i50 (.agg #[.int .i64 0, .int .u64 0, .int .u64 0, .int .u64 0, .int .u64 0, .int .i64 0, .int .i64 0]) 7 56 Try.underlying23 HI50.out.1 HI50.out.2.1 HI50.out.2.2.1 HI50.out.2.2.2 rfl (by decide) (.slice e0 n0 k0) n0 (flat nf r.re ++ mks (nf (0, 0, 0, 0, 0, -7, 0)) i) rfl RB0.out ⟨wr.heap.size, 0, none⟩ 1 1 (nf (0, 0, 0, 0, 0, -7, 0)) rfl rfl (cell_seven_new _ _ _ _ _ _ _ _ _) (nf_one _) (by decide) (by have := HNN.out.1; have := HZ.out.e; have := HIL.out; unfold maxLen; omega) (by have := HNN.out.1; have := HZ.out.e; have := HIL.out; omega) (Nat.le_trans HM.out.bw.size (bel_up _ _).size) _ rfl ?_; intro g0 c0' u0 ho hg ha hl; have HG0 : Hid _ := hg; have HO0 : Hid _ := ho; have s0 : u0.cell? ⟨T, 2, none⟩ = some (.slice e0 n0 k0) := cel_of hg KB0.out.bt RB0.out (by decide) rfl; have f0 : u0.frozen? ⟨T, 2, none⟩ = false := froz_of hg KB0.out.bt RB0.out (by decide); clear ho hg ha hl)
      obtain ⟨V0, hV⟩ : ∃ V0, V0 = u0.setCell ⟨T, 2, none⟩ (.slice (some ⟨g0, 0, none⟩) (n0 + 1) c0') := ⟨_, rfl⟩
      rw [← hV]
      have HM' : Hid (Tb w V0 T (.slice (some ⟨g0, 0, none⟩) (n0 + 1) c0') (.slice e1 n1 k1) (.slice e2 n2 k2) (.slice e3 n3 k3) r) := by rw [hV]; exact KB0.out.app RB0.out (by decide) HG0.out 2 _ (by first | rfl | (simp [rxC]))
      have HA' : Hid (Ab V0 w.heap.size #[.int .i64 r.trm, .int .i64 r.pat, .slice a1 r.re.length c1, .string r.lit, .slice a2 r.inn.length c2, .slice a3 r.tes.length c3, .slice a4 r.act.length c4]) := by rw [hV]; exact AB0.out.app RB0.out (by decide) HG0.out HLT.out
      have RE' : Hid (V0.ownsRow w.heap.size 50 7 (.slice (some ⟨g0, 0, none⟩) (n0 + 1) c0') (n0 + 1) ((flat nf r.re ++ mks (nf (0, 0, 0, 0, 0, -7, 0)) i) ++ (nf (0, 0, 0, 0, 0, -7, 0)))) := by rw [hV]; exact KB0.out.got RB0.out (by decide) HG0.out HO0.out
      have RI' : Hid _ := KB0.out.other (k := 2) (u := (.slice (some ⟨g0, 0, none⟩) (n0 + 1) c0')) RB0.out (by decide) HG0.out (row_up RI.out (bel_up _ (.cells #[.int .i64 0, .int .u64 0, .int .u64 0, .int .u64 0, .int .u64 0, .int .i64 (-7), .int .i64 0] 50))) (by decide) (by decide)
      rw [← hV] at RI'
      have RT' : Hid _ := KB0.out.other (k := 2) (u := (.slice (some ⟨g0, 0, none⟩) (n0 + 1) c0')) RB0.out (by decide) HG0.out (row_up RT.out (bel_up _ (.cells #[.int .i64 0, .int .u64 0, .int .u64 0, .int .u64 0, .int .u64 0, .int .i64 (-7), .int .i64 0] 50))) (by decide) (by decide)
      rw [← hV] at RT'
      have RA' : Hid _ := KB0.out.other (k := 2) (u := (.slice (some ⟨g0, 0, none⟩) (n0 + 1) c0')) RB0.out (by decide) HG0.out (row_up RA.out (bel_up _ (.cells #[.int .i64 0, .int .u64 0, .int .u64 0, .int .u64 0, .int .u64 0, .int .i64 (-7), .int .i64 0] 50))) (by decide) (by decide)
      rw [← hV] at RA'
      clear hV HM HA RE RI RT RA t0 KB0 AB0 RB0 s0 f0 HG0 HO0
      have HM : Hid _ := HM'.out
      clear HM'
      have HA : Hid _ := HA'.out
      clear HA'
      have RE : Hid _ := RE'.out
      clear RE'
      have RI : Hid _ := RI'.out
      clear RI'
      have RT : Hid _ := RT'.out
      clear RT'
      have RA : Hid _ := RA'.out
      clear RA'
      have t1 := HM.out.tcell 4 (.slice e1 n1 k1) rfl
      have KB1 : Hid _ := HM.out.up (bel_up _ (.cells #[.int .i64 (-7)] 3))
      have AB1 : Hid _ := HA.out.up (bel_up _ (.cells #[.int .i64 (-7)] 3))
      have RB1 : Hid _ := row_up RI.out (bel_up _ (.cells #[.int .i64 (-7)] 3))
      go_upto_region 7 with (at_builtin; refine wpList_append_lies _ rfl (.tmp 21) (.tmp 22) 24 rfl w.heap.size 3 i3 (.int .i64 0) 1 8 Try.underlying24 HI3.out.1 HI3.out.2.1 HI3.out.2.2.1 HI3.out.2.2.2 rfl (by decide) (.slice e1 n1 k1) n1 (iC r.inn ++ mks ([.int .i64 (-7)]) i) rfl RB1.out ⟨V0.heap.size, 0, none⟩ 1 1 ([.int .i64 (-7)]) rfl rfl (cell_one_new _ _ _) (by simp [Value.oneCell']) (by decide) (by have := HNN.out.2.1; have := HZ.out.i; have := HIL.out; unfold maxLen; omega) (by have := HNN.out.2.1; have := HZ.out.i; have := HIL.out; omega) (Nat.le_trans HM.out.bw.size (bel_up _ _).size) _ rfl ?_; intro g1 c1' u1 ho hg ha hl; have HG1 : Hid _ := hg; have HO1 : Hid _ := ho; have s1 : u1.cell? ⟨T, 4, none⟩ = some (.slice e1 n1 k1) := cel_of hg KB1.out.bt RB1.out (by decide) rfl; have f1 : u1.frozen? ⟨T, 4, none⟩ = false := froz_of hg KB1.out.bt RB1.out (by decide); clear ho hg ha hl)
      obtain ⟨V1, hV⟩ : ∃ V1, V1 = u1.setCell ⟨T, 4, none⟩ (.slice (some ⟨g1, 0, none⟩) (n1 + 1) c1') := ⟨_, rfl⟩
      rw [← hV]
      have HM' : Hid (Tb w V1 T (.slice (some ⟨g0, 0, none⟩) (n0 + 1) c0') (.slice (some ⟨g1, 0, none⟩) (n1 + 1) c1') (.slice e2 n2 k2) (.slice e3 n3 k3) r) := by rw [hV]; exact KB1.out.app RB1.out (by decide) HG1.out 4 _ (by first | rfl | (simp [rxC]))
      have HA' : Hid (Ab V1 w.heap.size #[.int .i64 r.trm, .int .i64 r.pat, .slice a1 r.re.length c1, .string r.lit, .slice a2 r.inn.length c2, .slice a3 r.tes.length c3, .slice a4 r.act.length c4]) := by rw [hV]; exact AB1.out.app RB1.out (by decide) HG1.out HLT.out
      have RE' : Hid _ := KB1.out.other (k := 4) (u := (.slice (some ⟨g1, 0, none⟩) (n1 + 1) c1')) RB1.out (by decide) HG1.out (row_up RE.out (bel_up _ (.cells #[.int .i64 (-7)] 3))) (by decide) (by decide)
      rw [← hV] at RE'
      have RI' : Hid (V1.ownsRow w.heap.size 3 1 (.slice (some ⟨g1, 0, none⟩) (n1 + 1) c1') (n1 + 1) ((iC r.inn ++ mks ([.int .i64 (-7)]) i) ++ ([.int .i64 (-7)]))) := by rw [hV]; exact KB1.out.got RB1.out (by decide) HG1.out HO1.out
      have RT' : Hid _ := KB1.out.other (k := 4) (u := (.slice (some ⟨g1, 0, none⟩) (n1 + 1) c1')) RB1.out (by decide) HG1.out (row_up RT.out (bel_up _ (.cells #[.int .i64 (-7)] 3))) (by decide) (by decide)
      rw [← hV] at RT'
      have RA' : Hid _ := KB1.out.other (k := 4) (u := (.slice (some ⟨g1, 0, none⟩) (n1 + 1) c1')) RB1.out (by decide) HG1.out (row_up RA.out (bel_up _ (.cells #[.int .i64 (-7)] 3))) (by decide) (by decide)
      rw [← hV] at RA'
      clear hV HM HA RE RI RT RA t1 KB1 AB1 RB1 s1 f1 HG1 HO1
      have HM : Hid _ := HM'.out
      clear HM'
      have HA : Hid _ := HA'.out
      clear HA'
      have RE : Hid _ := RE'.out
      clear RE'
      have RI : Hid _ := RI'.out
      clear RI'
      have RT : Hid _ := RT'.out
      clear RT'
      have RA : Hid _ := RA'.out
      clear RA'
      have t2 := HM.out.tcell 5 (.slice e2 n2 k2) rfl
      have KB2 : Hid _ := HM.out.up (bel_up _ (.cells #[.int .i64 0, .int .i64 (-7)] 53))
      have AB2 : Hid _ := HA.out.up (bel_up _ (.cells #[.int .i64 0, .int .i64 (-7)] 53))
      have RB2 : Hid _ := row_up RT.out (bel_up _ (.cells #[.int .i64 0, .int .i64 (-7)] 53))
      go_upto_region 8 with (at_builtin; refine wpList_append_lies _ rfl (.tmp 26) (.tmp 28) 25 rfl w.heap.size 53 i53 (.agg #[.int .i64 0, .int .i64 0]) 2 16 Try.underlying25 HI53.out.1 HI53.out.2.1 HI53.out.2.2.1 HI53.out.2.2.2 rfl (by decide) (.slice e2 n2 k2) n2 (flat tf r.tes ++ mks (tf (0, -7)) i) rfl RB2.out ⟨V1.heap.size, 0, none⟩ 1 1 (tf (0, -7)) rfl rfl (cell_two_new _ _ _ _) (tf_one _) (by decide) (by have := HNN.out.2.2.1; have := HZ.out.t; have := HIL.out; unfold maxLen; omega) (by have := HNN.out.2.2.1; have := HZ.out.t; have := HIL.out; omega) (Nat.le_trans HM.out.bw.size (bel_up _ _).size) _ rfl ?_; intro g2 c2' u2 ho hg ha hl; have HG2 : Hid _ := hg; have HO2 : Hid _ := ho; have s2 : u2.cell? ⟨T, 5, none⟩ = some (.slice e2 n2 k2) := cel_of hg KB2.out.bt RB2.out (by decide) rfl; have f2 : u2.frozen? ⟨T, 5, none⟩ = false := froz_of hg KB2.out.bt RB2.out (by decide); clear ho hg ha hl)
      obtain ⟨V2, hV⟩ : ∃ V2, V2 = u2.setCell ⟨T, 5, none⟩ (.slice (some ⟨g2, 0, none⟩) (n2 + 1) c2') := ⟨_, rfl⟩
      rw [← hV]
      have HM' : Hid (Tb w V2 T (.slice (some ⟨g0, 0, none⟩) (n0 + 1) c0') (.slice (some ⟨g1, 0, none⟩) (n1 + 1) c1') (.slice (some ⟨g2, 0, none⟩) (n2 + 1) c2') (.slice e3 n3 k3) r) := by rw [hV]; exact KB2.out.app RB2.out (by decide) HG2.out 5 _ (by first | rfl | (simp [rxC]))
      have HA' : Hid (Ab V2 w.heap.size #[.int .i64 r.trm, .int .i64 r.pat, .slice a1 r.re.length c1, .string r.lit, .slice a2 r.inn.length c2, .slice a3 r.tes.length c3, .slice a4 r.act.length c4]) := by rw [hV]; exact AB2.out.app RB2.out (by decide) HG2.out HLT.out
      have RE' : Hid _ := KB2.out.other (k := 5) (u := (.slice (some ⟨g2, 0, none⟩) (n2 + 1) c2')) RB2.out (by decide) HG2.out (row_up RE.out (bel_up _ (.cells #[.int .i64 0, .int .i64 (-7)] 53))) (by decide) (by decide)
      rw [← hV] at RE'
      have RI' : Hid _ := KB2.out.other (k := 5) (u := (.slice (some ⟨g2, 0, none⟩) (n2 + 1) c2')) RB2.out (by decide) HG2.out (row_up RI.out (bel_up _ (.cells #[.int .i64 0, .int .i64 (-7)] 53))) (by decide) (by decide)
      rw [← hV] at RI'
      have RT' : Hid (V2.ownsRow w.heap.size 53 2 (.slice (some ⟨g2, 0, none⟩) (n2 + 1) c2') (n2 + 1) ((flat tf r.tes ++ mks (tf (0, -7)) i) ++ (tf (0, -7)))) := by rw [hV]; exact KB2.out.got RB2.out (by decide) HG2.out HO2.out
      have RA' : Hid _ := KB2.out.other (k := 5) (u := (.slice (some ⟨g2, 0, none⟩) (n2 + 1) c2')) RB2.out (by decide) HG2.out (row_up RA.out (bel_up _ (.cells #[.int .i64 0, .int .i64 (-7)] 53))) (by decide) (by decide)
      rw [← hV] at RA'
      clear hV HM HA RE RI RT RA t2 KB2 AB2 RB2 s2 f2 HG2 HO2
      have HM : Hid _ := HM'.out
      clear HM'
      have HA : Hid _ := HA'.out
      clear HA'
      have RE : Hid _ := RE'.out
      clear RE'
      have RI : Hid _ := RI'.out
      clear RI'
      have RT : Hid _ := RT'.out
      clear RT'
      have RA : Hid _ := RA'.out
      clear RA'
      have t3 := HM.out.tcell 6 (.slice e3 n3 k3) rfl
      have KB3 : Hid _ := HM.out.up (bel_up _ (.cells #[.int .i64 0, .int .i64 (-7), .int .i64 0] 56))
      have AB3 : Hid _ := HA.out.up (bel_up _ (.cells #[.int .i64 0, .int .i64 (-7), .int .i64 0] 56))
      have RB3 : Hid _ := row_up RA.out (bel_up _ (.cells #[.int .i64 0, .int .i64 (-7), .int .i64 0] 56))
      go_upto_region 4 with (at_builtin; refine wpList_append_lies _ rfl (.tmp 32) (.tmp 34) 26 rfl w.heap.size 56 i56 (.agg #[.int .i64 0, .int .i64 0, .int .i64 0]) 3 24 Try.underlying26 HI56.out.1 HI56.out.2.1 HI56.out.2.2.1 HI56.out.2.2.2 rfl (by decide) (.slice e3 n3 k3) n3 (flat af r.act ++ mks (af (0, -7, 0)) i) rfl RB3.out ⟨V2.heap.size, 0, none⟩ 1 1 (af (0, -7, 0)) rfl rfl (cell_three_new _ _ _ _ _) (af_one _) (by decide) (by have := HNN.out.2.2.2; have := HZ.out.a; have := HIL.out; unfold maxLen; omega) (by have := HNN.out.2.2.2; have := HZ.out.a; have := HIL.out; omega) (Nat.le_trans HM.out.bw.size (bel_up _ _).size) _ rfl ?_; intro g3 c3' u3 ho hg ha hl; have HG3 : Hid _ := hg; have HO3 : Hid _ := ho; have s3 : u3.cell? ⟨T, 6, none⟩ = some (.slice e3 n3 k3) := cel_of hg KB3.out.bt RB3.out (by decide) rfl; have f3 : u3.frozen? ⟨T, 6, none⟩ = false := froz_of hg KB3.out.bt RB3.out (by decide); clear ho hg ha hl)
      obtain ⟨V3, hV⟩ : ∃ V3, V3 = u3.setCell ⟨T, 6, none⟩ (.slice (some ⟨g3, 0, none⟩) (n3 + 1) c3') := ⟨_, rfl⟩
      rw [← hV]
      have HM' : Hid (Tb w V3 T (.slice (some ⟨g0, 0, none⟩) (n0 + 1) c0') (.slice (some ⟨g1, 0, none⟩) (n1 + 1) c1') (.slice (some ⟨g2, 0, none⟩) (n2 + 1) c2') (.slice (some ⟨g3, 0, none⟩) (n3 + 1) c3') r) := by rw [hV]; exact KB3.out.app RB3.out (by decide) HG3.out 6 _ (by first | rfl | (simp [rxC]))
      have HA' : Hid (Ab V3 w.heap.size #[.int .i64 r.trm, .int .i64 r.pat, .slice a1 r.re.length c1, .string r.lit, .slice a2 r.inn.length c2, .slice a3 r.tes.length c3, .slice a4 r.act.length c4]) := by rw [hV]; exact AB3.out.app RB3.out (by decide) HG3.out HLT.out
      have RE' : Hid _ := KB3.out.other (k := 6) (u := (.slice (some ⟨g3, 0, none⟩) (n3 + 1) c3')) RB3.out (by decide) HG3.out (row_up RE.out (bel_up _ (.cells #[.int .i64 0, .int .i64 (-7), .int .i64 0] 56))) (by decide) (by decide)
      rw [← hV] at RE'
      have RI' : Hid _ := KB3.out.other (k := 6) (u := (.slice (some ⟨g3, 0, none⟩) (n3 + 1) c3')) RB3.out (by decide) HG3.out (row_up RI.out (bel_up _ (.cells #[.int .i64 0, .int .i64 (-7), .int .i64 0] 56))) (by decide) (by decide)
      rw [← hV] at RI'
      have RT' : Hid _ := KB3.out.other (k := 6) (u := (.slice (some ⟨g3, 0, none⟩) (n3 + 1) c3')) RB3.out (by decide) HG3.out (row_up RT.out (bel_up _ (.cells #[.int .i64 0, .int .i64 (-7), .int .i64 0] 56))) (by decide) (by decide)
      rw [← hV] at RT'
      have RA' : Hid (V3.ownsRow w.heap.size 56 3 (.slice (some ⟨g3, 0, none⟩) (n3 + 1) c3') (n3 + 1) ((flat af r.act ++ mks (af (0, -7, 0)) i) ++ (af (0, -7, 0)))) := by rw [hV]; exact KB3.out.got RB3.out (by decide) HG3.out HO3.out
      clear hV HM HA RE RI RT RA t3 KB3 AB3 RB3 s3 f3 HG3 HO3
      have HM : Hid _ := HM'.out
      clear HM'
      have HA : Hid _ := HA'.out
      clear HA'
      have RE : Hid _ := RE'.out
      clear RE'
      have RI : Hid _ := RI'.out
      clear RI'
      have RT : Hid _ := RT'.out
      clear RT'
      have RA : Hid _ := RA'.out
      clear RA'
      rw [List.append_assoc] at RE RI RT RA
      go_wp2_with fail
      go_roundg (3 - (i + 1))
      case measure => have := HI.out; have := HIL.out; omega
      case rel => exact ⟨i + 1, by first | rfl | (rw [show (i : Int) + 1 = ((i + 1 : Nat) : Int) by omega]), _, _, _, _, _, _, _, _, (show n0 + 1 = r.re.length + (i + 1) ∧ n1 + 1 = r.inn.length + (i + 1) ∧ n2 + 1 = r.tes.length + (i + 1) ∧ n3 + 1 = r.act.length + (i + 1) by have := HNN.out; omega), HM, HA, RE, RI, RT, RA, ⟨HIL.out, rfl⟩⟩
    · have hi3 : i = 3 := by have := HI.out; omega
      subst hi3
      rw [mks3] at RE RI RT RA
      obtain ⟨g0, k0, rfl, _, hk0, _⟩ := row_form RE.out (by have := HNN.out; omega)
      obtain ⟨m0, hm0⟩ : ∃ m, r.re.length = m := ⟨_, rfl⟩
      obtain ⟨g1, k1, rfl, _, hk1, _⟩ := row_form RI.out (by have := HNN.out; omega)
      obtain ⟨m1, hm1⟩ : ∃ m, r.inn.length = m := ⟨_, rfl⟩
      obtain ⟨g2, k2, rfl, _, hk2, _⟩ := row_form RT.out (by have := HNN.out; omega)
      obtain ⟨m2, hm2⟩ : ∃ m, r.tes.length = m := ⟨_, rfl⟩
      obtain ⟨g3, k3, rfl, _, hk3, _⟩ := row_form RA.out (by have := HNN.out; omega)
      obtain ⟨m3, hm3⟩ : ∃ m, r.act.length = m := ⟨_, rfl⟩
      have v0 : m0 ≤ k0 := by have := HNN.out; omega
      have u0 : (m0 : Int) ≤ (k0 : Int) := by omega
      have v1 : m1 ≤ k1 := by have := HNN.out; omega
      have u1 : (m1 : Int) ≤ (k1 : Int) := by omega
      have v2 : m2 ≤ k2 := by have := HNN.out; omega
      have u2 : (m2 : Int) ≤ (k2 : Int) := by omega
      have v3 : m3 ≤ k3 := by have := HNN.out; omega
      have u3 : (m3 : Int) ≤ (k3 : Int) := by omega
      have q1 : decide (((3 : Nat) : Int) < 3) = false := rfl
      obtain ⟨p0, p1, p2, p3, p4, p5, p6⟩ := box7 HA.out.bs
      rw [hm0] at p2
      rw [hm1] at p4
      rw [hm2] at p5
      rw [hm3] at p6
      have t0 := HM.out.tcell 0 (.int .i64 r.trm) rfl
      have t1 := HM.out.tcell 1 (.int .i64 r.pat) rfl
      have t2 := HM.out.tcell 2 (.slice (some ⟨g0, 0, none⟩) n0 k0) rfl
      have t3 := HM.out.tcell 3 (.string r.lit) rfl
      have t4 := HM.out.tcell 4 (.slice (some ⟨g1, 0, none⟩) n1 k1) rfl
      have t5 := HM.out.tcell 5 (.slice (some ⟨g2, 0, none⟩) n2 k2) rfl
      have t6 := HM.out.tcell 6 (.slice (some ⟨g3, 0, none⟩) n3 k3) rfl
      have tfz : ∀ q, wr.frozen? ⟨T, q, none⟩ = false := fun q => Lib.frozen_of_heap HM.out.bt q
      have HMM : Hid (r.re.length = m0 ∧ r.inn.length = m1 ∧ r.tes.length = m2 ∧ r.act.length = m3) := ⟨hm0, hm1, hm2, hm3⟩
      clear hk0 hk1 hk2 hk3 hm0 hm1 hm2 hm3 hi
      have HNT : Hid (¬ w.heap.size = T) := by have := HLT.out; show ¬ w.heap.size = T; omega
      have hnt : ¬ w.heap.size = T := HNT.out
      have hnt2 : ¬ T = w.heap.size := fun e => HNT.out e.symm
      go_upto_region 13 with fail
      obtain ⟨W5, hW5⟩ : ∃ W5, W5 = (((wr.setCell ⟨T, 2, none⟩ (.slice (some ⟨g0, 0, none⟩) m0 k0)).setCell ⟨T, 4, none⟩ (.slice (some ⟨g1, 0, none⟩) m1 k1)).setCell ⟨T, 5, none⟩ (.slice (some ⟨g2, 0, none⟩) m2 k2)).setCell ⟨T, 6, none⟩ (.slice (some ⟨g3, 0, none⟩) m3 k3) := ⟨_, rfl⟩
      rw [← hW5]
      have BT : Hid (W5.heap[T]? = some (.cells #[.int .i64 r.trm, .int .i64 r.pat, .slice (some ⟨g0, 0, none⟩) m0 k0, .string r.lit, .slice (some ⟨g1, 0, none⟩) m1 k1, .slice (some ⟨g2, 0, none⟩) m2 k2, .slice (some ⟨g3, 0, none⟩) m3 k3] 28 (0, 0))) := by
        rw [hW5]
        have := blk_set (k := 6) (.slice (some ⟨g3, 0, none⟩) m3 k3) (blk_set (k := 5) (.slice (some ⟨g2, 0, none⟩) m2 k2) (blk_set (k := 4) (.slice (some ⟨g1, 0, none⟩) m1 k1) (blk_set (k := 2) (.slice (some ⟨g0, 0, none⟩) m0 k0) HM.out.bt)))
        simp [rxC] at this
        exact this
      have BZ : Hid (Ab W5 w.heap.size #[.int .i64 r.trm, .int .i64 r.pat, .slice a1 r.re.length c1, .string r.lit, .slice a2 r.inn.length c2, .slice a3 r.tes.length c3, .slice a4 r.act.length c4]) := by rw [hW5]; exact (((HA.out.set HLT.out).set HLT.out).set HLT.out).set HLT.out
      have h3 : ∀ {e : TypeId} {size n : Nat} {v : Value} {xs : List Value}, wr.ownsRow w.heap.size e size v n xs → e ≠ 28 → W5.ownsRow w.heap.size e size v n xs := fun hr he => by
        rw [hW5]
        have r1 := row_off (k := 2) (u := .slice (some ⟨g0, 0, none⟩) m0 k0) HM.out.bt hr he
        have r2 := row_off (k := 4) (u := .slice (some ⟨g1, 0, none⟩) m1 k1) r1.2 r1.1 he
        have r3 := row_off (k := 5) (u := .slice (some ⟨g2, 0, none⟩) m2 k2) r2.2 r2.1 he
        exact (row_off (k := 6) (u := .slice (some ⟨g3, 0, none⟩) m3 k3) r3.2 r3.1 he).1
      have BW : Hid (Below w.heap.size w W5) := by
        rw [hW5]
        exact (((HM.out.bw.setCell (p := ⟨T, 2, none⟩) HM.out.lt _).setCell (p := ⟨T, 4, none⟩) HM.out.lt _).setCell (p := ⟨T, 5, none⟩) HM.out.lt _).setCell (p := ⟨T, 6, none⟩) HM.out.lt _
      have S0 : Hid (W5.ownsRow w.heap.size 50 7 (.slice (some ⟨g0, 0, none⟩) (m0 + 3) k0) (m0 + 3) (flat nf r.re ++ ((nf (0, 0, 0, 0, 0, -7, 0)) ++ ((nf (0, 0, 0, 0, 0, -7, 0)) ++ (nf (0, 0, 0, 0, 0, -7, 0)))))) := by
        have h := h3 RE.out (by decide)
        rw [show n0 = m0 + 3 by have := HNN.out; have := HMM.out; omega] at h
        exact h
      have S1 : Hid (W5.ownsRow w.heap.size 3 1 (.slice (some ⟨g1, 0, none⟩) (m1 + 3) k1) (m1 + 3) (iC r.inn ++ (([.int .i64 (-7)]) ++ (([.int .i64 (-7)]) ++ ([.int .i64 (-7)]))))) := by
        have h := h3 RI.out (by decide)
        rw [show n1 = m1 + 3 by have := HNN.out; have := HMM.out; omega] at h
        exact h
      have S2 : Hid (W5.ownsRow w.heap.size 53 2 (.slice (some ⟨g2, 0, none⟩) (m2 + 3) k2) (m2 + 3) (flat tf r.tes ++ ((tf (0, -7)) ++ ((tf (0, -7)) ++ (tf (0, -7)))))) := by
        have h := h3 RT.out (by decide)
        rw [show n2 = m2 + 3 by have := HNN.out; have := HMM.out; omega] at h
        exact h
      have S3 : Hid (W5.ownsRow w.heap.size 56 3 (.slice (some ⟨g3, 0, none⟩) (m3 + 3) k3) (m3 + 3) (flat af r.act ++ ((af (0, -7, 0)) ++ ((af (0, -7, 0)) ++ (af (0, -7, 0)))))) := by
        have h := h3 RA.out (by decide)
        rw [show n3 = m3 + 3 by have := HNN.out; have := HMM.out; omega] at h
        exact h
      clear h3 hW5 t0 t1 t2 t3 t4 t5 t6 tfz p0 p1 p2 p3 p4 p5 p6 HM RE RI RT RA u0 u1 u2 u3 v0 v1 v2 v3 q1 HA
      obtain ⟨t0, t1, t2, t3, t4, t5, t6⟩ := box7 BT.out
      obtain ⟨z0, z1, z2, z3, z4, z5, z6⟩ := box7 BZ.out.bz
      have rz : ∀ q, W5.frozen? ⟨w.heap.size + 1, q, none⟩ = false := fun q => Lib.frozen_of_heap BZ.out.bz q
      go_wp2_with fail
      (try simp only [Exit.inBlock, Exit.then])
      refine bodyPost_ret (v := rv (.slice (some ⟨g0, 0, none⟩) m0 k0) (.slice (some ⟨g1, 0, none⟩) m1 k1) (.slice (some ⟨g2, 0, none⟩) m2 k2) (.slice (some ⟨g3, 0, none⟩) m3 k3) r) ?_ rfl ⟨g0, k0, g1, k1, g2, k2, g3, k3, ?_, ⟨?_, ?_, ?_, ?_⟩, ?_⟩
      · rw [results_cell1 rfl]; go_simp
      · rw [HMM.out.1, HMM.out.2.1, HMM.out.2.2.1, HMM.out.2.2.2]
      · have h := row_seven (v0 := .int .i64 r.trm) (v1 := .int .i64 r.pat) (v2 := .slice (some ⟨g0, 0, none⟩) m0 k0) (v3 := .string r.lit) (v4 := .slice (some ⟨g1, 0, none⟩) m1 k1) (v5 := .slice (some ⟨g2, 0, none⟩) m2 k2) (v6 := .slice (some ⟨g3, 0, none⟩) m3 k3) BZ.out.bz S0.out (by decide)
        unfold Mk; rw [HMM.out.1]; exact h
      · have h := row_seven (v0 := .int .i64 r.trm) (v1 := .int .i64 r.pat) (v2 := .slice (some ⟨g0, 0, none⟩) m0 k0) (v3 := .string r.lit) (v4 := .slice (some ⟨g1, 0, none⟩) m1 k1) (v5 := .slice (some ⟨g2, 0, none⟩) m2 k2) (v6 := .slice (some ⟨g3, 0, none⟩) m3 k3) BZ.out.bz S1.out (by decide)
        unfold Mk; rw [HMM.out.2.1]; exact h
      · have h := row_seven (v0 := .int .i64 r.trm) (v1 := .int .i64 r.pat) (v2 := .slice (some ⟨g0, 0, none⟩) m0 k0) (v3 := .string r.lit) (v4 := .slice (some ⟨g1, 0, none⟩) m1 k1) (v5 := .slice (some ⟨g2, 0, none⟩) m2 k2) (v6 := .slice (some ⟨g3, 0, none⟩) m3 k3) BZ.out.bz S2.out (by decide)
        unfold Mk; rw [HMM.out.2.2.1]; exact h
      · have h := row_seven (v0 := .int .i64 r.trm) (v1 := .int .i64 r.pat) (v2 := .slice (some ⟨g0, 0, none⟩) m0 k0) (v3 := .string r.lit) (v4 := .slice (some ⟨g1, 0, none⟩) m1 k1) (v5 := .slice (some ⟨g2, 0, none⟩) m2 k2) (v6 := .slice (some ⟨g3, 0, none⟩) m3 k3) BZ.out.bz S3.out (by decide)
        unfold Mk; rw [HMM.out.2.2.2]; exact h
      · exact bel_seven BW.out (by omega)
end Go.Proofs.Ytdchopljojlcpaa
