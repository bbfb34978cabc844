import Derived.Test.YtodncbkdlnepjaaFta
namespace Go.Proofs.Ytodncbkdlnepjaa
open Go.RowKit Go.Maps

theorem info58 : (Try.prog.info? 58).map (fun i => (i.zero, i.size, i.bytes)) = some (some (.agg #[.string ⟨#[]⟩, .bool false]), 2, 24) := by kernel_rfl
theorem info61 : (Try.prog.info? 61).map (fun i => (i.zero, i.size, i.bytes)) = some (some (.agg #[.string ⟨#[]⟩, .int .i64 0]), 2, 24) := by kernel_rfl
theorem info53 : (Try.prog.info? 53).map (fun i => (i.zero, i.size, i.bytes)) = some (some (.agg #[.int .i64 0, .slice none 0 0]), 2, 32) := by kernel_rfl
/-- A grammar in rows of the call's own. -/
structure Gw (B : Nat) (W : World) (u0 u1 u2 : Value) (Te : List Td) (Sy : List Sd) (P : List Pd) : Prop where
  t : W.ownsRow B 58 2 u0 Te.length (flat tdf Te)
  s : W.ownsRow B 61 2 u1 Sy.length (flat sdf Sy)
  p : W.ownsRow B 53 2 u2 P.length (flat pf P)
  r : ∀ x ∈ P, W.ownsRow B 32 3 x.2.1 x.2.2.length (flat rf x.2.2)
theorem Gw.nil (B : Nat) (W : World) : Gw B W (.slice none 0 0) (.slice none 0 0) (.slice none 0 0) [] [] [] := ⟨World.ownsRow_nil _ _ _ _, World.ownsRow_nil _ _ _ _, World.ownsRow_nil _ _ _ _, fun x h => by cases h⟩
theorem Gw.up {B : Nat} {W W' : World} {u0 u1 u2 : Value} {Te : List Td} {Sy : List Sd} {P : List Pd} (h : Gw B W u0 u1 u2 Te Sy P) (hb : Below W.heap.size W W') : Gw B W' u0 u1 u2 Te Sy P := ⟨row_up h.t hb, row_up h.s hb, row_up h.p hb, fun x hx => row_up (h.r x hx) hb⟩
theorem Gw.off {B b k : Nat} {W : World} {u : Value} {cs : Array Value} {u0 u1 u2 : Value} {Te : List Td} {Sy : List Sd} {P : List Pd} (h : Gw B W u0 u1 u2 Te Sy P) (hb : W.heap[b]? = some (.cells cs 26 (0, 0))) : Gw B (W.setCell ⟨b, k, none⟩ u) u0 u1 u2 Te Sy P :=
  ⟨(row_off hb h.t (by decide)).1, (row_off hb h.s (by decide)).1, (row_off hb h.p (by decide)).1, fun x hx => (row_off hb (h.r x hx) (by decide)).1⟩
theorem Gw.app0 {B : Nat} {W W' : World} {u0 u1 u2 v : Value} {Te : List Td} {Sy : List Sd} {P : List Pd} (x : Td) (h : Gw B W u0 u1 u2 Te Sy P) (hg : W.grownBy W' u0.ownBlock) (ho : W'.ownsRow B 58 2 v (Te.length + 1) (flat tdf Te ++ [.string x.1, .bool x.2])) : Gw B W' v u1 u2 (Te ++ [x]) Sy P :=
  ⟨by rw [List.length_append, flat_app]; exact ho, h.s.kept hg (tag_ne h.s h.t (by decide)), h.p.kept hg (tag_ne h.p h.t (by decide)), fun y hy => (h.r y hy).kept hg (tag_ne (h.r y hy) h.t (by decide))⟩
theorem Gw.app1 {B : Nat} {W W' : World} {u0 u1 u2 v : Value} {Te : List Td} {Sy : List Sd} {P : List Pd} (x : Sd) (h : Gw B W u0 u1 u2 Te Sy P) (hg : W.grownBy W' u1.ownBlock) (ho : W'.ownsRow B 61 2 v (Sy.length + 1) (flat sdf Sy ++ [.string x.1, .int .i64 x.2])) : Gw B W' u0 v u2 Te (Sy ++ [x]) P :=
  ⟨h.t.kept hg (tag_ne h.t h.s (by decide)), by rw [List.length_append, flat_app]; exact ho, h.p.kept hg (tag_ne h.p h.s (by decide)), fun y hy => (h.r y hy).kept hg (tag_ne (h.r y hy) h.s (by decide))⟩
theorem Gw.app2 {B : Nat} {W W' : World} {u0 u1 u2 v : Value} {Te : List Td} {Sy : List Sd} {P : List Pd} (x : Pd) (h : Gw B W u0 u1 u2 Te Sy P) (hx : W.ownsRow B 32 3 x.2.1 x.2.2.length (flat rf x.2.2)) (hg : W.grownBy W' u2.ownBlock) (ho : W'.ownsRow B 53 2 v (P.length + 1) (flat pf P ++ [.int .i64 x.1, x.2.1])) : Gw B W' u0 u1 v Te Sy (P ++ [x]) :=
  ⟨h.t.kept hg (tag_ne h.t h.p (by decide)), h.s.kept hg (tag_ne h.s h.p (by decide)), by rw [List.length_append, flat_app]; exact ho, fun y hy => by
    rcases List.mem_append.1 hy with hy | hy
    · exact (h.r y hy).kept hg (tag_ne (h.r y hy) h.p (by decide))
    · obtain rfl := List.mem_singleton.1 hy
      exact hx.kept hg (tag_ne hx h.p (by decide))⟩
/-- A grammar in memory, with its names. -/
structure Gx (W : World) (v0 v1 v2 : Value) (Te : List Td) (Sy : List Sd) (P : List Pd) : Prop where
  t : Rw W v0 Te.length (flat tdf Te)
  s : Rw W v1 Sy.length (flat sdf Sy)
  g : Gm W v0 v1 v2 Te.length Sy.length P
theorem Gx.up {W W' : World} {v0 v1 v2 : Value} {Te : List Td} {Sy : List Sd} {P : List Pd} (h : Gx W v0 v1 v2 Te Sy P) (hb : Below W.heap.size W W') : Gx W' v0 v1 v2 Te Sy P := ⟨h.t.up hb, h.s.up hb, h.g.up hb⟩
theorem Gw.gx {B : Nat} {W : World} {u0 u1 u2 : Value} {Te : List Td} {Sy : List Sd} {P : List Pd} (h : Gw B W u0 u1 u2 Te Sy P) : Gx W u0 u1 u2 Te Sy P := by
  obtain ⟨a0, c0, rfl⟩ := row_shape h.t
  obtain ⟨a1, c1, rfl⟩ := row_shape h.s
  exact ⟨row_rw h.t (by decide), row_rw h.s (by decide), ⟨⟨_, _, rfl⟩, ⟨_, _, rfl⟩, row_rw h.p (by decide), fun x hx => row_rw (h.r x hx) (by decide)⟩⟩
/-- Small enough. -/
structure Gs (Te : List Td) (Sy : List Sd) (P : List Pd) : Prop where
  t : Te.length * 24 + 4096 ≤ 140737488355328
  s : Sy.length * 24 + 4096 ≤ 140737488355328
  p : P.length * 32 + 4096 ≤ 140737488355328
  r : ∀ x ∈ P, x.2.2.length * 40 + 4096 ≤ 140737488355328
theorem Gs.gz {Te : List Td} {Sy : List Sd} {P : List Pd} (h : Gs Te Sy P) : Gz Te.length Sy.length P := ⟨by have := h.t; omega, by have := h.s; omega, by have := h.p; omega, fun x hx => by have := h.r x hx; omega⟩
/-- What a production says. -/
def pd2 (x : Pd) : Int × List Rf := (x.1, x.2.2)
theorem snd_pd2 {nT nS : Nat} {P P' : List Pd} (h : P'.map pd2 = P.map pd2) : snd nT nS P' = snd nT nS P := by
  have e : ∀ Q : List Pd, Q.all (sndP nT nS) = (Q.map pd2).all fun y => decide (-1 ≤ y.1) && (decide (y.1 < (nS : Int)) && wth (nT + nS) y.2) := fun Q => by rw [List.all_map]; rfl
  unfold snd
  rw [e, e, h]
theorem pq_pd2 {P P' : List Pd} (h : P'.map pd2 = P.map pd2) : P'.map pq = P.map pq := by
  have e : ∀ Q : List Pd, Q.map pq = (Q.map pd2).map fun y => (y.1, syl y.2) := fun Q => by rw [List.map_map]; rfl
  rw [e, e, h]
theorem ofp_pd2 {nT nS : Nat} {P P' : List Pd} {l : List Rf} {bh : Nat} (h : P'.map pd2 = P.map pd2) : ofp nT nS P' l bh = ofp nT nS P l bh := by
  unfold ofp
  rw [snd_pd2 h, pq_pd2 h]
theorem Gs.pd2 {Te : List Td} {Sy : List Sd} {P P' : List Pd} (h : Gs Te Sy P) (e : P'.map pd2 = P.map pd2) : Gs Te Sy P' := ⟨h.t, h.s, by have := congrArg List.length e; rw [List.length_map, List.length_map] at this; rw [this]; exact h.p, fun x hx => by
  have h1 : Go.Proofs.Ytodncbkdlnepjaa.pd2 x ∈ P.map Go.Proofs.Ytodncbkdlnepjaa.pd2 := by rw [← e]; exact List.mem_map.2 ⟨x, hx, rfl⟩
  obtain ⟨y, hy, hxy⟩ := List.mem_map.1 h1
  have := h.r y hy
  have h2 : y.2.2 = x.2.2 := congrArg (fun z : Int × List Rf => z.2) hxy
  rw [h2] at this
  exact this⟩
/-- The three blocks of a call that makes a grammar. -/
structure B3 (W : World) (gb rb ob : Nat) (v0 v1 v2 x0 x1 x2 : Value) : Prop where
  g : W.heap[gb]? = some (.cells #[v0, v1, v2] 26 (0, 0))
  r : W.heap[rb]? = some (.cells #[.slice none 0 0, .slice none 0 0, .slice none 0 0] 26 (0, 0))
  o : W.heap[ob]? = some (.cells #[x0, x1, x2] 26 (0, 0))
theorem B3.up {W W' : World} {gb rb ob : Nat} {v0 v1 v2 x0 x1 x2 : Value} (h : B3 W gb rb ob v0 v1 v2 x0 x1 x2) (hb : Below W.heap.size W W') : B3 W' gb rb ob v0 v1 v2 x0 x1 x2 :=
  ⟨(hb.block _ (lt_of_heap h.g)).trans h.g, (hb.block _ (lt_of_heap h.r)).trans h.r, (hb.block _ (lt_of_heap h.o)).trans h.o⟩
theorem B3.grown {W W' : World} {gb rb ob B n s : Nat} {e : TypeId} {v : Value} {xs : List Value} {v0 v1 v2 x0 x1 x2 : Value} (h : B3 W gb rb ob v0 v1 v2 x0 x1 x2) (ho : W.ownsRow B e s v n xs) (he : e ≠ 26) (hg : W.grownBy W' v.ownBlock) : B3 W' gb rb ob v0 v1 v2 x0 x1 x2 :=
  ⟨(hg.block _ (lt_of_heap h.g) (fun q => tag_ne_blk ho h.g he q.symm)).trans h.g, (hg.block _ (lt_of_heap h.r) (fun q => tag_ne_blk ho h.r he q.symm)).trans h.r, (hg.block _ (lt_of_heap h.o) (fun q => tag_ne_blk ho h.o he q.symm)).trans h.o⟩
theorem B3.set {W : World} {gb rb ob k : Nat} {v v0 v1 v2 x0 x1 x2 : Value} (h : B3 W gb rb ob v0 v1 v2 x0 x1 x2) (h1 : gb ≠ ob) (h2 : rb ≠ ob) (y0 y1 y2 : Value) (he : #[x0, x1, x2].setIfInBounds k v = #[y0, y1, y2]) : B3 (W.setCell ⟨ob, k, none⟩ v) gb rb ob v0 v1 v2 y0 y1 y2 :=
  ⟨(Below.heap_setCell W ⟨ob, k, none⟩ v gb h1).trans h.g, (Below.heap_setCell W ⟨ob, k, none⟩ v rb h2).trans h.r, by rw [blk_set v h.o, he]⟩

set_option maxRecDepth 100000 in
set_option maxHeartbeats 16000000 in
theorem twin_any {v0 v1 v2 : Value} {Te : List Td} {Sy : List Sd} {P : List Pd} (w : World) (h : Gx w v0 v1 v2 Te Sy P) (hs : Gs Te Sy P) :
    Calls Try.prog 16 #[.agg #[v0, v1, v2]] w fun e w' => ∃ u0 u1 u2 P', e = .returned (.agg #[u0, u1, u2]) ∧ Gw w.heap.size w' u0 u1 u2 Te Sy P' ∧ P'.map pd2 = P.map pd2 ∧ Below w.heap.size w w' := by
  have HG : Hid (Gx w v0 v1 v2 Te Sy P) := h
  have HZ : Hid (Gs Te Sy P) := hs
  obtain ⟨a0, c0, a1, c1, a2, c2, rfl, rfl, rfl⟩ := h.g.form
  clear h hs
  obtain ⟨nT, hnT⟩ : ∃ n, Te.length = n := ⟨_, rfl⟩
  have HNT : Hid (Te.length = nT) := hnT
  obtain ⟨nS, hnS⟩ : ∃ n, Sy.length = n := ⟨_, rfl⟩
  have HNS : Hid (Sy.length = nS) := hnS
  obtain ⟨n, hnn⟩ : ∃ n, P.length = n := ⟨_, rfl⟩
  have HNN : Hid (P.length = n) := hnn
  rw [hnT, hnS, hnn] at HG ⊢
  clear hnT hnS hnn
  have HBT : Hid (nT * 24 + 4096 ≤ 140737488355328 ∧ nS * 24 + 4096 ≤ 140737488355328 ∧ n * 32 + 4096 ≤ 140737488355328) := by have := HZ.out.t; have := HZ.out.s; have := HZ.out.p; have := HNT.out; have := HNS.out; have := HNN.out; show _ ∧ _; omega
  have HV0 : Hid (Rw w (.slice a0 nT c0) nT (flat tdf Te)) := by have h9 := HG.out.t; rw [HNT.out] at h9; exact h9
  have HV1 : Hid (Rw w (.slice a1 nS c1) nS (flat sdf Sy)) := by have h9 := HG.out.s; rw [HNS.out] at h9; exact h9
  have HV2 : Hid (Rw w (.slice a2 n c2) n (flat pf P)) := by have h9 := HG.out.g.p; rw [HNN.out] at h9; exact h9
  obtain ⟨i58, hi, h0, h1, h2⟩ := info_parts info58
  have HI58 : Hid (Try.prog.info? 58 = some i58 ∧ i58.zero = some (.agg #[.string ⟨#[]⟩, .bool false]) ∧ i58.size = 2 ∧ i58.bytes = 24) := ⟨hi, h0, h1, h2⟩
  clear hi h0 h1 h2
  obtain ⟨i61, hi, h0, h1, h2⟩ := info_parts info61
  have HI61 : Hid (Try.prog.info? 61 = some i61 ∧ i61.zero = some (.agg #[.string ⟨#[]⟩, .int .i64 0]) ∧ i61.size = 2 ∧ i61.bytes = 24) := ⟨hi, h0, h1, h2⟩
  clear hi h0 h1 h2
  obtain ⟨i53, hi, h0, h1, h2⟩ := info_parts info53
  have HI53 : Hid (Try.prog.info? 53 = some i53 ∧ i53.zero = some (.agg #[.int .i64 0, .slice none 0 0]) ∧ i53.size = 2 ∧ i53.bytes = 32) := ⟨hi, h0, h1, h2⟩
  clear hi h0 h1 h2
  obtain ⟨W1, hW1⟩ : ∃ W1, W1 = ((w.alloc (.cells #[.slice a0 nT c0, .slice a1 nS c1, .slice a2 n c2] 26)).alloc (.cells #[.slice none 0 0, .slice none 0 0, .slice none 0 0] 26)).alloc (.cells #[.slice none 0 0, .slice none 0 0, .slice none 0 0] 26) := ⟨_, rfl⟩
  have HB1 : Hid (Below w.heap.size w W1) := by rw [hW1]; exact below_trans (bel_up _ _) (below_trans (bel_up _ _) (bel_up _ _))
  have HX : Hid (B3 W1 w.heap.size (w.heap.size + 1) (w.heap.size + 1 + 1) (.slice a0 nT c0) (.slice a1 nS c1) (.slice a2 n c2) (.slice none 0 0) (.slice none 0 0) (.slice none 0 0)) := by
    have e1 := heap_new w (.cells #[.slice a0 nT c0, .slice a1 nS c1, .slice a2 n c2] 26)
    have e2 := heap_new (w.alloc (.cells #[.slice a0 nT c0, .slice a1 nS c1, .slice a2 n c2] 26)) (.cells #[.slice none 0 0, .slice none 0 0, .slice none 0 0] 26)
    have e3 := heap_new ((w.alloc (.cells #[.slice a0 nT c0, .slice a1 nS c1, .slice a2 n c2] 26)).alloc (.cells #[.slice none 0 0, .slice none 0 0, .slice none 0 0] 26)) (.cells #[.slice none 0 0, .slice none 0 0, .slice none 0 0] 26)
    rw [World.size_alloc] at e2
    rw [World.size_alloc, World.size_alloc] at e3
    rw [hW1]
    exact ⟨((below_trans (bel_up _ _) (bel_up _ _)).block _ (lt_of_heap e1)).trans e1, ((bel_up _ _).block _ (lt_of_heap e2)).trans e2, e3⟩
  go_enter Try.func16, Try.ntmps16
  go_upto_region 2 with fail
  rw [← hW1]
  clear hW1
  obtain ⟨gb, hgb⟩ : ∃ gb, w.heap.size = gb := ⟨_, rfl⟩
  have HGB : Hid (w.heap.size = gb) := hgb
  rw [hgb] at HX ⊢
  clear hgb
  obtain ⟨rb, hrb⟩ : ∃ rb, gb + 1 = rb := ⟨_, rfl⟩
  obtain ⟨ob, hob⟩ : ∃ ob, rb + 1 = ob := ⟨_, rfl⟩
  have HNE : Hid (gb ≠ ob ∧ rb ≠ ob ∧ gb ≠ rb) := by show _ ∧ _; omega
  have HOB : Hid (w.heap.size ≤ ob ∧ w.heap.size ≤ rb) := by have := HGB.out; show _ ∧ _; omega
  rw [hrb, hob] at HX ⊢
  clear hrb hob
  go_upto_region 3 with fail
  go_loopg [4] nT (fun gm v4 wr => ∃ i : Nat, v4 = .int .i64 (i : Int) ∧ ∃ (ra : Option Addr) (m rc : Nat), Hid (m = i) ∧ Hid (Below w.heap.size w wr) ∧ Hid (i ≤ nT ∧ gm = nT - i) ∧ Hid (B3 wr gb rb ob (.slice a0 nT c0) (.slice a1 nS c1) (.slice a2 n c2) (.slice ra m rc) (.slice none 0 0) (.slice none 0 0)) ∧ Hid (Gw w.heap.size wr (.slice ra m rc) (.slice none 0 0) (.slice none 0 0) (Te.take i) [] []))
  case atStart => exact ⟨0, rfl, none, 0, 0, rfl, HB1, ⟨Nat.zero_le _, rfl⟩, HX, Gw.nil _ _⟩
  case round =>
    clear HX HB1
    obtain ⟨i, rfl, ra, m, rc, HM, HBW, HI, HX, HW⟩ := hrel
    have b0 := rcell HX.out.g 0 (.slice a0 nT c0) rfl
    by_cases hi : i < nT
    · obtain ⟨g, o, cap, e0, hc⟩ := HV0.out.place (by omega)
      obtain ⟨rfl, -, rfl⟩ := Value.slice.inj e0
      have hil : i < Te.length := by have := HNT.out; omega
      obtain ⟨q0, q1⟩ := tdf_get Te i hil
      have HTK : Hid _ := take_getD Te tdd i hil
      obtain ⟨x, hx⟩ : ∃ x, Te.getD i tdd = x := ⟨_, rfl⟩
      rw [hx] at q0 q1 HTK
      obtain ⟨xf, xb⟩ := x
      dsimp only at q0 q1
      have KW : Hid (∀ W, Below w.heap.size w W → W.cell? ⟨g, o + i * 2, none⟩ = some (.string xf) ∧ W.cell? ⟨g, o + i * 2 + 1, none⟩ = some (.bool xb)) := fun W hW => ⟨below_cell hW (hc _ _ q0), by have h9 := below_cell hW (hc _ _ q1); rw [← Nat.add_assoc] at h9; exact h9⟩
      have e1 : decide ((i : Int) < (nT : Int)) = true := by rw [decide_eq_true_eq]; omega
      have e2 : decide (i < nT) = true := by rw [decide_eq_true_eq]; omega
      have e5 : (i : Int) < (nT : Int) := by omega
      have e6 : i < nT := hi
      have HIL : Hid (i < nT) := hi
      have hwr := w64n i (by have := HBT.out; have := HIL.out; omega)
      have HTL : Hid ((Te.take i).length = m) := by have := HM.out; show _ = _; rw [List.length_take]; omega
      clear e0 hc hx q0 q1 hil hi
      go_upto_region 5 with fail
      clear b0
      obtain ⟨WD, hWD⟩ : ∃ WD, wr.drew = WD := ⟨_, rfl⟩
      have BD : Hid (Below wr.heap.size wr WD) := by rw [← hWD]; exact Below.drew (Below.refl _ _)
      have BWD : Hid (Below w.heap.size w WD) := below_trans HBW.out BD.out
      have XD : Hid _ := HX.out.up BD.out
      have GD : Hid _ := HW.out.up BD.out
      have kd : Hid _ := KW.out WD BWD.out
      have XA : Hid _ := XD.out.up (bel_up WD (.cells #[.string xf, .bool xb] 58))
      have GA : Hid _ := GD.out.up (bel_up WD (.cells #[.string xf, .bool xb] 58))
      have c0' := rcell XD.out.o 0 (.slice ra m rc) rfl
      have cA := rcell XA.out.o 0 (.slice ra m rc) rfl
      refine wp_region_noPanic ?_
      refine wp_region_held_drew (S := fun W => W.cell? ⟨g, o + i * 2, none⟩ = some (.string xf) ∧ W.cell? ⟨g, o + i * 2 + 1, none⟩ = some (.bool xb) ∧ W.cell? ⟨gb, 0, none⟩ = some (.slice (some ⟨g, o, none⟩) nT c0)) (by kernel_rfl) (by rw [hWD]; exact ⟨kd.out.1, kd.out.2, rcell XD.out.g 0 _ rfl⟩) (fun hHeld => ?_)
      rw [hWD] at hHeld ⊢
      clear hWD
      refine wpAnyH_take (i := 0) (oi := { dst := _, op := _, type := _, pos := _, after := _, guard := _ }) (v := ?_) rfl (by kernel_rfl) (by kernel_rfl) (by kernel_rfl) (fun _ _ _ h => h) (Or.inl ⟨by rfl, ?_⟩) (by assumption) ?_
      rotate_left
      · intro W hSw
        (try dsimp only at hSw)
        go_simp
        (try with_reducible rfl)
      try simp only [Act.put, List.setIfInBounds_toArray, List.set_cons_zero, List.set_cons_succ]
      refine wpAnyH_take (i := 2) (oi := { dst := _, op := _, type := _, pos := _, after := _, guard := _ }) (v := ?_) rfl (by kernel_rfl) (by kernel_rfl) (by kernel_rfl) (fun _ _ _ h => h) (Or.inl ⟨by rfl, ?_⟩) (by assumption) ?_
      rotate_left
      · intro W hSw
        (try dsimp only at hSw)
        go_simp
        (try with_reducible rfl)
      try simp only [Act.put, List.setIfInBounds_toArray, List.set_cons_zero, List.set_cons_succ]
      refine wpAnyH_take (i := 3) (oi := { dst := _, op := _, type := _, pos := _, after := _, guard := _ }) (v := ?_) rfl (by kernel_rfl) (by kernel_rfl) (by kernel_rfl) (fun _ _ _ h => h) (Or.inl ⟨by rfl, ?_⟩) (by assumption) ?_
      rotate_left
      · intro W hSw
        (try dsimp only at hSw)
        go_simp
        (try with_reducible rfl)
      try simp only [Act.put, List.setIfInBounds_toArray, List.set_cons_zero, List.set_cons_succ]
      refine wpAnyH_take (i := 4) (oi := { dst := _, op := _, type := _, pos := _, after := _, guard := _ }) (v := ?_) rfl (by kernel_rfl) (by kernel_rfl) (by kernel_rfl) (fun _ _ _ h => h) (Or.inl ⟨by rfl, ?_⟩) (by assumption) ?_
      rotate_left
      · intro W hSw
        (try dsimp only at hSw)
        go_simp
        (try with_reducible rfl)
      try simp only [Act.put, List.setIfInBounds_toArray, List.set_cons_zero, List.set_cons_succ]
      refine wpAnyH_take (i := 5) (oi := { dst := _, op := _, type := _, pos := _, after := _, guard := _ }) (v := ?_) rfl (by kernel_rfl) (by kernel_rfl) (by kernel_rfl) (fun _ _ _ h => h) (Or.inl ⟨by rfl, ?_⟩) (by assumption) ?_
      rotate_left
      · intro W hSw
        (try dsimp only at hSw)
        go_simp
        (try with_reducible rfl)
      try simp only [Act.put, List.setIfInBounds_toArray, List.set_cons_zero, List.set_cons_succ]
      refine wpAnyH_take (i := 6) (oi := { dst := _, op := _, type := _, pos := _, after := _, guard := _ }) (v := ?_) rfl (by kernel_rfl) (by kernel_rfl) (by kernel_rfl) (fun _ _ _ h => h) (Or.inl ⟨by rfl, ?_⟩) (by assumption) ?_
      rotate_left
      · intro W hSw
        (try dsimp only at hSw)
        go_simp
        (try with_reducible rfl)
      try simp only [Act.put, List.setIfInBounds_toArray, List.set_cons_zero, List.set_cons_succ]
      refine wpAnyH_ready (rs := [1, 7]) (by kernel_rfl) (by simp) ?_
      refine AllReadyH.cons (o := { dst := _, op := _, type := _, pos := _, after := _, guard := _ }) rfl (fun K hK => ?_) (AllReadyH.cons (o := { dst := _, op := _, type := _, pos := _, after := _, guard := _ }) rfl (fun K hK => ?_) (AllReadyH.nil))
      · go_simp
        refine hK.out _ _ ?_ (fun hHeld => ?_)
        · assumption
        clear hK K
        try simp only [Act.put, List.setIfInBounds_toArray, List.set_cons_zero, List.set_cons_succ]
        refine wpAnyH_ready (rs := [7]) (by kernel_rfl) (by simp) ?_
        refine AllReadyH.cons (o := { dst := _, op := _, type := _, pos := _, after := _, guard := _ }) rfl (fun K hK => ?_) AllReadyH.nil
        go_simp
        refine hK.out _ _ ?_ (fun hHeld => ?_)
        · exact ⟨cell_up _ kd.out.1, cell_up _ kd.out.2, rcell XA.out.g 0 _ rfl⟩
        clear hK K
        try simp only [Act.put, List.setIfInBounds_toArray, List.set_cons_zero, List.set_cons_succ]
        refine wpAnyH_ready (rs := [8]) (by kernel_rfl) (by simp) ?_
        refine AllReadyH.cons (o := { dst := _, op := _, type := _, pos := _, after := _, guard := _ }) rfl (fun K hK => ?_) AllReadyH.nil
        refine step_append_lies _ rfl (.tmp 15) (.tmp 21) 22 rfl w.heap.size 58 i58 (.agg #[.string ⟨#[]⟩, .bool false]) 2 24 Try.underlying22 HI58.out.1 HI58.out.2.1 HI58.out.2.2.1 HI58.out.2.2.2 rfl (by decide) (.slice ra m rc) m (flat tdf (Te.take i)) rfl (by have h9 := GA.out.t; rw [HTL.out] at h9; exact h9) ⟨WD.heap.size, 0, none⟩ 1 1 [.string xf, .bool xb] rfl rfl (cell_two_new _ _ _ _) (by simp [Value.oneCell']) (by decide) (by have := HM.out; have := HIL.out; have := HBT.out; unfold maxLen; omega) (by have := HM.out; have := HIL.out; have := HBT.out; omega) (by have := BWD.out.size; simp; omega) (WD.heap.size + 1) (by simp) ?_
        intro g6 q6 w6 ho6 hg6 ha6 _
        have HG6 : Hid _ := hg6
        have X6 : Hid _ := XA.out.grown (GA.out.t) (by decide) hg6
        have G6 : Hid _ := GA.out.app0 (xf, xb) hg6 (by rw [HTL.out]; exact ho6)
        have B6 : Hid (Below w.heap.size w w6) := (below_trans BWD.out (bel_up _ _)).grown hg6 (by have := BWD.out.size; simp; omega) (fun r e' => (row_tag (GA.out.t) r e').1)
        have K6 : Hid _ := hg6
        have kw : Hid (w6.cell? ⟨g, o + i * 2, none⟩ = some (.string xf) ∧ w6.cell? ⟨g, o + i * 2 + 1, none⟩ = some (.bool xb)) := KW.out w6 B6.out
        have c6 := rcell X6.out.o 0 (.slice ra m rc) rfl
        have f6 : w6.frozen? ⟨ob, 0, none⟩ = false := Lib.frozen_of_heap X6.out.o 0
        clear ho6 hg6 ha6
        refine hK.out _ _ ?_ (fun hHeld => ?_)
        · exact ⟨kw.out.1, kw.out.2, rcell X6.out.g 0 _ rfl⟩
        clear hK K
        try simp only [Act.put, List.setIfInBounds_toArray, List.set_cons_zero, List.set_cons_succ]
        refine wpAnyH_take (i := 9) (oi := { dst := _, op := _, type := _, pos := _, after := _, guard := _ }) (v := ?_) rfl (by kernel_rfl) (by kernel_rfl) (by kernel_rfl) (fun _ _ _ h => h) (Or.inl ⟨by rfl, ?_⟩) (by assumption) ?_
        rotate_left
        · intro W hSw
          (try dsimp only at hSw)
          go_simp
          (try with_reducible rfl)
        try simp only [Act.put, List.setIfInBounds_toArray, List.set_cons_zero, List.set_cons_succ]
        refine wpAnyH_ready (rs := [10]) (by kernel_rfl) (by simp) ?_
        refine AllReadyH.cons (o := { dst := _, op := _, type := _, pos := _, after := _, guard := _ }) rfl (fun K hK => ?_) AllReadyH.nil
        go_simp
        have X7 : Hid _ := X6.out.set (k := 0) (v := .slice (some ⟨g6, 0, none⟩) (m + 1) q6) HNE.out.1 HNE.out.2.1 (.slice (some ⟨g6, 0, none⟩) (m + 1) q6) (.slice none 0 0) (.slice none 0 0) rfl
        have B7 : Hid (Below w.heap.size w (w6.setCell ⟨ob, 0, none⟩ (.slice (some ⟨g6, 0, none⟩) (m + 1) q6))) := B6.out.setCell (p := ⟨ob, 0, none⟩) HOB.out.1 _
        have kz := KW.out _ B7.out
        refine hK.out _ _ ?_ (fun hHeld => ?_)
        · exact ⟨kz.1, kz.2, rcell X7.out.g 0 _ rfl⟩
        clear hK K
        try simp only [Act.put, List.setIfInBounds_toArray, List.set_cons_zero, List.set_cons_succ]
        refine wpAnyH_done (by kernel_rfl) ?_ _
        refine NoPanic.normal ?_
        clear hHeld
        have G7 : Hid _ := G6.out.off (k := 0) (u := .slice (some ⟨g6, 0, none⟩) (m + 1) q6) X6.out.o
        clear c6 f6
        go_wp2_with fail
        go_roundg (nT - (i + 1))
        case measure => have := HI.out; have := HIL.out; omega
        case rel => exact ⟨i + 1, by first | rfl | (rw [show (i : Int) + 1 = ((i + 1 : Nat) : Int) by omega]), _, m + 1, _, by have := HM.out; show _ = _; omega, B7, ⟨HIL.out, rfl⟩, X7, by rw [HTK.out]; exact G7.out⟩
      · go_simp
        refine hK.out _ _ ?_ (fun hHeld => ?_)
        · exact ⟨cell_up _ kd.out.1, cell_up _ kd.out.2, rcell XA.out.g 0 _ rfl⟩
        clear hK K
        try simp only [Act.put, List.setIfInBounds_toArray, List.set_cons_zero, List.set_cons_succ]
        refine wpAnyH_ready (rs := [1]) (by kernel_rfl) (by simp) ?_
        refine AllReadyH.cons (o := { dst := _, op := _, type := _, pos := _, after := _, guard := _ }) rfl (fun K hK => ?_) AllReadyH.nil
        go_simp
        refine hK.out _ _ ?_ (fun hHeld => ?_)
        · assumption
        clear hK K
        try simp only [Act.put, List.setIfInBounds_toArray, List.set_cons_zero, List.set_cons_succ]
        refine wpAnyH_ready (rs := [8]) (by kernel_rfl) (by simp) ?_
        refine AllReadyH.cons (o := { dst := _, op := _, type := _, pos := _, after := _, guard := _ }) rfl (fun K hK => ?_) AllReadyH.nil
        refine step_append_lies _ rfl (.tmp 15) (.tmp 21) 22 rfl w.heap.size 58 i58 (.agg #[.string ⟨#[]⟩, .bool false]) 2 24 Try.underlying22 HI58.out.1 HI58.out.2.1 HI58.out.2.2.1 HI58.out.2.2.2 rfl (by decide) (.slice ra m rc) m (flat tdf (Te.take i)) rfl (by have h9 := GA.out.t; rw [HTL.out] at h9; exact h9) ⟨WD.heap.size, 0, none⟩ 1 1 [.string xf, .bool xb] rfl rfl (cell_two_new _ _ _ _) (by simp [Value.oneCell']) (by decide) (by have := HM.out; have := HIL.out; have := HBT.out; unfold maxLen; omega) (by have := HM.out; have := HIL.out; have := HBT.out; omega) (by have := BWD.out.size; simp; omega) (WD.heap.size + 1) (by simp) ?_
        intro g6 q6 w6 ho6 hg6 ha6 _
        have HG6 : Hid _ := hg6
        have X6 : Hid _ := XA.out.grown (GA.out.t) (by decide) hg6
        have G6 : Hid _ := GA.out.app0 (xf, xb) hg6 (by rw [HTL.out]; exact ho6)
        have B6 : Hid (Below w.heap.size w w6) := (below_trans BWD.out (bel_up _ _)).grown hg6 (by have := BWD.out.size; simp; omega) (fun r e' => (row_tag (GA.out.t) r e').1)
        have K6 : Hid _ := hg6
        have kw : Hid (w6.cell? ⟨g, o + i * 2, none⟩ = some (.string xf) ∧ w6.cell? ⟨g, o + i * 2 + 1, none⟩ = some (.bool xb)) := KW.out w6 B6.out
        have c6 := rcell X6.out.o 0 (.slice ra m rc) rfl
        have f6 : w6.frozen? ⟨ob, 0, none⟩ = false := Lib.frozen_of_heap X6.out.o 0
        clear ho6 hg6 ha6
        refine hK.out _ _ ?_ (fun hHeld => ?_)
        · exact ⟨kw.out.1, kw.out.2, rcell X6.out.g 0 _ rfl⟩
        clear hK K
        try simp only [Act.put, List.setIfInBounds_toArray, List.set_cons_zero, List.set_cons_succ]
        refine wpAnyH_take (i := 9) (oi := { dst := _, op := _, type := _, pos := _, after := _, guard := _ }) (v := ?_) rfl (by kernel_rfl) (by kernel_rfl) (by kernel_rfl) (fun _ _ _ h => h) (Or.inl ⟨by rfl, ?_⟩) (by assumption) ?_
        rotate_left
        · intro W hSw
          (try dsimp only at hSw)
          go_simp
          (try with_reducible rfl)
        try simp only [Act.put, List.setIfInBounds_toArray, List.set_cons_zero, List.set_cons_succ]
        refine wpAnyH_ready (rs := [10]) (by kernel_rfl) (by simp) ?_
        refine AllReadyH.cons (o := { dst := _, op := _, type := _, pos := _, after := _, guard := _ }) rfl (fun K hK => ?_) AllReadyH.nil
        go_simp
        have X7 : Hid _ := X6.out.set (k := 0) (v := .slice (some ⟨g6, 0, none⟩) (m + 1) q6) HNE.out.1 HNE.out.2.1 (.slice (some ⟨g6, 0, none⟩) (m + 1) q6) (.slice none 0 0) (.slice none 0 0) rfl
        have B7 : Hid (Below w.heap.size w (w6.setCell ⟨ob, 0, none⟩ (.slice (some ⟨g6, 0, none⟩) (m + 1) q6))) := B6.out.setCell (p := ⟨ob, 0, none⟩) HOB.out.1 _
        have kz := KW.out _ B7.out
        refine hK.out _ _ ?_ (fun hHeld => ?_)
        · exact ⟨kz.1, kz.2, rcell X7.out.g 0 _ rfl⟩
        clear hK K
        try simp only [Act.put, List.setIfInBounds_toArray, List.set_cons_zero, List.set_cons_succ]
        refine wpAnyH_done (by kernel_rfl) ?_ _
        refine NoPanic.normal ?_
        clear hHeld
        have G7 : Hid _ := G6.out.off (k := 0) (u := .slice (some ⟨g6, 0, none⟩) (m + 1) q6) X6.out.o
        clear c6 f6
        go_wp2_with fail
        go_roundg (nT - (i + 1))
        case measure => have := HI.out; have := HIL.out; omega
        case rel => exact ⟨i + 1, by first | rfl | (rw [show (i : Int) + 1 = ((i + 1 : Nat) : Int) by omega]), _, m + 1, _, by have := HM.out; show _ = _; omega, B7, ⟨HIL.out, rfl⟩, X7, by rw [HTK.out]; exact G7.out⟩
    · have e1 : decide ((i : Int) < (nT : Int)) = false := by rw [decide_eq_false_iff_not]; omega
      have e2 : decide (i < nT) = false := by rw [decide_eq_false_iff_not]; omega
      have HIN : Hid (i = nT) := by have := HI.out; show i = nT; omega
      clear hi
      go_upto_region 6 with fail
      clear e1 e2 b0
      obtain ⟨V, hV⟩ : ∃ V, V = wr := ⟨_, rfl⟩
      rw [← hV] at HBW HX HW ⊢
      have HWV : Hid (Gw w.heap.size V (.slice ra m rc) (.slice none 0 0) (.slice none 0 0) Te [] []) := by have h9 := HW.out; rw [HIN.out, ← HNT.out, List.take_length] at h9; exact h9
      clear HW hV HI HM HIN
      obtain ⟨y0, hy0⟩ : ∃ x, x = ra := ⟨_, rfl⟩
      obtain ⟨z0, hz0⟩ : ∃ x, x = m := ⟨_, rfl⟩
      obtain ⟨k0, hk0⟩ : ∃ x, x = rc := ⟨_, rfl⟩
      rw [← hy0, ← hz0, ← hk0] at HX HWV
      have HBV : Hid (Below w.heap.size w V) := HBW.out
      have HXV : Hid _ := HX.out
      clear hy0 hz0 hk0 HBW HX
      go_upto_region 7 with fail
      go_loopg [5] nS (fun gm v5 wr => ∃ i : Nat, v5 = .int .i64 (i : Int) ∧ ∃ (ra : Option Addr) (m rc : Nat), Hid (m = i) ∧ Hid (Below w.heap.size w wr) ∧ Hid (i ≤ nS ∧ gm = nS - i) ∧ Hid (B3 wr gb rb ob (.slice a0 nT c0) (.slice a1 nS c1) (.slice a2 n c2) (.slice y0 z0 k0) (.slice ra m rc) (.slice none 0 0)) ∧ Hid (Gw w.heap.size wr (.slice y0 z0 k0) (.slice ra m rc) (.slice none 0 0) Te (Sy.take i) []))
      case atStart => exact ⟨0, rfl, none, 0, 0, rfl, HBV, ⟨Nat.zero_le _, rfl⟩, HXV, HWV⟩
      case round =>
        clear HXV HBV HWV
        obtain ⟨i, rfl, ra, m, rc, HM, HBW, HI, HX, HW⟩ := hrel
        have b1 := rcell HX.out.g 1 (.slice a1 nS c1) rfl
        by_cases hi : i < nS
        · obtain ⟨g, o, cap, e0, hc⟩ := HV1.out.place (by omega)
          obtain ⟨rfl, -, rfl⟩ := Value.slice.inj e0
          have hil : i < Sy.length := by have := HNS.out; omega
          obtain ⟨q0, q1⟩ := sdf_get Sy i hil
          have HTK : Hid _ := take_getD Sy sdd i hil
          obtain ⟨x, hx⟩ : ∃ x, Sy.getD i sdd = x := ⟨_, rfl⟩
          rw [hx] at q0 q1 HTK
          obtain ⟨xf, xb⟩ := x
          dsimp only at q0 q1
          have KW : Hid (∀ W, Below w.heap.size w W → W.cell? ⟨g, o + i * 2, none⟩ = some (.string xf) ∧ W.cell? ⟨g, o + i * 2 + 1, none⟩ = some (.int .i64 xb)) := fun W hW => ⟨below_cell hW (hc _ _ q0), by have h9 := below_cell hW (hc _ _ q1); rw [← Nat.add_assoc] at h9; exact h9⟩
          have e1 : decide ((i : Int) < (nS : Int)) = true := by rw [decide_eq_true_eq]; omega
          have e2 : decide (i < nS) = true := by rw [decide_eq_true_eq]; omega
          have e5 : (i : Int) < (nS : Int) := by omega
          have e6 : i < nS := hi
          have HIL : Hid (i < nS) := hi
          have hwr := w64n i (by have := HBT.out; have := HIL.out; omega)
          have HTL : Hid ((Sy.take i).length = m) := by have := HM.out; show _ = _; rw [List.length_take]; omega
          clear e0 hc hx q0 q1 hil hi
          go_upto_region 9 with fail
          clear b1
          obtain ⟨WD, hWD⟩ : ∃ WD, wr.drew = WD := ⟨_, rfl⟩
          have BD : Hid (Below wr.heap.size wr WD) := by rw [← hWD]; exact Below.drew (Below.refl _ _)
          have BWD : Hid (Below w.heap.size w WD) := below_trans HBW.out BD.out
          have XD : Hid _ := HX.out.up BD.out
          have GD : Hid _ := HW.out.up BD.out
          have kd : Hid _ := KW.out WD BWD.out
          have XA : Hid _ := XD.out.up (bel_up WD (.cells #[.string xf, .int .i64 xb] 61))
          have GA : Hid _ := GD.out.up (bel_up WD (.cells #[.string xf, .int .i64 xb] 61))
          have c0' := rcell XD.out.o 1 (.slice ra m rc) rfl
          have cA := rcell XA.out.o 1 (.slice ra m rc) rfl
          refine wp_region_noPanic ?_
          refine wp_region_held_drew (S := fun W => W.cell? ⟨g, o + i * 2, none⟩ = some (.string xf) ∧ W.cell? ⟨g, o + i * 2 + 1, none⟩ = some (.int .i64 xb) ∧ W.cell? ⟨gb, 1, none⟩ = some (.slice (some ⟨g, o, none⟩) nS c1)) (by kernel_rfl) (by rw [hWD]; exact ⟨kd.out.1, kd.out.2, rcell XD.out.g 1 _ rfl⟩) (fun hHeld => ?_)
          rw [hWD] at hHeld ⊢
          clear hWD
          refine wpAnyH_take (i := 0) (oi := { dst := _, op := _, type := _, pos := _, after := _, guard := _ }) (v := ?_) rfl (by kernel_rfl) (by kernel_rfl) (by kernel_rfl) (fun _ _ _ h => h) (Or.inl ⟨by rfl, ?_⟩) (by assumption) ?_
          rotate_left
          · intro W hSw
            (try dsimp only at hSw)
            go_simp
            (try with_reducible rfl)
          try simp only [Act.put, List.setIfInBounds_toArray, List.set_cons_zero, List.set_cons_succ]
          refine wpAnyH_take (i := 2) (oi := { dst := _, op := _, type := _, pos := _, after := _, guard := _ }) (v := ?_) rfl (by kernel_rfl) (by kernel_rfl) (by kernel_rfl) (fun _ _ _ h => h) (Or.inl ⟨by rfl, ?_⟩) (by assumption) ?_
          rotate_left
          · intro W hSw
            (try dsimp only at hSw)
            go_simp
            (try with_reducible rfl)
          try simp only [Act.put, List.setIfInBounds_toArray, List.set_cons_zero, List.set_cons_succ]
          refine wpAnyH_take (i := 3) (oi := { dst := _, op := _, type := _, pos := _, after := _, guard := _ }) (v := ?_) rfl (by kernel_rfl) (by kernel_rfl) (by kernel_rfl) (fun _ _ _ h => h) (Or.inl ⟨by rfl, ?_⟩) (by assumption) ?_
          rotate_left
          · intro W hSw
            (try dsimp only at hSw)
            go_simp
            (try with_reducible rfl)
          try simp only [Act.put, List.setIfInBounds_toArray, List.set_cons_zero, List.set_cons_succ]
          refine wpAnyH_take (i := 4) (oi := { dst := _, op := _, type := _, pos := _, after := _, guard := _ }) (v := ?_) rfl (by kernel_rfl) (by kernel_rfl) (by kernel_rfl) (fun _ _ _ h => h) (Or.inl ⟨by rfl, ?_⟩) (by assumption) ?_
          rotate_left
          · intro W hSw
            (try dsimp only at hSw)
            go_simp
            (try with_reducible rfl)
          try simp only [Act.put, List.setIfInBounds_toArray, List.set_cons_zero, List.set_cons_succ]
          refine wpAnyH_take (i := 5) (oi := { dst := _, op := _, type := _, pos := _, after := _, guard := _ }) (v := ?_) rfl (by kernel_rfl) (by kernel_rfl) (by kernel_rfl) (fun _ _ _ h => h) (Or.inl ⟨by rfl, ?_⟩) (by assumption) ?_
          rotate_left
          · intro W hSw
            (try dsimp only at hSw)
            go_simp
            (try with_reducible rfl)
          try simp only [Act.put, List.setIfInBounds_toArray, List.set_cons_zero, List.set_cons_succ]
          refine wpAnyH_take (i := 6) (oi := { dst := _, op := _, type := _, pos := _, after := _, guard := _ }) (v := ?_) rfl (by kernel_rfl) (by kernel_rfl) (by kernel_rfl) (fun _ _ _ h => h) (Or.inl ⟨by rfl, ?_⟩) (by assumption) ?_
          rotate_left
          · intro W hSw
            (try dsimp only at hSw)
            go_simp
            (try with_reducible rfl)
          try simp only [Act.put, List.setIfInBounds_toArray, List.set_cons_zero, List.set_cons_succ]
          refine wpAnyH_ready (rs := [1, 7]) (by kernel_rfl) (by simp) ?_
          refine AllReadyH.cons (o := { dst := _, op := _, type := _, pos := _, after := _, guard := _ }) rfl (fun K hK => ?_) (AllReadyH.cons (o := { dst := _, op := _, type := _, pos := _, after := _, guard := _ }) rfl (fun K hK => ?_) (AllReadyH.nil))
          · go_simp
            refine hK.out _ _ ?_ (fun hHeld => ?_)
            · assumption
            clear hK K
            try simp only [Act.put, List.setIfInBounds_toArray, List.set_cons_zero, List.set_cons_succ]
            refine wpAnyH_ready (rs := [7]) (by kernel_rfl) (by simp) ?_
            refine AllReadyH.cons (o := { dst := _, op := _, type := _, pos := _, after := _, guard := _ }) rfl (fun K hK => ?_) AllReadyH.nil
            go_simp
            refine hK.out _ _ ?_ (fun hHeld => ?_)
            · exact ⟨cell_up _ kd.out.1, cell_up _ kd.out.2, rcell XA.out.g 1 _ rfl⟩
            clear hK K
            try simp only [Act.put, List.setIfInBounds_toArray, List.set_cons_zero, List.set_cons_succ]
            refine wpAnyH_ready (rs := [8]) (by kernel_rfl) (by simp) ?_
            refine AllReadyH.cons (o := { dst := _, op := _, type := _, pos := _, after := _, guard := _ }) rfl (fun K hK => ?_) AllReadyH.nil
            refine step_append_lies _ rfl (.tmp 32) (.tmp 38) 23 rfl w.heap.size 61 i61 (.agg #[.string ⟨#[]⟩, .int .i64 0]) 2 24 Try.underlying23 HI61.out.1 HI61.out.2.1 HI61.out.2.2.1 HI61.out.2.2.2 rfl (by decide) (.slice ra m rc) m (flat sdf (Sy.take i)) rfl (by have h9 := GA.out.s; rw [HTL.out] at h9; exact h9) ⟨WD.heap.size, 0, none⟩ 1 1 [.string xf, .int .i64 xb] rfl rfl (cell_two_new _ _ _ _) (by simp [Value.oneCell']) (by decide) (by have := HM.out; have := HIL.out; have := HBT.out; unfold maxLen; omega) (by have := HM.out; have := HIL.out; have := HBT.out; omega) (by have := BWD.out.size; simp; omega) (WD.heap.size + 1) (by simp) ?_
            intro g6 q6 w6 ho6 hg6 ha6 _
            have HG6 : Hid _ := hg6
            have X6 : Hid _ := XA.out.grown (GA.out.s) (by decide) hg6
            have G6 : Hid _ := GA.out.app1 (xf, xb) hg6 (by rw [HTL.out]; exact ho6)
            have B6 : Hid (Below w.heap.size w w6) := (below_trans BWD.out (bel_up _ _)).grown hg6 (by have := BWD.out.size; simp; omega) (fun r e' => (row_tag (GA.out.s) r e').1)
            have K6 : Hid _ := hg6
            have kw : Hid (w6.cell? ⟨g, o + i * 2, none⟩ = some (.string xf) ∧ w6.cell? ⟨g, o + i * 2 + 1, none⟩ = some (.int .i64 xb)) := KW.out w6 B6.out
            have c6 := rcell X6.out.o 1 (.slice ra m rc) rfl
            have f6 : w6.frozen? ⟨ob, 1, none⟩ = false := Lib.frozen_of_heap X6.out.o 1
            clear ho6 hg6 ha6
            refine hK.out _ _ ?_ (fun hHeld => ?_)
            · exact ⟨kw.out.1, kw.out.2, rcell X6.out.g 1 _ rfl⟩
            clear hK K
            try simp only [Act.put, List.setIfInBounds_toArray, List.set_cons_zero, List.set_cons_succ]
            refine wpAnyH_take (i := 9) (oi := { dst := _, op := _, type := _, pos := _, after := _, guard := _ }) (v := ?_) rfl (by kernel_rfl) (by kernel_rfl) (by kernel_rfl) (fun _ _ _ h => h) (Or.inl ⟨by rfl, ?_⟩) (by assumption) ?_
            rotate_left
            · intro W hSw
              (try dsimp only at hSw)
              go_simp
              (try with_reducible rfl)
            try simp only [Act.put, List.setIfInBounds_toArray, List.set_cons_zero, List.set_cons_succ]
            refine wpAnyH_ready (rs := [10]) (by kernel_rfl) (by simp) ?_
            refine AllReadyH.cons (o := { dst := _, op := _, type := _, pos := _, after := _, guard := _ }) rfl (fun K hK => ?_) AllReadyH.nil
            go_simp
            have X7 : Hid _ := X6.out.set (k := 1) (v := .slice (some ⟨g6, 0, none⟩) (m + 1) q6) HNE.out.1 HNE.out.2.1 (.slice y0 z0 k0) (.slice (some ⟨g6, 0, none⟩) (m + 1) q6) (.slice none 0 0) rfl
            have B7 : Hid (Below w.heap.size w (w6.setCell ⟨ob, 1, none⟩ (.slice (some ⟨g6, 0, none⟩) (m + 1) q6))) := B6.out.setCell (p := ⟨ob, 1, none⟩) HOB.out.1 _
            have kz := KW.out _ B7.out
            refine hK.out _ _ ?_ (fun hHeld => ?_)
            · exact ⟨kz.1, kz.2, rcell X7.out.g 1 _ rfl⟩
            clear hK K
            try simp only [Act.put, List.setIfInBounds_toArray, List.set_cons_zero, List.set_cons_succ]
            refine wpAnyH_done (by kernel_rfl) ?_ _
            refine NoPanic.normal ?_
            clear hHeld
            have G7 : Hid _ := G6.out.off (k := 1) (u := .slice (some ⟨g6, 0, none⟩) (m + 1) q6) X6.out.o
            clear c6 f6
            go_wp2_with fail
            go_roundg (nS - (i + 1))
            case measure => have := HI.out; have := HIL.out; omega
            case rel => exact ⟨i + 1, by first | rfl | (rw [show (i : Int) + 1 = ((i + 1 : Nat) : Int) by omega]), _, m + 1, _, by have := HM.out; show _ = _; omega, B7, ⟨HIL.out, rfl⟩, X7, by rw [HTK.out]; exact G7.out⟩
          · go_simp
            refine hK.out _ _ ?_ (fun hHeld => ?_)
            · exact ⟨cell_up _ kd.out.1, cell_up _ kd.out.2, rcell XA.out.g 1 _ rfl⟩
            clear hK K
            try simp only [Act.put, List.setIfInBounds_toArray, List.set_cons_zero, List.set_cons_succ]
            refine wpAnyH_ready (rs := [1]) (by kernel_rfl) (by simp) ?_
            refine AllReadyH.cons (o := { dst := _, op := _, type := _, pos := _, after := _, guard := _ }) rfl (fun K hK => ?_) AllReadyH.nil
            go_simp
            refine hK.out _ _ ?_ (fun hHeld => ?_)
            · assumption
            clear hK K
            try simp only [Act.put, List.setIfInBounds_toArray, List.set_cons_zero, List.set_cons_succ]
            refine wpAnyH_ready (rs := [8]) (by kernel_rfl) (by simp) ?_
            refine AllReadyH.cons (o := { dst := _, op := _, type := _, pos := _, after := _, guard := _ }) rfl (fun K hK => ?_) AllReadyH.nil
            refine step_append_lies _ rfl (.tmp 32) (.tmp 38) 23 rfl w.heap.size 61 i61 (.agg #[.string ⟨#[]⟩, .int .i64 0]) 2 24 Try.underlying23 HI61.out.1 HI61.out.2.1 HI61.out.2.2.1 HI61.out.2.2.2 rfl (by decide) (.slice ra m rc) m (flat sdf (Sy.take i)) rfl (by have h9 := GA.out.s; rw [HTL.out] at h9; exact h9) ⟨WD.heap.size, 0, none⟩ 1 1 [.string xf, .int .i64 xb] rfl rfl (cell_two_new _ _ _ _) (by simp [Value.oneCell']) (by decide) (by have := HM.out; have := HIL.out; have := HBT.out; unfold maxLen; omega) (by have := HM.out; have := HIL.out; have := HBT.out; omega) (by have := BWD.out.size; simp; omega) (WD.heap.size + 1) (by simp) ?_
            intro g6 q6 w6 ho6 hg6 ha6 _
            have HG6 : Hid _ := hg6
            have X6 : Hid _ := XA.out.grown (GA.out.s) (by decide) hg6
            have G6 : Hid _ := GA.out.app1 (xf, xb) hg6 (by rw [HTL.out]; exact ho6)
            have B6 : Hid (Below w.heap.size w w6) := (below_trans BWD.out (bel_up _ _)).grown hg6 (by have := BWD.out.size; simp; omega) (fun r e' => (row_tag (GA.out.s) r e').1)
            have K6 : Hid _ := hg6
            have kw : Hid (w6.cell? ⟨g, o + i * 2, none⟩ = some (.string xf) ∧ w6.cell? ⟨g, o + i * 2 + 1, none⟩ = some (.int .i64 xb)) := KW.out w6 B6.out
            have c6 := rcell X6.out.o 1 (.slice ra m rc) rfl
            have f6 : w6.frozen? ⟨ob, 1, none⟩ = false := Lib.frozen_of_heap X6.out.o 1
            clear ho6 hg6 ha6
            refine hK.out _ _ ?_ (fun hHeld => ?_)
            · exact ⟨kw.out.1, kw.out.2, rcell X6.out.g 1 _ rfl⟩
            clear hK K
            try simp only [Act.put, List.setIfInBounds_toArray, List.set_cons_zero, List.set_cons_succ]
            refine wpAnyH_take (i := 9) (oi := { dst := _, op := _, type := _, pos := _, after := _, guard := _ }) (v := ?_) rfl (by kernel_rfl) (by kernel_rfl) (by kernel_rfl) (fun _ _ _ h => h) (Or.inl ⟨by rfl, ?_⟩) (by assumption) ?_
            rotate_left
            · intro W hSw
              (try dsimp only at hSw)
              go_simp
              (try with_reducible rfl)
            try simp only [Act.put, List.setIfInBounds_toArray, List.set_cons_zero, List.set_cons_succ]
            refine wpAnyH_ready (rs := [10]) (by kernel_rfl) (by simp) ?_
            refine AllReadyH.cons (o := { dst := _, op := _, type := _, pos := _, after := _, guard := _ }) rfl (fun K hK => ?_) AllReadyH.nil
            go_simp
            have X7 : Hid _ := X6.out.set (k := 1) (v := .slice (some ⟨g6, 0, none⟩) (m + 1) q6) HNE.out.1 HNE.out.2.1 (.slice y0 z0 k0) (.slice (some ⟨g6, 0, none⟩) (m + 1) q6) (.slice none 0 0) rfl
            have B7 : Hid (Below w.heap.size w (w6.setCell ⟨ob, 1, none⟩ (.slice (some ⟨g6, 0, none⟩) (m + 1) q6))) := B6.out.setCell (p := ⟨ob, 1, none⟩) HOB.out.1 _
            have kz := KW.out _ B7.out
            refine hK.out _ _ ?_ (fun hHeld => ?_)
            · exact ⟨kz.1, kz.2, rcell X7.out.g 1 _ rfl⟩
            clear hK K
            try simp only [Act.put, List.setIfInBounds_toArray, List.set_cons_zero, List.set_cons_succ]
            refine wpAnyH_done (by kernel_rfl) ?_ _
            refine NoPanic.normal ?_
            clear hHeld
            have G7 : Hid _ := G6.out.off (k := 1) (u := .slice (some ⟨g6, 0, none⟩) (m + 1) q6) X6.out.o
            clear c6 f6
            go_wp2_with fail
            go_roundg (nS - (i + 1))
            case measure => have := HI.out; have := HIL.out; omega
            case rel => exact ⟨i + 1, by first | rfl | (rw [show (i : Int) + 1 = ((i + 1 : Nat) : Int) by omega]), _, m + 1, _, by have := HM.out; show _ = _; omega, B7, ⟨HIL.out, rfl⟩, X7, by rw [HTK.out]; exact G7.out⟩
        · have e1 : decide ((i : Int) < (nS : Int)) = false := by rw [decide_eq_false_iff_not]; omega
          have e2 : decide (i < nS) = false := by rw [decide_eq_false_iff_not]; omega
          have HIN : Hid (i = nS) := by have := HI.out; show i = nS; omega
          clear hi
          go_upto_region 10 with fail
          clear e1 e2 b1
          obtain ⟨V2, hV2⟩ : ∃ V2, V2 = wr := ⟨_, rfl⟩
          rw [← hV2] at HBW HX HW ⊢
          have HWV : Hid (Gw w.heap.size V2 (.slice y0 z0 k0) (.slice ra m rc) (.slice none 0 0) Te Sy []) := by have h9 := HW.out; rw [HIN.out, ← HNS.out, List.take_length] at h9; exact h9
          clear HW hV2 HI HM HIN
          obtain ⟨y1, hy1⟩ : ∃ x, x = ra := ⟨_, rfl⟩
          obtain ⟨z1, hz1⟩ : ∃ x, x = m := ⟨_, rfl⟩
          obtain ⟨k1, hk1⟩ : ∃ x, x = rc := ⟨_, rfl⟩
          rw [← hy1, ← hz1, ← hk1] at HX HWV
          have HBV : Hid (Below w.heap.size w V2) := HBW.out
          have HXV : Hid _ := HX.out
          clear hy1 hz1 hk1 HBW HX
          go_upto_region 11 with fail
          go_loopg [6] n (fun gm v6 wr => ∃ i : Nat, v6 = .int .i64 (i : Int) ∧ ∃ (ra : Option Addr) (m rc : Nat) (Q : List Pd), Hid (m = i ∧ Q.length = m) ∧ Hid (Below w.heap.size w wr) ∧ Hid (i ≤ n ∧ gm = n - i) ∧ Hid (B3 wr gb rb ob (.slice a0 nT c0) (.slice a1 nS c1) (.slice a2 n c2) (.slice y0 z0 k0) (.slice y1 z1 k1) (.slice ra m rc)) ∧ Hid (Gw w.heap.size wr (.slice y0 z0 k0) (.slice y1 z1 k1) (.slice ra m rc) Te Sy Q) ∧ Hid (Q.map pd2 = (P.take i).map pd2))
          case atStart => exact ⟨0, rfl, none, 0, 0, [], ⟨rfl, rfl⟩, HBV, ⟨Nat.zero_le _, rfl⟩, HXV, HWV, rfl⟩
          case round =>
            clear HXV HBV HWV
            obtain ⟨i, rfl, ra, m, rc, Q, HM, HBW, HI, HX, HW, HQ⟩ := hrel
            have b2 := rcell HX.out.g 2 (.slice a2 n c2) rfl
            by_cases hi : i < n
            · obtain ⟨g, o, cap, e0, hc⟩ := HV2.out.place (by omega)
              obtain ⟨rfl, -, rfl⟩ := Value.slice.inj e0
              have hil : i < P.length := by have := HNN.out; omega
              have HMP : Hid (P.getD i pfd ∈ P) := mem_getD hil pfd
              obtain ⟨q0, q1⟩ := pf_get P i hil
              have HTK : Hid _ := take_getD P pfd i hil
              have HRX : Hid (Rw w (P.getD i pfd).2.1 (P.getD i pfd).2.2.length (flat rf (P.getD i pfd).2.2)) := HG.out.g.r _ HMP.out
              have HPZ : Hid ((P.getD i pfd).2.2.length * 40 + 4096 ≤ 140737488355328) := HZ.out.r _ HMP.out
              obtain ⟨x, hx⟩ : ∃ x, P.getD i pfd = x := ⟨_, rfl⟩
              rw [hx] at q0 q1 HTK HRX HPZ
              obtain ⟨xs, xv, xl⟩ := x
              dsimp only at q0 q1 HRX HPZ
              obtain ⟨ax, cx, rfl⟩ := HRX.out.form
              have KW : Hid (∀ W, Below w.heap.size w W → W.cell? ⟨g, o + i * 2, none⟩ = some (.int .i64 xs) ∧ W.cell? ⟨g, o + i * 2 + 1, none⟩ = some (.slice ax xl.length cx)) := fun W hW => ⟨below_cell hW (hc _ _ q0), by have h9 := below_cell hW (hc _ _ q1); rw [← Nat.add_assoc] at h9; exact h9⟩
              have e1 : decide ((i : Int) < (n : Int)) = true := by rw [decide_eq_true_eq]; omega
              have e2 : decide (i < n) = true := by rw [decide_eq_true_eq]; omega
              have e5 : (i : Int) < (n : Int) := by omega
              have e6 : i < n := hi
              have HIL : Hid (i < n) := hi
              have hwr := w64n i (by have := HBT.out; have := HIL.out; omega)
              clear e0 hc hx q0 q1 hil hi HMP
              go_upto_region 13 with fail
              clear b2
              obtain ⟨WD, hWD⟩ : ∃ WD, wr.drew = WD := ⟨_, rfl⟩
              have BD : Hid (Below wr.heap.size wr WD) := by rw [← hWD]; exact Below.drew (Below.refl _ _)
              have BWD : Hid (Below w.heap.size w WD) := below_trans HBW.out BD.out
              have XD : Hid _ := HX.out.up BD.out
              have GD : Hid _ := HW.out.up BD.out
              have kd : Hid _ := KW.out WD BWD.out
              have c0' := rcell XD.out.o 2 (.slice ra m rc) rfl
              refine wp_region_noPanic ?_
              refine wp_region_held_drew (S := fun W => W.cell? ⟨g, o + i * 2, none⟩ = some (.int .i64 xs) ∧ W.cell? ⟨g, o + i * 2 + 1, none⟩ = some (.slice ax xl.length cx) ∧ W.cell? ⟨gb, 2, none⟩ = some (.slice (some ⟨g, o, none⟩) n c2)) (by kernel_rfl) (by rw [hWD]; exact ⟨kd.out.1, kd.out.2, rcell XD.out.g 2 _ rfl⟩) (fun hHeld => ?_)
              rw [hWD] at hHeld ⊢
              clear hWD
              refine wpAnyH_take (i := 0) (oi := { dst := _, op := _, type := _, pos := _, after := _, guard := _ }) (v := ?_) rfl (by kernel_rfl) (by kernel_rfl) (by kernel_rfl) (fun _ _ _ h => h) (Or.inl ⟨by rfl, ?_⟩) (by assumption) ?_
              rotate_left
              · intro W hSw
                (try dsimp only at hSw)
                go_simp
                (try with_reducible rfl)
              try simp only [Act.put, List.setIfInBounds_toArray, List.set_cons_zero, List.set_cons_succ]
              refine wpAnyH_take (i := 2) (oi := { dst := _, op := _, type := _, pos := _, after := _, guard := _ }) (v := ?_) rfl (by kernel_rfl) (by kernel_rfl) (by kernel_rfl) (fun _ _ _ h => h) (Or.inl ⟨by rfl, ?_⟩) (by assumption) ?_
              rotate_left
              · intro W hSw
                (try dsimp only at hSw)
                go_simp
                (try with_reducible rfl)
              try simp only [Act.put, List.setIfInBounds_toArray, List.set_cons_zero, List.set_cons_succ]
              refine wpAnyH_take (i := 3) (oi := { dst := _, op := _, type := _, pos := _, after := _, guard := _ }) (v := ?_) rfl (by kernel_rfl) (by kernel_rfl) (by kernel_rfl) (fun _ _ _ h => h) (Or.inl ⟨by rfl, ?_⟩) (by assumption) ?_
              rotate_left
              · intro W hSw
                (try dsimp only at hSw)
                go_simp
                (try with_reducible rfl)
              try simp only [Act.put, List.setIfInBounds_toArray, List.set_cons_zero, List.set_cons_succ]
              refine wpAnyH_take (i := 4) (oi := { dst := _, op := _, type := _, pos := _, after := _, guard := _ }) (v := ?_) rfl (by kernel_rfl) (by kernel_rfl) (by kernel_rfl) (fun _ _ _ h => h) (Or.inl ⟨by rfl, ?_⟩) (by assumption) ?_
              rotate_left
              · intro W hSw
                (try dsimp only at hSw)
                go_simp
                (try with_reducible rfl)
              try simp only [Act.put, List.setIfInBounds_toArray, List.set_cons_zero, List.set_cons_succ]
              refine wpAnyH_take (i := 5) (oi := { dst := _, op := _, type := _, pos := _, after := _, guard := _ }) (v := ?_) rfl (by kernel_rfl) (by kernel_rfl) (by kernel_rfl) (fun _ _ _ h => h) (Or.inl ⟨by rfl, ?_⟩) (by assumption) ?_
              rotate_left
              · intro W hSw
                (try dsimp only at hSw)
                go_simp
                (try with_reducible rfl)
              try simp only [Act.put, List.setIfInBounds_toArray, List.set_cons_zero, List.set_cons_succ]
              refine wpAnyH_take (i := 6) (oi := { dst := _, op := _, type := _, pos := _, after := _, guard := _ }) (v := ?_) rfl (by kernel_rfl) (by kernel_rfl) (by kernel_rfl) (fun _ _ _ h => h) (Or.inl ⟨by rfl, ?_⟩) (by assumption) ?_
              rotate_left
              · intro W hSw
                (try dsimp only at hSw)
                go_simp
                (try with_reducible rfl)
              try simp only [Act.put, List.setIfInBounds_toArray, List.set_cons_zero, List.set_cons_succ]
              refine wpAnyH_take (i := 7) (oi := { dst := _, op := _, type := _, pos := _, after := _, guard := _ }) (v := ?_) rfl (by kernel_rfl) (by kernel_rfl) (by kernel_rfl) (fun _ _ _ h => h) (Or.inl ⟨by rfl, ?_⟩) (by assumption) ?_
              rotate_left
              · intro W hSw
                (try dsimp only at hSw)
                go_simp
                (try with_reducible rfl)
              try simp only [Act.put, List.setIfInBounds_toArray, List.set_cons_zero, List.set_cons_succ]
              refine wpAnyH_take (i := 8) (oi := { dst := _, op := _, type := _, pos := _, after := _, guard := _ }) (v := ?_) rfl (by kernel_rfl) (by kernel_rfl) (by kernel_rfl) (fun _ _ _ h => h) (Or.inl ⟨by rfl, ?_⟩) (by assumption) ?_
              rotate_left
              · intro W hSw
                (try dsimp only at hSw)
                go_simp
                (try with_reducible rfl)
              try simp only [Act.put, List.setIfInBounds_toArray, List.set_cons_zero, List.set_cons_succ]
              refine wpAnyH_take (i := 9) (oi := { dst := _, op := _, type := _, pos := _, after := _, guard := _ }) (v := ?_) rfl (by kernel_rfl) (by kernel_rfl) (by kernel_rfl) (fun _ _ _ h => h) (Or.inl ⟨by rfl, ?_⟩) (by assumption) ?_
              rotate_left
              · intro W hSw
                (try dsimp only at hSw)
                go_simp
                (try with_reducible rfl)
              try simp only [Act.put, List.setIfInBounds_toArray, List.set_cons_zero, List.set_cons_succ]
              refine wpAnyH_take (i := 10) (oi := { dst := _, op := _, type := _, pos := _, after := _, guard := _ }) (v := ?_) rfl (by kernel_rfl) (by kernel_rfl) (by kernel_rfl) (fun _ _ _ h => h) (Or.inl ⟨by rfl, ?_⟩) (by assumption) ?_
              rotate_left
              · intro W hSw
                (try dsimp only at hSw)
                go_simp
                (try with_reducible rfl)
              try simp only [Act.put, List.setIfInBounds_toArray, List.set_cons_zero, List.set_cons_succ]
              refine wpAnyH_take (i := 11) (oi := { dst := _, op := _, type := _, pos := _, after := _, guard := _ }) (v := ?_) rfl (by kernel_rfl) (by kernel_rfl) (by kernel_rfl) (fun _ _ _ h => h) (Or.inl ⟨by rfl, ?_⟩) (by assumption) ?_
              rotate_left
              · intro W hSw
                (try dsimp only at hSw)
                go_simp
                (try with_reducible rfl)
              try simp only [Act.put, List.setIfInBounds_toArray, List.set_cons_zero, List.set_cons_succ]
              refine wpAnyH_take (i := 12) (oi := { dst := _, op := _, type := _, pos := _, after := _, guard := _ }) (v := ?_) rfl (by kernel_rfl) (by kernel_rfl) (by kernel_rfl) (fun _ _ _ h => h) (Or.inl ⟨by rfl, ?_⟩) (by assumption) ?_
              rotate_left
              · intro W hSw
                (try dsimp only at hSw)
                go_simp
                (try with_reducible rfl)
              try simp only [Act.put, List.setIfInBounds_toArray, List.set_cons_zero, List.set_cons_succ]
              refine wpAnyH_take (i := 13) (oi := { dst := _, op := _, type := _, pos := _, after := _, guard := _ }) (v := ?_) rfl (by kernel_rfl) (by kernel_rfl) (by kernel_rfl) (fun _ _ _ h => h) (Or.inl ⟨by rfl, ?_⟩) (by assumption) ?_
              rotate_left
              · intro W hSw
                (try dsimp only at hSw)
                go_simp
                (try with_reducible rfl)
              try simp only [Act.put, List.setIfInBounds_toArray, List.set_cons_zero, List.set_cons_succ]
              refine wpAnyH_ready (rs := [1, 14]) (by kernel_rfl) (by simp) ?_
              refine AllReadyH.cons (o := { dst := _, op := _, type := _, pos := _, after := _, guard := _ }) rfl (fun K hK => ?_) (AllReadyH.cons (o := { dst := _, op := _, type := _, pos := _, after := _, guard := _ }) rfl (fun K hK => ?_) (AllReadyH.nil))
              · go_simp
                refine hK.out _ _ ?_ (fun hHeld => ?_)
                · assumption
                clear hK K
                try simp only [Act.put, List.setIfInBounds_toArray, List.set_cons_zero, List.set_cons_succ]
                refine wpAnyH_ready (rs := [14]) (by kernel_rfl) (by simp) ?_
                refine AllReadyH.cons (o := { dst := _, op := _, type := _, pos := _, after := _, guard := _ }) rfl (fun K hK => ?_) AllReadyH.nil
                go_simp
                go_at_call 17
                refine (twinRow_any WD (HRX.out.up BWD.out) (by have := HPZ.out; omega)).mono ?_
                rintro e w2 ⟨u2, rfl, ho2, hb2⟩
                have B2 : Hid (Below WD.heap.size WD w2) := hb2
                have HO2 : Hid (w2.ownsRow w.heap.size 32 3 u2 xl.length (flat rf xl)) := row_base ho2 BWD.out.size
                have X2 : Hid _ := XD.out.up B2.out
                have G2 : Hid _ := GD.out.up B2.out
                have BW2 : Hid (Below w.heap.size w w2) := below_trans BWD.out B2.out
                have k2' : Hid _ := KW.out w2 BW2.out
                obtain ⟨ua, uc, rfl⟩ := row_shape ho2
                have c2' := rcell X2.out.o 2 (.slice ra m rc) rfl
                have XA : Hid _ := X2.out.up (bel_up w2 (.cells #[.int .i64 xs, .slice ua xl.length uc] 53))
                have GA : Hid _ := G2.out.up (bel_up w2 (.cells #[.int .i64 xs, .slice ua xl.length uc] 53))
                have cA := rcell XA.out.o 2 (.slice ra m rc) rfl
                have HOA : Hid _ := row_up HO2.out (bel_up w2 (.cells #[.int .i64 xs, .slice ua xl.length uc] 53))
                clear ho2 hb2
                refine hK.out _ _ ?_ (fun hHeld => ?_)
                · exact ⟨k2'.out.1, k2'.out.2, rcell X2.out.g 2 _ rfl⟩
                clear hK K
                try simp only [Act.put, List.setIfInBounds_toArray, List.set_cons_zero, List.set_cons_succ]
                refine wpAnyH_take (i := 15) (oi := { dst := _, op := _, type := _, pos := _, after := _, guard := _ }) (v := ?_) rfl (by kernel_rfl) (by kernel_rfl) (by kernel_rfl) (fun _ _ _ h => h) (Or.inl ⟨by rfl, ?_⟩) (by assumption) ?_
                rotate_left
                · intro W hSw
                  (try dsimp only at hSw)
                  go_simp
                  (try with_reducible rfl)
                try simp only [Act.put, List.setIfInBounds_toArray, List.set_cons_zero, List.set_cons_succ]
                refine wpAnyH_ready (rs := [16]) (by kernel_rfl) (by simp) ?_
                refine AllReadyH.cons (o := { dst := _, op := _, type := _, pos := _, after := _, guard := _ }) rfl (fun K hK => ?_) AllReadyH.nil
                go_simp
                refine hK.out _ _ ?_ (fun hHeld => ?_)
                · exact ⟨cell_up _ k2'.out.1, cell_up _ k2'.out.2, rcell XA.out.g 2 _ rfl⟩
                clear hK K
                try simp only [Act.put, List.setIfInBounds_toArray, List.set_cons_zero, List.set_cons_succ]
                refine wpAnyH_ready (rs := [17]) (by kernel_rfl) (by simp) ?_
                refine AllReadyH.cons (o := { dst := _, op := _, type := _, pos := _, after := _, guard := _ }) rfl (fun K hK => ?_) AllReadyH.nil
                refine step_append_lies _ rfl (.tmp 49) (.tmp 64) 24 rfl w.heap.size 53 i53 (.agg #[.int .i64 0, .slice none 0 0]) 2 32 Try.underlying24 HI53.out.1 HI53.out.2.1 HI53.out.2.2.1 HI53.out.2.2.2 rfl (by decide) (.slice ra m rc) m (flat pf Q) rfl (by have h9 := GA.out.p; rw [HM.out.2] at h9; exact h9) ⟨w2.heap.size, 0, none⟩ 1 1 [.int .i64 xs, .slice ua xl.length uc] rfl rfl (cell_two_new _ _ _ _) (by simp [Value.oneCell']) (by decide) (by have := HM.out; have := HIL.out; have := HBT.out; unfold maxLen; omega) (by have := HM.out; have := HIL.out; have := HBT.out; omega) (by have := BW2.out.size; simp; omega) (w2.heap.size + 1) (by simp) ?_
                intro g6 q6 w6 ho6 hg6 ha6 _
                have X6 : Hid _ := XA.out.grown GA.out.p (by decide) hg6
                have G6 : Hid _ := GA.out.app2 (xs, .slice ua xl.length uc, xl) HOA.out hg6 (by rw [HM.out.2]; exact ho6)
                have B6 : Hid (Below w.heap.size w w6) := (below_trans BW2.out (bel_up _ _)).grown hg6 (by have := BW2.out.size; simp; omega) (fun r e' => (row_tag GA.out.p r e').1)
                have kw : Hid _ := KW.out w6 B6.out
                have c6 := rcell X6.out.o 2 (.slice ra m rc) rfl
                have f6 : w6.frozen? ⟨ob, 2, none⟩ = false := Lib.frozen_of_heap X6.out.o 2
                clear ho6 hg6 ha6
                refine hK.out _ _ ?_ (fun hHeld => ?_)
                · exact ⟨kw.out.1, kw.out.2, rcell X6.out.g 2 _ rfl⟩
                clear hK K
                try simp only [Act.put, List.setIfInBounds_toArray, List.set_cons_zero, List.set_cons_succ]
                refine wpAnyH_take (i := 18) (oi := { dst := _, op := _, type := _, pos := _, after := _, guard := _ }) (v := ?_) rfl (by kernel_rfl) (by kernel_rfl) (by kernel_rfl) (fun _ _ _ h => h) (Or.inl ⟨by rfl, ?_⟩) (by assumption) ?_
                rotate_left
                · intro W hSw
                  (try dsimp only at hSw)
                  go_simp
                  (try with_reducible rfl)
                try simp only [Act.put, List.setIfInBounds_toArray, List.set_cons_zero, List.set_cons_succ]
                refine wpAnyH_ready (rs := [19]) (by kernel_rfl) (by simp) ?_
                refine AllReadyH.cons (o := { dst := _, op := _, type := _, pos := _, after := _, guard := _ }) rfl (fun K hK => ?_) AllReadyH.nil
                go_simp
                have X7 : Hid _ := X6.out.set (k := 2) (v := .slice (some ⟨g6, 0, none⟩) (m + 1) q6) HNE.out.1 HNE.out.2.1 (.slice y0 z0 k0) (.slice y1 z1 k1) (.slice (some ⟨g6, 0, none⟩) (m + 1) q6) rfl
                have B7 : Hid (Below w.heap.size w (w6.setCell ⟨ob, 2, none⟩ (.slice (some ⟨g6, 0, none⟩) (m + 1) q6))) := B6.out.setCell (p := ⟨ob, 2, none⟩) HOB.out.1 _
                have kz := KW.out _ B7.out
                refine hK.out _ _ ?_ (fun hHeld => ?_)
                · exact ⟨kz.1, kz.2, rcell X7.out.g 2 _ rfl⟩
                clear hK K
                try simp only [Act.put, List.setIfInBounds_toArray, List.set_cons_zero, List.set_cons_succ]
                refine wpAnyH_done (by kernel_rfl) ?_ _
                refine NoPanic.normal ?_
                clear hHeld
                have G7 : Hid _ := G6.out.off (k := 2) (u := .slice (some ⟨g6, 0, none⟩) (m + 1) q6) X6.out.o
                clear c6 f6
                go_wp2_with fail
                go_roundg (n - (i + 1))
                case measure => have := HI.out; have := HIL.out; omega
                case rel => exact ⟨i + 1, by first | rfl | (rw [show (i : Int) + 1 = ((i + 1 : Nat) : Int) by omega]), _, m + 1, _, _, ⟨by have := HM.out; omega, by rw [List.length_append, HM.out.2]; rfl⟩, B7, ⟨HIL.out, rfl⟩, X7, G7, by rw [HTK.out, List.map_append, List.map_append, HQ.out]; rfl⟩
              · go_simp
                go_at_call 17
                refine (twinRow_any WD (HRX.out.up BWD.out) (by have := HPZ.out; omega)).mono ?_
                rintro e w2 ⟨u2, rfl, ho2, hb2⟩
                have B2 : Hid (Below WD.heap.size WD w2) := hb2
                have HO2 : Hid (w2.ownsRow w.heap.size 32 3 u2 xl.length (flat rf xl)) := row_base ho2 BWD.out.size
                have X2 : Hid _ := XD.out.up B2.out
                have G2 : Hid _ := GD.out.up B2.out
                have BW2 : Hid (Below w.heap.size w w2) := below_trans BWD.out B2.out
                have k2' : Hid _ := KW.out w2 BW2.out
                obtain ⟨ua, uc, rfl⟩ := row_shape ho2
                have c2' := rcell X2.out.o 2 (.slice ra m rc) rfl
                have XA : Hid _ := X2.out.up (bel_up w2 (.cells #[.int .i64 xs, .slice ua xl.length uc] 53))
                have GA : Hid _ := G2.out.up (bel_up w2 (.cells #[.int .i64 xs, .slice ua xl.length uc] 53))
                have cA := rcell XA.out.o 2 (.slice ra m rc) rfl
                have HOA : Hid _ := row_up HO2.out (bel_up w2 (.cells #[.int .i64 xs, .slice ua xl.length uc] 53))
                clear ho2 hb2
                refine hK.out _ _ ?_ (fun hHeld => ?_)
                · exact ⟨k2'.out.1, k2'.out.2, rcell X2.out.g 2 _ rfl⟩
                clear hK K
                try simp only [Act.put, List.setIfInBounds_toArray, List.set_cons_zero, List.set_cons_succ]
                refine wpAnyH_take (i := 15) (oi := { dst := _, op := _, type := _, pos := _, after := _, guard := _ }) (v := ?_) rfl (by kernel_rfl) (by kernel_rfl) (by kernel_rfl) (fun _ _ _ h => h) (Or.inl ⟨by rfl, ?_⟩) (by assumption) ?_
                rotate_left
                · intro W hSw
                  (try dsimp only at hSw)
                  go_simp
                  (try with_reducible rfl)
                try simp only [Act.put, List.setIfInBounds_toArray, List.set_cons_zero, List.set_cons_succ]
                refine wpAnyH_ready (rs := [1, 16]) (by kernel_rfl) (by simp) ?_
                refine AllReadyH.cons (o := { dst := _, op := _, type := _, pos := _, after := _, guard := _ }) rfl (fun K hK => ?_) (AllReadyH.cons (o := { dst := _, op := _, type := _, pos := _, after := _, guard := _ }) rfl (fun K hK => ?_) (AllReadyH.nil))
                · go_simp
                  refine hK.out _ _ ?_ (fun hHeld => ?_)
                  · assumption
                  clear hK K
                  try simp only [Act.put, List.setIfInBounds_toArray, List.set_cons_zero, List.set_cons_succ]
                  refine wpAnyH_ready (rs := [16]) (by kernel_rfl) (by simp) ?_
                  refine AllReadyH.cons (o := { dst := _, op := _, type := _, pos := _, after := _, guard := _ }) rfl (fun K hK => ?_) AllReadyH.nil
                  go_simp
                  refine hK.out _ _ ?_ (fun hHeld => ?_)
                  · exact ⟨cell_up _ k2'.out.1, cell_up _ k2'.out.2, rcell XA.out.g 2 _ rfl⟩
                  clear hK K
                  try simp only [Act.put, List.setIfInBounds_toArray, List.set_cons_zero, List.set_cons_succ]
                  refine wpAnyH_ready (rs := [17]) (by kernel_rfl) (by simp) ?_
                  refine AllReadyH.cons (o := { dst := _, op := _, type := _, pos := _, after := _, guard := _ }) rfl (fun K hK => ?_) AllReadyH.nil
                  refine step_append_lies _ rfl (.tmp 49) (.tmp 64) 24 rfl w.heap.size 53 i53 (.agg #[.int .i64 0, .slice none 0 0]) 2 32 Try.underlying24 HI53.out.1 HI53.out.2.1 HI53.out.2.2.1 HI53.out.2.2.2 rfl (by decide) (.slice ra m rc) m (flat pf Q) rfl (by have h9 := GA.out.p; rw [HM.out.2] at h9; exact h9) ⟨w2.heap.size, 0, none⟩ 1 1 [.int .i64 xs, .slice ua xl.length uc] rfl rfl (cell_two_new _ _ _ _) (by simp [Value.oneCell']) (by decide) (by have := HM.out; have := HIL.out; have := HBT.out; unfold maxLen; omega) (by have := HM.out; have := HIL.out; have := HBT.out; omega) (by have := BW2.out.size; simp; omega) (w2.heap.size + 1) (by simp) ?_
                  intro g6 q6 w6 ho6 hg6 ha6 _
                  have X6 : Hid _ := XA.out.grown GA.out.p (by decide) hg6
                  have G6 : Hid _ := GA.out.app2 (xs, .slice ua xl.length uc, xl) HOA.out hg6 (by rw [HM.out.2]; exact ho6)
                  have B6 : Hid (Below w.heap.size w w6) := (below_trans BW2.out (bel_up _ _)).grown hg6 (by have := BW2.out.size; simp; omega) (fun r e' => (row_tag GA.out.p r e').1)
                  have kw : Hid _ := KW.out w6 B6.out
                  have c6 := rcell X6.out.o 2 (.slice ra m rc) rfl
                  have f6 : w6.frozen? ⟨ob, 2, none⟩ = false := Lib.frozen_of_heap X6.out.o 2
                  clear ho6 hg6 ha6
                  refine hK.out _ _ ?_ (fun hHeld => ?_)
                  · exact ⟨kw.out.1, kw.out.2, rcell X6.out.g 2 _ rfl⟩
                  clear hK K
                  try simp only [Act.put, List.setIfInBounds_toArray, List.set_cons_zero, List.set_cons_succ]
                  refine wpAnyH_take (i := 18) (oi := { dst := _, op := _, type := _, pos := _, after := _, guard := _ }) (v := ?_) rfl (by kernel_rfl) (by kernel_rfl) (by kernel_rfl) (fun _ _ _ h => h) (Or.inl ⟨by rfl, ?_⟩) (by assumption) ?_
                  rotate_left
                  · intro W hSw
                    (try dsimp only at hSw)
                    go_simp
                    (try with_reducible rfl)
                  try simp only [Act.put, List.setIfInBounds_toArray, List.set_cons_zero, List.set_cons_succ]
                  refine wpAnyH_ready (rs := [19]) (by kernel_rfl) (by simp) ?_
                  refine AllReadyH.cons (o := { dst := _, op := _, type := _, pos := _, after := _, guard := _ }) rfl (fun K hK => ?_) AllReadyH.nil
                  go_simp
                  have X7 : Hid _ := X6.out.set (k := 2) (v := .slice (some ⟨g6, 0, none⟩) (m + 1) q6) HNE.out.1 HNE.out.2.1 (.slice y0 z0 k0) (.slice y1 z1 k1) (.slice (some ⟨g6, 0, none⟩) (m + 1) q6) rfl
                  have B7 : Hid (Below w.heap.size w (w6.setCell ⟨ob, 2, none⟩ (.slice (some ⟨g6, 0, none⟩) (m + 1) q6))) := B6.out.setCell (p := ⟨ob, 2, none⟩) HOB.out.1 _
                  have kz := KW.out _ B7.out
                  refine hK.out _ _ ?_ (fun hHeld => ?_)
                  · exact ⟨kz.1, kz.2, rcell X7.out.g 2 _ rfl⟩
                  clear hK K
                  try simp only [Act.put, List.setIfInBounds_toArray, List.set_cons_zero, List.set_cons_succ]
                  refine wpAnyH_done (by kernel_rfl) ?_ _
                  refine NoPanic.normal ?_
                  clear hHeld
                  have G7 : Hid _ := G6.out.off (k := 2) (u := .slice (some ⟨g6, 0, none⟩) (m + 1) q6) X6.out.o
                  clear c6 f6
                  go_wp2_with fail
                  go_roundg (n - (i + 1))
                  case measure => have := HI.out; have := HIL.out; omega
                  case rel => exact ⟨i + 1, by first | rfl | (rw [show (i : Int) + 1 = ((i + 1 : Nat) : Int) by omega]), _, m + 1, _, _, ⟨by have := HM.out; omega, by rw [List.length_append, HM.out.2]; rfl⟩, B7, ⟨HIL.out, rfl⟩, X7, G7, by rw [HTK.out, List.map_append, List.map_append, HQ.out]; rfl⟩
                · go_simp
                  refine hK.out _ _ ?_ (fun hHeld => ?_)
                  · exact ⟨cell_up _ k2'.out.1, cell_up _ k2'.out.2, rcell XA.out.g 2 _ rfl⟩
                  clear hK K
                  try simp only [Act.put, List.setIfInBounds_toArray, List.set_cons_zero, List.set_cons_succ]
                  refine wpAnyH_ready (rs := [1]) (by kernel_rfl) (by simp) ?_
                  refine AllReadyH.cons (o := { dst := _, op := _, type := _, pos := _, after := _, guard := _ }) rfl (fun K hK => ?_) AllReadyH.nil
                  go_simp
                  refine hK.out _ _ ?_ (fun hHeld => ?_)
                  · assumption
                  clear hK K
                  try simp only [Act.put, List.setIfInBounds_toArray, List.set_cons_zero, List.set_cons_succ]
                  refine wpAnyH_ready (rs := [17]) (by kernel_rfl) (by simp) ?_
                  refine AllReadyH.cons (o := { dst := _, op := _, type := _, pos := _, after := _, guard := _ }) rfl (fun K hK => ?_) AllReadyH.nil
                  refine step_append_lies _ rfl (.tmp 49) (.tmp 64) 24 rfl w.heap.size 53 i53 (.agg #[.int .i64 0, .slice none 0 0]) 2 32 Try.underlying24 HI53.out.1 HI53.out.2.1 HI53.out.2.2.1 HI53.out.2.2.2 rfl (by decide) (.slice ra m rc) m (flat pf Q) rfl (by have h9 := GA.out.p; rw [HM.out.2] at h9; exact h9) ⟨w2.heap.size, 0, none⟩ 1 1 [.int .i64 xs, .slice ua xl.length uc] rfl rfl (cell_two_new _ _ _ _) (by simp [Value.oneCell']) (by decide) (by have := HM.out; have := HIL.out; have := HBT.out; unfold maxLen; omega) (by have := HM.out; have := HIL.out; have := HBT.out; omega) (by have := BW2.out.size; simp; omega) (w2.heap.size + 1) (by simp) ?_
                  intro g6 q6 w6 ho6 hg6 ha6 _
                  have X6 : Hid _ := XA.out.grown GA.out.p (by decide) hg6
                  have G6 : Hid _ := GA.out.app2 (xs, .slice ua xl.length uc, xl) HOA.out hg6 (by rw [HM.out.2]; exact ho6)
                  have B6 : Hid (Below w.heap.size w w6) := (below_trans BW2.out (bel_up _ _)).grown hg6 (by have := BW2.out.size; simp; omega) (fun r e' => (row_tag GA.out.p r e').1)
                  have kw : Hid _ := KW.out w6 B6.out
                  have c6 := rcell X6.out.o 2 (.slice ra m rc) rfl
                  have f6 : w6.frozen? ⟨ob, 2, none⟩ = false := Lib.frozen_of_heap X6.out.o 2
                  clear ho6 hg6 ha6
                  refine hK.out _ _ ?_ (fun hHeld => ?_)
                  · exact ⟨kw.out.1, kw.out.2, rcell X6.out.g 2 _ rfl⟩
                  clear hK K
                  try simp only [Act.put, List.setIfInBounds_toArray, List.set_cons_zero, List.set_cons_succ]
                  refine wpAnyH_take (i := 18) (oi := { dst := _, op := _, type := _, pos := _, after := _, guard := _ }) (v := ?_) rfl (by kernel_rfl) (by kernel_rfl) (by kernel_rfl) (fun _ _ _ h => h) (Or.inl ⟨by rfl, ?_⟩) (by assumption) ?_
                  rotate_left
                  · intro W hSw
                    (try dsimp only at hSw)
                    go_simp
                    (try with_reducible rfl)
                  try simp only [Act.put, List.setIfInBounds_toArray, List.set_cons_zero, List.set_cons_succ]
                  refine wpAnyH_ready (rs := [19]) (by kernel_rfl) (by simp) ?_
                  refine AllReadyH.cons (o := { dst := _, op := _, type := _, pos := _, after := _, guard := _ }) rfl (fun K hK => ?_) AllReadyH.nil
                  go_simp
                  have X7 : Hid _ := X6.out.set (k := 2) (v := .slice (some ⟨g6, 0, none⟩) (m + 1) q6) HNE.out.1 HNE.out.2.1 (.slice y0 z0 k0) (.slice y1 z1 k1) (.slice (some ⟨g6, 0, none⟩) (m + 1) q6) rfl
                  have B7 : Hid (Below w.heap.size w (w6.setCell ⟨ob, 2, none⟩ (.slice (some ⟨g6, 0, none⟩) (m + 1) q6))) := B6.out.setCell (p := ⟨ob, 2, none⟩) HOB.out.1 _
                  have kz := KW.out _ B7.out
                  refine hK.out _ _ ?_ (fun hHeld => ?_)
                  · exact ⟨kz.1, kz.2, rcell X7.out.g 2 _ rfl⟩
                  clear hK K
                  try simp only [Act.put, List.setIfInBounds_toArray, List.set_cons_zero, List.set_cons_succ]
                  refine wpAnyH_done (by kernel_rfl) ?_ _
                  refine NoPanic.normal ?_
                  clear hHeld
                  have G7 : Hid _ := G6.out.off (k := 2) (u := .slice (some ⟨g6, 0, none⟩) (m + 1) q6) X6.out.o
                  clear c6 f6
                  go_wp2_with fail
                  go_roundg (n - (i + 1))
                  case measure => have := HI.out; have := HIL.out; omega
                  case rel => exact ⟨i + 1, by first | rfl | (rw [show (i : Int) + 1 = ((i + 1 : Nat) : Int) by omega]), _, m + 1, _, _, ⟨by have := HM.out; omega, by rw [List.length_append, HM.out.2]; rfl⟩, B7, ⟨HIL.out, rfl⟩, X7, G7, by rw [HTK.out, List.map_append, List.map_append, HQ.out]; rfl⟩
            · have e1 : decide ((i : Int) < (n : Int)) = false := by rw [decide_eq_false_iff_not]; omega
              have e2 : decide (i < n) = false := by rw [decide_eq_false_iff_not]; omega
              have HIN : Hid (i = n) := by have := HI.out; show i = n; omega
              clear hi
              have o0 := rcell HX.out.o 0 (.slice y0 z0 k0) rfl
              have o1 := rcell HX.out.o 1 (.slice y1 z1 k1) rfl
              have o2 := rcell HX.out.o 2 (.slice ra m rc) rfl
              have r0 := rcell HX.out.r 0 (.slice none 0 0) rfl
              have r1 := rcell HX.out.r 1 (.slice none 0 0) rfl
              have r2 := rcell HX.out.r 2 (.slice none 0 0) rfl
              have z0' : wr.frozen? ⟨rb, 0, none⟩ = false := Lib.frozen_of_heap HX.out.r 0
              have z1' : wr.frozen? ⟨rb, 1, none⟩ = false := Lib.frozen_of_heap HX.out.r 1
              have z2' : wr.frozen? ⟨rb, 2, none⟩ = false := Lib.frozen_of_heap HX.out.r 2
              go_wp2_with fail
              (try simp only [Exit.inBlock, Exit.then])
              refine bodyPost_ret (v := .agg #[.slice y0 z0 k0, .slice y1 z1 k1, .slice ra m rc]) ?_ rfl ⟨_, _, _, Q, rfl, ?_, ?_, ?_⟩
              · rw [results_cell1 rfl]; go_simp
              · exact ((HW.out.off HX.out.r).off (blk_set _ HX.out.r)).off (blk_set _ (blk_set _ HX.out.r))
              · have h9 := HQ.out
                rw [HIN.out, ← HNN.out, List.take_length] at h9
                exact h9
              · exact ((HBW.out.setCell (p := ⟨rb, 0, none⟩) HOB.out.2 _).setCell (p := ⟨rb, 1, none⟩) HOB.out.2 _).setCell (p := ⟨rb, 2, none⟩) HOB.out.2 _
end Go.Proofs.Ytodncbkdlnepjaa
