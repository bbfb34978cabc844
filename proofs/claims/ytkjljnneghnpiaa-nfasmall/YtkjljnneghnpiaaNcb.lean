import Derived.Test.YtkjljnneghnpiaaNca
namespace Go.Proofs.Ytkjljnneghnpiaa
open Go.RowKit Go.Maps

theorem cell_four_new (w : World) (m : Nat → Bool) : ∀ (j : Nat) (u : Value), (oc m)[j]? = some u → (w.alloc (.cells #[.int .u64 (wd m 0 : Nat), .int .u64 (wd m 1 : Nat), .int .u64 (wd m 2 : Nat), .int .u64 (wd m 3 : Nat)] 40)).cell? ((⟨w.heap.size, 0, none⟩ : Addr).add j) = some u := by
  intro j u hj
  have hb := BoxC.new w m 40
  have e : (⟨w.heap.size, 0, none⟩ : Addr).add j = ⟨w.heap.size, j, none⟩ := by cases j <;> simp [Addr.add]
  rw [e]
  rcases j with _ | _ | _ | _ | j
  · cases hj; exact hb.c0
  · cases hj; exact hb.c1
  · cases hj; exact hb.c2
  · cases hj; exact hb.c3
  · cases hj
theorem BoxC.grownBy {W W' : World} {b : Nat} {m : Nat → Bool} {row : Option Nat} (h : BoxC W b m) (hg : W.grownBy W' row) (hne : row ≠ some b) : BoxC W' b m := by
  have e := hg.block b h.lt (fun e => hne e.symm)
  exact BoxC.of (fun k hk => by rw [World.cell?_of_block (a := ⟨b, k, none⟩) e]; exact h.get k hk) (fun o => by rw [World.frozen?_of_block (a := ⟨b, o, none⟩) e]; exact h.fr o)

/-- Nodes in blocks of their own stay. -/
def FrK (W W' : World) : Prop := ∀ (k : Nat) (cur : Array Value), W.heap[k]? = some (.cells cur 58 (0, 0)) → W'.heap[k]? = some (.cells cur 58 (0, 0))
theorem FrK.refl (W : World) : FrK W W := fun _ _ h => h
theorem FrK.trans {X Y Z : World} (h : FrK X Y) (k : FrK Y Z) : FrK X Z := fun i c hi => k i c (h i c hi)
theorem FrK.of {W W' : World} {row : Option Nat} (hg : W.grownBy W' row) (hr : ∀ r, row = some r → ∃ cur e, W.heap[r]? = some (.cells cur e (0, 0)) ∧ e ≠ 58) : FrK W W' := fun k cur hk =>
  (hg.block k (lt_of_heap hk) (fun e => by obtain ⟨c', t, h1, h2⟩ := hr k e.symm; rw [hk] at h1; cases h1; exact h2 rfl)).trans hk
theorem FrK.bel {W W' : World} (h : Below W.heap.size W W') : FrK W W' := FrK.of (grown_of_below h) (fun r e => by cases e)
theorem FrK.row {W W' : World} {B : Nat} {e : TypeId} {size n : Nat} {v : Value} {xs : List Value} (h : W.ownsRow B e size v n xs) (hg : W.grownBy W' v.ownBlock) (he : e ≠ 58) : FrK W W' := FrK.of hg (fun r e' => by obtain ⟨_, cur, h1⟩ := row_tag h r e'; exact ⟨cur, e, h1, he⟩)
theorem FrE.putTo {B : Nat} {W W2 : World} {vt vt' v : Value} {l : List Int} (h : FrE B W vt v l) (hg : W.grownBy W2 vt.ownBlock) (hl : vt'.ownBlock = vt.ownBlock ∨ ∃ r, vt'.ownBlock = some r ∧ W.heap.size ≤ r) : FrE B W2 vt' v l := by
  rcases h with h1 | ⟨g, e1, e0, e2, e3, e4⟩
  · exact .inl h1
  · refine .inr ⟨g, e1, e0, e2, fun e => ?_, (hg.block g (lt_of_heap e4) (fun e => e3 e.symm)).trans e4⟩
    rcases hl with h1 | ⟨r', h1, h2⟩
    · exact e3 (h1 ▸ e)
    · rw [e] at h1; cases h1; have := lt_of_heap e4; omega

set_option maxRecDepth 100000 in
set_option maxHeartbeats 4000000 in
theorem state_any {B bk : Nat} {on : List (Nat → Bool)} {tos : List Int} {fvs : List Value} {frs : List (List Int)} {st en : Int} {rv vo vt vf fv : Value} {l : List Int} (m : Nat → Bool) (x : Int) (W : World) (h : MkV B W bk on tos fvs frs st en rv vo vt vf) (hv : FrE B W vt fv l) (hn : on.length ≤ 1000000) (h1 : tos.length = on.length) (h2 : fvs.length = on.length) :
    Calls Try.prog 32 #[.pointer (some ⟨bk, 0, none⟩), CV m, .int .i64 x, fv] W fun e w' => e = .returned (.int .i64 (on.length : Int)) ∧ Below B W w' ∧ ∃ vo' vt' vf', MkV B w' bk (on ++ [m]) (tos ++ [x]) (fvs ++ [fv]) (frs ++ [l]) st en rv vo' vt' vf' ∧ FrK W w' := by
  have HN : Hid (on.length ≤ 1000000) := hn
  have HT : Hid (tos.length = on.length) := h1
  have HL : Hid (fvs.length = on.length) := h2
  have HM : Hid _ := h
  have HV : Hid (FrE B W vt fv l) := hv
  clear h hv hn h1 h2
  obtain ⟨i40, hi, hz0, hz1, hz2⟩ := info_parts info40
  have HI : Hid (Try.prog.info? 40 = some i40 ∧ i40.zero = some (.agg #[.int .u64 0, .int .u64 0, .int .u64 0, .int .u64 0]) ∧ i40.size = 4 ∧ i40.bytes = 32) := ⟨hi, hz0, hz1, hz2⟩
  clear hi hz0 hz1 hz2
  go_enter Try.func32, Try.ntmps32
  go_upto_region 1 with fail
  go_cut [8] from 9 (fun v wr => v = .int .i64 0 ∧ ∃ vo', MkV B wr bk (on ++ [m]) tos fvs frs st en rv vo' vt vf ∧ Below B W wr ∧ FrE B wr vt fv l ∧ FrK W wr)
  case first =>
    obtain ⟨WD, hWD⟩ : ∃ WD, (W.alloc (.cells #[.int .u64 (wd m 0 : Nat), .int .u64 (wd m 1 : Nat), .int .u64 (wd m 2 : Nat), .int .u64 (wd m 3 : Nat)] 40)).drew = WD := ⟨_, rfl⟩
    have hb0 : Below W.heap.size W WD := by rw [← hWD]; exact (bel_up _ _).drew
    have hMD := HM.out.below hb0
    have HMD : Hid (MkV B WD bk on tos fvs frs st en rv vo vt vf) := hMD
    have HBW : Hid (Below B W WD) := hb0.mono HM.out.lB
    have HKW : Hid (FrK W WD) := FrK.bel hb0
    have HVD : Hid (FrE B WD vt fv l) := HV.out.kept (grown_of_below hb0) (fun r e => by cases e)
    have hBX0 : BoxC WD W.heap.size m := by rw [← hWD]; exact (BoxC.new W m 40).drew
    have HBX : Hid (∀ (_ : Unit), vo.ownBlock = some W.heap.size → False) := fun _ e => by have := (HM.out.on.lt _ e).2; omega
    have HBK : Hid ((⟨bk, 0, none⟩ : Addr).block ≠ W.heap.size) := by have := lt_of_heap HM.out.blk; show bk ≠ W.heap.size; omega
    have k0 := hMD.cell 0 vo rfl
    have f0 := hMD.frz 0
    clear hMD hb0
    refine wp_region_noPanic ?_
    refine wp_region_held_drew (S := fun W' => BoxC W' W.heap.size m) (by kernel_rfl) (by rw [hWD]; exact hBX0) (fun hHeld => ?_)
    rw [hWD] at hHeld ⊢
    clear hWD hBX0
    refine wpAnyH_take (i := 0) (oi := { dst := _, op := _, type := _, pos := _, after := _, guard := _ }) (v := ?_) rfl (by kernel_rfl) (by kernel_rfl) (by kernel_rfl) (fun _ _ _ h => h) (Or.inl ⟨by rfl, ?_⟩) (by assumption) ?_
    rotate_left
    · intro W hSw
      (try dsimp only at hSw)
      go_simp
      (try with_reducible rfl)
    try simp only [Act.put, List.setIfInBounds_toArray, List.set_cons_zero, List.set_cons_succ]
    refine wpAnyH_take (i := 1) (oi := { dst := _, op := _, type := _, pos := _, after := _, guard := _ }) (v := ?_) rfl (by kernel_rfl) (by kernel_rfl) (by kernel_rfl) (fun _ _ _ h => h) (Or.inl ⟨by rfl, ?_⟩) (by assumption) ?_
    rotate_left
    · intro W hSw
      (try dsimp only at hSw)
      go_simp
      (try with_reducible rfl)
    try simp only [Act.put, List.setIfInBounds_toArray, List.set_cons_zero, List.set_cons_succ]
    refine wpAnyH_take (i := 2) (oi := { dst := _, op := _, type := _, pos := _, after := _, guard := _ }) (v := ?_) rfl (by kernel_rfl) (by kernel_rfl) (by kernel_rfl) (fun _ _ _ h => h) (Or.inl ⟨by rfl, ?_⟩) (by assumption) ?_
    rotate_left
    · intro W hSw
      (try dsimp only at hSw)
      go_simp
      (try with_reducible rfl)
    try simp only [Act.put, List.setIfInBounds_toArray, List.set_cons_zero, List.set_cons_succ]
    refine wpAnyH_take (i := 3) (oi := { dst := _, op := _, type := _, pos := _, after := _, guard := _ }) (v := ?_) rfl (by kernel_rfl) (by kernel_rfl) (by kernel_rfl) (fun _ _ _ h => h) (Or.inl ⟨by rfl, ?_⟩) (by assumption) ?_
    rotate_left
    · intro W hSw
      (try dsimp only at hSw)
      go_simp
      (try with_reducible rfl)
    try simp only [Act.put, List.setIfInBounds_toArray, List.set_cons_zero, List.set_cons_succ]
    refine wpAnyH_take (i := 4) (oi := { dst := _, op := _, type := _, pos := _, after := _, guard := _ }) (v := ?_) rfl (by kernel_rfl) (by kernel_rfl) (by kernel_rfl) (fun _ _ _ h => h) (Or.inl ⟨by rfl, ?_⟩) (by assumption) ?_
    rotate_left
    · intro W hSw
      (try dsimp only at hSw)
      go_simp
      (try with_reducible rfl)
    try simp only [Act.put, List.setIfInBounds_toArray, List.set_cons_zero, List.set_cons_succ]
    refine wpAnyH_take (i := 6) (oi := { dst := _, op := _, type := _, pos := _, after := _, guard := _ }) (v := ?_) rfl (by kernel_rfl) (by kernel_rfl) (by kernel_rfl) (fun _ _ _ h => h) (Or.inl ⟨by rfl, ?_⟩) (by assumption) ?_
    rotate_left
    · intro W hSw
      (try dsimp only at hSw)
      obtain ⟨s0, s1, s2, s3, _⟩ := hSw
      go_simp
      (try with_reducible rfl)
    try simp only [Act.put, List.setIfInBounds_toArray, List.set_cons_zero, List.set_cons_succ]
    refine wpAnyH_ready (rs := [5, 7]) (by kernel_rfl) (by simp) ?_
    refine AllReadyH.cons (o := { dst := _, op := _, type := _, pos := _, after := _, guard := _ }) rfl (fun K hK => ?_) (AllReadyH.cons (o := { dst := _, op := _, type := _, pos := _, after := _, guard := _ }) rfl (fun K hK => ?_) (AllReadyH.nil))
    · go_simp
      refine hK.out _ _ ?_ (fun hHeld => ?_)
      · exact hHeld
      clear hK K
      try simp only [Act.put, List.setIfInBounds_toArray, List.set_cons_zero, List.set_cons_succ]
      refine wpAnyH_ready (rs := [7]) (by kernel_rfl) (by simp) ?_
      refine AllReadyH.cons (o := { dst := _, op := _, type := _, pos := _, after := _, guard := _ }) rfl (fun K hK => ?_) AllReadyH.nil
      go_simp
      refine hK.out _ _ ?_ (fun hHeld => ?_)
      · exact hHeld.up _
      clear hK K
      try simp only [Act.put, List.setIfInBounds_toArray, List.set_cons_zero, List.set_cons_succ]
      have k0a : (WD.alloc (.cells #[.int .u64 (wd m 0 : Nat), .int .u64 (wd m 1 : Nat), .int .u64 (wd m 2 : Nat), .int .u64 (wd m 3 : Nat)] 40)).cell? ⟨bk, 0, none⟩ = some vo := cell_up _ k0
      refine wpAnyH_ready (rs := [8]) (by kernel_rfl) (by simp) ?_
      refine AllReadyH.cons (o := { dst := _, op := _, type := _, pos := _, after := _, guard := _ }) rfl (fun K hK => ?_) AllReadyH.nil
      refine step_append_lies _ rfl (.tmp 14) (.tmp 16) 22 rfl B 40 i40 _ 4 32 Try.underlying22 HI.out.1 HI.out.2.1 HI.out.2.2.1 HI.out.2.2.2 rfl (by decide) vo _ _ rfl (HMD.out.on.alloc _) ⟨WD.heap.size, 0, none⟩ 1 1 (oc m) rfl rfl (cell_four_new WD m) (by intro y hy; simp [oc] at hy; rcases hy with rfl | rfl | rfl | rfl <;> rfl) (by decide) (by have := HN.out; unfold maxLen; omega) (by have := HN.out; omega) (by have := HMD.out.lB; simp; omega) (WD.heap.size + 1) (by simp) ?_
      intro g' cap' w' h2 h3 h4 _
      have HO : Hid (w'.ownsRow B 40 4 (.slice (some ⟨g', 0, none⟩) (on.length + 1) cap') (on ++ [m]).length (onC (on ++ [m]))) := by rw [onC_app, List.length_append]; simp only [onC, List.append_nil, List.length_cons, List.length_nil, Nat.zero_add]; exact h2
      have HG : Hid (WD.grownBy w' vo.ownBlock) := (World.grownBy_alloc _ _ _).trans h3
      have k0b : w'.cell? ⟨bk, 0, none⟩ = some vo := h3.cell k0a (fun e => tag_ne_blk HMD.out.on HMD.out.blk (by decide) e.symm)
      have f0b : w'.frozen? ⟨bk, 0, none⟩ = false := Lib.frozen_of_heap ((HG.out.block bk (lt_of_heap HMD.out.blk) (fun e => tag_ne_blk HMD.out.on HMD.out.blk (by decide) e.symm)).trans HMD.out.blk) 0
      have hbx : BoxC w' W.heap.size m := BoxC.grownBy hHeld h3 (fun e => HBX.out () e)
      clear h2 h3 h4 k0 k0a
      refine hK.out _ _ ?_ (fun hHeld => ?_)
      · exact hbx
      clear hK K
      try simp only [Act.put, List.setIfInBounds_toArray, List.set_cons_zero, List.set_cons_succ]
      clear hbx
      refine wpAnyH_take (i := 9) (oi := { dst := _, op := _, type := _, pos := _, after := _, guard := _ }) (v := ?_) rfl (by kernel_rfl) (by kernel_rfl) (by kernel_rfl) (fun _ _ _ h => h) (Or.inl ⟨by rfl, ?_⟩) (by assumption) ?_
      rotate_left
      · intro W hSw
        (try dsimp only at hSw)
        go_simp
        (try with_reducible rfl)
      try simp only [Act.put, List.setIfInBounds_toArray, List.set_cons_zero, List.set_cons_succ]
      refine wpAnyH_take (i := 10) (oi := { dst := _, op := _, type := _, pos := _, after := _, guard := _ }) (v := ?_) rfl (by kernel_rfl) (by kernel_rfl) (by kernel_rfl) (fun _ _ _ h => h) (Or.inl ⟨by rfl, ?_⟩) (by assumption) ?_
      rotate_left
      · intro W hSw
        (try dsimp only at hSw)
        go_simp
        (try with_reducible rfl)
      try simp only [Act.put, List.setIfInBounds_toArray, List.set_cons_zero, List.set_cons_succ]
      refine wpAnyH_take (i := 11) (oi := { dst := _, op := _, type := _, pos := _, after := _, guard := _ }) (v := ?_) rfl (by kernel_rfl) (by kernel_rfl) (by kernel_rfl) (fun _ _ _ h => h) (Or.inl ⟨by rfl, ?_⟩) (by assumption) ?_
      rotate_left
      · intro W hSw
        (try dsimp only at hSw)
        go_simp
        (try with_reducible rfl)
      try simp only [Act.put, List.setIfInBounds_toArray, List.set_cons_zero, List.set_cons_succ]
      refine wpAnyH_ready (rs := [12]) (by kernel_rfl) (by simp) ?_
      refine AllReadyH.cons (o := { dst := _, op := _, type := _, pos := _, after := _, guard := _ }) rfl (fun K hK => ?_) AllReadyH.nil
      go_simp
      refine hK.out _ _ ?_ (fun hHeld => ?_)
      · exact hHeld.aside _ _ HBK.out
      clear hK K
      try simp only [Act.put, List.setIfInBounds_toArray, List.set_cons_zero, List.set_cons_succ]
      refine wpAnyH_done (by kernel_rfl) ?_ _
      clear hHeld
      refine NoPanic.normal ?_
      go_wp2_with fail
      go_meet
      obtain ⟨hk, hb⟩ := HMD.out.putOn HG.out HO.out
      exact ⟨rfl, _, hk, HBW.out.trans hb, (HVD.out.kept HG.out (fun r e => by obtain ⟨_, cur, e1⟩ := row_tag HMD.out.on r e; exact .inl ⟨cur, 40, e1, by decide⟩)).kept grown_set (fun r e => by cases e; exact .inl ⟨_, 64, (HG.out.block bk (lt_of_heap HMD.out.blk) (fun e => tag_ne_blk HMD.out.on HMD.out.blk (by decide) e.symm)).trans HMD.out.blk, by decide⟩), HKW.out.trans ((FrK.row HMD.out.on HG.out (by decide)).trans (FrK.of grown_set (fun r e => by cases e; exact ⟨_, 64, (HG.out.block bk (lt_of_heap HMD.out.blk) (fun e => tag_ne_blk HMD.out.on HMD.out.blk (by decide) e.symm)).trans HMD.out.blk, by decide⟩)))⟩
    · go_simp
      refine hK.out _ _ ?_ (fun hHeld => ?_)
      · exact hHeld.up _
      clear hK K
      try simp only [Act.put, List.setIfInBounds_toArray, List.set_cons_zero, List.set_cons_succ]
      have k0a : (WD.alloc (.cells #[.int .u64 (wd m 0 : Nat), .int .u64 (wd m 1 : Nat), .int .u64 (wd m 2 : Nat), .int .u64 (wd m 3 : Nat)] 40)).cell? ⟨bk, 0, none⟩ = some vo := cell_up _ k0
      refine wpAnyH_ready (rs := [5]) (by kernel_rfl) (by simp) ?_
      refine AllReadyH.cons (o := { dst := _, op := _, type := _, pos := _, after := _, guard := _ }) rfl (fun K hK => ?_) AllReadyH.nil
      go_simp
      refine hK.out _ _ ?_ (fun hHeld => ?_)
      · exact hHeld
      clear hK K
      try simp only [Act.put, List.setIfInBounds_toArray, List.set_cons_zero, List.set_cons_succ]
      refine wpAnyH_ready (rs := [8]) (by kernel_rfl) (by simp) ?_
      refine AllReadyH.cons (o := { dst := _, op := _, type := _, pos := _, after := _, guard := _ }) rfl (fun K hK => ?_) AllReadyH.nil
      refine step_append_lies _ rfl (.tmp 14) (.tmp 16) 22 rfl B 40 i40 _ 4 32 Try.underlying22 HI.out.1 HI.out.2.1 HI.out.2.2.1 HI.out.2.2.2 rfl (by decide) vo _ _ rfl (HMD.out.on.alloc _) ⟨WD.heap.size, 0, none⟩ 1 1 (oc m) rfl rfl (cell_four_new WD m) (by intro y hy; simp [oc] at hy; rcases hy with rfl | rfl | rfl | rfl <;> rfl) (by decide) (by have := HN.out; unfold maxLen; omega) (by have := HN.out; omega) (by have := HMD.out.lB; simp; omega) (WD.heap.size + 1) (by simp) ?_
      intro g' cap' w' h2 h3 h4 _
      have HO : Hid (w'.ownsRow B 40 4 (.slice (some ⟨g', 0, none⟩) (on.length + 1) cap') (on ++ [m]).length (onC (on ++ [m]))) := by rw [onC_app, List.length_append]; simp only [onC, List.append_nil, List.length_cons, List.length_nil, Nat.zero_add]; exact h2
      have HG : Hid (WD.grownBy w' vo.ownBlock) := (World.grownBy_alloc _ _ _).trans h3
      have k0b : w'.cell? ⟨bk, 0, none⟩ = some vo := h3.cell k0a (fun e => tag_ne_blk HMD.out.on HMD.out.blk (by decide) e.symm)
      have f0b : w'.frozen? ⟨bk, 0, none⟩ = false := Lib.frozen_of_heap ((HG.out.block bk (lt_of_heap HMD.out.blk) (fun e => tag_ne_blk HMD.out.on HMD.out.blk (by decide) e.symm)).trans HMD.out.blk) 0
      have hbx : BoxC w' W.heap.size m := BoxC.grownBy hHeld h3 (fun e => HBX.out () e)
      clear h2 h3 h4 k0 k0a
      refine hK.out _ _ ?_ (fun hHeld => ?_)
      · exact hbx
      clear hK K
      try simp only [Act.put, List.setIfInBounds_toArray, List.set_cons_zero, List.set_cons_succ]
      clear hbx
      refine wpAnyH_take (i := 9) (oi := { dst := _, op := _, type := _, pos := _, after := _, guard := _ }) (v := ?_) rfl (by kernel_rfl) (by kernel_rfl) (by kernel_rfl) (fun _ _ _ h => h) (Or.inl ⟨by rfl, ?_⟩) (by assumption) ?_
      rotate_left
      · intro W hSw
        (try dsimp only at hSw)
        go_simp
        (try with_reducible rfl)
      try simp only [Act.put, List.setIfInBounds_toArray, List.set_cons_zero, List.set_cons_succ]
      refine wpAnyH_take (i := 10) (oi := { dst := _, op := _, type := _, pos := _, after := _, guard := _ }) (v := ?_) rfl (by kernel_rfl) (by kernel_rfl) (by kernel_rfl) (fun _ _ _ h => h) (Or.inl ⟨by rfl, ?_⟩) (by assumption) ?_
      rotate_left
      · intro W hSw
        (try dsimp only at hSw)
        go_simp
        (try with_reducible rfl)
      try simp only [Act.put, List.setIfInBounds_toArray, List.set_cons_zero, List.set_cons_succ]
      refine wpAnyH_take (i := 11) (oi := { dst := _, op := _, type := _, pos := _, after := _, guard := _ }) (v := ?_) rfl (by kernel_rfl) (by kernel_rfl) (by kernel_rfl) (fun _ _ _ h => h) (Or.inl ⟨by rfl, ?_⟩) (by assumption) ?_
      rotate_left
      · intro W hSw
        (try dsimp only at hSw)
        go_simp
        (try with_reducible rfl)
      try simp only [Act.put, List.setIfInBounds_toArray, List.set_cons_zero, List.set_cons_succ]
      refine wpAnyH_ready (rs := [12]) (by kernel_rfl) (by simp) ?_
      refine AllReadyH.cons (o := { dst := _, op := _, type := _, pos := _, after := _, guard := _ }) rfl (fun K hK => ?_) AllReadyH.nil
      go_simp
      refine hK.out _ _ ?_ (fun hHeld => ?_)
      · exact hHeld.aside _ _ HBK.out
      clear hK K
      try simp only [Act.put, List.setIfInBounds_toArray, List.set_cons_zero, List.set_cons_succ]
      refine wpAnyH_done (by kernel_rfl) ?_ _
      clear hHeld
      refine NoPanic.normal ?_
      go_wp2_with fail
      go_meet
      obtain ⟨hk, hb⟩ := HMD.out.putOn HG.out HO.out
      exact ⟨rfl, _, hk, HBW.out.trans hb, (HVD.out.kept HG.out (fun r e => by obtain ⟨_, cur, e1⟩ := row_tag HMD.out.on r e; exact .inl ⟨cur, 40, e1, by decide⟩)).kept grown_set (fun r e => by cases e; exact .inl ⟨_, 64, (HG.out.block bk (lt_of_heap HMD.out.blk) (fun e => tag_ne_blk HMD.out.on HMD.out.blk (by decide) e.symm)).trans HMD.out.blk, by decide⟩), HKW.out.trans ((FrK.row HMD.out.on HG.out (by decide)).trans (FrK.of grown_set (fun r e => by cases e; exact ⟨_, 64, (HG.out.block bk (lt_of_heap HMD.out.blk) (fun e => tag_ne_blk HMD.out.on HMD.out.blk (by decide) e.symm)).trans HMD.out.blk, by decide⟩)))⟩
  case rest =>
    obtain ⟨rfl, vo', hm, hb, hv1, hk1⟩ := hcut
    have HK1 : Hid (FrK W wc) := hk1
    clear hk1
    have HV1 : Hid (FrE B wc vt fv l) := hv1
    clear hv1 HV
    have HM1 : Hid (MkV B wc bk (on ++ [m]) tos fvs frs st en rv vo' vt vf) := hm
    have HB1 : Hid (Below B W wc) := hb
    have k1 := hm.cell 1 vt rfl
    have k1a : ∀ o, (wc.alloc o).cell? ⟨bk, 1, none⟩ = some vt := fun o => cell_up o k1
    have f1 := hm.frz 1
    obtain ⟨i3, hi3, hy0, hy1, hy2⟩ := info_parts info3
    obtain ⟨i23, hi23, hx0, hx1, hx2⟩ := info_parts info23
    have HROW1 : Hid ((wc.alloc (.cells #[.int .i64 x] 3)).ownsRow B 3 1 vt tos.length (tos.map (Value.int .i64))) := hm.tos.alloc _
    have HLB1 : Hid (B ≤ (wc.alloc (.cells #[.int .i64 x] 3)).heap.size) := by have := hm.lB; simp [Hid]; omega
    have htl : tos.length ≤ 1000000 := by have := HN.out; have := HT.out; omega
    have hfl : fvs.length ≤ 1000000 := by have := HN.out; have := HL.out; omega
    have HVF : Hid (∃ av nv cv, fv = .slice av nv cv) := by
      rcases HV1.out with ⟨rfl, _⟩ | ⟨g, rfl, _⟩
      · exact ⟨_, _, _, rfl⟩
      · exact ⟨_, _, _, rfl⟩
    obtain ⟨av, nv, cv, rfl⟩ := HVF.out
    clear hm hb HM
    go_upto_region 3 with (first
      | (at_builtin; refine wpList_append_own_at _ rfl _ _ 23 rfl B 3 i3 (.int .i64 0) 1 8 Try.underlying23 hi3 hy0 hy1 hy2 rfl (by decide) _ _ _ rfl HROW1.out ⟨wc.heap.size, 0, none⟩ 1 1 [.int .i64 x] rfl rfl (cell_one_new _ _ _) (ints_oneCell .i64 [x]) (by unfold maxLen; omega) (by omega) HLB1.out ?_; intro vt' W2 hown' hgrow hnil hloc; have HOWN : Hid _ := hown'; have HGROW : Hid _ := hgrow; have HLOC : Hid _ := hloc; obtain ⟨g', cap', rfl⟩ := ownsRow_succ hown'; have k1b : W2.cell? ⟨bk, 1, none⟩ = some vt := hgrow.cell (k1a _) (fun e => tag_ne_blk HM1.out.tos HM1.out.blk (by decide) e.symm); have f1b : W2.frozen? ⟨bk, 1, none⟩ = false := Lib.frozen_of_heap ((((World.grownBy_alloc wc _ vt.ownBlock).trans hgrow).block bk (lt_of_heap HM1.out.blk) (fun e => tag_ne_blk HM1.out.tos HM1.out.blk (by decide) e.symm)).trans HM1.out.blk) 1; clear hown' hgrow hnil hloc)
      | fail)
    have hown : W2.ownsRow B 3 1 (.slice (some ⟨g', 0, none⟩) (tos.length + 1) cap') (tos ++ [x]).length ((tos ++ [x]).map (Value.int .i64)) := by
      rw [show (tos ++ [x]).length = tos.length + 1 by simp, show (tos ++ [x]).map (Value.int .i64) = tos.map (Value.int .i64) ++ [Value.int .i64 x] by simp]
      exact HOWN.out
    obtain ⟨hm2, hb2⟩ := HM1.out.putTo (x := x) ((World.grownBy_alloc wc _ vt.ownBlock).trans HGROW.out) hown (by
      have h := HLOC.out
      rw [World.size_alloc] at h
      rcases h with h | h
      · exact .inl h
      · exact .inr ⟨_, h, by omega⟩)
    obtain ⟨W3, hW3⟩ : ∃ W3, W3 = W2.setCell ⟨bk, 1, none⟩ (.slice (some ⟨g', 0, none⟩) (tos.length + 1) cap') := ⟨_, rfl⟩
    rw [← hW3] at hm2 hb2 ⊢
    have HM2 : Hid (MkV B W3 bk (on ++ [m]) (tos ++ [x]) fvs frs st en rv vo' (.slice (some ⟨g', 0, none⟩) (tos.length + 1) cap') vf) := hm2
    have HB2 : Hid (Below B W W3) := HB1.out.trans hb2
    have HK2 : Hid (FrK W W3) := by
      rw [hW3]
      exact HK1.out.trans ((FrK.row HM1.out.tos ((World.grownBy_alloc wc _ vt.ownBlock).trans HGROW.out) (by decide)).trans (FrK.of grown_set (fun r e => by cases e; exact ⟨_, 64, (((World.grownBy_alloc wc _ vt.ownBlock).trans HGROW.out).block bk (lt_of_heap HM1.out.blk) (fun e => tag_ne_blk HM1.out.tos HM1.out.blk (by decide) e.symm)).trans HM1.out.blk, by decide⟩)))
    have HV2 : Hid (FrE B W3 (.slice (some ⟨g', 0, none⟩) (tos.length + 1) cap') (.slice av nv cv) l) := by
      rw [hW3]
      refine (HV1.out.putTo ((World.grownBy_alloc wc _ vt.ownBlock).trans HGROW.out) (by
        have h := HLOC.out
        rw [World.size_alloc] at h
        rcases h with h | h
        · exact .inl h
        · exact .inr ⟨_, h, by omega⟩)).kept grown_set (fun r e => by cases e; exact .inl ⟨_, 64, (((World.grownBy_alloc wc _ vt.ownBlock).trans HGROW.out).block bk (lt_of_heap HM1.out.blk) (fun e => tag_ne_blk HM1.out.tos HM1.out.blk (by decide) e.symm)).trans HM1.out.blk, by decide⟩)
    have k2 := hm2.cell 2 vf rfl
    have k2a : ∀ o, (W3.alloc o).cell? ⟨bk, 2, none⟩ = some vf := fun o => cell_up o k2
    have f2 := hm2.frz 2
    have k0 := hm2.cell 0 vo' rfl
    have hsh : ∃ ao co, vo' = .slice ao (on.length + 1) co := by
      rcases hm2.on.2 with ⟨_, h⟩ | ⟨g0, c0, _, h, _⟩
      · simp at h
      · exact ⟨_, c0, by rw [h, List.length_append]; rfl⟩
    obtain ⟨ao, co, rfl⟩ := hsh
    have HROW2 : Hid ((W3.alloc (.cells #[.slice av nv cv] 23)).ownsRow B 23 1 vf fvs.length fvs) := hm2.fr.alloc _
    have HLB2 : Hid (B ≤ (W3.alloc (.cells #[.slice av nv cv] 23)).heap.size) := by have := hm2.lB; simp [Hid]; omega
    clear hm2 hb2 hown hW3 k1 k1a f1 HOWN HGROW HLOC HM1 k1b f1b
    go_upto_region 4 with (first
      | (at_builtin; refine wpList_append_own_at _ rfl _ _ 24 rfl B 23 i23 (.slice none 0 0) 1 24 Try.underlying24 hi23 hx0 hx1 hx2 rfl (by decide) _ _ _ rfl HROW2.out ⟨W3.heap.size, 0, none⟩ 1 1 [.slice av nv cv] rfl rfl (cell_one_new _ _ _) (by simp [Value.oneCell']) (by unfold maxLen; omega) (by omega) HLB2.out ?_; intro vf' W4 hown' hgrow hnil hloc; have HOWN : Hid _ := hown'; have HGROW : Hid _ := hgrow; obtain ⟨g5, cap5, rfl⟩ := ownsRow_succ hown'; have k2b : W4.cell? ⟨bk, 2, none⟩ = some vf := hgrow.cell (k2a _) (fun e => tag_ne_blk HM2.out.fr HM2.out.blk (by decide) e.symm); have f2b : W4.frozen? ⟨bk, 2, none⟩ = false := Lib.frozen_of_heap ((((World.grownBy_alloc W3 _ vf.ownBlock).trans hgrow).block bk (lt_of_heap HM2.out.blk) (fun e => tag_ne_blk HM2.out.fr HM2.out.blk (by decide) e.symm)).trans HM2.out.blk) 2; clear hown' hgrow hnil hloc)
      | fail)
    have hown : W4.ownsRow B 23 1 (.slice (some ⟨g5, 0, none⟩) (fvs.length + 1) cap5) (fvs ++ [Value.slice av nv cv]).length (fvs ++ [Value.slice av nv cv]) := by
      rw [show (fvs ++ [Value.slice av nv cv]).length = fvs.length + 1 by simp]
      exact HOWN.out
    obtain ⟨hm3, hb3⟩ := HM2.out.putFr ((World.grownBy_alloc W3 _ vf.ownBlock).trans HGROW.out) hown HV2.out
    obtain ⟨W5, hW5⟩ : ∃ W5, W5 = W4.setCell ⟨bk, 2, none⟩ (.slice (some ⟨g5, 0, none⟩) (fvs.length + 1) cap5) := ⟨_, rfl⟩
    rw [← hW5] at hm3 hb3 ⊢
    have HM3 : Hid _ := hm3
    have HB3 : Hid (Below B W W5) := HB2.out.trans hb3
    have HK3 : Hid (FrK W W5) := by
      rw [hW5]
      exact HK2.out.trans ((FrK.row HM2.out.fr ((World.grownBy_alloc W3 _ vf.ownBlock).trans HGROW.out) (by decide)).trans (FrK.of grown_set (fun r e => by cases e; exact ⟨_, 64, (((World.grownBy_alloc W3 _ vf.ownBlock).trans HGROW.out).block bk (lt_of_heap HM2.out.blk) (fun e => tag_ne_blk HM2.out.fr HM2.out.blk (by decide) e.symm)).trans HM2.out.blk, by decide⟩)))
    have k5 := hm3.cell 0 _ rfl
    have hol : on.length ≤ 1000000 := HN.out
    clear hm3 hb3 hown hW5 k0 k2 k2a f2 HOWN HGROW k2b f2b
    go_wp2_with fail
    go_ret
    exact ⟨rfl, HB3.out, _, _, _, HM3.out, HK3.out⟩
end Go.Proofs.Ytkjljnneghnpiaa
