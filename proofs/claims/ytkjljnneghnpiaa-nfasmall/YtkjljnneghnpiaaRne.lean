import Derived.Test.YtkjljnneghnpiaaRyc
namespace Go.Proofs.Ytkjljnneghnpiaa
open Go.RowKit Go.Maps

theorem row_base {W : World} {B B' : Nat} {e : TypeId} {s : Nat} {v : Value} {n : Nat} {cs : List Value} (h : W.ownsRow B e s v n cs) (hb : B' ≤ B) : W.ownsRow B' e s v n cs := by
  obtain ⟨h0, h1 | ⟨g, cap, cur, h1, h2, h3⟩⟩ := h
  · exact ⟨h0, .inl h1⟩
  · exact ⟨h0, .inr ⟨g, cap, cur, h1, Nat.le_trans hb h2, h3⟩⟩
theorem dj_of {a b : Value} {k : Nat} (h1 : ∀ r, a.ownBlock = some r → r < k) (h2 : ∀ r, b.ownBlock = some r → k ≤ r) : dj a b := by
  cases ha : a.ownBlock with
  | none => exact .inl ha
  | some r =>
    cases hb : b.ownBlock with
    | none => exact .inr (.inl hb)
    | some q =>
      refine .inr (.inr ?_)
      rw [ha, hb]
      intro e
      cases e
      have := h1 r ha
      have := h2 r hb
      omega
theorem Tr.dj_new {B : Nat} {W W' : World} {on : List (Nat → Bool)} {tos : List Int} {fvs : List Value} {frs : List (List Int)} {ns : List Nat} {vo vt vf : Value} {no nt nf : Nat} (h : Tr B W on tos fvs frs ns vo no vt nt vf nf) {v : Value} {n : Nat} {cs : List Value} (hv : W'.ownsRow W.heap.size 3 1 v n cs) : (∀ k, k < fvs.length → dj (fvs.getD k undef) v) ∧ dj v vt :=
  ⟨fun k hk => dj_of (k := W.heap.size) (fun r e => by obtain ⟨_, c, hc⟩ := (h.el k hk).tag r e; exact lt_of_heap hc) (fun r e => (row_tag hv r e).1), (dj_of (k := W.heap.size) (fun r e => by obtain ⟨_, c, hc⟩ := h.tos.tag r e; exact lt_of_heap hc) (fun r e => (row_tag hv r e).1)).symm⟩
theorem bel_set5 {w W : World} (h : Below w.heap.size w W) (x y z u t : Value) : Below w.heap.size w (((((W.setCell ⟨w.heap.size + 1, 0, none⟩ x).setCell ⟨w.heap.size + 1, 1, none⟩ y).setCell ⟨w.heap.size + 1, 2, none⟩ z).setCell ⟨w.heap.size + 1, 3, none⟩ u).setCell ⟨w.heap.size + 1, 4, none⟩ t) :=
  have hr : w.heap.size ≤ w.heap.size + 1 := Nat.le_succ _
  Below.setCell (Below.setCell (Below.setCell (Below.setCell (Below.setCell h hr _) hr _) hr _) hr _) hr _
set_option maxRecDepth 100000 in
set_option maxHeartbeats 8000000 in
theorem twin_any {vo vt vf : Value} {N : Mc} (hs : Small N) (w : World) (h1 : Parts w.heap.size w vo vt vf N) :
    Calls Try.prog 8 #[nfW vo vt vf N] w fun e w' => ∃ fvs xo xt xf, e = .returned (nfW xo xt xf N) ∧ Tr w.heap.size w' N.on N.tos fvs N.free (N.free.map List.length) xo N.on.length xt N.tos.length xf N.free.length ∧ Below w.heap.size w w' := by
  obtain ⟨i40, hi40, hz0, hz1, hz2⟩ := info_parts info40
  obtain ⟨i3, hi3, hy0, hy1, hy2⟩ := info_parts info3
  obtain ⟨i23, hi23, hx0, hx1, hx2⟩ := info_parts info23
  have HS : Hid (Small N) := hs
  have HP : Hid (∀ W, Below w.heap.size w W → Parts w.heap.size W vo vt vf N) := fun W hW => h1.mono hW (Nat.le_refl _)
  obtain ⟨a1, c1, a2, c2, a3, c3, rfl, rfl, rfl⟩ := h1.shape
  clear h1 hs
  go_enter Try.func8, Try.ntmps8
  go_upto_region 2 with fail
  obtain ⟨W1, hW1⟩ : ∃ W1, W1 = ((w.alloc (.cells #[.slice a1 N.on.length c1, .slice a2 N.tos.length c2, .slice a3 N.free.length c3, .int .i64 N.start, .int .i64 N.fin] 26)).alloc (.cells #[.slice none 0 0, .slice none 0 0, .slice none 0 0, .int .i64 0, .int .i64 0] 26)).alloc (.cells #[.slice none 0 0, .slice none 0 0, .slice none 0 0, .int .i64 N.start, .int .i64 N.fin] 26) := ⟨_, rfl⟩
  rw [← hW1]
  have HT1 : Hid (Tk w W1 (.slice a1 N.on.length c1) (.slice a2 N.tos.length c2) (.slice a3 N.free.length c3) N [] [] [] [] [] (.slice none 0 0) 0 (.slice none 0 0) 0 (.slice none 0 0) 0) := by
    rw [hW1]
    refine ⟨below_trans (bel_up _ _) (below_trans (bel_up _ _) (bel_up _ _)), ?_, ?_, ?_, ?_⟩
    · rw [(below_trans (bel_up _ _) (bel_up _ _)).block _ (by simp)]; exact World.alloc_heap_new w _
    · have h := World.alloc_heap_new (w.alloc (.cells #[.slice a1 N.on.length c1, .slice a2 N.tos.length c2, .slice a3 N.free.length c3, .int .i64 N.start, .int .i64 N.fin] 26)) (.cells #[.slice none 0 0, .slice none 0 0, .slice none 0 0, .int .i64 0, .int .i64 0] 26)
      rw [World.size_alloc] at h
      rw [(bel_up _ _).block _ (by simp)]; exact h
    · have h := World.alloc_heap_new ((w.alloc (.cells #[.slice a1 N.on.length c1, .slice a2 N.tos.length c2, .slice a3 N.free.length c3, .int .i64 N.start, .int .i64 N.fin] 26)).alloc (.cells #[.slice none 0 0, .slice none 0 0, .slice none 0 0, .int .i64 0, .int .i64 0] 26)) (.cells #[.slice none 0 0, .slice none 0 0, .slice none 0 0, .int .i64 N.start, .int .i64 N.fin] 26)
      rw [World.size_alloc, World.size_alloc] at h
      exact h
    · exact ⟨Sh.full (World.ownsRow_nil _ _ _ _), Sh.full (World.ownsRow_nil _ _ _ _), Sh.full (World.ownsRow_nil _ _ _ _), rfl, rfl, (fun i hi => by cases hi), (fun i j hi => by cases hi), (fun i hi => by cases hi), by simp; omega⟩
  clear hW1
  go_wp2_with fail
  go_loopg [4] N.on.length (fun gm v4 wr => ∃ i : Nat, v4 = .int .i64 (i : Int) ∧ Hid (i ≤ N.on.length ∧ gm = N.on.length - i) ∧ ∃ xo, Hid (Tk w wr (.slice a1 N.on.length c1) (.slice a2 N.tos.length c2) (.slice a3 N.free.length c3) N (N.on.take i) [] [] [] [] xo i (.slice none 0 0) 0 (.slice none 0 0) 0))
  case atStart => exact ⟨0, rfl, ⟨Nat.zero_le _, rfl⟩, _, HT1⟩
  case round =>
    obtain ⟨i, rfl, HII, xo, HT⟩ := hrel
    have t0 : wr.cell? ⟨w.heap.size, 0, none⟩ = some (.slice a1 N.on.length c1) := by rw [Lib.cell_of_heap HT.out.b0]; rfl
    by_cases hi : i < N.on.length
    · have e1 : decide ((i : Int) < (N.on.length : Int)) = true := by rw [decide_eq_true_eq]; omega
      have e2 : decide (i < N.on.length) = true := by rw [decide_eq_true_eq]; omega
      have e3 : (i : Int) < (N.on.length : Int) := by omega
      have HIL : Hid (i < N.on.length) := hi
      obtain ⟨g, o, cap, hv, _, _, _, _⟩ := (HP.out w (Below.refl _ _)).on.at i hi
      injection hv with hv hv2 hv3
      subst hv hv3
      have HSRC : Hid (∀ W, Below w.heap.size w W → W.cell? ⟨g, o + i * 4, none⟩ = some (.int .u64 (wd (N.on.getD i (fun _ => false)) 0 : Nat)) ∧ W.cell? ⟨g, o + i * 4 + 1, none⟩ = some (.int .u64 (wd (N.on.getD i (fun _ => false)) 1 : Nat)) ∧ W.cell? ⟨g, o + i * 4 + 2, none⟩ = some (.int .u64 (wd (N.on.getD i (fun _ => false)) 2 : Nat)) ∧ W.cell? ⟨g, o + i * 4 + 3, none⟩ = some (.int .u64 (wd (N.on.getD i (fun _ => false)) 3 : Nat))) := fun W hW => by
        obtain ⟨g', o', cap', e', k0, k1, k2, k3⟩ := (HP.out W hW).on.at i hi
        injection e' with e' _ _
        injection e' with e'
        injection e' with e1 e2
        subst e1 e2
        exact ⟨k0, k1, k2, k3⟩
      have HTS : Hid (N.on.take (i + 1) = N.on.take i ++ [N.on.getD i (fun _ => false)]) := take_snoc _ _ _ hi
      obtain ⟨m, hm⟩ : ∃ m, N.on.getD i (fun _ => false) = m := ⟨_, rfl⟩
      rw [hm] at HSRC HTS
      have hwi := w64 i (by have := HS.out.on; omega)
      obtain ⟨n, hn⟩ : ∃ n, i = n := ⟨_, rfl⟩
      have HNI : Hid (i = n) := hn
      have HNE : Hid ((N.on.take i).length = n) := by rw [List.length_take, ← hn]; exact Nat.min_eq_left (Nat.le_of_lt hi)
      have HNL : Hid (n ≤ 1048576) := hn ▸ Nat.le_of_lt (Nat.lt_of_lt_of_le hi HS.out.on)
      obtain ⟨ra, rc, hxo, _, _⟩ := HT.out.tr.on
      rw [hn] at hxo
      subst hxo
      clear hi hm hv2 hn
      go_upto_region 5 with fail
      obtain ⟨WD, hWD⟩ : ∃ WD, wr.drew = WD := ⟨_, rfl⟩
      have HTD : Hid _ := HT.out.below (Below.drew (Below.refl _ wr))
      rw [hWD] at HTD
      have hrow := HTD.out.tr.on
      rw [HNE.out, HNI.out] at hrow
      have HROW : Hid (WD.ownsRow w.heap.size 40 4 (.slice ra n rc) n (onC (N.on.take i))) := by rw [HNI.out]; exact hrow.row
      clear hrow
      have k0 : WD.cell? ⟨w.heap.size + 2, 0, none⟩ = some (.slice ra n rc) := by rw [Lib.cell_of_heap HTD.out.b2]; rfl
      refine wp_region_noPanic ?_
      refine wp_region_held_drew (S := fun W => Below w.heap.size w W ∧ W.heap[w.heap.size]? = some (.cells #[.slice (some ⟨g, o, none⟩) N.on.length c1, .slice a2 N.tos.length c2, .slice a3 N.free.length c3, .int .i64 N.start, .int .i64 N.fin] 26 (0, 0))) (by kernel_rfl) (by rw [hWD]; exact ⟨HTD.out.bel, HTD.out.b0⟩) (fun hHeld => ?_)
      rw [hWD] at hHeld ⊢
      clear hWD
      refine wpAnyH_take (i := 0) (oi := { dst := _, op := _, type := _, pos := _, after := _, guard := _ }) (v := ?_) rfl (by kernel_rfl) (by kernel_rfl) (by kernel_rfl) (fun _ _ _ h => h) (Or.inl ⟨by rfl, ?_⟩) (by assumption) ?_
      rotate_left
      · intro W hSw
        (try dsimp only at hSw)
        go_simp
        (try with_reducible rfl)
      try simp only [Act.put, List.setIfInBounds_toArray, List.set_cons_zero, List.set_cons_succ]
      refine wpAnyH_take (i := 2) (oi := { dst := _, op := _, type := _, pos := _, after := _, guard := _ }) (v := ?_) rfl (by kernel_rfl) (by kernel_rfl) (by kernel_rfl) (fun _ _ _ h => h) (Or.inl ⟨by rfl, ?_⟩) (by assumption) ?_
      rotate_left
      · intro W hSw
        (try dsimp only at hSw)
        go_simp
        (try with_reducible rfl)
      try simp only [Act.put, List.setIfInBounds_toArray, List.set_cons_zero, List.set_cons_succ]
      refine wpAnyH_take (i := 3) (oi := { dst := _, op := _, type := _, pos := _, after := _, guard := _ }) (v := ?_) rfl (by kernel_rfl) (by kernel_rfl) (by kernel_rfl) (fun _ _ _ h => h) (Or.inl ⟨by rfl, ?_⟩) (by assumption) ?_
      rotate_left
      · intro W hSw
        (try dsimp only at hSw)
        obtain ⟨hSb, hS0⟩ := hSw
        have p0 : W.cell? ⟨w.heap.size, 0, none⟩ = some (.slice (some ⟨g, o, none⟩) N.on.length c1) := by rw [Lib.cell_of_heap hS0]; rfl
        have hSRC := HSRC.out W hSb
        obtain ⟨s0, s1, s2, s3⟩ := hSRC
        go_simp
        (try with_reducible rfl)
      try simp only [Act.put, List.setIfInBounds_toArray, List.set_cons_zero, List.set_cons_succ]
      refine wpAnyH_take (i := 4) (oi := { dst := _, op := _, type := _, pos := _, after := _, guard := _ }) (v := ?_) rfl (by kernel_rfl) (by kernel_rfl) (by kernel_rfl) (fun _ _ _ h => h) (Or.inl ⟨by rfl, ?_⟩) (by assumption) ?_
      rotate_left
      · intro W hSw
        (try dsimp only at hSw)
        go_simp
        (try with_reducible rfl)
      try simp only [Act.put, List.setIfInBounds_toArray, List.set_cons_zero, List.set_cons_succ]
      refine wpAnyH_take (i := 5) (oi := { dst := _, op := _, type := _, pos := _, after := _, guard := _ }) (v := ?_) rfl (by kernel_rfl) (by kernel_rfl) (by kernel_rfl) (fun _ _ _ h => h) (Or.inl ⟨by rfl, ?_⟩) (by assumption) ?_
      rotate_left
      · intro W hSw
        (try dsimp only at hSw)
        go_simp
        (try with_reducible rfl)
      try simp only [Act.put, List.setIfInBounds_toArray, List.set_cons_zero, List.set_cons_succ]
      refine wpAnyH_take (i := 6) (oi := { dst := _, op := _, type := _, pos := _, after := _, guard := _ }) (v := ?_) rfl (by kernel_rfl) (by kernel_rfl) (by kernel_rfl) (fun _ _ _ h => h) (Or.inl ⟨by rfl, ?_⟩) (by assumption) ?_
      rotate_left
      · intro W hSw
        (try dsimp only at hSw)
        obtain ⟨hSb, hS0⟩ := hSw
        have p0 : W.cell? ⟨w.heap.size, 0, none⟩ = some (.slice (some ⟨g, o, none⟩) N.on.length c1) := by rw [Lib.cell_of_heap hS0]; rfl
        have hSRC := HSRC.out W hSb
        obtain ⟨s0, s1, s2, s3⟩ := hSRC
        go_simp
        (try with_reducible rfl)
      try simp only [Act.put, List.setIfInBounds_toArray, List.set_cons_zero, List.set_cons_succ]
      refine wpAnyH_ready (rs := [1, 7]) (by kernel_rfl) (by simp) ?_
      refine AllReadyH.cons (o := { dst := _, op := _, type := _, pos := _, after := _, guard := _ }) rfl (fun K hK => ?_) (AllReadyH.cons (o := { dst := _, op := _, type := _, pos := _, after := _, guard := _ }) rfl (fun K hK => ?_) (AllReadyH.nil))
      · go_simp
        refine hK.out _ _ ?_ (fun hHeld => ?_)
        · exact hHeld
        clear hK K
        try simp only [Act.put, List.setIfInBounds_toArray, List.set_cons_zero, List.set_cons_succ]
        refine wpAnyH_ready (rs := [7]) (by kernel_rfl) (by simp) ?_
        refine AllReadyH.cons (o := { dst := _, op := _, type := _, pos := _, after := _, guard := _ }) rfl (fun K hK => ?_) AllReadyH.nil
        go_simp
        refine hK.out _ _ ?_ (fun hHeld => ?_)
        · exact ⟨below_trans hHeld.1 (bel_up _ _), ((bel_up _ _).block _ (lt_of_heap hHeld.2)).trans hHeld.2⟩
        clear hK K
        try simp only [Act.put, List.setIfInBounds_toArray, List.set_cons_zero, List.set_cons_succ]
        have k0a : (WD.alloc (.cells #[.int .u64 (wd m 0 : Nat), .int .u64 (wd m 1 : Nat), .int .u64 (wd m 2 : Nat), .int .u64 (wd m 3 : Nat)] 40)).cell? ⟨w.heap.size + 2, 0, none⟩ = some (.slice ra n rc) := cell_up _ k0
        refine wpAnyH_ready (rs := [8]) (by kernel_rfl) (by simp) ?_
        refine AllReadyH.cons (o := { dst := _, op := _, type := _, pos := _, after := _, guard := _ }) rfl (fun K hK => ?_) AllReadyH.nil
        refine step_append_lies _ rfl (.tmp 22) (.tmp 28) 22 rfl w.heap.size 40 i40 _ 4 32 Try.underlying22 hi40 hz0 hz1 hz2 rfl (by decide) (.slice ra n rc) _ _ rfl (HROW.out.alloc _) ⟨WD.heap.size, 0, none⟩ 1 1 (oc m) rfl rfl (cell_four_new WD m) (by intro y hy; simp [oc] at hy; rcases hy with rfl | rfl | rfl | rfl <;> rfl) (by decide) (by have := HNL.out; unfold maxLen; omega) (by have := HNL.out; omega) (by have := HTD.out.bel.size; simp; omega) (WD.heap.size + 1) (by simp) ?_
        intro g' cap' w' h2 h3 h4 _
        have HG : Hid (WD.grownBy w' (Value.ownBlock (.slice ra n rc))) := (World.grownBy_alloc _ _ _).trans h3
        have HT2 : Hid (Tk w (w'.setCell ⟨w.heap.size + 2, 0, none⟩ (.slice (some ⟨g', 0, none⟩) (n + 1) cap')) (.slice (some ⟨g, o, none⟩) N.on.length c1) (.slice a2 N.tos.length c2) (.slice a3 N.free.length c3) N (N.on.take (i + 1)) [] [] [] [] (.slice (some ⟨g', 0, none⟩) (n + 1) cap') (i + 1) (.slice none 0 0) 0 (.slice none 0 0) 0) := by
          have hs : Sh w.heap.size w' 40 4 (.slice (some ⟨g', 0, none⟩) (n + 1) cap') (n + 1) (N.on.take i ++ [m]).length (onC (N.on.take i ++ [m])) := ⟨_, _, rfl, by rw [List.length_append, HNE.out]; exact Nat.le_refl _, by have := onC_one HNE.out h2; rw [List.length_append, HNE.out] at this ⊢; exact this⟩
          rw [HTS.out]
          have := HTD.out.on_ HG.out hs
          rw [show i + 1 = n + 1 by rw [HNI.out]]
          exact this
        have HMID : Hid _ := HTD.out.mid (.inl HG.out)
        have k0b : w'.cell? ⟨w.heap.size + 2, 0, none⟩ = some (.slice ra n rc) := by rw [Lib.cell_of_heap HMID.out.2.2.2]; rfl
        have f0b : w'.frozen? ⟨w.heap.size + 2, 0, none⟩ = false := Lib.frozen_of_heap HMID.out.2.2.2 0
        clear h2 h3 h4 k0 k0a
        refine hK.out _ _ ?_ (fun hHeld => ?_)
        · exact ⟨HMID.out.1, HMID.out.2.1⟩
        clear hK K
        try simp only [Act.put, List.setIfInBounds_toArray, List.set_cons_zero, List.set_cons_succ]
        refine wpAnyH_take (i := 9) (oi := { dst := _, op := _, type := _, pos := _, after := _, guard := _ }) (v := ?_) rfl (by kernel_rfl) (by kernel_rfl) (by kernel_rfl) (fun _ _ _ h => h) (Or.inl ⟨by rfl, ?_⟩) (by assumption) ?_
        rotate_left
        · intro W hSw
          (try dsimp only at hSw)
          go_simp
          (try with_reducible rfl)
        try simp only [Act.put, List.setIfInBounds_toArray, List.set_cons_zero, List.set_cons_succ]
        refine wpAnyH_ready (rs := [10]) (by kernel_rfl) (by simp) ?_
        refine AllReadyH.cons (o := { dst := _, op := _, type := _, pos := _, after := _, guard := _ }) rfl (fun K hK => ?_) AllReadyH.nil
        go_simp
        refine hK.out _ _ ?_ (fun hHeld => ?_)
        · exact ⟨HT2.out.bel, HT2.out.b0⟩
        clear hK K
        try simp only [Act.put, List.setIfInBounds_toArray, List.set_cons_zero, List.set_cons_succ]
        refine wpAnyH_done (by kernel_rfl) ?_ _
        clear hHeld k0b f0b
        refine NoPanic.normal ?_
        obtain ⟨W9, hW9⟩ : ∃ W9, W9 = w'.setCell ⟨w.heap.size + 2, 0, none⟩ (.slice (some ⟨g', 0, none⟩) (n + 1) cap') := ⟨_, rfl⟩
        rw [← hW9] at HT2 ⊢
        clear hW9
        go_wp2_with fail
        go_roundg (N.on.length - (i + 1))
        case measure => clear hwi; have := HII.out; have := HIL.out; omega
        case rel => exact ⟨i + 1, by rw [hwi], ⟨HIL.out, rfl⟩, _, HT2⟩
      · go_simp
        refine hK.out _ _ ?_ (fun hHeld => ?_)
        · exact ⟨below_trans hHeld.1 (bel_up _ _), ((bel_up _ _).block _ (lt_of_heap hHeld.2)).trans hHeld.2⟩
        clear hK K
        try simp only [Act.put, List.setIfInBounds_toArray, List.set_cons_zero, List.set_cons_succ]
        have k0a : (WD.alloc (.cells #[.int .u64 (wd m 0 : Nat), .int .u64 (wd m 1 : Nat), .int .u64 (wd m 2 : Nat), .int .u64 (wd m 3 : Nat)] 40)).cell? ⟨w.heap.size + 2, 0, none⟩ = some (.slice ra n rc) := cell_up _ k0
        refine wpAnyH_ready (rs := [1]) (by kernel_rfl) (by simp) ?_
        refine AllReadyH.cons (o := { dst := _, op := _, type := _, pos := _, after := _, guard := _ }) rfl (fun K hK => ?_) AllReadyH.nil
        go_simp
        refine hK.out _ _ ?_ (fun hHeld => ?_)
        · exact hHeld
        clear hK K
        try simp only [Act.put, List.setIfInBounds_toArray, List.set_cons_zero, List.set_cons_succ]
        refine wpAnyH_ready (rs := [8]) (by kernel_rfl) (by simp) ?_
        refine AllReadyH.cons (o := { dst := _, op := _, type := _, pos := _, after := _, guard := _ }) rfl (fun K hK => ?_) AllReadyH.nil
        refine step_append_lies _ rfl (.tmp 22) (.tmp 28) 22 rfl w.heap.size 40 i40 _ 4 32 Try.underlying22 hi40 hz0 hz1 hz2 rfl (by decide) (.slice ra n rc) _ _ rfl (HROW.out.alloc _) ⟨WD.heap.size, 0, none⟩ 1 1 (oc m) rfl rfl (cell_four_new WD m) (by intro y hy; simp [oc] at hy; rcases hy with rfl | rfl | rfl | rfl <;> rfl) (by decide) (by have := HNL.out; unfold maxLen; omega) (by have := HNL.out; omega) (by have := HTD.out.bel.size; simp; omega) (WD.heap.size + 1) (by simp) ?_
        intro g' cap' w' h2 h3 h4 _
        have HG : Hid (WD.grownBy w' (Value.ownBlock (.slice ra n rc))) := (World.grownBy_alloc _ _ _).trans h3
        have HT2 : Hid (Tk w (w'.setCell ⟨w.heap.size + 2, 0, none⟩ (.slice (some ⟨g', 0, none⟩) (n + 1) cap')) (.slice (some ⟨g, o, none⟩) N.on.length c1) (.slice a2 N.tos.length c2) (.slice a3 N.free.length c3) N (N.on.take (i + 1)) [] [] [] [] (.slice (some ⟨g', 0, none⟩) (n + 1) cap') (i + 1) (.slice none 0 0) 0 (.slice none 0 0) 0) := by
          have hs : Sh w.heap.size w' 40 4 (.slice (some ⟨g', 0, none⟩) (n + 1) cap') (n + 1) (N.on.take i ++ [m]).length (onC (N.on.take i ++ [m])) := ⟨_, _, rfl, by rw [List.length_append, HNE.out]; exact Nat.le_refl _, by have := onC_one HNE.out h2; rw [List.length_append, HNE.out] at this ⊢; exact this⟩
          rw [HTS.out]
          have := HTD.out.on_ HG.out hs
          rw [show i + 1 = n + 1 by rw [HNI.out]]
          exact this
        have HMID : Hid _ := HTD.out.mid (.inl HG.out)
        have k0b : w'.cell? ⟨w.heap.size + 2, 0, none⟩ = some (.slice ra n rc) := by rw [Lib.cell_of_heap HMID.out.2.2.2]; rfl
        have f0b : w'.frozen? ⟨w.heap.size + 2, 0, none⟩ = false := Lib.frozen_of_heap HMID.out.2.2.2 0
        clear h2 h3 h4 k0 k0a
        refine hK.out _ _ ?_ (fun hHeld => ?_)
        · exact ⟨HMID.out.1, HMID.out.2.1⟩
        clear hK K
        try simp only [Act.put, List.setIfInBounds_toArray, List.set_cons_zero, List.set_cons_succ]
        refine wpAnyH_take (i := 9) (oi := { dst := _, op := _, type := _, pos := _, after := _, guard := _ }) (v := ?_) rfl (by kernel_rfl) (by kernel_rfl) (by kernel_rfl) (fun _ _ _ h => h) (Or.inl ⟨by rfl, ?_⟩) (by assumption) ?_
        rotate_left
        · intro W hSw
          (try dsimp only at hSw)
          go_simp
          (try with_reducible rfl)
        try simp only [Act.put, List.setIfInBounds_toArray, List.set_cons_zero, List.set_cons_succ]
        refine wpAnyH_ready (rs := [10]) (by kernel_rfl) (by simp) ?_
        refine AllReadyH.cons (o := { dst := _, op := _, type := _, pos := _, after := _, guard := _ }) rfl (fun K hK => ?_) AllReadyH.nil
        go_simp
        refine hK.out _ _ ?_ (fun hHeld => ?_)
        · exact ⟨HT2.out.bel, HT2.out.b0⟩
        clear hK K
        try simp only [Act.put, List.setIfInBounds_toArray, List.set_cons_zero, List.set_cons_succ]
        refine wpAnyH_done (by kernel_rfl) ?_ _
        clear hHeld k0b f0b
        refine NoPanic.normal ?_
        obtain ⟨W9, hW9⟩ : ∃ W9, W9 = w'.setCell ⟨w.heap.size + 2, 0, none⟩ (.slice (some ⟨g', 0, none⟩) (n + 1) cap') := ⟨_, rfl⟩
        rw [← hW9] at HT2 ⊢
        clear hW9
        go_wp2_with fail
        go_roundg (N.on.length - (i + 1))
        case measure => clear hwi; have := HII.out; have := HIL.out; omega
        case rel => exact ⟨i + 1, by rw [hwi], ⟨HIL.out, rfl⟩, _, HT2⟩
    · have e1 : decide ((i : Int) < (N.on.length : Int)) = false := by rw [decide_eq_false_iff_not]; omega
      have e2 : decide (i < N.on.length) = false := by rw [decide_eq_false_iff_not]; omega
      have HT2 : Hid (Tk w wr (.slice a1 N.on.length c1) (.slice a2 N.tos.length c2) (.slice a3 N.free.length c3) N N.on [] [] [] [] xo N.on.length (.slice none 0 0) 0 (.slice none 0 0) 0) := by
        have h := HT.out
        have hin : i = N.on.length := by have := HII.out; omega
        rw [hin, List.take_of_length_le (Nat.le_refl _)] at h
        exact h
      clear hi HT
      go_wp2_with fail
      clear e1 e2 t0 HII
      go_loopg [5] N.tos.length (fun gm v5 wr => ∃ i : Nat, v5 = .int .i64 (i : Int) ∧ Hid (i ≤ N.tos.length ∧ gm = N.tos.length - i) ∧ ∃ xt, Hid (Tk w wr (.slice a1 N.on.length c1) (.slice a2 N.tos.length c2) (.slice a3 N.free.length c3) N N.on (N.tos.take i) [] [] [] xo N.on.length xt i (.slice none 0 0) 0))
      case atStart => exact ⟨0, rfl, ⟨Nat.zero_le _, rfl⟩, _, HT2⟩
      case round =>
        obtain ⟨i, rfl, HII, xt, HT⟩ := hrel
        have t0 : wr.cell? ⟨w.heap.size, 1, none⟩ = some (.slice a2 N.tos.length c2) := by rw [Lib.cell_of_heap HT.out.b0]; rfl
        by_cases hi : i < N.tos.length
        · have e1 : decide ((i : Int) < (N.tos.length : Int)) = true := by rw [decide_eq_true_eq]; omega
          have e2 : decide (i < N.tos.length) = true := by rw [decide_eq_true_eq]; omega
          have e3 : (i : Int) < (N.tos.length : Int) := by omega
          have HIL : Hid (i < N.tos.length) := hi
          obtain ⟨g, o, cap, hv, _⟩ := (HP.out w (Below.refl _ _)).tos.at i hi
          injection hv with hv hv2 hv3
          subst hv hv3
          have HSRC : Hid (∀ W, Below w.heap.size w W → W.cell? ⟨g, o + i, none⟩ = some (.int .i64 (N.tos.getD i 0))) := fun W hW => by
            obtain ⟨g', o', cap', e', k0⟩ := (HP.out W hW).tos.at i hi
            injection e' with e' _ _
            injection e' with e'
            injection e' with e1 e2
            subst e1 e2
            exact k0
          have HTS : Hid (N.tos.take (i + 1) = N.tos.take i ++ [N.tos.getD i 0]) := take_snoc _ _ _ hi
          obtain ⟨m, hm⟩ : ∃ m, N.tos.getD i 0 = m := ⟨_, rfl⟩
          rw [hm] at HSRC HTS
          have hwi := w64 i (by have := HS.out.tos; omega)
          obtain ⟨n, hn⟩ : ∃ n, i = n := ⟨_, rfl⟩
          have HNI : Hid (i = n) := hn
          have HNE : Hid ((N.tos.take i).length = n) := by rw [List.length_take, ← hn]; exact Nat.min_eq_left (Nat.le_of_lt hi)
          have HNL : Hid (n ≤ 1048576) := hn ▸ Nat.le_of_lt (Nat.lt_of_lt_of_le hi HS.out.tos)
          obtain ⟨ra, rc, hxo, _, _⟩ := HT.out.tr.tos
          rw [hn] at hxo
          subst hxo
          clear hi hm hv2 hn
          go_upto_region 9 with fail
          obtain ⟨WD, hWD⟩ : ∃ WD, wr.drew = WD := ⟨_, rfl⟩
          have HTD : Hid _ := HT.out.below (Below.drew (Below.refl _ wr))
          rw [hWD] at HTD
          have hrow := HTD.out.tr.tos
          rw [HNE.out, HNI.out] at hrow
          have HROW : Hid (WD.ownsRow w.heap.size 3 1 (.slice ra n rc) n (iC (N.tos.take i))) := by rw [HNI.out]; exact hrow.row
          clear hrow
          have k0 : WD.cell? ⟨w.heap.size + 2, 1, none⟩ = some (.slice ra n rc) := by rw [Lib.cell_of_heap HTD.out.b2]; rfl
          refine wp_region_noPanic ?_
          refine wp_region_held_drew (S := fun W => Below w.heap.size w W ∧ W.heap[w.heap.size]? = some (.cells #[.slice a1 N.on.length c1, .slice (some ⟨g, o, none⟩) N.tos.length c2, .slice a3 N.free.length c3, .int .i64 N.start, .int .i64 N.fin] 26 (0, 0))) (by kernel_rfl) (by rw [hWD]; exact ⟨HTD.out.bel, HTD.out.b0⟩) (fun hHeld => ?_)
          rw [hWD] at hHeld ⊢
          clear hWD
          refine wpAnyH_take (i := 0) (oi := { dst := _, op := _, type := _, pos := _, after := _, guard := _ }) (v := ?_) rfl (by kernel_rfl) (by kernel_rfl) (by kernel_rfl) (fun _ _ _ h => h) (Or.inl ⟨by rfl, ?_⟩) (by assumption) ?_
          rotate_left
          · intro W hSw
            (try dsimp only at hSw)
            go_simp
            (try with_reducible rfl)
          try simp only [Act.put, List.setIfInBounds_toArray, List.set_cons_zero, List.set_cons_succ]
          refine wpAnyH_take (i := 2) (oi := { dst := _, op := _, type := _, pos := _, after := _, guard := _ }) (v := ?_) rfl (by kernel_rfl) (by kernel_rfl) (by kernel_rfl) (fun _ _ _ h => h) (Or.inl ⟨by rfl, ?_⟩) (by assumption) ?_
          rotate_left
          · intro W hSw
            (try dsimp only at hSw)
            go_simp
            (try with_reducible rfl)
          try simp only [Act.put, List.setIfInBounds_toArray, List.set_cons_zero, List.set_cons_succ]
          refine wpAnyH_take (i := 3) (oi := { dst := _, op := _, type := _, pos := _, after := _, guard := _ }) (v := ?_) rfl (by kernel_rfl) (by kernel_rfl) (by kernel_rfl) (fun _ _ _ h => h) (Or.inl ⟨by rfl, ?_⟩) (by assumption) ?_
          rotate_left
          · intro W hSw
            (try dsimp only at hSw)
            obtain ⟨hSb, hS0⟩ := hSw
            have p0 : W.cell? ⟨w.heap.size, 1, none⟩ = some (.slice (some ⟨g, o, none⟩) N.tos.length c2) := by rw [Lib.cell_of_heap hS0]; rfl
            have hSRC := HSRC.out W hSb
            go_simp
            (try with_reducible rfl)
          try simp only [Act.put, List.setIfInBounds_toArray, List.set_cons_zero, List.set_cons_succ]
          refine wpAnyH_take (i := 4) (oi := { dst := _, op := _, type := _, pos := _, after := _, guard := _ }) (v := ?_) rfl (by kernel_rfl) (by kernel_rfl) (by kernel_rfl) (fun _ _ _ h => h) (Or.inl ⟨by rfl, ?_⟩) (by assumption) ?_
          rotate_left
          · intro W hSw
            (try dsimp only at hSw)
            go_simp
            (try with_reducible rfl)
          try simp only [Act.put, List.setIfInBounds_toArray, List.set_cons_zero, List.set_cons_succ]
          refine wpAnyH_take (i := 5) (oi := { dst := _, op := _, type := _, pos := _, after := _, guard := _ }) (v := ?_) rfl (by kernel_rfl) (by kernel_rfl) (by kernel_rfl) (fun _ _ _ h => h) (Or.inl ⟨by rfl, ?_⟩) (by assumption) ?_
          rotate_left
          · intro W hSw
            (try dsimp only at hSw)
            go_simp
            (try with_reducible rfl)
          try simp only [Act.put, List.setIfInBounds_toArray, List.set_cons_zero, List.set_cons_succ]
          refine wpAnyH_take (i := 6) (oi := { dst := _, op := _, type := _, pos := _, after := _, guard := _ }) (v := ?_) rfl (by kernel_rfl) (by kernel_rfl) (by kernel_rfl) (fun _ _ _ h => h) (Or.inl ⟨by rfl, ?_⟩) (by assumption) ?_
          rotate_left
          · intro W hSw
            (try dsimp only at hSw)
            obtain ⟨hSb, hS0⟩ := hSw
            have p0 : W.cell? ⟨w.heap.size, 1, none⟩ = some (.slice (some ⟨g, o, none⟩) N.tos.length c2) := by rw [Lib.cell_of_heap hS0]; rfl
            have hSRC := HSRC.out W hSb
            go_simp
            (try with_reducible rfl)
          try simp only [Act.put, List.setIfInBounds_toArray, List.set_cons_zero, List.set_cons_succ]
          refine wpAnyH_ready (rs := [1, 7]) (by kernel_rfl) (by simp) ?_
          refine AllReadyH.cons (o := { dst := _, op := _, type := _, pos := _, after := _, guard := _ }) rfl (fun K hK => ?_) (AllReadyH.cons (o := { dst := _, op := _, type := _, pos := _, after := _, guard := _ }) rfl (fun K hK => ?_) (AllReadyH.nil))
          · go_simp
            refine hK.out _ _ ?_ (fun hHeld => ?_)
            · exact hHeld
            clear hK K
            try simp only [Act.put, List.setIfInBounds_toArray, List.set_cons_zero, List.set_cons_succ]
            refine wpAnyH_ready (rs := [7]) (by kernel_rfl) (by simp) ?_
            refine AllReadyH.cons (o := { dst := _, op := _, type := _, pos := _, after := _, guard := _ }) rfl (fun K hK => ?_) AllReadyH.nil
            go_simp
            refine hK.out _ _ ?_ (fun hHeld => ?_)
            · exact ⟨below_trans hHeld.1 (bel_up _ _), ((bel_up _ _).block _ (lt_of_heap hHeld.2)).trans hHeld.2⟩
            clear hK K
            try simp only [Act.put, List.setIfInBounds_toArray, List.set_cons_zero, List.set_cons_succ]
            have k0a : (WD.alloc (.cells #[.int .i64 m] 3)).cell? ⟨w.heap.size + 2, 1, none⟩ = some (.slice ra n rc) := cell_up _ k0
            refine wpAnyH_ready (rs := [8]) (by kernel_rfl) (by simp) ?_
            refine AllReadyH.cons (o := { dst := _, op := _, type := _, pos := _, after := _, guard := _ }) rfl (fun K hK => ?_) AllReadyH.nil
            refine step_append_lies _ rfl (.tmp 39) (.tmp 45) 23 rfl w.heap.size 3 i3 _ 1 8 Try.underlying23 hi3 hy0 hy1 hy2 rfl (by decide) (.slice ra n rc) _ _ rfl (HROW.out.alloc _) ⟨WD.heap.size, 0, none⟩ 1 1 [.int .i64 m] rfl rfl (cell_one_new WD _ _) (by intro y hy; simp at hy; subst hy; rfl) (by decide) (by have := HNL.out; unfold maxLen; omega) (by have := HNL.out; omega) (by have := HTD.out.bel.size; simp; omega) (WD.heap.size + 1) (by simp) ?_
            intro g' cap' w' h2 h3 h4 _
            have HG : Hid (WD.grownBy w' (Value.ownBlock (.slice ra n rc))) := (World.grownBy_alloc _ _ _).trans h3
            have HT2 : Hid (Tk w (w'.setCell ⟨w.heap.size + 2, 1, none⟩ (.slice (some ⟨g', 0, none⟩) (n + 1) cap')) (.slice a1 N.on.length c1) (.slice (some ⟨g, o, none⟩) N.tos.length c2) (.slice a3 N.free.length c3) N N.on (N.tos.take (i + 1)) [] [] [] xo N.on.length (.slice (some ⟨g', 0, none⟩) (n + 1) cap') (i + 1) (.slice none 0 0) 0) := by
              have hs : Sh w.heap.size w' 3 1 (.slice (some ⟨g', 0, none⟩) (n + 1) cap') (n + 1) (N.tos.take i ++ [m]).length (iC (N.tos.take i ++ [m])) := ⟨_, _, rfl, by rw [List.length_append, HNE.out]; exact Nat.le_refl _, by unfold iC; rw [List.map_append, List.length_append, HNE.out]; exact h2⟩
              rw [HTS.out]
              have := HTD.out.to_ HG.out hs (h4.elim (fun e => .inl e.symm) (fun e => .inr ⟨g', rfl, by rw [e]; omega⟩))
              rw [show i + 1 = n + 1 by rw [HNI.out]]
              exact this
            have HMID : Hid _ := HTD.out.mid (.inr (.inl HG.out))
            have k0b : w'.cell? ⟨w.heap.size + 2, 1, none⟩ = some (.slice ra n rc) := by rw [Lib.cell_of_heap HMID.out.2.2.2]; rfl
            have f0b : w'.frozen? ⟨w.heap.size + 2, 1, none⟩ = false := Lib.frozen_of_heap HMID.out.2.2.2 1
            clear h2 h3 h4 k0 k0a
            refine hK.out _ _ ?_ (fun hHeld => ?_)
            · exact ⟨HMID.out.1, HMID.out.2.1⟩
            clear hK K
            try simp only [Act.put, List.setIfInBounds_toArray, List.set_cons_zero, List.set_cons_succ]
            refine wpAnyH_take (i := 9) (oi := { dst := _, op := _, type := _, pos := _, after := _, guard := _ }) (v := ?_) rfl (by kernel_rfl) (by kernel_rfl) (by kernel_rfl) (fun _ _ _ h => h) (Or.inl ⟨by rfl, ?_⟩) (by assumption) ?_
            rotate_left
            · intro W hSw
              (try dsimp only at hSw)
              go_simp
              (try with_reducible rfl)
            try simp only [Act.put, List.setIfInBounds_toArray, List.set_cons_zero, List.set_cons_succ]
            refine wpAnyH_ready (rs := [10]) (by kernel_rfl) (by simp) ?_
            refine AllReadyH.cons (o := { dst := _, op := _, type := _, pos := _, after := _, guard := _ }) rfl (fun K hK => ?_) AllReadyH.nil
            go_simp
            refine hK.out _ _ ?_ (fun hHeld => ?_)
            · exact ⟨HT2.out.bel, HT2.out.b0⟩
            clear hK K
            try simp only [Act.put, List.setIfInBounds_toArray, List.set_cons_zero, List.set_cons_succ]
            refine wpAnyH_done (by kernel_rfl) ?_ _
            clear hHeld k0b f0b
            refine NoPanic.normal ?_
            obtain ⟨W9, hW9⟩ : ∃ W9, W9 = w'.setCell ⟨w.heap.size + 2, 1, none⟩ (.slice (some ⟨g', 0, none⟩) (n + 1) cap') := ⟨_, rfl⟩
            rw [← hW9] at HT2 ⊢
            clear hW9
            go_wp2_with fail
            go_roundg (N.tos.length - (i + 1))
            case measure => clear hwi; have := HII.out; have := HIL.out; omega
            case rel => exact ⟨i + 1, by rw [hwi], ⟨HIL.out, rfl⟩, _, HT2⟩
          · go_simp
            refine hK.out _ _ ?_ (fun hHeld => ?_)
            · exact ⟨below_trans hHeld.1 (bel_up _ _), ((bel_up _ _).block _ (lt_of_heap hHeld.2)).trans hHeld.2⟩
            clear hK K
            try simp only [Act.put, List.setIfInBounds_toArray, List.set_cons_zero, List.set_cons_succ]
            have k0a : (WD.alloc (.cells #[.int .i64 m] 3)).cell? ⟨w.heap.size + 2, 1, none⟩ = some (.slice ra n rc) := cell_up _ k0
            refine wpAnyH_ready (rs := [1]) (by kernel_rfl) (by simp) ?_
            refine AllReadyH.cons (o := { dst := _, op := _, type := _, pos := _, after := _, guard := _ }) rfl (fun K hK => ?_) AllReadyH.nil
            go_simp
            refine hK.out _ _ ?_ (fun hHeld => ?_)
            · exact hHeld
            clear hK K
            try simp only [Act.put, List.setIfInBounds_toArray, List.set_cons_zero, List.set_cons_succ]
            refine wpAnyH_ready (rs := [8]) (by kernel_rfl) (by simp) ?_
            refine AllReadyH.cons (o := { dst := _, op := _, type := _, pos := _, after := _, guard := _ }) rfl (fun K hK => ?_) AllReadyH.nil
            refine step_append_lies _ rfl (.tmp 39) (.tmp 45) 23 rfl w.heap.size 3 i3 _ 1 8 Try.underlying23 hi3 hy0 hy1 hy2 rfl (by decide) (.slice ra n rc) _ _ rfl (HROW.out.alloc _) ⟨WD.heap.size, 0, none⟩ 1 1 [.int .i64 m] rfl rfl (cell_one_new WD _ _) (by intro y hy; simp at hy; subst hy; rfl) (by decide) (by have := HNL.out; unfold maxLen; omega) (by have := HNL.out; omega) (by have := HTD.out.bel.size; simp; omega) (WD.heap.size + 1) (by simp) ?_
            intro g' cap' w' h2 h3 h4 _
            have HG : Hid (WD.grownBy w' (Value.ownBlock (.slice ra n rc))) := (World.grownBy_alloc _ _ _).trans h3
            have HT2 : Hid (Tk w (w'.setCell ⟨w.heap.size + 2, 1, none⟩ (.slice (some ⟨g', 0, none⟩) (n + 1) cap')) (.slice a1 N.on.length c1) (.slice (some ⟨g, o, none⟩) N.tos.length c2) (.slice a3 N.free.length c3) N N.on (N.tos.take (i + 1)) [] [] [] xo N.on.length (.slice (some ⟨g', 0, none⟩) (n + 1) cap') (i + 1) (.slice none 0 0) 0) := by
              have hs : Sh w.heap.size w' 3 1 (.slice (some ⟨g', 0, none⟩) (n + 1) cap') (n + 1) (N.tos.take i ++ [m]).length (iC (N.tos.take i ++ [m])) := ⟨_, _, rfl, by rw [List.length_append, HNE.out]; exact Nat.le_refl _, by unfold iC; rw [List.map_append, List.length_append, HNE.out]; exact h2⟩
              rw [HTS.out]
              have := HTD.out.to_ HG.out hs (h4.elim (fun e => .inl e.symm) (fun e => .inr ⟨g', rfl, by rw [e]; omega⟩))
              rw [show i + 1 = n + 1 by rw [HNI.out]]
              exact this
            have HMID : Hid _ := HTD.out.mid (.inr (.inl HG.out))
            have k0b : w'.cell? ⟨w.heap.size + 2, 1, none⟩ = some (.slice ra n rc) := by rw [Lib.cell_of_heap HMID.out.2.2.2]; rfl
            have f0b : w'.frozen? ⟨w.heap.size + 2, 1, none⟩ = false := Lib.frozen_of_heap HMID.out.2.2.2 1
            clear h2 h3 h4 k0 k0a
            refine hK.out _ _ ?_ (fun hHeld => ?_)
            · exact ⟨HMID.out.1, HMID.out.2.1⟩
            clear hK K
            try simp only [Act.put, List.setIfInBounds_toArray, List.set_cons_zero, List.set_cons_succ]
            refine wpAnyH_take (i := 9) (oi := { dst := _, op := _, type := _, pos := _, after := _, guard := _ }) (v := ?_) rfl (by kernel_rfl) (by kernel_rfl) (by kernel_rfl) (fun _ _ _ h => h) (Or.inl ⟨by rfl, ?_⟩) (by assumption) ?_
            rotate_left
            · intro W hSw
              (try dsimp only at hSw)
              go_simp
              (try with_reducible rfl)
            try simp only [Act.put, List.setIfInBounds_toArray, List.set_cons_zero, List.set_cons_succ]
            refine wpAnyH_ready (rs := [10]) (by kernel_rfl) (by simp) ?_
            refine AllReadyH.cons (o := { dst := _, op := _, type := _, pos := _, after := _, guard := _ }) rfl (fun K hK => ?_) AllReadyH.nil
            go_simp
            refine hK.out _ _ ?_ (fun hHeld => ?_)
            · exact ⟨HT2.out.bel, HT2.out.b0⟩
            clear hK K
            try simp only [Act.put, List.setIfInBounds_toArray, List.set_cons_zero, List.set_cons_succ]
            refine wpAnyH_done (by kernel_rfl) ?_ _
            clear hHeld k0b f0b
            refine NoPanic.normal ?_
            obtain ⟨W9, hW9⟩ : ∃ W9, W9 = w'.setCell ⟨w.heap.size + 2, 1, none⟩ (.slice (some ⟨g', 0, none⟩) (n + 1) cap') := ⟨_, rfl⟩
            rw [← hW9] at HT2 ⊢
            clear hW9
            go_wp2_with fail
            go_roundg (N.tos.length - (i + 1))
            case measure => clear hwi; have := HII.out; have := HIL.out; omega
            case rel => exact ⟨i + 1, by rw [hwi], ⟨HIL.out, rfl⟩, _, HT2⟩
        · have e1 : decide ((i : Int) < (N.tos.length : Int)) = false := by rw [decide_eq_false_iff_not]; omega
          have e2 : decide (i < N.tos.length) = false := by rw [decide_eq_false_iff_not]; omega
          have HT2 : Hid (Tk w wr (.slice a1 N.on.length c1) (.slice a2 N.tos.length c2) (.slice a3 N.free.length c3) N N.on N.tos [] [] [] xo N.on.length xt N.tos.length (.slice none 0 0) 0) := by
            have h := HT.out
            have hin : i = N.tos.length := by have := HII.out; omega
            rw [hin, List.take_of_length_le (Nat.le_refl _)] at h
            exact h
          clear hi HT
          go_wp2_with fail
          clear e1 e2 t0 HII
          go_loopg [6] N.free.length (fun gm v6 wr => ∃ i : Nat, v6 = .int .i64 (i : Int) ∧ Hid (i ≤ N.free.length ∧ gm = N.free.length - i) ∧ ∃ fvs xf, Hid (Tk w wr (.slice a1 N.on.length c1) (.slice a2 N.tos.length c2) (.slice a3 N.free.length c3) N N.on N.tos fvs (N.free.take i) ((N.free.take i).map List.length) xo N.on.length xt N.tos.length xf i))
          case atStart => exact ⟨0, rfl, ⟨Nat.zero_le _, rfl⟩, _, _, HT2⟩
          case round =>
            obtain ⟨i, rfl, HII, fvs, xf, HT⟩ := hrel
            have t0 : wr.cell? ⟨w.heap.size, 2, none⟩ = some (.slice a3 N.free.length c3) := by rw [Lib.cell_of_heap HT.out.b0]; rfl
            by_cases hi : i < N.free.length
            · have e1 : decide ((i : Int) < (N.free.length : Int)) = true := by rw [decide_eq_true_eq]; omega
              have e2 : decide (i < N.free.length) = true := by rw [decide_eq_true_eq]; omega
              have e3 : (i : Int) < (N.free.length : Int) := by omega
              have HIL : Hid (i < N.free.length) := hi
              obtain ⟨g, o, cap, u, hv, hu, hui⟩ := (HP.out w (Below.refl _ _)).fr.at i hi
              injection hv with hv hv2 hv3
              subst hv hv3
              have HRL : Hid ((N.free.getD i []).length ≤ 1048576) := Nat.le_trans (sum_mem _ _ hi) HS.out.sum
              have HTS : Hid (N.free.take (i + 1) = N.free.take i ++ [N.free.getD i []]) := take_snoc _ _ _ hi
              obtain ⟨R, hR⟩ : ∃ R, N.free.getD i [] = R := ⟨_, rfl⟩
              rw [hR] at hui HRL HTS
              have HSRC : Hid (∀ W, Below w.heap.size w W → W.cell? ⟨g, o + i, none⟩ = some u ∧ Ints w.heap.size W u R) := fun W hW => ⟨below_cell hW hu, hui.mono hW (Nat.le_refl _)⟩
              obtain ⟨ua, uc, hus⟩ := hui.shp
              subst hus
              have HNE : Hid (fvs.length = i) := by rw [HT.out.tr.len, List.length_take]; exact Nat.min_eq_left (Nat.le_of_lt hi)
              have HNL : Hid (i ≤ 1048576) := Nat.le_of_lt (Nat.lt_of_lt_of_le hi HS.out.fr)
              obtain ⟨ra, rc, hxf, _, _⟩ := HT.out.tr.fr
              subst hxf
              obtain ⟨BQ, hBQ⟩ : ∃ BQ, wr.heap.size = BQ := ⟨_, rfl⟩
              have HLE : Hid (w.heap.size ≤ BQ) := by rw [← hBQ]; exact HT.out.bel.size
              have HDJ : Hid (∀ (W : World) (v : Value) (n : Nat) (cs : List Value), W.ownsRow BQ 3 1 v n cs → (∀ k, k < fvs.length → dj (fvs.getD k undef) v) ∧ dj v xt) := fun W v n cs h => HT.out.tr.dj_new (hBQ ▸ h)
              have HTB : Hid (∀ W, Below BQ wr W → Tk w W (.slice a1 N.on.length c1) (.slice a2 N.tos.length c2) (.slice (some ⟨g, o, none⟩) N.free.length c3) N N.on N.tos fvs (N.free.take i) ((N.free.take i).map List.length) xo N.on.length xt N.tos.length (.slice ra i rc) i) := fun W hW => HT.out.below (hBQ ▸ hW)
              have HWI : Hid (wrap64 ((i : Int) + 1) = ((i + 1 : Nat) : Int)) := w64 i (by have := HNL.out; omega)
              have HBQ : Hid (BQ ≤ wr.heap.size) := by rw [hBQ]; exact Nat.le_refl _
              clear hi hv2 hR hu hui hBQ
              go_wp2_with fail
              clear e1 e2 t0
              go_loopg [7, 8] R.length (fun gm v7 v8 wq => ∃ j : Nat, v8 = .int .i64 (j : Int) ∧ Hid (j ≤ R.length ∧ gm = R.length - j) ∧ Hid (wq.ownsRow BQ 3 1 v7 j (iC (R.take j))) ∧ Hid (Below BQ wr wq))
              case atStart => exact ⟨0, rfl, ⟨Nat.zero_le _, rfl⟩, World.ownsRow_nil _ _ _ _, Below.refl _ _⟩
              case round =>
                obtain ⟨j, rfl, HJJ, HV, HBJ⟩ := hrel
                have HTQ : Hid _ := HTB.out _ HBJ.out
                obtain ⟨hs1, hs2⟩ := HSRC.out _ HTQ.out.bel
                have t0 : wr.cell? ⟨w.heap.size, 2, none⟩ = some (.slice (some ⟨g, o, none⟩) N.free.length c3) := by rw [Lib.cell_of_heap HTQ.out.b0]; rfl
                obtain ⟨va, vc, hv7⟩ : ∃ a c, u7 = .slice a j c := by
                  rcases HV.out.2 with ⟨h, h2⟩ | ⟨g, cap, cur, h, _⟩
                  · exact ⟨none, 0, by rw [h, h2]⟩
                  · exact ⟨_, _, h⟩
                subst hv7
                by_cases hj : j < R.length
                · have f1 : decide ((j : Int) < (R.length : Int)) = true := by rw [decide_eq_true_eq]; omega
                  have f2 : decide (j < R.length) = true := by rw [decide_eq_true_eq]; omega
                  have f3 : (j : Int) < (R.length : Int) := by omega
                  have HJL : Hid (j < R.length) := hj
                  obtain ⟨gi, oi, capi, hv, kk⟩ := hs2.at j hj
                  injection hv with hv hv2 hv3
                  subst hv hv3
                  have HTS2 : Hid (iC (R.take (j + 1)) = iC (R.take j) ++ [.int .i64 (R.getD j 0)]) := by unfold iC; rw [take_snoc R 0 j hj, List.map_append]; exact rfl
                  obtain ⟨m, hm⟩ : ∃ m, R.getD j 0 = m := ⟨_, rfl⟩
                  rw [hm] at kk HTS2
                  have HJB : Hid (j ≤ 1048576) := by have := HRL.out; show _ ≤ _; omega
                  have HROW : Hid ((wr.alloc (.cells #[.int .i64 m] 3)).ownsRow BQ 3 1 (.slice va j vc) j (iC (R.take j))) := HV.out.alloc _
                  have HA1 : Hid (j + 1 ≤ maxLen) := by have := HJB.out; unfold maxLen; show _ ≤ _; omega
                  have HA2 : Hid ((j + 1) * 8 ≤ 140737488355328) := by have := HJB.out; show _ ≤ _; omega
                  have HA3 : Hid (BQ ≤ (wr.alloc (.cells #[.int .i64 m] 3)).heap.size) := by have h9 := HBJ.out.size; have h8 := HBQ.out; rw [World.size_alloc]; show _ ≤ _; omega
                  have hwj := w64 j (by have := HRL.out; omega)
                  clear hj hm hv2 hs2
                  have HKEY : Hid (∀ (v9 : Value) (w9 : World), w9.ownsRow BQ 3 1 v9 (j + 1) (iC (R.take j) ++ [.int .i64 m]) → (wr.alloc (.cells #[.int .i64 m] 3)).grownBy w9 (Value.ownBlock (.slice va j vc)) → ∃ qa qc, v9 = .slice qa (j + 1) qc ∧ Hid (w9.ownsRow BQ 3 1 v9 (j + 1) (iC (R.take (j + 1)))) ∧ Hid (wr.grownBy w9 (Value.ownBlock (.slice va j vc)))) := fun v9 w9 ho9 hg9 => by
                    obtain ⟨qa, qc, h⟩ : ∃ a c, v9 = .slice a (j + 1) c := by
                      rcases ho9.2 with ⟨h, h2⟩ | ⟨g, cap, cur, h, _⟩
                      · exact absurd h2 (Nat.succ_ne_zero _)
                      · exact ⟨_, _, h⟩
                    exact ⟨qa, qc, h, by rw [HTS2.out]; exact ho9, (World.grownBy_alloc _ _ _).trans hg9⟩
                  go_wp2_with (at_builtin; refine wpList_append_own_at _ rfl _ _ 23 rfl BQ 3 i3 (.int .i64 0) 1 8 Try.underlying23 hi3 hy0 hy1 hy2 rfl (by decide) _ _ _ rfl HROW.out ⟨wr.heap.size, 0, none⟩ 1 1 [.int .i64 m] rfl rfl (cell_one_new _ _ _) (by simp [Value.oneCell']) HA1.out HA2.out HA3.out ?_; intro v9 w9 ho9 hg9 _ ha9; obtain ⟨qa, qc, rfl, HO9, HG9⟩ := HKEY.out v9 w9 ho9 hg9; clear ho9 hg9 ha9)
                  go_roundg (R.length - (j + 1))
                  case measure => clear hwj; have := HJJ.out; have := HJL.out; omega
                  case rel => exact ⟨j + 1, by rw [hwj], ⟨HJL.out, rfl⟩, HO9, HBJ.out.trans ((Below.refl _ _).grown HG9.out (Nat.le_trans HBQ.out HBJ.out.size) (fun r e => (row_tag HV.out r e).1))⟩
                · have f1 : decide ((j : Int) < (R.length : Int)) = false := by rw [decide_eq_false_iff_not]; omega
                  have f2 : decide (j < R.length) = false := by rw [decide_eq_false_iff_not]; omega
                  have hjR : j = R.length := Nat.le_antisymm HJJ.out.1 (Nat.le_of_not_lt hj)
                  have hrow := HV.out
                  rw [hjR, List.take_of_length_le (Nat.le_refl _)] at hrow
                  obtain ⟨d1, d2⟩ := HDJ.out _ _ _ _ hrow
                  have HD1 : Hid _ := d1
                  have HD2 : Hid (dj (.slice va R.length vc) xt) := d2
                  have HSV : Hid (Sh w.heap.size wr 3 1 (.slice va R.length vc) R.length R.length (iC R)) := Sh.full (row_base hrow HLE.out)
                  have hk2 : wr.cell? ⟨w.heap.size + 2, 2, none⟩ = some (.slice ra i rc) := by rw [Lib.cell_of_heap HTQ.out.b2]; rfl
                  have hxr := HTQ.out.tr.fr
                  rw [HNE.out] at hxr
                  have HXR : Hid (wr.ownsRow w.heap.size 23 1 (.slice ra i rc) i fvs) := hxr.row
                  have HROW : Hid ((wr.alloc (.cells #[.slice va R.length vc] 23)).ownsRow w.heap.size 23 1 (.slice ra i rc) i fvs) := HXR.out.alloc _
                  have HA1 : Hid (i + 1 ≤ maxLen) := by have := HNL.out; unfold maxLen; show _ ≤ _; omega
                  have HA2 : Hid ((i + 1) * 24 ≤ 140737488355328) := by have := HNL.out; show _ ≤ _; omega
                  have HA3 : Hid (w.heap.size ≤ (wr.alloc (.cells #[.slice va R.length vc] 23)).heap.size) := by have h9 := HTQ.out.bel.size; rw [World.size_alloc]; show _ ≤ _; omega
                  rw [hjR]
                  rw [hjR] at f1 f2
                  clear hj hrow d1 d2 hxr HJJ HV hjR hs2
                  have HKEY : Hid (∀ (v9 : Value) (w9 : World), w9.ownsRow w.heap.size 23 1 v9 (i + 1) (fvs ++ [Value.slice va R.length vc]) → (wr.alloc (.cells #[.slice va R.length vc] 23)).grownBy w9 (Value.ownBlock (.slice ra i rc)) → ∃ qa qc, v9 = .slice qa (i + 1) qc ∧ w9.cell? ⟨w.heap.size + 2, 2, none⟩ = some (.slice ra i rc) ∧ w9.frozen? ⟨w.heap.size + 2, 2, none⟩ = false ∧ Hid (Tk w (w9.setCell ⟨w.heap.size + 2, 2, none⟩ v9) (.slice a1 N.on.length c1) (.slice a2 N.tos.length c2) (.slice (some ⟨g, o, none⟩) N.free.length c3) N N.on N.tos (fvs ++ [Value.slice va R.length vc]) (N.free.take i ++ [R]) ((N.free.take i).map List.length ++ [R.length]) xo N.on.length xt N.tos.length v9 (i + 1))) := fun v9 w9 ho9 hg9 => by
                    obtain ⟨qa, qc, h⟩ : ∃ a c, v9 = .slice a (i + 1) c := by
                      rcases ho9.2 with ⟨h, h2⟩ | ⟨g, cap, cur, h, _⟩
                      · exact absurd h2 (Nat.succ_ne_zero _)
                      · exact ⟨_, _, h⟩
                    have HG9 : wr.grownBy w9 (Value.ownBlock (.slice ra i rc)) := (World.grownBy_alloc _ _ _).trans hg9
                    have HMID := HTQ.out.mid (.inr (.inr HG9))
                    have HSR : Sh w.heap.size w9 23 1 v9 (i + 1) (fvs ++ [Value.slice va R.length vc]).length (fvs ++ [Value.slice va R.length vc]) := by rw [List.length_append, HNE.out]; exact Sh.full ho9
                    exact ⟨qa, qc, h, by rw [Lib.cell_of_heap HMID.2.2.2]; rfl, Lib.frozen_of_heap HMID.2.2.2 2, HTQ.out.fr_ HG9 HSR HSV.out HD1.out HD2.out⟩
                  have hwi := HWI.out
                  go_wp2_with (at_builtin; refine wpList_append_own_at _ rfl _ _ 24 rfl w.heap.size 23 i23 (.slice none 0 0) 1 24 Try.underlying24 hi23 hx0 hx1 hx2 rfl (by decide) _ _ _ rfl HROW.out ⟨wr.heap.size, 0, none⟩ 1 1 [.slice va R.length vc] rfl rfl (cell_one_new _ _ _) (by simp [Value.oneCell']) HA1.out HA2.out HA3.out ?_; intro v9 w9 ho9 hg9 _ ha9; obtain ⟨qa, qc, rfl, k2b, f2b, HT9⟩ := HKEY.out v9 w9 ho9 hg9; clear ho9 hg9 ha9)
                  go_roundg (N.free.length - (i + 1))
                  case measure => clear hwi; have := HII.out; have := HIL.out; omega
                  case rel => exact ⟨i + 1, by rw [hwi], ⟨HIL.out, rfl⟩, _, _, by rw [HTS.out, List.map_append]; exact HT9⟩
            · have e1 : decide ((i : Int) < (N.free.length : Int)) = false := by rw [decide_eq_false_iff_not]; omega
              have e2 : decide (i < N.free.length) = false := by rw [decide_eq_false_iff_not]; omega
              have HT3 : Hid (Tk w wr (.slice a1 N.on.length c1) (.slice a2 N.tos.length c2) (.slice a3 N.free.length c3) N N.on N.tos fvs N.free (N.free.map List.length) xo N.on.length xt N.tos.length xf N.free.length) := by
                have h := HT.out
                have hin : i = N.free.length := by have := HII.out; omega
                rw [hin, List.take_of_length_le (Nat.le_refl _)] at h
                exact h
              clear hi HT
              have HR1 : Hid _ := HT3.out.tr.on
              obtain ⟨p1, q1, rfl, _, _⟩ := HT3.out.tr.on
              obtain ⟨p2, q2, rfl, _, _⟩ := HT3.out.tr.tos
              obtain ⟨p3, q3, rfl, _, _⟩ := HT3.out.tr.fr
              have s0 : wr.cell? ⟨w.heap.size + 2, 0, none⟩ = some (.slice p1 N.on.length q1) := by rw [Lib.cell_of_heap HT3.out.b2]; rfl
              have s1 : wr.cell? ⟨w.heap.size + 2, 1, none⟩ = some (.slice p2 N.tos.length q2) := by rw [Lib.cell_of_heap HT3.out.b2]; rfl
              have s2 : wr.cell? ⟨w.heap.size + 2, 2, none⟩ = some (.slice p3 N.free.length q3) := by rw [Lib.cell_of_heap HT3.out.b2]; rfl
              have s3 : wr.cell? ⟨w.heap.size + 2, 3, none⟩ = some (.int .i64 N.start) := by rw [Lib.cell_of_heap HT3.out.b2]; rfl
              have s4 : wr.cell? ⟨w.heap.size + 2, 4, none⟩ = some (.int .i64 N.fin) := by rw [Lib.cell_of_heap HT3.out.b2]; rfl
              have r0 : wr.cell? ⟨w.heap.size + 1, 0, none⟩ = some (.slice none 0 0) := by rw [Lib.cell_of_heap HT3.out.b1]; rfl
              have r1 : wr.cell? ⟨w.heap.size + 1, 1, none⟩ = some (.slice none 0 0) := by rw [Lib.cell_of_heap HT3.out.b1]; rfl
              have r2 : wr.cell? ⟨w.heap.size + 1, 2, none⟩ = some (.slice none 0 0) := by rw [Lib.cell_of_heap HT3.out.b1]; rfl
              have r3 : wr.cell? ⟨w.heap.size + 1, 3, none⟩ = some (.int .i64 0) := by rw [Lib.cell_of_heap HT3.out.b1]; rfl
              have r4 : wr.cell? ⟨w.heap.size + 1, 4, none⟩ = some (.int .i64 0) := by rw [Lib.cell_of_heap HT3.out.b1]; rfl
              have z0 := Lib.frozen_of_heap HT3.out.b1 0
              have z1 := Lib.frozen_of_heap HT3.out.b1 1
              have z2 := Lib.frozen_of_heap HT3.out.b1 2
              have z3 := Lib.frozen_of_heap HT3.out.b1 3
              have z4 := Lib.frozen_of_heap HT3.out.b1 4
              go_wp2_with fail
              refine bodyPost_ret (v := nfW (.slice p1 N.on.length q1) (.slice p2 N.tos.length q2) (.slice p3 N.free.length q3) N) ?_ rfl ?_
              · rw [results_cell1 rfl]; go_simp
              · exact ⟨fvs, _, _, _, rfl, (((((HT3.out.tr.blk HT3.out.b1 grown_set).blk (blk_set _ HT3.out.b1) grown_set).blk (blk_set _ (blk_set _ HT3.out.b1)) grown_set).blk (blk_set _ (blk_set _ (blk_set _ HT3.out.b1))) grown_set).blk (blk_set _ (blk_set _ (blk_set _ (blk_set _ HT3.out.b1)))) grown_set), bel_set5 HT3.out.bel _ _ _ _ _⟩
end Go.Proofs.Ytkjljnneghnpiaa
