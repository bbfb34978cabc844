import Derived.Test.YtkjljnneghnpiaaNfd
namespace Go.Proofs.Ytkjljnneghnpiaa
open Go.RowKit Go.Maps

theorem mk_ints (n : Nat) (hn : n ≤ 1048576) (W : World) : (Instr.makeSlice 23 (.int .i64 (n : Int)) (.int .i64 (n : Int))).run Try.prog W = .ok (.slice (some ⟨W.heap.size, 0, none⟩) n n) (W.alloc (.cells (madeCells #[.int .i64 0] n) 3)) := by
  obtain ⟨i0, hi, hz0, hz1, hz2⟩ := info_parts info3
  have h := run_make W 23 3 i0 (.int .i64 0) Try.underlying23 hi hz0 .i64 .i64 (n : Int) (n : Int) (by omega) (Int.le_refl _) (by rw [hz2]; omega) (by omega)
  rw [hz1] at h
  simp only [Int.toNat_natCast, Nat.mul_one] at h
  exact h
theorem mk_room (n : Nat) (hn : n ≤ 1048576) (W : World) : (Instr.makeSlice 23 (.int .i64 0) (.int .i64 (n : Int))).run Try.prog W = .ok (.slice (some ⟨W.heap.size, 0, none⟩) 0 n) (W.alloc (.cells (madeCells #[.int .i64 0] n) 3)) := by
  obtain ⟨i0, hi, hz0, hz1, hz2⟩ := info_parts info3
  have h := run_make W 23 3 i0 (.int .i64 0) Try.underlying23 hi hz0 .i64 .i64 0 (n : Int) (Int.le_refl _) (by omega) (by rw [hz2]; omega) (by omega)
  rw [hz1] at h
  simp only [Int.toNat_natCast, Int.toNat_zero, Nat.mul_one] at h
  exact h
theorem sz_set (W : World) (a : Addr) (v : Value) : (W.setCell a v).heap.size = W.heap.size := by simp
/-- A row of noughts. -/
structure GsP (W : World) (gs n : Nat) : Prop where
  c : ∀ i, i < n → W.cell? ⟨gs, i, none⟩ = some (.int .i64 0)
  fr : ∀ i, W.frozen? ⟨gs, i, none⟩ = false
  lt : gs < W.heap.size
theorem GsP.made (w : World) (n : Nat) : GsP (w.alloc (.cells (madeCells #[.int .i64 0] n) 3)) w.heap.size n := by
  refine ⟨fun i hi => ?_, fun i => fr_up (Below.refl _ _) i, by simp⟩
  rw [World.cell?_alloc_at _ _ _ _ (by simp)]
  exact made_get _ _ _ hi
theorem GsP.below {W W' : World} {gs n : Nat} (h : GsP W gs n) (hb : Below W.heap.size W W') : GsP W' gs n :=
  ⟨fun i hi => below_cell hb (h.c i hi), fun i => by rw [hb.frozen (p := ⟨gs, i, none⟩) h.lt]; exact h.fr i, Nat.lt_of_lt_of_le h.lt hb.size⟩
theorem front_new {W w1 : World} {b g gs : Nat} {N : Mc} {L : Nat → Bool} (hm : Mac W.heap.size W b N) (hl : Blw w1 g N.on.length L) (hg : GsP w1 gs N.on.length) (hb : Below W.heap.size W w1) (h1 : W.heap.size ≤ g) (h2 : W.heap.size ≤ gs) (h3 : g ≠ gs) :
    FroV W.heap.size (w1.alloc (.cells #[.pointer (some ⟨b, 0, none⟩), .slice (some ⟨g, 0, none⟩) N.on.length N.on.length, .slice none 0 0, .slice none 0 0, .int .u64 0, .int .u64 0, .int .u64 0, .int .u64 0, .int .i64 1, .slice (some ⟨gs, 0, none⟩) N.on.length N.on.length] 71)) w1.heap.size b g gs N L [] [] (fun _ => false) 1 (fun _ => 0) (.slice none 0 0) (.slice none 0 0) := by
  have hsz := hb.size
  have hg' := hg.below (bel_up w1 (.cells #[.pointer (some ⟨b, 0, none⟩), .slice (some ⟨g, 0, none⟩) N.on.length N.on.length, .slice none 0 0, .slice none 0 0, .int .u64 0, .int .u64 0, .int .u64 0, .int .u64 0, .int .i64 1, .slice (some ⟨gs, 0, none⟩) N.on.length N.on.length] 71))
  refine ⟨?_, hm.mono (hb.trans ((bel_up _ _).mono hsz)) (Nat.le_refl _), hl.kept (World.grownBy_alloc _ _ none) (by simp), hg'.c, hg'.fr, hg'.lt, World.ownsRow_nil _ _ _ _, World.ownsRow_nil _ _ _ _, fun r e => (by cases e), fun r e => (by cases e), ⟨by have := hl.lt; omega, by have := hg.lt; omega, h3⟩, ⟨hsz, h1, h2⟩, by simp; omega⟩
  have h := World.alloc_heap_new w1 (.cells #[.pointer (some ⟨b, 0, none⟩), .slice (some ⟨g, 0, none⟩) N.on.length N.on.length, .slice none 0 0, .slice none 0 0, .int .u64 0, .int .u64 0, .int .u64 0, .int .u64 0, .int .i64 1, .slice (some ⟨gs, 0, none⟩) N.on.length N.on.length] 71)
  simp only [frC, wd_none]
  exact h
/-- The front while its two rows are made. -/
structure Fr3 (B : Nat) (W0 X : World) (bf b g gs : Nat) (N : Mc) (L : Nat → Bool) (sv bv : Value) (ra rb : Option Nat) : Prop where
  fro : FroV B X bf b g gs N L [] [] (fun _ => false) 1 (fun _ => 0) sv bv
  bel : Below B W0 X
  a : ∀ r, ra = some r → X.ownsRow B 3 1 (.slice (some ⟨r, 0, none⟩) 0 N.on.length) 0 [] ∧ r ≠ g ∧ r ≠ gs ∧ r ≠ bf
  b : ∀ r, rb = some r → X.ownsRow B 3 1 (.slice (some ⟨r, 0, none⟩) 0 N.on.length) 0 [] ∧ r ≠ g ∧ r ≠ gs ∧ r ≠ bf
  ne : ∀ r, ra = some r → rb ≠ some r
section
variable {B : Nat} {W0 X : World} {bf b g gs : Nat} {N : Mc} {L : Nat → Bool} {sv bv : Value} {ra rb : Option Nat}
theorem Fr3.row (hn : N.on.length ≤ 1048576) (h : Fr3 B W0 X bf b g gs N L sv bv ra rb) : (X.alloc (.cells (madeCells #[.int .i64 0] N.on.length) 3)).ownsRow B 3 1 (.slice (some ⟨X.heap.size, 0, none⟩) 0 N.on.length) 0 [] ∧ X.heap.size ≠ g ∧ X.heap.size ≠ gs ∧ X.heap.size ≠ bf := by
  have hl := h.fro.live.lt
  have hs := h.fro.slt
  have hbf := lt_of_heap h.fro.blk
  exact ⟨World.ownsRow_made X _ _ h.fro.lB (by unfold maxLen; omega) (by rw [size_madeCells]; omega), by omega, by omega, by omega⟩
theorem Fr3.lt {r : Nat} (h : X.ownsRow B 3 1 (.slice (some ⟨r, 0, none⟩) 0 N.on.length) 0 []) : r < X.heap.size := (h.lt r rfl).2
theorem Fr3.mkA (hn : N.on.length ≤ 1048576) (h : Fr3 B W0 X bf b g gs N L sv bv none rb) : Fr3 B W0 (X.alloc (.cells (madeCells #[.int .i64 0] N.on.length) 3)) bf b g gs N L sv bv (some X.heap.size) rb := by
  refine ⟨h.fro.below (bel_up _ _), h.bel.trans ((bel_up _ _).mono h.fro.lB), fun r e => ?_, fun r e => ⟨(h.b r e).1.alloc _, (h.b r e).2⟩, fun r e e' => ?_⟩
  · cases e; exact h.row hn
  · cases e; have := Fr3.lt (h.b _ e').1; omega
theorem Fr3.mkB (hn : N.on.length ≤ 1048576) (h : Fr3 B W0 X bf b g gs N L sv bv ra none) : Fr3 B W0 (X.alloc (.cells (madeCells #[.int .i64 0] N.on.length) 3)) bf b g gs N L sv bv ra (some X.heap.size) := by
  refine ⟨h.fro.below (bel_up _ _), h.bel.trans ((bel_up _ _).mono h.fro.lB), fun r e => ⟨(h.a r e).1.alloc _, (h.a r e).2⟩, fun r e => ?_, fun r e e' => ?_⟩
  · cases e; exact h.row hn
  · cases e'; have := Fr3.lt (h.a _ e).1; omega
theorem Fr3.stA {r : Nat} (h : Fr3 B W0 X bf b g gs N L sv (.slice none 0 0) (some r) rb) : Fr3 B W0 (X.setCell ⟨bf, 2, none⟩ (.slice (some ⟨r, 0, none⟩) 0 N.on.length)) bf b g gs N L (.slice (some ⟨r, 0, none⟩) 0 N.on.length) (.slice none 0 0) (some r) rb := by
  obtain ⟨h1, h2, h3, h4⟩ := h.a r rfl
  have hg : X.grownBy (X.setCell ⟨bf, 2, none⟩ (.slice (some ⟨r, 0, none⟩) 0 N.on.length)) (some bf) := grown_set
  have key := h.fro.own (S' := []) (P' := []) (m' := fun _ => false) (c' := 1) (sv' := .slice (some ⟨r, 0, none⟩) 0 N.on.length) (bv' := .slice none 0 0) hg (by rw [blk_set _ h.fro.blk]; rfl) h1 (World.ownsRow_nil _ _ _ _)
    (fun r' e => by cases e; exact ⟨h2, h3, fun e' => by cases e'⟩) (fun r' e => by cases e) ⟨fun e => by cases e; exact h4 rfl, fun e => by cases e⟩
  refine ⟨key.1, h.bel.trans key.2, fun r' e => ⟨(h.a r' e).1.kept hg (.inr fun e' => by cases e'; exact (h.a _ e).2.2.2 rfl), (h.a r' e).2⟩, fun r' e => ⟨(h.b r' e).1.kept hg (.inr fun e' => by cases e'; exact (h.b _ e).2.2.2 rfl), (h.b r' e).2⟩, h.ne⟩
theorem Fr3.stB {r r' : Nat} (h : Fr3 B W0 X bf b g gs N L (.slice (some ⟨r, 0, none⟩) 0 N.on.length) bv (some r) (some r')) : Fr3 B W0 (X.setCell ⟨bf, 3, none⟩ (.slice (some ⟨r', 0, none⟩) 0 N.on.length)) bf b g gs N L (.slice (some ⟨r, 0, none⟩) 0 N.on.length) (.slice (some ⟨r', 0, none⟩) 0 N.on.length) (some r) (some r') := by
  obtain ⟨h1, h2, h3, h4⟩ := h.a r rfl
  obtain ⟨k1, k2, k3, k4⟩ := h.b r' rfl
  have hne := h.ne r rfl
  have hg : X.grownBy (X.setCell ⟨bf, 3, none⟩ (.slice (some ⟨r', 0, none⟩) 0 N.on.length)) (some bf) := grown_set
  have key := h.fro.own (S' := []) (P' := []) (m' := fun _ => false) (c' := 1) (sv' := .slice (some ⟨r, 0, none⟩) 0 N.on.length) (bv' := .slice (some ⟨r', 0, none⟩) 0 N.on.length) hg (by rw [blk_set _ h.fro.blk]; rfl) h1 k1
    (fun x e => by cases e; exact ⟨h2, h3, fun e' => hne (by cases e'; rfl)⟩) (fun x e => by cases e; exact ⟨k2, k3⟩) ⟨fun e => by cases e; exact h4 rfl, fun e => by cases e; exact k4 rfl⟩
  refine ⟨key.1, h.bel.trans key.2, fun x e => ⟨(h.a x e).1.kept hg (.inr fun e' => by cases e'; exact (h.a _ e).2.2.2 rfl), (h.a x e).2⟩, fun x e => ⟨(h.b x e).1.kept hg (.inr fun e' => by cases e'; exact (h.b _ e).2.2.2 rfl), (h.b x e).2⟩, h.ne⟩
end

set_option maxRecDepth 100000 in
set_option maxHeartbeats 4000000 in
theorem newFront_any {B b : Nat} {N : Mc} (hs : Small N) (hfin : N.isS N.fin = true) (hst : N.isS N.start = true) (W : World) (hm : Mac B W b N) (hB : B ≤ W.heap.size) :
    Calls Try.prog 24 #[.pointer (some ⟨b, 0, none⟩)] W fun e w' => ∃ bf g gs L, e = .returned (.pointer (some ⟨bf, 0, none⟩)) ∧ LvOk N L ∧ FSt W.heap.size w' bf b g gs N L 1 [] ∧ Below W.heap.size W w' := by
  have hm0 : Mac W.heap.size W b N := hm.mono (Below.refl _ _) hB
  obtain ⟨vo, vt, vf, hp, h0, h1, h2⟩ := hm0.parts
  obtain ⟨a, go, oo, cap, rfl, ha, hc⟩ := hp.on
  have HM : Hid (Mac W.heap.size W b N) := hm0
  have HS : Hid (Small N) := hs
  have HFIN : Hid (N.isS N.fin = true) := hfin
  have HST : Hid (N.isS N.start = true) := hst
  have hmk := mk_ints N.on.length hs.on
  have hmr := mk_room N.on.length hs.on
  clear hs hm hm0 hB hfin hst hp ha hc h1 h2
  go_enter Try.func24, Try.ntmps24
  go_upto_region 2 with fail
  go_cut [4] from 11 (fun v wd => ∃ bf g gs L, v = .pointer (some ⟨bf, 0, none⟩) ∧ LvOk N L ∧ FroV W.heap.size wd bf b g gs N L [] [] (fun _ => false) 1 (fun _ => 0) (.slice none 0 0) (.slice none 0 0) ∧ Below W.heap.size W wd)
  case first =>
    obtain ⟨WD, hWD⟩ : ∃ WD, W.drew = WD := ⟨_, rfl⟩
    have HMD : Hid (Mac WD.heap.size WD b N) := by rw [← hWD]; exact HM.out.mono (Below.drew (Below.refl _ _)) (Nat.le_refl _)
    have HWS : Hid (WD.heap.size = W.heap.size) := by rw [← hWD]; rfl
    have HWB : Hid (Below W.heap.size W WD) := by rw [← hWD]; exact Below.drew (Below.refl _ _)
    refine wp_region_noPanic ?_
    refine wp_region_held_drew (S := fun _ => True) (by kernel_rfl) trivial (fun hHeld => ?_)
    rw [hWD]
    refine wpAnyH_take (i := 0) (oi := { dst := _, op := _, type := _, pos := _, after := _, guard := _ }) (v := ?_) rfl (by kernel_rfl) (by kernel_rfl) (by kernel_rfl) (fun _ _ _ h => h) (Or.inl ⟨by rfl, ?_⟩) (by assumption) ?_
    rotate_left
    · intro W hSw
      (try dsimp only at hSw)
      go_simp
      (try with_reducible rfl)
    try simp only [Act.put, List.setIfInBounds_toArray, List.set_cons_zero, List.set_cons_succ]
    refine wpAnyH_take (i := 1) (oi := { dst := _, op := _, type := _, pos := _, after := _, guard := _ }) (v := ?_) rfl (by kernel_rfl) (by kernel_rfl) (by kernel_rfl) (fun _ _ _ h => h) (Or.inl ⟨by rfl, ?_⟩) (by assumption) ?_
    rotate_left
    · intro W hSw
      (try dsimp only at hSw)
      go_simp
      (try with_reducible rfl)
    try simp only [Act.put, List.setIfInBounds_toArray, List.set_cons_zero, List.set_cons_succ]
    refine wpAnyH_take (i := 3) (oi := { dst := _, op := _, type := _, pos := _, after := _, guard := _ }) (v := ?_) rfl (by kernel_rfl) (by kernel_rfl) (by kernel_rfl) (fun _ _ _ h => h) (Or.inl ⟨by rfl, ?_⟩) (by assumption) ?_
    rotate_left
    · intro W hSw
      (try dsimp only at hSw)
      go_simp
      (try with_reducible rfl)
    try simp only [Act.put, List.setIfInBounds_toArray, List.set_cons_zero, List.set_cons_succ]
    refine wpAnyH_ready (rs := [2, 4]) (by kernel_rfl) (by simp) ?_
    refine AllReadyH.cons (o := { dst := _, op := _, type := _, pos := _, after := _, guard := _ }) rfl (fun K hK => ?_) (AllReadyH.cons (o := { dst := _, op := _, type := _, pos := _, after := _, guard := _ }) rfl (fun K hK => ?_) (AllReadyH.nil))
    · go_simp
      refine (living_any HS.out HFIN.out WD HMD.out (Nat.le_refl _)).mono ?_
      rintro e w0 ⟨g, L, rfl, hbl, hlv, hb1, hgl⟩
      have HLV : Hid (LvOk N L) := hlv
      have HBL0 : Hid (Blw w0 g N.on.length L) := hbl
      have HB0 : Hid (Below WD.heap.size WD w0) := hb1
      have HGL0 : Hid (WD.heap.size ≤ g) := hgl
      clear hbl hlv hb1 hgl
      refine hK.out _ _ ?_ (fun hHeld => ?_)
      · exact trivial
      clear hK K
      try simp only [Act.put, List.setIfInBounds_toArray, List.set_cons_zero, List.set_cons_succ]
      refine wpAnyH_ready (rs := [4]) (by kernel_rfl) (by simp) ?_
      refine AllReadyH.cons (o := { dst := _, op := _, type := _, pos := _, after := _, guard := _ }) rfl (fun K hK => ?_) AllReadyH.nil
      go_simp
      refine hK.out _ _ ?_ (fun hHeld => ?_)
      · exact trivial
      clear hK K
      try simp only [Act.put, List.setIfInBounds_toArray, List.set_cons_zero, List.set_cons_succ]
      have HG1 : Hid (GsP (w0.alloc (.cells (madeCells #[.int .i64 0] N.on.length) 3)) w0.heap.size N.on.length) := GsP.made w0 N.on.length
      have HBL : Hid (Blw (w0.alloc (.cells (madeCells #[.int .i64 0] N.on.length) 3)) g N.on.length L) := HBL0.out.kept (World.grownBy_alloc _ _ none) (by simp)
      have HB1 : Hid (Below WD.heap.size WD (w0.alloc (.cells (madeCells #[.int .i64 0] N.on.length) 3))) := below_trans HB0.out (bel_up _ _)
      have HGL : Hid (WD.heap.size ≤ g ∧ g ≠ w0.heap.size) := ⟨HGL0.out, by have := HBL0.out.lt; omega⟩
      refine wpAnyH_take (i := 5) (oi := { dst := _, op := _, type := _, pos := _, after := _, guard := _ }) (v := ?_) rfl (by kernel_rfl) (by kernel_rfl) (by kernel_rfl) (fun _ _ _ h => h) (Or.inl ⟨by rfl, ?_⟩) (by assumption) ?_
      rotate_left
      · intro W hSw
        (try dsimp only at hSw)
        go_simp
        (try with_reducible rfl)
      try simp only [Act.put, List.setIfInBounds_toArray, List.set_cons_zero, List.set_cons_succ]
      refine wpAnyH_ready (rs := [6]) (by kernel_rfl) (by simp) ?_
      refine AllReadyH.cons (o := { dst := _, op := _, type := _, pos := _, after := _, guard := _ }) rfl (fun K hK => ?_) AllReadyH.nil
      go_simp
      refine hK.out _ _ ?_ (fun hHeld => ?_)
      · exact trivial
      clear hK K
      try simp only [Act.put, List.setIfInBounds_toArray, List.set_cons_zero, List.set_cons_succ]
      refine wpAnyH_take (i := 7) (oi := { dst := _, op := _, type := _, pos := _, after := _, guard := _ }) (v := ?_) rfl (by kernel_rfl) (by kernel_rfl) (by kernel_rfl) (fun _ _ _ h => h) (Or.inl ⟨by rfl, ?_⟩) (by assumption) ?_
      rotate_left
      · intro W hSw
        (try dsimp only at hSw)
        go_simp
        (try with_reducible rfl)
      try simp only [Act.put, List.setIfInBounds_toArray, List.set_cons_zero, List.set_cons_succ]
      refine wpAnyH_done (by kernel_rfl) ?_ _
      clear hHeld
      refine NoPanic.normal ?_
      go_wp2_with fail
      go_meet
      have hF := front_new (b := b) (w1 := (w0.alloc (.cells (madeCells #[.int .i64 0] N.on.length) 3))) HMD.out HBL.out HG1.out HB1.out HGL.out.1 HB0.out.size HGL.out.2
      rw [HWS.out] at hF
      rw [World.size_alloc] at hF
      exact ⟨_, g, w0.heap.size, L, rfl, HLV.out, hF, HWB.out.trans ((HB1.out.trans ((bel_up _ _).mono HB1.out.size)).mono (Nat.le_of_eq HWS.out.symm))⟩
    · go_simp
      refine hK.out _ _ ?_ (fun hHeld => ?_)
      · exact trivial
      clear hK K
      try simp only [Act.put, List.setIfInBounds_toArray, List.set_cons_zero, List.set_cons_succ]
      refine wpAnyH_ready (rs := [2]) (by kernel_rfl) (by simp) ?_
      refine AllReadyH.cons (o := { dst := _, op := _, type := _, pos := _, after := _, guard := _ }) rfl (fun K hK => ?_) AllReadyH.nil
      go_simp
      refine (living_any (B := WD.heap.size) HS.out HFIN.out (WD.alloc (.cells (madeCells #[.int .i64 0] N.on.length) 3)) (HMD.out.mono (bel_up _ _) (Nat.le_refl _)) (by simp)).mono ?_
      rintro e w1 ⟨g, L, rfl, hbl, hlv, hb1, hgl⟩
      have HLV : Hid (LvOk N L) := hlv
      have HG1 : Hid (GsP w1 WD.heap.size N.on.length) := (GsP.made WD N.on.length).below hb1
      have HBL : Hid (Blw w1 g N.on.length L) := hbl
      have HB1 : Hid (Below WD.heap.size WD w1) := below_trans (bel_up _ _) (hb1)
      have HGL : Hid (WD.heap.size ≤ g ∧ g ≠ WD.heap.size) := by rw [World.size_alloc] at hgl; exact ⟨by omega, by omega⟩
      clear hbl hlv hb1 hgl
      refine hK.out _ _ ?_ (fun hHeld => ?_)
      · exact trivial
      clear hK K
      try simp only [Act.put, List.setIfInBounds_toArray, List.set_cons_zero, List.set_cons_succ]
      refine wpAnyH_take (i := 5) (oi := { dst := _, op := _, type := _, pos := _, after := _, guard := _ }) (v := ?_) rfl (by kernel_rfl) (by kernel_rfl) (by kernel_rfl) (fun _ _ _ h => h) (Or.inl ⟨by rfl, ?_⟩) (by assumption) ?_
      rotate_left
      · intro W hSw
        (try dsimp only at hSw)
        go_simp
        (try with_reducible rfl)
      try simp only [Act.put, List.setIfInBounds_toArray, List.set_cons_zero, List.set_cons_succ]
      refine wpAnyH_ready (rs := [6]) (by kernel_rfl) (by simp) ?_
      refine AllReadyH.cons (o := { dst := _, op := _, type := _, pos := _, after := _, guard := _ }) rfl (fun K hK => ?_) AllReadyH.nil
      go_simp
      refine hK.out _ _ ?_ (fun hHeld => ?_)
      · exact trivial
      clear hK K
      try simp only [Act.put, List.setIfInBounds_toArray, List.set_cons_zero, List.set_cons_succ]
      refine wpAnyH_take (i := 7) (oi := { dst := _, op := _, type := _, pos := _, after := _, guard := _ }) (v := ?_) rfl (by kernel_rfl) (by kernel_rfl) (by kernel_rfl) (fun _ _ _ h => h) (Or.inl ⟨by rfl, ?_⟩) (by assumption) ?_
      rotate_left
      · intro W hSw
        (try dsimp only at hSw)
        go_simp
        (try with_reducible rfl)
      try simp only [Act.put, List.setIfInBounds_toArray, List.set_cons_zero, List.set_cons_succ]
      refine wpAnyH_done (by kernel_rfl) ?_ _
      clear hHeld
      refine NoPanic.normal ?_
      go_wp2_with fail
      go_meet
      have hF := front_new (b := b) (w1 := w1) HMD.out HBL.out HG1.out HB1.out HGL.out.1 (Nat.le_refl _) HGL.out.2
      rw [HWS.out] at hF ⊢
      exact ⟨_, g, W.heap.size, L, rfl, HLV.out, hF, HWB.out.trans ((HB1.out.trans ((bel_up _ _).mono HB1.out.size)).mono (Nat.le_of_eq HWS.out.symm))⟩
  case rest =>
    obtain ⟨bf, g, gs, L, rfl, hlv, hf, hbw⟩ := hcut
    have HLV : Hid (LvOk N L) := hlv
    have HF : Hid (FroV W.heap.size wc bf b g gs N L [] [] (fun _ => false) 1 (fun _ => 0) (.slice none 0 0) (.slice none 0 0)) := hf
    have HBW : Hid (Below W.heap.size W wc) := hbw
    clear hlv hf hbw h0 hmk
    go_upto_region 3 with fail
    go_cut [1] from 18 (fun _ wr => ∃ sv bv, FroV W.heap.size wr bf b g gs N L [] [] (fun _ => false) 1 (fun _ => 0) sv bv ∧ Below W.heap.size W wr)
    case first =>
      obtain ⟨WD, hWD⟩ : ∃ WD, wc.drew = WD := ⟨_, rfl⟩
      have HFD : Hid (FroV W.heap.size WD bf b g gs N L [] [] (fun _ => false) 1 (fun _ => 0) (.slice none 0 0) (.slice none 0 0)) := by rw [← hWD]; exact HF.out.drew
      have HBD : Hid (Below W.heap.size W WD) := by rw [← hWD]; exact HBW.out.drew
      have HSN : Hid (N.on.length ≤ 1048576) := HS.out.on
      have HX0 : Hid (Fr3 W.heap.size W WD bf b g gs N L (.slice none 0 0) (.slice none 0 0) none none) := ⟨HFD.out, HBD.out, fun r e => (by cases e), fun r e => (by cases e), fun r e => (by cases e)⟩
      refine wp_region_noPanic ?_
      refine wp_region_held_drew (S := fun _ => True) (by kernel_rfl) trivial (fun hHeld => ?_)
      rw [hWD]
      refine wpAnyH_take (i := 0) (oi := { dst := _, op := _, type := _, pos := _, after := _, guard := _ }) (v := ?_) rfl (by kernel_rfl) (by kernel_rfl) (by kernel_rfl) (fun _ _ _ h => h) (Or.inl ⟨by rfl, ?_⟩) (by assumption) ?_
      rotate_left
      · intro W hSw
        (try dsimp only at hSw)
        go_simp
        (try with_reducible rfl)
      try simp only [Act.put, List.setIfInBounds_toArray, List.set_cons_zero, List.set_cons_succ]
      refine wpAnyH_take (i := 1) (oi := { dst := _, op := _, type := _, pos := _, after := _, guard := _ }) (v := ?_) rfl (by kernel_rfl) (by kernel_rfl) (by kernel_rfl) (fun _ _ _ h => h) (Or.inl ⟨by rfl, ?_⟩) (by assumption) ?_
      rotate_left
      · intro W hSw
        (try dsimp only at hSw)
        go_simp
        (try with_reducible rfl)
      try simp only [Act.put, List.setIfInBounds_toArray, List.set_cons_zero, List.set_cons_succ]
      refine wpAnyH_take (i := 2) (oi := { dst := _, op := _, type := _, pos := _, after := _, guard := _ }) (v := ?_) rfl (by kernel_rfl) (by kernel_rfl) (by kernel_rfl) (fun _ _ _ h => h) (Or.inl ⟨by rfl, ?_⟩) (by assumption) ?_
      rotate_left
      · intro W hSw
        (try dsimp only at hSw)
        go_simp
        (try with_reducible rfl)
      try simp only [Act.put, List.setIfInBounds_toArray, List.set_cons_zero, List.set_cons_succ]
      refine wpAnyH_take (i := 4) (oi := { dst := _, op := _, type := _, pos := _, after := _, guard := _ }) (v := ?_) rfl (by kernel_rfl) (by kernel_rfl) (by kernel_rfl) (fun _ _ _ h => h) (Or.inl ⟨by rfl, ?_⟩) (by assumption) ?_
      rotate_left
      · intro W hSw
        (try dsimp only at hSw)
        go_simp
        (try with_reducible rfl)
      try simp only [Act.put, List.setIfInBounds_toArray, List.set_cons_zero, List.set_cons_succ]
      refine wpAnyH_ready (rs := [3, 5]) (by kernel_rfl) (by simp) ?_
      refine AllReadyH.cons (o := { dst := _, op := _, type := _, pos := _, after := _, guard := _ }) rfl (fun K hK => ?_) (AllReadyH.cons (o := { dst := _, op := _, type := _, pos := _, after := _, guard := _ }) rfl (fun K hK => ?_) (AllReadyH.nil))
      · go_simp
        refine hK.out _ _ ?_ (fun hHeld => ?_)
        · exact trivial
        clear hK K
        try simp only [Act.put, List.setIfInBounds_toArray, List.set_cons_zero, List.set_cons_succ]
        (try clear e2 e3 ff)
        have HX1 : Hid _ := Fr3.mkA HSN.out HX0.out
        have ff := HX1.out.fro.fr
        have e2 := HX1.out.fro.cell 2 _ rfl
        have e3 := HX1.out.fro.cell 3 _ rfl
        (try simp only [World.size_alloc] at e2)
        (try simp only [World.size_alloc] at e3)
        (try simp only [World.size_alloc] at ff)
        refine wpAnyH_take (i := 6) (oi := { dst := _, op := _, type := _, pos := _, after := _, guard := _ }) (v := ?_) rfl (by kernel_rfl) (by kernel_rfl) (by kernel_rfl) (fun _ _ _ h => h) (Or.inl ⟨by rfl, ?_⟩) (by assumption) ?_
        rotate_left
        · intro W hSw
          (try dsimp only at hSw)
          go_simp
          (try with_reducible rfl)
        try simp only [Act.put, List.setIfInBounds_toArray, List.set_cons_zero, List.set_cons_succ]
        refine wpAnyH_take (i := 7) (oi := { dst := _, op := _, type := _, pos := _, after := _, guard := _ }) (v := ?_) rfl (by kernel_rfl) (by kernel_rfl) (by kernel_rfl) (fun _ _ _ h => h) (Or.inl ⟨by rfl, ?_⟩) (by assumption) ?_
        rotate_left
        · intro W hSw
          (try dsimp only at hSw)
          go_simp
          (try with_reducible rfl)
        try simp only [Act.put, List.setIfInBounds_toArray, List.set_cons_zero, List.set_cons_succ]
        refine wpAnyH_ready (rs := [5, 8]) (by kernel_rfl) (by simp) ?_
        refine AllReadyH.cons (o := { dst := _, op := _, type := _, pos := _, after := _, guard := _ }) rfl (fun K hK => ?_) (AllReadyH.cons (o := { dst := _, op := _, type := _, pos := _, after := _, guard := _ }) rfl (fun K hK => ?_) (AllReadyH.nil))
        · go_simp
          refine hK.out _ _ ?_ (fun hHeld => ?_)
          · exact trivial
          clear hK K
          try simp only [Act.put, List.setIfInBounds_toArray, List.set_cons_zero, List.set_cons_succ]
          (try clear e2 e3 ff)
          have HX2 : Hid _ := Fr3.mkB HSN.out HX1.out
          have ff := HX2.out.fro.fr
          have e2 := HX2.out.fro.cell 2 _ rfl
          have e3 := HX2.out.fro.cell 3 _ rfl
          (try simp only [World.size_alloc] at e2)
          (try simp only [World.size_alloc] at e3)
          (try simp only [World.size_alloc] at ff)
          refine wpAnyH_ready (rs := [8]) (by kernel_rfl) (by simp) ?_
          refine AllReadyH.cons (o := { dst := _, op := _, type := _, pos := _, after := _, guard := _ }) rfl (fun K hK => ?_) AllReadyH.nil
          go_simp
          refine hK.out _ _ ?_ (fun hHeld => ?_)
          · exact trivial
          clear hK K
          try simp only [Act.put, List.setIfInBounds_toArray, List.set_cons_zero, List.set_cons_succ]
          (try clear e2 e3 ff)
          have HX3 : Hid _ := Fr3.stA HX2.out
          have ff := HX3.out.fro.fr
          have e2 := HX3.out.fro.cell 2 _ rfl
          have e3 := HX3.out.fro.cell 3 _ rfl
          (try simp only [World.size_alloc] at e2)
          (try simp only [World.size_alloc] at e3)
          (try simp only [World.size_alloc] at ff)
          refine wpAnyH_take (i := 9) (oi := { dst := _, op := _, type := _, pos := _, after := _, guard := _ }) (v := ?_) rfl (by kernel_rfl) (by kernel_rfl) (by kernel_rfl) (fun _ _ _ h => h) (Or.inl ⟨by rfl, ?_⟩) (by assumption) ?_
          rotate_left
          · intro W hSw
            (try dsimp only at hSw)
            go_simp
            (try with_reducible rfl)
          try simp only [Act.put, List.setIfInBounds_toArray, List.set_cons_zero, List.set_cons_succ]
          refine wpAnyH_take (i := 10) (oi := { dst := _, op := _, type := _, pos := _, after := _, guard := _ }) (v := ?_) rfl (by kernel_rfl) (by kernel_rfl) (by kernel_rfl) (fun _ _ _ h => h) (Or.inl ⟨by rfl, ?_⟩) (by assumption) ?_
          rotate_left
          · intro W hSw
            (try dsimp only at hSw)
            go_simp
            (try with_reducible rfl)
          try simp only [Act.put, List.setIfInBounds_toArray, List.set_cons_zero, List.set_cons_succ]
          refine wpAnyH_ready (rs := [11]) (by kernel_rfl) (by simp) ?_
          refine AllReadyH.cons (o := { dst := _, op := _, type := _, pos := _, after := _, guard := _ }) rfl (fun K hK => ?_) AllReadyH.nil
          go_simp
          refine hK.out _ _ ?_ (fun hHeld => ?_)
          · exact trivial
          clear hK K
          try simp only [Act.put, List.setIfInBounds_toArray, List.set_cons_zero, List.set_cons_succ]
          (try clear e2 e3 ff)
          have HX4 : Hid _ := Fr3.stB HX3.out
          have ff := HX4.out.fro.fr
          have e2 := HX4.out.fro.cell 2 _ rfl
          have e3 := HX4.out.fro.cell 3 _ rfl
          (try simp only [World.size_alloc] at e2)
          (try simp only [World.size_alloc] at e3)
          (try simp only [World.size_alloc] at ff)
          refine wpAnyH_done (by kernel_rfl) ?_ _
          clear hHeld
          refine NoPanic.normal ?_
          (try clear e2 e3 ff)
          go_wp2_with fail
          go_meet
          have hE := HX4.out
          (try simp only [sz_set] at hE)
          (try simp only [World.size_alloc] at hE)
          exact ⟨_, _, hE.fro, hE.bel⟩
        · go_simp
          refine hK.out _ _ ?_ (fun hHeld => ?_)
          · exact trivial
          clear hK K
          try simp only [Act.put, List.setIfInBounds_toArray, List.set_cons_zero, List.set_cons_succ]
          (try clear e2 e3 ff)
          have HX2 : Hid _ := Fr3.stA HX1.out
          have ff := HX2.out.fro.fr
          have e2 := HX2.out.fro.cell 2 _ rfl
          have e3 := HX2.out.fro.cell 3 _ rfl
          (try simp only [World.size_alloc] at e2)
          (try simp only [World.size_alloc] at e3)
          (try simp only [World.size_alloc] at ff)
          refine wpAnyH_ready (rs := [5]) (by kernel_rfl) (by simp) ?_
          refine AllReadyH.cons (o := { dst := _, op := _, type := _, pos := _, after := _, guard := _ }) rfl (fun K hK => ?_) AllReadyH.nil
          go_simp
          refine hK.out _ _ ?_ (fun hHeld => ?_)
          · exact trivial
          clear hK K
          try simp only [Act.put, List.setIfInBounds_toArray, List.set_cons_zero, List.set_cons_succ]
          (try clear e2 e3 ff)
          have HX3 : Hid _ := Fr3.mkB HSN.out HX2.out
          have ff := HX3.out.fro.fr
          have e2 := HX3.out.fro.cell 2 _ rfl
          have e3 := HX3.out.fro.cell 3 _ rfl
          (try simp only [World.size_alloc] at e2)
          (try simp only [World.size_alloc] at e3)
          (try simp only [World.size_alloc] at ff)
          refine wpAnyH_take (i := 9) (oi := { dst := _, op := _, type := _, pos := _, after := _, guard := _ }) (v := ?_) rfl (by kernel_rfl) (by kernel_rfl) (by kernel_rfl) (fun _ _ _ h => h) (Or.inl ⟨by rfl, ?_⟩) (by assumption) ?_
          rotate_left
          · intro W hSw
            (try dsimp only at hSw)
            go_simp
            (try with_reducible rfl)
          try simp only [Act.put, List.setIfInBounds_toArray, List.set_cons_zero, List.set_cons_succ]
          refine wpAnyH_take (i := 10) (oi := { dst := _, op := _, type := _, pos := _, after := _, guard := _ }) (v := ?_) rfl (by kernel_rfl) (by kernel_rfl) (by kernel_rfl) (fun _ _ _ h => h) (Or.inl ⟨by rfl, ?_⟩) (by assumption) ?_
          rotate_left
          · intro W hSw
            (try dsimp only at hSw)
            go_simp
            (try with_reducible rfl)
          try simp only [Act.put, List.setIfInBounds_toArray, List.set_cons_zero, List.set_cons_succ]
          refine wpAnyH_ready (rs := [11]) (by kernel_rfl) (by simp) ?_
          refine AllReadyH.cons (o := { dst := _, op := _, type := _, pos := _, after := _, guard := _ }) rfl (fun K hK => ?_) AllReadyH.nil
          go_simp
          refine hK.out _ _ ?_ (fun hHeld => ?_)
          · exact trivial
          clear hK K
          try simp only [Act.put, List.setIfInBounds_toArray, List.set_cons_zero, List.set_cons_succ]
          (try clear e2 e3 ff)
          have HX4 : Hid _ := Fr3.stB HX3.out
          have ff := HX4.out.fro.fr
          have e2 := HX4.out.fro.cell 2 _ rfl
          have e3 := HX4.out.fro.cell 3 _ rfl
          (try simp only [World.size_alloc] at e2)
          (try simp only [World.size_alloc] at e3)
          (try simp only [World.size_alloc] at ff)
          refine wpAnyH_done (by kernel_rfl) ?_ _
          clear hHeld
          refine NoPanic.normal ?_
          (try clear e2 e3 ff)
          go_wp2_with fail
          go_meet
          have hE := HX4.out
          (try simp only [sz_set] at hE)
          (try simp only [World.size_alloc] at hE)
          exact ⟨_, _, hE.fro, hE.bel⟩
      · go_simp
        refine hK.out _ _ ?_ (fun hHeld => ?_)
        · exact trivial
        clear hK K
        try simp only [Act.put, List.setIfInBounds_toArray, List.set_cons_zero, List.set_cons_succ]
        (try clear e2 e3 ff)
        have HX1 : Hid _ := Fr3.mkB HSN.out HX0.out
        have ff := HX1.out.fro.fr
        have e2 := HX1.out.fro.cell 2 _ rfl
        have e3 := HX1.out.fro.cell 3 _ rfl
        (try simp only [World.size_alloc] at e2)
        (try simp only [World.size_alloc] at e3)
        (try simp only [World.size_alloc] at ff)
        refine wpAnyH_ready (rs := [3]) (by kernel_rfl) (by simp) ?_
        refine AllReadyH.cons (o := { dst := _, op := _, type := _, pos := _, after := _, guard := _ }) rfl (fun K hK => ?_) AllReadyH.nil
        go_simp
        refine hK.out _ _ ?_ (fun hHeld => ?_)
        · exact trivial
        clear hK K
        try simp only [Act.put, List.setIfInBounds_toArray, List.set_cons_zero, List.set_cons_succ]
        (try clear e2 e3 ff)
        have HX2 : Hid _ := Fr3.mkA HSN.out HX1.out
        have ff := HX2.out.fro.fr
        have e2 := HX2.out.fro.cell 2 _ rfl
        have e3 := HX2.out.fro.cell 3 _ rfl
        (try simp only [World.size_alloc] at e2)
        (try simp only [World.size_alloc] at e3)
        (try simp only [World.size_alloc] at ff)
        refine wpAnyH_take (i := 6) (oi := { dst := _, op := _, type := _, pos := _, after := _, guard := _ }) (v := ?_) rfl (by kernel_rfl) (by kernel_rfl) (by kernel_rfl) (fun _ _ _ h => h) (Or.inl ⟨by rfl, ?_⟩) (by assumption) ?_
        rotate_left
        · intro W hSw
          (try dsimp only at hSw)
          go_simp
          (try with_reducible rfl)
        try simp only [Act.put, List.setIfInBounds_toArray, List.set_cons_zero, List.set_cons_succ]
        refine wpAnyH_take (i := 7) (oi := { dst := _, op := _, type := _, pos := _, after := _, guard := _ }) (v := ?_) rfl (by kernel_rfl) (by kernel_rfl) (by kernel_rfl) (fun _ _ _ h => h) (Or.inl ⟨by rfl, ?_⟩) (by assumption) ?_
        rotate_left
        · intro W hSw
          (try dsimp only at hSw)
          go_simp
          (try with_reducible rfl)
        try simp only [Act.put, List.setIfInBounds_toArray, List.set_cons_zero, List.set_cons_succ]
        refine wpAnyH_ready (rs := [8]) (by kernel_rfl) (by simp) ?_
        refine AllReadyH.cons (o := { dst := _, op := _, type := _, pos := _, after := _, guard := _ }) rfl (fun K hK => ?_) AllReadyH.nil
        go_simp
        refine hK.out _ _ ?_ (fun hHeld => ?_)
        · exact trivial
        clear hK K
        try simp only [Act.put, List.setIfInBounds_toArray, List.set_cons_zero, List.set_cons_succ]
        (try clear e2 e3 ff)
        have HX3 : Hid _ := Fr3.stA HX2.out
        have ff := HX3.out.fro.fr
        have e2 := HX3.out.fro.cell 2 _ rfl
        have e3 := HX3.out.fro.cell 3 _ rfl
        (try simp only [World.size_alloc] at e2)
        (try simp only [World.size_alloc] at e3)
        (try simp only [World.size_alloc] at ff)
        refine wpAnyH_take (i := 9) (oi := { dst := _, op := _, type := _, pos := _, after := _, guard := _ }) (v := ?_) rfl (by kernel_rfl) (by kernel_rfl) (by kernel_rfl) (fun _ _ _ h => h) (Or.inl ⟨by rfl, ?_⟩) (by assumption) ?_
        rotate_left
        · intro W hSw
          (try dsimp only at hSw)
          go_simp
          (try with_reducible rfl)
        try simp only [Act.put, List.setIfInBounds_toArray, List.set_cons_zero, List.set_cons_succ]
        refine wpAnyH_take (i := 10) (oi := { dst := _, op := _, type := _, pos := _, after := _, guard := _ }) (v := ?_) rfl (by kernel_rfl) (by kernel_rfl) (by kernel_rfl) (fun _ _ _ h => h) (Or.inl ⟨by rfl, ?_⟩) (by assumption) ?_
        rotate_left
        · intro W hSw
          (try dsimp only at hSw)
          go_simp
          (try with_reducible rfl)
        try simp only [Act.put, List.setIfInBounds_toArray, List.set_cons_zero, List.set_cons_succ]
        refine wpAnyH_ready (rs := [11]) (by kernel_rfl) (by simp) ?_
        refine AllReadyH.cons (o := { dst := _, op := _, type := _, pos := _, after := _, guard := _ }) rfl (fun K hK => ?_) AllReadyH.nil
        go_simp
        refine hK.out _ _ ?_ (fun hHeld => ?_)
        · exact trivial
        clear hK K
        try simp only [Act.put, List.setIfInBounds_toArray, List.set_cons_zero, List.set_cons_succ]
        (try clear e2 e3 ff)
        have HX4 : Hid _ := Fr3.stB HX3.out
        have ff := HX4.out.fro.fr
        have e2 := HX4.out.fro.cell 2 _ rfl
        have e3 := HX4.out.fro.cell 3 _ rfl
        (try simp only [World.size_alloc] at e2)
        (try simp only [World.size_alloc] at e3)
        (try simp only [World.size_alloc] at ff)
        refine wpAnyH_done (by kernel_rfl) ?_ _
        clear hHeld
        refine NoPanic.normal ?_
        (try clear e2 e3 ff)
        go_wp2_with fail
        go_meet
        have hE := HX4.out
        (try simp only [sz_set] at hE)
        (try simp only [World.size_alloc] at hE)
        exact ⟨_, _, hE.fro, hE.bel⟩
    case rest =>
      obtain ⟨sv, bv, hf, hb⟩ := hcut
      obtain ⟨q, hq⟩ : ∃ q : Nat, N.start = (q : Int) := ⟨N.start.toNat, by have := HST.out; simp [Mc.isS] at this; omega⟩
      have hqn : q < N.on.length := by have := HST.out; rw [hq] at this; simp [Mc.isS] at this; exact this
      have hst := hf.mac.st
      rw [hq] at hst
      have HF3 : Hid (FroV W.heap.size wc bf b g gs N L [] [] (fun _ => false) 1 (fun _ => 0) sv bv) := hf
      have HB3 : Hid (Below W.heap.size W wc) := hb
      have HQ : Hid (N.start = (q : Int)) := hq
      clear hf hb hq
      go_wp2_with fail
      refine (enter_any hqn (by simp) wc HF3.out).mono ?_
      rintro e w4 ⟨⟨v4, rfl⟩, hb4, hen⟩
      have hsn0 : Sn N 1 [] (fun _ => 0) := Sn.fresh (fun _ _ => Nat.zero_lt_one)
      have h5 : ∃ S5 sn5 sv5, FroV W.heap.size w4 bf b g gs N L S5 [] (fun _ => false) 1 sn5 sv5 bv ∧ Sn N 1 S5 sn5 ∧ In N 1 sn5 = fun t => L t && decide (t = N.start.toNat) := by
        have e0 : N.start.toNat = q := by rw [HQ.out]; rfl
        rw [e0]
        rcases hen with ⟨h1, h2, sv', h3⟩ | ⟨h1, h3⟩
        · refine ⟨_, _, sv', h3, hsn0.enter hqn h2, ?_⟩
          funext t
          rw [in_enter hqn]
          unfold upd In
          by_cases e : t = q
          · subst e; simp [h1]
          · simp [e]
        · refine ⟨_, _, sv, h3, hsn0, ?_⟩
          funext t
          unfold In
          rcases h1 with h1 | h1
          · by_cases e : t = q
            · subst e; simp [h1]
            · simp [e]
          · cases h1
      obtain ⟨S5, sn5, sv5, h51, h52, h53⟩ := h5
      have HF5 : Hid _ := h51
      have HS5 : Hid _ := h52
      have HI5 : Hid _ := h53
      have HB4 : Hid (Below W.heap.size W w4) := HB3.out.trans hb4
      clear hb4 hen hsn0 h51 h52 h53 hst
      go_wp2_with fail
      refine (spread_any HS.out w4 HF5.out HS5.out).mono ?_
      rintro e w5 ⟨⟨v5, rfl⟩, hb5, S6, m6, sn6, sv6, k1, k2, k3, k4⟩
      have HB5 : Hid (Below W.heap.size W w5) := HB4.out.trans hb5
      have HR : Hid (FSt W.heap.size w5 bf b g gs N L 1 []) := by
        rw [HI5.out] at k3
        exact ⟨S6, [], m6, sn6, sv6, bv, k1, k2, fnt_start HLV.out HST.out k3, k4⟩
      clear hb5 k1 k2 k3 k4
      go_wp2_with fail
      go_ret
      exact ⟨bf, g, gs, L, rfl, HLV.out, HR.out, HB5.out⟩
end Go.Proofs.Ytkjljnneghnpiaa
