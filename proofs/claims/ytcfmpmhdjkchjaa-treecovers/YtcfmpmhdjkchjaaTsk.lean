import Derived.Test.YtcfmpmhdjkchjaaTsh
namespace Go.Proofs.Ytcfmpmhdjkchjaa
open Go.RowKit Go.Maps

set_option maxRecDepth 100000 in
set_option maxHeartbeats 16000000 in
theorem rup_any {B : Nat} {w0 w : World} {t : List Nd} {m : Nat} {x : Int} (hs : t.length * 72 + 4096 ≤ 140737488355328) (h : Md B w0 w t m x) (hp : Pos t x) :
    Calls Try.prog 22 #[.pointer (some ⟨m, 0, none⟩)] w fun e w' => e = .returned (.bool (goes (abv (kns t) x))) ∧ Md B w0 w' t m (gone x (abv (kns t) x)) ∧ w.grownBy w' (some m) := by
  have HMD : Hid (Md B w0 w t m x) := h
  obtain ⟨h1, h2, h3, ad, k, cp, h4, h5⟩ := h
  have HM : Hid (Mf B w0 t ad k cp) := h5
  have HB0 : Hid (Below w0.heap.size w0 w) := h3
  have HX : Hid (w.heap[m]? = some (.cells #[.slice ad k cp, .int .i64 x] 87 (0, 0))) := h4
  have HP : Hid (Pos t x) := hp
  have HS : Hid (t.length * 72 + 4096 ≤ 140737488355328) := hs
  clear h1 h2 h3 h4 h5 hp hs
  go_enter Try.func22, Try.ntmps22
  go_upto_region 1 with fail
  refine wp_region_noPanic ?_
  refine wp_region_held_drew (S := fun W => Below w.heap.size w W) (by kernel_rfl) (Below.drew (Below.refl _ _)) (fun hHeld => ?_)
  obtain ⟨WD, hWD⟩ : ∃ WD, w.drew = WD := ⟨_, rfl⟩
  have HD : Hid (Below w.heap.size w WD) := by rw [← hWD]; exact Below.drew (Below.refl _ _)
  rw [hWD] at hHeld ⊢
  clear hWD
  refine wpAnyH_take (i := 0) (oi := { dst := _, op := _, type := _, pos := _, after := _, guard := _ }) (v := ?_) rfl (by kernel_rfl) (by kernel_rfl) (by kernel_rfl) (fun _ _ _ h => h) (Or.inl ⟨by rfl, ?_⟩) (by assumption) ?_
  rotate_left
  · intro W hSw
    (try dsimp only at hSw)
    go_simp
    (try with_reducible rfl)
  try simp only [Act.put, List.setIfInBounds_toArray, List.set_cons_zero, List.set_cons_succ]
  refine wpAnyH_take (i := 1) (oi := { dst := _, op := _, type := _, pos := _, after := _, guard := _ }) (v := ?_) rfl (by kernel_rfl) (by kernel_rfl) (by kernel_rfl) (fun _ _ _ h => h) (Or.inl ⟨by rfl, ?_⟩) (by assumption) ?_
  rotate_left
  · intro W hSw
    (try dsimp only at hSw)
    go_simp
    (try with_reducible rfl)
  try simp only [Act.put, List.setIfInBounds_toArray, List.set_cons_zero, List.set_cons_succ]
  refine wpAnyH_take (i := 2) (oi := { dst := _, op := _, type := _, pos := _, after := _, guard := _ }) (v := ?_) rfl (by kernel_rfl) (by kernel_rfl) (by kernel_rfl) (fun _ _ _ h => h) (Or.inl ⟨by rfl, ?_⟩) (by assumption) ?_
  rotate_left
  · intro W hSw
    (try dsimp only at hSw)
    go_simp
    (try with_reducible rfl)
  try simp only [Act.put, List.setIfInBounds_toArray, List.set_cons_zero, List.set_cons_succ]
  refine wpAnyH_take (i := 3) (oi := { dst := _, op := _, type := _, pos := _, after := _, guard := _ }) (v := ?_) rfl (by kernel_rfl) (by kernel_rfl) (by kernel_rfl) (fun _ _ _ h => h) (Or.inl ⟨by rfl, ?_⟩) (by assumption) ?_
  rotate_left
  · intro W hSw
    (try dsimp only at hSw)
    have x0 := below_cell hSw (rcell HX.out 0 _ rfl)
    go_simp
    (try with_reducible rfl)
  try simp only [Act.put, List.setIfInBounds_toArray, List.set_cons_zero, List.set_cons_succ]
  refine wpAnyH_take (i := 4) (oi := { dst := _, op := _, type := _, pos := _, after := _, guard := _ }) (v := ?_) rfl (by kernel_rfl) (by kernel_rfl) (by kernel_rfl) (fun _ _ _ h => h) (Or.inl ⟨by rfl, ?_⟩) (by assumption) ?_
  rotate_left
  · intro W hSw
    (try dsimp only at hSw)
    go_simp
    (try with_reducible rfl)
  try simp only [Act.put, List.setIfInBounds_toArray, List.set_cons_zero, List.set_cons_succ]
  refine wpAnyH_take (i := 5) (oi := { dst := _, op := _, type := _, pos := _, after := _, guard := _ }) (v := ?_) rfl (by kernel_rfl) (by kernel_rfl) (by kernel_rfl) (fun _ _ _ h => h) (Or.inl ⟨by rfl, ?_⟩) (by assumption) ?_
  rotate_left
  · intro W hSw
    (try dsimp only at hSw)
    go_simp
    (try with_reducible rfl)
  try simp only [Act.put, List.setIfInBounds_toArray, List.set_cons_zero, List.set_cons_succ]
  refine wpAnyH_take (i := 6) (oi := { dst := _, op := _, type := _, pos := _, after := _, guard := _ }) (v := ?_) rfl (by kernel_rfl) (by kernel_rfl) (by kernel_rfl) (fun _ _ _ h => h) (Or.inl ⟨by rfl, ?_⟩) (by assumption) ?_
  rotate_left
  · intro W hSw
    (try dsimp only at hSw)
    go_simp
    (try with_reducible rfl)
  try simp only [Act.put, List.setIfInBounds_toArray, List.set_cons_zero, List.set_cons_succ]
  refine wpAnyH_take (i := 7) (oi := { dst := _, op := _, type := _, pos := _, after := _, guard := _ }) (v := ?_) rfl (by kernel_rfl) (by kernel_rfl) (by kernel_rfl) (fun _ _ _ h => h) (Or.inl ⟨by rfl, ?_⟩) (by assumption) ?_
  rotate_left
  · intro W hSw
    (try dsimp only at hSw)
    have x1 := below_cell hSw (rcell HX.out 1 _ rfl)
    go_simp
    (try with_reducible rfl)
  try simp only [Act.put, List.setIfInBounds_toArray, List.set_cons_zero, List.set_cons_succ]
  refine wpAnyH_ready (rs := [8, 13]) (by kernel_rfl) (by simp) ?_
  refine AllReadyH.cons (o := { dst := _, op := _, type := _, pos := _, after := _, guard := _ }) rfl (fun K hK => ?_) (AllReadyH.cons (o := { dst := _, op := _, type := _, pos := _, after := _, guard := _ }) rfl (fun K hK => ?_) AllReadyH.nil)
  · go_simp
    refine Calls.mono (rfind_any HS.out HM.out HP.out _ (below_trans HB0.out HD.out)) ?_
    rintro ee W4 ⟨y, ya, yn, yc, c, pp, bb, rfl, hr, hb4⟩
    unfold tA
    have HR : Hid (Rfd B w0 t x y (.slice ya yn yc) c pp bb) := hr
    have HB4 : Hid (Below w.heap.size w W4) := below_trans HD.out hb4
    clear hr hb4
    go_wp2_with fail
    refine hK.out _ _ ?_ (fun hHeld => ?_)
    · exact HB4.out
    clear hK K
    try simp only [Act.put, List.setIfInBounds_toArray, List.set_cons_zero, List.set_cons_succ]
    refine wpAnyH_take (i := 9) (oi := { dst := _, op := _, type := _, pos := _, after := _, guard := _ }) (v := ?_) rfl (by kernel_rfl) (by kernel_rfl) (by kernel_rfl) (fun _ _ _ h => h) (Or.inl ⟨by rfl, ?_⟩) (by assumption) ?_
    rotate_left
    · intro W hSw
      (try dsimp only at hSw)
      go_simp
      (try with_reducible rfl)
    try simp only [Act.put, List.setIfInBounds_toArray, List.set_cons_zero, List.set_cons_succ]
    refine wpAnyH_take (i := 10) (oi := { dst := _, op := _, type := _, pos := _, after := _, guard := _ }) (v := ?_) rfl (by kernel_rfl) (by kernel_rfl) (by kernel_rfl) (fun _ _ _ h => h) (Or.inl ⟨by rfl, ?_⟩) (by assumption) ?_
    rotate_left
    · intro W hSw
      (try dsimp only at hSw)
      go_simp
      (try with_reducible rfl)
    try simp only [Act.put, List.setIfInBounds_toArray, List.set_cons_zero, List.set_cons_succ]
    refine wpAnyH_take (i := 11) (oi := { dst := _, op := _, type := _, pos := _, after := _, guard := _ }) (v := ?_) rfl (by kernel_rfl) (by kernel_rfl) (by kernel_rfl) (fun _ _ _ h => h) (Or.inl ⟨by rfl, ?_⟩) (by assumption) ?_
    rotate_left
    · intro W hSw
      (try dsimp only at hSw)
      go_simp
      (try with_reducible rfl)
    try simp only [Act.put, List.setIfInBounds_toArray, List.set_cons_zero, List.set_cons_succ]
    refine wpAnyH_take (i := 12) (oi := { dst := _, op := _, type := _, pos := _, after := _, guard := _ }) (v := ?_) rfl (by kernel_rfl) (by kernel_rfl) (by kernel_rfl) (fun _ _ _ h => h) (Or.inl ⟨by rfl, ?_⟩) (by assumption) ?_
    rotate_left
    · intro W hSw
      (try dsimp only at hSw)
      go_simp
      (try with_reducible rfl)
    try simp only [Act.put, List.setIfInBounds_toArray, List.set_cons_zero, List.set_cons_succ]
    refine wpAnyH_ready (rs := [13]) (by kernel_rfl) (by simp) ?_
    refine AllReadyH.cons (o := { dst := _, op := _, type := _, pos := _, after := _, guard := _ }) rfl (fun K hK => ?_) AllReadyH.nil
    go_simp
    refine hK.out _ _ ?_ (fun hHeld => ?_)
    · exact below_trans HB4.out (bel_up _ _)
    clear hK K
    try simp only [Act.put, List.setIfInBounds_toArray, List.set_cons_zero, List.set_cons_succ]
    obtain ⟨W5, hW5⟩ : ∃ W5, W5 = (W4).alloc (.cells #[.string ⟨#[]⟩, .bool false, .string ⟨#[]⟩, .int .i64 0, .int .i64 0, .int .i64 0, .int .i64 0, .slice none 0 0, .int .i64 0] 91) := ⟨_, rfl⟩
    have HB5 : Hid (Below w.heap.size w W5) := by rw [hW5]; exact below_trans HB4.out (bel_up _ _)
    have HK5 : Hid (W5.heap[(W4).heap.size]? = some (.cells #[.string ⟨#[]⟩, .bool false, .string ⟨#[]⟩, .int .i64 0, .int .i64 0, .int .i64 0, .int .i64 0, .slice none 0 0, .int .i64 0] 91 (0, 0))) := by rw [hW5]; exact heap_new _ _
    have HKB : Hid (w.heap.size ≤ (W4).heap.size) := (HB4.out).size
    rw [← hW5] at hHeld ⊢
    clear hW5
    obtain ⟨kb, hkb⟩ : ∃ kb, (W4).heap.size = kb := ⟨_, rfl⟩
    rw [hkb] at HK5 HKB ⊢
    clear hkb
    refine wpAnyH_ready (rs := [14]) (by kernel_rfl) (by simp) ?_
    refine AllReadyH.cons (o := { dst := _, op := _, type := _, pos := _, after := _, guard := _ }) rfl (fun K hK => ?_) AllReadyH.nil
    have k0 := rcell HK5.out 0 _ rfl
    have k1 := rcell HK5.out 1 _ rfl
    have k2 := rcell HK5.out 2 _ rfl
    have k3 := rcell HK5.out 3 _ rfl
    have k4 := rcell HK5.out 4 _ rfl
    have k5 := rcell HK5.out 5 _ rfl
    have k6 := rcell HK5.out 6 _ rfl
    have k7 := rcell HK5.out 7 _ rfl
    have k8 := rcell HK5.out 8 _ rfl
    have fk := fun j => Lib.frozen_of_heap HK5.out j
    go_simp
    clear k0 k1 k2 k3 k4 k5 k6 k7 k8
    clear fk
    refine hK.out _ _ ?_ (fun hHeld => ?_)
    · exact (bel_put (bel_put (bel_put (bel_put (bel_put (bel_put (bel_put (bel_put (bel_put HB5.out HKB.out) HKB.out) HKB.out) HKB.out) HKB.out) HKB.out) HKB.out) HKB.out) HKB.out)
    clear hK K
    try simp only [Act.put, List.setIfInBounds_toArray, List.set_cons_zero, List.set_cons_succ]
    obtain ⟨W7, hW7⟩ : ∃ W7, W7 = (((((((((W5.setCell ⟨kb, 0, none⟩ (.string y.nm)).setCell ⟨kb, 1, none⟩ (.bool y.nd)).setCell ⟨kb, 2, none⟩ (.string y.fd)).setCell ⟨kb, 3, none⟩ (.int .i64 y.fr)).setCell ⟨kb, 4, none⟩ (.int .i64 y.tt)).setCell ⟨kb, 5, none⟩ (.int .i64 y.kd)).setCell ⟨kb, 6, none⟩ (.int .i64 y.lf)).setCell ⟨kb, 7, none⟩ (.slice ya yn yc)).setCell ⟨kb, 8, none⟩ (.int .i64 c)) := ⟨_, rfl⟩
    have HB7 : Hid (Below w.heap.size w W7) := by rw [hW7]; exact (bel_put (bel_put (bel_put (bel_put (bel_put (bel_put (bel_put (bel_put (bel_put HB5.out HKB.out) HKB.out) HKB.out) HKB.out) HKB.out) HKB.out) HKB.out) HKB.out) HKB.out)
    have HK7 : Hid (W7.heap[kb]? = some (.cells #[.string y.nm, .bool y.nd, .string y.fd, .int .i64 y.fr, .int .i64 y.tt, .int .i64 y.kd, .int .i64 y.lf, .slice ya yn yc, .int .i64 c] 91 (0, 0))) := by rw [hW7]; exact put9_heap HK5.out
    rw [← hW7] at hHeld ⊢
    clear hW7
    refine wpAnyH_take (i := 15) (oi := { dst := _, op := _, type := _, pos := _, after := _, guard := _ }) (v := ?_) rfl (by kernel_rfl) (by kernel_rfl) (by kernel_rfl) (fun _ _ _ h => h) (Or.inl ⟨by rfl, ?_⟩) (by assumption) ?_
    rotate_left
    · intro W hSw
      (try dsimp only at hSw)
      go_simp
      (try with_reducible rfl)
    try simp only [Act.put, List.setIfInBounds_toArray, List.set_cons_zero, List.set_cons_succ]
    refine wpAnyH_take (i := 16) (oi := { dst := _, op := _, type := _, pos := _, after := _, guard := _ }) (v := ?_) rfl (by kernel_rfl) (by kernel_rfl) (by kernel_rfl) (fun _ _ _ h => h) (Or.inl ⟨by rfl, ?_⟩) (by assumption) ?_
    rotate_left
    · intro W hSw
      (try dsimp only at hSw)
      go_simp
      (try with_reducible rfl)
    try simp only [Act.put, List.setIfInBounds_toArray, List.set_cons_zero, List.set_cons_succ]
    refine wpAnyH_done (by kernel_rfl) ?_ _
    clear hHeld
    refine NoPanic.normal ?_
    have HX7 : Hid (W7.heap[m]? = some (.cells #[.slice ad k cp, .int .i64 x] 87 (0, 0))) := by rw [HB7.out.block m (lt_of_heap HX.out)]; exact HX.out
    have k0 := rcell HK7.out 0 _ rfl
    have k1 := rcell HK7.out 1 _ rfl
    have k2 := rcell HK7.out 2 _ rfl
    have k3 := rcell HK7.out 3 _ rfl
    have k4 := rcell HK7.out 4 _ rfl
    have k5 := rcell HK7.out 5 _ rfl
    have k6 := rcell HK7.out 6 _ rfl
    have k7 := rcell HK7.out 7 _ rfl
    have k8 := rcell HK7.out 8 _ rfl
    have m0 := rcell HX7.out 0 _ rfl
    have m1 := rcell HX7.out 1 _ rfl
    have ff := fun j => Lib.frozen_of_heap HX7.out j
    rcases HR.out with ⟨rfl, hf, c', hl, rfl, rfl, rfl, htr, hpp⟩ | ⟨rfl, hk, rfl⟩
    · have hb := kabv hf c' hl
      rw [← hpp] at hb
      have HE : Hid (abv (kns t) (c' : Int) = pp) := hb
      have hpi := pl_is hf c' (by rw [kds_len]; exact hl)
      rw [← hpp] at hpi
      clear hb hpp
      rcases hpi with ⟨rfl, _⟩ | ⟨q, i, rfl, hq, _⟩
      · clear hf hl htr
        go_wp2_with fail
        go_ret
        exact ⟨by rw [HE.out]; rfl, by rw [HE.out]; exact HMD.out.up HB7.out, (grown_of_below HB7.out).but _⟩
      · have HG : Hid (goes (q : Int) = true) := by show _ = _; unfold goes; rw [bne_iff_ne]; omega
        have e1 : decide ((q : Int) < 0) = false := by rw [decide_eq_false_iff_not]; omega
        clear hf hl htr hq
        go_wp2_with fail
        go_ret
        exact ⟨by rw [HE.out, HG.out]; rfl, by rw [HE.out, gone_yes HG.out]; exact (HMD.out.up HB7.out).set _, ((grown_of_below HB7.out).but _).trans grown_set⟩
    · have HE : Hid (abv (kns t) (-1) = -1) := by rw [hk]; rfl
      clear hk
      go_wp2_with fail
      go_ret
      exact ⟨by rw [HE.out]; rfl, by rw [HE.out]; exact HMD.out.up HB7.out, (grown_of_below HB7.out).but _⟩
  · go_simp
    refine hK.out _ _ ?_ (fun hHeld => ?_)
    · exact below_trans HD.out (bel_up _ _)
    clear hK K
    try simp only [Act.put, List.setIfInBounds_toArray, List.set_cons_zero, List.set_cons_succ]
    obtain ⟨W5, hW5⟩ : ∃ W5, W5 = (WD).alloc (.cells #[.string ⟨#[]⟩, .bool false, .string ⟨#[]⟩, .int .i64 0, .int .i64 0, .int .i64 0, .int .i64 0, .slice none 0 0, .int .i64 0] 91) := ⟨_, rfl⟩
    have HB5 : Hid (Below w.heap.size w W5) := by rw [hW5]; exact below_trans HD.out (bel_up _ _)
    have HK5 : Hid (W5.heap[(WD).heap.size]? = some (.cells #[.string ⟨#[]⟩, .bool false, .string ⟨#[]⟩, .int .i64 0, .int .i64 0, .int .i64 0, .int .i64 0, .slice none 0 0, .int .i64 0] 91 (0, 0))) := by rw [hW5]; exact heap_new _ _
    have HKB : Hid (w.heap.size ≤ (WD).heap.size) := (HD.out).size
    rw [← hW5] at hHeld ⊢
    clear hW5
    obtain ⟨kb, hkb⟩ : ∃ kb, (WD).heap.size = kb := ⟨_, rfl⟩
    rw [hkb] at HK5 HKB ⊢
    clear hkb
    refine wpAnyH_ready (rs := [8]) (by kernel_rfl) (by simp) ?_
    refine AllReadyH.cons (o := { dst := _, op := _, type := _, pos := _, after := _, guard := _ }) rfl (fun K hK => ?_) AllReadyH.nil
    go_simp
    refine Calls.mono (rfind_any HS.out HM.out HP.out _ (below_trans HB0.out HB5.out)) ?_
    rintro ee W4 ⟨y, ya, yn, yc, c, pp, bb, rfl, hr, hb4⟩
    unfold tA
    have HR : Hid (Rfd B w0 t x y (.slice ya yn yc) c pp bb) := hr
    have HB4 : Hid (Below w.heap.size w W4) := below_trans HB5.out hb4
    have HK4 : Hid (W4.heap[kb]? = some (.cells #[.string ⟨#[]⟩, .bool false, .string ⟨#[]⟩, .int .i64 0, .int .i64 0, .int .i64 0, .int .i64 0, .slice none 0 0, .int .i64 0] 91 (0, 0))) := by rw [hb4.block kb (lt_of_heap HK5.out)]; exact HK5.out
    clear hr hb4
    go_wp2_with fail
    refine hK.out _ _ ?_ (fun hHeld => ?_)
    · exact HB4.out
    clear hK K
    try simp only [Act.put, List.setIfInBounds_toArray, List.set_cons_zero, List.set_cons_succ]
    refine wpAnyH_take (i := 9) (oi := { dst := _, op := _, type := _, pos := _, after := _, guard := _ }) (v := ?_) rfl (by kernel_rfl) (by kernel_rfl) (by kernel_rfl) (fun _ _ _ h => h) (Or.inl ⟨by rfl, ?_⟩) (by assumption) ?_
    rotate_left
    · intro W hSw
      (try dsimp only at hSw)
      go_simp
      (try with_reducible rfl)
    try simp only [Act.put, List.setIfInBounds_toArray, List.set_cons_zero, List.set_cons_succ]
    refine wpAnyH_take (i := 10) (oi := { dst := _, op := _, type := _, pos := _, after := _, guard := _ }) (v := ?_) rfl (by kernel_rfl) (by kernel_rfl) (by kernel_rfl) (fun _ _ _ h => h) (Or.inl ⟨by rfl, ?_⟩) (by assumption) ?_
    rotate_left
    · intro W hSw
      (try dsimp only at hSw)
      go_simp
      (try with_reducible rfl)
    try simp only [Act.put, List.setIfInBounds_toArray, List.set_cons_zero, List.set_cons_succ]
    refine wpAnyH_take (i := 11) (oi := { dst := _, op := _, type := _, pos := _, after := _, guard := _ }) (v := ?_) rfl (by kernel_rfl) (by kernel_rfl) (by kernel_rfl) (fun _ _ _ h => h) (Or.inl ⟨by rfl, ?_⟩) (by assumption) ?_
    rotate_left
    · intro W hSw
      (try dsimp only at hSw)
      go_simp
      (try with_reducible rfl)
    try simp only [Act.put, List.setIfInBounds_toArray, List.set_cons_zero, List.set_cons_succ]
    refine wpAnyH_take (i := 12) (oi := { dst := _, op := _, type := _, pos := _, after := _, guard := _ }) (v := ?_) rfl (by kernel_rfl) (by kernel_rfl) (by kernel_rfl) (fun _ _ _ h => h) (Or.inl ⟨by rfl, ?_⟩) (by assumption) ?_
    rotate_left
    · intro W hSw
      (try dsimp only at hSw)
      go_simp
      (try with_reducible rfl)
    try simp only [Act.put, List.setIfInBounds_toArray, List.set_cons_zero, List.set_cons_succ]
    refine wpAnyH_ready (rs := [14]) (by kernel_rfl) (by simp) ?_
    refine AllReadyH.cons (o := { dst := _, op := _, type := _, pos := _, after := _, guard := _ }) rfl (fun K hK => ?_) AllReadyH.nil
    have k0 := rcell HK4.out 0 _ rfl
    have k1 := rcell HK4.out 1 _ rfl
    have k2 := rcell HK4.out 2 _ rfl
    have k3 := rcell HK4.out 3 _ rfl
    have k4 := rcell HK4.out 4 _ rfl
    have k5 := rcell HK4.out 5 _ rfl
    have k6 := rcell HK4.out 6 _ rfl
    have k7 := rcell HK4.out 7 _ rfl
    have k8 := rcell HK4.out 8 _ rfl
    have fk := fun j => Lib.frozen_of_heap HK4.out j
    go_simp
    clear k0 k1 k2 k3 k4 k5 k6 k7 k8
    clear fk
    refine hK.out _ _ ?_ (fun hHeld => ?_)
    · exact (bel_put (bel_put (bel_put (bel_put (bel_put (bel_put (bel_put (bel_put (bel_put HB4.out HKB.out) HKB.out) HKB.out) HKB.out) HKB.out) HKB.out) HKB.out) HKB.out) HKB.out)
    clear hK K
    try simp only [Act.put, List.setIfInBounds_toArray, List.set_cons_zero, List.set_cons_succ]
    obtain ⟨W7, hW7⟩ : ∃ W7, W7 = (((((((((W4.setCell ⟨kb, 0, none⟩ (.string y.nm)).setCell ⟨kb, 1, none⟩ (.bool y.nd)).setCell ⟨kb, 2, none⟩ (.string y.fd)).setCell ⟨kb, 3, none⟩ (.int .i64 y.fr)).setCell ⟨kb, 4, none⟩ (.int .i64 y.tt)).setCell ⟨kb, 5, none⟩ (.int .i64 y.kd)).setCell ⟨kb, 6, none⟩ (.int .i64 y.lf)).setCell ⟨kb, 7, none⟩ (.slice ya yn yc)).setCell ⟨kb, 8, none⟩ (.int .i64 c)) := ⟨_, rfl⟩
    have HB7 : Hid (Below w.heap.size w W7) := by rw [hW7]; exact (bel_put (bel_put (bel_put (bel_put (bel_put (bel_put (bel_put (bel_put (bel_put HB4.out HKB.out) HKB.out) HKB.out) HKB.out) HKB.out) HKB.out) HKB.out) HKB.out) HKB.out)
    have HK7 : Hid (W7.heap[kb]? = some (.cells #[.string y.nm, .bool y.nd, .string y.fd, .int .i64 y.fr, .int .i64 y.tt, .int .i64 y.kd, .int .i64 y.lf, .slice ya yn yc, .int .i64 c] 91 (0, 0))) := by rw [hW7]; exact put9_heap HK4.out
    rw [← hW7] at hHeld ⊢
    clear hW7
    refine wpAnyH_take (i := 15) (oi := { dst := _, op := _, type := _, pos := _, after := _, guard := _ }) (v := ?_) rfl (by kernel_rfl) (by kernel_rfl) (by kernel_rfl) (fun _ _ _ h => h) (Or.inl ⟨by rfl, ?_⟩) (by assumption) ?_
    rotate_left
    · intro W hSw
      (try dsimp only at hSw)
      go_simp
      (try with_reducible rfl)
    try simp only [Act.put, List.setIfInBounds_toArray, List.set_cons_zero, List.set_cons_succ]
    refine wpAnyH_take (i := 16) (oi := { dst := _, op := _, type := _, pos := _, after := _, guard := _ }) (v := ?_) rfl (by kernel_rfl) (by kernel_rfl) (by kernel_rfl) (fun _ _ _ h => h) (Or.inl ⟨by rfl, ?_⟩) (by assumption) ?_
    rotate_left
    · intro W hSw
      (try dsimp only at hSw)
      go_simp
      (try with_reducible rfl)
    try simp only [Act.put, List.setIfInBounds_toArray, List.set_cons_zero, List.set_cons_succ]
    refine wpAnyH_done (by kernel_rfl) ?_ _
    clear hHeld
    refine NoPanic.normal ?_
    have HX7 : Hid (W7.heap[m]? = some (.cells #[.slice ad k cp, .int .i64 x] 87 (0, 0))) := by rw [HB7.out.block m (lt_of_heap HX.out)]; exact HX.out
    have k0 := rcell HK7.out 0 _ rfl
    have k1 := rcell HK7.out 1 _ rfl
    have k2 := rcell HK7.out 2 _ rfl
    have k3 := rcell HK7.out 3 _ rfl
    have k4 := rcell HK7.out 4 _ rfl
    have k5 := rcell HK7.out 5 _ rfl
    have k6 := rcell HK7.out 6 _ rfl
    have k7 := rcell HK7.out 7 _ rfl
    have k8 := rcell HK7.out 8 _ rfl
    have m0 := rcell HX7.out 0 _ rfl
    have m1 := rcell HX7.out 1 _ rfl
    have ff := fun j => Lib.frozen_of_heap HX7.out j
    rcases HR.out with ⟨rfl, hf, c', hl, rfl, rfl, rfl, htr, hpp⟩ | ⟨rfl, hk, rfl⟩
    · have hb := kabv hf c' hl
      rw [← hpp] at hb
      have HE : Hid (abv (kns t) (c' : Int) = pp) := hb
      have hpi := pl_is hf c' (by rw [kds_len]; exact hl)
      rw [← hpp] at hpi
      clear hb hpp
      rcases hpi with ⟨rfl, _⟩ | ⟨q, i, rfl, hq, _⟩
      · clear hf hl htr
        go_wp2_with fail
        go_ret
        exact ⟨by rw [HE.out]; rfl, by rw [HE.out]; exact HMD.out.up HB7.out, (grown_of_below HB7.out).but _⟩
      · have HG : Hid (goes (q : Int) = true) := by show _ = _; unfold goes; rw [bne_iff_ne]; omega
        have e1 : decide ((q : Int) < 0) = false := by rw [decide_eq_false_iff_not]; omega
        clear hf hl htr hq
        go_wp2_with fail
        go_ret
        exact ⟨by rw [HE.out, HG.out]; rfl, by rw [HE.out, gone_yes HG.out]; exact (HMD.out.up HB7.out).set _, ((grown_of_below HB7.out).but _).trans grown_set⟩
    · have HE : Hid (abv (kns t) (-1) = -1) := by rw [hk]; rfl
      clear hk
      go_wp2_with fail
      go_ret
      exact ⟨by rw [HE.out]; rfl, by rw [HE.out]; exact HMD.out.up HB7.out, (grown_of_below HB7.out).but _⟩
end Go.Proofs.Ytcfmpmhdjkchjaa
