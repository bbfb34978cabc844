import Derived.Test.YtcfmpmhdjkchjaaTsh
namespace Go.Proofs.Ytcfmpmhdjkchjaa
open Go.RowKit Go.Maps

theorem below_drewN {B : Nat} {a w : World} (h : Below B a w) (n : Nat) : Below B a (w.drewN n) := ⟨h.os, h.tape, h.output, h.size, h.block⟩
set_option maxRecDepth 100000 in
set_option maxHeartbeats 16000000 in
theorem rnext_any {B : Nat} {w0 w : World} {t : List Nd} {m : Nat} {x : Int} (hs : t.length * 72 + 4096 ≤ 140737488355328) (h : Md B w0 w t m x) (hp : Pos t x) :
    Calls Try.prog 20 #[.pointer (some ⟨m, 0, none⟩)] w fun e w' => e = .returned (.bool (goes (bsd (kns t) x))) ∧ Md B w0 w' t m (gone x (bsd (kns t) x)) ∧ w.grownBy w' (some m) := by
  have HMD : Hid (Md B w0 w t m x) := h
  obtain ⟨h1, h2, h3, ad, k, cp, h4, h5⟩ := h
  have HM : Hid (Mf B w0 t ad k cp) := h5
  have HB0 : Hid (Below w0.heap.size w0 w) := h3
  have HX : Hid (w.heap[m]? = some (.cells #[.slice ad k cp, .int .i64 x] 87 (0, 0))) := h4
  have HP : Hid (Pos t x) := hp
  have HS : Hid (t.length * 72 + 4096 ≤ 140737488355328) := hs
  clear h1 h2 h3 h4 h5 hp hs
  go_enter Try.func20, Try.ntmps20
  go_upto_region 1 with fail
  refine wp_region_noPanic ?_
  refine wp_region_held_drew (S := fun W => Below w.heap.size w W) (by kernel_rfl) (Below.drew (Below.refl _ _)) (fun hHeld => ?_)
  obtain ⟨WD, hWD⟩ : ∃ WD, w.drew = WD := ⟨_, rfl⟩
  have HD : Hid (Below w.heap.size w WD) := by rw [← hWD]; exact Below.drew (Below.refl _ _)
  rw [hWD] at hHeld ⊢
  clear hWD
  refine wpAnyH_take (i := 0) (oi := { dst := _, op := _, type := _, pos := _, after := _, guard := _ }) (v := ?_) rfl (by kernel_rfl) (by kernel_rfl) (by kernel_rfl) (fun _ _ _ h => h) (Or.inl ⟨by rfl, ?_⟩) (by assumption) ?_
  rotate_left
  · intro W hSw
    (try dsimp only at hSw)
    go_simp
    (try with_reducible rfl)
  try simp only [Act.put, List.setIfInBounds_toArray, List.set_cons_zero, List.set_cons_succ]
  refine wpAnyH_take (i := 1) (oi := { dst := _, op := _, type := _, pos := _, after := _, guard := _ }) (v := ?_) rfl (by kernel_rfl) (by kernel_rfl) (by kernel_rfl) (fun _ _ _ h => h) (Or.inl ⟨by rfl, ?_⟩) (by assumption) ?_
  rotate_left
  · intro W hSw
    (try dsimp only at hSw)
    go_simp
    (try with_reducible rfl)
  try simp only [Act.put, List.setIfInBounds_toArray, List.set_cons_zero, List.set_cons_succ]
  refine wpAnyH_take (i := 2) (oi := { dst := _, op := _, type := _, pos := _, after := _, guard := _ }) (v := ?_) rfl (by kernel_rfl) (by kernel_rfl) (by kernel_rfl) (fun _ _ _ h => h) (Or.inl ⟨by rfl, ?_⟩) (by assumption) ?_
  rotate_left
  · intro W hSw
    (try dsimp only at hSw)
    go_simp
    (try with_reducible rfl)
  try simp only [Act.put, List.setIfInBounds_toArray, List.set_cons_zero, List.set_cons_succ]
  refine wpAnyH_take (i := 3) (oi := { dst := _, op := _, type := _, pos := _, after := _, guard := _ }) (v := ?_) rfl (by kernel_rfl) (by kernel_rfl) (by kernel_rfl) (fun _ _ _ h => h) (Or.inl ⟨by rfl, ?_⟩) (by assumption) ?_
  rotate_left
  · intro W hSw
    (try dsimp only at hSw)
    have x0 := below_cell hSw (rcell HX.out 0 _ rfl)
    go_simp
    (try with_reducible rfl)
  try simp only [Act.put, List.setIfInBounds_toArray, List.set_cons_zero, List.set_cons_succ]
  refine wpAnyH_take (i := 4) (oi := { dst := _, op := _, type := _, pos := _, after := _, guard := _ }) (v := ?_) rfl (by kernel_rfl) (by kernel_rfl) (by kernel_rfl) (fun _ _ _ h => h) (Or.inl ⟨by rfl, ?_⟩) (by assumption) ?_
  rotate_left
  · intro W hSw
    (try dsimp only at hSw)
    go_simp
    (try with_reducible rfl)
  try simp only [Act.put, List.setIfInBounds_toArray, List.set_cons_zero, List.set_cons_succ]
  refine wpAnyH_take (i := 5) (oi := { dst := _, op := _, type := _, pos := _, after := _, guard := _ }) (v := ?_) rfl (by kernel_rfl) (by kernel_rfl) (by kernel_rfl) (fun _ _ _ h => h) (Or.inl ⟨by rfl, ?_⟩) (by assumption) ?_
  rotate_left
  · intro W hSw
    (try dsimp only at hSw)
    go_simp
    (try with_reducible rfl)
  try simp only [Act.put, List.setIfInBounds_toArray, List.set_cons_zero, List.set_cons_succ]
  refine wpAnyH_take (i := 6) (oi := { dst := _, op := _, type := _, pos := _, after := _, guard := _ }) (v := ?_) rfl (by kernel_rfl) (by kernel_rfl) (by kernel_rfl) (fun _ _ _ h => h) (Or.inl ⟨by rfl, ?_⟩) (by assumption) ?_
  rotate_left
  · intro W hSw
    (try dsimp only at hSw)
    go_simp
    (try with_reducible rfl)
  try simp only [Act.put, List.setIfInBounds_toArray, List.set_cons_zero, List.set_cons_succ]
  refine wpAnyH_take (i := 7) (oi := { dst := _, op := _, type := _, pos := _, after := _, guard := _ }) (v := ?_) rfl (by kernel_rfl) (by kernel_rfl) (by kernel_rfl) (fun _ _ _ h => h) (Or.inl ⟨by rfl, ?_⟩) (by assumption) ?_
  rotate_left
  · intro W hSw
    (try dsimp only at hSw)
    have x1 := below_cell hSw (rcell HX.out 1 _ rfl)
    go_simp
    (try with_reducible rfl)
  try simp only [Act.put, List.setIfInBounds_toArray, List.set_cons_zero, List.set_cons_succ]
  refine wpAnyH_ready (rs := [8, 13]) (by kernel_rfl) (by simp) ?_
  refine AllReadyH.cons (o := { dst := _, op := _, type := _, pos := _, after := _, guard := _ }) rfl (fun K hK => ?_) (AllReadyH.cons (o := { dst := _, op := _, type := _, pos := _, after := _, guard := _ }) rfl (fun K hK => ?_) AllReadyH.nil)
  · go_simp
    refine Calls.mono (rfind_any HS.out HM.out HP.out _ (below_trans HB0.out HD.out)) ?_
    rintro ee W4 ⟨y, ya, yn, yc, c, pp, bb, rfl, hr, hb4⟩
    unfold tA
    have HR : Hid (Rfd B w0 t x y (.slice ya yn yc) c pp bb) := hr
    have HB4 : Hid (Below w.heap.size w W4) := below_trans HD.out hb4
    clear hr hb4
    go_wp2_with fail
    refine hK.out _ _ ?_ (fun hHeld => ?_)
    · exact HB4.out
    clear hK K
    try simp only [Act.put, List.setIfInBounds_toArray, List.set_cons_zero, List.set_cons_succ]
    refine wpAnyH_take (i := 9) (oi := { dst := _, op := _, type := _, pos := _, after := _, guard := _ }) (v := ?_) rfl (by kernel_rfl) (by kernel_rfl) (by kernel_rfl) (fun _ _ _ h => h) (Or.inl ⟨by rfl, ?_⟩) (by assumption) ?_
    rotate_left
    · intro W hSw
      (try dsimp only at hSw)
      go_simp
      (try with_reducible rfl)
    try simp only [Act.put, List.setIfInBounds_toArray, List.set_cons_zero, List.set_cons_succ]
    refine wpAnyH_take (i := 10) (oi := { dst := _, op := _, type := _, pos := _, after := _, guard := _ }) (v := ?_) rfl (by kernel_rfl) (by kernel_rfl) (by kernel_rfl) (fun _ _ _ h => h) (Or.inl ⟨by rfl, ?_⟩) (by assumption) ?_
    rotate_left
    · intro W hSw
      (try dsimp only at hSw)
      go_simp
      (try with_reducible rfl)
    try simp only [Act.put, List.setIfInBounds_toArray, List.set_cons_zero, List.set_cons_succ]
    refine wpAnyH_take (i := 11) (oi := { dst := _, op := _, type := _, pos := _, after := _, guard := _ }) (v := ?_) rfl (by kernel_rfl) (by kernel_rfl) (by kernel_rfl) (fun _ _ _ h => h) (Or.inl ⟨by rfl, ?_⟩) (by assumption) ?_
    rotate_left
    · intro W hSw
      (try dsimp only at hSw)
      go_simp
      (try with_reducible rfl)
    try simp only [Act.put, List.setIfInBounds_toArray, List.set_cons_zero, List.set_cons_succ]
    refine wpAnyH_take (i := 12) (oi := { dst := _, op := _, type := _, pos := _, after := _, guard := _ }) (v := ?_) rfl (by kernel_rfl) (by kernel_rfl) (by kernel_rfl) (fun _ _ _ h => h) (Or.inl ⟨by rfl, ?_⟩) (by assumption) ?_
    rotate_left
    · intro W hSw
      (try dsimp only at hSw)
      go_simp
      (try with_reducible rfl)
    try simp only [Act.put, List.setIfInBounds_toArray, List.set_cons_zero, List.set_cons_succ]
    refine wpAnyH_ready (rs := [13]) (by kernel_rfl) (by simp) ?_
    refine AllReadyH.cons (o := { dst := _, op := _, type := _, pos := _, after := _, guard := _ }) rfl (fun K hK => ?_) AllReadyH.nil
    go_simp
    refine hK.out _ _ ?_ (fun hHeld => ?_)
    · exact below_trans HB4.out (bel_up _ _)
    clear hK K
    try simp only [Act.put, List.setIfInBounds_toArray, List.set_cons_zero, List.set_cons_succ]
    obtain ⟨W5, hW5⟩ : ∃ W5, W5 = (W4).alloc (.cells #[.string ⟨#[]⟩, .bool false, .string ⟨#[]⟩, .int .i64 0, .int .i64 0, .int .i64 0, .int .i64 0, .slice none 0 0, .int .i64 0] 91) := ⟨_, rfl⟩
    have HB5 : Hid (Below w.heap.size w W5) := by rw [hW5]; exact below_trans HB4.out (bel_up _ _)
    have HK5 : Hid (W5.heap[(W4).heap.size]? = some (.cells #[.string ⟨#[]⟩, .bool false, .string ⟨#[]⟩, .int .i64 0, .int .i64 0, .int .i64 0, .int .i64 0, .slice none 0 0, .int .i64 0] 91 (0, 0))) := by rw [hW5]; exact heap_new _ _
    have HKB : Hid (w.heap.size ≤ (W4).heap.size) := (HB4.out).size
    rw [← hW5] at hHeld ⊢
    clear hW5
    obtain ⟨kb, hkb⟩ : ∃ kb, (W4).heap.size = kb := ⟨_, rfl⟩
    rw [hkb] at HK5 HKB ⊢
    clear hkb
    refine wpAnyH_ready (rs := [14]) (by kernel_rfl) (by simp) ?_
    refine AllReadyH.cons (o := { dst := _, op := _, type := _, pos := _, after := _, guard := _ }) rfl (fun K hK => ?_) AllReadyH.nil
    have k0 := rcell HK5.out 0 _ rfl
    have k1 := rcell HK5.out 1 _ rfl
    have k2 := rcell HK5.out 2 _ rfl
    have k3 := rcell HK5.out 3 _ rfl
    have k4 := rcell HK5.out 4 _ rfl
    have k5 := rcell HK5.out 5 _ rfl
    have k6 := rcell HK5.out 6 _ rfl
    have k7 := rcell HK5.out 7 _ rfl
    have k8 := rcell HK5.out 8 _ rfl
    have fk := fun j => Lib.frozen_of_heap HK5.out j
    go_simp
    clear k0 k1 k2 k3 k4 k5 k6 k7 k8
    clear fk
    refine hK.out _ _ ?_ (fun hHeld => ?_)
    · exact (bel_put (bel_put (bel_put (bel_put (bel_put (bel_put (bel_put (bel_put (bel_put HB5.out HKB.out) HKB.out) HKB.out) HKB.out) HKB.out) HKB.out) HKB.out) HKB.out) HKB.out)
    clear hK K
    try simp only [Act.put, List.setIfInBounds_toArray, List.set_cons_zero, List.set_cons_succ]
    obtain ⟨W7, hW7⟩ : ∃ W7, W7 = (((((((((W5.setCell ⟨kb, 0, none⟩ (.string y.nm)).setCell ⟨kb, 1, none⟩ (.bool y.nd)).setCell ⟨kb, 2, none⟩ (.string y.fd)).setCell ⟨kb, 3, none⟩ (.int .i64 y.fr)).setCell ⟨kb, 4, none⟩ (.int .i64 y.tt)).setCell ⟨kb, 5, none⟩ (.int .i64 y.kd)).setCell ⟨kb, 6, none⟩ (.int .i64 y.lf)).setCell ⟨kb, 7, none⟩ (.slice ya yn yc)).setCell ⟨kb, 8, none⟩ (.int .i64 c)) := ⟨_, rfl⟩
    have HB7 : Hid (Below w.heap.size w W7) := by rw [hW7]; exact (bel_put (bel_put (bel_put (bel_put (bel_put (bel_put (bel_put (bel_put (bel_put HB5.out HKB.out) HKB.out) HKB.out) HKB.out) HKB.out) HKB.out) HKB.out) HKB.out) HKB.out)
    have HK7 : Hid (W7.heap[kb]? = some (.cells #[.string y.nm, .bool y.nd, .string y.fd, .int .i64 y.fr, .int .i64 y.tt, .int .i64 y.kd, .int .i64 y.lf, .slice ya yn yc, .int .i64 c] 91 (0, 0))) := by rw [hW7]; exact put9_heap HK5.out
    rw [← hW7] at hHeld ⊢
    clear hW7
    refine wpAnyH_take (i := 15) (oi := { dst := _, op := _, type := _, pos := _, after := _, guard := _ }) (v := ?_) rfl (by kernel_rfl) (by kernel_rfl) (by kernel_rfl) (fun _ _ _ h => h) (Or.inl ⟨by rfl, ?_⟩) (by assumption) ?_
    rotate_left
    · intro W hSw
      (try dsimp only at hSw)
      go_simp
      (try with_reducible rfl)
    try simp only [Act.put, List.setIfInBounds_toArray, List.set_cons_zero, List.set_cons_succ]
    refine wpAnyH_take (i := 16) (oi := { dst := _, op := _, type := _, pos := _, after := _, guard := _ }) (v := ?_) rfl (by kernel_rfl) (by kernel_rfl) (by kernel_rfl) (fun _ _ _ h => h) (Or.inl ⟨by rfl, ?_⟩) (by assumption) ?_
    rotate_left
    · intro W hSw
      (try dsimp only at hSw)
      go_simp
      (try with_reducible rfl)
    try simp only [Act.put, List.setIfInBounds_toArray, List.set_cons_zero, List.set_cons_succ]
    refine wpAnyH_done (by kernel_rfl) ?_ _
    clear hHeld
    refine NoPanic.normal ?_
    have HX7 : Hid (W7.heap[m]? = some (.cells #[.slice ad k cp, .int .i64 x] 87 (0, 0))) := by rw [HB7.out.block m (lt_of_heap HX.out)]; exact HX.out
    have k0 := rcell HK7.out 0 _ rfl
    have k1 := rcell HK7.out 1 _ rfl
    have k2 := rcell HK7.out 2 _ rfl
    have k3 := rcell HK7.out 3 _ rfl
    have k4 := rcell HK7.out 4 _ rfl
    have k5 := rcell HK7.out 5 _ rfl
    have k6 := rcell HK7.out 6 _ rfl
    have k7 := rcell HK7.out 7 _ rfl
    have k8 := rcell HK7.out 8 _ rfl
    have m0 := rcell HX7.out 0 _ rfl
    have m1 := rcell HX7.out 1 _ rfl
    have ff := fun j => Lib.frozen_of_heap HX7.out j
    rcases HR.out with ⟨rfl, hf, c', hl, rfl, rfl, rfl, htr, hpp⟩ | ⟨rfl, hk, rfl⟩
    · have hb := kbsd hf c' hl
      rw [← hpp] at hb
      have HBS : Hid (bsd (kns t) (c' : Int) = if eA (kds t) c' < t.length ∧ pl (kds t) (eA (kds t) c') = pp then ((eA (kds t) c' : Nat) : Int) else -1) := hb
      have HF : Hid (Fo (kds t)) := hf
      have HL : Hid (c' < t.length) := hl
      have HPP : Hid (pp = pl (kds t) c') := hpp
      have hpi := pl_is hf c' (by rw [kds_len]; exact hl)
      rw [← hpp] at hpi
      clear hb hpp htr hf hl
      rcases hpi with ⟨hp1, _⟩ | ⟨q, i, hp1, hq, hch⟩
      · have HSB : Hid (Sib (kds t) 0 k pp ∧ FrM (fun g => B ≤ g) w0 t (.slice ad k cp) 0 k) := by
          rcases HM.out with ⟨h1, h2⟩ | ⟨h1, _⟩
          · exact ⟨Or.inl ⟨rfl, (Fo.top h1).symm, hp1⟩, h2⟩
          · obtain ⟨r, h3⟩ := HF.out
            rw [h1] at h3; cases h3
        have HFR : Hid (FrM (fun g => B ≤ g) w0 t (.slice ad k cp) 0 k) := HSB.out.2
        replace HSB : Hid (Sib (kds t) 0 k pp) := HSB.out.1
        obtain ⟨j0, hj0⟩ := (HSB.out.is HF.out).2.2.2 c' (by rw [kds_len]; exact HL.out) HPP.out.symm
        have HJ : Hid (j0 < k ∧ wA (kds t) 0 j0 = c') := hj0
        have HKS : Hid (k < 9223372036854775000) := by have h7 := (HSB.out.is HF.out).2.1; have h8 := HF.out.le 0; rw [kds_len] at h8; have := HS.out; show _ < _; omega
        clear hj0
        have HBW0 : Hid (Below w.heap.size w W7) := HB7.out
        obtain ⟨a, ha⟩ : ∃ a : Nat, a = 0 := ⟨_, rfl⟩
        rw [← ha] at HSB HFR HJ
        clear ha
        subst hp1
        go_upto_region 9 with fail
        obtain ⟨MV, hMV⟩ : ∃ MV : Value, MV = .slice ad k cp := ⟨_, rfl⟩
        have HXW0 : Hid (W7.heap[m]? = some (.cells #[MV, .int .i64 (c' : Int)] 87 (0, 0))) := by rw [hMV]; exact HX7.out
        clear hMV m1
        obtain ⟨sk, hsk⟩ : ∃ sk, k = sk := ⟨_, rfl⟩
        rw [hsk] at HSB HFR HJ HKS ⊢
        clear hsk
        clear k0 k1 k2 k3 k4 k5 k6 k7 k8 m0
        go_loopg [10] sk (fun gm v10 wr => ∃ i : Nat, v10 = .int .i64 (i : Int) ∧ Hid (gm = sk - i ∧ i ≤ j0) ∧ Hid (Below w.heap.size w wr) ∧ Hid (wr.heap[m]? = some (.cells #[MV, .int .i64 (c' : Int)] 87 (0, 0))))
        case atStart => exact ⟨0, rfl, ⟨rfl, Nat.zero_le _⟩, HBW0, HXW0⟩
        case round =>
          obtain ⟨i, rfl, HI, HBW, HXW⟩ := hrel
          have hwi := w64n i (by have := HI.out; have := HJ.out; have := HKS.out; omega)
          by_cases hi : i + 1 < sk
          · have e1 : decide (((i + 1 : Nat) : Int) < (sk : Int)) = true := by rw [decide_eq_true_eq]; omega
            have e2 : decide ((i : Int) + 1 < (sk : Int)) = true := by rw [decide_eq_true_eq]; omega
            have e3 : decide (i + 1 < sk) = true := by rw [decide_eq_true_eq]; omega
            have b1 : (i : Int) < (sk : Int) := by omega
            have b2 : i < sk := by omega
            have b3 : (i : Int) + 1 < (sk : Int) := by omega
            have b4 : ((i + 1 : Nat) : Int) < (sk : Int) := by omega
            have b5 : i + 1 < sk := hi
            obtain ⟨g, o, aa, nn, cc, rfl, _, h9⟩ := HFR.out.nine i (by omega)
            obtain ⟨-, -, -, -, -, -, -, -, q8⟩ := h9 _ (below_trans HB0.out HBW.out)
            obtain ⟨g', o', aa', nn', cc', e9, _, h9'⟩ := HFR.out.nine (i + 1) hi
            obtain ⟨rfl, rfl⟩ : g = g' ∧ o = o' := by cases e9; exact ⟨rfl, rfl⟩
            have HR8 : Hid (∀ W', Below w0.heap.size w0 W' → W'.cell? ⟨g, o + (i + 1) * 9 + 8, none⟩ = some (.int .i64 (wA (kds t) a (i + 1) : Nat))) := fun W' hW => (h9' W' hW).2.2.2.2.2.2.2.2
            clear h9 h9' e9
            have HNX : Hid (i = j0 → bsd (kns t) (c' : Int) = ((wA (kds t) a (i + 1) : Nat) : Int)) := fun e => by
              subst e
              have h7 := HSB.out.next HF.out HJ.out.1
              rw [if_pos hi, HJ.out.2] at h7
              rw [kds_len] at h7
              rw [HBS.out, h7.1, if_pos ⟨h7.2.1, h7.2.2⟩]
            have HNE : Hid (i ≠ j0 → ¬((wA (kds t) a i : Int) = (c' : Int))) := fun h e => by
              obtain ⟨s1, s2, _, _⟩ := HSB.out.is HF.out
              have := HF.out.mono a i j0 s1 HI.out.2 (by have := HJ.out; omega)
              have := HJ.out
              have := HI.out
              omega
            have m1 := rcell HXW.out 1 _ rfl
            by_cases hj : i = j0
            · have hw : wA (kds t) a i = c' := by rw [hj]; exact HJ.out.2
              rw [hw] at q8
              have hnx := HNX.out hj
              obtain ⟨z, hz⟩ : ∃ z, wA (kds t) a (i + 1) = z := ⟨_, rfl⟩
              rw [hz] at HR8 hnx
              have HE : Hid (bsd (kns t) (c' : Int) = (z : Int)) := hnx
              have HG : Hid (goes (z : Int) = true) := by show _ = _; unfold goes; rw [bne_iff_ne]; omega
              have f1 : ((c' : Int) == (c' : Int)) = true := by simp
              clear hi hj hw hnx hz HNX HNE
              go_upto_region 11 with fail
              go_quiet (fail)
              have HB9 : Hid (Below w.heap.size w (wr.drewN nq)) := below_drewN HBW.out _
              have HX9 : Hid ((wr.drewN nq).heap[m]? = some (.cells #[MV, .int .i64 (c' : Int)] 87 (0, 0))) := HXW.out
              generalize wr.drewN nq = W9 at HB9 HX9 ⊢
              clear q8 m1
              have r8 := HR8.out W9 (below_trans HB0.out HB9.out)
              have m1 := rcell HX9.out 1 _ rfl
              have ff := fun j => Lib.frozen_of_heap HX9.out j
              go_wp2_with fail
              go_ret
              exact ⟨by rw [HE.out, HG.out]; rfl, by rw [HE.out, gone_yes HG.out]; exact (HMD.out.up HB9.out).set _, ((grown_of_below HB9.out).but _).trans grown_set⟩
            · have hne := HNE.out hj
              have HIJ : Hid (i + 1 ≤ j0) := by show _ ≤ _; have := HI.out; omega
              obtain ⟨z, hz⟩ : ∃ z, wA (kds t) a i = z := ⟨_, rfl⟩
              rw [hz] at q8 hne
              have f1 : ((z : Int) == (c' : Int)) = false := by rw [beq_eq_false_iff_ne]; exact hne
              clear hi hj hz HNX HNE hne
              go_upto_region 11 with fail
              go_quiet (fail)
              have HB9 : Hid (Below w.heap.size w (wr.drewN nq)) := below_drewN HBW.out _
              have HX9 : Hid ((wr.drewN nq).heap[m]? = some (.cells #[MV, .int .i64 (c' : Int)] 87 (0, 0))) := HXW.out
              generalize wr.drewN nq = W9 at HB9 HX9 ⊢
              clear q8 m1
              go_wp2_with fail
              go_roundg (sk - (i + 1))
              case measure => have := HI.out; have := HJ.out; have := HIJ.out; omega
              case rel => exact ⟨i + 1, by first | rfl | (rw [show (i : Int) + 1 = ((i + 1 : Nat) : Int) by omega]), ⟨rfl, HIJ.out⟩, HB9, HX9⟩
          · have e1 : decide (((i + 1 : Nat) : Int) < (sk : Int)) = false := by rw [decide_eq_false_iff_not]; omega
            have e2 : decide ((i : Int) + 1 < (sk : Int)) = false := by rw [decide_eq_false_iff_not]; omega
            have e3 : decide (i + 1 < sk) = false := by rw [decide_eq_false_iff_not]; omega
            have HE : Hid (bsd (kns t) (c' : Int) = -1) := by
              have h8 : i = j0 := by have := HI.out; have := HJ.out; omega
              subst h8
              have h7 := HSB.out.next HF.out HJ.out.1
              rw [if_neg hi, HJ.out.2, kds_len] at h7
              show _ = _
              rw [HBS.out, if_neg h7]
            clear hi
            go_wp2_with fail
            go_ret
            exact ⟨by rw [HE.out]; rfl, by rw [HE.out]; exact HMD.out.up HBW.out, (grown_of_below HBW.out).but _⟩
      · have HSB : Hid (Sib (kds t) (q + 1) (kA (kds t) q) pp) := Or.inr ⟨q, hch.1, rfl, rfl, hp1⟩
        obtain ⟨j0, hj0⟩ := (HSB.out.is HF.out).2.2.2 c' (by rw [kds_len]; exact HL.out) HPP.out.symm
        have HJ : Hid (j0 < kA (kds t) q ∧ wA (kds t) (q + 1) j0 = c') := hj0
        have HKS : Hid (kA (kds t) q < 9223372036854775000) := by have h7 := (HSB.out.is HF.out).2.1; have h8 := HF.out.le (q + 1); rw [kds_len] at h8; have := HS.out; show _ < _; omega
        have HPQ : Hid (Pos t (q : Int)) := Or.inr ⟨HF.out, q, rfl, by have := HL.out; omega⟩
        have g1 : decide ((q : Int) ≥ 0) = true := by rw [decide_eq_true_eq]; omega
        have g2 : decide ((0 : Int) ≤ (q : Int)) = true := by rw [decide_eq_true_eq]; omega
        clear hj0 hch hq
        subst hp1
        go_upto_region 6 with fail
        clear k0 k1 k2 k3 k4 k5 k6 k7 k8
        go_upto_region 7 with (go_at_call 44; refine Calls.mono (rfind_any HS.out HM.out HPQ.out _ (below_trans HB0.out HB7.out)) ?_; rintro ee W8 ⟨y2, za, zn, zc, c2, p2, b2, rfl, hr8, hb8⟩; unfold tA; have HR8 : Hid (Rfd B w0 t (q : Int) y2 (.slice za zn zc) c2 p2 b2) := hr8; have HB8 : Hid (Below w.heap.size w W8) := below_trans HB7.out hb8; clear hr8 hb8)
        obtain ⟨kc, hkc⟩ : ∃ kc, W8.heap.size = kc := ⟨_, rfl⟩
        obtain ⟨W10, hW10⟩ : ∃ W10, W10 = W8.alloc (.cells #[.string y2.nm, .bool y2.nd, .string y2.fd, .int .i64 y2.fr, .int .i64 y2.tt, .int .i64 y2.kd, .int .i64 y2.lf, .slice za zn zc, .int .i64 c2] 91) := ⟨_, rfl⟩
        have HB10 : Hid (Below w.heap.size w W10) := by rw [hW10]; exact below_trans HB8.out (bel_up _ _)
        have HK10 : Hid (W10.heap[kc]? = some (.cells #[.string y2.nm, .bool y2.nd, .string y2.fd, .int .i64 y2.fr, .int .i64 y2.tt, .int .i64 y2.kd, .int .i64 y2.lf, .slice za zn zc, .int .i64 c2] 91 (0, 0))) := by rw [hW10, ← hkc]; exact heap_new _ _
        have HX10 : Hid (W10.heap[m]? = some (.cells #[.slice ad k cp, .int .i64 (c' : Int)] 87 (0, 0))) := by rw [HB10.out.block m (lt_of_heap HX.out)]; exact HX.out
        rw [hkc, ← hW10]
        clear hW10 hkc m0 m1 ff g1 g2
        rcases HR8.out with ⟨rfl, _, c3, hl3, e3, rfl, rfl, htr3, _⟩ | ⟨_, _, e3⟩
        · obtain rfl : q = c3 := by omega
          have hK := htr3.kids
          obtain ⟨_, _, e⟩ := hK.form
          obtain ⟨-, rfl, -⟩ := Value.slice.inj e
          have HFR : Hid (FrM (fun g => B ≤ g) w0 t (.slice za (kA (kds t) q) zc) (q + 1) (kA (kds t) q)) := hK
          obtain ⟨a, ha⟩ : ∃ a : Nat, q + 1 = a := ⟨_, rfl⟩
          rw [ha] at HSB HFR HJ
          clear ha hK htr3 e hl3 e3 HR8
          have k7 := rcell HK10.out 7 _ rfl
          go_upto_region 9 with fail
          obtain ⟨MV, hMV⟩ : ∃ MV : Value, MV = .slice ad k cp := ⟨_, rfl⟩
          have HXW0 : Hid (W10.heap[m]? = some (.cells #[MV, .int .i64 (c' : Int)] 87 (0, 0))) := by rw [hMV]; exact HX10.out
          have HBW0 : Hid (Below w.heap.size w W10) := HB10.out
          clear hMV k7
          obtain ⟨sk, hsk⟩ : ∃ sk, kA (kds t) q = sk := ⟨_, rfl⟩
          rw [hsk] at HSB HFR HJ HKS ⊢
          clear hsk
          go_loopg [10] sk (fun gm v10 wr => ∃ i : Nat, v10 = .int .i64 (i : Int) ∧ Hid (gm = sk - i ∧ i ≤ j0) ∧ Hid (Below w.heap.size w wr) ∧ Hid (wr.heap[m]? = some (.cells #[MV, .int .i64 (c' : Int)] 87 (0, 0))))
          case atStart => exact ⟨0, rfl, ⟨rfl, Nat.zero_le _⟩, HBW0, HXW0⟩
          case round =>
            obtain ⟨i, rfl, HI, HBW, HXW⟩ := hrel
            have hwi := w64n i (by have := HI.out; have := HJ.out; have := HKS.out; omega)
            by_cases hi : i + 1 < sk
            · have e1 : decide (((i + 1 : Nat) : Int) < (sk : Int)) = true := by rw [decide_eq_true_eq]; omega
              have e2 : decide ((i : Int) + 1 < (sk : Int)) = true := by rw [decide_eq_true_eq]; omega
              have e3 : decide (i + 1 < sk) = true := by rw [decide_eq_true_eq]; omega
              have b1 : (i : Int) < (sk : Int) := by omega
              have b2 : i < sk := by omega
              have b3 : (i : Int) + 1 < (sk : Int) := by omega
              have b4 : ((i + 1 : Nat) : Int) < (sk : Int) := by omega
              have b5 : i + 1 < sk := hi
              obtain ⟨g, o, aa, nn, cc, rfl, _, h9⟩ := HFR.out.nine i (by omega)
              obtain ⟨-, -, -, -, -, -, -, -, q8⟩ := h9 _ (below_trans HB0.out HBW.out)
              obtain ⟨g', o', aa', nn', cc', e9, _, h9'⟩ := HFR.out.nine (i + 1) hi
              obtain ⟨rfl, rfl⟩ : g = g' ∧ o = o' := by cases e9; exact ⟨rfl, rfl⟩
              have HR8 : Hid (∀ W', Below w0.heap.size w0 W' → W'.cell? ⟨g, o + (i + 1) * 9 + 8, none⟩ = some (.int .i64 (wA (kds t) a (i + 1) : Nat))) := fun W' hW => (h9' W' hW).2.2.2.2.2.2.2.2
              clear h9 h9' e9
              have HNX : Hid (i = j0 → bsd (kns t) (c' : Int) = ((wA (kds t) a (i + 1) : Nat) : Int)) := fun e => by
                subst e
                have h7 := HSB.out.next HF.out HJ.out.1
                rw [if_pos hi, HJ.out.2] at h7
                rw [kds_len] at h7
                rw [HBS.out, h7.1, if_pos ⟨h7.2.1, h7.2.2⟩]
              have HNE : Hid (i ≠ j0 → ¬((wA (kds t) a i : Int) = (c' : Int))) := fun h e => by
                obtain ⟨s1, s2, _, _⟩ := HSB.out.is HF.out
                have := HF.out.mono a i j0 s1 HI.out.2 (by have := HJ.out; omega)
                have := HJ.out
                have := HI.out
                omega
              have m1 := rcell HXW.out 1 _ rfl
              by_cases hj : i = j0
              · have hw : wA (kds t) a i = c' := by rw [hj]; exact HJ.out.2
                rw [hw] at q8
                have hnx := HNX.out hj
                obtain ⟨z, hz⟩ : ∃ z, wA (kds t) a (i + 1) = z := ⟨_, rfl⟩
                rw [hz] at HR8 hnx
                have HE : Hid (bsd (kns t) (c' : Int) = (z : Int)) := hnx
                have HG : Hid (goes (z : Int) = true) := by show _ = _; unfold goes; rw [bne_iff_ne]; omega
                have f1 : ((c' : Int) == (c' : Int)) = true := by simp
                clear hi hj hw hnx hz HNX HNE
                go_upto_region 11 with fail
                go_quiet (fail)
                have HB9 : Hid (Below w.heap.size w (wr.drewN nq)) := below_drewN HBW.out _
                have HX9 : Hid ((wr.drewN nq).heap[m]? = some (.cells #[MV, .int .i64 (c' : Int)] 87 (0, 0))) := HXW.out
                generalize wr.drewN nq = W9 at HB9 HX9 ⊢
                clear q8 m1
                have r8 := HR8.out W9 (below_trans HB0.out HB9.out)
                have m1 := rcell HX9.out 1 _ rfl
                have ff := fun j => Lib.frozen_of_heap HX9.out j
                go_wp2_with fail
                go_ret
                exact ⟨by rw [HE.out, HG.out]; rfl, by rw [HE.out, gone_yes HG.out]; exact (HMD.out.up HB9.out).set _, ((grown_of_below HB9.out).but _).trans grown_set⟩
              · have hne := HNE.out hj
                have HIJ : Hid (i + 1 ≤ j0) := by show _ ≤ _; have := HI.out; omega
                obtain ⟨z, hz⟩ : ∃ z, wA (kds t) a i = z := ⟨_, rfl⟩
                rw [hz] at q8 hne
                have f1 : ((z : Int) == (c' : Int)) = false := by rw [beq_eq_false_iff_ne]; exact hne
                clear hi hj hz HNX HNE hne
                go_upto_region 11 with fail
                go_quiet (fail)
                have HB9 : Hid (Below w.heap.size w (wr.drewN nq)) := below_drewN HBW.out _
                have HX9 : Hid ((wr.drewN nq).heap[m]? = some (.cells #[MV, .int .i64 (c' : Int)] 87 (0, 0))) := HXW.out
                generalize wr.drewN nq = W9 at HB9 HX9 ⊢
                clear q8 m1
                go_wp2_with fail
                go_roundg (sk - (i + 1))
                case measure => have := HI.out; have := HJ.out; have := HIJ.out; omega
                case rel => exact ⟨i + 1, by first | rfl | (rw [show (i : Int) + 1 = ((i + 1 : Nat) : Int) by omega]), ⟨rfl, HIJ.out⟩, HB9, HX9⟩
            · have e1 : decide (((i + 1 : Nat) : Int) < (sk : Int)) = false := by rw [decide_eq_false_iff_not]; omega
              have e2 : decide ((i : Int) + 1 < (sk : Int)) = false := by rw [decide_eq_false_iff_not]; omega
              have e3 : decide (i + 1 < sk) = false := by rw [decide_eq_false_iff_not]; omega
              have HE : Hid (bsd (kns t) (c' : Int) = -1) := by
                have h8 : i = j0 := by have := HI.out; have := HJ.out; omega
                subst h8
                have h7 := HSB.out.next HF.out HJ.out.1
                rw [if_neg hi, HJ.out.2, kds_len] at h7
                show _ = _
                rw [HBS.out, if_neg h7]
              clear hi
              go_wp2_with fail
              go_ret
              exact ⟨by rw [HE.out]; rfl, by rw [HE.out]; exact HMD.out.up HBW.out, (grown_of_below HBW.out).but _⟩
        · omega
    · have HE : Hid (bsd (kns t) (-1) = -1) := by rw [hk]; rfl
      clear hk
      go_wp2_with fail
      go_ret
      exact ⟨by rw [HE.out]; rfl, by rw [HE.out]; exact HMD.out.up HB7.out, (grown_of_below HB7.out).but _⟩
  · go_simp
    refine hK.out _ _ ?_ (fun hHeld => ?_)
    · exact below_trans HD.out (bel_up _ _)
    clear hK K
    try simp only [Act.put, List.setIfInBounds_toArray, List.set_cons_zero, List.set_cons_succ]
    obtain ⟨W5, hW5⟩ : ∃ W5, W5 = (WD).alloc (.cells #[.string ⟨#[]⟩, .bool false, .string ⟨#[]⟩, .int .i64 0, .int .i64 0, .int .i64 0, .int .i64 0, .slice none 0 0, .int .i64 0] 91) := ⟨_, rfl⟩
    have HB5 : Hid (Below w.heap.size w W5) := by rw [hW5]; exact below_trans HD.out (bel_up _ _)
    have HK5 : Hid (W5.heap[(WD).heap.size]? = some (.cells #[.string ⟨#[]⟩, .bool false, .string ⟨#[]⟩, .int .i64 0, .int .i64 0, .int .i64 0, .int .i64 0, .slice none 0 0, .int .i64 0] 91 (0, 0))) := by rw [hW5]; exact heap_new _ _
    have HKB : Hid (w.heap.size ≤ (WD).heap.size) := (HD.out).size
    rw [← hW5] at hHeld ⊢
    clear hW5
    obtain ⟨kb, hkb⟩ : ∃ kb, (WD).heap.size = kb := ⟨_, rfl⟩
    rw [hkb] at HK5 HKB ⊢
    clear hkb
    refine wpAnyH_ready (rs := [8]) (by kernel_rfl) (by simp) ?_
    refine AllReadyH.cons (o := { dst := _, op := _, type := _, pos := _, after := _, guard := _ }) rfl (fun K hK => ?_) AllReadyH.nil
    go_simp
    refine Calls.mono (rfind_any HS.out HM.out HP.out _ (below_trans HB0.out HB5.out)) ?_
    rintro ee W4 ⟨y, ya, yn, yc, c, pp, bb, rfl, hr, hb4⟩
    unfold tA
    have HR : Hid (Rfd B w0 t x y (.slice ya yn yc) c pp bb) := hr
    have HB4 : Hid (Below w.heap.size w W4) := below_trans HB5.out hb4
    have HK4 : Hid (W4.heap[kb]? = some (.cells #[.string ⟨#[]⟩, .bool false, .string ⟨#[]⟩, .int .i64 0, .int .i64 0, .int .i64 0, .int .i64 0, .slice none 0 0, .int .i64 0] 91 (0, 0))) := by rw [hb4.block kb (lt_of_heap HK5.out)]; exact HK5.out
    clear hr hb4
    go_wp2_with fail
    refine hK.out _ _ ?_ (fun hHeld => ?_)
    · exact HB4.out
    clear hK K
    try simp only [Act.put, List.setIfInBounds_toArray, List.set_cons_zero, List.set_cons_succ]
    refine wpAnyH_take (i := 9) (oi := { dst := _, op := _, type := _, pos := _, after := _, guard := _ }) (v := ?_) rfl (by kernel_rfl) (by kernel_rfl) (by kernel_rfl) (fun _ _ _ h => h) (Or.inl ⟨by rfl, ?_⟩) (by assumption) ?_
    rotate_left
    · intro W hSw
      (try dsimp only at hSw)
      go_simp
      (try with_reducible rfl)
    try simp only [Act.put, List.setIfInBounds_toArray, List.set_cons_zero, List.set_cons_succ]
    refine wpAnyH_take (i := 10) (oi := { dst := _, op := _, type := _, pos := _, after := _, guard := _ }) (v := ?_) rfl (by kernel_rfl) (by kernel_rfl) (by kernel_rfl) (fun _ _ _ h => h) (Or.inl ⟨by rfl, ?_⟩) (by assumption) ?_
    rotate_left
    · intro W hSw
      (try dsimp only at hSw)
      go_simp
      (try with_reducible rfl)
    try simp only [Act.put, List.setIfInBounds_toArray, List.set_cons_zero, List.set_cons_succ]
    refine wpAnyH_take (i := 11) (oi := { dst := _, op := _, type := _, pos := _, after := _, guard := _ }) (v := ?_) rfl (by kernel_rfl) (by kernel_rfl) (by kernel_rfl) (fun _ _ _ h => h) (Or.inl ⟨by rfl, ?_⟩) (by assumption) ?_
    rotate_left
    · intro W hSw
      (try dsimp only at hSw)
      go_simp
      (try with_reducible rfl)
    try simp only [Act.put, List.setIfInBounds_toArray, List.set_cons_zero, List.set_cons_succ]
    refine wpAnyH_take (i := 12) (oi := { dst := _, op := _, type := _, pos := _, after := _, guard := _ }) (v := ?_) rfl (by kernel_rfl) (by kernel_rfl) (by kernel_rfl) (fun _ _ _ h => h) (Or.inl ⟨by rfl, ?_⟩) (by assumption) ?_
    rotate_left
    · intro W hSw
      (try dsimp only at hSw)
      go_simp
      (try with_reducible rfl)
    try simp only [Act.put, List.setIfInBounds_toArray, List.set_cons_zero, List.set_cons_succ]
    refine wpAnyH_ready (rs := [14]) (by kernel_rfl) (by simp) ?_
    refine AllReadyH.cons (o := { dst := _, op := _, type := _, pos := _, after := _, guard := _ }) rfl (fun K hK => ?_) AllReadyH.nil
    have k0 := rcell HK4.out 0 _ rfl
    have k1 := rcell HK4.out 1 _ rfl
    have k2 := rcell HK4.out 2 _ rfl
    have k3 := rcell HK4.out 3 _ rfl
    have k4 := rcell HK4.out 4 _ rfl
    have k5 := rcell HK4.out 5 _ rfl
    have k6 := rcell HK4.out 6 _ rfl
    have k7 := rcell HK4.out 7 _ rfl
    have k8 := rcell HK4.out 8 _ rfl
    have fk := fun j => Lib.frozen_of_heap HK4.out j
    go_simp
    clear k0 k1 k2 k3 k4 k5 k6 k7 k8
    clear fk
    refine hK.out _ _ ?_ (fun hHeld => ?_)
    · exact (bel_put (bel_put (bel_put (bel_put (bel_put (bel_put (bel_put (bel_put (bel_put HB4.out HKB.out) HKB.out) HKB.out) HKB.out) HKB.out) HKB.out) HKB.out) HKB.out) HKB.out)
    clear hK K
    try simp only [Act.put, List.setIfInBounds_toArray, List.set_cons_zero, List.set_cons_succ]
    obtain ⟨W7, hW7⟩ : ∃ W7, W7 = (((((((((W4.setCell ⟨kb, 0, none⟩ (.string y.nm)).setCell ⟨kb, 1, none⟩ (.bool y.nd)).setCell ⟨kb, 2, none⟩ (.string y.fd)).setCell ⟨kb, 3, none⟩ (.int .i64 y.fr)).setCell ⟨kb, 4, none⟩ (.int .i64 y.tt)).setCell ⟨kb, 5, none⟩ (.int .i64 y.kd)).setCell ⟨kb, 6, none⟩ (.int .i64 y.lf)).setCell ⟨kb, 7, none⟩ (.slice ya yn yc)).setCell ⟨kb, 8, none⟩ (.int .i64 c)) := ⟨_, rfl⟩
    have HB7 : Hid (Below w.heap.size w W7) := by rw [hW7]; exact (bel_put (bel_put (bel_put (bel_put (bel_put (bel_put (bel_put (bel_put (bel_put HB4.out HKB.out) HKB.out) HKB.out) HKB.out) HKB.out) HKB.out) HKB.out) HKB.out) HKB.out)
    have HK7 : Hid (W7.heap[kb]? = some (.cells #[.string y.nm, .bool y.nd, .string y.fd, .int .i64 y.fr, .int .i64 y.tt, .int .i64 y.kd, .int .i64 y.lf, .slice ya yn yc, .int .i64 c] 91 (0, 0))) := by rw [hW7]; exact put9_heap HK4.out
    rw [← hW7] at hHeld ⊢
    clear hW7
    refine wpAnyH_take (i := 15) (oi := { dst := _, op := _, type := _, pos := _, after := _, guard := _ }) (v := ?_) rfl (by kernel_rfl) (by kernel_rfl) (by kernel_rfl) (fun _ _ _ h => h) (Or.inl ⟨by rfl, ?_⟩) (by assumption) ?_
    rotate_left
    · intro W hSw
      (try dsimp only at hSw)
      go_simp
      (try with_reducible rfl)
    try simp only [Act.put, List.setIfInBounds_toArray, List.set_cons_zero, List.set_cons_succ]
    refine wpAnyH_take (i := 16) (oi := { dst := _, op := _, type := _, pos := _, after := _, guard := _ }) (v := ?_) rfl (by kernel_rfl) (by kernel_rfl) (by kernel_rfl) (fun _ _ _ h => h) (Or.inl ⟨by rfl, ?_⟩) (by assumption) ?_
    rotate_left
    · intro W hSw
      (try dsimp only at hSw)
      go_simp
      (try with_reducible rfl)
    try simp only [Act.put, List.setIfInBounds_toArray, List.set_cons_zero, List.set_cons_succ]
    refine wpAnyH_done (by kernel_rfl) ?_ _
    clear hHeld
    refine NoPanic.normal ?_
    have HX7 : Hid (W7.heap[m]? = some (.cells #[.slice ad k cp, .int .i64 x] 87 (0, 0))) := by rw [HB7.out.block m (lt_of_heap HX.out)]; exact HX.out
    have k0 := rcell HK7.out 0 _ rfl
    have k1 := rcell HK7.out 1 _ rfl
    have k2 := rcell HK7.out 2 _ rfl
    have k3 := rcell HK7.out 3 _ rfl
    have k4 := rcell HK7.out 4 _ rfl
    have k5 := rcell HK7.out 5 _ rfl
    have k6 := rcell HK7.out 6 _ rfl
    have k7 := rcell HK7.out 7 _ rfl
    have k8 := rcell HK7.out 8 _ rfl
    have m0 := rcell HX7.out 0 _ rfl
    have m1 := rcell HX7.out 1 _ rfl
    have ff := fun j => Lib.frozen_of_heap HX7.out j
    rcases HR.out with ⟨rfl, hf, c', hl, rfl, rfl, rfl, htr, hpp⟩ | ⟨rfl, hk, rfl⟩
    · have hb := kbsd hf c' hl
      rw [← hpp] at hb
      have HBS : Hid (bsd (kns t) (c' : Int) = if eA (kds t) c' < t.length ∧ pl (kds t) (eA (kds t) c') = pp then ((eA (kds t) c' : Nat) : Int) else -1) := hb
      have HF : Hid (Fo (kds t)) := hf
      have HL : Hid (c' < t.length) := hl
      have HPP : Hid (pp = pl (kds t) c') := hpp
      have hpi := pl_is hf c' (by rw [kds_len]; exact hl)
      rw [← hpp] at hpi
      clear hb hpp htr hf hl
      rcases hpi with ⟨hp1, _⟩ | ⟨q, i, hp1, hq, hch⟩
      · have HSB : Hid (Sib (kds t) 0 k pp ∧ FrM (fun g => B ≤ g) w0 t (.slice ad k cp) 0 k) := by
          rcases HM.out with ⟨h1, h2⟩ | ⟨h1, _⟩
          · exact ⟨Or.inl ⟨rfl, (Fo.top h1).symm, hp1⟩, h2⟩
          · obtain ⟨r, h3⟩ := HF.out
            rw [h1] at h3; cases h3
        have HFR : Hid (FrM (fun g => B ≤ g) w0 t (.slice ad k cp) 0 k) := HSB.out.2
        replace HSB : Hid (Sib (kds t) 0 k pp) := HSB.out.1
        obtain ⟨j0, hj0⟩ := (HSB.out.is HF.out).2.2.2 c' (by rw [kds_len]; exact HL.out) HPP.out.symm
        have HJ : Hid (j0 < k ∧ wA (kds t) 0 j0 = c') := hj0
        have HKS : Hid (k < 9223372036854775000) := by have h7 := (HSB.out.is HF.out).2.1; have h8 := HF.out.le 0; rw [kds_len] at h8; have := HS.out; show _ < _; omega
        clear hj0
        have HBW0 : Hid (Below w.heap.size w W7) := HB7.out
        obtain ⟨a, ha⟩ : ∃ a : Nat, a = 0 := ⟨_, rfl⟩
        rw [← ha] at HSB HFR HJ
        clear ha
        subst hp1
        go_upto_region 9 with fail
        obtain ⟨MV, hMV⟩ : ∃ MV : Value, MV = .slice ad k cp := ⟨_, rfl⟩
        have HXW0 : Hid (W7.heap[m]? = some (.cells #[MV, .int .i64 (c' : Int)] 87 (0, 0))) := by rw [hMV]; exact HX7.out
        clear hMV m1
        obtain ⟨sk, hsk⟩ : ∃ sk, k = sk := ⟨_, rfl⟩
        rw [hsk] at HSB HFR HJ HKS ⊢
        clear hsk
        clear k0 k1 k2 k3 k4 k5 k6 k7 k8 m0
        go_loopg [10] sk (fun gm v10 wr => ∃ i : Nat, v10 = .int .i64 (i : Int) ∧ Hid (gm = sk - i ∧ i ≤ j0) ∧ Hid (Below w.heap.size w wr) ∧ Hid (wr.heap[m]? = some (.cells #[MV, .int .i64 (c' : Int)] 87 (0, 0))))
        case atStart => exact ⟨0, rfl, ⟨rfl, Nat.zero_le _⟩, HBW0, HXW0⟩
        case round =>
          obtain ⟨i, rfl, HI, HBW, HXW⟩ := hrel
          have hwi := w64n i (by have := HI.out; have := HJ.out; have := HKS.out; omega)
          by_cases hi : i + 1 < sk
          · have e1 : decide (((i + 1 : Nat) : Int) < (sk : Int)) = true := by rw [decide_eq_true_eq]; omega
            have e2 : decide ((i : Int) + 1 < (sk : Int)) = true := by rw [decide_eq_true_eq]; omega
            have e3 : decide (i + 1 < sk) = true := by rw [decide_eq_true_eq]; omega
            have b1 : (i : Int) < (sk : Int) := by omega
            have b2 : i < sk := by omega
            have b3 : (i : Int) + 1 < (sk : Int) := by omega
            have b4 : ((i + 1 : Nat) : Int) < (sk : Int) := by omega
            have b5 : i + 1 < sk := hi
            obtain ⟨g, o, aa, nn, cc, rfl, _, h9⟩ := HFR.out.nine i (by omega)
            obtain ⟨-, -, -, -, -, -, -, -, q8⟩ := h9 _ (below_trans HB0.out HBW.out)
            obtain ⟨g', o', aa', nn', cc', e9, _, h9'⟩ := HFR.out.nine (i + 1) hi
            obtain ⟨rfl, rfl⟩ : g = g' ∧ o = o' := by cases e9; exact ⟨rfl, rfl⟩
            have HR8 : Hid (∀ W', Below w0.heap.size w0 W' → W'.cell? ⟨g, o + (i + 1) * 9 + 8, none⟩ = some (.int .i64 (wA (kds t) a (i + 1) : Nat))) := fun W' hW => (h9' W' hW).2.2.2.2.2.2.2.2
            clear h9 h9' e9
            have HNX : Hid (i = j0 → bsd (kns t) (c' : Int) = ((wA (kds t) a (i + 1) : Nat) : Int)) := fun e => by
              subst e
              have h7 := HSB.out.next HF.out HJ.out.1
              rw [if_pos hi, HJ.out.2] at h7
              rw [kds_len] at h7
              rw [HBS.out, h7.1, if_pos ⟨h7.2.1, h7.2.2⟩]
            have HNE : Hid (i ≠ j0 → ¬((wA (kds t) a i : Int) = (c' : Int))) := fun h e => by
              obtain ⟨s1, s2, _, _⟩ := HSB.out.is HF.out
              have := HF.out.mono a i j0 s1 HI.out.2 (by have := HJ.out; omega)
              have := HJ.out
              have := HI.out
              omega
            have m1 := rcell HXW.out 1 _ rfl
            by_cases hj : i = j0
            · have hw : wA (kds t) a i = c' := by rw [hj]; exact HJ.out.2
              rw [hw] at q8
              have hnx := HNX.out hj
              obtain ⟨z, hz⟩ : ∃ z, wA (kds t) a (i + 1) = z := ⟨_, rfl⟩
              rw [hz] at HR8 hnx
              have HE : Hid (bsd (kns t) (c' : Int) = (z : Int)) := hnx
              have HG : Hid (goes (z : Int) = true) := by show _ = _; unfold goes; rw [bne_iff_ne]; omega
              have f1 : ((c' : Int) == (c' : Int)) = true := by simp
              clear hi hj hw hnx hz HNX HNE
              go_upto_region 11 with fail
              go_quiet (fail)
              have HB9 : Hid (Below w.heap.size w (wr.drewN nq)) := below_drewN HBW.out _
              have HX9 : Hid ((wr.drewN nq).heap[m]? = some (.cells #[MV, .int .i64 (c' : Int)] 87 (0, 0))) := HXW.out
              generalize wr.drewN nq = W9 at HB9 HX9 ⊢
              clear q8 m1
              have r8 := HR8.out W9 (below_trans HB0.out HB9.out)
              have m1 := rcell HX9.out 1 _ rfl
              have ff := fun j => Lib.frozen_of_heap HX9.out j
              go_wp2_with fail
              go_ret
              exact ⟨by rw [HE.out, HG.out]; rfl, by rw [HE.out, gone_yes HG.out]; exact (HMD.out.up HB9.out).set _, ((grown_of_below HB9.out).but _).trans grown_set⟩
            · have hne := HNE.out hj
              have HIJ : Hid (i + 1 ≤ j0) := by show _ ≤ _; have := HI.out; omega
              obtain ⟨z, hz⟩ : ∃ z, wA (kds t) a i = z := ⟨_, rfl⟩
              rw [hz] at q8 hne
              have f1 : ((z : Int) == (c' : Int)) = false := by rw [beq_eq_false_iff_ne]; exact hne
              clear hi hj hz HNX HNE hne
              go_upto_region 11 with fail
              go_quiet (fail)
              have HB9 : Hid (Below w.heap.size w (wr.drewN nq)) := below_drewN HBW.out _
              have HX9 : Hid ((wr.drewN nq).heap[m]? = some (.cells #[MV, .int .i64 (c' : Int)] 87 (0, 0))) := HXW.out
              generalize wr.drewN nq = W9 at HB9 HX9 ⊢
              clear q8 m1
              go_wp2_with fail
              go_roundg (sk - (i + 1))
              case measure => have := HI.out; have := HJ.out; have := HIJ.out; omega
              case rel => exact ⟨i + 1, by first | rfl | (rw [show (i : Int) + 1 = ((i + 1 : Nat) : Int) by omega]), ⟨rfl, HIJ.out⟩, HB9, HX9⟩
          · have e1 : decide (((i + 1 : Nat) : Int) < (sk : Int)) = false := by rw [decide_eq_false_iff_not]; omega
            have e2 : decide ((i : Int) + 1 < (sk : Int)) = false := by rw [decide_eq_false_iff_not]; omega
            have e3 : decide (i + 1 < sk) = false := by rw [decide_eq_false_iff_not]; omega
            have HE : Hid (bsd (kns t) (c' : Int) = -1) := by
              have h8 : i = j0 := by have := HI.out; have := HJ.out; omega
              subst h8
              have h7 := HSB.out.next HF.out HJ.out.1
              rw [if_neg hi, HJ.out.2, kds_len] at h7
              show _ = _
              rw [HBS.out, if_neg h7]
            clear hi
            go_wp2_with fail
            go_ret
            exact ⟨by rw [HE.out]; rfl, by rw [HE.out]; exact HMD.out.up HBW.out, (grown_of_below HBW.out).but _⟩
      · have HSB : Hid (Sib (kds t) (q + 1) (kA (kds t) q) pp) := Or.inr ⟨q, hch.1, rfl, rfl, hp1⟩
        obtain ⟨j0, hj0⟩ := (HSB.out.is HF.out).2.2.2 c' (by rw [kds_len]; exact HL.out) HPP.out.symm
        have HJ : Hid (j0 < kA (kds t) q ∧ wA (kds t) (q + 1) j0 = c') := hj0
        have HKS : Hid (kA (kds t) q < 9223372036854775000) := by have h7 := (HSB.out.is HF.out).2.1; have h8 := HF.out.le (q + 1); rw [kds_len] at h8; have := HS.out; show _ < _; omega
        have HPQ : Hid (Pos t (q : Int)) := Or.inr ⟨HF.out, q, rfl, by have := HL.out; omega⟩
        have g1 : decide ((q : Int) ≥ 0) = true := by rw [decide_eq_true_eq]; omega
        have g2 : decide ((0 : Int) ≤ (q : Int)) = true := by rw [decide_eq_true_eq]; omega
        clear hj0 hch hq
        subst hp1
        go_upto_region 6 with fail
        clear k0 k1 k2 k3 k4 k5 k6 k7 k8
        go_upto_region 7 with (go_at_call 44; refine Calls.mono (rfind_any HS.out HM.out HPQ.out _ (below_trans HB0.out HB7.out)) ?_; rintro ee W8 ⟨y2, za, zn, zc, c2, p2, b2, rfl, hr8, hb8⟩; unfold tA; have HR8 : Hid (Rfd B w0 t (q : Int) y2 (.slice za zn zc) c2 p2 b2) := hr8; have HB8 : Hid (Below w.heap.size w W8) := below_trans HB7.out hb8; clear hr8 hb8)
        obtain ⟨kc, hkc⟩ : ∃ kc, W8.heap.size = kc := ⟨_, rfl⟩
        obtain ⟨W10, hW10⟩ : ∃ W10, W10 = W8.alloc (.cells #[.string y2.nm, .bool y2.nd, .string y2.fd, .int .i64 y2.fr, .int .i64 y2.tt, .int .i64 y2.kd, .int .i64 y2.lf, .slice za zn zc, .int .i64 c2] 91) := ⟨_, rfl⟩
        have HB10 : Hid (Below w.heap.size w W10) := by rw [hW10]; exact below_trans HB8.out (bel_up _ _)
        have HK10 : Hid (W10.heap[kc]? = some (.cells #[.string y2.nm, .bool y2.nd, .string y2.fd, .int .i64 y2.fr, .int .i64 y2.tt, .int .i64 y2.kd, .int .i64 y2.lf, .slice za zn zc, .int .i64 c2] 91 (0, 0))) := by rw [hW10, ← hkc]; exact heap_new _ _
        have HX10 : Hid (W10.heap[m]? = some (.cells #[.slice ad k cp, .int .i64 (c' : Int)] 87 (0, 0))) := by rw [HB10.out.block m (lt_of_heap HX.out)]; exact HX.out
        rw [hkc, ← hW10]
        clear hW10 hkc m0 m1 ff g1 g2
        rcases HR8.out with ⟨rfl, _, c3, hl3, e3, rfl, rfl, htr3, _⟩ | ⟨_, _, e3⟩
        · obtain rfl : q = c3 := by omega
          have hK := htr3.kids
          obtain ⟨_, _, e⟩ := hK.form
          obtain ⟨-, rfl, -⟩ := Value.slice.inj e
          have HFR : Hid (FrM (fun g => B ≤ g) w0 t (.slice za (kA (kds t) q) zc) (q + 1) (kA (kds t) q)) := hK
          obtain ⟨a, ha⟩ : ∃ a : Nat, q + 1 = a := ⟨_, rfl⟩
          rw [ha] at HSB HFR HJ
          clear ha hK htr3 e hl3 e3 HR8
          have k7 := rcell HK10.out 7 _ rfl
          go_upto_region 9 with fail
          obtain ⟨MV, hMV⟩ : ∃ MV : Value, MV = .slice ad k cp := ⟨_, rfl⟩
          have HXW0 : Hid (W10.heap[m]? = some (.cells #[MV, .int .i64 (c' : Int)] 87 (0, 0))) := by rw [hMV]; exact HX10.out
          have HBW0 : Hid (Below w.heap.size w W10) := HB10.out
          clear hMV k7
          obtain ⟨sk, hsk⟩ : ∃ sk, kA (kds t) q = sk := ⟨_, rfl⟩
          rw [hsk] at HSB HFR HJ HKS ⊢
          clear hsk
          go_loopg [10] sk (fun gm v10 wr => ∃ i : Nat, v10 = .int .i64 (i : Int) ∧ Hid (gm = sk - i ∧ i ≤ j0) ∧ Hid (Below w.heap.size w wr) ∧ Hid (wr.heap[m]? = some (.cells #[MV, .int .i64 (c' : Int)] 87 (0, 0))))
          case atStart => exact ⟨0, rfl, ⟨rfl, Nat.zero_le _⟩, HBW0, HXW0⟩
          case round =>
            obtain ⟨i, rfl, HI, HBW, HXW⟩ := hrel
            have hwi := w64n i (by have := HI.out; have := HJ.out; have := HKS.out; omega)
            by_cases hi : i + 1 < sk
            · have e1 : decide (((i + 1 : Nat) : Int) < (sk : Int)) = true := by rw [decide_eq_true_eq]; omega
              have e2 : decide ((i : Int) + 1 < (sk : Int)) = true := by rw [decide_eq_true_eq]; omega
              have e3 : decide (i + 1 < sk) = true := by rw [decide_eq_true_eq]; omega
              have b1 : (i : Int) < (sk : Int) := by omega
              have b2 : i < sk := by omega
              have b3 : (i : Int) + 1 < (sk : Int) := by omega
              have b4 : ((i + 1 : Nat) : Int) < (sk : Int) := by omega
              have b5 : i + 1 < sk := hi
              obtain ⟨g, o, aa, nn, cc, rfl, _, h9⟩ := HFR.out.nine i (by omega)
              obtain ⟨-, -, -, -, -, -, -, -, q8⟩ := h9 _ (below_trans HB0.out HBW.out)
              obtain ⟨g', o', aa', nn', cc', e9, _, h9'⟩ := HFR.out.nine (i + 1) hi
              obtain ⟨rfl, rfl⟩ : g = g' ∧ o = o' := by cases e9; exact ⟨rfl, rfl⟩
              have HR8 : Hid (∀ W', Below w0.heap.size w0 W' → W'.cell? ⟨g, o + (i + 1) * 9 + 8, none⟩ = some (.int .i64 (wA (kds t) a (i + 1) : Nat))) := fun W' hW => (h9' W' hW).2.2.2.2.2.2.2.2
              clear h9 h9' e9
              have HNX : Hid (i = j0 → bsd (kns t) (c' : Int) = ((wA (kds t) a (i + 1) : Nat) : Int)) := fun e => by
                subst e
                have h7 := HSB.out.next HF.out HJ.out.1
                rw [if_pos hi, HJ.out.2] at h7
                rw [kds_len] at h7
                rw [HBS.out, h7.1, if_pos ⟨h7.2.1, h7.2.2⟩]
              have HNE : Hid (i ≠ j0 → ¬((wA (kds t) a i : Int) = (c' : Int))) := fun h e => by
                obtain ⟨s1, s2, _, _⟩ := HSB.out.is HF.out
                have := HF.out.mono a i j0 s1 HI.out.2 (by have := HJ.out; omega)
                have := HJ.out
                have := HI.out
                omega
              have m1 := rcell HXW.out 1 _ rfl
              by_cases hj : i = j0
              · have hw : wA (kds t) a i = c' := by rw [hj]; exact HJ.out.2
                rw [hw] at q8
                have hnx := HNX.out hj
                obtain ⟨z, hz⟩ : ∃ z, wA (kds t) a (i + 1) = z := ⟨_, rfl⟩
                rw [hz] at HR8 hnx
                have HE : Hid (bsd (kns t) (c' : Int) = (z : Int)) := hnx
                have HG : Hid (goes (z : Int) = true) := by show _ = _; unfold goes; rw [bne_iff_ne]; omega
                have f1 : ((c' : Int) == (c' : Int)) = true := by simp
                clear hi hj hw hnx hz HNX HNE
                go_upto_region 11 with fail
                go_quiet (fail)
                have HB9 : Hid (Below w.heap.size w (wr.drewN nq)) := below_drewN HBW.out _
                have HX9 : Hid ((wr.drewN nq).heap[m]? = some (.cells #[MV, .int .i64 (c' : Int)] 87 (0, 0))) := HXW.out
                generalize wr.drewN nq = W9 at HB9 HX9 ⊢
                clear q8 m1
                have r8 := HR8.out W9 (below_trans HB0.out HB9.out)
                have m1 := rcell HX9.out 1 _ rfl
                have ff := fun j => Lib.frozen_of_heap HX9.out j
                go_wp2_with fail
                go_ret
                exact ⟨by rw [HE.out, HG.out]; rfl, by rw [HE.out, gone_yes HG.out]; exact (HMD.out.up HB9.out).set _, ((grown_of_below HB9.out).but _).trans grown_set⟩
              · have hne := HNE.out hj
                have HIJ : Hid (i + 1 ≤ j0) := by show _ ≤ _; have := HI.out; omega
                obtain ⟨z, hz⟩ : ∃ z, wA (kds t) a i = z := ⟨_, rfl⟩
                rw [hz] at q8 hne
                have f1 : ((z : Int) == (c' : Int)) = false := by rw [beq_eq_false_iff_ne]; exact hne
                clear hi hj hz HNX HNE hne
                go_upto_region 11 with fail
                go_quiet (fail)
                have HB9 : Hid (Below w.heap.size w (wr.drewN nq)) := below_drewN HBW.out _
                have HX9 : Hid ((wr.drewN nq).heap[m]? = some (.cells #[MV, .int .i64 (c' : Int)] 87 (0, 0))) := HXW.out
                generalize wr.drewN nq = W9 at HB9 HX9 ⊢
                clear q8 m1
                go_wp2_with fail
                go_roundg (sk - (i + 1))
                case measure => have := HI.out; have := HJ.out; have := HIJ.out; omega
                case rel => exact ⟨i + 1, by first | rfl | (rw [show (i : Int) + 1 = ((i + 1 : Nat) : Int) by omega]), ⟨rfl, HIJ.out⟩, HB9, HX9⟩
            · have e1 : decide (((i + 1 : Nat) : Int) < (sk : Int)) = false := by rw [decide_eq_false_iff_not]; omega
              have e2 : decide ((i : Int) + 1 < (sk : Int)) = false := by rw [decide_eq_false_iff_not]; omega
              have e3 : decide (i + 1 < sk) = false := by rw [decide_eq_false_iff_not]; omega
              have HE : Hid (bsd (kns t) (c' : Int) = -1) := by
                have h8 : i = j0 := by have := HI.out; have := HJ.out; omega
                subst h8
                have h7 := HSB.out.next HF.out HJ.out.1
                rw [if_neg hi, HJ.out.2, kds_len] at h7
                show _ = _
                rw [HBS.out, if_neg h7]
              clear hi
              go_wp2_with fail
              go_ret
              exact ⟨by rw [HE.out]; rfl, by rw [HE.out]; exact HMD.out.up HBW.out, (grown_of_below HBW.out).but _⟩
        · omega
    · have HE : Hid (bsd (kns t) (-1) = -1) := by rw [hk]; rfl
      clear hk
      go_wp2_with fail
      go_ret
      exact ⟨by rw [HE.out]; rfl, by rw [HE.out]; exact HMD.out.up HB7.out, (grown_of_below HB7.out).but _⟩
end Go.Proofs.Ytcfmpmhdjkchjaa
