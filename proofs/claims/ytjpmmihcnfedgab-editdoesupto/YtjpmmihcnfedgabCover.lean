import Derived.Test.YtjpmmihcnfedgabApply
namespace Go.Proofs.Ytjpmmihcnfedgab
open Go.RowKit

/-- where the bytes begin that both edits leave -/
def cvz (a1 d1 n1 a2 d2 : Nat) : Nat := if a2 + d2 ≤ a1 + n1 then a1 + d1 else a2 + d2 - n1 + d1

set_option maxRecDepth 100000 in
set_option maxHeartbeats 1000000 in
theorem touched_any (a1 d1 a2 d2 : Nat) (i1 i2 : ByteArray) (w : World) (h1 : a1 + d1 ≤ 1048576) (h2 : a2 + d2 ≤ 1048576) (h3 : i1.size ≤ 1048576) :
    Calls Try.prog 19 #[ed a1 d1 i1, ed a2 d2 i2] w fun e w' => e = .returned (.int .i64 (cvz a1 d1 i1.size a2 d2 : Int)) ∧ Below w.heap.size w w' := by
  by_cases hc : a2 + d2 ≤ a1 + i1.size
  · have e1 : cvz a1 d1 i1.size a2 d2 = a1 + d1 := by unfold cvz; rw [if_pos hc]
    rw [e1]
    clear e1
    go_enter Try.func19, Try.ntmps19
    go_wp2_with fail
    go_ret
    exact ⟨ret_int (by omega), below_trans (bel_up _ _) (bel_up _ _)⟩
  · have e1 : (cvz a1 d1 i1.size a2 d2 : Int) = (a2 : Int) + d2 - i1.size + d1 := by unfold cvz; rw [if_neg hc]; omega
    rw [e1]
    clear e1
    go_enter Try.func19, Try.ntmps19
    go_wp2_with fail
    go_ret
    exact ⟨ret_int (by omega), below_trans (bel_up _ _) (bel_up _ _)⟩

theorem box3 {w W : World} {x y z x' y' z' x2 y2 z2 : Value} {t t' t2 : TypeId} (hW : Below (((w.alloc (.cells #[x, y, z] t)).alloc (.cells #[x', y', z'] t')).alloc (.cells #[x2, y2, z2] t2)).heap.size (((w.alloc (.cells #[x, y, z] t)).alloc (.cells #[x', y', z'] t')).alloc (.cells #[x2, y2, z2] t2)) W) :
    Box w W w.heap.size x y z ∧ Box w W (w.heap.size + 1) x' y' z' ∧ Box w W (w.heap.size + 2) x2 y2 z2 ∧ Below w.heap.size w W := by
  obtain ⟨h1, h2, h3⟩ := box2 (below_trans (bel_up _ _) hW)
  refine ⟨h1, h2, ?_, h3⟩
  have h := box1 hW
  have hz : ((w.alloc (.cells #[x, y, z] t)).alloc (.cells #[x', y', z'] t')).heap.size = w.heap.size + 2 := by simp
  rw [hz] at h
  exact ⟨h.c0, h.c1, h.c2, h.fr⟩

set_option maxRecDepth 100000 in
set_option maxHeartbeats 1000000 in
theorem cover_bad1 (s : ByteArray) (p1 q1 p2 q2 : Int) (i1 i2 : ByteArray) (w : World) (hs : s.size ≤ 140737488355328) (hi : i1.size ≤ 140737488355328) (hok : ¬ okE s p1 q1 i1) :
    Calls Try.prog 6 #[.string s, ed p1 q1 i1, ed p2 q2 i2] w fun e w' => e = .returned (ed 0 0 ⟨#[]⟩) ∧ Below w.heap.size w w' := by
  have C0 : Hid _ := fun W : World => apply_big s p1 q1 i1 W hs hi hok
  clear hs hi hok
  go_enter Try.func6, Try.ntmps6
  go_wp2_with fail
  refine (C0.out _).mono ?_
  rintro e' w2 ⟨rfl, hb⟩
  obtain ⟨h1, h2, h3, h4⟩ := box3 hb
  have H4 : Hid _ := h4
  obtain ⟨r0, r1, r2, rf⟩ := h3
  clear hb C0 h1 h2 h4
  go_wp2_with fail
  (try simp only [Exit.inBlock, Exit.then])
  refine bodyPost_ret (v := ed 0 0 ⟨#[]⟩) ?_ rfl ⟨rfl, ?_⟩
  · rw [results_cell1 rfl]; go_simp
  · exact bel_set3 H4.out (by omega) _ _ _

set_option maxRecDepth 100000 in
set_option maxHeartbeats 1000000 in
theorem cover_bad2 (s : ByteArray) (p1 q1 p2 q2 : Int) (i1 i2 : ByteArray) (w : World) (hi : i2.size ≤ 140737488355328) (hok : okE s p1 q1 i1) (hok2 : ¬ okE (spl s (ca s.size p1) (ca s.size p1 + cd s.size p1 q1) i1) p2 q2 i2) :
    Calls Try.prog 6 #[.string s, ed p1 q1 i1, ed p2 q2 i2] w fun e w' => e = .returned (ed 0 0 ⟨#[]⟩) ∧ Below w.heap.size w w' := by
  have C0 : Hid _ := fun W : World => apply_any s p1 q1 i1 W hok
  have hm : (spl s (ca s.size p1) (ca s.size p1 + cd s.size p1 q1) i1).size ≤ 1048576 := by
    rw [spl_size s _ _ _ (by omega) (cd_le _ _ _)]
    have := hok.2
    omega
  obtain ⟨m, hm'⟩ : ∃ m, m = spl s (ca s.size p1) (ca s.size p1 + cd s.size p1 q1) i1 := ⟨_, rfl⟩
  rw [← hm'] at C0 hok2 hm
  have C1 : Hid _ := fun W : World => apply_big m p2 q2 i2 W (by omega) hi hok2
  clear hi hok hok2 hm hm'
  go_enter Try.func6, Try.ntmps6
  go_wp2_with fail
  refine (C0.out _).mono ?_
  rintro e' w2 ⟨rfl, hb⟩
  obtain ⟨h1, h2, h3, h4⟩ := box3 hb
  have H3 : Hid _ := h3
  have H4 : Hid _ := h4
  obtain ⟨b0, b1, b2, bf⟩ := h2
  clear hb C0 h1 h3 h4
  go_wp2_with fail
  refine (C1.out _).mono ?_
  rintro e' w3 ⟨rfl, hb⟩
  obtain ⟨r0, r1, r2, rf⟩ := H3.out.up hb
  have H5 : Hid _ := below_trans H4.out hb
  clear hb C1 b0 b1 b2 bf
  go_wp2_with fail
  (try simp only [Exit.inBlock, Exit.then])
  refine bodyPost_ret (v := ed 0 0 ⟨#[]⟩) ?_ rfl ⟨rfl, ?_⟩
  · rw [results_cell1 rfl]; go_simp
  · exact bel_set3 H5.out (by omega) _ _ _

set_option maxRecDepth 100000 in
set_option maxHeartbeats 1000000 in
theorem cover_run (s : ByteArray) (p1 q1 p2 q2 : Int) (i1 i2 m L : ByteArray) (a1 d1 a2 d2 at_ z e : Nat) (w : World)
    (C0 : Hid (∀ W : World, Calls Try.prog 13 #[.string s, ed p1 q1 i1] W fun x W' => x = .returned (.tuple #[.string m, .int .i64 0]) ∧ Below W.heap.size W W'))
    (C1 : Hid (∀ W : World, Calls Try.prog 13 #[.string m, ed p2 q2 i2] W fun x W' => x = .returned (.tuple #[.string L, .int .i64 0]) ∧ Below W.heap.size W W'))
    (CL1 : Hid (∀ W : World, Calls Try.prog 18 #[.int .i64 (s.size : Int), ed p1 q1 i1] W fun x W' => x = .returned (ed a1 d1 i1) ∧ Below W.heap.size W W'))
    (CL2 : Hid (∀ W : World, Calls Try.prog 18 #[.int .i64 (m.size : Int), ed p2 q2 i2] W fun x W' => x = .returned (ed a2 d2 i2) ∧ Below W.heap.size W W'))
    (CT : Hid (∀ W : World, Calls Try.prog 19 #[ed a1 d1 i1, ed a2 d2 i2] W fun x W' => x = .returned (.int .i64 (z : Int)) ∧ Below W.heap.size W W'))
    (CC : Hid (∀ W : World, Calls Try.prog 17 #[.string (L.extract at_ e)] W fun x W' => x = .returned (.string (L.extract at_ e)) ∧ Below W.heap.size W W'))
    (hat : min (a1 : Int) (a2 : Int) = (at_ : Int)) (hz : at_ ≤ z) (hzs : z ≤ s.size) (hs : s.size ≤ 1048576) (he : (L.size : Int) - ((s.size : Int) - (z : Int)) = (e : Int)) (hae : at_ ≤ e) (heL : e ≤ L.size) (hL : L.size ≤ 1048576) :
    Calls Try.prog 6 #[.string s, ed p1 q1 i1, ed p2 q2 i2] w fun x w' => x = .returned (ed at_ ((z : Int) - at_) (L.extract at_ e)) ∧ Below w.heap.size w w' := by
  have HAT : Hid _ := hat
  have HE : Hid _ := he
  clear hat he
  go_enter Try.func6, Try.ntmps6
  go_wp2_with fail
  refine (C0.out _).mono ?_
  rintro e' w2 ⟨rfl, hb⟩
  obtain ⟨h1, h2, h3, h4⟩ := box3 hb
  have H1 : Hid _ := h1
  have H3 : Hid _ := h3
  have H4 : Hid _ := h4
  have H2 : Hid _ := h2
  obtain ⟨b0, b1, b2, bf⟩ := h2
  clear hb C0 h1 h3 h4
  go_wp2_with fail
  refine (C1.out _).mono ?_
  rintro e' w3 ⟨rfl, hb⟩
  have K1 : Hid _ := H1.out.up hb
  have K2 : Hid _ := H2.out.up hb
  have K3 : Hid _ := H3.out.up hb
  have K4 : Hid _ := below_trans H4.out hb
  clear hb C1 b0 b1 b2 bf H1 H2 H3 H4
  go_upto_region 7 with fail
  go_cut [] from 30 (fun wd => Box w wd w.heap.size (.int .i64 (a1 : Int)) (.int .i64 (d1 : Int)) (.string i1) ∧ Box w wd (w.heap.size + 1) (.int .i64 (a2 : Int)) (.int .i64 (d2 : Int)) (.string i2) ∧ Box w wd (w.heap.size + 2) (.int .i64 0) (.int .i64 0) (.string ⟨#[]⟩) ∧ Below w.heap.size w wd)
  case first =>
    clear CT CC HAT HE hz hzs hs hae heL hL
    have fin : Hid (∀ W : World, Below w3.heap.size w3 W → Box w ((((((W.setCell ⟨w.heap.size, 0, none⟩ (.int .i64 (a1 : Int))).setCell ⟨w.heap.size, 1, none⟩ (.int .i64 (d1 : Int))).setCell ⟨w.heap.size, 2, none⟩ (.string i1)).setCell ⟨w.heap.size + 1, 0, none⟩ (.int .i64 (a2 : Int))).setCell ⟨w.heap.size + 1, 1, none⟩ (.int .i64 (d2 : Int))).setCell ⟨w.heap.size + 1, 2, none⟩ (.string i2)) w.heap.size (.int .i64 (a1 : Int)) (.int .i64 (d1 : Int)) (.string i1) ∧ Box w ((((((W.setCell ⟨w.heap.size, 0, none⟩ (.int .i64 (a1 : Int))).setCell ⟨w.heap.size, 1, none⟩ (.int .i64 (d1 : Int))).setCell ⟨w.heap.size, 2, none⟩ (.string i1)).setCell ⟨w.heap.size + 1, 0, none⟩ (.int .i64 (a2 : Int))).setCell ⟨w.heap.size + 1, 1, none⟩ (.int .i64 (d2 : Int))).setCell ⟨w.heap.size + 1, 2, none⟩ (.string i2)) (w.heap.size + 1) (.int .i64 (a2 : Int)) (.int .i64 (d2 : Int)) (.string i2) ∧ Box w ((((((W.setCell ⟨w.heap.size, 0, none⟩ (.int .i64 (a1 : Int))).setCell ⟨w.heap.size, 1, none⟩ (.int .i64 (d1 : Int))).setCell ⟨w.heap.size, 2, none⟩ (.string i1)).setCell ⟨w.heap.size + 1, 0, none⟩ (.int .i64 (a2 : Int))).setCell ⟨w.heap.size + 1, 1, none⟩ (.int .i64 (d2 : Int))).setCell ⟨w.heap.size + 1, 2, none⟩ (.string i2)) (w.heap.size + 2) (.int .i64 0) (.int .i64 0) (.string ⟨#[]⟩) ∧ Below w.heap.size w ((((((W.setCell ⟨w.heap.size, 0, none⟩ (.int .i64 (a1 : Int))).setCell ⟨w.heap.size, 1, none⟩ (.int .i64 (d1 : Int))).setCell ⟨w.heap.size, 2, none⟩ (.string i1)).setCell ⟨w.heap.size + 1, 0, none⟩ (.int .i64 (a2 : Int))).setCell ⟨w.heap.size + 1, 1, none⟩ (.int .i64 (d2 : Int))).setCell ⟨w.heap.size + 1, 2, none⟩ (.string i2))) := fun W hW =>
      ⟨((K1.out.up hW).set _ _ _).oth (by omega) _ _ _, ((K2.out.up hW).oth (by omega) _ _ _).set _ _ _, ((K3.out.up hW).oth (by omega) _ _ _).oth (by omega) _ _ _, bel_set3 (bel_set3 (K4.out.trans (hW.mono K4.out.size)) (by omega) _ _ _) (by omega) _ _ _⟩
    have HB : Hid (∀ W : World, Below w3.heap.size w3 W → Below w.heap.size w W) := fun W hW => K4.out.trans (hW.mono K4.out.size)
    have HAA : Hid _ := K1.out
    have HBB : Hid _ := K2.out
    obtain ⟨a0, a1', a2', af⟩ := K1.out
    obtain ⟨b0, b1, b2, bf⟩ := K2.out
    clear K1 K2 K3 K4
    refine wp_region_noPanic ?_
    refine wp_region_held_drew (S := fun W => Below w.heap.size w W) (by kernel_rfl) (HB.out _ (Below.drew (Below.refl _ _))) (fun hHeld => ?_)
    refine wpAnyH_take (i := 0) (oi := { dst := _, op := _, type := _, pos := _, after := _, guard := _ }) (v := ?_) rfl (by kernel_rfl) (by kernel_rfl) (by kernel_rfl) (fun _ _ _ h => h) (Or.inl ⟨by rfl, ?_⟩) (by assumption) ?_
    rotate_left
    · intro W hSw
      (try dsimp only at hSw)
      go_simp
      (try with_reducible rfl)
    try simp only [Act.put, List.setIfInBounds_toArray, List.set_cons_zero, List.set_cons_succ]
    refine wpAnyH_take (i := 1) (oi := { dst := _, op := _, type := _, pos := _, after := _, guard := _ }) (v := ?_) rfl (by kernel_rfl) (by kernel_rfl) (by kernel_rfl) (fun _ _ _ h => h) (Or.inl ⟨by rfl, ?_⟩) (by assumption) ?_
    rotate_left
    · intro W hSw
      (try dsimp only at hSw)
      go_simp
      (try with_reducible rfl)
    try simp only [Act.put, List.setIfInBounds_toArray, List.set_cons_zero, List.set_cons_succ]
    refine wpAnyH_take (i := 4) (oi := { dst := _, op := _, type := _, pos := _, after := _, guard := _ }) (v := ?_) rfl (by kernel_rfl) (by kernel_rfl) (by kernel_rfl) (fun _ _ _ h => h) (Or.inl ⟨by rfl, ?_⟩) (by assumption) ?_
    rotate_left
    · intro W hSw
      (try dsimp only at hSw)
      go_simp
      (try with_reducible rfl)
    try simp only [Act.put, List.setIfInBounds_toArray, List.set_cons_zero, List.set_cons_succ]
    refine wpAnyH_take (i := 5) (oi := { dst := _, op := _, type := _, pos := _, after := _, guard := _ }) (v := ?_) rfl (by kernel_rfl) (by kernel_rfl) (by kernel_rfl) (fun _ _ _ h => h) (Or.inl ⟨by rfl, ?_⟩) (by assumption) ?_
    rotate_left
    · intro W hSw
      (try dsimp only at hSw)
      go_simp
      (try with_reducible rfl)
    try simp only [Act.put, List.setIfInBounds_toArray, List.set_cons_zero, List.set_cons_succ]
    refine wpAnyH_ready (rs := [2, 6]) (by kernel_rfl) (by simp) ?_
    refine AllReadyH.cons (o := { dst := _, op := _, type := _, pos := _, after := _, guard := _ }) rfl (fun K hK => ?_) (AllReadyH.cons (o := { dst := _, op := _, type := _, pos := _, after := _, guard := _ }) rfl (fun K hK => ?_) (AllReadyH.nil))
    · go_simp
      refine hK.out _ _ ?_ (fun hHeld => ?_)
      · (try dsimp only)
        exact (HB.out _ (Below.drew (Below.refl _ _)))
      clear hK K
      try simp only [Act.put, List.setIfInBounds_toArray, List.set_cons_zero, List.set_cons_succ]
      refine wpAnyH_ready (rs := [3, 6]) (by kernel_rfl) (by simp) ?_
      refine AllReadyH.cons (o := { dst := _, op := _, type := _, pos := _, after := _, guard := _ }) rfl (fun K hK => ?_) (AllReadyH.cons (o := { dst := _, op := _, type := _, pos := _, after := _, guard := _ }) rfl (fun K hK => ?_) (AllReadyH.nil))
      · go_simp
        refine (CL1.out _).mono ?_
        rintro e' w5 ⟨rfl, hb⟩
        have B5 : Hid (Below w3.heap.size w3 w5) := below_trans (Below.drew (Below.refl _ _)) hb
        obtain ⟨b0, b1, b2, bf⟩ := HBB.out.up B5.out
        clear hb
        go_wp2_with fail
        refine hK.out _ _ ?_ (fun hHeld => ?_)
        · (try dsimp only)
          exact (HB.out _ B5.out)
        clear hK K
        try simp only [Act.put, List.setIfInBounds_toArray, List.set_cons_zero, List.set_cons_succ]
        refine wpAnyH_ready (rs := [6]) (by kernel_rfl) (by simp) ?_
        refine AllReadyH.cons (o := { dst := _, op := _, type := _, pos := _, after := _, guard := _ }) rfl (fun K hK => ?_) AllReadyH.nil
        go_simp
        refine hK.out _ _ ?_ (fun hHeld => ?_)
        · (try dsimp only)
          exact (HB.out _ B5.out)
        clear hK K
        try simp only [Act.put, List.setIfInBounds_toArray, List.set_cons_zero, List.set_cons_succ]
        refine wpAnyH_ready (rs := [7]) (by kernel_rfl) (by simp) ?_
        refine AllReadyH.cons (o := { dst := _, op := _, type := _, pos := _, after := _, guard := _ }) rfl (fun K hK => ?_) AllReadyH.nil
        go_simp
        refine (CL2.out _).mono ?_
        rintro e' w6 ⟨rfl, hb⟩
        have B6 : Hid (Below w3.heap.size w3 w6) := below_trans B5.out hb
        clear hb b0 b1 b2 bf
        obtain ⟨a0, a1', a2', af⟩ := HAA.out.up B6.out
        obtain ⟨b0, b1, b2, bf⟩ := HBB.out.up B6.out
        go_wp2_with fail
        refine hK.out _ _ ?_ (fun hHeld => ?_)
        · (try dsimp only)
          exact (HB.out _ B6.out)
        clear hK K
        try simp only [Act.put, List.setIfInBounds_toArray, List.set_cons_zero, List.set_cons_succ]
        refine wpAnyH_ready (rs := [8]) (by kernel_rfl) (by simp) ?_
        refine AllReadyH.cons (o := { dst := _, op := _, type := _, pos := _, after := _, guard := _ }) rfl (fun K hK => ?_) AllReadyH.nil
        go_simp
        refine hK.out _ _ ?_ (fun hHeld => ?_)
        · (try dsimp only)
          exact bel_set3 (HB.out _ B6.out) (by omega) _ _ _
        clear hK K
        try simp only [Act.put, List.setIfInBounds_toArray, List.set_cons_zero, List.set_cons_succ]
        refine wpAnyH_ready (rs := [9]) (by kernel_rfl) (by simp) ?_
        refine AllReadyH.cons (o := { dst := _, op := _, type := _, pos := _, after := _, guard := _ }) rfl (fun K hK => ?_) AllReadyH.nil
        go_simp
        refine hK.out _ _ ?_ (fun hHeld => ?_)
        · (try dsimp only)
          exact bel_set3 (bel_set3 (HB.out _ B6.out) (by omega) _ _ _) (by omega) _ _ _
        clear hK K
        try simp only [Act.put, List.setIfInBounds_toArray, List.set_cons_zero, List.set_cons_succ]
        refine wpAnyH_done (by kernel_rfl) ?_ _
        refine NoPanic.normal ?_
        go_wp2_with fail
        go_meet
        exact fin.out _ B6.out
      · go_simp
        refine hK.out _ _ ?_ (fun hHeld => ?_)
        · (try dsimp only)
          exact (HB.out _ (Below.drew (Below.refl _ _)))
        clear hK K
        try simp only [Act.put, List.setIfInBounds_toArray, List.set_cons_zero, List.set_cons_succ]
        refine wpAnyH_ready (rs := [3]) (by kernel_rfl) (by simp) ?_
        refine AllReadyH.cons (o := { dst := _, op := _, type := _, pos := _, after := _, guard := _ }) rfl (fun K hK => ?_) AllReadyH.nil
        go_simp
        refine (CL1.out _).mono ?_
        rintro e' w5 ⟨rfl, hb⟩
        have B5 : Hid (Below w3.heap.size w3 w5) := below_trans (Below.drew (Below.refl _ _)) hb
        obtain ⟨b0, b1, b2, bf⟩ := HBB.out.up B5.out
        clear hb
        go_wp2_with fail
        refine hK.out _ _ ?_ (fun hHeld => ?_)
        · (try dsimp only)
          exact (HB.out _ B5.out)
        clear hK K
        try simp only [Act.put, List.setIfInBounds_toArray, List.set_cons_zero, List.set_cons_succ]
        refine wpAnyH_ready (rs := [7]) (by kernel_rfl) (by simp) ?_
        refine AllReadyH.cons (o := { dst := _, op := _, type := _, pos := _, after := _, guard := _ }) rfl (fun K hK => ?_) AllReadyH.nil
        go_simp
        refine (CL2.out _).mono ?_
        rintro e' w6 ⟨rfl, hb⟩
        have B6 : Hid (Below w3.heap.size w3 w6) := below_trans B5.out hb
        clear hb b0 b1 b2 bf
        obtain ⟨a0, a1', a2', af⟩ := HAA.out.up B6.out
        obtain ⟨b0, b1, b2, bf⟩ := HBB.out.up B6.out
        go_wp2_with fail
        refine hK.out _ _ ?_ (fun hHeld => ?_)
        · (try dsimp only)
          exact (HB.out _ B6.out)
        clear hK K
        try simp only [Act.put, List.setIfInBounds_toArray, List.set_cons_zero, List.set_cons_succ]
        refine wpAnyH_ready (rs := [8]) (by kernel_rfl) (by simp) ?_
        refine AllReadyH.cons (o := { dst := _, op := _, type := _, pos := _, after := _, guard := _ }) rfl (fun K hK => ?_) AllReadyH.nil
        go_simp
        refine hK.out _ _ ?_ (fun hHeld => ?_)
        · (try dsimp only)
          exact bel_set3 (HB.out _ B6.out) (by omega) _ _ _
        clear hK K
        try simp only [Act.put, List.setIfInBounds_toArray, List.set_cons_zero, List.set_cons_succ]
        refine wpAnyH_ready (rs := [9]) (by kernel_rfl) (by simp) ?_
        refine AllReadyH.cons (o := { dst := _, op := _, type := _, pos := _, after := _, guard := _ }) rfl (fun K hK => ?_) AllReadyH.nil
        go_simp
        refine hK.out _ _ ?_ (fun hHeld => ?_)
        · (try dsimp only)
          exact bel_set3 (bel_set3 (HB.out _ B6.out) (by omega) _ _ _) (by omega) _ _ _
        clear hK K
        try simp only [Act.put, List.setIfInBounds_toArray, List.set_cons_zero, List.set_cons_succ]
        refine wpAnyH_done (by kernel_rfl) ?_ _
        refine NoPanic.normal ?_
        go_wp2_with fail
        go_meet
        exact fin.out _ B6.out
    · go_simp
      refine hK.out _ _ ?_ (fun hHeld => ?_)
      · (try dsimp only)
        exact (HB.out _ (Below.drew (Below.refl _ _)))
      clear hK K
      try simp only [Act.put, List.setIfInBounds_toArray, List.set_cons_zero, List.set_cons_succ]
      refine wpAnyH_ready (rs := [2]) (by kernel_rfl) (by simp) ?_
      refine AllReadyH.cons (o := { dst := _, op := _, type := _, pos := _, after := _, guard := _ }) rfl (fun K hK => ?_) AllReadyH.nil
      go_simp
      refine hK.out _ _ ?_ (fun hHeld => ?_)
      · (try dsimp only)
        exact (HB.out _ (Below.drew (Below.refl _ _)))
      clear hK K
      try simp only [Act.put, List.setIfInBounds_toArray, List.set_cons_zero, List.set_cons_succ]
      refine wpAnyH_ready (rs := [3]) (by kernel_rfl) (by simp) ?_
      refine AllReadyH.cons (o := { dst := _, op := _, type := _, pos := _, after := _, guard := _ }) rfl (fun K hK => ?_) AllReadyH.nil
      go_simp
      refine (CL1.out _).mono ?_
      rintro e' w5 ⟨rfl, hb⟩
      have B5 : Hid (Below w3.heap.size w3 w5) := below_trans (Below.drew (Below.refl _ _)) hb
      obtain ⟨b0, b1, b2, bf⟩ := HBB.out.up B5.out
      clear hb
      go_wp2_with fail
      refine hK.out _ _ ?_ (fun hHeld => ?_)
      · (try dsimp only)
        exact (HB.out _ B5.out)
      clear hK K
      try simp only [Act.put, List.setIfInBounds_toArray, List.set_cons_zero, List.set_cons_succ]
      refine wpAnyH_ready (rs := [7]) (by kernel_rfl) (by simp) ?_
      refine AllReadyH.cons (o := { dst := _, op := _, type := _, pos := _, after := _, guard := _ }) rfl (fun K hK => ?_) AllReadyH.nil
      go_simp
      refine (CL2.out _).mono ?_
      rintro e' w6 ⟨rfl, hb⟩
      have B6 : Hid (Below w3.heap.size w3 w6) := below_trans B5.out hb
      clear hb b0 b1 b2 bf
      obtain ⟨a0, a1', a2', af⟩ := HAA.out.up B6.out
      obtain ⟨b0, b1, b2, bf⟩ := HBB.out.up B6.out
      go_wp2_with fail
      refine hK.out _ _ ?_ (fun hHeld => ?_)
      · (try dsimp only)
        exact (HB.out _ B6.out)
      clear hK K
      try simp only [Act.put, List.setIfInBounds_toArray, List.set_cons_zero, List.set_cons_succ]
      refine wpAnyH_ready (rs := [8]) (by kernel_rfl) (by simp) ?_
      refine AllReadyH.cons (o := { dst := _, op := _, type := _, pos := _, after := _, guard := _ }) rfl (fun K hK => ?_) AllReadyH.nil
      go_simp
      refine hK.out _ _ ?_ (fun hHeld => ?_)
      · (try dsimp only)
        exact bel_set3 (HB.out _ B6.out) (by omega) _ _ _
      clear hK K
      try simp only [Act.put, List.setIfInBounds_toArray, List.set_cons_zero, List.set_cons_succ]
      refine wpAnyH_ready (rs := [9]) (by kernel_rfl) (by simp) ?_
      refine AllReadyH.cons (o := { dst := _, op := _, type := _, pos := _, after := _, guard := _ }) rfl (fun K hK => ?_) AllReadyH.nil
      go_simp
      refine hK.out _ _ ?_ (fun hHeld => ?_)
      · (try dsimp only)
        exact bel_set3 (bel_set3 (HB.out _ B6.out) (by omega) _ _ _) (by omega) _ _ _
      clear hK K
      try simp only [Act.put, List.setIfInBounds_toArray, List.set_cons_zero, List.set_cons_succ]
      refine wpAnyH_done (by kernel_rfl) ?_ _
      refine NoPanic.normal ?_
      go_wp2_with fail
      go_meet
      exact fin.out _ B6.out
  case rest =>
    obtain ⟨ba, bb, br, hB⟩ := hcut
    clear CL1 CL2 K1 K2 K3 K4
    have BR : Hid _ := br
    have B0 : Hid _ := hB
    have HP : Hid (∀ W, Below wc.heap.size wc W → W.cell? ⟨w.heap.size, 0, none⟩ = some (.int .i64 (a1 : Int)) ∧ W.cell? ⟨w.heap.size, 1, none⟩ = some (.int .i64 (d1 : Int)) ∧ W.cell? ⟨w.heap.size, 2, none⟩ = some (.string i1) ∧ W.cell? ⟨w.heap.size + 1, 0, none⟩ = some (.int .i64 (a2 : Int)) ∧ W.cell? ⟨w.heap.size + 1, 1, none⟩ = some (.int .i64 (d2 : Int)) ∧ W.cell? ⟨w.heap.size + 1, 2, none⟩ = some (.string i2)) := fun W hW => ⟨below_cell hW ba.c0, below_cell hW ba.c1, below_cell hW ba.c2, below_cell hW bb.c0, below_cell hW bb.c1, below_cell hW bb.c2⟩
    have hat := HAT.out
    clear ba bb br hB HAT
    go_upto_region 8 with fail
    refine wp_region_noPanic ?_
    refine wp_region_held_drew (S := fun W => W.cell? ⟨w.heap.size, 0, none⟩ = some (.int .i64 (a1 : Int)) ∧ W.cell? ⟨w.heap.size, 1, none⟩ = some (.int .i64 (d1 : Int)) ∧ W.cell? ⟨w.heap.size, 2, none⟩ = some (.string i1) ∧ W.cell? ⟨w.heap.size + 1, 0, none⟩ = some (.int .i64 (a2 : Int)) ∧ W.cell? ⟨w.heap.size + 1, 1, none⟩ = some (.int .i64 (d2 : Int)) ∧ W.cell? ⟨w.heap.size + 1, 2, none⟩ = some (.string i2)) (by kernel_rfl) (HP.out _ (Below.drew (Below.refl _ _))) (fun hHeld => ?_)
    refine wpAnyH_take (i := 0) (oi := { dst := _, op := _, type := _, pos := _, after := _, guard := _ }) (v := ?_) rfl (by kernel_rfl) (by kernel_rfl) (by kernel_rfl) (fun _ _ _ h => h) (Or.inl ⟨by rfl, ?_⟩) (by assumption) ?_
    rotate_left
    · intro W hSw
      (try dsimp only at hSw)
      go_simp
      (try with_reducible rfl)
    try simp only [Act.put, List.setIfInBounds_toArray, List.set_cons_zero, List.set_cons_succ]
    refine wpAnyH_take (i := 1) (oi := { dst := _, op := _, type := _, pos := _, after := _, guard := _ }) (v := ?_) rfl (by kernel_rfl) (by kernel_rfl) (by kernel_rfl) (fun _ _ _ h => h) (Or.inl ⟨by rfl, ?_⟩) (by assumption) ?_
    rotate_left
    · intro W hSw
      (try dsimp only at hSw)
      go_simp
      (try with_reducible rfl)
    try simp only [Act.put, List.setIfInBounds_toArray, List.set_cons_zero, List.set_cons_succ]
    refine wpAnyH_take (i := 2) (oi := { dst := _, op := _, type := _, pos := _, after := _, guard := _ }) (v := ?_) rfl (by kernel_rfl) (by kernel_rfl) (by kernel_rfl) (fun _ _ _ h => h) (Or.inl ⟨by rfl, ?_⟩) (by assumption) ?_
    rotate_left
    · intro W hSw
      (try dsimp only at hSw)
      go_simp
      (try with_reducible rfl)
    try simp only [Act.put, List.setIfInBounds_toArray, List.set_cons_zero, List.set_cons_succ]
    refine wpAnyH_take (i := 3) (oi := { dst := _, op := _, type := _, pos := _, after := _, guard := _ }) (v := ?_) rfl (by kernel_rfl) (by kernel_rfl) (by kernel_rfl) (fun _ _ _ h => h) (Or.inl ⟨by rfl, ?_⟩) (by assumption) ?_
    rotate_left
    · intro W hSw
      (try dsimp only at hSw)
      go_simp
      (try with_reducible rfl)
    try simp only [Act.put, List.setIfInBounds_toArray, List.set_cons_zero, List.set_cons_succ]
    refine wpAnyH_take (i := 4) (oi := { dst := _, op := _, type := _, pos := _, after := _, guard := _ }) (v := ?_) rfl (by kernel_rfl) (by kernel_rfl) (by kernel_rfl) (fun _ _ _ h => h) (Or.inl ⟨by rfl, ?_⟩) (by assumption) ?_
    rotate_left
    · intro W hSw
      (try dsimp only at hSw)
      go_simp
      (try with_reducible rfl)
    try simp only [Act.put, List.setIfInBounds_toArray, List.set_cons_zero, List.set_cons_succ]
    refine wpAnyH_take (i := 5) (oi := { dst := _, op := _, type := _, pos := _, after := _, guard := _ }) (v := ?_) rfl (by kernel_rfl) (by kernel_rfl) (by kernel_rfl) (fun _ _ _ h => h) (Or.inl ⟨by rfl, ?_⟩) (by assumption) ?_
    rotate_left
    · intro W hSw
      (try dsimp only at hSw)
      go_simp
      (try with_reducible rfl)
    try simp only [Act.put, List.setIfInBounds_toArray, List.set_cons_zero, List.set_cons_succ]
    refine wpAnyH_take (i := 6) (oi := { dst := _, op := _, type := _, pos := _, after := _, guard := _ }) (v := ?_) rfl (by kernel_rfl) (by kernel_rfl) (by kernel_rfl) (fun _ _ _ h => h) (Or.inl ⟨by rfl, ?_⟩) (by assumption) ?_
    rotate_left
    · intro W hSw
      (try dsimp only at hSw)
      go_simp
      (try with_reducible rfl)
    try simp only [Act.put, List.setIfInBounds_toArray, List.set_cons_zero, List.set_cons_succ]
    refine wpAnyH_ready (rs := [7]) (by kernel_rfl) (by simp) ?_
    refine AllReadyH.cons (o := { dst := _, op := _, type := _, pos := _, after := _, guard := _ }) rfl (fun K hK => ?_) AllReadyH.nil
    go_simp
    refine (CT.out _).mono ?_
    rintro e' w5 ⟨rfl, hb⟩
    have B5 : Hid (Below wc.heap.size wc w5) := below_trans (Below.drew (Below.refl _ _)) hb
    clear hb
    go_wp2_with fail
    refine hK.out _ _ ?_ (fun hHeld => ?_)
    · (try dsimp only)
      exact HP.out _ B5.out
    clear hK K
    try simp only [Act.put, List.setIfInBounds_toArray, List.set_cons_zero, List.set_cons_succ]
    refine wpAnyH_take (i := 8) (oi := { dst := _, op := _, type := _, pos := _, after := _, guard := _ }) (v := ?_) rfl (by kernel_rfl) (by kernel_rfl) (by kernel_rfl) (fun _ _ _ h => h) (Or.inl ⟨by rfl, ?_⟩) (by assumption) ?_
    rotate_left
    · intro W hSw
      (try dsimp only at hSw)
      go_simp
      (try with_reducible rfl)
    try simp only [Act.put, List.setIfInBounds_toArray, List.set_cons_zero, List.set_cons_succ]
    refine wpAnyH_take (i := 9) (oi := { dst := _, op := _, type := _, pos := _, after := _, guard := _ }) (v := ?_) rfl (by kernel_rfl) (by kernel_rfl) (by kernel_rfl) (fun _ _ _ h => h) (Or.inl ⟨by rfl, ?_⟩) (by assumption) ?_
    rotate_left
    · intro W hSw
      (try dsimp only at hSw)
      go_simp
      (try with_reducible rfl)
    try simp only [Act.put, List.setIfInBounds_toArray, List.set_cons_zero, List.set_cons_succ]
    refine wpAnyH_done (by kernel_rfl) ?_ _
    refine NoPanic.normal ?_
    clear hHeld HP CT hat
    have he := HE.out
    go_wp2_with fail
    refine (CC.out _).mono ?_
    rintro e' w6 ⟨rfl, hb⟩
    obtain ⟨r0, r1, r2, rf⟩ := (BR.out.up B5.out).up hb
    have B6 : Hid (Below w.heap.size w w6) := below_trans (below_trans B0.out B5.out) hb
    clear hb
    go_wp2_with fail
    (try simp only [Exit.inBlock, Exit.then])
    refine bodyPost_ret (v := ed at_ ((z : Int) - at_) (L.extract at_ e)) ?_ rfl ⟨rfl, ?_⟩
    · rw [results_cell1 rfl]; go_simp
    · exact bel_set3 B6.out (by omega) _ _ _

/-- the text behind an edit -/
def beh (s : ByteArray) (p q : Int) (ins : ByteArray) : ByteArray := spl s (ca s.size p) (ca s.size p + cd s.size p q) ins
theorem beh_size (s : ByteArray) (p q : Int) (ins : ByteArray) : (beh s p q ins).size = s.size - cd s.size p q + ins.size := by
  unfold beh
  rw [spl_size s _ _ _ (by omega) (cd_le _ _ _)]
  omega

theorem cover_any (s : ByteArray) (p1 q1 p2 q2 : Int) (i1 i2 m L : ByteArray) (a1 d1 a2 d2 z : Nat) (w : World) (hm : beh s p1 q1 i1 = m) (hL : beh m p2 q2 i2 = L) (h1 : okE s p1 q1 i1) (h2 : okE m p2 q2 i2)
    (ha1 : ca s.size p1 = a1) (hd1 : cd s.size p1 q1 = d1) (ha2 : ca m.size p2 = a2) (hd2 : cd m.size p2 q2 = d2) (hz : cvz a1 d1 i1.size a2 d2 = z) :
    min a1 a2 ≤ z ∧ z ≤ s.size ∧ min a1 a2 + (s.size - z) ≤ L.size ∧ Calls Try.prog 6 #[.string s, ed p1 q1 i1, ed p2 q2 i2] w fun x w' => x = .returned (ed (min a1 a2 : Nat) ((z : Int) - (min a1 a2 : Nat)) (L.extract (min a1 a2) (L.size - (s.size - z)))) ∧ Below w.heap.size w w' := by
  have c1 := cd_le s.size p1 q1
  have c2 := cd_le m.size p2 q2
  have s1 := beh_size s p1 q1 i1
  have s2 := beh_size m p2 q2 i2
  have o1 := h1.1
  have o2 := h1.2
  have o3 := h2.1
  have o4 := h2.2
  rw [hm] at s1
  rw [hL] at s2
  rw [ha1, hd1] at c1
  rw [ha2, hd2] at c2
  rw [hd1] at s1 o2
  rw [hd2] at s2 o4
  have hzz : min a1 a2 ≤ z ∧ z ≤ s.size ∧ min a1 a2 + (s.size - z) ≤ L.size := by
    rw [← hz]
    unfold cvz
    split <;> omega
  refine ⟨hzz.1, hzz.2.1, hzz.2.2, ?_⟩
  refine cover_run s p1 q1 p2 q2 i1 i2 m L a1 d1 a2 d2 (min a1 a2) z (L.size - (s.size - z)) w ?_ ?_ ?_ ?_ ?_ ?_ (by omega) hzz.1 hzz.2.1 o1 (by omega) (by omega) (by omega) (by omega)
  · intro W
    have := apply_any s p1 q1 i1 W h1
    unfold beh at hm
    rw [hm] at this
    exact this
  · intro W
    have := apply_any m p2 q2 i2 W h2
    unfold beh at hL
    rw [hL] at this
    exact this
  · intro W
    have := clamped_any s.size p1 q1 i1 W (by omega)
    rw [ha1, hd1] at this
    exact this
  · intro W
    have := clamped_any m.size p2 q2 i2 W (by omega)
    rw [ha2, hd2] at this
    exact this
  · intro W
    have := touched_any a1 d1 a2 d2 i1 i2 W (by omega) (by omega) (by omega)
    rw [hz] at this
    exact this
  · intro W
    exact clone_any _ W (by rw [ext_size _ _ _ (by omega) (by omega)]; omega)

end Go.Proofs.Ytjpmmihcnfedgab
