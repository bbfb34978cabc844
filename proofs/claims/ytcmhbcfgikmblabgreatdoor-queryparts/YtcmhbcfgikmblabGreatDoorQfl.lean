import Derived.Test.YtcmhbcfgikmblabGreatDoorQfk
import Derived.Laws.EntriesVeiled
namespace Go.Proofs.YtcmhbcfgikmblabGreatDoor.Qy
open Go.RowKit Go.Maps

theorem part_at {W : World} {sb f : Nat} {P : List Pn} {cs : List Cd} {T : List Tr.Nd} {s : ByteArray} {vp vr vk vt ve : Value} (h : Sr W sb f P cs T s vp vr vk vt ve) (p : Nat) (hp : p < P.length) : ∃ g o cap x, vr = .slice (some ⟨g, o, none⟩) P.length cap ∧ g ≠ f ∧ W.cell? ⟨g, o + p, none⟩ = some x ∧ RwN f W x (Tr.kA (pks P) p) (iC (Tr.kl (pks P) p (Tr.kA (pks P) p))) := by
  obtain ⟨vs, h1, h2, h3⟩ := h.hr
  obtain ⟨g, o, cap, e, hn, hc⟩ := h2.place (by omega)
  have hx : vs[p]? = some (vs[p]'(by omega)) := List.getElem?_eq_getElem _
  exact ⟨g, o, cap, _, e, hn, hc p _ hx, h3 p _ hx⟩
set_option maxRecDepth 100000 in
set_option maxHeartbeats 8000000 in
theorem kidsFit_any {P : List Pn} {cs : List Cd} {T : List Tr.Nd} {s : ByteArray} {sb f : Nat} {vp vr vk vt ve : Value} {n : Nat} (hP : Tr.Fo (pks P)) (hT : Tr.Fo (Tr.kds T)) (hz : Tr.Sm T) (hF : FC P cs T s sb f vp vr vk vt ve n) {w : World} (hS : Sr w sb f P cs T s vp vr vk vt ve) {F : List Int} (hd : Fd w f F) (hl : F.length = P.length) (p v : Nat) (hp : p < P.length) (hv : v < T.length) (hn : Tr.eA (Tr.kds T) v - v ≤ n + 1) :
    Calls Tryz.prog 39 #[.pointer (some ⟨sb, 0, none⟩), .int .i64 (p : Int), .int .i64 (v : Int)] w fun e w' => ∃ F', e = .returned (.bool (gK P T (Tr.eA (Tr.kds T) v) (kF (pks P) p 0) (v + 1)).isSome) ∧ Fs f w w' ∧ Fd w' f F' ∧ Kr P T (Tr.eA (Tr.kds T) v) p 0 (v + 1) F F' := by
  have HS : Hid (Sr w sb f P cs T s vp vr vk vt ve) := hS
  have HFD : Hid (Fd w f F ∧ F.length = P.length) := ⟨hd, hl⟩
  have HEL : Hid (v < Tr.eA (Tr.kds T) v ∧ Tr.eA (Tr.kds T) v - v ≤ n + 1) := ⟨(hT.elt v (by rw [Tr.kds_len]; exact hv)).1, hn⟩
  have HWI : Hid (Wi (Tr.kds T) (Tr.eA (Tr.kds T) v) (v + 1)) := Wi.first v (by rw [Tr.kds_len]; exact hv)
  have HGO : Hid (∀ (lb nb eb xb gb : Nat) (W : World) (lv : Value), w.heap.size ≤ lb → w.heap.size ≤ nb → Fs f w W → Fd W f F → Bx W f lb nb eb xb gb sb lv (v + 1) (Tr.eA (Tr.kds T) v) → RwN f w lv (Tr.kA (pks P) p) (iC (Tr.kl (pks P) p (Tr.kA (pks P) p))) → Calls Tryz.prog 54 #[.pointer (some ⟨lb, 0, none⟩), .pointer (some ⟨nb, 0, none⟩), .pointer (some ⟨eb, 0, none⟩), .pointer (some ⟨xb, 0, none⟩), .pointer (some ⟨gb, 0, none⟩)] W fun e' w' => ∃ F', e' = .returned (.bool (gK P T (Tr.eA (Tr.kds T) v) (kF (pks P) p 0) (v + 1)).isSome) ∧ Fs f w w' ∧ Fd w' f F' ∧ Kr P T (Tr.eA (Tr.kds T) v) p 0 (v + 1) F F') := fun lb nb eb xb gb W lv h1 h2 h3 h4 h5 h6 => goOn_any hP hT hF hS hp h1 h2 _ W F 0 (v + 1) lv h3 h4 hl h5 (by rw [Nat.sub_zero, List.drop_zero]; exact h6) (Nat.zero_le _) HWI.out (Nat.lt_succ_self _) (by have := HEL.out; omega)
  obtain ⟨rg, ro, rc, x, hvr, hrg, hrc, hrx⟩ := part_at hS p hp
  obtain ⟨eg, eo, ec, hve, heg, hec⟩ := end_cell hS.he v hv
  have s1 := rcell hS.blk 1 _ rfl
  have s4 := rcell hS.blk 4 _ rfl
  rw [hvr] at s1
  rw [hve] at s4
  obtain ⟨E, hE⟩ : ∃ E, Tr.eA (Tr.kds T) v = E := ⟨_, rfl⟩
  rw [hE] at hec HGO ⊢
  obtain ⟨RB, hRB⟩ : ∃ RB, (gK P T E (kF (pks P) p 0) (v + 1)).isSome = RB := ⟨_, rfl⟩
  rw [hRB] at HGO ⊢
  obtain ⟨V1, hV1⟩ : ∃ V1, v + 1 = V1 := ⟨_, rfl⟩
  rw [hV1] at HGO ⊢
  obtain ⟨pl, hpl⟩ : ∃ pl, P.length = pl := ⟨_, rfl⟩
  obtain ⟨tl, htl⟩ : ∃ tl, T.length = tl := ⟨_, rfl⟩
  rw [hpl] at s1
  rw [htl] at s4
  have HRX : Hid (RwN f w x (Tr.kA (pks P) p) (iC (Tr.kl (pks P) p (Tr.kA (pks P) p)))) := hrx
  obtain ⟨xa, xc, hxv⟩ := hrx.form
  obtain ⟨kk, hkk⟩ : ∃ kk, Tr.kA (pks P) p = kk := ⟨_, rfl⟩
  rw [hkk] at hxv HRX HGO
  subst hxv
  have d1 : (p : Int) < (pl : Int) := by omega
  have d2 : p < pl := by omega
  have d3 : (v : Int) < (tl : Int) := by omega
  have d4 : v < tl := by omega
  have d5 : (0 : Int) ≤ (v : Int) := by omega
  have hwv : IntKind.i64.wrap ((v : Int) + 1) = (V1 : Int) := by
    have h9 := hz
    unfold Tr.Sm at h9
    rw [w64n v (by omega), ← hV1]
  have HTV : Hid (IntKind.i64.wrap ((v : Int) + 1) = (V1 : Int)) := hwv
  obtain ⟨xb, hxb⟩ : ∃ xb, w.heap.size = xb := ⟨_, rfl⟩
  obtain ⟨W0, hW0⟩ : ∃ W0, W0 = w.alloc (.cells #[.pointer (some ⟨sb, 0, none⟩)] 58) := ⟨_, rfl⟩
  have HB0 : Hid (Below w.heap.size w W0) := by rw [hW0]; exact bel_up _ _
  have hx0 : W0.heap[xb]? = some (.cells #[.pointer (some ⟨sb, 0, none⟩)] 58 (0, 0)) := by rw [hW0, ← hxb]; exact heap_new w _
  have HX0 : Hid (W0.heap[xb]? = some (.cells #[.pointer (some ⟨sb, 0, none⟩)] 58 (0, 0))) := hx0
  have HXB : Hid (w.heap.size = xb ∧ W0.heap.size = xb + 1) := ⟨hxb, by rw [hW0, ← hxb]; simp⟩
  have x0 := rcell hx0 0 _ rfl
  have t1 := below_cell HB0.out s1
  have t2 := below_cell HB0.out hrc
  have HT4 : Hid (∀ W, Below w.heap.size w W → W.cell? ⟨sb, 4, none⟩ = some (.slice (some ⟨eg, eo, none⟩) tl ec) ∧ W.cell? ⟨eg, eo + v, none⟩ = some (.int .i64 (E : Int))) := fun W hW => ⟨below_cell hW s4, below_cell hW hec⟩
  clear hP hT hz hF hS hd hl hp hv hn hvr hrg hrc hrx hve heg hec s1 s4 hE hRB hV1 hpl htl hkk hx0
  go_enter Tryz.func39, Tryz.ntmps39
  go_upto_region 1 with fail
  first | rw [← hW0, hxb] | rw [← hW0]
  clear hW0 hxb
  obtain ⟨W1, hW1⟩ : ∃ W1, W1 = W0.alloc (.cells #[.slice xa kk xc] 34) := ⟨_, rfl⟩
  go_upto_region 2 with fail
  rw [← hW1]
  obtain ⟨lb, hlb⟩ : ∃ lb, W0.heap.size = lb := ⟨_, rfl⟩
  have hl1 : W1.heap[lb]? = some (.cells #[.slice xa kk xc] 34 (0, 0)) := by rw [hW1, ← hlb]; exact heap_new W0 _
  have HL1 : Hid (W1.heap[lb]? = some (.cells #[.slice xa kk xc] 34 (0, 0))) := hl1
  have HBL : Hid (Below W0.heap.size W0 W1) := by rw [hW1]; exact bel_up _ _
  have HLB : Hid (W0.heap.size = lb ∧ W1.heap.size = lb + 1) := ⟨hlb, by rw [hW1, ← hlb]; simp⟩
  have HB1 : Hid (Below w.heap.size w W1) := below_trans HB0.out HBL.out
  have HX1 : Hid (W1.heap[xb]? = some (.cells #[.pointer (some ⟨sb, 0, none⟩)] 58 (0, 0))) := (HBL.out.block _ (lt_of_heap HX0.out)).trans HX0.out
  try rw [hlb]
  have HRD : Hid (∀ W, Below W1.heap.size W1 W → W.cell? ⟨xb, 0, none⟩ = some (.pointer (some ⟨sb, 0, none⟩)) ∧ W.cell? ⟨sb, 4, none⟩ = some (.slice (some ⟨eg, eo, none⟩) tl ec) ∧ W.cell? ⟨eg, eo + v, none⟩ = some (.int .i64 (E : Int)) ∧ True ∧ True) := fun W hW => ⟨below_cell hW (rcell HX1.out 0 _ rfl), (HT4.out W (below_trans HB1.out hW)).1, (HT4.out W (below_trans HB1.out hW)).2, trivial, trivial⟩
  clear hW1 hl1 hlb x0 t1 t2
  go_cut [8, 9] from 18 to 26 (fun v8 v9 wd => ∃ nb eb : Nat, v8 = .pointer (some ⟨nb, 0, none⟩) ∧ v9 = .pointer (some ⟨eb, 0, none⟩) ∧ Hid (wd.heap[nb]? = some (.cells #[.int .i64 (V1 : Int)] 3 (0, 0)) ∧ wd.heap[eb]? = some (.cells #[.int .i64 (E : Int)] 3 (0, 0))) ∧ Hid (W1.heap.size ≤ nb ∧ W1.heap.size ≤ eb ∧ nb ≠ eb) ∧ Hid (Below W1.heap.size W1 wd))
  case first =>
    refine wp_region_noPanic ?_
    refine wp_region_held_drew (S := fun W => Below W1.heap.size W1 W) (by kernel_rfl) (Below.drew (Below.refl _ _)) (fun hHeld => ?_)
    refine wpAnyH_take (i := 0) (oi := { dst := _, op := _, type := _, pos := _, after := _, guard := _ }) (v := ?_) rfl (by kernel_rfl) (by kernel_rfl) (by kernel_rfl) (fun _ _ _ h => h) (Or.inl ⟨by rfl, ?_⟩) (by assumption) ?_
    rotate_left
    · intro W hSw
      (try dsimp only at hSw)
      go_simp
      (try with_reducible rfl)
    try simp only [Act.put, List.setIfInBounds_toArray, List.set_cons_zero, List.set_cons_succ]
    refine wpAnyH_take (i := 1) (oi := { dst := _, op := _, type := _, pos := _, after := _, guard := _ }) (v := ?_) rfl (by kernel_rfl) (by kernel_rfl) (by kernel_rfl) (fun _ _ _ h => h) (Or.inl ⟨by rfl, ?_⟩) (by assumption) ?_
    rotate_left
    · intro W hSw
      (try dsimp only at hSw)
      go_simp
      (try with_reducible rfl)
    try simp only [Act.put, List.setIfInBounds_toArray, List.set_cons_zero, List.set_cons_succ]
    refine wpAnyH_take (i := 2) (oi := { dst := _, op := _, type := _, pos := _, after := _, guard := _ }) (v := ?_) rfl (by kernel_rfl) (by kernel_rfl) (by kernel_rfl) (fun _ _ _ h => h) (Or.inl ⟨by rfl, ?_⟩) (by assumption) ?_
    rotate_left
    · intro W hSw
      (try dsimp only at hSw)
      obtain ⟨k0, k1, k2, k3, k4⟩ := HRD.out W hSw
      go_simp
      (try with_reducible rfl)
    try simp only [Act.put, List.setIfInBounds_toArray, List.set_cons_zero, List.set_cons_succ]
    refine wpAnyH_take (i := 3) (oi := { dst := _, op := _, type := _, pos := _, after := _, guard := _ }) (v := ?_) rfl (by kernel_rfl) (by kernel_rfl) (by kernel_rfl) (fun _ _ _ h => h) (Or.inl ⟨by rfl, ?_⟩) (by assumption) ?_
    rotate_left
    · intro W hSw
      (try dsimp only at hSw)
      go_simp
      (try with_reducible rfl)
    try simp only [Act.put, List.setIfInBounds_toArray, List.set_cons_zero, List.set_cons_succ]
    refine wpAnyH_take (i := 4) (oi := { dst := _, op := _, type := _, pos := _, after := _, guard := _ }) (v := ?_) rfl (by kernel_rfl) (by kernel_rfl) (by kernel_rfl) (fun _ _ _ h => h) (Or.inl ⟨by rfl, ?_⟩) (by assumption) ?_
    rotate_left
    · intro W hSw
      (try dsimp only at hSw)
      go_simp
      (try with_reducible rfl)
    try simp only [Act.put, List.setIfInBounds_toArray, List.set_cons_zero, List.set_cons_succ]
    refine wpAnyH_take (i := 5) (oi := { dst := _, op := _, type := _, pos := _, after := _, guard := _ }) (v := ?_) rfl (by kernel_rfl) (by kernel_rfl) (by kernel_rfl) (fun _ _ _ h => h) (Or.inl ⟨by rfl, ?_⟩) (by assumption) ?_
    rotate_left
    · intro W hSw
      (try dsimp only at hSw)
      obtain ⟨k0, k1, k2, k3, k4⟩ := HRD.out W hSw
      go_simp
      (try with_reducible rfl)
    try simp only [Act.put, List.setIfInBounds_toArray, List.set_cons_zero, List.set_cons_succ]
    refine wpAnyH_take (i := 6) (oi := { dst := _, op := _, type := _, pos := _, after := _, guard := _ }) (v := ?_) rfl (by kernel_rfl) (by kernel_rfl) (by kernel_rfl) (fun _ _ _ h => h) (Or.inl ⟨by rfl, ?_⟩) (by assumption) ?_
    rotate_left
    · intro W hSw
      (try dsimp only at hSw)
      go_simp
      (try with_reducible rfl)
    try simp only [Act.put, List.setIfInBounds_toArray, List.set_cons_zero, List.set_cons_succ]
    refine wpAnyH_take (i := 7) (oi := { dst := _, op := _, type := _, pos := _, after := _, guard := _ }) (v := ?_) rfl (by kernel_rfl) (by kernel_rfl) (by kernel_rfl) (fun _ _ _ h => h) (Or.inl ⟨by rfl, ?_⟩) (by assumption) ?_
    rotate_left
    · intro W hSw
      (try dsimp only at hSw)
      go_simp
      (try with_reducible rfl)
    try simp only [Act.put, List.setIfInBounds_toArray, List.set_cons_zero, List.set_cons_succ]
    refine wpAnyH_take (i := 8) (oi := { dst := _, op := _, type := _, pos := _, after := _, guard := _ }) (v := ?_) rfl (by kernel_rfl) (by kernel_rfl) (by kernel_rfl) (fun _ _ _ h => h) (Or.inl ⟨by rfl, ?_⟩) (by assumption) ?_
    rotate_left
    · intro W hSw
      (try dsimp only at hSw)
      obtain ⟨k0, k1, k2, k3, k4⟩ := HRD.out W hSw
      go_simp
      (try with_reducible rfl)
    try simp only [Act.put, List.setIfInBounds_toArray, List.set_cons_zero, List.set_cons_succ]
    refine wpAnyH_ready (rs := [9, 10]) (by kernel_rfl) (by simp) ?_
    refine AllReadyH.cons (o := { dst := _, op := _, type := _, pos := _, after := _, guard := _ }) rfl (fun K hK => ?_) (AllReadyH.cons (o := { dst := _, op := _, type := _, pos := _, after := _, guard := _ }) rfl (fun K hK => ?_) AllReadyH.nil)
    · go_simp
      obtain ⟨Y1, hY1⟩ : ∃ Y1, Y1 = (W1.alloc (.cells #[.int .i64 0] 3)).drew := ⟨_, rfl⟩
      have HY1 : Hid (Below W1.heap.size W1 Y1) := by rw [hY1]; exact (bel_up _ _).trans (Below.drew (Below.refl _ _))
      have hy1 : Y1.heap[W1.heap.size]? = some (.cells #[.int .i64 0] 3 (0, 0)) := by rw [hY1]; exact heap_new W1 _
      have hs1 : Y1.heap.size = W1.heap.size + 1 := by rw [hY1]; simp
      obtain ⟨b1, hb1⟩ : ∃ b1, W1.heap.size = b1 := ⟨_, rfl⟩
      first | rw [← hY1, hb1] | rw [← hY1]
      have HB1 : Hid (W1.heap.size = b1) := hb1
      have HS1 : Hid (Y1.heap.size = b1 + 1) := by rw [← hb1]; exact hs1
      rw [hb1] at hy1
      have HYB : Hid (Y1.heap[b1]? = some (.cells #[.int .i64 0] 3 (0, 0))) := hy1
      clear hY1 hy1 hs1 hb1
      refine hK.out _ _ ?_ (fun hHeld => ?_)
      · exact HY1.out
      clear hK K
      try simp only [Act.put, List.setIfInBounds_toArray, List.set_cons_zero, List.set_cons_succ]
      refine wpAnyH_ready (rs := [10]) (by kernel_rfl) (by simp) ?_
      refine AllReadyH.cons (o := { dst := _, op := _, type := _, pos := _, after := _, guard := _ }) rfl (fun K hK => ?_) AllReadyH.nil
      go_simp
      obtain ⟨Y2, hY2⟩ : ∃ Y2, Y2 = Y1.alloc (.cells #[.int .i64 0] 3) := ⟨_, rfl⟩
      have HY2 : Hid (Below Y1.heap.size Y1 Y2) := by rw [hY2]; exact bel_up _ _
      have hy2 : Y2.heap[Y1.heap.size]? = some (.cells #[.int .i64 0] 3 (0, 0)) := by rw [hY2]; exact heap_new Y1 _
      obtain ⟨b2, hb2⟩ : ∃ b2, Y1.heap.size = b2 := ⟨_, rfl⟩
      first | rw [← hY2, hb2] | rw [← hY2]
      have HB2 : Hid (Y1.heap.size = b2) := hb2
      rw [hb2] at hy2
      have hz1 : Y2.heap[b1]? = some (.cells #[.int .i64 0] 3 (0, 0)) := (HY2.out.block _ (lt_of_heap HYB.out)).trans HYB.out
      have HBN : Hid (b1 ≠ b2) := by have h8 := HB2.out; have h9 := HS1.out; show _ ≠ _; omega
      have HYA : Hid (Y2.heap[b1]? = some (.cells #[.int .i64 0] 3 (0, 0)) ∧ Y2.heap[b2]? = some (.cells #[.int .i64 0] 3 (0, 0))) := ⟨hz1, hy2⟩
      have n0 := rcell (show Y2.heap[b1]? = some (.cells #[.int .i64 0] 3 (0, 0)) by first | exact hz1 | exact hy2) 0 _ rfl
      have n1 := Lib.frozen_of_heap (show Y2.heap[b1]? = some (.cells #[.int .i64 0] 3 (0, 0)) by first | exact hz1 | exact hy2) 0
      clear hY2 hy2 hb2 hz1
      refine hK.out _ _ ?_ (fun hHeld => ?_)
      · exact below_trans HY1.out HY2.out
      clear hK K
      try simp only [Act.put, List.setIfInBounds_toArray, List.set_cons_zero, List.set_cons_succ]
      refine wpAnyH_ready (rs := [11]) (by kernel_rfl) (by simp) ?_
      refine AllReadyH.cons (o := { dst := _, op := _, type := _, pos := _, after := _, guard := _ }) rfl (fun K hK => ?_) AllReadyH.nil
      go_simp
      obtain ⟨Y3, hY3⟩ : ∃ Y3, Y3 = Y2.setCell ⟨b1, 0, none⟩ (.int .i64 (V1 : Int)) := ⟨_, rfl⟩
      rw [← hY3]
      have HY3 : Hid (Y3.heap[b1]? = some (.cells #[.int .i64 (V1 : Int)] 3 (0, 0)) ∧ Y3.heap[b2]? = some (.cells #[.int .i64 0] 3 (0, 0))) := by rw [hY3]; exact ⟨blk_set _ HYA.out.1, (heap_far HBN.out.symm).trans HYA.out.2⟩
      have HG3 : Hid (Below W1.heap.size W1 Y3) := by rw [hY3]; exact Below.setCell (below_trans HY1.out HY2.out) (show W1.heap.size ≤ b1 by have h7 := HB1.out; have h8 := HB2.out; have h9 := HS1.out; omega) _
      have n2 := rcell HY3.out.2 0 _ rfl
      have n3 := Lib.frozen_of_heap HY3.out.2 0
      clear hY3 n0 n1
      refine hK.out _ _ ?_ (fun hHeld => ?_)
      · exact HG3.out
      clear hK K
      try simp only [Act.put, List.setIfInBounds_toArray, List.set_cons_zero, List.set_cons_succ]
      refine wpAnyH_ready (rs := [12]) (by kernel_rfl) (by simp) ?_
      refine AllReadyH.cons (o := { dst := _, op := _, type := _, pos := _, after := _, guard := _ }) rfl (fun K hK => ?_) AllReadyH.nil
      go_simp
      obtain ⟨Y4, hY4⟩ : ∃ Y4, Y4 = Y3.setCell ⟨b2, 0, none⟩ (.int .i64 (E : Int)) := ⟨_, rfl⟩
      rw [← hY4]
      have HY4 : Hid (Y4.heap[b1]? = some (.cells #[.int .i64 (V1 : Int)] 3 (0, 0)) ∧ Y4.heap[b2]? = some (.cells #[.int .i64 (E : Int)] 3 (0, 0))) := by rw [hY4]; exact ⟨(heap_far HBN.out).trans HY3.out.1, blk_set _ HY3.out.2⟩
      have HG4 : Hid (Below W1.heap.size W1 Y4) := by rw [hY4]; exact Below.setCell HG3.out (show W1.heap.size ≤ b2 by have h7 := HB1.out; have h8 := HB2.out; have h9 := HS1.out; omega) _
      clear hY4 n2 n3
      refine hK.out _ _ ?_ (fun hHeld => ?_)
      · exact HG4.out
      clear hK K
      try simp only [Act.put, List.setIfInBounds_toArray, List.set_cons_zero, List.set_cons_succ]
      refine wpAnyH_done (by kernel_rfl) ?_ _
      clear hHeld
      refine NoPanic.normal ?_
      go_wp2_with fail
      go_meet
      exact ⟨b1, b2, rfl, rfl, HY4, ⟨by have h7 := HB1.out; have h8 := HB2.out; have h9 := HS1.out; omega, by have h7 := HB1.out; have h8 := HB2.out; have h9 := HS1.out; omega, by have h9 := HBN.out; omega⟩, HG4⟩
    · go_simp
      obtain ⟨Y1, hY1⟩ : ∃ Y1, Y1 = (W1.alloc (.cells #[.int .i64 0] 3)).drew := ⟨_, rfl⟩
      have HY1 : Hid (Below W1.heap.size W1 Y1) := by rw [hY1]; exact (bel_up _ _).trans (Below.drew (Below.refl _ _))
      have hy1 : Y1.heap[W1.heap.size]? = some (.cells #[.int .i64 0] 3 (0, 0)) := by rw [hY1]; exact heap_new W1 _
      have hs1 : Y1.heap.size = W1.heap.size + 1 := by rw [hY1]; simp
      obtain ⟨b1, hb1⟩ : ∃ b1, W1.heap.size = b1 := ⟨_, rfl⟩
      first | rw [← hY1, hb1] | rw [← hY1]
      have HB1 : Hid (W1.heap.size = b1) := hb1
      have HS1 : Hid (Y1.heap.size = b1 + 1) := by rw [← hb1]; exact hs1
      rw [hb1] at hy1
      have HYB : Hid (Y1.heap[b1]? = some (.cells #[.int .i64 0] 3 (0, 0))) := hy1
      clear hY1 hy1 hs1 hb1
      refine hK.out _ _ ?_ (fun hHeld => ?_)
      · exact HY1.out
      clear hK K
      try simp only [Act.put, List.setIfInBounds_toArray, List.set_cons_zero, List.set_cons_succ]
      refine wpAnyH_ready (rs := [9]) (by kernel_rfl) (by simp) ?_
      refine AllReadyH.cons (o := { dst := _, op := _, type := _, pos := _, after := _, guard := _ }) rfl (fun K hK => ?_) AllReadyH.nil
      go_simp
      obtain ⟨Y2, hY2⟩ : ∃ Y2, Y2 = Y1.alloc (.cells #[.int .i64 0] 3) := ⟨_, rfl⟩
      have HY2 : Hid (Below Y1.heap.size Y1 Y2) := by rw [hY2]; exact bel_up _ _
      have hy2 : Y2.heap[Y1.heap.size]? = some (.cells #[.int .i64 0] 3 (0, 0)) := by rw [hY2]; exact heap_new Y1 _
      obtain ⟨b2, hb2⟩ : ∃ b2, Y1.heap.size = b2 := ⟨_, rfl⟩
      first | rw [← hY2, hb2] | rw [← hY2]
      have HB2 : Hid (Y1.heap.size = b2) := hb2
      rw [hb2] at hy2
      have hz1 : Y2.heap[b1]? = some (.cells #[.int .i64 0] 3 (0, 0)) := (HY2.out.block _ (lt_of_heap HYB.out)).trans HYB.out
      have HBN : Hid (b1 ≠ b2) := by have h8 := HB2.out; have h9 := HS1.out; show _ ≠ _; omega
      have HYA : Hid (Y2.heap[b1]? = some (.cells #[.int .i64 0] 3 (0, 0)) ∧ Y2.heap[b2]? = some (.cells #[.int .i64 0] 3 (0, 0))) := ⟨hz1, hy2⟩
      have n0 := rcell (show Y2.heap[b2]? = some (.cells #[.int .i64 0] 3 (0, 0)) by first | exact hz1 | exact hy2) 0 _ rfl
      have n1 := Lib.frozen_of_heap (show Y2.heap[b2]? = some (.cells #[.int .i64 0] 3 (0, 0)) by first | exact hz1 | exact hy2) 0
      clear hY2 hy2 hb2 hz1
      refine hK.out _ _ ?_ (fun hHeld => ?_)
      · exact below_trans HY1.out HY2.out
      clear hK K
      try simp only [Act.put, List.setIfInBounds_toArray, List.set_cons_zero, List.set_cons_succ]
      refine wpAnyH_ready (rs := [11]) (by kernel_rfl) (by simp) ?_
      refine AllReadyH.cons (o := { dst := _, op := _, type := _, pos := _, after := _, guard := _ }) rfl (fun K hK => ?_) AllReadyH.nil
      go_simp
      obtain ⟨Y3, hY3⟩ : ∃ Y3, Y3 = Y2.setCell ⟨b2, 0, none⟩ (.int .i64 (V1 : Int)) := ⟨_, rfl⟩
      rw [← hY3]
      have HY3 : Hid (Y3.heap[b2]? = some (.cells #[.int .i64 (V1 : Int)] 3 (0, 0)) ∧ Y3.heap[b1]? = some (.cells #[.int .i64 0] 3 (0, 0))) := by rw [hY3]; exact ⟨blk_set _ HYA.out.2, (heap_far HBN.out).trans HYA.out.1⟩
      have HG3 : Hid (Below W1.heap.size W1 Y3) := by rw [hY3]; exact Below.setCell (below_trans HY1.out HY2.out) (show W1.heap.size ≤ b2 by have h7 := HB1.out; have h8 := HB2.out; have h9 := HS1.out; omega) _
      have n2 := rcell HY3.out.2 0 _ rfl
      have n3 := Lib.frozen_of_heap HY3.out.2 0
      clear hY3 n0 n1
      refine hK.out _ _ ?_ (fun hHeld => ?_)
      · exact HG3.out
      clear hK K
      try simp only [Act.put, List.setIfInBounds_toArray, List.set_cons_zero, List.set_cons_succ]
      refine wpAnyH_ready (rs := [12]) (by kernel_rfl) (by simp) ?_
      refine AllReadyH.cons (o := { dst := _, op := _, type := _, pos := _, after := _, guard := _ }) rfl (fun K hK => ?_) AllReadyH.nil
      go_simp
      obtain ⟨Y4, hY4⟩ : ∃ Y4, Y4 = Y3.setCell ⟨b1, 0, none⟩ (.int .i64 (E : Int)) := ⟨_, rfl⟩
      rw [← hY4]
      have HY4 : Hid (Y4.heap[b2]? = some (.cells #[.int .i64 (V1 : Int)] 3 (0, 0)) ∧ Y4.heap[b1]? = some (.cells #[.int .i64 (E : Int)] 3 (0, 0))) := by rw [hY4]; exact ⟨(heap_far HBN.out.symm).trans HY3.out.1, blk_set _ HY3.out.2⟩
      have HG4 : Hid (Below W1.heap.size W1 Y4) := by rw [hY4]; exact Below.setCell HG3.out (show W1.heap.size ≤ b1 by have h7 := HB1.out; have h8 := HB2.out; have h9 := HS1.out; omega) _
      clear hY4 n2 n3
      refine hK.out _ _ ?_ (fun hHeld => ?_)
      · exact HG4.out
      clear hK K
      try simp only [Act.put, List.setIfInBounds_toArray, List.set_cons_zero, List.set_cons_succ]
      refine wpAnyH_done (by kernel_rfl) ?_ _
      clear hHeld
      refine NoPanic.normal ?_
      go_wp2_with fail
      go_meet
      exact ⟨b2, b1, rfl, rfl, HY4, ⟨by have h7 := HB1.out; have h8 := HB2.out; have h9 := HS1.out; omega, by have h7 := HB1.out; have h8 := HB2.out; have h9 := HS1.out; omega, by have h9 := HBN.out; omega⟩, HG4⟩
  case rest =>
    obtain ⟨nb, eb, rfl, rfl, HNE, HNB, HBC⟩ := hcut
    obtain ⟨W5, hW5⟩ : ∃ W5, W5 = wc.alloc (.cells #[.nilFunc] 27) := ⟨_, rfl⟩
    obtain ⟨gb, hgb⟩ : ∃ gb, wc.heap.size = gb := ⟨_, rfl⟩
    have hg5 : W5.heap[gb]? = some (.cells #[.nilFunc] 27 (0, 0)) := by rw [hW5, ← hgb]; exact heap_new wc _
    have HB5 : Hid (Below wc.heap.size wc W5) := by rw [hW5]; exact bel_up _ _
    have HGB : Hid (wc.heap.size = gb) := hgb
    have k0 := rcell hg5 0 _ rfl
    have k1 := Lib.frozen_of_heap hg5 0
    have HG5 : Hid (W5.heap[gb]? = some (.cells #[.nilFunc] 27 (0, 0))) := hg5
    go_upto_region 4 with fail
    first | rw [← hW5, hgb] | rw [← hW5]
    clear hW5 hgb hg5
    go_upto_region 5 with fail
    obtain ⟨W6, hW6⟩ : ∃ W6, W6 = W5.setCell ⟨gb, 0, none⟩ (.func (.func 54) #[] #[.pointer (some ⟨lb, 0, none⟩), .pointer (some ⟨nb, 0, none⟩), .pointer (some ⟨eb, 0, none⟩), .pointer (some ⟨xb, 0, none⟩), .pointer (some ⟨gb, 0, none⟩)]) := ⟨_, rfl⟩
    rw [← hW6]
    have HB6 : Hid (Below wc.heap.size wc W6) := by rw [hW6]; exact Below.setCell HB5.out (show wc.heap.size ≤ gb by have := HGB.out; omega) _
    have HW6 : Hid (Below w.heap.size w W6) := below_trans (below_trans HB1.out HBC.out) HB6.out
    have HBX : Hid (Bx W6 f lb nb eb xb gb sb (.slice xa kk xc) V1 E) := by
      have hff := lt_of_heap HFD.out.1
      have q1 := HXB.out
      have q2 := HLB.out
      have q3 := HNB.out
      have q4 := HGB.out
      have q5 := HBC.out.size
      have q6 := lt_of_heap HNE.out.1
      have q7 := lt_of_heap HNE.out.2
      have q8 := HB0.out.size
      refine ⟨?_, ?_, ?_, ?_, ?_, ⟨by omega, by omega, by omega, by omega, by omega, by omega, by omega⟩, ⟨by omega, by omega, by omega, by omega, by omega⟩⟩
      · exact (HB6.out.block _ (by omega)).trans ((HBC.out.block _ (by omega)).trans HL1.out)
      · exact (HB6.out.block _ (by omega)).trans HNE.out.1
      · exact (HB6.out.block _ (by omega)).trans HNE.out.2
      · exact (HB6.out.block _ (by omega)).trans ((HBC.out.block _ (by omega)).trans HX1.out)
      · rw [hW6]; exact blk_set _ HG5.out
    have HCL : Hid _ := HGO.out lb nb eb xb gb W6 (.slice xa kk xc) (by have q1 := HLB.out; have q8 := HB0.out.size; omega) (by have q3 := HNB.out; have q8 := HB1.out.size; omega) (Fs.bel HW6.out) (HFD.out.1.up HW6.out) HBX.out HRX.out
    have g0 := rcell HBX.out.g 0 _ rfl
    clear hW6 k0 k1
    go_wp2_with (go_at_call 54; refine Calls.mono HCL.out ?_; rintro e' w7 ⟨F7, rfl, hf7, hd7, hk7⟩; have HF7 : Hid (Fs f w w7) := hf7; have HD7 : Hid (Fd w7 f F7) := hd7; have HK7 : Hid (Kr P T E p 0 V1 F F7) := hk7; clear hf7 hd7 hk7)
    go_ret
    exact ⟨F7, rfl, HF7.out, HD7.out, HK7.out⟩
end Go.Proofs.YtcmhbcfgikmblabGreatDoor.Qy
