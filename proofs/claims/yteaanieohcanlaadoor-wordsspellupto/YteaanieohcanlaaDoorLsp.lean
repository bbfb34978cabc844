import Derived.Test.YteaanieohcanlaaDoorOpw
import Derived.Test.YteaanieohcanlaaDoorLnv
import Derived.Test.YteaanieohcanlaaDoorLnw
namespace Go.Proofs.YteaanieohcanlaaDoor
open Go.RowKit Go.Maps

/-- What is written over. -/
def rvs (l : List Wd) : List Wd := if l.length = 1 then [⟨4, [], 7, 0⟩] else l.reverse
theorem rvs_len (l : List Wd) : (rvs l).length = l.length := by
  unfold rvs
  split
  · rename_i h; simp [h]
  · simp
theorem rev_step (l : List Wd) (i : Nat) (hi : i < l.length) : (l.reverse.take i ++ l.drop i).set i (l.getD (l.length - 1 - i) w0) = l.reverse.take (i + 1) ++ l.drop (i + 1) := by
  have h1 : (l.reverse.take i).length = i := by rw [List.length_take, List.length_reverse]; omega
  rw [List.set_append_right _ _ (by omega), h1, Nat.sub_self, List.drop_eq_getElem_cons hi, List.set_cons_zero, List.take_add_one, List.getElem?_eq_getElem (by rw [List.length_reverse]; exact hi), List.getElem_reverse, List.getD_eq_getElem?_getD, List.getElem?_eq_getElem (by omega)]
  simp
theorem wgt_app (l m : List Wd) : wgt (l ++ m) = wgt l + wgt m := by simp [wgt]
theorem wgt_rev (l : List Wd) : wgt l.reverse = wgt l := by
  induction l with
  | nil => rfl
  | cons x l ih =>
    rw [List.reverse_cons, wgt_app, ih]
    simp only [wgt, List.map_cons, List.sum_cons, List.map_nil, List.sum_nil]
    omega
theorem wgt_rvs (l : List Wd) : wgt (rvs l) ≤ wgt l + 5 := by
  unfold rvs
  split
  · simp [wgt]
  · rw [wgt_rev]; omega
/-- What the calls ask of a list. -/
structure Gd (w : World) (l : List Wd) : Prop where
  l1 : l.length ≤ 1000000000000
  l2 : ∀ x ∈ l, x.t.length ≤ 100000000000
  l3 : ∀ i, (jna (l.take i)).length ≤ 100000000000
  l4 : ∀ W, Below w.heap.size w W → ∀ x ∈ l, snd x = true → x.k = 4 → ItoaOK W x.n
theorem gd_of {w : World} {l : List Wd} (ht : Tab w) (h : wgt l ≤ 2000000) : Gd w l := by
  have h1 := wgt_len l
  have h2 := ln_wgt l
  refine ⟨by omega, fun x hx => by have := wgt_mem l x hx; omega, fun i => ?_, fun W hW x _ h1 h2 => ?_⟩
  · have h1 := ln_take l i
    rcases Nat.eq_zero_or_pos (l.take i).length with h0 | h0
    · rw [List.length_eq_zero_iff.1 h0]; simp [jna]
    · have := ln_jna _ h0
      omega
  · unfold snd at h1
    rw [h2] at h1
    simp only [show ¬ (4 : Int) = 1 by decide, show ¬ (4 : Int) = 2 by decide, show ¬ (4 : Int) = 3 by decide, if_false, if_true, Bool.and_eq_true, decide_eq_true_eq] at h1
    exact itoaOK_tab W x.n h1.1 h1.2 (ht.up hW)
theorem row_cell {W : World} {B g n cap : Nat} {e : TypeId} {s : Nat} {xs : List Value} (h : W.ownsRow B e s (.slice (some ⟨g, 0, none⟩) n cap) n xs) (j : Nat) (hj : j < n * s) : ∃ u, W.cell? ⟨g, j, none⟩ = some u ∧ W.frozen? ⟨g, j, none⟩ = false := by
  obtain ⟨hl, h1 | ⟨g', cap', cur, e, h1, h2, h3, h4, h5, h6⟩⟩ := h
  · cases h1.1
  · injection e with e1 e2 e3
    injection e1 with e1
    injection e1 with e1
    subst e1 e3
    have hsz := congrArg List.length h6
    rw [List.length_take, Array.length_toList, hl] at hsz
    refine ⟨cur[j]'(by omega), ?_, Lib.frozen_of_heap h2 j⟩
    rw [Lib.cell_of_heap h2]
    exact Array.getElem?_eq_getElem (by omega)
theorem rw_cells {W : World} {v : Value} {l : List Wd} (h : Rw W v l.length (wC l)) (i : Nat) (hi : i < l.length) : ∃ g o q, v = .slice (some ⟨g, o, none⟩) l.length q ∧ W.cell? ⟨g, o + i * 4, none⟩ = some (.int .i64 (l.getD i w0).k) ∧ W.cell? ⟨g, o + i * 4 + 1, none⟩ = some (.string ⟨(l.getD i w0).t.toArray⟩) ∧ W.cell? ⟨g, o + i * 4 + 2, none⟩ = some (.int .i64 (l.getD i w0).n) ∧ W.cell? ⟨g, o + i * 4 + 3, none⟩ = some (.int .i64 (l.getD i w0).a) := by
  obtain ⟨a, g, o, q, e, _, _, h3, h4⟩ := h
  rw [h3 (by omega)] at e
  obtain ⟨k0, k1, k2, k3⟩ := wC_get l i hi
  exact ⟨g, o, q, e, h4 _ _ k0, h4 _ _ k1, h4 _ _ k2, h4 _ _ k3⟩
theorem row_zero {W : World} {B : Nat} {v : Value} {l : List Wd} (h : Wow B W v l) (i : Nat) (hi : i < l.length) : ∃ g q, v = .slice (some ⟨g, 0, none⟩) l.length q ∧ W.cell? ⟨g, i * 4, none⟩ = some (.int .i64 (l.getD i w0).k) ∧ W.cell? ⟨g, i * 4 + 1, none⟩ = some (.string ⟨(l.getD i w0).t.toArray⟩) ∧ W.cell? ⟨g, i * 4 + 2, none⟩ = some (.int .i64 (l.getD i w0).n) ∧ W.cell? ⟨g, i * 4 + 3, none⟩ = some (.int .i64 (l.getD i w0).a) := by
  obtain ⟨g, q, e, _, _, _⟩ := row_form h (by omega)
  obtain ⟨g', o, q', e', c0, c1, c2, c3⟩ := rw_cells (row_rw h) i hi
  rw [e] at e'
  injection e' with e1 e2 e3
  injection e1 with e1
  injection e1 with e1 e4
  subst e1 e4 e3
  rw [Nat.zero_add] at c0 c1 c2 c3
  exact ⟨g, q, e, c0, c1, c2, c3⟩
set_option maxRecDepth 100000 in
set_option maxHeartbeats 8000000 in
theorem wordsSpell_any {v : Value} (l : List Wd) (w : World) (htab : Tab w) (h : Rw w v l.length (wC l)) (hw : wgt l ≤ 1900000) :
    Calls Tryd.prog 7 #[v] w fun e w' => e = .returned (.bool true) ∧ Below w.heap.size w w' := by
  have HG : Hid (Gd w l) := gd_of htab (by omega)
  have HGR : Hid (Gd w (rvs l)) := gd_of htab (by have := wgt_rvs l; omega)
  have HRW : Hid (Rw w v l.length (wC l)) := h
  obtain ⟨a1, q1, hv⟩ : ∃ a1 q1, v = .slice a1 l.length q1 := by obtain ⟨a1, _, _, q1, e, _⟩ := h; exact ⟨a1, q1, e⟩
  subst hv
  have HC0 : Hid _ := twin_any l w h HG.out.l1
  clear h htab hw
  go_enter Tryd.func7, Tryd.ntmps7
  go_wp2_with fail
  refine Calls.mono HC0.out ?_
  rintro e w1 ⟨v1, rfl, h1, b1⟩
  have H1 : Hid (Wow w.heap.size w1 v1 l) := h1
  have B1 : Hid (Below w.heap.size w w1) := b1
  obtain ⟨a2, q2, hrv⟩ := row_shape h1
  subst hrv
  clear h1 b1 HC0
  go_wp2_with fail
  go_loopg [4] l.length (fun gm v4 wr => ∃ i : Nat, v4 = .int .i64 (i : Int) ∧ Hid (i ≤ l.length ∧ gm = l.length - i) ∧ Hid (Below w1.heap.size w1 wr))
  case atStart => exact ⟨0, rfl, ⟨Nat.zero_le _, rfl⟩, Below.refl _ _⟩
  case round =>
    obtain ⟨i, rfl, HII, HB⟩ := hrel
    by_cases hi : i < l.length
    · have e1 : decide ((i : Int) < (l.length : Int)) = true := by rw [decide_eq_true_eq]; omega
      have e2 : decide (i < l.length) = true := by rw [decide_eq_true_eq]; omega
      have e3 : (i : Int) < (l.length : Int) := by omega
      have HIL : Hid (i < l.length) := hi
      obtain ⟨g1, o1, q1', hv1, _, _, _, _⟩ := rw_cells HRW.out i hi
      injection hv1 with hv1 hv2 hv3
      subst hv1 hv3
      obtain ⟨g2, q2', hv1, _, _, _, _⟩ := row_zero H1.out i hi
      injection hv1 with hv1 hv4 hv3
      subst hv1 hv3
      have HCC : Hid (∀ W, Below wr.heap.size wr W → (W.cell? ⟨g1, o1 + i * 4, none⟩ = some (.int .i64 (l.getD i w0).k) ∧ W.cell? ⟨g1, o1 + i * 4 + 1, none⟩ = some (.string ⟨(l.getD i w0).t.toArray⟩) ∧ W.cell? ⟨g1, o1 + i * 4 + 2, none⟩ = some (.int .i64 (l.getD i w0).n) ∧ W.cell? ⟨g1, o1 + i * 4 + 3, none⟩ = some (.int .i64 (l.getD i w0).a)) ∧ (W.cell? ⟨g2, i * 4, none⟩ = some (.int .i64 (l.getD i w0).k) ∧ W.cell? ⟨g2, i * 4 + 1, none⟩ = some (.string ⟨(l.getD i w0).t.toArray⟩) ∧ W.cell? ⟨g2, i * 4 + 2, none⟩ = some (.int .i64 (l.getD i w0).n) ∧ W.cell? ⟨g2, i * 4 + 3, none⟩ = some (.int .i64 (l.getD i w0).a))) := fun W hW => by
        have hb := below_trans HB.out hW
        obtain ⟨g', o', q', e', k0, k1, k2, k3⟩ := rw_cells (HRW.out.up (below_trans B1.out hb)) i hi
        injection e' with e' _ _
        injection e' with e'
        injection e' with e1 e2
        subst e1 e2
        obtain ⟨g', q', e', m0, m1, m2, m3⟩ := row_zero (row_up H1.out hb) i hi
        injection e' with e' _ _
        injection e' with e'
        injection e' with e1 _
        subst e1
        exact ⟨⟨k0, k1, k2, k3⟩, m0, m1, m2, m3⟩
      have hmem : l.getD i w0 ∈ l := by rw [List.getD_eq_getElem?_getD, List.getElem?_eq_getElem hi]; exact List.getElem_mem hi
      have HXT : Hid ((l.getD i w0).t.length ≤ 100000000000) := HG.out.l2 _ hmem
      have HXI : Hid (∀ W, Below w.heap.size w W → snd (l.getD i w0) = true → (l.getD i w0).k = 4 → ItoaOK W (l.getD i w0).n) := fun W hW => HG.out.l4 W hW _ hmem
      obtain ⟨x, hx⟩ : ∃ x, l.getD i w0 = x := ⟨_, rfl⟩
      rw [hx] at HCC HXT HXI
      have hwi := w64n i (by have := HG.out.l1; omega)
      obtain ⟨D, hD⟩ : ∃ D : ByteArray, ⟨(spl x).toArray⟩ = D := ⟨_, rfl⟩
      have HD : Hid ((⟨(spl x).toArray⟩ : ByteArray) = D) := hD
      have zD : (D != D) = false := by unfold bne; rw [bs_beq, decide_eq_true rfl]; rfl
      clear hi hmem hx hv2 hv4 hD
      go_upto_region 5 with fail
      obtain ⟨WD, hWD⟩ : ∃ WD, wr.drew = WD := ⟨_, rfl⟩
      have HBD : Hid (Below wr.heap.size wr WD) := by rw [← hWD]; exact Below.drew (Below.refl _ _)
      refine wp_region_noPanic ?_
      refine wp_region_held_drew (S := fun W => Below wr.heap.size wr W) (by kernel_rfl) (by rw [hWD]; exact HBD.out) (fun hHeld => ?_)
      rw [hWD]
      clear hWD
      refine wpAnyH_take (i := 0) (oi := { dst := _, op := _, type := _, pos := _, after := _, guard := _ }) (v := ?_) rfl (by kernel_rfl) (by kernel_rfl) (by kernel_rfl) (fun _ _ _ h => h) (Or.inl ⟨by rfl, ?_⟩) (by assumption) ?_
      rotate_left
      · intro W hSw
        (try dsimp only at hSw)
        go_simp
        (try with_reducible rfl)
      try simp only [Act.put, List.setIfInBounds_toArray, List.set_cons_zero, List.set_cons_succ]
      refine wpAnyH_take (i := 1) (oi := { dst := _, op := _, type := _, pos := _, after := _, guard := _ }) (v := ?_) rfl (by kernel_rfl) (by kernel_rfl) (by kernel_rfl) (fun _ _ _ h => h) (Or.inl ⟨by rfl, ?_⟩) (by assumption) ?_
      rotate_left
      · intro W hSw
        (try dsimp only at hSw)
        go_simp
        (try with_reducible rfl)
      try simp only [Act.put, List.setIfInBounds_toArray, List.set_cons_zero, List.set_cons_succ]
      refine wpAnyH_take (i := 2) (oi := { dst := _, op := _, type := _, pos := _, after := _, guard := _ }) (v := ?_) rfl (by kernel_rfl) (by kernel_rfl) (by kernel_rfl) (fun _ _ _ h => h) (Or.inl ⟨by rfl, ?_⟩) (by assumption) ?_
      rotate_left
      · intro W hSw
        (try dsimp only at hSw)
        go_simp
        (try with_reducible rfl)
      try simp only [Act.put, List.setIfInBounds_toArray, List.set_cons_zero, List.set_cons_succ]
      refine wpAnyH_take (i := 3) (oi := { dst := _, op := _, type := _, pos := _, after := _, guard := _ }) (v := ?_) rfl (by kernel_rfl) (by kernel_rfl) (by kernel_rfl) (fun _ _ _ h => h) (Or.inl ⟨by rfl, ?_⟩) (by assumption) ?_
      rotate_left
      · intro W hSw
        (try dsimp only at hSw)
        obtain ⟨⟨k0, k1, k2, k3⟩, m0, m1, m2, m3⟩ := HCC.out W hSw
        go_simp
        (try with_reducible rfl)
      try simp only [Act.put, List.setIfInBounds_toArray, List.set_cons_zero, List.set_cons_succ]
      refine wpAnyH_take (i := 5) (oi := { dst := _, op := _, type := _, pos := _, after := _, guard := _ }) (v := ?_) rfl (by kernel_rfl) (by kernel_rfl) (by kernel_rfl) (fun _ _ _ h => h) (Or.inl ⟨by rfl, ?_⟩) (by assumption) ?_
      rotate_left
      · intro W hSw
        (try dsimp only at hSw)
        go_simp
        (try with_reducible rfl)
      try simp only [Act.put, List.setIfInBounds_toArray, List.set_cons_zero, List.set_cons_succ]
      refine wpAnyH_take (i := 6) (oi := { dst := _, op := _, type := _, pos := _, after := _, guard := _ }) (v := ?_) rfl (by kernel_rfl) (by kernel_rfl) (by kernel_rfl) (fun _ _ _ h => h) (Or.inl ⟨by rfl, ?_⟩) (by assumption) ?_
      rotate_left
      · intro W hSw
        (try dsimp only at hSw)
        go_simp
        (try with_reducible rfl)
      try simp only [Act.put, List.setIfInBounds_toArray, List.set_cons_zero, List.set_cons_succ]
      refine wpAnyH_take (i := 7) (oi := { dst := _, op := _, type := _, pos := _, after := _, guard := _ }) (v := ?_) rfl (by kernel_rfl) (by kernel_rfl) (by kernel_rfl) (fun _ _ _ h => h) (Or.inl ⟨by rfl, ?_⟩) (by assumption) ?_
      rotate_left
      · intro W hSw
        (try dsimp only at hSw)
        go_simp
        (try with_reducible rfl)
      try simp only [Act.put, List.setIfInBounds_toArray, List.set_cons_zero, List.set_cons_succ]
      refine wpAnyH_take (i := 8) (oi := { dst := _, op := _, type := _, pos := _, after := _, guard := _ }) (v := ?_) rfl (by kernel_rfl) (by kernel_rfl) (by kernel_rfl) (fun _ _ _ h => h) (Or.inl ⟨by rfl, ?_⟩) (by assumption) ?_
      rotate_left
      · intro W hSw
        (try dsimp only at hSw)
        obtain ⟨⟨k0, k1, k2, k3⟩, m0, m1, m2, m3⟩ := HCC.out W hSw
        go_simp
        (try with_reducible rfl)
      try simp only [Act.put, List.setIfInBounds_toArray, List.set_cons_zero, List.set_cons_succ]
      refine wpAnyH_ready (rs := [4]) (by kernel_rfl) (by simp) ?_
      refine AllReadyH.cons (o := { dst := _, op := _, type := _, pos := _, after := _, guard := _ }) rfl (fun K hK => ?_) AllReadyH.nil
      go_simp
      refine (spell_any x HXT.out WD (HXI.out WD (below_trans B1.out (below_trans HB.out HBD.out)))).mono ?_
      rintro e w5 ⟨rfl, b5⟩
      have HB5 : Hid (Below wr.heap.size wr w5) := below_trans HBD.out b5
      clear b5
      rw [HD.out]
      go_wp2_with fail
      refine hK.out _ _ ?_ (fun hHeld => ?_)
      · exact HB5.out
      clear hK K
      try simp only [Act.put, List.setIfInBounds_toArray, List.set_cons_zero, List.set_cons_succ]
      refine wpAnyH_ready (rs := [9]) (by kernel_rfl) (by simp) ?_
      refine AllReadyH.cons (o := { dst := _, op := _, type := _, pos := _, after := _, guard := _ }) rfl (fun K hK => ?_) AllReadyH.nil
      go_simp
      refine (rspell_any x HXT.out w5 (HXI.out w5 (below_trans B1.out (below_trans HB.out HB5.out)))).mono ?_
      rintro e w6 ⟨rfl, b6⟩
      have HB6 : Hid (Below wr.heap.size wr w6) := below_trans HB5.out b6
      clear b6
      rw [HD.out]
      go_wp2_with fail
      refine hK.out _ _ ?_ (fun hHeld => ?_)
      · exact HB6.out
      clear hK K
      try simp only [Act.put, List.setIfInBounds_toArray, List.set_cons_zero, List.set_cons_succ]
      refine wpAnyH_take (i := 10) (oi := { dst := _, op := _, type := _, pos := _, after := _, guard := _ }) (v := ?_) rfl (by kernel_rfl) (by kernel_rfl) (by kernel_rfl) (fun _ _ _ h => h) (Or.inl ⟨by rfl, ?_⟩) (by assumption) ?_
      rotate_left
      · intro W hSw
        (try dsimp only at hSw)
        go_simp
        (try with_reducible rfl)
      try simp only [Act.put, List.setIfInBounds_toArray, List.set_cons_zero, List.set_cons_succ]
      refine wpAnyH_done (by kernel_rfl) ?_ _
      clear hHeld
      refine NoPanic.normal ?_
      go_wp2_with fail
      go_roundg (l.length - (i + 1))
      case measure => have := HII.out; have := HIL.out; omega
      case rel => exact ⟨i + 1, by simp, ⟨HIL.out, rfl⟩, below_trans HB.out HB6.out⟩
    · have e1 : decide ((i : Int) < (l.length : Int)) = false := by rw [decide_eq_false_iff_not]; omega
      have e2 : decide (i < l.length) = false := by rw [decide_eq_false_iff_not]; omega
      have BL : Hid (Below w.heap.size w wr) := below_trans B1.out HB.out
      have HWS : Hid (Wow w.heap.size wr (.slice a2 l.length q2) l) := row_up H1.out HB.out
      have HC1 : Hid _ := lent_any l wr (HRW.out.up BL.out) HG.out.l1
      clear hi HB HII
      go_wp2_with fail
      clear e1 e2
      refine Calls.mono HC1.out ?_
      rintro e w3 ⟨g, cap, rfl, h3, b3⟩
      have H3 : Hid (Lnt wr.heap.size w3 g cap l.length l) := h3
      have B3 : Hid (Below wr.heap.size wr w3) := b3
      have HGE : Hid (wr.heap.size ≤ g) := (row_tag h3 g rfl).1
      have HC2 : Hid _ := join_any l w3 h3.rw HG.out.l1 HG.out.l2 HG.out.l3 (HG.out.l4 w3 (below_trans BL.out b3))
      clear h3 b3 HC1
      obtain ⟨J, hJ⟩ : ∃ J : ByteArray, ⟨(jn l).toArray⟩ = J := ⟨_, rfl⟩
      have HJ : Hid ((⟨(jn l).toArray⟩ : ByteArray) = J) := hJ
      have zJ : (J != J) = false := by unfold bne; rw [bs_beq, decide_eq_true rfl]; rfl
      clear hJ
      go_wp2_with fail
      refine Calls.mono HC2.out ?_
      rintro e w4 ⟨rfl, b4⟩
      rw [HJ.out]
      have B4 : Hid (Below w3.heap.size w3 w4) := b4
      have HC3 : Hid _ := rjoin_any l w4 (row_rw (row_up HWS.out (below_trans B3.out b4))) HG.out.l1 HG.out.l2 HG.out.l3 (HG.out.l4 w4 (below_trans BL.out (below_trans B3.out b4)))
      clear b4 HC2
      go_wp2_with fail
      refine Calls.mono HC3.out ?_
      rintro e w5 ⟨rfl, b5⟩
      rw [HJ.out]
      have B5 : Hid (Below w3.heap.size w3 w5) := below_trans B4.out b5
      have HC4 : Hid _ := still_any l w5 (row_up H3.out B5.out) (HRW.out.up (below_trans BL.out (below_trans B3.out B5.out))) HG.out.l1
      clear b5 HC3
      go_wp2_with fail
      refine Calls.mono HC4.out ?_
      rintro e w6 ⟨rfl, b6⟩
      have B6 : Hid (Below w3.heap.size w3 w6) := below_trans B5.out b6
      have BW6 : Hid (Below w.heap.size w w6) := below_trans BL.out (below_trans B3.out B6.out)
      have H6 : Hid (Lnt wr.heap.size w6 g cap l.length l) := row_up H3.out B6.out
      have HS6 : Hid (Wow w.heap.size w6 (.slice a2 l.length q2) l) := row_up HWS.out (below_trans B3.out B6.out)
      have HNE : Hid (Value.ownBlock (.slice a2 l.length q2) = none ∨ Value.ownBlock (.slice a2 l.length q2) ≠ some g) := .inr fun e => by
        obtain ⟨_, c, hc⟩ := row_tag HWS.out g e
        have := lt_of_heap hc
        have := HGE.out
        omega
      have HGW : Hid (w.heap.size ≤ g) := Nat.le_trans BL.out.size HGE.out
      obtain ⟨B0, hB0⟩ : ∃ B0, wr.heap.size = B0 := ⟨_, rfl⟩
      rw [hB0] at H6
      clear b6 HC4 B4 B5 zJ hB0
      go_wp2_with fail
      go_loopg [6] l.length (fun gm v6 wr => ∃ i : Nat, v6 = .int .i64 (i : Int) ∧ Hid (i ≤ l.length ∧ gm = l.length - i) ∧ Hid (Lnt B0 wr g cap l.length (l.reverse.take i ++ l.drop i)) ∧ Hid (w6.grownBy wr (some g)))
      case atStart => exact ⟨0, rfl, ⟨Nat.zero_le _, rfl⟩, H6, World.grownBy.refl _ _⟩
      case round =>
        obtain ⟨i, rfl, HII, HV, HGB⟩ := hrel
        by_cases hi : i < l.length
        · have e1 : decide ((i : Int) < (l.length : Int)) = true := by rw [decide_eq_true_eq]; omega
          have e2 : decide (i < l.length) = true := by rw [decide_eq_true_eq]; omega
          have e3 : (i : Int) < (l.length : Int) := by omega
          have HIL : Hid (i < l.length) := hi
          obtain ⟨n1, hn1⟩ : ∃ n1, l.length - 1 = n1 := ⟨_, rfl⟩
          obtain ⟨j, hj⟩ : ∃ j, n1 - i = j := ⟨_, rfl⟩
          have hl1 := HG.out.l1
          have k1 : IntKind.i64.wrap ((l.length : Int) - 1) = (n1 : Int) := by rw [IntKind.wrap_i64]; omega
          have k2 : IntKind.i64.wrap ((n1 : Int) - (i : Int)) = (j : Int) := by rw [IntKind.wrap_i64]; omega
          have k3 : (j : Int) < (l.length : Int) := by omega
          have k4 : j < l.length := by omega
          have HJE : Hid (l.length - 1 - i = j) := by show _ = _; omega
          obtain ⟨g2, q2', hv1, m0, m1, m2, m3⟩ := row_zero (HS6.out.kept HGB.out HNE.out) j (by omega)
          injection hv1 with hv1 hv4 hv3
          subst hv1 hv3
          obtain ⟨x, hx⟩ : ∃ x, l.getD j w0 = x := ⟨_, rfl⟩
          have HX : Hid (l.getD j w0 = x) := hx
          rw [hx] at m0 m1 m2 m3
          have hR0 := HV.out
          unfold Lnt at hR0
          obtain ⟨u0, c0, f0⟩ := row_cell hR0 (i * 4) (by omega)
          have hR1 := row_set hR0 (i * 4) (.int .i64 x.k)
          obtain ⟨u1, c1, f1⟩ := row_cell hR1 (i * 4 + 1) (by omega)
          have hR2 := row_set hR1 (i * 4 + 1) (.string ⟨x.t.toArray⟩)
          obtain ⟨u2, c2, f2⟩ := row_cell hR2 (i * 4 + 2) (by omega)
          have hR3 := row_set hR2 (i * 4 + 2) (.int .i64 x.n)
          obtain ⟨u3, c3, f3⟩ := row_cell hR3 (i * 4 + 3) (by omega)
          have hR4 := row_set hR3 (i * 4 + 3) (.int .i64 x.a)
          rw [← wC_set _ i x (by rw [List.length_append, List.length_append, List.length_take, List.length_reverse, List.length_drop, mks_len]; omega), List.set_append_left _ _ (by rw [List.length_append, List.length_take, List.length_reverse, List.length_drop]; omega)] at hR4
          have HST : Hid ((l.reverse.take i ++ l.drop i).set i x = l.reverse.take (i + 1) ++ l.drop (i + 1)) := by rw [← hx, ← HJE.out, rev_step l i hi]; exact rfl
          rw [HST.out] at hR4
          have HR4 : Hid _ := hR4
          have HG4 : Hid _ := (((HGB.out.trans (grown_set (k := i * 4) (v := .int .i64 x.k))).trans (grown_set (k := i * 4 + 1) (v := .string ⟨x.t.toArray⟩))).trans (grown_set (k := i * 4 + 2) (v := .int .i64 x.n))).trans (grown_set (k := i * 4 + 3) (v := .int .i64 x.a))
          have hwi := w64n i (by omega)
          clear hR0 hR1 hR2 hR3 hR4 hx hj hn1 hv4 hl1 hi
          go_wp2_with fail
          go_roundg (l.length - (i + 1))
          case measure => have := HII.out; have := HIL.out; omega
          case rel => exact ⟨i + 1, by simp, ⟨HIL.out, rfl⟩, HR4, HG4⟩
        · have e1 : decide ((i : Int) < (l.length : Int)) = false := by rw [decide_eq_false_iff_not]; omega
          have e2 : decide (i < l.length) = false := by rw [decide_eq_false_iff_not]; omega
          have HVR : Hid (Lnt B0 wr g cap l.length l.reverse) := by
            have h := HV.out
            rw [List.take_of_length_le (by rw [List.length_reverse]; omega), List.drop_eq_nil_of_le (by omega), List.append_nil] at h
            exact h
          clear hi HV HII
          obtain ⟨I2, hI2⟩ : ∃ I2, rvs l = I2 := ⟨_, rfl⟩
          have HE2 : Hid (rvs l = I2) := hI2
          have HIN : Hid (I2.length = l.length) := by rw [← hI2]; exact rvs_len l
          rw [hI2] at HGR
          by_cases h1 : l.length = 1
          · have d1 : ((l.length : Int) == 1) = true := by rw [beq_iff_eq]; omega
            have d2 : (l.length == 1) = true := by rw [beq_iff_eq]; omega
            have d3 : (0 : Int) < (l.length : Int) := by omega
            have d4 : 0 < l.length := by omega
            have hR0 := HVR.out
            unfold Lnt at hR0
            obtain ⟨u0, c0, f0⟩ := row_cell hR0 0 (by omega)
            have hR1 := row_set hR0 0 (.int .i64 4)
            obtain ⟨u1, c1, f1⟩ := row_cell hR1 1 (by omega)
            have hR2 := row_set hR1 1 (.string ⟨#[]⟩)
            obtain ⟨u2, c2, f2⟩ := row_cell hR2 2 (by omega)
            have hR3 := row_set hR2 2 (.int .i64 7)
            obtain ⟨u3, c3, f3⟩ := row_cell hR3 3 (by omega)
            have hR4 := row_set hR3 3 (.int .i64 0)
            have hs := wC_set (l.reverse ++ mks 20) 0 ⟨4, [], 7, 0⟩ (by rw [List.length_append, mks_len]; omega)
            simp only [Nat.zero_mul, Nat.zero_add] at hs
            rw [show (Value.string ⟨#[]⟩) = .string ⟨([] : List UInt8).toArray⟩ from rfl, ← hs, List.set_append_left _ _ (by rw [List.length_reverse]; omega)] at hR4
            have hrv : l.reverse.set 0 ⟨4, [], 7, 0⟩ = I2 := by
              rw [← hI2]
              unfold rvs
              rw [if_pos h1]
              match hl : l.reverse, (show l.reverse.length = 1 by rw [List.length_reverse]; exact h1) with
              | [y], _ => rfl
            rw [hrv] at hR4
            have HR4 : Hid _ := hR4
            have HG4 : Hid _ := (((HGB.out.trans (grown_set (k := 0) (v := .int .i64 4))).trans (grown_set (k := 1) (v := .string ⟨#[]⟩))).trans (grown_set (k := 2) (v := .int .i64 7))).trans (grown_set (k := 3) (v := .int .i64 0))
            clear hR0 hR1 hR2 hR3 hR4 hs hrv hI2 h1
            go_upto_region 16 with fail
            obtain ⟨wz, hwz⟩ : ∃ wz, wz = (((wr.setCell ⟨g, 0, none⟩ (.int .i64 4)).setCell ⟨g, 1, none⟩ (.string ⟨#[]⟩)).setCell ⟨g, 2, none⟩ (.int .i64 7)).setCell ⟨g, 3, none⟩ (.int .i64 0) := ⟨_, rfl⟩
            rw [← hwz] at HR4 HG4 ⊢
            clear hwz
            have HR5 : Hid (Lnt B0 wz g cap I2.length I2) := by rw [HIN.out]; exact HR4
            have BZ : Hid (Below w.heap.size w wz) := BW6.out.trans ((Below.refl _ _).grown HG4.out BW6.out.size (fun r e => by cases e; exact HGW.out))
            have HC5 : Hid _ := twin_any I2 wz HR5.out.rw HGR.out.l1
            rw [HIN.out] at HC5
            obtain ⟨J2, hJ2⟩ : ∃ J2 : ByteArray, ⟨(jn I2).toArray⟩ = J2 := ⟨_, rfl⟩
            have HJ2 : Hid ((⟨(jn I2).toArray⟩ : ByteArray) = J2) := hJ2
            have zJ2 : (J2 == J2) = true := by rw [bs_beq, decide_eq_true rfl]
            have zJ3 : (J2.toList == J2.toList) = true := by simp
            clear hJ2
            go_wp2_with fail
            refine Calls.mono HC5.out ?_
            rintro e w7 ⟨v7, rfl, h7, b7⟩
            have H7 : Hid (Wow wz.heap.size w7 v7 I2) := h7
            have B7 : Hid (Below wz.heap.size wz w7) := b7
            have HC6 : Hid _ := rjoin_any I2 w7 (row_rw h7) HGR.out.l1 HGR.out.l2 HGR.out.l3 (HGR.out.l4 w7 (below_trans BZ.out b7))
            obtain ⟨a7, q7, hv7⟩ := row_shape h7
            rw [HIN.out] at hv7
            subst hv7
            clear h7 b7 HC5
            go_wp2_with fail
            refine Calls.mono HC6.out ?_
            rintro e w8 ⟨rfl, b8⟩
            rw [HJ2.out]
            have B8 : Hid (Below wz.heap.size wz w8) := below_trans B7.out b8
            have H78 : Hid (Wow wz.heap.size w8 (.slice a7 l.length q7) I2) := row_up H7.out b8
            have HC7 : Hid _ := join_any I2 w8 (Lnt.rw (row_up HR5.out B8.out)) HGR.out.l1 HGR.out.l2 HGR.out.l3 (HGR.out.l4 w8 (below_trans BZ.out B8.out))
            rw [HIN.out] at HC7
            clear b8 HC6
            go_wp2_with fail
            refine Calls.mono HC7.out ?_
            rintro e w9 ⟨rfl, b9⟩
            rw [HJ2.out]
            have B9 : Hid (Below wz.heap.size wz w9) := below_trans B8.out b9
            have HC8 : Hid _ := still_any I2 w9 (row_up HR5.out B9.out) (row_rw (row_up H78.out b9)) HGR.out.l1
            rw [HIN.out] at HC8
            clear b9 HC7
            go_wp2_with fail
            refine Calls.mono HC8.out ?_
            rintro e w10 ⟨rfl, b10⟩
            have BF : Hid (Below w.heap.size w w10) := below_trans BZ.out (below_trans B9.out b10)
            clear b10 HC8
            go_wp2_with fail
            go_ret
            exact ⟨rfl, BF.out⟩
          · have d1 : ((l.length : Int) == 1) = false := by rw [beq_eq_false_iff_ne]; omega
            have d2 : (l.length == 1) = false := by rw [beq_eq_false_iff_ne]; omega
            have HR4 : Hid (Lnt B0 wr g cap l.length I2) := by
              rw [← hI2]
              unfold rvs
              rw [if_neg h1]
              exact HVR
            have HG4 : Hid (w6.grownBy wr (some g)) := HGB
            clear hI2 h1
            go_upto_region 16 with fail
            have HR5 : Hid (Lnt B0 wr g cap I2.length I2) := by rw [HIN.out]; exact HR4
            have BZ : Hid (Below w.heap.size w wr) := BW6.out.trans ((Below.refl _ _).grown HG4.out BW6.out.size (fun r e => by cases e; exact HGW.out))
            have HC5 : Hid _ := twin_any I2 wr HR5.out.rw HGR.out.l1
            rw [HIN.out] at HC5
            obtain ⟨J2, hJ2⟩ : ∃ J2 : ByteArray, ⟨(jn I2).toArray⟩ = J2 := ⟨_, rfl⟩
            have HJ2 : Hid ((⟨(jn I2).toArray⟩ : ByteArray) = J2) := hJ2
            have zJ2 : (J2 == J2) = true := by rw [bs_beq, decide_eq_true rfl]
            have zJ3 : (J2.toList == J2.toList) = true := by simp
            clear hJ2
            go_wp2_with fail
            refine Calls.mono HC5.out ?_
            rintro e w7 ⟨v7, rfl, h7, b7⟩
            have H7 : Hid (Wow wr.heap.size w7 v7 I2) := h7
            have B7 : Hid (Below wr.heap.size wr w7) := b7
            have HC6 : Hid _ := rjoin_any I2 w7 (row_rw h7) HGR.out.l1 HGR.out.l2 HGR.out.l3 (HGR.out.l4 w7 (below_trans BZ.out b7))
            obtain ⟨a7, q7, hv7⟩ := row_shape h7
            rw [HIN.out] at hv7
            subst hv7
            clear h7 b7 HC5
            go_wp2_with fail
            refine Calls.mono HC6.out ?_
            rintro e w8 ⟨rfl, b8⟩
            rw [HJ2.out]
            have B8 : Hid (Below wr.heap.size wr w8) := below_trans B7.out b8
            have H78 : Hid (Wow wr.heap.size w8 (.slice a7 l.length q7) I2) := row_up H7.out b8
            have HC7 : Hid _ := join_any I2 w8 (Lnt.rw (row_up HR5.out B8.out)) HGR.out.l1 HGR.out.l2 HGR.out.l3 (HGR.out.l4 w8 (below_trans BZ.out B8.out))
            rw [HIN.out] at HC7
            clear b8 HC6
            go_wp2_with fail
            refine Calls.mono HC7.out ?_
            rintro e w9 ⟨rfl, b9⟩
            rw [HJ2.out]
            have B9 : Hid (Below wr.heap.size wr w9) := below_trans B8.out b9
            have HC8 : Hid _ := still_any I2 w9 (row_up HR5.out B9.out) (row_rw (row_up H78.out b9)) HGR.out.l1
            rw [HIN.out] at HC8
            clear b9 HC7
            go_wp2_with fail
            refine Calls.mono HC8.out ?_
            rintro e w10 ⟨rfl, b10⟩
            have BF : Hid (Below w.heap.size w w10) := below_trans BZ.out (below_trans B9.out b10)
            clear b10 HC8
            go_wp2_with fail
            go_ret
            exact ⟨rfl, BF.out⟩
end Go.Proofs.YteaanieohcanlaaDoor
