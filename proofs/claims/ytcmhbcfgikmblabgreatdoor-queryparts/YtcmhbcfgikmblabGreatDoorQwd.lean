import Derived.Test.YtcmhbcfgikmblabGreatDoorQyl
import Derived.Test.YtcmhbcfgikmblabGreatDoorQsb
namespace Go.Proofs.YtcmhbcfgikmblabGreatDoor.Qy
open Go.RowKit Go.Maps

theorem news16 (w : World) (a b c d e f g h i j k l m n o p : Value) (t : TypeId) : ∀ x u, [a, b, c, d, e, f, g, h, i, j, k, l, m, n, o, p][x]? = some u → (w.alloc (.cells #[a, b, c, d, e, f, g, h, i, j, k, l, m, n, o, p] t)).cell? ⟨w.heap.size, x, none⟩ = some u := fun x u hu => by
  have := World.news_of_block (heap_new w (.cells #[a, b, c, d, e, f, g, h, i, j, k, l, m, n, o, p] t)) x u hu
  rw [addPl, Nat.zero_add] at this
  exact this
set_option maxRecDepth 100000 in
set_option maxHeartbeats 8000000 in
theorem cond_w {B q : Nat} {l : List Pn} {o : List Wd} (c : Cd) (w : World) (h : Wq B w q l o) (hl : o.length + 6 ≤ 1000000) : Calls Tryz.prog 33 #[.pointer (some ⟨q, 0, none⟩), cV c] w fun e w' => e = .returned (.tuple #[]) ∧ Wq B w' q l (o ++ cnw c) ∧ Below B w w' ∧ Fw w w' := by
  have HB0 : Hid (B ≤ w.heap.size) := h.size
  have HLO : Hid (o.length + 6 ≤ 1000000) := hl
  obtain ⟨pb, hpb⟩ : ∃ pb, w.heap.size = pb := ⟨_, rfl⟩
  obtain ⟨W1, hW1⟩ : ∃ W1, W1 = w.alloc (.cells #[.bool c.nt, .string c.a, .string c.b, .string c.tx] 38) := ⟨_, rfl⟩
  have hb1 : Below w.heap.size w W1 := by rw [hW1]; exact bel_up _ _
  have hn1 := heap_new w (.cells #[.bool c.nt, .string c.a, .string c.b, .string c.tx] 38)
  rw [← hW1, hpb] at hn1
  have HN1 : Hid (∀ wd, Fw W1 wd → wd.heap[pb]? = some (.cells #[.bool c.nt, .string c.a, .string c.b, .string c.tx] 38 (0, 0))) := fun wd hf => hf _ _ _ (.inr (.inl rfl)) hn1
  have HB1 : Hid (Below w.heap.size w W1) := hb1
  have HW1 : Hid (Wq B W1 q l o) := h.up hb1
  have b0 := rcell hn1 0 _ rfl
  obtain ⟨F, hF⟩ : ∃ F : ByteArray, (if c.nt then (⟨#[117, 110, 108, 101, 115, 115]⟩ : ByteArray) else ⟨#[119, 104, 101, 110]⟩) = F := ⟨_, rfl⟩
  have HF : Hid _ := hF
  clear h hl hb1 hn1 hF
  go_enter Tryz.func33, Tryz.ntmps33
  go_upto_region 1 with fail
  first | rw [← hW1, hpb] | rw [← hW1]
  clear hW1 hpb
  go_upto_if 6 with fail
  go_cut [4] from 6 to 6 (fun v4 wd => v4 = .string F ∧ wd = W1)
  case first =>
    obtain ⟨nt, hnt⟩ : ∃ nt, c.nt = nt := ⟨_, rfl⟩
    have hF := HF.out
    rw [hnt] at hF ⊢
    cases nt with
    | true =>
      rw [if_pos rfl] at hF
      subst hF
      clear hnt
      go_wp2_with fail
      go_meet
      exact ⟨rfl, rfl⟩
    | false =>
      rw [if_neg (by decide)] at hF
      subst hF
      clear hnt
      go_wp2_with fail
      go_meet
      exact ⟨rfl, rfl⟩
  case rest =>
    obtain ⟨rfl, hwc⟩ := hcut
    rw [← hwc] at HW1 HB1 HN1
    have HBW : Hid (Below B w wc) := HB1.out.mono HB0.out
    have HW : Hid (Wq B wc q l o) := HW1.out
    have HFW : Hid (Fw W1 wc) := by rw [hwc]; exact Fw.refl _
    rw [hwc] at HN1
    obtain ⟨T, hT⟩ : ∃ T, c.a = T := ⟨_, rfl⟩
    have HTA : Hid (c.a = T) := hT
    have HFD3 : Hid (∀ wd, Fw W1 wd → wd.cell? ⟨pb, 1, none⟩ = some (.string T)) := fun wd hf => by rw [← hT]; exact rcell (HN1.out wd hf) 1 _ rfl
    have kT : wc.cell? ⟨pb, 1, none⟩ = some (.string T) := HFD3.out wc HFW.out
    have HWF : Hid (Fw w W1) := by rw [← hwc]; exact Fw.bel HB1.out
    clear hwc b0 hT
    go_upto_region 4 with fail
    refine wp_region_noPanic ?_
    refine wp_region_held_drew (S := fun W => W.cell? ⟨pb, 1, none⟩ = some (.string T)) (by kernel_rfl) (show wc.drew.cell? _ = _ from kT) (fun hHeld => ?_)
    refine wpAnyH_take (i := 0) (oi := { dst := _, op := _, type := _, pos := _, after := _, guard := _ }) (v := ?_) rfl (by kernel_rfl) (by kernel_rfl) (by kernel_rfl) (fun _ _ _ h => h) (Or.inl ⟨by rfl, ?_⟩) (by assumption) ?_
    rotate_left
    · intro W hSw
      (try dsimp only at hSw)
      have hs1 := hSw
      go_simp
      (try with_reducible rfl)
    try simp only [Act.put, List.setIfInBounds_toArray, List.set_cons_zero, List.set_cons_succ]
    refine wpAnyH_take (i := 1) (oi := { dst := _, op := _, type := _, pos := _, after := _, guard := _ }) (v := ?_) rfl (by kernel_rfl) (by kernel_rfl) (by kernel_rfl) (fun _ _ _ h => h) (Or.inl ⟨by rfl, ?_⟩) (by assumption) ?_
    rotate_left
    · intro W hSw
      (try dsimp only at hSw)
      have hs1 := hSw
      go_simp
      (try with_reducible rfl)
    try simp only [Act.put, List.setIfInBounds_toArray, List.set_cons_zero, List.set_cons_succ]
    refine wpAnyH_take (i := 4) (oi := { dst := _, op := _, type := _, pos := _, after := _, guard := _ }) (v := ?_) rfl (by kernel_rfl) (by kernel_rfl) (by kernel_rfl) (fun _ _ _ h => h) (Or.inl ⟨by rfl, ?_⟩) (by assumption) ?_
    rotate_left
    · intro W hSw
      (try dsimp only at hSw)
      have hs1 := hSw
      go_simp
      (try with_reducible rfl)
    try simp only [Act.put, List.setIfInBounds_toArray, List.set_cons_zero, List.set_cons_succ]
    refine wpAnyH_take (i := 5) (oi := { dst := _, op := _, type := _, pos := _, after := _, guard := _ }) (v := ?_) rfl (by kernel_rfl) (by kernel_rfl) (by kernel_rfl) (fun _ _ _ h => h) (Or.inl ⟨by rfl, ?_⟩) (by assumption) ?_
    rotate_left
    · intro W hSw
      (try dsimp only at hSw)
      have hs1 := hSw
      go_simp
      (try with_reducible rfl)
    try simp only [Act.put, List.setIfInBounds_toArray, List.set_cons_zero, List.set_cons_succ]
    refine wpAnyH_ready (rs := [2]) (by kernel_rfl) (by simp) ?_
    refine AllReadyH.cons (o := { dst := _, op := _, type := _, pos := _, after := _, guard := _ }) rfl (fun K hK => ?_) AllReadyH.nil
    go_simp
    refine (qname_any _ _).mono ?_
    rintro e waa ⟨rfl, hb⟩
    have Haa : Hid (Below wc.heap.size wc waa) := (Below.drew (Below.refl _ _)).trans hb
    clear hb
    go_wp2_with fail
    refine hK.out _ _ ?_ (fun hHeld => ?_)
    · exact below_cell Haa.out kT
    clear hK K
    try simp only [Act.put, List.setIfInBounds_toArray, List.set_cons_zero, List.set_cons_succ]
    refine wpAnyH_ready (rs := [3]) (by kernel_rfl) (by simp) ?_
    refine AllReadyH.cons (o := { dst := _, op := _, type := _, pos := _, after := _, guard := _ }) rfl (fun K hK => ?_) AllReadyH.nil
    go_simp
    refine (sign_any _ _).mono ?_
    rintro e wbb ⟨rfl, hb⟩
    have Hbb : Hid (Below wc.heap.size wc wbb) := below_trans Haa.out hb
    clear hb
    go_wp2_with fail
    refine hK.out _ _ ?_ (fun hHeld => ?_)
    · exact below_cell Hbb.out kT
    clear hK K
    try simp only [Act.put, List.setIfInBounds_toArray, List.set_cons_zero, List.set_cons_succ]
    refine wpAnyH_ready (rs := [6]) (by kernel_rfl) (by simp) ?_
    refine AllReadyH.cons (o := { dst := _, op := _, type := _, pos := _, after := _, guard := _ }) rfl (fun K hK => ?_) AllReadyH.nil
    go_simp
    refine (qname_any _ _).mono ?_
    rintro e wcc ⟨rfl, hb⟩
    have Hcc : Hid (Below wc.heap.size wc wcc) := below_trans Hbb.out hb
    clear hb
    go_wp2_with fail
    refine hK.out _ _ ?_ (fun hHeld => ?_)
    · exact below_cell Hcc.out kT
    clear hK K
    try simp only [Act.put, List.setIfInBounds_toArray, List.set_cons_zero, List.set_cons_succ]
    refine wpAnyH_ready (rs := [7]) (by kernel_rfl) (by simp) ?_
    refine AllReadyH.cons (o := { dst := _, op := _, type := _, pos := _, after := _, guard := _ }) rfl (fun K hK => ?_) AllReadyH.nil
    go_simp
    refine (sign_any _ _).mono ?_
    rintro e wdd ⟨rfl, hb⟩
    have Hdd : Hid (Below wc.heap.size wc wdd) := below_trans Hcc.out hb
    clear hb
    go_wp2_with fail
    refine hK.out _ _ ?_ (fun hHeld => ?_)
    · exact below_cell Hdd.out kT
    clear hK K
    try simp only [Act.put, List.setIfInBounds_toArray, List.set_cons_zero, List.set_cons_succ]
    refine wpAnyH_ready (rs := [8]) (by kernel_rfl) (by simp) ?_
    refine AllReadyH.cons (o := { dst := _, op := _, type := _, pos := _, after := _, guard := _ }) rfl (fun K hK => ?_) AllReadyH.nil
    go_simp
    refine hK.out _ _ ?_ (fun hHeld => ?_)
    · exact cell_up _ hHeld
    clear hK K
    try simp only [Act.put, List.setIfInBounds_toArray, List.set_cons_zero, List.set_cons_succ]
    refine wpAnyH_ready (rs := [9]) (by kernel_rfl) (by simp) ?_
    refine AllReadyH.cons (o := { dst := _, op := _, type := _, pos := _, after := _, guard := _ }) rfl (fun K hK => ?_) AllReadyH.nil
    go_simp
    refine (put_any (ws := [wN F, wS 64, wN T, wS 61]) 4 _ (HW.out.up (below_trans Hdd.out (bel_up _ _))) rfl (by rw [show wC [wN F, wS 64, wN T, wS 61] = [.int .i64 1, .string F, .int .i64 0, .int .i64 0, .int .i64 5, .string ⟨#[64]⟩, .int .i64 0, .int .i64 0, .int .i64 1, .string T, .int .i64 0, .int .i64 0, .int .i64 5, .string ⟨#[61]⟩, .int .i64 0, .int .i64 0] by simp [wC, wN, wS]]; exact news16 wdd _ _ _ _ _ _ _ _ _ _ _ _ _ _ _ _ _) (by have := HLO.out; omega)).mono ?_
    rintro e wd ⟨rfl, hw, hb, hf⟩
    have HWD : Hid (Wq B wd q l (o ++ [wN F, wS 64, wN T, wS 61])) := hw
    have HBD : Hid (Below B w wd) := HBW.out.trans (((below_trans Hdd.out (bel_up _ _)).mono HW.out.size).trans hb)
    have HFD : Hid (Fw W1 wd) := HFW.out.trans ((Fw.bel (below_trans Hdd.out (bel_up _ _))).trans hf)
    have hcc : wd.cell? ⟨pb, 1, none⟩ = some (.string T) := HFD3.out wd HFD.out
    clear hw hb hf
    go_wp2_with fail
    refine hK.out _ _ ?_ (fun hHeld => ?_)
    · exact hcc
    clear hK K
    try simp only [Act.put, List.setIfInBounds_toArray, List.set_cons_zero, List.set_cons_succ]
    clear hcc
    refine wpAnyH_done (by kernel_rfl) ?_ _
    clear hHeld
    refine NoPanic.normal ?_
    obtain ⟨w5, hw5⟩ : ∃ w5, wd = w5 := ⟨_, rfl⟩
    rw [hw5] at HWD HBD HFD ⊢
    clear hw5 kT HW HBW HFW HFD3 HW1
    obtain ⟨o5, ho5⟩ : ∃ o5, o ++ [wN F, wS 64, wN T, wS 61] = o5 := ⟨_, rfl⟩
    rw [ho5] at HWD
    have HO5 : Hid (o ++ [wN F, wS 64, wN T, wS 61] = o5) := ho5
    have HLO5 : Hid (o5.length + 2 ≤ 1000000) := by show _ ≤ _; rw [← ho5, List.length_append]; have := HLO.out; simp only [List.length_cons, List.length_nil]; omega
    have HCN : Hid (o ++ cnw c = o5 ++ (if c.b = ⟨#[]⟩ then [wQ c.tx] else [wS 64, wN c.b])) := by
      show _ = _
      rw [← ho5]
      unfold cnw
      rw [List.append_assoc]
      congr 2
      rw [← HTA.out, ← HF.out]
      cases c.nt <;> rfl
    clear ho5 HLO
    obtain ⟨T, hT⟩ : ∃ T, c.b = T := ⟨_, rfl⟩
    have HTB : Hid (c.b = T) := hT
    have HFD3 : Hid (∀ wd, Fw W1 wd → wd.cell? ⟨pb, 2, none⟩ = some (.string T)) := fun wd hf => by rw [← hT]; exact rcell (HN1.out wd hf) 2 _ rfl
    have kT : w5.cell? ⟨pb, 2, none⟩ = some (.string T) := HFD3.out w5 HFD.out
    have HBW : Hid (Below B w w5) := HBD.out
    have HW : Hid (Wq B w5 q l o5) := HWD.out
    have HFW : Hid (Fw W1 w5) := HFD.out
    have HLO : Hid (o5.length + 2 ≤ 1000000) := HLO5.out
    clear hT HWD HBD HFD
    by_cases h0 : T = ⟨#[]⟩
    · have d0 : T.toList.isEmpty = true := by rw [bs_empty]; exact decide_eq_true h0
      have HE : Hid (o ++ cnw c = o5 ++ [wQ c.tx]) := by show _ = _; rw [HCN.out, if_pos (HTB.out.trans h0)]
      have b3 := rcell (HN1.out w5 HFW.out) 3 _ rfl
      have HPU : Hid (∀ wb, Below w5.heap.size w5 wb → Calls Tryz.prog 47 #[.pointer (some ⟨q, 0, none⟩), .slice (some ⟨wb.heap.size, 0, none⟩) 1 1] (wb.alloc (.cells #[.int .i64 2, .string c.tx, .int .i64 0, .int .i64 0] 77)) fun e w' => e = .returned (.tuple #[]) ∧ Wq B w' q l (o5 ++ [wQ c.tx]) ∧ Below B w5 w' ∧ Fw w5 w') := fun wb hwb => by
        have hup := below_trans hwb (bel_up wb (.cells #[.int .i64 2, .string c.tx, .int .i64 0, .int .i64 0] 77))
        have ec : wC [wQ c.tx] = [.int .i64 2, .string c.tx, .int .i64 0, .int .i64 0] := by simp [wC, wQ]
        refine (put_any (ws := [wQ c.tx]) 1 _ (HW.out.up hup) rfl (by rw [ec]; exact news4 wb _ _ _ _ _) (by have := HLO.out; omega)).mono ?_
        rintro e w' ⟨h1, h2, h3, h4⟩
        exact ⟨h1, h2, (hup.mono HW.out.size).trans h3, (Fw.bel hup).trans h4⟩
      clear h0
      go_wp2_with first | (go_at_call 50; refine (quote_any _ _).mono ?_; rintro e wa ⟨rfl, hb⟩; have HBA : Hid (Below w5.heap.size w5 wa) := hb; clear hb) | (go_at_call 47; refine Calls.mono (HPU.out _ HBA.out) ?_; rintro e wd ⟨rfl, hw, hb, hf⟩; have HWD : Hid (Wq B wd q l (o5 ++ [wQ c.tx])) := hw; have HBD : Hid (Below B w wd) := HBW.out.trans hb; have HFD : Hid (Fw W1 wd) := HFW.out.trans hf; clear hw hb hf)
      go_end0
      exact ⟨rfl, by rw [HE.out]; exact HWD.out, HBD.out, HWF.out.trans HFD.out⟩
    · have d0 : T.toList.isEmpty = false := by rw [bs_empty]; exact decide_eq_false h0
      have HE : Hid (o ++ cnw c = o5 ++ [wS 64, wN T]) := by show _ = _; rw [HCN.out, HTB.out, if_neg h0]
      clear h0
      go_upto_region 7 with fail
      refine wp_region_noPanic ?_
      refine wp_region_held_drew (S := fun W => W.cell? ⟨pb, 2, none⟩ = some (.string T)) (by kernel_rfl) (show w5.drew.cell? _ = _ from kT) (fun hHeld => ?_)
      refine wpAnyH_take (i := 0) (oi := { dst := _, op := _, type := _, pos := _, after := _, guard := _ }) (v := ?_) rfl (by kernel_rfl) (by kernel_rfl) (by kernel_rfl) (fun _ _ _ h => h) (Or.inl ⟨by rfl, ?_⟩) (by assumption) ?_
      rotate_left
      · intro W hSw
        (try dsimp only at hSw)
        have hs1 := hSw
        go_simp
        (try with_reducible rfl)
      try simp only [Act.put, List.setIfInBounds_toArray, List.set_cons_zero, List.set_cons_succ]
      refine wpAnyH_take (i := 2) (oi := { dst := _, op := _, type := _, pos := _, after := _, guard := _ }) (v := ?_) rfl (by kernel_rfl) (by kernel_rfl) (by kernel_rfl) (fun _ _ _ h => h) (Or.inl ⟨by rfl, ?_⟩) (by assumption) ?_
      rotate_left
      · intro W hSw
        (try dsimp only at hSw)
        have hs1 := hSw
        go_simp
        (try with_reducible rfl)
      try simp only [Act.put, List.setIfInBounds_toArray, List.set_cons_zero, List.set_cons_succ]
      refine wpAnyH_take (i := 3) (oi := { dst := _, op := _, type := _, pos := _, after := _, guard := _ }) (v := ?_) rfl (by kernel_rfl) (by kernel_rfl) (by kernel_rfl) (fun _ _ _ h => h) (Or.inl ⟨by rfl, ?_⟩) (by assumption) ?_
      rotate_left
      · intro W hSw
        (try dsimp only at hSw)
        have hs1 := hSw
        go_simp
        (try with_reducible rfl)
      try simp only [Act.put, List.setIfInBounds_toArray, List.set_cons_zero, List.set_cons_succ]
      refine wpAnyH_ready (rs := [1]) (by kernel_rfl) (by simp) ?_
      refine AllReadyH.cons (o := { dst := _, op := _, type := _, pos := _, after := _, guard := _ }) rfl (fun K hK => ?_) AllReadyH.nil
      go_simp
      refine (sign_any _ _).mono ?_
      rintro e waa ⟨rfl, hb⟩
      have Haa : Hid (Below w5.heap.size w5 waa) := (Below.drew (Below.refl _ _)).trans hb
      clear hb
      go_wp2_with fail
      refine hK.out _ _ ?_ (fun hHeld => ?_)
      · exact below_cell Haa.out kT
      clear hK K
      try simp only [Act.put, List.setIfInBounds_toArray, List.set_cons_zero, List.set_cons_succ]
      refine wpAnyH_ready (rs := [4]) (by kernel_rfl) (by simp) ?_
      refine AllReadyH.cons (o := { dst := _, op := _, type := _, pos := _, after := _, guard := _ }) rfl (fun K hK => ?_) AllReadyH.nil
      go_simp
      refine (qname_any _ _).mono ?_
      rintro e wbb ⟨rfl, hb⟩
      have Hbb : Hid (Below w5.heap.size w5 wbb) := below_trans Haa.out hb
      clear hb
      go_wp2_with fail
      refine hK.out _ _ ?_ (fun hHeld => ?_)
      · exact below_cell Hbb.out kT
      clear hK K
      try simp only [Act.put, List.setIfInBounds_toArray, List.set_cons_zero, List.set_cons_succ]
      refine wpAnyH_ready (rs := [5]) (by kernel_rfl) (by simp) ?_
      refine AllReadyH.cons (o := { dst := _, op := _, type := _, pos := _, after := _, guard := _ }) rfl (fun K hK => ?_) AllReadyH.nil
      go_simp
      refine hK.out _ _ ?_ (fun hHeld => ?_)
      · exact cell_up _ hHeld
      clear hK K
      try simp only [Act.put, List.setIfInBounds_toArray, List.set_cons_zero, List.set_cons_succ]
      refine wpAnyH_ready (rs := [6]) (by kernel_rfl) (by simp) ?_
      refine AllReadyH.cons (o := { dst := _, op := _, type := _, pos := _, after := _, guard := _ }) rfl (fun K hK => ?_) AllReadyH.nil
      go_simp
      refine (put_any (ws := [wS 64, wN T]) 2 _ (HW.out.up (below_trans Hbb.out (bel_up _ _))) rfl (by rw [show wC [wS 64, wN T] = [.int .i64 5, .string ⟨#[64]⟩, .int .i64 0, .int .i64 0, .int .i64 1, .string T, .int .i64 0, .int .i64 0] by simp [wC, wN, wS]]; exact news8 wbb _ _ _ _ _ _ _ _ _) (by have := HLO.out; omega)).mono ?_
      rintro e wd ⟨rfl, hw, hb, hf⟩
      have HWD : Hid (Wq B wd q l (o5 ++ [wS 64, wN T])) := hw
      have HBD : Hid (Below B w wd) := HBW.out.trans (((below_trans Hbb.out (bel_up _ _)).mono HW.out.size).trans hb)
      have HFD : Hid (Fw W1 wd) := HFW.out.trans ((Fw.bel (below_trans Hbb.out (bel_up _ _))).trans hf)
      have hcc : wd.cell? ⟨pb, 2, none⟩ = some (.string T) := HFD3.out wd HFD.out
      clear hw hb hf
      go_wp2_with fail
      refine hK.out _ _ ?_ (fun hHeld => ?_)
      · exact hcc
      clear hK K
      try simp only [Act.put, List.setIfInBounds_toArray, List.set_cons_zero, List.set_cons_succ]
      clear hcc
      refine wpAnyH_done (by kernel_rfl) ?_ _
      clear hHeld
      refine NoPanic.normal ?_
      go_wp2_with fail
      go_end0
      exact ⟨rfl, by rw [HE.out]; exact HWD.out, HBD.out, HWF.out.trans HFD.out⟩
end Go.Proofs.YtcmhbcfgikmblabGreatDoor.Qy
