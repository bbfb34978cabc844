import Derived.Test.YtcmhbcfgikmblabGreatDoorQyl
import Derived.Test.YtcmhbcfgikmblabGreatDoorQsb
import Derived.Test.YtcmhbcfgikmblabGreatDoorSpf
namespace Go.Proofs.YtcmhbcfgikmblabGreatDoor.Qy
open Go.RowKit Go.Maps

theorem news16 (w : World) (a b c d e f g h i j k l m n o p : Value) (t : TypeId) : ∀ x u, [a, b, c, d, e, f, g, h, i, j, k, l, m, n, o, p][x]? = some u → (w.alloc (.cells #[a, b, c, d, e, f, g, h, i, j, k, l, m, n, o, p] t)).cell? ⟨w.heap.size, x, none⟩ = some u := fun x u hu => by
  have := World.news_of_block (heap_new w (.cells #[a, b, c, d, e, f, g, h, i, j, k, l, m, n, o, p] t)) x u hu
  rw [addPl, Nat.zero_add] at this
  exact this
set_option maxRecDepth 100000 in
set_option maxHeartbeats 8000000 in
theorem cond_w {B q : Nat} {l : List Pn} {o : List Wd} (c : Cd) (w : World) (h : Wq B w q l o) (hl : o.length + 6 ≤ 1000000) : Calls Tryz.prog 33 #[.pointer (some ⟨q, 0, none⟩), cV c] w fun e w' => e = .returned (.tuple #[]) ∧ Wq B w' q l (o ++ cnw c) ∧ Below B w w' ∧ Fw w w' := by
  have HB0 : Hid (B ≤ w.heap.size) := h.size
  have HLO : Hid (o.length + 6 ≤ 1000000) := hl
  obtain ⟨pb, hpb⟩ : ∃ pb, w.heap.size = pb := ⟨_, rfl⟩
  obtain ⟨W1, hW1⟩ : ∃ W1, W1 = w.alloc (.cells #[.bool c.nt, .string c.a, .string c.b, .string c.tx] 38) := ⟨_, rfl⟩
  have hb1 : Below w.heap.size w W1 := by rw [hW1]; exact bel_up _ _
  have hn1 := heap_new w (.cells #[.bool c.nt, .string c.a, .string c.b, .string c.tx] 38)
  rw [← hW1, hpb] at hn1
  have HN1 : Hid (∀ wd, Fw W1 wd → wd.heap[pb]? = some (.cells #[.bool c.nt, .string c.a, .string c.b, .string c.tx] 38 (0, 0))) := fun wd hf => hf _ _ _ (.inr (.inl rfl)) hn1
  have HB1 : Hid (Below w.heap.size w W1) := hb1
  have HW1 : Hid (Wq B W1 q l o) := h.up hb1
  have b0 := rcell hn1 0 _ rfl
  obtain ⟨F, hF⟩ : ∃ F : ByteArray, (if c.nt then (⟨#[117, 110, 108, 101, 115, 115]⟩ : ByteArray) else ⟨#[119, 104, 101, 110]⟩) = F := ⟨_, rfl⟩
  have HF : Hid _ := hF
  clear h hl hb1 hn1 hF
  go_enter Tryz.func33, Tryz.ntmps33
  go_upto_region 1 with fail
  first | rw [← hW1, hpb] | rw [← hW1]
  clear hW1 hpb
  go_upto_if 6 with fail
  go_cut [4] from 6 to 6 (fun v4 wd => v4 = .string F ∧ wd = W1)
  case first =>
    obtain ⟨nt, hnt⟩ : ∃ nt, c.nt = nt := ⟨_, rfl⟩
    have hF := HF.out
    rw [hnt] at hF ⊢
    cases nt with
    | true =>
      rw [if_pos rfl] at hF
      subst hF
      clear hnt
      go_wp2_with fail
      go_meet
      exact ⟨rfl, rfl⟩
    | false =>
      rw [if_neg (by decide)] at hF
      subst hF
      clear hnt
      go_wp2_with fail
      go_meet
      exact ⟨rfl, rfl⟩
  case rest =>
    obtain ⟨rfl, hwc⟩ := hcut
    rw [← hwc] at HW1 HB1 HN1
    have HBW : Hid (Below B w wc) := HB1.out.mono HB0.out
    have HW : Hid (Wq B wc q l o) := HW1.out
    have HFW : Hid (Fw W1 wc) := by rw [hwc]; exact Fw.refl _
    rw [hwc] at HN1
    obtain ⟨T, hT⟩ : ∃ T, c.a = T := ⟨_, rfl⟩
    have HTA : Hid (c.a = T) := hT
    have HFD3 : Hid (∀ wd, Fw W1 wd → wd.cell? ⟨pb, 1, none⟩ = some (.string T)) := fun wd hf => by rw [← hT]; exact rcell (HN1.out wd hf) 1 _ rfl
    have kT : wc.cell? ⟨pb, 1, none⟩ = some (.string T) := HFD3.out wc HFW.out
    have HWF : Hid (Fw w W1) := by rw [← hwc]; exact Fw.bel HB1.out
    clear hwc b0 hT
    go_upto_region 4 with fail
    refine wp_region_noPanic ?_
    refine wp_region_held_drew (S := fun W => W.cell? ⟨pb, 1, none⟩ = some (.string T)) (by kernel_rfl) (show wc.drew.cell? _ = _ from kT) (fun hHeld => ?_)
    refine wpAnyH_take (i := 0) (oi := { dst := _, op := _, type := _, pos := _, after := _, guard := _ }) (v := ?_) rfl (by kernel_rfl) (by kernel_rfl) (by kernel_rfl) (fun _ _ _ h => h) (Or.inl ⟨by rfl, ?_⟩) (by assumption) ?_
    rotate_left
    · intro W hSw
      (try dsimp only at hSw)
      have hs1 := hSw
      go_simp
      (try with_reducible rfl)
    try simp only [Act.put, List.setIfInBounds_toArray, List.set_cons_zero, List.set_cons_succ]
    refine wpAnyH_take (i := 1) (oi := { dst := _, op := _, type := _, pos := _, after := _, guard := _ }) (v := ?_) rfl (by kernel_rfl) (by kernel_rfl) (by kernel_rfl) (fun _ _ _ h => h) (Or.inl ⟨by rfl, ?_⟩) (by assumption) ?_
    rotate_left
    · intro W hSw
      (try dsimp only at hSw)
      have hs1 := hSw
      go_simp
      (try with_reducible rfl)
    try simp only [Act.put, List.setIfInBounds_toArray, List.set_cons_zero, List.set_cons_succ]
    refine wpAnyH_take (i := 4) (oi := { dst := _, op := _, type := _, pos := _, after := _, guard := _ }) (v := ?_) rfl (by kernel_rfl) (by kernel_rfl) (by kernel_rfl) (fun _ _ _ h => h) (Or.inl ⟨by rfl, ?_⟩) (by assumption) ?_
    rotate_left
    · intro W hSw
      (try dsimp only at hSw)
      have hs1 := hSw
      go_simp
      (try with_reducible rfl)
    try simp only [Act.put, List.setIfInBounds_toArray, List.set_cons_zero, List.set_cons_succ]
    refine wpAnyH_take (i := 5) (oi := { dst := _, op := _, type := _, pos := _, after := _, guard := _ }) (v := ?_) rfl (by kernel_rfl) (by kernel_rfl) (by kernel_rfl) (fun _ _ _ h => h) (Or.inl ⟨by rfl, ?_⟩) (by assumption) ?_
    rotate_left
    · intro W hSw
      (try dsimp only at hSw)
      have hs1 := hSw
      go_simp
      (try with_reducible rfl)
    try simp only [Act.put, List.setIfInBounds_toArray, List.set_cons_zero, List.set_cons_succ]
    refine wpAnyH_ready (rs := [2]) (by kernel_rfl) (by simp) ?_
    refine AllReadyH.cons (o := { dst := _, op := _, type := _, pos := _, after := _, guard := _ }) rfl (fun K hK => ?_) AllReadyH.nil
    go_simp
    refine (qname_any _ _).mono ?_
    rintro e waa ⟨rfl, hb⟩
    have Haa : Hid (Below wc.heap.size wc waa) := (Below.drew (Below.refl _ _)).trans hb
    clear hb
    go_wp2_with fail
    refine hK.out _ _ ?_ (fun hHeld => ?_)
    · exact below_cell Haa.out kT
    clear hK K
    try simp only [Act.put, List.setIfInBounds_toArray, List.set_cons_zero, List.set_cons_succ]
    refine wpAnyH_ready (rs := [3]) (by kernel_rfl) (by simp) ?_
    refine AllReadyH.cons (o := { dst := _, op := _, type := _, pos := _, after := _, guard := _ }) rfl (fun K hK => ?_) AllReadyH.nil
    go_simp
    refine (sign_any _ _).mono ?_
    rintro e wbb ⟨rfl, hb⟩
    have Hbb : Hid (Below wc.heap.size wc wbb) := below_trans Haa.out hb
    clear hb
    go_wp2_with fail
    refine hK.out _ _ ?_ (fun hHeld => ?_)
    · exact below_cell Hbb.out kT
    clear hK K
    try simp only [Act.put, List.setIfInBounds_toArray, List.set_cons_zero, List.set_cons_succ]
    refine wpAnyH_ready (rs := [6]) (by kernel_rfl) (by simp) ?_
    refine AllReadyH.cons (o := { dst := _, op := _, type := _, pos := _, after := _, guard := _ }) rfl (fun K hK => ?_) AllReadyH.nil
    go_simp
    refine (qname_any _ _).mono ?_
    rintro e wcc ⟨rfl, hb⟩
    have Hcc : Hid (Below wc.heap.size wc wcc) := below_trans Hbb.out hb
    clear hb
    go_wp2_with fail
    refine hK.out _ _ ?_ (fun hHeld => ?_)
    · exact below_cell Hcc.out kT
    clear hK K
    try simp only [Act.put, List.setIfInBounds_toArray, List.set_cons_zero, List.set_cons_succ]
    refine wpAnyH_ready (rs := [7]) (by kernel_rfl) (by simp) ?_
    refine AllReadyH.cons (o := { dst := _, op := _, type := _, pos := _, after := _, guard := _ }) rfl (fun K hK => ?_) AllReadyH.nil
    go_simp
    refine (sign_any _ _).mono ?_
    rintro e wdd ⟨rfl, hb⟩
    have Hdd : Hid (Below wc.heap.size wc wdd) := below_trans Hcc.out hb
    clear hb
    go_wp2_with fail
    refine hK.out _ _ ?_ (fun hHeld => ?_)
    · exact below_cell Hdd.out kT
    clear hK K
    try simp only [Act.put, List.setIfInBounds_toArray, List.set_cons_zero, List.set_cons_succ]
    refine wpAnyH_ready (rs := [8]) (by kernel_rfl) (by simp) ?_
    refine AllReadyH.cons (o := { dst := _, op := _, type := _, pos := _, after := _, guard := _ }) rfl (fun K hK => ?_) AllReadyH.nil
    go_simp
    refine hK.out _ _ ?_ (fun hHeld => ?_)
    · exact cell_up _ hHeld
    clear hK K
    try simp only [Act.put, List.setIfInBounds_toArray, List.set_cons_zero, List.set_cons_succ]
    refine wpAnyH_ready (rs := [9]) (by kernel_rfl) (by simp) ?_
    refine AllReadyH.cons (o := { dst := _, op := _, type := _, pos := _, after := _, guard := _ }) rfl (fun K hK => ?_) AllReadyH.nil
    go_simp
    refine (put_any (ws := [wN F, wS 64, wN T, wS 61]) 4 _ (HW.out.up (below_trans Hdd.out (bel_up _ _))) rfl (by rw [show wC [wN F, wS 64, wN T, wS 61] = [.int .i64 1, .string F, .int .i64 0, .int .i64 0, .int .i64 5, .string ⟨#[64]⟩, .int .i64 0, .int .i64 0, .int .i64 1, .string T, .int .i64 0, .int .i64 0, .int .i64 5, .string ⟨#[61]⟩, .int .i64 0, .int .i64 0] by simp [wC, wN, wS]]; exact news16 wdd _ _ _ _ _ _ _ _ _ _ _ _ _ _ _ _ _) (by have := HLO.out; omega)).mono ?_
    rintro e wd ⟨rfl, hw, hb, hf⟩
    have HWD : Hid (Wq B wd q l (o ++ [wN F, wS 64, wN T, wS 61])) := hw
    have HBD : Hid (Below B w wd) := HBW.out.trans (((below_trans Hdd.out (bel_up _ _)).mono HW.out.size).trans hb)
    have HFD : Hid (Fw W1 wd) := HFW.out.trans ((Fw.bel (below_trans Hdd.out (bel_up _ _))).trans hf)
    have hcc : wd.cell? ⟨pb, 1, none⟩ = some (.string T) := HFD3.out wd HFD.out
    clear hw hb hf
    go_wp2_with fail
    refine hK.out _ _ ?_ (fun hHeld => ?_)
    · exact hcc
    clear hK K
    try simp only [Act.put, List.setIfInBounds_toArray, List.set_cons_zero, List.set_cons_succ]
    clear hcc
    refine wpAnyH_done (by kernel_rfl) ?_ _
    clear hHeld
    refine NoPanic.normal ?_
    obtain ⟨w5, hw5⟩ : ∃ w5, wd = w5 := ⟨_, rfl⟩
    rw [hw5] at HWD HBD HFD ⊢
    clear hw5 kT HW HBW HFW HFD3 HW1
    obtain ⟨o5, ho5⟩ : ∃ o5, o ++ [wN F, wS 64, wN T, wS 61] = o5 := ⟨_, rfl⟩
    rw [ho5] at HWD
    have HO5 : Hid (o ++ [wN F, wS 64, wN T, wS 61] = o5) := ho5
    have HLO5 : Hid (o5.length + 2 ≤ 1000000) := by show _ ≤ _; rw [← ho5, List.length_append]; have := HLO.out; simp only [List.length_cons, List.length_nil]; omega
    have HCN : Hid (o ++ cnw c = o5 ++ (if c.b = ⟨#[]⟩ then [wQ c.tx] else [wS 64, wN c.b])) := by
      show _ = _
      rw [← ho5]
      unfold cnw
      rw [List.append_assoc]
      congr 2
      rw [← HTA.out, ← HF.out]
      cases c.nt <;> rfl
    clear ho5 HLO
    obtain ⟨T, hT⟩ : ∃ T, c.b = T := ⟨_, rfl⟩
    have HTB : Hid (c.b = T) := hT
    have HFD3 : Hid (∀ wd, Fw W1 wd → wd.cell? ⟨pb, 2, none⟩ = some (.string T)) := fun wd hf => by rw [← hT]; exact rcell (HN1.out wd hf) 2 _ rfl
    have kT : w5.cell? ⟨pb, 2, none⟩ = some (.string T) := HFD3.out w5 HFD.out
    have HBW : Hid (Below B w w5) := HBD.out
    have HW : Hid (Wq B w5 q l o5) := HWD.out
    have HFW : Hid (Fw W1 w5) := HFD.out
    have HLO : Hid (o5.length + 2 ≤ 1000000) := HLO5.out
    clear hT HWD HBD HFD
    by_cases h0 : T = ⟨#[]⟩
    · have d0 : T.toList.isEmpty = true := by rw [bs_empty]; exact decide_eq_true h0
      have HE : Hid (o ++ cnw c = o5 ++ [wQ c.tx]) := by show _ = _; rw [HCN.out, if_pos (HTB.out.trans h0)]
      have b3 := rcell (HN1.out w5 HFW.out) 3 _ rfl
      have HPU : Hid (∀ wb, Below w5.heap.size w5 wb → Calls Tryz.prog 47 #[.pointer (some ⟨q, 0, none⟩), .slice (some ⟨wb.heap.size, 0, none⟩) 1 1] (wb.alloc (.cells #[.int .i64 2, .string c.tx, .int .i64 0, .int .i64 0] 77)) fun e w' => e = .returned (.tuple #[]) ∧ Wq B w' q l (o5 ++ [wQ c.tx]) ∧ Below B w5 w' ∧ Fw w5 w') := fun wb hwb => by
        have hup := below_trans hwb (bel_up wb (.cells #[.int .i64 2, .string c.tx, .int .i64 0, .int .i64 0] 77))
        have ec : wC [wQ c.tx] = [.int .i64 2, .string c.tx, .int .i64 0, .int .i64 0] := by simp [wC, wQ]
        refine (put_any (ws := [wQ c.tx]) 1 _ (HW.out.up hup) rfl (by rw [ec]; exact news4 wb _ _ _ _ _) (by have := HLO.out; omega)).mono ?_
        rintro e w' ⟨h1, h2, h3, h4⟩
        exact ⟨h1, h2, (hup.mono HW.out.size).trans h3, (Fw.bel hup).trans h4⟩
      clear h0
      go_wp2_with first | (go_at_call 50; refine (quote_any _ _).mono ?_; rintro e wa ⟨rfl, hb⟩; have HBA : Hid (Below w5.heap.size w5 wa) := hb; clear hb) | (go_at_call 47; refine Calls.mono (HPU.out _ HBA.out) ?_; rintro e wd ⟨rfl, hw, hb, hf⟩; have HWD : Hid (Wq B wd q l (o5 ++ [wQ c.tx])) := hw; have HBD : Hid (Below B w wd) := HBW.out.trans hb; have HFD : Hid (Fw W1 wd) := HFW.out.trans hf; clear hw hb hf)
      go_end0
      exact ⟨rfl, by rw [HE.out]; exact HWD.out, HBD.out, HWF.out.trans HFD.out⟩
    · have d0 : T.toList.isEmpty = false := by rw [bs_empty]; exact decide_eq_false h0
      have HE : Hid (o ++ cnw c = o5 ++ [wS 64, wN T]) := by show _ = _; rw [HCN.out, HTB.out, if_neg h0]
      clear h0
      go_upto_region 7 with fail
      refine wp_region_noPanic ?_
      refine wp_region_held_drew (S := fun W => W.cell? ⟨pb, 2, none⟩ = some (.string T)) (by kernel_rfl) (show w5.drew.cell? _ = _ from kT) (fun hHeld => ?_)
      refine wpAnyH_take (i := 0) (oi := { dst := _, op := _, type := _, pos := _, after := _, guard := _ }) (v := ?_) rfl (by kernel_rfl) (by kernel_rfl) (by kernel_rfl) (fun _ _ _ h => h) (Or.inl ⟨by rfl, ?_⟩) (by assumption) ?_
      rotate_left
      · intro W hSw
        (try dsimp only at hSw)
        have hs1 := hSw
        go_simp
        (try with_reducible rfl)
      try simp only [Act.put, List.setIfInBounds_toArray, List.set_cons_zero, List.set_cons_succ]
      refine wpAnyH_take (i := 2) (oi := { dst := _, op := _, type := _, pos := _, after := _, guard := _ }) (v := ?_) rfl (by kernel_rfl) (by kernel_rfl) (by kernel_rfl) (fun _ _ _ h => h) (Or.inl ⟨by rfl, ?_⟩) (by assumption) ?_
      rotate_left
      · intro W hSw
        (try dsimp only at hSw)
        have hs1 := hSw
        go_simp
        (try with_reducible rfl)
      try simp only [Act.put, List.setIfInBounds_toArray, List.set_cons_zero, List.set_cons_succ]
      refine wpAnyH_take (i := 3) (oi := { dst := _, op := _, type := _, pos := _, after := _, guard := _ }) (v := ?_) rfl (by kernel_rfl) (by kernel_rfl) (by kernel_rfl) (fun _ _ _ h => h) (Or.inl ⟨by rfl, ?_⟩) (by assumption) ?_
      rotate_left
      · intro W hSw
        (try dsimp only at hSw)
        have hs1 := hSw
        go_simp
        (try with_reducible rfl)
      try simp only [Act.put, List.setIfInBounds_toArray, List.set_cons_zero, List.set_cons_succ]
      refine wpAnyH_ready (rs := [1]) (by kernel_rfl) (by simp) ?_
      refine AllReadyH.cons (o := { dst := _, op := _, type := _, pos := _, after := _, guard := _ }) rfl (fun K hK => ?_) AllReadyH.nil
      go_simp
      refine (sign_any _ _).mono ?_
      rintro e waa ⟨rfl, hb⟩
      have Haa : Hid (Below w5.heap.size w5 waa) := (Below.drew (Below.refl _ _)).trans hb
      clear hb
      go_wp2_with fail
      refine hK.out _ _ ?_ (fun hHeld => ?_)
      · exact below_cell Haa.out kT
      clear hK K
      try simp only [Act.put, List.setIfInBounds_toArray, List.set_cons_zero, List.set_cons_succ]
      refine wpAnyH_ready (rs := [4]) (by kernel_rfl) (by simp) ?_
      refine AllReadyH.cons (o := { dst := _, op := _, type := _, pos := _, after := _, guard := _ }) rfl (fun K hK => ?_) AllReadyH.nil
      go_simp
      refine (qname_any _ _).mono ?_
      rintro e wbb ⟨rfl, hb⟩
      have Hbb : Hid (Below w5.heap.size w5 wbb) := below_trans Haa.out hb
      clear hb
      go_wp2_with fail
      refine hK.out _ _ ?_ (fun hHeld => ?_)
      · exact below_cell Hbb.out kT
      clear hK K
      try simp only [Act.put, List.setIfInBounds_toArray, List.set_cons_zero, List.set_cons_succ]
      refine wpAnyH_ready (rs := [5]) (by kernel_rfl) (by simp) ?_
      refine AllReadyH.cons (o := { dst := _, op := _, type := _, pos := _, after := _, guard := _ }) rfl (fun K hK => ?_) AllReadyH.nil
      go_simp
      refine hK.out _ _ ?_ (fun hHeld => ?_)
      · exact cell_up _ hHeld
      clear hK K
      try simp only [Act.put, List.setIfInBounds_toArray, List.set_cons_zero, List.set_cons_succ]
      refine wpAnyH_ready (rs := [6]) (by kernel_rfl) (by simp) ?_
      refine AllReadyH.cons (o := { dst := _, op := _, type := _, pos := _, after := _, guard := _ }) rfl (fun K hK => ?_) AllReadyH.nil
      go_simp
      refine (put_any (ws := [wS 64, wN T]) 2 _ (HW.out.up (below_trans Hbb.out (bel_up _ _))) rfl (by rw [show wC [wS 64, wN T] = [.int .i64 5, .string ⟨#[64]⟩, .int .i64 0, .int .i64 0, .int .i64 1, .string T, .int .i64 0, .int .i64 0] by simp [wC, wN, wS]]; exact news8 wbb _ _ _ _ _ _ _ _ _) (by have := HLO.out; omega)).mono ?_
      rintro e wd ⟨rfl, hw, hb, hf⟩
      have HWD : Hid (Wq B wd q l (o5 ++ [wS 64, wN T])) := hw
      have HBD : Hid (Below B w wd) := HBW.out.trans (((below_trans Hbb.out (bel_up _ _)).mono HW.out.size).trans hb)
      have HFD : Hid (Fw W1 wd) := HFW.out.trans ((Fw.bel (below_trans Hbb.out (bel_up _ _))).trans hf)
      have hcc : wd.cell? ⟨pb, 2, none⟩ = some (.string T) := HFD3.out wd HFD.out
      clear hw hb hf
      go_wp2_with fail
      refine hK.out _ _ ?_ (fun hHeld => ?_)
      · exact hcc
      clear hK K
      try simp only [Act.put, List.setIfInBounds_toArray, List.set_cons_zero, List.set_cons_succ]
      clear hcc
      refine wpAnyH_done (by kernel_rfl) ?_ _
      clear hHeld
      refine NoPanic.normal ?_
      go_wp2_with fail
      go_end0
      exact ⟨rfl, by rw [HE.out]; exact HWD.out, HBD.out, HWF.out.trans HFD.out⟩
end Go.Proofs.YtcmhbcfgikmblabGreatDoor.Qy
namespace Go.Proofs.YtcmhbcfgikmblabGreatDoor.Qy
open Go.RowKit Go.Maps

/-- Texts that are not too long. -/
structure Sz (l : List Pn) (cs : List Cd) : Prop where
  nm : ∀ p ∈ l, p.nm.size ≤ 10000000
  tx : ∀ c ∈ cs, c.tx.size ≤ 10000000
theorem fm_len4 (t : List UInt8) : (t.flatMap wrt).length ≤ t.length * 4 := fm_len t
theorem qW_len {l : List Pn} {cs : List Cd} (h : shp l cs = true) : (qW l cs).length ≤ 400 := by
  obtain ⟨h1, h2, h3, h4, h5⟩ := shp_ok h
  unfold qW
  rw [List.length_append]
  have e1 := spW_len (l.length + 1) 1 l 1 h3 (Nat.le_refl _)
  have e2 := sk_pks_le l 1 1 h3 (Nat.le_refl _)
  have e3 : ∀ cs : List Cd, (cs.flatMap cnw).length ≤ 6 * cs.length := by
    intro cs
    induction cs with
    | nil => simp
    | cons c cs ih =>
      rw [List.flatMap_cons, List.length_append, List.length_cons]
      have h7 : (if c.b = ⟨#[]⟩ then [wQ c.tx] else [wS 64, wN c.b]).length ≤ 2 := by split <;> simp
      have : (cnw c).length ≤ 6 := by unfold cnw; rw [List.length_append]; simp only [List.length_cons, List.length_nil]; omega
      omega
  have := e3 cs
  omega
theorem nsh_sz {p : Pn} (h : nsh p = true) : p.fd.size ≤ 24 ∧ p.cp.size ≤ 24 := by
  have hh : ∀ t : ByteArray, nmN t = true → t.size ≤ 24 := by
    intro t ht
    unfold nmN at ht
    by_cases h0 : t = ⟨#[]⟩
    · rw [h0]; decide
    · rw [decide_eq_false h0, Bool.false_or, Bool.and_eq_true] at ht
      have h2 := ht.2
      unfold snm at h2
      simp only [Bool.and_eq_true, decide_eq_true_eq] at h2
      rw [← lst_siz]
      exact h2.2.1
  unfold nsh at h
  rw [Bool.and_eq_true, Bool.and_eq_true] at h
  exact ⟨hh _ h.1, hh _ h.2.1⟩
/-- Every word of a query: short, and no number. -/
def Wz (x : Wd) : Prop := x.t.length ≤ 10000000 ∧ x.k ≠ 4
theorem wN_z (t : ByteArray) (h : t.size ≤ 10000000) : Wz (wN t) := ⟨by show t.data.toList.length ≤ _; rw [lst_siz]; exact h, by show (1 : Int) ≠ 4; decide⟩
theorem wQ_z (t : ByteArray) (h : t.size ≤ 10000000) : Wz (wQ t) := ⟨by show t.data.toList.length ≤ _; rw [lst_siz]; exact h, by show (2 : Int) ≠ 4; decide⟩
theorem wS_z (c : UInt8) : Wz (wS c) := ⟨by show 1 ≤ _; omega, by show (5 : Int) ≠ 4; decide⟩
theorem spW_z : ∀ (n k : Nat) (l : List Pn), (∀ p ∈ l, p.nm.size ≤ 10000000 ∧ p.fd.size ≤ 24 ∧ p.cp.size ≤ 24) → ∀ x ∈ spW n k l, Wz x
  | 0, _, _, _, x, hx => by simp [spW] at hx
  | _ + 1, 0, _, _, x, hx => by simp [spW] at hx
  | _ + 1, _ + 1, [], _, x, hx => by simp [spW] at hx
  | n + 1, k + 1, p :: l, h, x, hx => by
    have hp := h p (by simp)
    have hl : ∀ y ∈ l, y.nm.size ≤ 10000000 ∧ y.fd.size ≤ 24 ∧ y.cp.size ≤ 24 := fun y hy => h y (by simp [hy])
    rw [spW_step] at hx
    rcases List.mem_append.1 hx with hx | hx
    · unfold spO at hx
      rcases List.mem_append.1 hx with hx | hx
      · unfold fdw at hx
        split at hx
        · cases hx
        · rcases List.mem_cons.1 hx with rfl | hx
          · exact wN_z _ (by omega)
          · rw [List.mem_singleton] at hx; rw [hx]; exact wS_z _
      · rcases List.mem_append.1 hx with hx | hx
        · split at hx
          · rw [List.mem_singleton] at hx; rw [hx]; exact wQ_z _ hp.1
          · rcases List.mem_append.1 hx with hx | hx
            · rcases List.mem_cons.1 hx with rfl | hx
              · exact wS_z _
              · rw [List.mem_singleton] at hx
                rw [hx]
                unfold nmw
                split
                · exact ⟨by show 1 ≤ _; omega, by decide⟩
                · exact wN_z _ hp.1
            · rcases List.mem_append.1 hx with hx | hx
              · exact spW_z n _ l hl x hx
              · rw [List.mem_singleton] at hx; rw [hx]; exact wS_z _
        · unfold cpw at hx
          split at hx
          · cases hx
          · rcases List.mem_cons.1 hx with rfl | hx
            · exact wS_z _
            · rw [List.mem_singleton] at hx; rw [hx]; exact wN_z _ (by omega)
    · exact spW_z n k _ (fun y hy => hl y (List.mem_of_mem_drop hy)) x hx
theorem qW_z {l : List Pn} {cs : List Cd} (h : shp l cs = true) (hz : Sz l cs) : ∀ x ∈ qW l cs, Wz x := by
  have hg := shp_gd h
  obtain ⟨h1, h2, h3, h4, h5⟩ := shp_ok h
  intro x hx
  unfold qW at hx
  rcases List.mem_append.1 hx with hx | hx
  · exact spW_z _ _ _ (fun p hp => ⟨hz.nm p hp, nsh_sz (hg.sh p hp)⟩) x hx
  · obtain ⟨c, hc, hx⟩ := List.mem_flatMap.1 hx
    have hcap : ∀ t, cap l t ≠ -1 → t.size ≤ 24 := fun t ht => by
      obtain ⟨_, ⟨n, hn, e⟩, _⟩ := cap_some ht
      rw [← e]
      exact (nsh_sz (hg.sh n hn)).2
    obtain ⟨k1, k2⟩ := csh_ok (h5 c hc)
    have ha := hcap _ k1
    unfold cnw at hx
    rcases List.mem_append.1 hx with hx | hx
    · rcases List.mem_cons.1 hx with rfl | hx
      · refine ⟨?_, by show (1 : Int) ≠ 4; decide⟩
        show (if c.nt then _ else _ : List UInt8).length ≤ _
        split <;> simp
      · rcases List.mem_cons.1 hx with rfl | hx
        · exact wS_z _
        · rcases List.mem_cons.1 hx with rfl | hx
          · exact wN_z _ (by omega)
          · rw [List.mem_singleton] at hx; rw [hx]; exact wS_z _
    · rcases k2 with k2 | ⟨k2, k3, k4⟩
      · rw [if_pos k2, List.mem_singleton] at hx
        rw [hx]
        exact wQ_z _ (hz.tx c hc)
      · rw [if_neg k2] at hx
        rcases List.mem_cons.1 hx with rfl | hx
        · exact wS_z _
        · rw [List.mem_singleton] at hx; rw [hx]; exact wN_z _ (by have := hcap _ k4; omega)
theorem spl_z {x : Wd} (h : Wz x) : (spl x).length ≤ 40000100 := by
  unfold spl
  split
  · simp
  · split
    · next h4 => exact absurd h4 h.2
    · split
      · simp; have := h.1; omega
      · split
        · unfold qt
          have h7 := fm_len4 x.t
          rw [List.length_append, List.length_cons]
          simp only [List.length_cons, List.length_nil]
          have := h.1
          omega
        · have := h.1; omega
theorem jna_z : ∀ (ws : List Wd), (∀ x ∈ ws, Wz x) → (jna ws).length ≤ ws.length * 40000101
  | [], _ => by simp [jna]
  | [x], h => by simp only [jna, List.length_cons, List.length_nil]; have := spl_z (h x (by simp)); omega
  | x :: y :: r, h => by
    have h1 := spl_z (h x (by simp))
    have h2 := jna_z (y :: r) (fun z hz => h z (by simp [hz]))
    simp only [jna, List.length_append, List.length_cons] at h2 ⊢
    omega
/-- What Print answers. -/
def prT (l : List Pn) (cs : List Cd) : ByteArray := if shp l cs then ⟨(jn (qW l cs)).toArray⟩ else ⟨#[]⟩
def prC (l : List Pn) (cs : List Cd) : Int := if shp l cs then 0 else 200
theorem take_flat (cs : List Cd) (j : Nat) (hj : j < cs.length) : (cs.take (j + 1)).flatMap cnw = (cs.take j).flatMap cnw ++ cnw (cs.getD j cz) := by
  rw [List.take_add_one, List.flatMap_append, List.getD_eq_getElem?_getD, List.getElem?_eq_getElem hj]
  simp
set_option maxRecDepth 100000 in
set_option maxHeartbeats 8000000 in
theorem print_any {vn vc : Value} {l : List Pn} {cs : List Cd} (w : World) (hn : Ps w vn l) (hc : Cs w vc cs) (hz : Sz l cs) : Calls Tryz.prog 18 #[.agg #[vn, vc]] w fun e w' => e = .returned (.tuple #[.string (prT l cs), .int .i64 (prC l cs)]) ∧ Below w.heap.size w w' := by
  obtain ⟨w1, hw1⟩ : ∃ w1, w1 = w.alloc (.cells #[vn, vc] 25) := ⟨_, rfl⟩
  have HB1 : Hid (Below w.heap.size w w1) := by rw [hw1]; exact bel_up _ _
  have hb := heap_new w (.cells #[vn, vc] 25)
  rw [← hw1] at hb
  obtain ⟨bq, hbq⟩ : ∃ bq, w.heap.size = bq := ⟨_, rfl⟩
  have HBQ : Hid (w.heap.size = bq) := hbq
  rw [hbq] at hb
  have HBK : Hid (w1.heap[bq]? = some (.cells #[vn, vc] 25 (0, 0))) := hb
  have HQ : Hid (∀ W, Below w1.heap.size w1 W → W.cell? ⟨bq, 0, none⟩ = some vn ∧ W.cell? ⟨bq, 1, none⟩ = some vc) := fun W hW =>
    ⟨below_cell hW (rcell HBK.out 0 _ rfl), below_cell hW (rcell HBK.out 1 _ rfl)⟩
  have HP : Hid (∀ W, Below w1.heap.size w1 W → Ps W vn l) := fun W hW => hn.up (below_trans HB1.out hW)
  have HC : Hid (∀ W, Below w1.heap.size w1 W → Cs W vc cs) := fun W hW => hc.up (below_trans HB1.out hW)
  have HSH : Hid _ := shaped_any w1 (HP.out w1 (Below.refl _ _)) (HC.out w1 (Below.refl _ _))
  have HSZ : Hid (Sz l cs) := hz
  obtain ⟨a1, p1, rfl⟩ := hn.form
  obtain ⟨a2, p2, rfl⟩ := hc.form
  obtain ⟨n, hln⟩ : ∃ n, l.length = n := ⟨_, rfl⟩
  obtain ⟨m, hlm⟩ : ∃ m, cs.length = m := ⟨_, rfl⟩
  have HLN : Hid (l.length = n) := hln
  have HLM : Hid (cs.length = m) := hlm
  rw [hln, hlm] at hw1 HSH
  rw [hln] at HP HQ ⊢
  rw [hlm] at HC HQ ⊢
  obtain ⟨q0, q1⟩ := HQ.out w1 (Below.refl _ _)
  cases hs : shp l cs with
  | false =>
    have e1 : prT l cs = ⟨#[]⟩ := by unfold prT; rw [hs]; rfl
    have e2 : prC l cs = 200 := by unfold prC; rw [hs]; rfl
    rw [e1, e2]
    rw [hs] at HSH
    clear hn hc hz hb hln hlm HBK hs e1 e2
    go_enter Tryz.func18, Tryz.ntmps18
    go_upto_region 1 with fail
    first | rw [← hw1] | rw [hbq, ← hw1]
    clear hw1 hbq
    go_wp2_with (go_at_call 9; refine Calls.mono HSH.out ?_; rintro e w2 ⟨rfl, hb⟩; have HB2 : Hid (Below w.heap.size w w2) := below_trans HB1.out hb; clear hb)
    go_ret2
    exact ⟨rfl, HB2.out⟩
  | true =>
    have e1 : prT l cs = ⟨(jn (qW l cs)).toArray⟩ := by unfold prT; rw [hs]; rfl
    have e2 : prC l cs = 0 := by unfold prC; rw [hs]; rfl
    rw [e1, e2]
    rw [hs] at HSH
    have HS : Hid (shp l cs = true) := hs
    obtain ⟨g1, g2, g3, g4, g5⟩ := shp_ok hs
    have hgd := shp_gd hs
    obtain ⟨p, l', hl'⟩ : ∃ p l', l = p :: l' := by
      cases l with
      | nil => cases g3
      | cons p l' => exact ⟨p, l', rfl⟩
    have h3 : Tr.rt (p.kd :: pks l') = some 1 := by have h9 := g3; rw [hl'] at h9; exact h9
    obtain ⟨r, hr, k0, k1, k2⟩ := Tr.rt_cons h3
    have hlz : Lz (p :: l') := by
      rw [← hl']
      intro x hx hl
      have h9 := hgd.sh x hx
      unfold nsh at h9
      rw [Bool.and_eq_true, Bool.and_eq_true, hl, if_pos rfl, Bool.and_eq_true] at h9
      simpa using h9.2.2.2
    have HPR : Hid (l = p :: l' ∧ Tr.rt (pks l') = some r ∧ 0 ≤ p.kd ∧ p.kd.toNat ≤ r ∧ Lz (p :: l') ∧ l'.length + 1 = n ∧ n ≤ 32 ∧ m ≤ 16) := ⟨hl', hr, k0, by omega, hlz, by rw [← hln, hl']; rfl, by omega, by omega⟩
    have HSP : Hid (spW (n + 1) 1 l = spO n p l') := by
      show _ = _
      rw [hl', spW_step]
      have : ∀ x : List Pn, spW n 0 x = [] := fun x => by cases n <;> rfl
      rw [this, List.append_nil]
    obtain ⟨qw, hqw⟩ : ∃ qw, qW l cs = qw := ⟨_, rfl⟩
    have HQW : Hid (qW l cs = qw) := hqw
    have HQN : Hid (qw.length ≤ 400) := by rw [← hqw]; exact qW_len hs
    have HQZ : Hid (∀ x ∈ qw, Wz x) := by rw [← hqw]; exact qW_z hs hz
    rw [hqw]
    clear hn hc hz hb hln hlm HBK hs e1 e2 g1 g2 g3 g4 g5 hgd hl' h3 hr k0 k1 k2 hlz hqw
    go_enter Tryz.func18, Tryz.ntmps18
    go_upto_region 1 with fail
    first | rw [← hw1] | rw [hbq, ← hw1]
    clear hw1 hbq
    go_upto_region 3 with (go_at_call 9; refine Calls.mono HSH.out ?_; rintro e w2 ⟨rfl, hb⟩; have HB2 : Hid (Below w1.heap.size w1 w2) := hb; clear hb)
    clear q0 q1
    obtain ⟨q0, q1⟩ := HQ.out w2 HB2.out
    go_upto_region 4 with fail
    obtain ⟨W3, hW3⟩ : ∃ W3, W3 = w2.alloc (.cells #[.slice a1 n p1, .slice none 0 0] 81) := ⟨_, rfl⟩
    obtain ⟨q, hq⟩ : ∃ q, w2.heap.size = q := ⟨_, rfl⟩
    have hb3 : Below w2.heap.size w2 W3 := by rw [hW3]; exact bel_up _ _
    have hn3 := heap_new w2 (.cells #[.slice a1 n p1, .slice none 0 0] 81)
    rw [← hW3, hq] at hn3
    first | rw [← hW3, hq] | rw [← hW3]
    have HW3 : Hid (Wq q W3 q (p :: l') []) := by
      refine ⟨Nat.le_refl _, _, _, hn3, ?_, World.ownsRow_nil _ _ _ _⟩
      have h9 := (HP.out w2 HB2.out).up hb3
      rw [HPR.out.1] at h9
      obtain ⟨ao, gg, oo, cap', e, hcap, ha0, ha1, hcc⟩ := h9
      have hlen : (p :: l').length = n := HPR.out.2.2.2.2.2.1
      obtain ⟨e3, e4, e5⟩ := Value.slice.inj e
      refine ⟨a1, p1, by rw [hlen], by rw [e5]; exact hcap, fun _ => ⟨gg, oo, by rw [e3]; exact ha1 (by simp), ?_, hcc⟩⟩
      have h8 := hcc 0 _ rfl
      have h7 := (HP.out w2 HB2.out)
      rw [HPR.out.1] at h7
      obtain ⟨ao2, g2, o2, cap2, f1, f2, f3, f4, f5⟩ := h7
      obtain ⟨f6, _, _⟩ := Value.slice.inj f1
      have f7 := f4 (by simp)
      rw [← f6, e3, ha1 (by simp)] at f7
      have f8 := Option.some.inj f7
      injection f8 with f9
      have f10 := f5 0 _ rfl
      have := cell_lt f10
      rw [f9, ← hq]
      exact this
    have HUP : Hid (∀ W, Below q W3 W → Below w1.heap.size w1 W) := fun W hW => HB2.out.trans ((hb3.mono HB2.out.size).trans (hW.mono (by rw [← hq]; exact HB2.out.size)))
    have HPA : Hid _ := (both_w n).1 q q p l' r [] W3 HW3.out HPR.out.2.1 HPR.out.2.2.1 HPR.out.2.2.2.1 HPR.out.2.2.2.2.1 (by have := HPR.out.2.2.2.2.2.1; omega) (by have := HPR.out.2.2.2.2.2; simp only [List.length_nil]; omega)
    obtain ⟨lr, hlr⟩ : ∃ lr, l'.drop (Tr.sk (pks l') p.kd.toNat) = lr := ⟨_, rfl⟩
    rw [hlr, List.nil_append] at HPA
    clear hW3 hb3 hn3 hq hlr q0 q1
    go_upto_region 5 with (go_at_call 32; refine Calls.mono HPA.out ?_; rintro e w4 ⟨rfl, hw, hb, hf⟩; have HW4 : Hid (Wq q w4 q lr (spO n p l')) := hw; have HB4 : Hid (Below q W3 w4) := hb; clear hw hb hf)
    obtain ⟨q0, q1⟩ := HQ.out w4 (HUP.out w4 HB4.out)
    go_upto_region 6 with fail
    clear q0 q1
    go_loopg [17] m (fun gm v17 wr => ∃ j : Nat, v17 = .int .i64 (j : Int) ∧ Hid (j ≤ m ∧ gm = m - j) ∧ Hid (Wq q wr q lr (spO n p l' ++ (cs.take j).flatMap cnw)) ∧ Hid (Below q W3 wr))
    case atStart => exact ⟨0, rfl, ⟨Nat.zero_le _, rfl⟩, by simpa using HW4, HB4⟩
    case round =>
      clear HW4 HB4
      obtain ⟨j, rfl, HJ, HW, HB⟩ := hrel
      by_cases hj : j < m
      · have e1 : decide ((j : Int) < (m : Int)) = true := by rw [decide_eq_true_eq]; omega
        have e2 : decide (j < m) = true := by rw [decide_eq_true_eq]; omega
        have e3 : (j : Int) < (m : Int) := by omega
        have HJL : Hid (j < m) := hj
        have hjl : j < cs.length := by rw [HLM.out]; exact hj
        obtain ⟨gg, oo, rfl, c0, c1, c2, c3⟩ := (HC.out wr (HUP.out wr HB.out)).all j hjl
        have htk := take_flat cs j hjl
        obtain ⟨x, hx⟩ : ∃ x, cs.getD j cz = x := ⟨_, rfl⟩
        rw [hx] at c0 c1 c2 c3 htk
        have hwi := w64n j (by have := HPR.out.2.2.2.2.2.2.2; omega)
        obtain ⟨W2, hW2⟩ : ∃ W2, W2 = wr.alloc (.cells #[.bool x.nt, .string x.a, .string x.b, .string x.tx] 38) := ⟨_, rfl⟩
        have hpre : (spO n p l' ++ (cs.take j).flatMap cnw).length + 6 ≤ 1000000 := by
          have h7 := HQN.out
          rw [← HQW.out] at h7
          unfold qW at h7
          rw [HLN.out, HSP.out, List.length_append] at h7
          have h8 : ((cs.take j).flatMap cnw).length ≤ (cs.flatMap cnw).length := by
            conv => rhs; rw [← List.take_append_drop j cs, List.flatMap_append, List.length_append]
            omega
          rw [List.length_append]
          omega
        have HPRE : Hid ((spO n p l' ++ (cs.take j).flatMap cnw).length + 6 ≤ 1000000) := hpre
        have HTK : Hid ((cs.take (j + 1)).flatMap cnw = (cs.take j).flatMap cnw ++ cnw x) := htk
        clear hj hjl hx htk hpre
        go_upto_region 8 with fail
        rw [← hW2]
        have hn2 := heap_new wr (.cells #[.bool x.nt, .string x.a, .string x.b, .string x.tx] 38)
        have hb2 : Below wr.heap.size wr W2 := by rw [hW2]; exact bel_up _ _
        rw [← hW2] at hn2
        have t0 := rcell hn2 0 _ rfl
        have t1 := rcell hn2 1 _ rfl
        have t2 := rcell hn2 2 _ rfl
        have t3 := rcell hn2 3 _ rfl
        have HBW : Hid (Below q W3 W2) := HB.out.trans (hb2.mono HW.out.size)
        have HCW : Hid _ := cond_w x W2 (HW.out.up hb2) HPRE.out
        unfold cV at HCW
        clear hW2 hn2 hb2 c0 c1 c2 c3
        go_wp2_with (go_at_call 33; refine Calls.mono HCW.out ?_; rintro e w6 ⟨rfl, hw, hb, hf⟩; have HW6 : Hid (Wq q w6 q lr (spO n p l' ++ (cs.take (j + 1)).flatMap cnw)) := (by rw [HTK.out, ← List.append_assoc]; exact hw); have HB6 : Hid (Below q W3 w6) := HBW.out.trans hb; clear hw hb hf)
        go_roundg (m - (j + 1))
        case measure => have := HJ.out; have := HJL.out; omega
        case rel => exact ⟨j + 1, by simp, ⟨HJL.out, rfl⟩, HW6, HB6⟩
      · have e1 : decide ((j : Int) < (m : Int)) = false := by rw [decide_eq_false_iff_not]; omega
        have e2 : decide (j < m) = false := by rw [decide_eq_false_iff_not]; omega
        have hq7 : spO n p l' ++ (cs.take j).flatMap cnw = qw := by
          rw [← HQW.out]
          unfold qW
          rw [HLN.out, HSP.out, List.take_of_length_le (by rw [HLM.out]; omega)]
        have hw7 := HW.out
        rw [hq7] at hw7
        obtain ⟨vl, vo, k1, k2, k3⟩ := hw7.ex
        have t1 := rcell k1 1 _ rfl
        have HJN : Hid _ := join_any qw wr (row_rw k3) (by have := HQN.out; omega) (fun x hx => by have := (HQZ.out x hx).1; omega) (fun i => by
          have h5 := jna_z (qw.take i) (fun x hx => HQZ.out x (List.mem_of_mem_take hx))
          have h6 : (qw.take i).length ≤ 400 := by rw [List.length_take]; have := HQN.out; omega
          have h7 : (qw.take i).length * 40000101 ≤ 400 * 40000101 := Nat.mul_le_mul_right _ h6
          omega) (fun x hx _ h4 => absurd h4 (HQZ.out x hx).2)
        obtain ⟨ra, rc, rfl⟩ := row_shape k3
        have HBE : Hid (Below w1.heap.size w1 wr) := HUP.out wr HB.out
        clear hj hq7 hw7 k1 k2 k3
        go_wp2_with (go_at_call 34; refine Calls.mono HJN.out ?_; rintro e w7 ⟨rfl, hb⟩; have HB7 : Hid (Below w1.heap.size w1 w7) := below_trans HBE.out hb; clear hb)
        go_ret2
        exact ⟨rfl, below_trans HB1.out HB7.out⟩
end Go.Proofs.YtcmhbcfgikmblabGreatDoor.Qy
