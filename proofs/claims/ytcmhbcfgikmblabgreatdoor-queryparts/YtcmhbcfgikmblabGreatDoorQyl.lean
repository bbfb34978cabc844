import Derived.Test.YtcmhbcfgikmblabGreatDoorQwa
import Derived.Test.YtcmhbcfgikmblabGreatDoorQwp
namespace Go.Proofs.YtcmhbcfgikmblabGreatDoor.Qy
open Go.RowKit Go.Maps

theorem news4 (w : World) (a b c d : Value) (t : TypeId) : ∀ j u, [a, b, c, d][j]? = some u → (w.alloc (.cells #[a, b, c, d] t)).cell? ⟨w.heap.size, j, none⟩ = some u := fun j u hu => by
  have := World.news_of_block (heap_new w (.cells #[a, b, c, d] t)) j u hu
  rw [addPl, Nat.zero_add] at this
  exact this
theorem news8 (w : World) (a b c d e f g h : Value) (t : TypeId) : ∀ j u, [a, b, c, d, e, f, g, h][j]? = some u → (w.alloc (.cells #[a, b, c, d, e, f, g, h] t)).cell? ⟨w.heap.size, j, none⟩ = some u := fun j u hu => by
  have := World.news_of_block (heap_new w (.cells #[a, b, c, d, e, f, g, h] t)) j u hu
  rw [addPl, Nat.zero_add] at this
  exact this
/-- Only literals without children. -/
def Lz (l : List Pn) : Prop := ∀ x ∈ l, x.lit = true → x.kd = 0
def PW (n : Nat) : Prop := ∀ (B q : Nat) (p : Pn) (l : List Pn) (r : Nat) (o : List Wd) (w : World), Wq B w q (p :: l) o → Tr.rt (pks l) = some r → 0 ≤ p.kd → p.kd.toNat ≤ r → Lz (p :: l) → l.length ≤ n → o.length + 7 * (l.length + 1) ≤ 1000000 → Calls Tryz.prog 32 #[.pointer (some ⟨q, 0, none⟩)] w fun e w' => e = .returned (.tuple #[]) ∧ Wq B w' q (l.drop (Tr.sk (pks l) p.kd.toNat)) (o ++ spO n p l) ∧ Below B w w' ∧ Fw w w'
def BW (n : Nat) : Prop := ∀ (B q : Nat) (p : Pn) (l : List Pn) (r : Nat) (o : List Wd) (w : World), Wq B w q l o → Tr.rt (pks l) = some r → 0 ≤ p.kd → p.kd.toNat ≤ r → Lz l → l.length ≤ n → o.length + 7 * l.length + 3 ≤ 1000000 → Calls Tryz.prog 51 #[.pointer (some ⟨q, 0, none⟩), pV p] w fun e w' => e = .returned (.tuple #[]) ∧ Wq B w' q (l.drop (Tr.sk (pks l) p.kd.toNat)) (o ++ ([wS 40, nmw p] ++ (spW n p.kd.toNat l ++ [wS 41]))) ∧ Below B w w' ∧ Fw w w'
set_option maxRecDepth 100000 in
set_option maxHeartbeats 8000000 in
theorem pattern_w (n : Nat) (hB : BW n) : PW n := by
  intro B q p l r o w h hr h0 hk hz hn hl
  have HBW9 : Hid (BW n) := hB
  have HW0 : Hid (Wq B w q (p :: l) o) := h
  have HB0 : Hid (B ≤ w.heap.size) := h.size
  have HR : Hid (Tr.rt (pks l) = some r ∧ 0 ≤ p.kd ∧ p.kd.toNat ≤ r ∧ l.length ≤ n ∧ o.length + 7 * (l.length + 1) ≤ 1000000) := ⟨hr, h0, hk, hn, hl⟩
  have HZ : Hid (Lz (p :: l)) := hz
  obtain ⟨vl, vo, h1, h2, h3⟩ := h.ex
  obtain ⟨g, of, c, rfl, hc, c0, c1, c2, c3, c4, ht⟩ := h2.at
  have k0 := rcell h1 0 _ rfl
  obtain ⟨ln, hln⟩ : ∃ ln, l.length + 1 = ln := ⟨_, rfl⟩
  have HLN : Hid (ln - 1 = l.length) := by show _ = _; omega
  rw [hln] at k0 hc h1
  have HK : Hid (w.heap[q]? = some (.cells #[.slice (some ⟨g, of, none⟩) ln c, vo] 81 (0, 0))) := h1
  obtain ⟨ad, had⟩ : ∃ ad : Option Addr, (if c = 1 then some ⟨g, of, none⟩ else some ⟨g, of + 5, none⟩) = ad := ⟨_, rfl⟩
  rw [had] at ht
  have HAD : Hid ((if c = 1 then some (⟨g, of, none⟩ : Addr) else some ⟨g, of + 5, none⟩) = ad) := had
  have HT : Hid (Lp B w (.slice ad l.length (c - 1)) l) := ht
  have HVO : Hid (w.ownsRow B 77 4 vo o.length (wC o)) := h3
  have d1 : (0 : Int) < (ln : Int) := by omega
  have d2 : (1 : Int) ≤ (ln : Int) := by omega
  have d3 : 1 ≤ ln := by omega
  obtain ⟨pb, hpb⟩ : ∃ pb, w.heap.size = pb := ⟨_, rfl⟩
  obtain ⟨W1, hW1⟩ : ∃ W1, W1 = w.alloc (.cells #[.string p.nm, .bool p.lit, .string p.fd, .string p.cp, .int .i64 p.kd] 46) := ⟨_, rfl⟩
  clear h hr h0 hk hz hn hl hB h1 h2 h3 ht hln had
  go_enter Tryz.func32, Tryz.ntmps32
  go_upto_region 1 with fail
  first | rw [← hW1, hpb] | rw [← hW1]
  have hb1 : Below w.heap.size w W1 := by rw [hW1]; exact bel_up _ _
  have hn1 := heap_new w (.cells #[.string p.nm, .bool p.lit, .string p.fd, .string p.cp, .int .i64 p.kd] 46)
  rw [← hW1, hpb] at hn1
  have hk1 : W1.heap[q]? = some (.cells #[.slice (some ⟨g, of, none⟩) ln c, vo] 81 (0, 0)) := (hb1.block _ (lt_of_heap HK.out)).trans HK.out
  have hqp : q ≠ pb := by have := lt_of_heap HK.out; omega
  have k1 := rcell hk1 0 _ rfl
  have f1 := Lib.frozen_of_heap hk1 0
  have HN1 : Hid (W1.heap[pb]? = some (.cells #[.string p.nm, .bool p.lit, .string p.fd, .string p.cp, .int .i64 p.kd] 46 (0, 0))) := hn1
  have HK1 : Hid (W1.heap[q]? = some (.cells #[.slice (some ⟨g, of, none⟩) ln c, vo] 81 (0, 0))) := hk1
  have HBB1 : Hid (Below w.heap.size w W1) := hb1
  have HQP : Hid (q ≠ pb) := hqp
  clear hW1 hpb hb1 hn1 hk1 hqp k0 c0 c1 c2 c3 c4
  go_upto_region 2 with fail
  rw [HLN.out, HAD.out]
  obtain ⟨W2, hW2⟩ : ∃ W2, W2 = W1.setCell ⟨q, 0, none⟩ (.slice ad l.length (c - 1)) := ⟨_, rfl⟩
  rw [← hW2]
  clear HAD
  generalize Value.agg #[Value.string p.nm, .bool p.lit, .string p.fd, .string p.cp, .int .i64 p.kd] = va8
  have HB2 : Hid (Below B w W2) := by rw [hW2]; exact Below.setCell (HBB1.out.mono HB0.out) HW0.out.lt _
  have HF2 : Hid (Fw w W2) := by
    intro b cs t ht hx
    have hx1 := (HBB1.out.block b (lt_of_heap hx)).trans hx
    have hne : b ≠ q := by
      rintro rfl
      rw [HK1.out] at hx1
      cases hx1
      rcases ht with h | h | h <;> cases h
    rw [hW2, heap_far hne]
    exact hx1
  have HP2 : Hid (W2.heap[pb]? = some (.cells #[.string p.nm, .bool p.lit, .string p.fd, .string p.cp, .int .i64 p.kd] 46 (0, 0))) := by rw [hW2, heap_far (fun e => HQP.out e.symm)]; exact HN1.out
  have HW2 : Hid (Wq B W2 q l o) := by
    refine ⟨HW0.out.lt, _, vo, by rw [hW2, blk_set _ HK1.out]; rfl, (HT.out.up (HBB1.out.mono HB0.out)).up (by rw [hW2]; exact Below.setCell (Below.refl _ _) HW0.out.lt _), ?_⟩
    rw [hW2]
    exact (row_off HK1.out (row_up HVO.out HBB1.out) (by decide)).1
  have HFD2 : Hid (∀ wd, Fw W2 wd → wd.heap[pb]? = some (.cells #[.string p.nm, .bool p.lit, .string p.fd, .string p.cp, .int .i64 p.kd] 46 (0, 0))) := fun wd hf => hf _ _ _ (.inl rfl) HP2.out
  clear hW2 k1 f1 d1 d2 d3 HK HK1 HT HVO HN1 HBB1 hc
  have b2 := rcell HP2.out 2 _ rfl
  go_upto_if 19 with fail
  go_cut [] from 19 to 26 (fun wd => Hid (Wq B wd q l (o ++ fdw p)) ∧ Hid (Below B w wd) ∧ Hid (Fw W2 wd))
  case first =>
    by_cases hf : p.fd = ⟨#[]⟩
    · have d0 : p.fd.toList.isEmpty = true := by rw [bs_empty]; exact decide_eq_true hf
      have HE : Hid (fdw p = []) := by unfold fdw; exact if_pos hf
      rw [d0, Bool.not_true]
      clear hf d0
      go_wp2_with fail
      go_meet
      exact ⟨by rw [HE.out, List.append_nil]; exact HW2, HB2, Fw.refl _⟩
    · have d0 : p.fd.toList.isEmpty = false := by rw [bs_empty]; exact decide_eq_false hf
      have HE : Hid (fdw p = [wN p.fd, wS 58]) := by unfold fdw; exact if_neg hf
      have HPU : Hid (∀ wb, Below W2.heap.size W2 wb → Calls Tryz.prog 47 #[.pointer (some ⟨q, 0, none⟩), .slice (some ⟨wb.heap.size, 0, none⟩) 2 2] (wb.alloc (.cells #[.int .i64 1, .string p.fd, .int .i64 0, .int .i64 0, .int .i64 5, .string ⟨#[58]⟩, .int .i64 0, .int .i64 0] 77)) fun e w' => e = .returned (.tuple #[]) ∧ Wq B w' q l (o ++ fdw p) ∧ Below B W2 w' ∧ Fw W2 w') := fun wb hwb => by
        have hup := below_trans hwb (bel_up wb (.cells #[.int .i64 1, .string p.fd, .int .i64 0, .int .i64 0, .int .i64 5, .string ⟨#[58]⟩, .int .i64 0, .int .i64 0] 77))
        have ec : wC [wN p.fd, wS 58] = [.int .i64 1, .string p.fd, .int .i64 0, .int .i64 0, .int .i64 5, .string ⟨#[58]⟩, .int .i64 0, .int .i64 0] := by simp [wC, wN, wS]
        refine (put_any (ws := [wN p.fd, wS 58]) 2 _ (HW2.out.up hup) rfl (by rw [ec]; exact news8 wb _ _ _ _ _ _ _ _ _) (by have := HR.out.2.2.2.2; omega)).mono ?_
        rintro e w' ⟨h1, h2, h3, h4⟩
        exact ⟨h1, by rw [HE.out]; exact h2, (hup.mono HW2.out.size).trans h3, (Fw.bel hup).trans h4⟩
      rw [d0, Bool.not_false]
      clear hf d0
      go_wp2_with first | (go_at_call 48; refine (qname_any _ _).mono ?_; rintro e wa ⟨rfl, hb⟩; have HBA : Hid (Below W2.heap.size W2 wa) := hb; clear hb) | (go_at_call 49; refine (sign_any _ _).mono ?_; rintro e wb ⟨rfl, hb⟩; have HBB : Hid (Below W2.heap.size W2 wb) := below_trans HBA.out hb; clear hb) | (go_at_call 47; refine Calls.mono (HPU.out _ HBB.out) ?_; rintro e wd ⟨rfl, hw, hb, hf⟩; have HWD : Hid (Wq B wd q l (o ++ fdw p)) := hw; have HBD : Hid (Below B w wd) := HB2.out.trans hb; have HFD : Hid (Fw W2 wd) := hf; clear hw hb hf)
      go_meet
      exact ⟨HWD, HBD, HFD⟩
  case rest =>
    obtain ⟨HW3, HB3, HF3⟩ := hcut
    clear HW2 HB2 b2
    obtain ⟨o3, ho3⟩ : ∃ o3, o ++ fdw p = o3 := ⟨_, rfl⟩
    rw [ho3] at HW3
    have HO3 : Hid (o ++ fdw p = o3 ∧ o3.length + 7 * l.length + 5 ≤ 1000000) := ⟨ho3, by rw [← ho3, List.length_append]; have := fdw_len p; have := HR.out.2.2.2.2; omega⟩
    have b1 := rcell (HFD2.out wc HF3.out) 1 _ rfl
    clear ho3
    go_upto_if 28 with fail
    obtain ⟨md, hmd⟩ : ∃ md, (if p.lit then [wQ p.nm] else [wS 40, nmw p] ++ (spW n p.kd.toNat l ++ [wS 41])) = md := ⟨_, rfl⟩
    have HMD : Hid _ := hmd
    go_cut [] from 28 to 37 (fun wd => Hid (Wq B wd q (l.drop (Tr.sk (pks l) p.kd.toNat)) (o3 ++ md)) ∧ Hid (Below B w wd) ∧ Hid (Fw W2 wd))
    case first =>
      cases hl : p.lit with
      | true =>
        have e0 := HZ.out p (by simp) hl
        rw [hl, if_pos rfl] at hmd
        subst hmd
        have HD : Hid (l.drop (Tr.sk (pks l) p.kd.toNat) = l) := by show _ = _; rw [e0]; show l.drop (Tr.sk (pks l) 0) = l; rw [Tr.sk_zero]; rfl
        have b0 := rcell (HFD2.out wc HF3.out) 0 _ rfl
        have HPU : Hid (∀ wb, Below wc.heap.size wc wb → Calls Tryz.prog 47 #[.pointer (some ⟨q, 0, none⟩), .slice (some ⟨wb.heap.size, 0, none⟩) 1 1] (wb.alloc (.cells #[.int .i64 2, .string p.nm, .int .i64 0, .int .i64 0] 77)) fun e w' => e = .returned (.tuple #[]) ∧ Wq B w' q l (o3 ++ [wQ p.nm]) ∧ Below B wc w' ∧ Fw wc w') := fun wb hwb => by
          have hup := below_trans hwb (bel_up wb (.cells #[.int .i64 2, .string p.nm, .int .i64 0, .int .i64 0] 77))
          have ec : wC [wQ p.nm] = [.int .i64 2, .string p.nm, .int .i64 0, .int .i64 0] := by simp [wC, wQ]
          refine (put_any (ws := [wQ p.nm]) 1 _ (HW3.out.up hup) rfl (by rw [ec]; exact news4 wb _ _ _ _ _) (by have := HO3.out.2; omega)).mono ?_
          rintro e w' ⟨h1, h2, h3, h4⟩
          exact ⟨h1, h2, (hup.mono HW3.out.size).trans h3, (Fw.bel hup).trans h4⟩
        rw [hl] at b1
        clear hl e0
        go_wp2_with first | (go_at_call 50; refine (quote_any _ _).mono ?_; rintro e wa ⟨rfl, hb⟩; have HBA : Hid (Below wc.heap.size wc wa) := hb; clear hb) | (go_at_call 47; refine Calls.mono (HPU.out _ HBA.out) ?_; rintro e wd ⟨rfl, hw, hb, hf⟩; have HWD : Hid (Wq B wd q l (o3 ++ [wQ p.nm])) := hw; have HBD : Hid (Below B w wd) := HB3.out.trans hb; have HFD : Hid (Fw W2 wd) := HF3.out.trans hf; clear hw hb hf)
        go_meet
        exact ⟨by rw [HD.out]; exact HWD, HBD, HFD⟩
      | false =>
        rw [hl, if_neg (by decide)] at hmd
        subst hmd
        have HBR : Hid _ := HBW9.out B q p l r o3 wc HW3.out HR.out.1 HR.out.2.1 HR.out.2.2.1 (fun x hx => HZ.out x (by simp [hx])) HR.out.2.2.2.1 (by have := HO3.out.2; omega)
        unfold pV at HBR
        rw [hl] at b1 HBR
        have b0 := rcell (HFD2.out wc HF3.out) 0 _ rfl
        have b2 := rcell (HFD2.out wc HF3.out) 2 _ rfl
        have b3 := rcell (HFD2.out wc HF3.out) 3 _ rfl
        have b4 := rcell (HFD2.out wc HF3.out) 4 _ rfl
        clear hl
        go_wp2_with (go_at_call 51; refine Calls.mono HBR.out ?_; rintro e wd ⟨rfl, hw, hb, hf⟩; have HWD : Hid (Wq B wd q (l.drop (Tr.sk (pks l) p.kd.toNat)) (o3 ++ ([wS 40, nmw p] ++ (spW n p.kd.toNat l ++ [wS 41])))) := hw; have HBD : Hid (Below B w wd) := HB3.out.trans hb; have HFD : Hid (Fw W2 wd) := HF3.out.trans hf; clear hw hb hf)
        go_meet
        exact ⟨HWD, HBD, HFD⟩
    case rest =>
      obtain ⟨HW4, HB4, HF4⟩ := hcut
      clear HW3 HB3 HF3 b1 hmd
      have hT := rcell (HFD2.out wc HF4.out) 3 _ rfl
      obtain ⟨o9, ho9⟩ : ∃ o9, o3 ++ md = o9 := ⟨_, rfl⟩
      obtain ⟨l9, hl9⟩ : ∃ l9, l.drop (Tr.sk (pks l) p.kd.toNat) = l9 := ⟨_, rfl⟩
      rw [ho9, hl9] at HW4
      have HLO : Hid (o9.length + 2 ≤ 1000000) := by
        show _ ≤ _
        rw [← ho9, List.length_append, ← HMD.out]
        have h7 := spW_len n p.kd.toNat l r HR.out.1 HR.out.2.2.1
        have h8 := sk_pks_le l p.kd.toNat r HR.out.1 HR.out.2.2.1
        have h9 := HO3.out.2
        have h5 := HR.out.2.2.2.2
        have h6 := fdw_len p
        have h4 : o3.length ≤ o.length + 2 := by rw [← HO3.out.1, List.length_append]; omega
        split
        · simp only [List.length_cons, List.length_nil]; omega
        · rw [List.length_append, List.length_append]; simp only [List.length_cons, List.length_nil]; omega
      have HSP : Hid (o ++ spO n p l = o9 ++ cpw p) := by
        show _ = _
        unfold spO
        rw [HMD.out, ← ho9, ← HO3.out.1]
        simp only [List.append_assoc]
      have HBW : Hid (Below B w wc) := HB4.out
      have HW : Hid (Wq B wc q l9 o9) := HW4.out
      have HFW : Hid (Fw W2 wc) := HF4.out
      have HL9 : Hid (l.drop (Tr.sk (pks l) p.kd.toNat) = l9) := hl9
      have HF20 : Hid (Fw w W2) := HF2.out
      clear ho9 hl9 HW4 HB4 HF4
      obtain ⟨T, hTe⟩ : ∃ T, p.cp = T := ⟨_, rfl⟩
      have HTE : Hid (p.cp = T) := hTe
      have kT : wc.cell? ⟨pb, 3, none⟩ = some (.string T) := by rw [← hTe]; exact hT
      have HFD3 : Hid (∀ wd, Fw W2 wd → wd.cell? ⟨pb, 3, none⟩ = some (.string T)) := fun wd hf => by rw [← HTE.out]; exact rcell (HFD2.out wd hf) 3 _ rfl
      clear hT hTe
      by_cases h0 : T = ⟨#[]⟩
      · have d0 : T.toList.isEmpty = true := by rw [bs_empty]; exact decide_eq_true h0
        have HE : Hid (cpw p = []) := by unfold cpw; exact if_pos (HTE.out.trans h0)
        clear h0
        go_wp2_with fail
        go_end0
        exact ⟨rfl, by rw [HSP.out, HL9.out, HE.out, List.append_nil]; exact HW.out, HBW.out, HF20.out.trans HFW.out⟩
      · have d0 : T.toList.isEmpty = false := by rw [bs_empty]; exact decide_eq_false h0
        have HE : Hid (cpw p = [wS 64, wN T]) := by unfold cpw; rw [HTE.out]; exact if_neg h0
        clear h0
        go_upto_region 8 with fail
        refine wp_region_noPanic ?_
        refine wp_region_held_drew (S := fun W => W.cell? ⟨pb, 3, none⟩ = some (.string T)) (by kernel_rfl) (show wc.drew.cell? _ = _ from kT) (fun hHeld => ?_)
        refine wpAnyH_take (i := 0) (oi := { dst := _, op := _, type := _, pos := _, after := _, guard := _ }) (v := ?_) rfl (by kernel_rfl) (by kernel_rfl) (by kernel_rfl) (fun _ _ _ h => h) (Or.inl ⟨by rfl, ?_⟩) (by assumption) ?_
        rotate_left
        · intro W hSw
          (try dsimp only at hSw)
          go_simp
          (try with_reducible rfl)
        try simp only [Act.put, List.setIfInBounds_toArray, List.set_cons_zero, List.set_cons_succ]
        refine wpAnyH_take (i := 2) (oi := { dst := _, op := _, type := _, pos := _, after := _, guard := _ }) (v := ?_) rfl (by kernel_rfl) (by kernel_rfl) (by kernel_rfl) (fun _ _ _ h => h) (Or.inl ⟨by rfl, ?_⟩) (by assumption) ?_
        rotate_left
        · intro W hSw
          (try dsimp only at hSw)
          go_simp
          (try with_reducible rfl)
        try simp only [Act.put, List.setIfInBounds_toArray, List.set_cons_zero, List.set_cons_succ]
        refine wpAnyH_take (i := 3) (oi := { dst := _, op := _, type := _, pos := _, after := _, guard := _ }) (v := ?_) rfl (by kernel_rfl) (by kernel_rfl) (by kernel_rfl) (fun _ _ _ h => h) (Or.inl ⟨by rfl, ?_⟩) (by assumption) ?_
        rotate_left
        · intro W hSw
          (try dsimp only at hSw)
          have hs1 := hSw
          go_simp
          (try with_reducible rfl)
        try simp only [Act.put, List.setIfInBounds_toArray, List.set_cons_zero, List.set_cons_succ]
        refine wpAnyH_ready (rs := [1]) (by kernel_rfl) (by simp) ?_
        refine AllReadyH.cons (o := { dst := _, op := _, type := _, pos := _, after := _, guard := _ }) rfl (fun K hK => ?_) AllReadyH.nil
        go_simp
        refine (sign_any _ _).mono ?_
        rintro e wa ⟨rfl, hb⟩
        have HBA : Hid (Below wc.heap.size wc wa) := (Below.drew (Below.refl _ _)).trans hb
        clear hb
        go_wp2_with fail
        refine hK.out _ _ ?_ (fun hHeld => ?_)
        · exact below_cell HBA.out kT
        clear hK K
        try simp only [Act.put, List.setIfInBounds_toArray, List.set_cons_zero, List.set_cons_succ]
        refine wpAnyH_ready (rs := [4]) (by kernel_rfl) (by simp) ?_
        refine AllReadyH.cons (o := { dst := _, op := _, type := _, pos := _, after := _, guard := _ }) rfl (fun K hK => ?_) AllReadyH.nil
        go_simp
        refine (qname_any _ _).mono ?_
        rintro e wb ⟨rfl, hb⟩
        have HBB : Hid (Below wc.heap.size wc wb) := below_trans HBA.out hb
        clear hb
        go_wp2_with fail
        refine hK.out _ _ ?_ (fun hHeld => ?_)
        · exact below_cell HBB.out kT
        clear hK K
        try simp only [Act.put, List.setIfInBounds_toArray, List.set_cons_zero, List.set_cons_succ]
        refine wpAnyH_ready (rs := [5]) (by kernel_rfl) (by simp) ?_
        refine AllReadyH.cons (o := { dst := _, op := _, type := _, pos := _, after := _, guard := _ }) rfl (fun K hK => ?_) AllReadyH.nil
        go_simp
        refine hK.out _ _ ?_ (fun hHeld => ?_)
        · exact cell_up _ hHeld
        clear hK K
        try simp only [Act.put, List.setIfInBounds_toArray, List.set_cons_zero, List.set_cons_succ]
        refine wpAnyH_ready (rs := [6]) (by kernel_rfl) (by simp) ?_
        refine AllReadyH.cons (o := { dst := _, op := _, type := _, pos := _, after := _, guard := _ }) rfl (fun K hK => ?_) AllReadyH.nil
        go_simp
        refine (put_any (ws := [wS 64, wN T]) 2 _ (HW.out.up (below_trans HBB.out (bel_up _ _))) rfl (by rw [show wC [wS 64, wN T] = [.int .i64 5, .string ⟨#[64]⟩, .int .i64 0, .int .i64 0, .int .i64 1, .string T, .int .i64 0, .int .i64 0] by simp [wC, wN, wS]]; exact news8 wb _ _ _ _ _ _ _ _ _) (by have := HLO.out; omega)).mono ?_
        rintro e wd ⟨rfl, hw, hb, hf⟩
        have HWD : Hid (Wq B wd q l9 (o9 ++ [wS 64, wN T])) := hw
        have HBD : Hid (Below B w wd) := HBW.out.trans (((below_trans HBB.out (bel_up _ _)).mono HW.out.size).trans hb)
        have HFD : Hid (Fw W2 wd) := HFW.out.trans ((Fw.bel (below_trans HBB.out (bel_up _ _))).trans hf)
        have hcc : wd.cell? ⟨pb, 3, none⟩ = some (.string T) := HFD3.out wd HFD.out
        clear hw hb hf
        go_wp2_with fail
        refine hK.out _ _ ?_ (fun hHeld => ?_)
        · exact hcc
        clear hK K
        try simp only [Act.put, List.setIfInBounds_toArray, List.set_cons_zero, List.set_cons_succ]
        clear hcc
        refine wpAnyH_done (by kernel_rfl) ?_ _
        clear hHeld
        refine NoPanic.normal ?_
        go_wp2_with fail
        go_end0
        exact ⟨rfl, by rw [HSP.out, HL9.out, HE.out]; exact HWD.out, HBD.out, HF20.out.trans HFD.out⟩
end Go.Proofs.YtcmhbcfgikmblabGreatDoor.Qy
namespace Go.Proofs.YtcmhbcfgikmblabGreatDoor.Qy
open Go.RowKit Go.Maps

theorem sk_drop_two (l : List Pn) (q a b : Nat) (h : Tr.rt (pks l) = some q) (hs : a + b ≤ q) : (l.drop (Tr.sk (pks l) a)).drop (Tr.sk (pks (l.drop (Tr.sk (pks l) a))) b) = l.drop (Tr.sk (pks l) (a + b)) := by
  rw [List.drop_drop, Tr.sk_add (pks l) q a b h hs, pks_drop]
set_option maxRecDepth 100000 in
set_option maxHeartbeats 8000000 in
theorem bracket_w (n : Nat) (hP : ∀ m, m < n → PW m) : BW n := by
  intro B q p l r o w h hr h0 hk hz hn hl
  have HP : Hid (∀ m, m < n → PW m) := hP
  have HW0 : Hid (Wq B w q l o) := h
  have HB0 : Hid (B ≤ w.heap.size) := h.size
  have HR : Hid (Tr.rt (pks l) = some r ∧ p.kd.toNat ≤ r ∧ l.length ≤ n ∧ o.length + 7 * l.length + 3 ≤ 1000000 ∧ Lz l) := ⟨hr, hk, hn, hl, hz⟩
  obtain ⟨K, hK⟩ : ∃ K : Nat, p.kd.toNat = K := ⟨_, rfl⟩
  have hKd : p.kd = (K : Int) := by omega
  rw [hK] at HR ⊢
  obtain ⟨T, hT⟩ : ∃ T, (if p.nm = ⟨#[]⟩ then (⟨#[95]⟩ : ByteArray) else p.nm) = T := ⟨_, rfl⟩
  have HNM : Hid (nmw p = wN T) := by
    show _ = _
    rw [← hT]
    unfold nmw
    split
    · rfl
    · rfl
  have HT : Hid _ := hT
  have HKB : Hid (K ≤ 1000000) := by
    have h9 := Tr.rt_le (pks l) r hr
    have h8 : (pks l).length = l.length := by simp [pks]
    show _ ≤ _
    omega
  obtain ⟨pb, hpb⟩ : ∃ pb, w.heap.size = pb := ⟨_, rfl⟩
  obtain ⟨W1, hW1⟩ : ∃ W1, W1 = w.alloc (.cells #[.string p.nm, .bool p.lit, .string p.fd, .string p.cp, .int .i64 p.kd] 46) := ⟨_, rfl⟩
  have hb1 : Below w.heap.size w W1 := by rw [hW1]; exact bel_up _ _
  have hn1 := heap_new w (.cells #[.string p.nm, .bool p.lit, .string p.fd, .string p.cp, .int .i64 p.kd] 46)
  rw [← hW1, hpb] at hn1
  have HN1 : Hid (W1.heap[pb]? = some (.cells #[.string p.nm, .bool p.lit, .string p.fd, .string p.cp, .int .i64 p.kd] 46 (0, 0))) := hn1
  have HB1 : Hid (Below w.heap.size w W1) := hb1
  have HW1 : Hid (Wq B W1 q l o) := h.up hb1
  have b0 := rcell hn1 0 _ rfl
  have HKD : Hid (p.kd = (K : Int)) := hKd
  clear h hr h0 hk hz hn hl hP hK hT hb1 hn1 hKd
  go_enter Tryz.func51, Tryz.ntmps51
  go_upto_region 1 with fail
  first | rw [← hW1, hpb] | rw [← hW1]
  clear hW1 hpb
  go_upto_region 2 with fail
  go_upto_if 8 with fail
  go_cut [4] from 8 to 8 (fun v4 wd => v4 = .string T ∧ wd = W1)
  case first =>
    by_cases hm : p.nm = ⟨#[]⟩
    · have d0 : p.nm.toList.isEmpty = true := by rw [bs_empty]; exact decide_eq_true hm
      have HE : Hid (T = ⟨#[95]⟩) := by show _ = _; rw [← HT.out, if_pos hm]
      rw [d0]
      clear hm d0
      go_wp2_with fail
      go_meet
      exact ⟨by rw [HE.out], rfl⟩
    · have d0 : p.nm.toList.isEmpty = false := by rw [bs_empty]; exact decide_eq_false hm
      have HE : Hid (T = p.nm) := by show _ = _; rw [← HT.out, if_neg hm]
      rw [d0]
      clear hm d0
      go_wp2_with fail
      go_meet
      exact ⟨by rw [HE.out], rfl⟩
  case rest =>
    obtain ⟨rfl, hwc⟩ := hcut
    rw [hwc]
    clear hwc b0
    have HPU : Hid (∀ wb, Below W1.heap.size W1 wb → Calls Tryz.prog 47 #[.pointer (some ⟨q, 0, none⟩), .slice (some ⟨wb.heap.size, 0, none⟩) 2 2] (wb.alloc (.cells #[.int .i64 5, .string ⟨#[40]⟩, .int .i64 0, .int .i64 0, .int .i64 1, .string T, .int .i64 0, .int .i64 0] 77)) fun e w' => e = .returned (.tuple #[]) ∧ Wq B w' q l (o ++ [wS 40, wN T]) ∧ Below B W1 w' ∧ Fw W1 w') := fun wb hwb => by
      have hup := below_trans hwb (bel_up wb (.cells #[.int .i64 5, .string ⟨#[40]⟩, .int .i64 0, .int .i64 0, .int .i64 1, .string T, .int .i64 0, .int .i64 0] 77))
      have ec : wC [wS 40, wN T] = [.int .i64 5, .string ⟨#[40]⟩, .int .i64 0, .int .i64 0, .int .i64 1, .string T, .int .i64 0, .int .i64 0] := by simp [wC, wN, wS]
      refine (put_any (ws := [wS 40, wN T]) 2 _ (HW1.out.up hup) rfl (by rw [ec]; exact news8 wb _ _ _ _ _ _ _ _ _) (by have := HR.out.2.2.2.1; omega)).mono ?_
      rintro e w' ⟨h1, h2, h3, h4⟩
      exact ⟨h1, h2, (hup.mono HW1.out.size).trans h3, (Fw.bel hup).trans h4⟩
    go_upto_region 5 with first | (go_at_call 49; refine (sign_any _ _).mono ?_; rintro e wa ⟨rfl, hb⟩; have HBA : Hid (Below W1.heap.size W1 wa) := hb; clear hb) | (go_at_call 48; refine (qname_any _ _).mono ?_; rintro e wb ⟨rfl, hb⟩; have HBB : Hid (Below W1.heap.size W1 wb) := below_trans HBA.out hb; clear hb) | (go_at_call 47; refine Calls.mono (HPU.out _ HBB.out) ?_; rintro e w2 ⟨rfl, hw, hb, hf⟩; have HW2 : Hid (Wq B w2 q l (o ++ [wS 40, wN T])) := hw; have HB2 : Hid (Below B w w2) := (HB1.out.mono HB0.out).trans hb; have HF2 : Hid (Fw W1 w2) := hf; clear hw hb hf)
    have b4 := rcell (HF2.out _ _ _ (.inl rfl) HN1.out) 4 _ rfl
    rw [HKD.out] at b4
    obtain ⟨oT, hoT⟩ : ∃ oT, o ++ [wS 40, wN T] ++ spW n K l = oT := ⟨_, rfl⟩
    have HOT : Hid (o ++ [wS 40, wN T] ++ spW n K l = oT) := hoT
    obtain ⟨lT, hlT⟩ : ∃ lT, l.drop (Tr.sk (pks l) K) = lT := ⟨_, rfl⟩
    have HLT : Hid (l.drop (Tr.sk (pks l) K) = lT) := hlT
    have HLEN : Hid (oT.length + 1 ≤ 1000000) := by
      show _ ≤ _
      rw [← hoT, List.length_append, List.length_append]
      have h7 := spW_len n K l r HR.out.1 HR.out.2.1
      have h8 := sk_pks_le l K r HR.out.1 HR.out.2.1
      have h9 := HR.out.2.2.2.1
      simp only [List.length_cons, List.length_nil]
      omega
    clear hoT hlT
    go_upto_region 6 with fail
    clear b4
    go_loopg [17] K (fun gm v17 wr => ∃ (j m : Nat) (l' : List Pn) (r' : Nat) (o' : List Wd), v17 = .int .i64 (j : Int) ∧ Hid (j ≤ K ∧ gm = K - j) ∧ Hid (Wq B wr q l' o') ∧ Hid (Tr.rt (pks l') = some r' ∧ K - j ≤ r' ∧ l'.length ≤ m ∧ m ≤ n ∧ Lz l' ∧ o'.length + 7 * l'.length ≤ 1000000) ∧ Hid (o' ++ spW m (K - j) l' = oT ∧ l'.drop (Tr.sk (pks l') (K - j)) = lT) ∧ Hid (Below B w wr) ∧ Hid (Fw W1 wr))
    case atStart => exact ⟨0, n, l, r, o ++ [wS 40, wN T], rfl, ⟨Nat.zero_le _, rfl⟩, HW2, ⟨HR.out.1, HR.out.2.1, HR.out.2.2.1, Nat.le_refl _, HR.out.2.2.2.2, by rw [List.length_append]; simp only [List.length_cons, List.length_nil]; have := HR.out.2.2.2.1; omega⟩, ⟨HOT.out, HLT.out⟩, HB2, HF2⟩
    case round =>
      clear HW2 HB2 HF2
      obtain ⟨j, m, l', r', o', rfl, HJ, HW, HC, HE, HB, HF⟩ := hrel
      by_cases hj : j < K
      · have e1 : decide ((j : Int) < (K : Int)) = true := by rw [decide_eq_true_eq]; omega
        have e2 : decide (j < K) = true := by rw [decide_eq_true_eq]; omega
        have HJL : Hid (j < K) := hj
        have hwi := w64n j (by have := HKB.out; omega)
        obtain ⟨c1, c2, c3, c4, c5, c6⟩ := HC.out
        obtain ⟨e5, e6⟩ := HE.out
        obtain ⟨k, hkj⟩ : ∃ k, K - j = k + 1 := ⟨K - j - 1, by omega⟩
        rw [hkj] at c2 e5 e6
        cases l' with
        | nil =>
          exfalso
          have : r' = 0 := (Option.some.inj (show some 0 = some r' from c1)).symm
          omega
        | cons p' l2 =>
          obtain ⟨q2, hq2, h0, h1, hr2⟩ := Tr.rt_cons (show Tr.rt (p'.kd :: pks l2) = some r' from c1)
          obtain ⟨m, rfl⟩ : ∃ m', m = m' + 1 := ⟨m - 1, by simp only [List.length_cons] at c3; omega⟩
          have hkq : p'.kd.toNat ≤ q2 := by omega
          have hsum : p'.kd.toNat + k ≤ q2 := by omega
          have hl2 : l2.length ≤ m := by simp only [List.length_cons] at c3; omega
          have HCA : Hid _ := HP.out m (by omega) B q p' l2 q2 o' wr HW.out hq2 h0 hkq c5 hl2 (by simp only [List.length_cons] at c6; omega)
          obtain ⟨_, hrd, _⟩ := Tr.sk_ok (pks l2) q2 p'.kd.toNat hq2 hkq
          rw [← pks_drop] at hrd
          have hsp := spO_len m p' l2 (spW_len m p'.kd.toNat l2 q2 hq2 hkq)
          have hsl := sk_pks_le l2 p'.kd.toNat q2 hq2 hkq
          rw [spW_step, ← List.append_assoc] at e5
          have e7 : (p' :: l2).drop (Tr.sk (pks (p' :: l2)) (k + 1)) = (l2.drop (Tr.sk (pks l2) p'.kd.toNat)).drop (Tr.sk (pks (l2.drop (Tr.sk (pks l2) p'.kd.toNat))) k) := by
            rw [sk_drop_two l2 q2 _ _ hq2 hsum]
            show (p' :: l2).drop (Tr.sk (p'.kd :: pks l2) (k + 1)) = _
            rw [Tr.sk_eq, Nat.add_comm k, Nat.add_comm 1, List.drop_succ_cons]
          rw [e7] at e6
          have HNX : Hid (Tr.rt (pks (l2.drop (Tr.sk (pks l2) p'.kd.toNat))) = some (q2 - p'.kd.toNat) ∧ K - (j + 1) ≤ q2 - p'.kd.toNat ∧ (l2.drop (Tr.sk (pks l2) p'.kd.toNat)).length ≤ m ∧ m ≤ n ∧ Lz (l2.drop (Tr.sk (pks l2) p'.kd.toNat)) ∧ (o' ++ spO m p' l2).length + 7 * (l2.drop (Tr.sk (pks l2) p'.kd.toNat)).length ≤ 1000000) := by
            refine ⟨hrd, by omega, by rw [List.length_drop]; omega, by omega, fun x hx => c5 x (by simp [List.mem_of_mem_drop hx]), ?_⟩
            rw [List.length_append, List.length_drop]
            simp only [List.length_cons] at c6
            omega
          have HEX : Hid ((o' ++ spO m p' l2) ++ spW m (K - (j + 1)) (l2.drop (Tr.sk (pks l2) p'.kd.toNat)) = oT ∧ (l2.drop (Tr.sk (pks l2) p'.kd.toNat)).drop (Tr.sk (pks (l2.drop (Tr.sk (pks l2) p'.kd.toNat))) (K - (j + 1))) = lT) := by
            rw [show K - (j + 1) = k by omega]
            exact ⟨e5, e6⟩
          clear hj c1 c2 c3 c4 c5 c6 e5 e6 e7 hkj hq2 h0 h1 hr2 hkq hsum hl2 hrd hsp hsl HC HE
          go_wp2_with (go_at_call 32; refine Calls.mono HCA.out ?_; rintro e w3 ⟨rfl, hw, hb, hf⟩; have HW3 : Hid (Wq B w3 q (l2.drop (Tr.sk (pks l2) p'.kd.toNat)) (o' ++ spO m p' l2)) := hw; have HB3 : Hid (Below B w w3) := HB.out.trans hb; have HF3 : Hid (Fw W1 w3) := HF.out.trans hf; clear hw hb hf)
          go_roundg (K - (j + 1))
          case measure => have := HJ.out; have := HJL.out; omega
          case rel => exact ⟨j + 1, m, _, _, _, by simp, ⟨HJL.out, rfl⟩, HW3, HNX, HEX, HB3, HF3⟩
      · have e1 : decide ((j : Int) < (K : Int)) = false := by rw [decide_eq_false_iff_not]; omega
        have e2 : decide (j < K) = false := by rw [decide_eq_false_iff_not]; omega
        obtain ⟨e5, e6⟩ := HE.out
        have hkj : K - j = 0 := by have := HJ.out; omega
        rw [hkj] at e5 e6
        have e8 : spW m 0 l' = [] := by cases m <;> rfl
        rw [e8, List.append_nil] at e5
        rw [Tr.sk_zero, List.drop_zero] at e6
        subst e5 e6
        have HPU2 : Hid (∀ wb, Below wr.heap.size wr wb → Calls Tryz.prog 47 #[.pointer (some ⟨q, 0, none⟩), .slice (some ⟨wb.heap.size, 0, none⟩) 1 1] (wb.alloc (.cells #[.int .i64 5, .string ⟨#[41]⟩, .int .i64 0, .int .i64 0] 77)) fun e w' => e = .returned (.tuple #[]) ∧ Wq B w' q l' (o' ++ [wS 41]) ∧ Below B wr w' ∧ Fw wr w') := fun wb hwb => by
          have hup := below_trans hwb (bel_up wb (.cells #[.int .i64 5, .string ⟨#[41]⟩, .int .i64 0, .int .i64 0] 77))
          have ec : wC [wS 41] = [.int .i64 5, .string ⟨#[41]⟩, .int .i64 0, .int .i64 0] := by simp [wC, wS]
          refine (put_any (ws := [wS 41]) 1 _ (HW.out.up hup) rfl (by rw [ec]; exact news4 wb _ _ _ _ _) (by have := HLEN.out; omega)).mono ?_
          rintro e w' ⟨h1, h2, h3, h4⟩
          exact ⟨h1, h2, (hup.mono HW.out.size).trans h3, (Fw.bel hup).trans h4⟩
        clear hj hkj e8
        go_wp2_with first | (go_at_call 49; refine (sign_any _ _).mono ?_; rintro e wa ⟨rfl, hb⟩; have HBA2 : Hid (Below wr.heap.size wr wa) := hb; clear hb) | (go_at_call 47; refine Calls.mono (HPU2.out _ HBA2.out) ?_; rintro e w5 ⟨rfl, hw, hb, hf⟩; have HW5 : Hid (Wq B w5 q l' (o' ++ [wS 41])) := hw; have HB5 : Hid (Below B w w5) := HB.out.trans hb; have HF5 : Hid (Fw w w5) := ((Fw.bel HB1.out).trans HF.out).trans hf; clear hw hb hf)
        go_end0
        refine ⟨rfl, ?_, HB5.out, HF5.out⟩
        have h9 := HW5.out
        rw [← HOT.out, ← HLT.out] at h9
        rw [HNM.out]
        simp only [List.append_assoc] at h9 ⊢
        exact h9
theorem both_w : ∀ (n : Nat), PW n ∧ BW n := by
  intro n
  induction n using Nat.strongRecOn with
  | _ n ih =>
    have hb : BW n := bracket_w n (fun m hm => (ih m hm).1)
    exact ⟨pattern_w n hb, hb⟩
end Go.Proofs.YtcmhbcfgikmblabGreatDoor.Qy
