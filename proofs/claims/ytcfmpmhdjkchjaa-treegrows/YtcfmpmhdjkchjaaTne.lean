import Derived.Test.YtcfmpmhdjkchjaaTnr
import Derived.Test.YtcfmpmhdjkchjaaTkd
namespace Go.Proofs.Ytcfmpmhdjkchjaa
open Go.RowKit Go.Maps

theorem next_kN {c : Code} {Q : Exit → Act → World → Prop} {K : Act → World → Prop} {a : Act} {w : World} (h : ∀ a w, Code.wp Try.prog c Q a w → K a w) (h2 : Code.wp Try.prog c Q a w) : K a w := h a w h2
theorem ex_nextN {K : Act → World → Prop} {Q : Exit → Act → World → Prop} {a : Act} {w : World} (h : K a w) : Exit.then K Q .normal a w := h
theorem std_in {t : List Nd} (hF : Fo (kds t)) (c : Nat) (hc : c < t.length) : std t (c : Int) = true := by
  rcases @rts_fo t with ⟨r, _, h2⟩ | ⟨h1, _⟩
  · unfold std
    rw [h2]
    simp only [Bool.and_eq_true, decide_eq_true_eq]
    omega
  · obtain ⟨r, hr⟩ := hF
    rw [hr] at h1; cases h1
theorem prt_plN {t : List Nd} (hF : Fo (kds t)) (c : Nat) (hc : c < t.length) : prt t (c : Int) = pl (kds t) c := by
  unfold prt
  rw [if_pos (std_in hF c hc)]
  rfl
theorem kls_kl {t : List Nd} (hF : Fo (kds t)) (c : Nat) (hc : c < t.length) : kls t (c : Int) = kl (kds t) c (kA (kds t) c) := by
  unfold kls
  rw [if_pos (std_in hF c hc)]
  rfl
set_option maxRecDepth 1000000 in
set_option maxHeartbeats 32000000 in
theorem nested_any {v : Value} {t : List Nd} (w : World) (h : Ns w v t) (hs : Sm t) {rs : List (Int × Int)} {lo hi : Int} (hSp : Sp (kys t) rs) (hsq : sq lo rs hi) :
    Calls Try.prog 26 #[v] w fun e w' => e = .returned (.bool true) ∧ Below w.heap.size w w' := by
  have hF : Fo (kds t) := ⟨_, hSp.fo⟩
  have HT : Hid (Ns w v t) := h
  have HS : Hid (Sm t) := hs
  have HF : Hid (Fo (kds t)) := hF
  have HNA : Hid (∀ a, a < t.length → Na t a) := fun a ha => hSp.na a ha
  have HNR : Hid (∀ i, i + 1 < rA (kds t) 0 → (t.getD (wA (kds t) 0 i) ndd).tt ≤ (t.getD (wA (kds t) 0 (i + 1)) ndd).fr ∧ wA (kds t) 0 i < t.length) := fun i hi => hSp.nr hsq i hi
  obtain ⟨ta, tc, rfl⟩ := h.form
  clear h hs hF hSp hsq
  obtain ⟨n, hn⟩ : ∃ n, t.length = n := ⟨_, rfl⟩
  have HN : Hid (t.length = n) := hn
  have HNM : Hid (n ≤ 1954687338211) := by have h7 := HS.out; unfold Sm at h7; show _ ≤ _; omega
  rw [hn] at HT ⊢
  clear hn
  go_enter Try.func26, Try.ntmps26
  go_wp2_with fail
  go_loopg [3, 4] n (fun gm v3 v4 wr => ∃ (a r : Nat), v3 = .int .i64 (lrt (kds t) r) ∧ v4 = .int .i64 (a : Int) ∧ Hid (gm = n - a ∧ a ≤ n) ∧ Hid (Ri (kds t) a r) ∧ Hid (Below w.heap.size w wr))
  case atStart => exact ⟨0, 0, rfl, rfl, ⟨rfl, Nat.zero_le _⟩, Ri.start _, Below.refl _ _⟩
  case round =>
    obtain ⟨a, r, rfl, rfl, HI, HRI, HB⟩ := hrel
    by_cases ha : a < n
    · have g1 : (a : Int) < (n : Int) := by omega
      have g2 : a < n := ha
      have HA : Hid (a < n) := ha
      have HAT : Hid (a < t.length) := by show _ < _; rw [HN.out]; exact ha
      obtain ⟨gt, go_, rfl, x0, x1, x2, x3, x4, x5, x6⟩ := (HT.out.up HB.out).all7 a HAT.out
      have hNa := HNA.out a HAT.out
      obtain ⟨af, haf⟩ : ∃ af, (t.getD a ndd).fr = af := ⟨_, rfl⟩
      obtain ⟨at_, hat⟩ : ∃ at_, (t.getD a ndd).tt = at_ := ⟨_, rfl⟩
      have HAF : Hid ((t.getD a ndd).fr = af ∧ (t.getD a ndd).tt = at_) := ⟨haf, hat⟩
      rw [haf] at x3
      rw [hat] at x4
      rw [hNa.k] at x5
      have e1 : decide (at_ < af) = false := by rw [decide_eq_false_iff_not, ← haf, ← hat]; have := hNa.p; omega
      have HX : Hid (∀ W, Below wr.heap.size wr W → W.cell? ⟨gt, go_ + a * 7 + 3, none⟩ = some (.int .i64 af) ∧ W.cell? ⟨gt, go_ + a * 7 + 4, none⟩ = some (.int .i64 at_) ∧ W.cell? ⟨gt, go_ + a * 7 + 5, none⟩ = some (.int .i64 (kA (kds t) a : Int))) := fun W hb => ⟨below_cell hb x3, below_cell hb x4, below_cell hb x5⟩
      have HPR : Hid (∀ W, Below w.heap.size w W → Calls Try.prog 29 #[.slice (some ⟨gt, go_, none⟩) n tc, .int .i64 (a : Int)] W fun e w' => e = .returned (.int .i64 (pl (kds t) a)) ∧ W = w') := fun W hb => by
        have h7 := parent_any W (HT.out.up hb) HS.out (a : Int)
        rw [prt_plN HF.out a HAT.out] at h7
        exact h7
      obtain ⟨nk, hnk⟩ : ∃ nk, kA (kds t) a = nk := ⟨_, rfl⟩
      have HNK : Hid (kA (kds t) a = nk) := hnk
      have HKD : Hid (∀ W, Below w.heap.size w W → Calls Try.prog 30 #[.slice (some ⟨gt, go_, none⟩) n tc, .int .i64 (a : Int)] W fun e w' => ∃ v', e = .returned v' ∧ w'.ownsRow W.heap.size 3 1 v' nk (iC (kl (kds t) a nk)) ∧ Below W.heap.size W w') := fun W hb => by
        have h7 := kids_any W (HT.out.up hb) HS.out (a : Int)
        rw [kls_kl HF.out a HAT.out, kl_len, hnk] at h7
        exact h7
      have HNKM : Hid (nk ≤ n) := by
        show _ ≤ _
        rcases Nat.eq_zero_or_pos nk with e | e
        · omega
        · have h7 := hNa.c (nk - 1) (by rw [hnk]; omega)
          have h9 := (HF.out.step a (by rw [kds_len]; exact HAT.out)).2.2.1
          have h8 := HF.out.mono (a + 1) 0 (nk - 1) (by rw [kds_len]; have := HAT.out; omega) (Nat.zero_le _) (by omega)
          rw [wA_zero] at h8
          rw [HN.out] at h7
          omega
      rw [hnk] at x5 HX
      have hwa := w64n a (by have := HNM.out; have := HA.out; omega)
      have HWA : Hid (IntKind.i64.wrap ((a : Int) + 1) = ((a + 1 : Nat) : Int)) := hwa
      clear ha haf hat hNa hnk hwa x0 x1 x2 x6
      go_upto_region 5 with fail
      go_region
      clear x3 x4 x5
      obtain ⟨W4, hW4⟩ : ∃ W4, wr.drew = W4 := ⟨_, rfl⟩
      have HB4 : Hid (Below wr.heap.size wr W4) := by rw [← hW4]; exact Below.drew (Below.refl _ _)
      rw [hW4]
      clear hW4 e1
      obtain ⟨pp, hpp⟩ : ∃ pp, pl (kds t) a = pp := ⟨_, rfl⟩
      have HPP : Hid (pl (kds t) a = pp) := hpp
      rw [hpp] at HPR
      clear hpp
      go_upto_if 28 with (go_at_call 29; refine Calls.mono (HPR.out W4 (below_trans HB.out HB4.out)) ?_; rintro ee ww ⟨rfl, rfl⟩)
      go_cut [2, 3] from 28 to 44 (fun _ v3 wx => ∃ r' : Nat, v3 = .int .i64 (lrt (kds t) r') ∧ Hid (Ri (kds t) (a + 1) r') ∧ Hid (Below W4.heap.size W4 wx))
      case first =>
        rcases Ri.next HF.out (by rw [kds_len]; exact HAT.out) HRI.out with ⟨n1, n2, n3, n4⟩ | ⟨n1, n2⟩
        · rw [HPP.out] at n1
          subst n1
          have HR1 : Hid (Ri (kds t) (a + 1) (r + 1)) := n2
          have HRL : Hid (lrt (kds t) (r + 1) = (a : Int)) := by show _ = _; unfold lrt; rw [if_neg (by omega), show r + 1 - 1 = r by omega, n3]
          by_cases hr : r = 0
          · subst hr
            have e0 : lrt (kds t) 0 = -1 := rfl
            rw [e0]
            clear n2 n3 n4 e0
            go_upto_region 8 with fail
            refine wp_region_noPanic ?_
            refine wp_region_held_drew (S := fun _ => True) (by kernel_rfl) trivial (fun hHeld => ?_)
            refine wpAnyH_take (i := 0) (oi := { dst := _, op := _, type := _, pos := _, after := _, guard := _ }) (v := ?_) rfl (by kernel_rfl) (by kernel_rfl) (by kernel_rfl) (fun _ _ _ h => h) (Or.inl ⟨by rfl, ?_⟩) (by assumption) ?_
            rotate_left
            · intro W hSw
              (try dsimp only at hSw)
              go_simp
              (try with_reducible rfl)
            try simp only [Act.put, List.setIfInBounds_toArray, List.set_cons_zero, List.set_cons_succ]
            refine wpAnyH_take (i := 1) (oi := { dst := _, op := _, type := _, pos := _, after := _, guard := _ }) (v := ?_) rfl (by kernel_rfl) (by kernel_rfl) (by kernel_rfl) (fun _ _ _ h => h) (Or.inl ⟨by rfl, ?_⟩) (by assumption) ?_
            rotate_left
            · intro W hSw
              (try dsimp only at hSw)
              go_simp
              (try with_reducible rfl)
            try simp only [Act.put, List.setIfInBounds_toArray, List.set_cons_zero, List.set_cons_succ]
            refine wpAnyH_take (i := 2) (oi := { dst := _, op := _, type := _, pos := _, after := _, guard := _ }) (v := ?_) rfl (by kernel_rfl) (by kernel_rfl) (by kernel_rfl) (fun _ _ _ h => h) (Or.inl ⟨by rfl, ?_⟩) (by assumption) ?_
            rotate_left
            · intro W hSw
              (try dsimp only at hSw)
              go_simp
              (try with_reducible rfl)
            try simp only [Act.put, List.setIfInBounds_toArray, List.set_cons_zero, List.set_cons_succ]
            refine wpAnyH_take (i := 3) (oi := { dst := _, op := _, type := _, pos := _, after := _, guard := _ }) rfl (by kernel_rfl) (by kernel_rfl) (by kernel_rfl) (fun _ _ _ h => h) (Or.inr ⟨by rfl, rfl⟩) (by assumption) ?_
            try simp only [Act.put, List.setIfInBounds_toArray, List.set_cons_zero, List.set_cons_succ]
            refine wpAnyH_take (i := 4) (oi := { dst := _, op := _, type := _, pos := _, after := _, guard := _ }) rfl (by kernel_rfl) (by kernel_rfl) (by kernel_rfl) (fun _ _ _ h => h) (Or.inr ⟨by rfl, rfl⟩) (by assumption) ?_
            try simp only [Act.put, List.setIfInBounds_toArray, List.set_cons_zero, List.set_cons_succ]
            refine wpAnyH_take (i := 5) (oi := { dst := _, op := _, type := _, pos := _, after := _, guard := _ }) rfl (by kernel_rfl) (by kernel_rfl) (by kernel_rfl) (fun _ _ _ h => h) (Or.inr ⟨by rfl, rfl⟩) (by assumption) ?_
            try simp only [Act.put, List.setIfInBounds_toArray, List.set_cons_zero, List.set_cons_succ]
            refine wpAnyH_take (i := 6) (oi := { dst := _, op := _, type := _, pos := _, after := _, guard := _ }) rfl (by kernel_rfl) (by kernel_rfl) (by kernel_rfl) (fun _ _ _ h => h) (Or.inr ⟨by rfl, rfl⟩) (by assumption) ?_
            try simp only [Act.put, List.setIfInBounds_toArray, List.set_cons_zero, List.set_cons_succ]
            refine wpAnyH_take (i := 7) (oi := { dst := _, op := _, type := _, pos := _, after := _, guard := _ }) rfl (by kernel_rfl) (by kernel_rfl) (by kernel_rfl) (fun _ _ _ h => h) (Or.inr ⟨by rfl, rfl⟩) (by assumption) ?_
            try simp only [Act.put, List.setIfInBounds_toArray, List.set_cons_zero, List.set_cons_succ]
            refine wpAnyH_take (i := 8) (oi := { dst := _, op := _, type := _, pos := _, after := _, guard := _ }) rfl (by kernel_rfl) (by kernel_rfl) (by kernel_rfl) (fun _ _ _ h => h) (Or.inr ⟨by rfl, rfl⟩) (by assumption) ?_
            try simp only [Act.put, List.setIfInBounds_toArray, List.set_cons_zero, List.set_cons_succ]
            refine wpAnyH_take (i := 9) (oi := { dst := _, op := _, type := _, pos := _, after := _, guard := _ }) rfl (by kernel_rfl) (by kernel_rfl) (by kernel_rfl) (fun _ _ _ h => h) (Or.inr ⟨by rfl, rfl⟩) (by assumption) ?_
            try simp only [Act.put, List.setIfInBounds_toArray, List.set_cons_zero, List.set_cons_succ]
            refine wpAnyH_take (i := 10) (oi := { dst := _, op := _, type := _, pos := _, after := _, guard := _ }) rfl (by kernel_rfl) (by kernel_rfl) (by kernel_rfl) (fun _ _ _ h => h) (Or.inr ⟨by rfl, rfl⟩) (by assumption) ?_
            try simp only [Act.put, List.setIfInBounds_toArray, List.set_cons_zero, List.set_cons_succ]
            refine wpAnyH_take (i := 11) (oi := { dst := _, op := _, type := _, pos := _, after := _, guard := _ }) rfl (by kernel_rfl) (by kernel_rfl) (by kernel_rfl) (fun _ _ _ h => h) (Or.inr ⟨by rfl, rfl⟩) (by assumption) ?_
            try simp only [Act.put, List.setIfInBounds_toArray, List.set_cons_zero, List.set_cons_succ]
            refine wpAnyH_take (i := 12) (oi := { dst := _, op := _, type := _, pos := _, after := _, guard := _ }) rfl (by kernel_rfl) (by kernel_rfl) (by kernel_rfl) (fun _ _ _ h => h) (Or.inr ⟨by rfl, rfl⟩) (by assumption) ?_
            try simp only [Act.put, List.setIfInBounds_toArray, List.set_cons_zero, List.set_cons_succ]
            refine wpAnyH_take (i := 13) (oi := { dst := _, op := _, type := _, pos := _, after := _, guard := _ }) rfl (by kernel_rfl) (by kernel_rfl) (by kernel_rfl) (fun _ _ _ h => h) (Or.inr ⟨by rfl, rfl⟩) (by assumption) ?_
            try simp only [Act.put, List.setIfInBounds_toArray, List.set_cons_zero, List.set_cons_succ]
            refine wpAnyH_take (i := 14) (oi := { dst := _, op := _, type := _, pos := _, after := _, guard := _ }) (v := ?_) rfl (by kernel_rfl) (by kernel_rfl) (by kernel_rfl) (fun _ _ _ h => h) (Or.inl ⟨by rfl, ?_⟩) (by assumption) ?_
            rotate_left
            · intro W hSw
              (try dsimp only at hSw)
              go_simp
              (try with_reducible rfl)
            try simp only [Act.put, List.setIfInBounds_toArray, List.set_cons_zero, List.set_cons_succ]
            refine wpAnyH_done (by kernel_rfl) ?_ _
            refine NoPanic.normal ?_
            go_wp2_with fail
            go_meet
            exact ⟨0 + 1, by rw [HRL.out], HR1, Below.drew (Below.refl _ _)⟩
          · obtain ⟨h7, h8⟩ := HNR.out (r - 1) (by omega)
            rw [show r - 1 + 1 = r by omega, n3, HAF.out.1] at h7
            have hl : lrt (kds t) r = ((wA (kds t) 0 (r - 1) : Nat) : Int) := by unfold lrt; rw [if_neg hr]
            obtain ⟨b, hb⟩ : ∃ b, wA (kds t) 0 (r - 1) = b := ⟨_, rfl⟩
            rw [hb] at hl h7 h8
            obtain ⟨gt', go', hgg, _, _, _, _, y4, _, _⟩ := (HT.out.up (below_trans HB.out HB4.out)).all7 b h8
            obtain ⟨rfl, rfl⟩ : gt' = gt ∧ go' = go_ := by injection hgg with hgg; injection hgg with h1 h2 _; exact ⟨h1.symm, h2.symm⟩
            obtain ⟨bt, hbt⟩ : ∃ bt, (t.getD b ndd).tt = bt := ⟨_, rfl⟩
            rw [hbt] at h7 y4
            have q1 : Hid (W4.cell? ⟨gt', go' + b * 7 + 4, none⟩ = some (.int .i64 bt)) := y4
            have q2 : Hid (W4.cell? ⟨gt', go' + a * 7 + 3, none⟩ = some (.int .i64 af)) := (HX.out _ HB4.out).1
            have f1 : (b : Int) < (n : Int) := by have := HN.out; omega
            have f2 : b < n := by have := HN.out; omega
            have f3 : decide ((0 : Int) ≤ (b : Int)) = true := by rw [decide_eq_true_eq]; omega
            have f4 : decide (af < bt) = false := by rw [decide_eq_false_iff_not]; omega
            rw [hl]
            clear hr n2 n3 n4 h7 h8 hl hb hgg hbt y4
            go_upto_region 8 with fail
            refine wp_region_noPanic ?_
            refine wp_region_held_drew (S := fun V => V.cell? ⟨gt', go' + b * 7 + 4, none⟩ = some (.int .i64 bt) ∧ V.cell? ⟨gt', go' + a * 7 + 3, none⟩ = some (.int .i64 af)) (by kernel_rfl) ⟨q1.out, q2.out⟩ (fun hHeld => ?_)
            refine wpAnyH_take (i := 0) (oi := { dst := _, op := _, type := _, pos := _, after := _, guard := _ }) (v := ?_) rfl (by kernel_rfl) (by kernel_rfl) (by kernel_rfl) (fun _ _ _ h => h) (Or.inl ⟨by rfl, ?_⟩) (by assumption) ?_
            rotate_left
            · intro W hSw
              (try dsimp only at hSw)
              obtain ⟨z1, z2⟩ := hSw
              go_simp
              (try with_reducible rfl)
            try simp only [Act.put, List.setIfInBounds_toArray, List.set_cons_zero, List.set_cons_succ]
            refine wpAnyH_take (i := 1) (oi := { dst := _, op := _, type := _, pos := _, after := _, guard := _ }) (v := ?_) rfl (by kernel_rfl) (by kernel_rfl) (by kernel_rfl) (fun _ _ _ h => h) (Or.inl ⟨by rfl, ?_⟩) (by assumption) ?_
            rotate_left
            · intro W hSw
              (try dsimp only at hSw)
              obtain ⟨z1, z2⟩ := hSw
              go_simp
              (try with_reducible rfl)
            try simp only [Act.put, List.setIfInBounds_toArray, List.set_cons_zero, List.set_cons_succ]
            refine wpAnyH_take (i := 2) (oi := { dst := _, op := _, type := _, pos := _, after := _, guard := _ }) (v := ?_) rfl (by kernel_rfl) (by kernel_rfl) (by kernel_rfl) (fun _ _ _ h => h) (Or.inl ⟨by rfl, ?_⟩) (by assumption) ?_
            rotate_left
            · intro W hSw
              (try dsimp only at hSw)
              obtain ⟨z1, z2⟩ := hSw
              go_simp
              (try with_reducible rfl)
            try simp only [Act.put, List.setIfInBounds_toArray, List.set_cons_zero, List.set_cons_succ]
            refine wpAnyH_take (i := 3) (oi := { dst := _, op := _, type := _, pos := _, after := _, guard := _ }) (v := ?_) rfl (by kernel_rfl) (by kernel_rfl) (by kernel_rfl) (fun _ _ _ h => h) (Or.inl ⟨by rfl, ?_⟩) (by assumption) ?_
            rotate_left
            · intro W hSw
              (try dsimp only at hSw)
              obtain ⟨z1, z2⟩ := hSw
              go_simp
              (try with_reducible rfl)
            try simp only [Act.put, List.setIfInBounds_toArray, List.set_cons_zero, List.set_cons_succ]
            refine wpAnyH_take (i := 4) (oi := { dst := _, op := _, type := _, pos := _, after := _, guard := _ }) (v := ?_) rfl (by kernel_rfl) (by kernel_rfl) (by kernel_rfl) (fun _ _ _ h => h) (Or.inl ⟨by rfl, ?_⟩) (by assumption) ?_
            rotate_left
            · intro W hSw
              (try dsimp only at hSw)
              obtain ⟨z1, z2⟩ := hSw
              go_simp
              (try with_reducible rfl)
            try simp only [Act.put, List.setIfInBounds_toArray, List.set_cons_zero, List.set_cons_succ]
            refine wpAnyH_take (i := 5) (oi := { dst := _, op := _, type := _, pos := _, after := _, guard := _ }) (v := ?_) rfl (by kernel_rfl) (by kernel_rfl) (by kernel_rfl) (fun _ _ _ h => h) (Or.inl ⟨by rfl, ?_⟩) (by assumption) ?_
            rotate_left
            · intro W hSw
              (try dsimp only at hSw)
              obtain ⟨z1, z2⟩ := hSw
              go_simp
              (try with_reducible rfl)
            try simp only [Act.put, List.setIfInBounds_toArray, List.set_cons_zero, List.set_cons_succ]
            refine wpAnyH_take (i := 6) (oi := { dst := _, op := _, type := _, pos := _, after := _, guard := _ }) (v := ?_) rfl (by kernel_rfl) (by kernel_rfl) (by kernel_rfl) (fun _ _ _ h => h) (Or.inl ⟨by rfl, ?_⟩) (by assumption) ?_
            rotate_left
            · intro W hSw
              (try dsimp only at hSw)
              obtain ⟨z1, z2⟩ := hSw
              go_simp
              (try with_reducible rfl)
            try simp only [Act.put, List.setIfInBounds_toArray, List.set_cons_zero, List.set_cons_succ]
            refine wpAnyH_take (i := 7) (oi := { dst := _, op := _, type := _, pos := _, after := _, guard := _ }) (v := ?_) rfl (by kernel_rfl) (by kernel_rfl) (by kernel_rfl) (fun _ _ _ h => h) (Or.inl ⟨by rfl, ?_⟩) (by assumption) ?_
            rotate_left
            · intro W hSw
              (try dsimp only at hSw)
              obtain ⟨z1, z2⟩ := hSw
              go_simp
              (try with_reducible rfl)
            try simp only [Act.put, List.setIfInBounds_toArray, List.set_cons_zero, List.set_cons_succ]
            refine wpAnyH_take (i := 8) (oi := { dst := _, op := _, type := _, pos := _, after := _, guard := _ }) (v := ?_) rfl (by kernel_rfl) (by kernel_rfl) (by kernel_rfl) (fun _ _ _ h => h) (Or.inl ⟨by rfl, ?_⟩) (by assumption) ?_
            rotate_left
            · intro W hSw
              (try dsimp only at hSw)
              obtain ⟨z1, z2⟩ := hSw
              go_simp
              (try with_reducible rfl)
            try simp only [Act.put, List.setIfInBounds_toArray, List.set_cons_zero, List.set_cons_succ]
            refine wpAnyH_take (i := 9) (oi := { dst := _, op := _, type := _, pos := _, after := _, guard := _ }) (v := ?_) rfl (by kernel_rfl) (by kernel_rfl) (by kernel_rfl) (fun _ _ _ h => h) (Or.inl ⟨by rfl, ?_⟩) (by assumption) ?_
            rotate_left
            · intro W hSw
              (try dsimp only at hSw)
              obtain ⟨z1, z2⟩ := hSw
              go_simp
              (try with_reducible rfl)
            try simp only [Act.put, List.setIfInBounds_toArray, List.set_cons_zero, List.set_cons_succ]
            refine wpAnyH_take (i := 10) (oi := { dst := _, op := _, type := _, pos := _, after := _, guard := _ }) (v := ?_) rfl (by kernel_rfl) (by kernel_rfl) (by kernel_rfl) (fun _ _ _ h => h) (Or.inl ⟨by rfl, ?_⟩) (by assumption) ?_
            rotate_left
            · intro W hSw
              (try dsimp only at hSw)
              obtain ⟨z1, z2⟩ := hSw
              go_simp
              (try with_reducible rfl)
            try simp only [Act.put, List.setIfInBounds_toArray, List.set_cons_zero, List.set_cons_succ]
            refine wpAnyH_take (i := 11) (oi := { dst := _, op := _, type := _, pos := _, after := _, guard := _ }) (v := ?_) rfl (by kernel_rfl) (by kernel_rfl) (by kernel_rfl) (fun _ _ _ h => h) (Or.inl ⟨by rfl, ?_⟩) (by assumption) ?_
            rotate_left
            · intro W hSw
              (try dsimp only at hSw)
              obtain ⟨z1, z2⟩ := hSw
              go_simp
              (try with_reducible rfl)
            try simp only [Act.put, List.setIfInBounds_toArray, List.set_cons_zero, List.set_cons_succ]
            refine wpAnyH_take (i := 12) (oi := { dst := _, op := _, type := _, pos := _, after := _, guard := _ }) (v := ?_) rfl (by kernel_rfl) (by kernel_rfl) (by kernel_rfl) (fun _ _ _ h => h) (Or.inl ⟨by rfl, ?_⟩) (by assumption) ?_
            rotate_left
            · intro W hSw
              (try dsimp only at hSw)
              obtain ⟨z1, z2⟩ := hSw
              go_simp
              (try with_reducible rfl)
            try simp only [Act.put, List.setIfInBounds_toArray, List.set_cons_zero, List.set_cons_succ]
            refine wpAnyH_take (i := 13) (oi := { dst := _, op := _, type := _, pos := _, after := _, guard := _ }) (v := ?_) rfl (by kernel_rfl) (by kernel_rfl) (by kernel_rfl) (fun _ _ _ h => h) (Or.inl ⟨by rfl, ?_⟩) (by assumption) ?_
            rotate_left
            · intro W hSw
              (try dsimp only at hSw)
              obtain ⟨z1, z2⟩ := hSw
              go_simp
              (try with_reducible rfl)
            try simp only [Act.put, List.setIfInBounds_toArray, List.set_cons_zero, List.set_cons_succ]
            refine wpAnyH_take (i := 14) (oi := { dst := _, op := _, type := _, pos := _, after := _, guard := _ }) (v := ?_) rfl (by kernel_rfl) (by kernel_rfl) (by kernel_rfl) (fun _ _ _ h => h) (Or.inl ⟨by rfl, ?_⟩) (by assumption) ?_
            rotate_left
            · intro W hSw
              (try dsimp only at hSw)
              obtain ⟨z1, z2⟩ := hSw
              go_simp
              (try with_reducible rfl)
            try simp only [Act.put, List.setIfInBounds_toArray, List.set_cons_zero, List.set_cons_succ]
            refine wpAnyH_done (by kernel_rfl) ?_ _
            refine NoPanic.normal ?_
            go_wp2_with fail
            go_meet
            exact ⟨r + 1, by rw [HRL.out], HR1, Below.drew (Below.refl _ _)⟩
        · rw [HPP.out] at n1
          have e2 : (pp == -1) = false := by rw [beq_eq_false_iff_ne]; exact n1
          have HR1 : Hid (Ri (kds t) (a + 1) r) := n2
          clear n1 n2
          go_wp2_with fail
          go_meet
          exact ⟨r, rfl, HR1, Below.refl _ _⟩
      case rest =>
        obtain ⟨r', rfl, HR1, HBc⟩ := hcut
        obtain ⟨W5, rfl⟩ : ∃ W5, W5 = wc := ⟨_, rfl⟩
        have HB5 : Hid (Below wr.heap.size wr W5) := below_trans HB4.out HBc.out
        clear HBc HPR HRI
        go_upto_region 12 with (go_at_call 30; refine Calls.mono (HKD.out W5 (below_trans HB.out HB5.out)) ?_; rintro ee W6 ⟨v5, rfl, ho6, hb6⟩; have HK6 : Hid (W6.ownsRow W5.heap.size 3 1 v5 nk (iC (kl (kds t) a nk))) := ho6; have HB6 : Hid (Below wr.heap.size wr W6) := below_trans HB5.out hb6; clear ho6 hb6)
        obtain ⟨ka, kc, hv5⟩ := row_shape HK6.out
        subst hv5
        have x5 := (HX.out _ HB6.out).2.2
        have e3 : ((nk : Int) != (nk : Int)) = false := by simp
        go_upto_region 14 with fail
        clear x5 e3
        go_wp2_with fail
        go_loopg [6, 7] nk (fun gm v6 _ wr => ∃ i : Nat, v6 = .int .i64 (i : Int) ∧ Hid (gm = nk - i ∧ i ≤ nk) ∧ Hid (Below W6.heap.size W6 wr))
        case atStart => exact ⟨0, rfl, ⟨rfl, Nat.zero_le _⟩, Below.refl _ _⟩
        case round =>
          obtain ⟨wo, rfl⟩ : ∃ wo, wo = wr := ⟨_, rfl⟩
          obtain ⟨i, rfl, HJ, HB7⟩ := hrel
          by_cases hi : i < nk
          · have g3 : (i : Int) < (nk : Int) := by omega
            have g4 : i < nk := hi
            have HIN : Hid (i < nk) := hi
            obtain ⟨kg, kcc, hvk, _⟩ := row_form HK6.out (by omega)
            obtain ⟨rfl, -, rfl⟩ := Value.slice.inj hvk
            have HKR : Hid (∀ j, j < nk → ∀ W, Below wo.heap.size wo W → W.cell? ⟨kg, j, none⟩ = some (.int .i64 ((wA (kds t) (a + 1) j : Nat) : Int))) := fun j hj W hb => by
              have h7 := row_at (row_up HK6.out (below_trans HB7.out hb)) j _ (iC_get (kl (kds t) a nk) j (by rw [kl_len]; exact hj))
              rw [kl_get _ _ _ _ hj] at h7
              exact h7
            have hNa := HNA.out a HAT.out
            have HCL : Hid (∀ j, j < nk → wA (kds t) (a + 1) j < t.length) := fun j hj => hNa.c j (by rw [HNK.out]; exact hj)
            obtain ⟨c, hc⟩ : ∃ c, wA (kds t) (a + 1) i = c := ⟨_, rfl⟩
            have HC : Hid (wA (kds t) (a + 1) i = c) := hc
            have hcl := HCL.out i hi
            have hck := HKR.out i hi wo (Below.refl _ _)
            rw [hc] at hcl hck
            have HBo : Hid (Below w.heap.size w wo) := below_trans HB.out (below_trans HB6.out HB7.out)
            obtain ⟨gt', go', hgg, y0, y1, y2, y3, y4, y5, y6⟩ := (HT.out.up HBo.out).all7 c hcl
            obtain ⟨rfl, rfl⟩ : gt' = gt ∧ go' = go_ := by injection hgg with hgg; injection hgg with h1 h2 _; exact ⟨h1.symm, h2.symm⟩
            have HPC : Hid (prt t (c : Int) = (a : Int)) := by
              show _ = _
              rw [prt_plN HF.out c hcl]
              exact pl_ch HF.out (p := a) (i := i) ⟨by rw [kds_len]; exact HAT.out, by rw [HNK.out]; exact hi, hc⟩
            obtain ⟨x, hx⟩ : ∃ x, t.getD c ndd = x := ⟨_, rfl⟩
            rw [hx] at y0 y1 y2 y3 y4 y5 y6
            have HF0 : Hid (i = 0 → x.fr = af) := fun h0 => by
              rw [← hx, ← hc, h0, ← HAF.out.1]
              exact hNa.f (by rw [HNK.out]; omega)
            have HL0 : Hid (i + 1 = nk → x.tt = at_) := fun h0 => by
              rw [← hx, ← hc, ← HAF.out.2]
              have h7 := hNa.l (by rw [HNK.out]; omega)
              rw [HNK.out, show nk - 1 = i by omega] at h7
              exact h7
            have HP0 : Hid (∀ i1, i = i1 + 1 → (t.getD (wA (kds t) (a + 1) i1) ndd).tt ≤ x.fr) := fun i1 h0 => by
              have h7 := hNa.n i1 (by rw [HNK.out]; omega)
              rw [← h0, hc, hx] at h7
              exact h7
            have f1 : (c : Int) < (n : Int) := by have := HN.out; omega
            have f2 : c < n := by have := HN.out; omega
            have HWI : Hid (IntKind.i64.wrap ((i : Int) + 1) = ((i + 1 : Nat) : Int)) := w64n i (by have := HNM.out; have := HNKM.out; have := HIN.out; omega)
            obtain ⟨W8, hW8⟩ : ∃ W8, W8 = wo.alloc (.cells #[.string x.nm, .bool x.nd, .string x.fd, .int .i64 x.fr, .int .i64 x.tt, .int .i64 x.kd, .int .i64 x.lf] 33) := ⟨_, rfl⟩
            have HB8 : Hid (Below wo.heap.size wo W8) := by rw [hW8]; exact bel_up _ _
            have HX8 : Hid (W8.heap[wo.heap.size]? = some (.cells #[.string x.nm, .bool x.nd, .string x.fd, .int .i64 x.fr, .int .i64 x.tt, .int .i64 x.kd, .int .i64 x.lf] 33 (0, 0))) := by rw [hW8]; exact heap_new _ _
            clear hi hvk hNa hc hcl hgg hx
            go_upto_region 18 with fail
            rw [← hW8]
            clear hW8 hck y0 y1 y2 y3 y4 y5 y6
            refine r18 (t := t) (HT.out.up (below_trans HBo.out HB8.out)) HS.out HPC.out HA.out (by have := HNM.out; have := HNKM.out; omega) HIN.out ?_ (rcell HX8.out 3 _ rfl) (rcell HX8.out 4 _ rfl) (HX.out _ (below_trans (below_trans HB6.out HB7.out) HB8.out)).1 (HX.out _ (below_trans (below_trans HB6.out HB7.out) HB8.out)).2.1 HF0.out HL0.out ?_ _ _ _ _ _ _ _ _ _ _ _ _ _ _ _ _ _ _ _ _ _ _ _ _ _ _ _ _ _ _ _ _ _ _ _ _ _ _ _ _ _ _ _ _ _ _ _ _ _ _ _ _ _ _ _ _ _ _ _ _ _ _ _ _ _ _ _ _ _ _ _ _ _ _ _ _ _ _ _ _ _ _ _ _ _ _ _ _ _ _ _ _ _ _ _ _ _ _ _ _ _ _ _ _ _ _ _ _ _ _ _ _ _ _ _ _ _ _ _ _ _ (fun y69 y70 y71 y72 y73 y74 y75 y76 y77 y78 y79 y80 y81 y82 y83 y84 y85 y86 y87 y88 y89 y90 y91 y92 y93 y94 y95 y96 y97 y98 y99 y100 y101 y102 y103 y104 y105 y106 y107 y108 y109 y110 y111 y112 y113 y114 y115 y116 y117 y118 y119 y120 y121 y122 y123 y124 W9 hb9 => ?_)
            · have h7 := HKR.out i HIN.out W8 HB8.out
              rw [HC.out] at h7
              exact h7
            · intro i1 h0
              have hlt : i1 < nk := by have := HIN.out; omega
              obtain ⟨g9, o9, hg9, _, _, _, _, z4, _, _⟩ := (HT.out.up (below_trans HBo.out HB8.out)).all7 (wA (kds t) (a + 1) i1) (HCL.out i1 hlt)
              obtain ⟨rfl, rfl⟩ : g9 = gt' ∧ o9 = go' := by injection hg9 with hg9; injection hg9 with h1 h2 _; exact ⟨h1.symm, h2.symm⟩
              exact ⟨_, _, HKR.out i1 hlt W8 HB8.out, z4, by have := HCL.out i1 hlt; have := HN.out; omega, HP0.out i1 h0⟩
            · refine ex_nextN ?_
              refine next_kN (by assumption) ?_
              have hwi := HWI.out
              go_wp2_with fail
              clear hwi
              go_roundg (nk - (i + 1))
              case measure => have := HJ.out.1; have := HIN.out; omega
              case rel => exact ⟨i + 1, by first | rfl | (rw [show (i : Int) + 1 = ((i + 1 : Nat) : Int) by omega]), ⟨rfl, HIN.out⟩, below_trans HB7.out (below_trans HB8.out hb9)⟩
          · have g3 : ¬ (i : Int) < (nk : Int) := by omega
            have g4 : ¬ i < nk := hi
            have hwa := HWA.out
            clear hi
            go_wp2_with fail
            clear hwa
            go_roundg (n - (a + 1))
            case measure => have := HI.out.1; have := HA.out; omega
            case rel => exact ⟨a + 1, r', rfl, by first | rfl | (rw [show (a : Int) + 1 = ((a + 1 : Nat) : Int) by omega]), ⟨rfl, HA.out⟩, HR1, below_trans HB.out (below_trans HB6.out HB7.out)⟩
    · have g1 : ¬ (a : Int) < (n : Int) := by omega
      have g2 : ¬ a < n := ha
      clear ha
      go_wp2_with fail
      (try simp only [Exit.inBlock, Exit.then])
      go_ret
      exact ⟨rfl, HB.out⟩
end Go.Proofs.Ytcfmpmhdjkchjaa
