import Derived.Test.YtcfmpmhdjkchjabFre
import Derived.Test.YtcfmpmhdjkchjabTal
namespace Go.Proofs.Ytcfmpmhdjkchjab
open Go.RowKit Go.Maps

theorem kr_of {B k : Nat} {W : World} {C : Cm} {v : Value} {I : List Value} (h : W.ownsRow B 44 1 v I.length I) (hz : ∀ x ∈ I, Z B W C k x) : Kr W v (I.map fun x => (x, ct C x)) := by
  refine ⟨?_, fun x hx => ?_⟩
  · rw [List.length_map, List.map_map, show (Prod.fst ∘ fun x : Value => (x, ct C x)) = id from rfl, List.map_id]
    exact row_rw h (by decide)
  · obtain ⟨y, hy, rfl⟩ := List.mem_map.1 hx
    exact (hz y hy).ns
theorem pr_snd (C : Cm) (I : List Value) : (I.map fun x => (x, ct C x)).map Prod.snd = I.map (ct C) := by rw [List.map_map]; rfl
theorem lens_of {M L : List (Value × List Nd)} (h : (M.map Prod.snd).map List.length = (L.map Prod.snd).map List.length) : M.map (fun x => x.2.length) = L.map (fun x => x.2.length) := by
  rw [List.map_map, List.map_map] at h
  exact h
theorem getD_map' {α β : Type} (l : List α) (f : α → β) (i : Nat) (d : α) (d' : β) (h : i < l.length) : (l.map f).getD i d' = f (l.getD i d) := by
  rw [List.getD_eq_getElem?_getD, List.getElem?_map, List.getD_eq_getElem?_getD, List.getElem?_eq_getElem h]
  rfl
theorem map_at {α β : Type} {f : α → β} {d : α} {l k : List α} (h : l.map f = k.map f) (i : Nat) (hl : i < l.length) (hk : i < k.length) : f (l.getD i d) = f (k.getD i d) := by
  rw [← getD_map' l f i d (f d) hl, ← getD_map' k f i d (f d) hk, h]
set_option maxRecDepth 100000 in
set_option maxHeartbeats 16000000 in
/-- The law TreeFresh. -/
theorem treeFresh_any {v0 v1 v2 vk ve : Value} {Te : List Td} {Sy : List Sd} {P : List Pd} {L : List (Value × List Nd)} {es : List Int} (u : Nat → Value) (z y : Int) (w : World) (hg : Gx w v0 v1 v2 Te Sy P) (hgs : Gs Te Sy P) (hri : ∀ x ∈ P, ∀ r ∈ x.2.2, r.1 ≤ 9223372036854775807) (hk : Kr w vk L) (he : Is w ve es) (hsz0 : rom (L.map Prod.snd) ≤ 1073741824) (hsq : ∀ x ∈ L, x.2.length ≤ 1048576) :
    Calls Try.prog 3 #[lgv u v0 v1 v2, .int .i64 z, .int .i64 y, vk, ve] w fun e w' => e = .returned (.bool true) ∧ Below w.heap.size w w' := by
  obtain ⟨iN, hiN, hx0, hx1, hx2⟩ := info_parts infoSn
  have hnb : L.length < 1073741824 := by have h7 := rom_ge (L.map Prod.snd); rw [List.length_map] at h7; omega
  obtain ⟨W1, hW1⟩ : ∃ W1, W1 = w.alloc (.cells #[u 0, u 1, v0, v1, v2, u 5, u 6, u 7, u 8, u 9, u 10, u 11] 38) := ⟨_, rfl⟩
  have HB1 : Hid (Below w.heap.size w W1) := by rw [hW1]; exact bel_up _ _
  have HX1 : W1.heap[w.heap.size]? = some (.cells #[u 0, u 1, v0, v1, v2, u 5, u 6, u 7, u 8, u 9, u 10, u 11] 38 (0, 0)) := by rw [hW1]; exact heap_new _ _
  have HXB : Hid (∀ W, Below W1.heap.size W1 W → W.heap[w.heap.size]? = some (.cells #[u 0, u 1, v0, v1, v2, u 5, u 6, u 7, u 8, u 9, u 10, u 11] 38 (0, 0))) := fun W hb => by rw [hb.block _ (lt_of_heap HX1)]; exact HX1
  have hup : ∀ W, Below W1.heap.size W1 W → Below w.heap.size w W := fun W hb => below_trans HB1.out hb
  have HAB : Hid (∀ W, Below W1.heap.size W1 W → Calls Try.prog 5 #[vk] W fun e w' => ∃ b, e = .returned (.bool b) ∧ Below W.heap.size W w') := fun W hb => anyBeyond_any W (hk.up (hup W hb)) (by omega) (fun x hx => by have := hsq x hx; show _ ≤ _; omega)
  have HCA : Hid (∀ W, Below W1.heap.size W1 W → Calls Try.prog 6 #[vk] W fun e w' => ∃ v' M, e = .returned v' ∧ Ko W.heap.size w' v' M ∧ M.map Prod.snd = L.map Prod.snd ∧ Kz W.heap.size w' M ∧ Below W.heap.size W w') := fun W hb => copiedAll_kind W (hk.up (hup W hb)) (by omega) (fun x hx => by have := hsq x hx; show _ ≤ _; omega)
  have hmx : ∀ M : List (Value × List Nd), (M.map Prod.snd).map List.length = (L.map Prod.snd).map List.length → (∀ x ∈ M, x.2.length ≤ 1048576) ∧ rom (M.map Prod.snd) ≤ 1073741824 ∧ M.length < 1073741824 := fun M h => ⟨max_lens (lens_of h) hsq, by rw [rom_lens M L (lens_of h)]; exact hsz0, by have h8 := congrArg List.length h; rw [List.length_map, List.length_map, List.length_map, List.length_map] at h8; omega⟩
  have HCB : Hid (∀ W v M, Below W1.heap.size W1 W → Kr W v M → (M.map Prod.snd).map List.length = (L.map Prod.snd).map List.length → Calls Try.prog 6 #[v] W fun e w' => ∃ v' M', e = .returned v' ∧ Kr w' v' M' ∧ M'.map Prod.snd = M.map Prod.snd ∧ Below W.heap.size W w') := fun W v M hb h hl => (copiedAll_any W h (by have := (hmx M hl).2.2; omega) (fun x hx => by have := (hmx M hl).1 x hx; show _ ≤ _; omega)).mono (fun e w' ⟨v', M', h1, h2, h3, h4⟩ => ⟨v', M', h1, h2.kr, h3, h4⟩)
  obtain ⟨RD, hRD⟩ : ∃ RD : Int → List (List Nd) → List Nd, ∀ a b, rdc Te Sy P a b es = RD a b := ⟨_, fun _ _ => rfl⟩
  have HRL : Hid (∀ z' (M : List (Value × List Nd)), (M.map Prod.snd).map List.length = (L.map Prod.snd).map List.length → (RD z' (M.map Prod.snd)).length ≤ 1073741824) := fun z' M h => by rw [← hRD]; exact rdc_len _ _ _ _ _ _ (hmx M h).2.1
  have HRED : Hid (∀ W v M z' T, Below W1.heap.size W1 W → Kr W v M → M.map Prod.snd = T → (M.map Prod.snd).map List.length = (L.map Prod.snd).map List.length → Calls Try.prog 7 #[lgv u v0 v1 v2, .int .i64 z', v, ve] W fun e w' => ∃ v', e = .returned v' ∧ Nw W w' v' (RD z' T)) := fun W v M z' T hb h hT hl => (reduce_any u z' W (hg.up (hup W hb)) hgs hri h (Rw.up he (hup W hb)) (by have := (hmx M hl).2.1; omega)).mono (fun e w' ⟨v', h1, h2, h3⟩ => ⟨v', h1, by rw [← hRD, ← hT]; exact h2, h3⟩)
  have HRR : Hid (∀ W v M z' T, Below W1.heap.size W1 W → Kr W v M → M.map Prod.snd = T → (M.map Prod.snd).map List.length = (L.map Prod.snd).map List.length → Calls Try.prog 12 #[lgv u v0 v1 v2, .int .i64 z', v, ve] W fun e w' => ∃ v', e = .returned v' ∧ Nw W w' v' (RD z' T)) := fun W v M z' T hb h hT hl => (rreduce_any u z' W (hg.up (hup W hb)) hgs hri h (Rw.up he (hup W hb)) (hmx M hl).2.1 (hmx M hl).1).mono (fun e w' ⟨v', h1, h2, h3⟩ => ⟨v', h1, by rw [← hRD, ← hT]; exact h2, h3⟩)
  have HSHW : Hid (∀ W v t, Below W1.heap.size W1 W → t.length ≤ 1048576 → Ns W v t → Calls Try.prog 9 #[lgv u v0 v1 v2, .int .i64 y, v] W fun e w' => ∃ r t', e = .returned r ∧ Nw W w' r t' ∧ t'.length ≤ 1048576) := fun W v t hb hl h => (show_any u W (hg.up (hup W hb)) (by omega) h y).mono (fun e w' ⟨r, h1, h2, h3⟩ => ⟨r, _, h1, ⟨h2, h3⟩, by unfold shw; split; exact Nat.zero_le _; exact hl⟩)
  have HK : Hid (∀ W, Below W1.heap.size W1 W → Kr W vk L) := fun W hb => hk.up (hup W hb)
  obtain ⟨ka, kc, rfl⟩ := hk.t.form
  obtain ⟨n, hn⟩ : ∃ n, L.length = n := ⟨_, rfl⟩
  rw [hn] at HK HAB HCA hnb ⊢
  have HN : Hid (L.length = n) := hn
  have HNB : Hid (n < 1073741824) := hnb
  have HTL : Hid (∀ t ∈ L.map Prod.snd, t.length ≤ 1048576) := fun t ht => by obtain ⟨x, hx, rfl⟩ := List.mem_map.1 ht; exact hsq x hx
  unfold lgv at HRED HRR HSHW ⊢
  clear hg hgs hri hk he hsz0 hsq hn hnb hmx hRD hup HX1
  go_enter Try.func3, Try.ntmps3
  go_upto_region 1 with fail
  rw [← hW1]
  clear hW1
  go_upto_region 3 with (go_at_call 4; refine Calls.mono (alive_any _) ?_; rintro ee W2 ⟨rfl, hb1⟩; have HB2 : Hid (Below W1.heap.size W1 W2) := hb1; clear hb1)
  go_upto_if 41 with (go_at_call 5; refine Calls.mono (HAB.out _ HB2.out) ?_; rintro ee W3 ⟨bb, rfl, hb1⟩; have HB3 : Hid (Below W1.heap.size W1 W3) := below_trans HB2.out hb1; clear hb1)
  clear HAB HB2
  cases bb with
  | true =>
    go_wp2_with fail
    go_ret
    exact ⟨rfl, below_trans HB1.out HB3.out⟩
  | false =>
    go_upto_region 6 with (go_at_call 6; refine Calls.mono (HCA.out _ HB3.out) ?_; rintro ee W4 ⟨vi, M, rfl, ho, hm, hz, hb⟩; have HB4 : Hid (Below W1.heap.size W1 W4) := below_trans HB3.out hb; have HCF : Hid (∃ C, W4.ownsRow W1.heap.size 44 1 vi (M.map Prod.fst).length (M.map Prod.fst) ∧ (∀ x ∈ M.map Prod.fst, Z W1.heap.size W4 C 1 x) ∧ (M.map Prod.fst).map (ct C) = L.map Prod.snd) := (by rw [← hm]; exact cop_fin ho hz HB3.out.size); obtain ⟨ia, ic, hvi⟩ := row_shape ho.1; rw [show M.length = n by have h8 := congrArg List.length hm; rw [List.length_map, List.length_map] at h8; have := HN.out; omega] at hvi; subst hvi; clear ho hm hz hb)
    obtain ⟨C4, h1, h2, h3⟩ := HCF.out
    obtain ⟨I, hI⟩ : ∃ I, M.map Prod.fst = I := ⟨_, rfl⟩
    rw [hI] at h1 h2 h3
    clear HCF hI HCA HB3
    have HRI : Hid (W4.ownsRow W1.heap.size 44 1 (.slice ia n ic) I.length I) := h1
    have HZI : Hid (∀ x ∈ I, Z W1.heap.size W4 C4 1 x) := h2
    have HTI : Hid (I.map (ct C4) = L.map Prod.snd) := h3
    have HIN : Hid (I.length = n) := by have h8 := congrArg List.length h3; rw [List.length_map, List.length_map] at h8; have := HN.out; show _ = _; omega
    have HK4 : Hid (Kr W4 (.slice ia n ic) (I.map fun x => (x, ct C4 x))) := kr_of h1 h2
    have HPS : Hid ((I.map fun x => (x, ct C4 x)).map Prod.snd = L.map Prod.snd) := by show _ = _; rw [pr_snd]; exact h3
    have HPL : Hid (((I.map fun x => (x, ct C4 x)).map Prod.snd).map List.length = (L.map Prod.snd).map List.length) := by show _ = _; rw [HPS.out]
    have HRZ : Hid ((RD z (L.map Prod.snd)).length ≤ 1073741824) := HRL.out z L rfl
    obtain ⟨T, hT⟩ : ∃ T, L.map Prod.snd = T := ⟨_, rfl⟩
    have HT : Hid (L.map Prod.snd = T) := hT
    rw [hT] at HPS HPL HTI HTL HRZ HRL HRED HRR HCB
    have HNR : Hid (∀ z' (M : List (Value × List Nd)), M.map Prod.snd = T → (RD z' T).length ≤ 1073741824) := fun z' M h => by have h8 := HRL.out z' M (by rw [h]); rw [h] at h8; exact h8
    obtain ⟨R, hR⟩ : ∃ R, RD z T = R := ⟨_, rfl⟩
    have HR : Hid (RD z T = R) := hR
    rw [hR] at HRZ
    clear h1 h2 h3 hT hR
    have x0 := rcell (HXB.out _ HB4.out) 0 _ rfl; have x1 := rcell (HXB.out _ HB4.out) 1 _ rfl; have x2 := rcell (HXB.out _ HB4.out) 2 _ rfl; have x3 := rcell (HXB.out _ HB4.out) 3 _ rfl; have x4 := rcell (HXB.out _ HB4.out) 4 _ rfl; have x5 := rcell (HXB.out _ HB4.out) 5 _ rfl; have x6 := rcell (HXB.out _ HB4.out) 6 _ rfl; have x7 := rcell (HXB.out _ HB4.out) 7 _ rfl; have x8 := rcell (HXB.out _ HB4.out) 8 _ rfl; have x9 := rcell (HXB.out _ HB4.out) 9 _ rfl; have x10 := rcell (HXB.out _ HB4.out) 10 _ rfl; have x11 := rcell (HXB.out _ HB4.out) 11 _ rfl
    go_upto_region 7 with (go_at_call 7; refine Calls.mono (HRED.out _ _ _ _ _ HB4.out HK4.out HPS.out HPL.out) ?_; rw [HR.out]; rintro ee W5 ⟨va, rfl, hn5⟩; have HN5 : Hid (Nw W4 W5 va R) := hn5; clear hn5)
    clear x0 x1 x2 x3 x4 x5 x6 x7 x8 x9 x10 x11
    have HB5 : Hid (Below W1.heap.size W1 W5) := below_trans HB4.out HN5.out.2
    have x0 := rcell (HXB.out _ HB5.out) 0 _ rfl; have x1 := rcell (HXB.out _ HB5.out) 1 _ rfl; have x2 := rcell (HXB.out _ HB5.out) 2 _ rfl; have x3 := rcell (HXB.out _ HB5.out) 3 _ rfl; have x4 := rcell (HXB.out _ HB5.out) 4 _ rfl; have x5 := rcell (HXB.out _ HB5.out) 5 _ rfl; have x6 := rcell (HXB.out _ HB5.out) 6 _ rfl; have x7 := rcell (HXB.out _ HB5.out) 7 _ rfl; have x8 := rcell (HXB.out _ HB5.out) 8 _ rfl; have x9 := rcell (HXB.out _ HB5.out) 9 _ rfl; have x10 := rcell (HXB.out _ HB5.out) 10 _ rfl; have x11 := rcell (HXB.out _ HB5.out) 11 _ rfl
    go_upto_region 8 with (go_at_call 7; refine Calls.mono (HRED.out _ _ _ _ _ HB5.out (HK4.out.up HN5.out.2) HPS.out HPL.out) ?_; rw [HR.out]; rintro ee W6 ⟨vb, rfl, hn6⟩; have HN6 : Hid (Nw W5 W6 vb R) := hn6; clear hn6)
    clear x0 x1 x2 x3 x4 x5 x6 x7 x8 x9 x10 x11
    have HA6 : Hid (Ns W6 va R) := row_rw (row_up HN5.out.1 HN6.out.2) (by decide)
    have HSR : Hid (Sm R) := by have := HRZ.out; show _ ≤ _; omega
    go_upto_region 11 with (go_at_call 8; refine Calls.mono (twin_any HSR.out W6 HA6.out) ?_; rintro ee W7 ⟨vw, rfl, ho7, hb7⟩; have HN7 : Hid (Nw W6 W7 vw R) := ⟨ho7, hb7⟩; clear ho7 hb7)
    obtain ⟨C7, hC7⟩ := zs_start HB4.out.size HZI.out HTI.out HN5.out HN6.out HN7.out
    have HZ7 : Hid (Zs W1.heap.size W7 C7 T R I va vb vw [] [] []) := hC7
    have HB7 : Hid (Below W1.heap.size W1 W7) := below_trans HB5.out (below_trans HN6.out.2 HN7.out.2)
    have HR7 : Hid (R4 W1.heap.size W7 (.slice ia n ic) I (.slice none 0 0) [] (.slice none 0 0) [] (.slice none 0 0) []) := ⟨row_up (row_up (row_up HRI.out HN5.out.2) HN6.out.2) HN7.out.2, World.ownsRow_nil _ _ _ _, World.ownsRow_nil _ _ _ _, World.ownsRow_nil _ _ _ _, (Nb.nil _).symm, (Nb.nil _).symm, (Nb.nil _).symm, Nb.nil _, Nb.nil _, Nb.nil _⟩
    clear hC7 HN5 HN6 HN7 HA6 HB4 HB5 HRI HZI HTI HK4 HPS HPL
    go_loopg [15, 16, 17, 18] n (fun gm v15 v16 v17 v18 wr => ∃ (i : Nat) (C : Cm) (S O Q : List Value), v18 = .int .i64 (i : Int) ∧ Hid (gm = n - i ∧ i ≤ n) ∧ Hid (S.length = i ∧ O.length = i ∧ Q.length = i) ∧ Hid (Below W1.heap.size W1 wr) ∧ Hid (R4 W1.heap.size wr (.slice ia n ic) I v15 S v16 O v17 Q) ∧ Hid (Zs W1.heap.size wr C T R I va vb vw S O Q))
    case atStart => exact ⟨0, C7, [], [], [], rfl, ⟨rfl, Nat.zero_le _⟩, ⟨rfl, rfl, rfl⟩, HB7, HR7, HZ7⟩
    case round =>
      clear HB7 HR7 HZ7
      obtain ⟨i, C, S, O, Q, rfl, HI, HLN, HBW, HRW, HZW⟩ := hrel
      by_cases hi : i < n
      · have e1 : decide ((i : Int) < (n : Int)) = true := by rw [decide_eq_true_eq]; omega
        have e2 : decide (i < n) = true := by rw [decide_eq_true_eq]; omega
        have e3 : (i : Int) < (n : Int) := by omega
        have HIM : Hid (i < n) := hi
        have hwi := w64n i (by have := HNB.out; omega)
        obtain ⟨g, hia, hc0⟩ := row_cell (by have h7 := HRW.out.i; rw [HIN.out] at h7; exact h7) i hi
        subst hia
        have hil : i < I.length := by rw [HIN.out]; exact hi
        have hxm := getD_mem I .nilFunc i hil
        obtain ⟨x, hx⟩ : ∃ x, I.getD i .nilFunc = x := ⟨_, rfl⟩
        rw [hx] at hc0 hxm
        have HC0 : Hid (wr.cell? ⟨g, i, none⟩ = some x) := hc0
        obtain ⟨t, ht⟩ : ∃ t, ct C x = t := ⟨_, rfl⟩
        have HNX : Hid (Ns wr x t) := by have h7 := (HZW.out.i x hxm).ns; rw [ht] at h7; exact h7
        have HTX : Hid (t.length ≤ 1048576) := HTL.out t (by rw [← HZW.out.t, ← ht]; exact List.mem_map.2 ⟨x, hxm, rfl⟩)
        obtain ⟨xa, xc, rfl⟩ := HNX.out.form
        obtain ⟨tl, htl⟩ : ∃ tl, t.length = tl := ⟨_, rfl⟩
        have HTE : Hid (t.length = tl) := htl
        rw [htl] at HC0 HNX
        clear hc0 hx hxm ht htl hil hi
        go_upto_region 13 with fail
        refine wp_region_noPanic ?_
        refine wp_region_held_drew (S := fun W => Below wr.heap.size wr W) (by kernel_rfl) (Below.drew (Below.refl _ _)) (fun hHeld => ?_)
        obtain ⟨V2D, hWD⟩ : ∃ WD, wr.drew = WD := ⟨_, rfl⟩
        have HV2D : Hid (Below wr.heap.size wr V2D) := by rw [← hWD]; exact Below.drew (Below.refl _ _)
        rw [hWD] at hHeld ⊢
        clear hWD
        refine wpAnyH_take (i := 0) (oi := { dst := _, op := _, type := _, pos := _, after := _, guard := _ }) (v := ?_) rfl (by kernel_rfl) (by kernel_rfl) (by kernel_rfl) (fun _ _ _ h => h) (Or.inl ⟨by rfl, ?_⟩) (by assumption) ?_
        rotate_left
        · intro W hSw
          (try dsimp only at hSw)
          have x0 := below_cell hSw (rcell (HXB.out _ HBW.out) 0 _ rfl)
          have x1 := below_cell hSw (rcell (HXB.out _ HBW.out) 1 _ rfl)
          have x2 := below_cell hSw (rcell (HXB.out _ HBW.out) 2 _ rfl)
          have x3 := below_cell hSw (rcell (HXB.out _ HBW.out) 3 _ rfl)
          have x4 := below_cell hSw (rcell (HXB.out _ HBW.out) 4 _ rfl)
          have x5 := below_cell hSw (rcell (HXB.out _ HBW.out) 5 _ rfl)
          have x6 := below_cell hSw (rcell (HXB.out _ HBW.out) 6 _ rfl)
          have x7 := below_cell hSw (rcell (HXB.out _ HBW.out) 7 _ rfl)
          have x8 := below_cell hSw (rcell (HXB.out _ HBW.out) 8 _ rfl)
          have x9 := below_cell hSw (rcell (HXB.out _ HBW.out) 9 _ rfl)
          have x10 := below_cell hSw (rcell (HXB.out _ HBW.out) 10 _ rfl)
          have x11 := below_cell hSw (rcell (HXB.out _ HBW.out) 11 _ rfl)
          go_simp
          (try with_reducible rfl)
        try simp only [Act.put, List.setIfInBounds_toArray, List.set_cons_zero, List.set_cons_succ]
        refine wpAnyH_take (i := 1) (oi := { dst := _, op := _, type := _, pos := _, after := _, guard := _ }) (v := ?_) rfl (by kernel_rfl) (by kernel_rfl) (by kernel_rfl) (fun _ _ _ h => h) (Or.inl ⟨by rfl, ?_⟩) (by assumption) ?_
        rotate_left
        · intro W hSw
          (try dsimp only at hSw)
          go_simp
          (try with_reducible rfl)
        try simp only [Act.put, List.setIfInBounds_toArray, List.set_cons_zero, List.set_cons_succ]
        refine wpAnyH_take (i := 2) (oi := { dst := _, op := _, type := _, pos := _, after := _, guard := _ }) (v := ?_) rfl (by kernel_rfl) (by kernel_rfl) (by kernel_rfl) (fun _ _ _ h => h) (Or.inl ⟨by rfl, ?_⟩) (by assumption) ?_
        rotate_left
        · intro W hSw
          (try dsimp only at hSw)
          go_simp
          (try with_reducible rfl)
        try simp only [Act.put, List.setIfInBounds_toArray, List.set_cons_zero, List.set_cons_succ]
        refine wpAnyH_take (i := 3) (oi := { dst := _, op := _, type := _, pos := _, after := _, guard := _ }) (v := ?_) rfl (by kernel_rfl) (by kernel_rfl) (by kernel_rfl) (fun _ _ _ h => h) (Or.inl ⟨by rfl, ?_⟩) (by assumption) ?_
        rotate_left
        · intro W hSw
          (try dsimp only at hSw)
          go_simp
          (try with_reducible rfl)
        try simp only [Act.put, List.setIfInBounds_toArray, List.set_cons_zero, List.set_cons_succ]
        refine wpAnyH_take (i := 4) (oi := { dst := _, op := _, type := _, pos := _, after := _, guard := _ }) (v := ?_) rfl (by kernel_rfl) (by kernel_rfl) (by kernel_rfl) (fun _ _ _ h => h) (Or.inl ⟨by rfl, ?_⟩) (by assumption) ?_
        rotate_left
        · intro W hSw
          (try dsimp only at hSw)
          go_simp
          (try with_reducible rfl)
        try simp only [Act.put, List.setIfInBounds_toArray, List.set_cons_zero, List.set_cons_succ]
        refine wpAnyH_take (i := 5) (oi := { dst := _, op := _, type := _, pos := _, after := _, guard := _ }) (v := ?_) rfl (by kernel_rfl) (by kernel_rfl) (by kernel_rfl) (fun _ _ _ h => h) (Or.inl ⟨by rfl, ?_⟩) (by assumption) ?_
        rotate_left
        · intro W hSw
          (try dsimp only at hSw)
          have z0 := below_cell hSw HC0.out
          go_simp
          (try with_reducible rfl)
        try simp only [Act.put, List.setIfInBounds_toArray, List.set_cons_zero, List.set_cons_succ]
        refine wpAnyH_ready (rs := [6]) (by kernel_rfl) (by simp) ?_
        refine AllReadyH.cons (o := { dst := _, op := _, type := _, pos := _, after := _, guard := _ }) rfl (fun K hK => ?_) AllReadyH.nil
        go_simp
        refine Calls.mono (HSHW.out V2D _ t (below_trans HBW.out HV2D.out) HTX.out (Ns.up HNX.out HV2D.out)) ?_
        rintro ee V2 ⟨s, ts, rfl, hn1, hl1⟩
        have HN2 : Hid (Nw wr V2 s ts) := ⟨row_base hn1.1 HV2D.out.size, below_trans HV2D.out hn1.2⟩
        have HL2 : Hid (ts.length ≤ 1048576) := hl1
        clear hn1 hl1
        go_wp2_with fail
        refine hK.out _ _ ?_ (fun hHeld => ?_)
        · exact HN2.out.2
        clear hK K
        try simp only [Act.put, List.setIfInBounds_toArray, List.set_cons_zero, List.set_cons_succ]
        refine wpAnyH_take (i := 7) (oi := { dst := _, op := _, type := _, pos := _, after := _, guard := _ }) (v := ?_) rfl (by kernel_rfl) (by kernel_rfl) (by kernel_rfl) (fun _ _ _ h => h) (Or.inl ⟨by rfl, ?_⟩) (by assumption) ?_
        rotate_left
        · intro W hSw
          (try dsimp only at hSw)
          go_simp
          (try with_reducible rfl)
        try simp only [Act.put, List.setIfInBounds_toArray, List.set_cons_zero, List.set_cons_succ]
        refine wpAnyH_done (by kernel_rfl) ?_ _
        clear hHeld
        refine NoPanic.normal ?_
        have HB2 : Hid (Below W1.heap.size W1 V2) := below_trans HBW.out HN2.out.2
        have HC2 : Hid (V2.cell? ⟨g, i, none⟩ = some (.slice xa tl xc)) := below_cell HN2.out.2 HC0.out
        have HX2 : Hid (Ns V2 (.slice xa tl xc) t) := HNX.out.up HN2.out.2
        go_upto_region 14 with fail
        refine wp_region_noPanic ?_
        refine wp_region_held_drew (S := fun W => Below V2.heap.size V2 W) (by kernel_rfl) (Below.drew (Below.refl _ _)) (fun hHeld => ?_)
        obtain ⟨V3D, hWD⟩ : ∃ WD, V2.drew = WD := ⟨_, rfl⟩
        have HV3D : Hid (Below V2.heap.size V2 V3D) := by rw [← hWD]; exact Below.drew (Below.refl _ _)
        rw [hWD] at hHeld ⊢
        clear hWD
        refine wpAnyH_take (i := 0) (oi := { dst := _, op := _, type := _, pos := _, after := _, guard := _ }) (v := ?_) rfl (by kernel_rfl) (by kernel_rfl) (by kernel_rfl) (fun _ _ _ h => h) (Or.inl ⟨by rfl, ?_⟩) (by assumption) ?_
        rotate_left
        · intro W hSw
          (try dsimp only at hSw)
          have x0 := below_cell hSw (rcell (HXB.out _ HB2.out) 0 _ rfl)
          have x1 := below_cell hSw (rcell (HXB.out _ HB2.out) 1 _ rfl)
          have x2 := below_cell hSw (rcell (HXB.out _ HB2.out) 2 _ rfl)
          have x3 := below_cell hSw (rcell (HXB.out _ HB2.out) 3 _ rfl)
          have x4 := below_cell hSw (rcell (HXB.out _ HB2.out) 4 _ rfl)
          have x5 := below_cell hSw (rcell (HXB.out _ HB2.out) 5 _ rfl)
          have x6 := below_cell hSw (rcell (HXB.out _ HB2.out) 6 _ rfl)
          have x7 := below_cell hSw (rcell (HXB.out _ HB2.out) 7 _ rfl)
          have x8 := below_cell hSw (rcell (HXB.out _ HB2.out) 8 _ rfl)
          have x9 := below_cell hSw (rcell (HXB.out _ HB2.out) 9 _ rfl)
          have x10 := below_cell hSw (rcell (HXB.out _ HB2.out) 10 _ rfl)
          have x11 := below_cell hSw (rcell (HXB.out _ HB2.out) 11 _ rfl)
          go_simp
          (try with_reducible rfl)
        try simp only [Act.put, List.setIfInBounds_toArray, List.set_cons_zero, List.set_cons_succ]
        refine wpAnyH_take (i := 1) (oi := { dst := _, op := _, type := _, pos := _, after := _, guard := _ }) (v := ?_) rfl (by kernel_rfl) (by kernel_rfl) (by kernel_rfl) (fun _ _ _ h => h) (Or.inl ⟨by rfl, ?_⟩) (by assumption) ?_
        rotate_left
        · intro W hSw
          (try dsimp only at hSw)
          go_simp
          (try with_reducible rfl)
        try simp only [Act.put, List.setIfInBounds_toArray, List.set_cons_zero, List.set_cons_succ]
        refine wpAnyH_take (i := 2) (oi := { dst := _, op := _, type := _, pos := _, after := _, guard := _ }) (v := ?_) rfl (by kernel_rfl) (by kernel_rfl) (by kernel_rfl) (fun _ _ _ h => h) (Or.inl ⟨by rfl, ?_⟩) (by assumption) ?_
        rotate_left
        · intro W hSw
          (try dsimp only at hSw)
          go_simp
          (try with_reducible rfl)
        try simp only [Act.put, List.setIfInBounds_toArray, List.set_cons_zero, List.set_cons_succ]
        refine wpAnyH_take (i := 3) (oi := { dst := _, op := _, type := _, pos := _, after := _, guard := _ }) (v := ?_) rfl (by kernel_rfl) (by kernel_rfl) (by kernel_rfl) (fun _ _ _ h => h) (Or.inl ⟨by rfl, ?_⟩) (by assumption) ?_
        rotate_left
        · intro W hSw
          (try dsimp only at hSw)
          go_simp
          (try with_reducible rfl)
        try simp only [Act.put, List.setIfInBounds_toArray, List.set_cons_zero, List.set_cons_succ]
        refine wpAnyH_take (i := 4) (oi := { dst := _, op := _, type := _, pos := _, after := _, guard := _ }) (v := ?_) rfl (by kernel_rfl) (by kernel_rfl) (by kernel_rfl) (fun _ _ _ h => h) (Or.inl ⟨by rfl, ?_⟩) (by assumption) ?_
        rotate_left
        · intro W hSw
          (try dsimp only at hSw)
          go_simp
          (try with_reducible rfl)
        try simp only [Act.put, List.setIfInBounds_toArray, List.set_cons_zero, List.set_cons_succ]
        refine wpAnyH_take (i := 5) (oi := { dst := _, op := _, type := _, pos := _, after := _, guard := _ }) (v := ?_) rfl (by kernel_rfl) (by kernel_rfl) (by kernel_rfl) (fun _ _ _ h => h) (Or.inl ⟨by rfl, ?_⟩) (by assumption) ?_
        rotate_left
        · intro W hSw
          (try dsimp only at hSw)
          have z0 := below_cell hSw HC2.out
          go_simp
          (try with_reducible rfl)
        try simp only [Act.put, List.setIfInBounds_toArray, List.set_cons_zero, List.set_cons_succ]
        refine wpAnyH_ready (rs := [6]) (by kernel_rfl) (by simp) ?_
        refine AllReadyH.cons (o := { dst := _, op := _, type := _, pos := _, after := _, guard := _ }) rfl (fun K hK => ?_) AllReadyH.nil
        go_simp
        refine Calls.mono (HSHW.out V3D _ t (below_trans HB2.out HV3D.out) HTX.out (Ns.up HX2.out HV3D.out)) ?_
        rintro ee V3 ⟨o, tq, rfl, hn1, hl1⟩
        have HN3 : Hid (Nw V2 V3 o tq) := ⟨row_base hn1.1 HV3D.out.size, below_trans HV3D.out hn1.2⟩
        have HL3 : Hid (tq.length ≤ 1048576) := hl1
        clear hn1 hl1
        go_wp2_with fail
        refine hK.out _ _ ?_ (fun hHeld => ?_)
        · exact HN3.out.2
        clear hK K
        try simp only [Act.put, List.setIfInBounds_toArray, List.set_cons_zero, List.set_cons_succ]
        refine wpAnyH_take (i := 7) (oi := { dst := _, op := _, type := _, pos := _, after := _, guard := _ }) (v := ?_) rfl (by kernel_rfl) (by kernel_rfl) (by kernel_rfl) (fun _ _ _ h => h) (Or.inl ⟨by rfl, ?_⟩) (by assumption) ?_
        rotate_left
        · intro W hSw
          (try dsimp only at hSw)
          go_simp
          (try with_reducible rfl)
        try simp only [Act.put, List.setIfInBounds_toArray, List.set_cons_zero, List.set_cons_succ]
        refine wpAnyH_done (by kernel_rfl) ?_ _
        clear hHeld
        refine NoPanic.normal ?_
        have HO3 : Hid (Ns V3 o tq) := row_rw HN3.out.1 (by decide)
        have HSQ : Hid (Sm tq) := by have := HL3.out; show _ ≤ _; omega
        go_upto_region 16 with (go_at_call 8; refine Calls.mono (twin_any HSQ.out V3 HO3.out) ?_; rintro ee V4 ⟨q, rfl, ho7, hb7⟩; have HN4 : Hid (Nw V3 V4 q tq) := ⟨ho7, hb7⟩; clear ho7 hb7)
        obtain ⟨C4', hC4⟩ := zs_round HBW.out.size HZW.out HN2.out HN3.out HN4.out HL2.out HL3.out
        have HZ4 : Hid (Zs W1.heap.size V4 C4' T R I va vb vw (S ++ [s]) (O ++ [o]) (Q ++ [q])) := hC4
        have HB4 : Hid (Below W1.heap.size W1 V4) := below_trans HB2.out (below_trans HN3.out.2 HN4.out.2)
        have HR4 : Hid (R4 W1.heap.size V4 (.slice (some ⟨g, 0, none⟩) n ic) I _ S _ O _ Q) := ((HRW.out.up HN2.out.2).up HN3.out.2).up HN4.out.2
        have HFIT : Hid (i + 1 ≤ maxLen ∧ Builtin.nextslicecap (i + 1) i * 24 ≤ 281474976710656) := ⟨by have := HNB.out; have := HIM.out; unfold maxLen; omega, by have h7 := cap_fit i (by have := HNB.out; have := HIM.out; omega); omega⟩
        obtain ⟨sa, sc, hs⟩ := row_shape HR4.out.s
        obtain ⟨oa, oc, ho⟩ := row_shape HR4.out.o
        obtain ⟨qa, qc, hq⟩ := row_shape HR4.out.q
        obtain ⟨ls, lo, lq⟩ := HLN.out
        rw [ls] at hs
        rw [lo] at ho
        rw [lq] at hq
        subst hs ho hq
        have HLS : Hid (S.length = i) := ls
        have HLO : Hid (O.length = i) := lo
        have HLQ : Hid (Q.length = i) := lq
        obtain ⟨s1, s2, hs⟩ := row_shape HN2.out.1
        obtain ⟨o1, o2, ho⟩ := row_shape HN3.out.1
        obtain ⟨q1, q2, hq⟩ := row_shape HN4.out.1
        subst hs ho hq
        obtain ⟨m1, hm1⟩ : ∃ m, ts.length = m := ⟨_, rfl⟩
        obtain ⟨m2, hm2⟩ : ∃ m, tq.length = m := ⟨_, rfl⟩
        rw [hm1] at HZ4 ⊢
        rw [hm2] at HZ4 ⊢
        clear hC4 HN2 HN3 HN4 HL2 HL3 HO3 HSQ HB2 HC2 HX2 HC0 HNX HTX HTE HRW HZW HBW hm1 hm2 ls lo lq HLN
        have HRA : Hid (R4 W1.heap.size (V4.alloc (.cells #[.slice s1 m1 s2] 44)) (.slice (some ⟨g, 0, none⟩) n ic) I (.slice sa i sc) S (.slice oa i oc) O (.slice qa i qc) Q) := HR4.out.up (bel_up _ _)
        have HZA : Hid (Zs W1.heap.size (V4.alloc (.cells #[.slice s1 m1 s2] 44)) C4' T R I va vb vw (S ++ [.slice s1 m1 s2]) (O ++ [.slice o1 m2 o2]) (Q ++ [.slice q1 m2 q2])) := HZ4.out.up (Tk.up (bel_up _ _))
        have HBA : Hid (Below W1.heap.size W1 (V4.alloc (.cells #[.slice s1 m1 s2] 44))) := below_trans HB4.out (bel_up _ _)
        have HWA : Hid ((V4.alloc (.cells #[.slice s1 m1 s2] 44)).ownsRow W1.heap.size 44 1 (.slice sa i sc) i S) := by have h7 := HRA.out.s; rw [HLS.out] at h7; exact h7
        have HCW : Hid (∀ j u, ([.slice s1 m1 s2] : List Value)[j]? = some u → (V4.alloc (.cells #[.slice s1 m1 s2] 44)).cell? (Addr.add ⟨V4.heap.size, 0, none⟩ j) = some u) := World.news_of_block (heap_new _ _)
        clear HR4 HZ4 HB4
        go_upto_region 17 with (at_builtin; refine wpList_append_one _ rfl _ _ 39 rfl W1.heap.size 44 iN _ 1 24 Try.underlying39 hiN hx0 hx1 hx2 rfl (.slice sa i sc) i S rfl HWA.out ⟨V4.heap.size, 0, none⟩ 1 [.slice s1 m1 s2] rfl rfl HCW.out (fun u hu => by cases List.mem_singleton.1 hu; rfl) HFIT.out.1 HFIT.out.2 HBA.out.size ?_; intro vv V5 ho6 hg6 hn6; have HB5 : Hid (Below W1.heap.size W1 V5) := HBA.out.grown hg6 HBA.out.size (fun r hr => (row_tag HWA.out r hr).1); have HZ5 : Hid (Zs W1.heap.size V5 C4' T R I va vb vw (S ++ [.slice s1 m1 s2]) (O ++ [.slice o1 m2 o2]) (Q ++ [.slice q1 m2 q2])) := HZA.out.up (Tk.tag HWA.out (by decide) hg6); have HR5 : Hid (R4 W1.heap.size V5 (.slice (some ⟨g, 0, none⟩) n ic) I vv (S ++ [.slice s1 m1 s2]) (.slice oa i oc) O (.slice qa i qc) Q) := HRA.out.one (by rw [HLS.out]; exact ho6) hg6 hn6; obtain ⟨ra4, rc4, rfl⟩ := row_shape ho6; clear ho6 hg6 hn6)
        clear HRA HZA HBA HWA HCW
        have HRA : Hid (R4 W1.heap.size (V5.alloc (.cells #[.slice o1 m2 o2] 44)) (.slice (some ⟨g, 0, none⟩) n ic) I (.slice ra4 (i + 1) rc4) (S ++ [.slice s1 m1 s2]) (.slice oa i oc) O (.slice qa i qc) Q) := HR5.out.up (bel_up _ _)
        have HZA : Hid (Zs W1.heap.size (V5.alloc (.cells #[.slice o1 m2 o2] 44)) C4' T R I va vb vw (S ++ [.slice s1 m1 s2]) (O ++ [.slice o1 m2 o2]) (Q ++ [.slice q1 m2 q2])) := HZ5.out.up (Tk.up (bel_up _ _))
        have HBA : Hid (Below W1.heap.size W1 (V5.alloc (.cells #[.slice o1 m2 o2] 44))) := below_trans HB5.out (bel_up _ _)
        have HWA : Hid ((V5.alloc (.cells #[.slice o1 m2 o2] 44)).ownsRow W1.heap.size 44 1 (.slice oa i oc) i O) := by have h7 := HRA.out.o; rw [HLO.out] at h7; exact h7
        have HCW : Hid (∀ j u, ([.slice o1 m2 o2] : List Value)[j]? = some u → (V5.alloc (.cells #[.slice o1 m2 o2] 44)).cell? (Addr.add ⟨V5.heap.size, 0, none⟩ j) = some u) := World.news_of_block (heap_new _ _)
        clear HR5 HZ5 HB5
        go_upto_region 18 with (at_builtin; refine wpList_append_one _ rfl _ _ 39 rfl W1.heap.size 44 iN _ 1 24 Try.underlying39 hiN hx0 hx1 hx2 rfl (.slice oa i oc) i O rfl HWA.out ⟨V5.heap.size, 0, none⟩ 1 [.slice o1 m2 o2] rfl rfl HCW.out (fun u hu => by cases List.mem_singleton.1 hu; rfl) HFIT.out.1 HFIT.out.2 HBA.out.size ?_; intro vv V6 ho6 hg6 hn6; have HB6 : Hid (Below W1.heap.size W1 V6) := HBA.out.grown hg6 HBA.out.size (fun r hr => (row_tag HWA.out r hr).1); have HZ6 : Hid (Zs W1.heap.size V6 C4' T R I va vb vw (S ++ [.slice s1 m1 s2]) (O ++ [.slice o1 m2 o2]) (Q ++ [.slice q1 m2 q2])) := HZA.out.up (Tk.tag HWA.out (by decide) hg6); have HR6 : Hid (R4 W1.heap.size V6 (.slice (some ⟨g, 0, none⟩) n ic) I (.slice ra4 (i + 1) rc4) (S ++ [.slice s1 m1 s2]) vv (O ++ [.slice o1 m2 o2]) (.slice qa i qc) Q) := HRA.out.two (by rw [HLO.out]; exact ho6) hg6 hn6; obtain ⟨ra5, rc5, rfl⟩ := row_shape ho6; clear ho6 hg6 hn6)
        clear HRA HZA HBA HWA HCW
        have HRA : Hid (R4 W1.heap.size (V6.alloc (.cells #[.slice q1 m2 q2] 44)) (.slice (some ⟨g, 0, none⟩) n ic) I (.slice ra4 (i + 1) rc4) (S ++ [.slice s1 m1 s2]) (.slice ra5 (i + 1) rc5) (O ++ [.slice o1 m2 o2]) (.slice qa i qc) Q) := HR6.out.up (bel_up _ _)
        have HZA : Hid (Zs W1.heap.size (V6.alloc (.cells #[.slice q1 m2 q2] 44)) C4' T R I va vb vw (S ++ [.slice s1 m1 s2]) (O ++ [.slice o1 m2 o2]) (Q ++ [.slice q1 m2 q2])) := HZ6.out.up (Tk.up (bel_up _ _))
        have HBA : Hid (Below W1.heap.size W1 (V6.alloc (.cells #[.slice q1 m2 q2] 44))) := below_trans HB6.out (bel_up _ _)
        have HWA : Hid ((V6.alloc (.cells #[.slice q1 m2 q2] 44)).ownsRow W1.heap.size 44 1 (.slice qa i qc) i Q) := by have h7 := HRA.out.q; rw [HLQ.out] at h7; exact h7
        have HCW : Hid (∀ j u, ([.slice q1 m2 q2] : List Value)[j]? = some u → (V6.alloc (.cells #[.slice q1 m2 q2] 44)).cell? (Addr.add ⟨V6.heap.size, 0, none⟩ j) = some u) := World.news_of_block (heap_new _ _)
        clear HR6 HZ6 HB6
        go_wp2_with (at_builtin; refine wpList_append_one _ rfl _ _ 39 rfl W1.heap.size 44 iN _ 1 24 Try.underlying39 hiN hx0 hx1 hx2 rfl (.slice qa i qc) i Q rfl HWA.out ⟨V6.heap.size, 0, none⟩ 1 [.slice q1 m2 q2] rfl rfl HCW.out (fun u hu => by cases List.mem_singleton.1 hu; rfl) HFIT.out.1 HFIT.out.2 HBA.out.size ?_; intro vv V7 ho6 hg6 hn6; have HB7 : Hid (Below W1.heap.size W1 V7) := HBA.out.grown hg6 HBA.out.size (fun r hr => (row_tag HWA.out r hr).1); have HZ7 : Hid (Zs W1.heap.size V7 C4' T R I va vb vw (S ++ [.slice s1 m1 s2]) (O ++ [.slice o1 m2 o2]) (Q ++ [.slice q1 m2 q2])) := HZA.out.up (Tk.tag HWA.out (by decide) hg6); have HR7 : Hid (R4 W1.heap.size V7 (.slice (some ⟨g, 0, none⟩) n ic) I (.slice ra4 (i + 1) rc4) (S ++ [.slice s1 m1 s2]) (.slice ra5 (i + 1) rc5) (O ++ [.slice o1 m2 o2]) vv (Q ++ [.slice q1 m2 q2])) := HRA.out.three (by rw [HLQ.out]; exact ho6) hg6 hn6; obtain ⟨ra6, rc6, rfl⟩ := row_shape ho6; clear ho6 hg6 hn6)
        clear HRA HZA HBA HWA HCW
        go_roundg (n - (i + 1))
        case measure => have := HI.out.1; have := HIM.out; omega
        case rel => exact ⟨i + 1, C4', (S ++ [.slice s1 m1 s2]), (O ++ [.slice o1 m2 o2]), (Q ++ [.slice q1 m2 q2]), by first | rfl | (rw [show (i : Int) + 1 = ((i + 1 : Nat) : Int) by omega]), ⟨rfl, HIM.out⟩, ⟨by rw [List.length_append, HLS.out]; rfl, by rw [List.length_append, HLO.out]; rfl, by rw [List.length_append, HLQ.out]; rfl⟩, HB7, HR7, HZ7⟩
      · have e1 : decide ((i : Int) < (n : Int)) = false := by rw [decide_eq_false_iff_not]; omega
        have e2 : decide (i < n) = false := by rw [decide_eq_false_iff_not]; omega
        have hin : n = i := by have := HI.out.2; omega
        subst hin
        clear hi HI
        go_upto_region 19 with fail
        clear e1 e2
        have HKW : Hid (Kr wr (.slice ia n ic) (I.map fun x => (x, ct C x))) := kr_of HRW.out.i HZW.out.i
        have HPS : Hid ((I.map fun x => (x, ct C x)).map Prod.snd = T) := by show _ = _; rw [pr_snd]; exact HZW.out.t
        have HPL : Hid (((I.map fun x => (x, ct C x)).map Prod.snd).map List.length = T.map List.length) := by show _ = _; rw [HPS.out]
        obtain ⟨sa, sc, hs⟩ := row_shape HRW.out.s
        obtain ⟨oa, oc, ho⟩ := row_shape HRW.out.o
        obtain ⟨qa, qc, hq⟩ := row_shape HRW.out.q
        obtain ⟨ls, lo, lq⟩ := HLN.out
        rw [ls] at hs
        rw [lo] at ho
        rw [lq] at hq
        subst hs ho hq
        have HLS : Hid (S.length = n) := ls
        have HLO : Hid (O.length = n) := lo
        have HLQ : Hid (Q.length = n) := lq
        clear ls lo lq HLN
        have x0 := rcell (HXB.out _ HBW.out) 0 _ rfl; have x1 := rcell (HXB.out _ HBW.out) 1 _ rfl; have x2 := rcell (HXB.out _ HBW.out) 2 _ rfl; have x3 := rcell (HXB.out _ HBW.out) 3 _ rfl; have x4 := rcell (HXB.out _ HBW.out) 4 _ rfl; have x5 := rcell (HXB.out _ HBW.out) 5 _ rfl; have x6 := rcell (HXB.out _ HBW.out) 6 _ rfl; have x7 := rcell (HXB.out _ HBW.out) 7 _ rfl; have x8 := rcell (HXB.out _ HBW.out) 8 _ rfl; have x9 := rcell (HXB.out _ HBW.out) 9 _ rfl; have x10 := rcell (HXB.out _ HBW.out) 10 _ rfl; have x11 := rcell (HXB.out _ HBW.out) 11 _ rfl
        go_upto_region 20 with (go_at_call 7; refine Calls.mono (HRED.out _ _ _ _ _ HBW.out HKW.out HPS.out HPL.out) ?_; rintro ee X2 ⟨vn, rfl, hn5⟩; have HNN : Hid (∃ N, Nw wr X2 vn N ∧ N.length ≤ 1073741824) := ⟨_, hn5, HNR.out _ _ HPS.out⟩; clear hn5)
        clear x0 x1 x2 x3 x4 x5 x6 x7 x8 x9 x10 x11
        obtain ⟨N, hN1, hN2⟩ := HNN.out
        have HN1 : Hid (Nw wr X2 vn N) := hN1
        have HNL : Hid (N.length ≤ 1073741824) := hN2
        have HN2 : Hid (Ns X2 vn N) := row_rw hN1.1 (by decide)
        have HSN : Hid (Sm N) := by have := HNL.out; show _ ≤ _; omega
        clear hN1 hN2 HNN
        go_upto_region 21 with (go_at_call 8; refine Calls.mono (twin_any HSN.out X2 HN2.out) ?_; rintro ee X3 ⟨vt, rfl, ho7, hb7⟩; have HN3 : Hid (Nw X2 X3 vt N) := ⟨ho7, hb7⟩; clear ho7 hb7)
        obtain ⟨C0, hz0, hz1, hz2, hz3, hz4⟩ := zs_last HBW.out.size HZW.out HN1.out HN3.out
        have HZ0 : Hid (Zs W1.heap.size X3 C0 T R I va vb vw S O Q) := hz0
        have HVN : Hid (Z W1.heap.size X3 C0 3 vn ∧ ct C0 vn = N) := ⟨hz1, hz2⟩
        have HVT : Hid (Z W1.heap.size X3 C0 3 vt ∧ ct C0 vt = N) := ⟨hz3, hz4⟩
        have HE0 : Hid (Ev 2 W1 X3 C0 (.slice ia n ic) I (.slice sa n sc) S (.slice oa n oc) O (.slice qa n qc) Q X3) := Ev.start (below_trans HBW.out (below_trans HN1.out.2 HN3.out.2)) ((HRW.out.up HN1.out.2).up HN3.out.2)
        clear hz0 hz1 hz2 hz3 hz4 HN1 HN2 HN3 HNL HBW HRW HZW HKW HPS HPL
        go_upto_region 23 with (go_at_call 10; refine Calls.mono (spoil_ev HE0.out HZ0.out.a (by rw [HZ0.out.ea]; exact HRZ.out)) ?_; rintro ee X4 ⟨⟨xx, rfl⟩, he4⟩; have HE4 : Hid (Ev 2 W1 X3 C0 (.slice ia n ic) I (.slice sa n sc) S (.slice oa n oc) O (.slice qa n qc) Q X4) := he4; clear he4)
        clear HE0
        go_loopg [24] n (fun gm vv wr => ∃ i : Nat, vv = .int .i64 (i : Int) ∧ Hid (gm = n - i ∧ i ≤ n) ∧ Hid (Ev 2 W1 X3 C0 (.slice ia n ic) I (.slice sa n sc) S (.slice oa n oc) O (.slice qa n qc) Q wr))
        case atStart => exact ⟨0, rfl, ⟨rfl, Nat.zero_le _⟩, HE4⟩
        case round =>
          clear HE4
          obtain ⟨i, rfl, HI, HEW⟩ := hrel
          by_cases hi : i < n
          · have e1 : decide ((i : Int) < (n : Int)) = true := by rw [decide_eq_true_eq]; omega
            have e2 : decide (i < n) = true := by rw [decide_eq_true_eq]; omega
            have e3 : (i : Int) < (n : Int) := by omega
            have HIM : Hid (i < n) := hi
            have hwi := w64n i (by have := HNB.out; omega)
            clear hi
            obtain ⟨g2, hia, hc_x⟩ := row_cell (by have h7 := HEW.out.r.s; rw [HLS.out] at h7; exact h7) i HIM.out
            subst hia
            have hm_x := getD_mem S .nilFunc i (by rw [HLS.out]; exact HIM.out)
            obtain ⟨x, hx⟩ : ∃ x, S.getD i .nilFunc = x := ⟨_, rfl⟩
            rw [hx] at hc_x hm_x
            have hz := HZ0.out.s x hm_x
            have hl := HZ0.out.zs x hm_x
            obtain ⟨xa, xc, hxs⟩ := row_shape hz.1
            obtain ⟨m, hm⟩ : ∃ m, (ct C0 x).length = m := ⟨_, rfl⟩
            rw [hm] at hxs hl
            subst hxs
            have HZX : Hid (Z W1.heap.size X3 C0 2 (.slice xa m xc)) := hz
            have HLX : Hid ((ct C0 (.slice xa m xc)).length ≤ 1073741824) := by show _ ≤ _; rw [hm]; omega
            clear hz hl hm hx hm_x
            go_wp2_with (go_at_call 10; refine Calls.mono (spoil_ev HEW.out HZX.out HLX.out) ?_; rintro ee V5 ⟨⟨xx, rfl⟩, he5⟩; have HE5 : Hid (Ev 2 W1 X3 C0 (.slice ia n ic) I (.slice (some ⟨g2, 0, none⟩) n sc) S (.slice oa n oc) O (.slice qa n qc) Q V5) := he5; clear he5 hc_x)
            go_roundg (n - (i + 1))
            case measure => have := HI.out.1; have := HIM.out; omega
            case rel => exact ⟨i + 1, by first | rfl | (rw [show (i : Int) + 1 = ((i + 1 : Nat) : Int) by omega]), ⟨rfl, HIM.out⟩, HE5⟩
          · have e1 : decide ((i : Int) < (n : Int)) = false := by rw [decide_eq_false_iff_not]; omega
            have e2 : decide (i < n) = false := by rw [decide_eq_false_iff_not]; omega
            clear hi
            go_upto_region 27 with fail
            clear e1 e2 HI
            have HES : Hid (Ev 2 W1 X3 C0 (.slice ia n ic) I (.slice sa n sc) S (.slice oa n oc) O (.slice qa n qc) Q wr) := HEW.out
            clear HEW
            go_loopg [25] n (fun gm vv wr => ∃ i : Nat, vv = .int .i64 (i : Int) ∧ Hid (gm = n - i ∧ i ≤ n) ∧ Hid (Ev 2 W1 X3 C0 (.slice ia n ic) I (.slice sa n sc) S (.slice oa n oc) O (.slice qa n qc) Q wr))
            case atStart => exact ⟨0, rfl, ⟨rfl, Nat.zero_le _⟩, HES⟩
            case round =>
              clear HES
              obtain ⟨i, rfl, HI, HEW⟩ := hrel
              by_cases hi : i < n
              · have e1 : decide ((i : Int) < (n : Int)) = true := by rw [decide_eq_true_eq]; omega
                have e2 : decide (i < n) = true := by rw [decide_eq_true_eq]; omega
                have e3 : (i : Int) < (n : Int) := by omega
                have HIM : Hid (i < n) := hi
                have hwi := w64n i (by have := HNB.out; omega)
                clear hi
                obtain ⟨g2, hia, hc_x⟩ := row_cell (by have h7 := HEW.out.r.o; rw [HLO.out] at h7; exact h7) i HIM.out
                subst hia
                have hm_x := getD_mem O .nilFunc i (by rw [HLO.out]; exact HIM.out)
                have hzx := HZ0.out.o _ hm_x
                obtain ⟨g3, hia, hc_y⟩ := row_cell (by have h7 := HEW.out.r.q; rw [HLQ.out] at h7; exact h7) i HIM.out
                subst hia
                have hm_y := getD_mem Q .nilFunc i (by rw [HLQ.out]; exact HIM.out)
                have hzy := HZ0.out.q _ hm_y
                have hcc := map_at (d := .nilFunc) HZ0.out.e i (by rw [HLO.out]; exact HIM.out) (by rw [HLQ.out]; exact HIM.out)
                have hl := HZ0.out.zo _ hm_x
                obtain ⟨x, hx⟩ : ∃ x, O.getD i .nilFunc = x := ⟨_, rfl⟩
                obtain ⟨y', hy⟩ : ∃ y, Q.getD i .nilFunc = y := ⟨_, rfl⟩
                rw [hx] at hc_x hzx hcc hl
                rw [hy] at hc_y hzy hcc
                have HNA : Hid (Ns wr x (ct C0 x)) := HEW.out.ns hzx (by decide)
                have HNB2 : Hid (Ns wr y' (ct C0 x)) := by have h7 := HEW.out.ns hzy (by decide); rw [← hcc] at h7; exact h7
                clear hx hy hcc hzx hzy hm_x hm_y
                obtain ⟨t, ht⟩ : ∃ t, ct C0 x = t := ⟨_, rfl⟩
                rw [ht] at HNA HNB2 hl
                have HSX : Hid (Sm t) := by show _ ≤ _; omega
                obtain ⟨xa, xc, rfl⟩ := HNA.out.form
                obtain ⟨ya, yc, rfl⟩ := HNB2.out.form
                obtain ⟨m, hm⟩ : ∃ m, t.length = m := ⟨_, rfl⟩
                rw [hm] at HNA HNB2 hc_x hc_y
                have HCX : Hid (wr.cell? ⟨g2, i, none⟩ = some (.slice xa m xc)) := hc_x
                have HCY : Hid (wr.cell? ⟨g3, i, none⟩ = some (.slice ya m yc)) := hc_y
                clear ht hm hl hc_x hc_y
                go_upto_region 29 with fail
                refine wp_region_noPanic ?_
                refine wp_region_held_drew (S := fun W => Below wr.heap.size wr W) (by kernel_rfl) (Below.drew (Below.refl _ _)) (fun hHeld => ?_)
                obtain ⟨VD, hWD⟩ : ∃ WD, wr.drew = WD := ⟨_, rfl⟩
                have HVD : Hid (Below wr.heap.size wr VD) := by rw [← hWD]; exact Below.drew (Below.refl _ _)
                rw [hWD] at hHeld ⊢
                clear hWD
                refine wpAnyH_take (i := 0) (oi := { dst := _, op := _, type := _, pos := _, after := _, guard := _ }) (v := ?_) rfl (by kernel_rfl) (by kernel_rfl) (by kernel_rfl) (fun _ _ _ h => h) (Or.inl ⟨by rfl, ?_⟩) (by assumption) ?_
                rotate_left
                · intro W hSw
                  (try dsimp only at hSw)
                  go_simp
                  (try with_reducible rfl)
                try simp only [Act.put, List.setIfInBounds_toArray, List.set_cons_zero, List.set_cons_succ]
                refine wpAnyH_take (i := 1) (oi := { dst := _, op := _, type := _, pos := _, after := _, guard := _ }) (v := ?_) rfl (by kernel_rfl) (by kernel_rfl) (by kernel_rfl) (fun _ _ _ h => h) (Or.inl ⟨by rfl, ?_⟩) (by assumption) ?_
                rotate_left
                · intro W hSw
                  (try dsimp only at hSw)
                  go_simp
                  (try with_reducible rfl)
                try simp only [Act.put, List.setIfInBounds_toArray, List.set_cons_zero, List.set_cons_succ]
                refine wpAnyH_take (i := 2) (oi := { dst := _, op := _, type := _, pos := _, after := _, guard := _ }) (v := ?_) rfl (by kernel_rfl) (by kernel_rfl) (by kernel_rfl) (fun _ _ _ h => h) (Or.inl ⟨by rfl, ?_⟩) (by assumption) ?_
                rotate_left
                · intro W hSw
                  (try dsimp only at hSw)
                  go_simp
                  (try with_reducible rfl)
                try simp only [Act.put, List.setIfInBounds_toArray, List.set_cons_zero, List.set_cons_succ]
                refine wpAnyH_take (i := 3) (oi := { dst := _, op := _, type := _, pos := _, after := _, guard := _ }) (v := ?_) rfl (by kernel_rfl) (by kernel_rfl) (by kernel_rfl) (fun _ _ _ h => h) (Or.inl ⟨by rfl, ?_⟩) (by assumption) ?_
                rotate_left
                · intro W hSw
                  (try dsimp only at hSw)
                  have z0 := below_cell hSw HCX.out
                  go_simp
                  (try with_reducible rfl)
                try simp only [Act.put, List.setIfInBounds_toArray, List.set_cons_zero, List.set_cons_succ]
                refine wpAnyH_take (i := 4) (oi := { dst := _, op := _, type := _, pos := _, after := _, guard := _ }) (v := ?_) rfl (by kernel_rfl) (by kernel_rfl) (by kernel_rfl) (fun _ _ _ h => h) (Or.inl ⟨by rfl, ?_⟩) (by assumption) ?_
                rotate_left
                · intro W hSw
                  (try dsimp only at hSw)
                  go_simp
                  (try with_reducible rfl)
                try simp only [Act.put, List.setIfInBounds_toArray, List.set_cons_zero, List.set_cons_succ]
                refine wpAnyH_take (i := 5) (oi := { dst := _, op := _, type := _, pos := _, after := _, guard := _ }) (v := ?_) rfl (by kernel_rfl) (by kernel_rfl) (by kernel_rfl) (fun _ _ _ h => h) (Or.inl ⟨by rfl, ?_⟩) (by assumption) ?_
                rotate_left
                · intro W hSw
                  (try dsimp only at hSw)
                  go_simp
                  (try with_reducible rfl)
                try simp only [Act.put, List.setIfInBounds_toArray, List.set_cons_zero, List.set_cons_succ]
                refine wpAnyH_take (i := 6) (oi := { dst := _, op := _, type := _, pos := _, after := _, guard := _ }) (v := ?_) rfl (by kernel_rfl) (by kernel_rfl) (by kernel_rfl) (fun _ _ _ h => h) (Or.inl ⟨by rfl, ?_⟩) (by assumption) ?_
                rotate_left
                · intro W hSw
                  (try dsimp only at hSw)
                  go_simp
                  (try with_reducible rfl)
                try simp only [Act.put, List.setIfInBounds_toArray, List.set_cons_zero, List.set_cons_succ]
                refine wpAnyH_take (i := 7) (oi := { dst := _, op := _, type := _, pos := _, after := _, guard := _ }) (v := ?_) rfl (by kernel_rfl) (by kernel_rfl) (by kernel_rfl) (fun _ _ _ h => h) (Or.inl ⟨by rfl, ?_⟩) (by assumption) ?_
                rotate_left
                · intro W hSw
                  (try dsimp only at hSw)
                  have z0 := below_cell hSw HCY.out
                  go_simp
                  (try with_reducible rfl)
                try simp only [Act.put, List.setIfInBounds_toArray, List.set_cons_zero, List.set_cons_succ]
                refine wpAnyH_ready (rs := [8]) (by kernel_rfl) (by simp) ?_
                refine AllReadyH.cons (o := { dst := _, op := _, type := _, pos := _, after := _, guard := _ }) rfl (fun K hK => ?_) AllReadyH.nil
                go_simp
                refine Calls.mono (same_any HSX.out VD (HNA.out.up HVD.out) (HNB2.out.up HVD.out)) ?_
                rintro ee V2 ⟨rfl, hb5⟩
                have HV2 : Hid (Below wr.heap.size wr V2) := below_trans HVD.out hb5
                rw [decide_eq_true rfl]
                clear hb5
                go_wp2_with fail
                refine hK.out _ _ ?_ (fun hHeld => ?_)
                · exact HV2.out
                clear hK K
                try simp only [Act.put, List.setIfInBounds_toArray, List.set_cons_zero, List.set_cons_succ]
                refine wpAnyH_take (i := 9) (oi := { dst := _, op := _, type := _, pos := _, after := _, guard := _ }) (v := ?_) rfl (by kernel_rfl) (by kernel_rfl) (by kernel_rfl) (fun _ _ _ h => h) (Or.inl ⟨by rfl, ?_⟩) (by assumption) ?_
                rotate_left
                · intro W hSw
                  (try dsimp only at hSw)
                  go_simp
                  (try with_reducible rfl)
                try simp only [Act.put, List.setIfInBounds_toArray, List.set_cons_zero, List.set_cons_succ]
                refine wpAnyH_done (by kernel_rfl) ?_ _
                clear hHeld
                refine NoPanic.normal ?_
                go_wp2_with fail
                go_roundg (n - (i + 1))
                case measure => have := HI.out.1; have := HIM.out; omega
                case rel => exact ⟨i + 1, by first | rfl | (rw [show (i : Int) + 1 = ((i + 1 : Nat) : Int) by omega]), ⟨rfl, HIM.out⟩, HEW.out.up HV2.out⟩
              · have e1 : decide ((i : Int) < (n : Int)) = false := by rw [decide_eq_false_iff_not]; omega
                have e2 : decide (i < n) = false := by rw [decide_eq_false_iff_not]; omega
                clear hi
                go_upto_region 32 with fail
                clear e1 e2 HI
                have HQN : Hid (Ns wr vn N ∧ Ns wr vt N) := ⟨by have h7 := HEW.out.ns HVN.out.1 (by decide); rw [HVN.out.2] at h7; exact h7, by have h7 := HEW.out.ns HVT.out.1 (by decide); rw [HVT.out.2] at h7; exact h7⟩
                go_upto_region 36 with (go_at_call 11; refine Calls.mono (same_ev HEW.out HQN.out.1 HQN.out.2 HSN.out) ?_; rintro ee X5 ⟨rfl, he5⟩; have HEX : Hid (Ev 2 W1 X3 C0 (.slice ia n ic) I (.slice sa n sc) S (.slice oa n oc) O (.slice qa n qc) Q X5) := he5; clear he5)
                clear HQN HEW HVN HVT HSN
                have HEW : Hid (Ev 2 W1 X3 C0 (.slice ia n ic) I (.slice sa n sc) S (.slice oa n oc) O (.slice qa n qc) Q X5) := HEX.out
                clear HEX
                have HES : Hid (Ev 2 W1 X3 C0 (.slice ia n ic) I (.slice sa n sc) S (.slice oa n oc) O (.slice qa n qc) Q X5) := HEW.out
                clear HEW
                go_loopg [28] n (fun gm vv wr => ∃ i : Nat, vv = .int .i64 (i : Int) ∧ Hid (gm = n - i ∧ i ≤ n) ∧ Hid (Ev 2 W1 X3 C0 (.slice ia n ic) I (.slice sa n sc) S (.slice oa n oc) O (.slice qa n qc) Q wr))
                case atStart => exact ⟨0, rfl, ⟨rfl, Nat.zero_le _⟩, HES⟩
                case round =>
                  clear HES
                  obtain ⟨i, rfl, HI, HEW⟩ := hrel
                  by_cases hi : i < n
                  · have e1 : decide ((i : Int) < (n : Int)) = true := by rw [decide_eq_true_eq]; omega
                    have e2 : decide (i < n) = true := by rw [decide_eq_true_eq]; omega
                    have e3 : (i : Int) < (n : Int) := by omega
                    have HIM : Hid (i < n) := hi
                    have hwi := w64n i (by have := HNB.out; omega)
                    clear hi
                    obtain ⟨g2, hia, hc_x⟩ := row_cell (by have h7 := HEW.out.r.i; rw [HIN.out] at h7; exact h7) i HIM.out
                    subst hia
                    have hm_x := getD_mem I .nilFunc i (by rw [HIN.out]; exact HIM.out)
                    have hzx := HZ0.out.i _ hm_x
                    have hil : i < L.length := by rw [HN.out]; exact HIM.out
                    obtain ⟨g3, o3, b3, c3, hka, q0, q1, q2⟩ := (HK.out _ HEW.out.b).at i hil
                    subst hka
                    have hcc : ct C0 (I.getD i .nilFunc) = (L.getD i krd).2 := by rw [← snd_getD L i, HT.out, ← HZ0.out.t]; exact (getD_map' I (ct C0) i .nilFunc [] (by rw [HIN.out]; exact HIM.out)).symm
                    have hl : (ct C0 (I.getD i .nilFunc)).length ≤ 1048576 := HTL.out _ (by rw [← HZ0.out.t]; exact List.mem_map.2 ⟨_, hm_x, rfl⟩)
                    rw [← hcc] at q1 q2
                    obtain ⟨x, hx⟩ : ∃ x, I.getD i .nilFunc = x := ⟨_, rfl⟩
                    rw [hx] at hc_x hzx hcc hl q1 q2
                    have HNA : Hid (Ns wr x (ct C0 x)) := HEW.out.ns hzx (by decide)
                    obtain ⟨y', hy⟩ : ∃ y, Value.slice b3 (ct C0 x).length c3 = y := ⟨_, rfl⟩
                    rw [hy] at q1 q2
                    have hc_y := q1
                    have HNB2 : Hid (Ns wr y' (ct C0 x)) := q2
                    clear hx hcc hzx hm_x q0 q1 q2 hil hy
                    obtain ⟨t, ht⟩ : ∃ t, ct C0 x = t := ⟨_, rfl⟩
                    rw [ht] at HNA HNB2 hl
                    have HSX : Hid (Sm t) := by show _ ≤ _; omega
                    obtain ⟨xa, xc, rfl⟩ := HNA.out.form
                    obtain ⟨ya, yc, rfl⟩ := HNB2.out.form
                    obtain ⟨m, hm⟩ : ∃ m, t.length = m := ⟨_, rfl⟩
                    rw [hm] at HNA HNB2 hc_x hc_y
                    have HCX : Hid (wr.cell? ⟨g2, i, none⟩ = some (.slice xa m xc)) := hc_x
                    have HCY : Hid (wr.cell? ⟨g3, o3 + i, none⟩ = some (.slice ya m yc)) := hc_y
                    clear ht hm hl hc_x hc_y
                    go_upto_region 38 with fail
                    refine wp_region_noPanic ?_
                    refine wp_region_held_drew (S := fun W => Below wr.heap.size wr W) (by kernel_rfl) (Below.drew (Below.refl _ _)) (fun hHeld => ?_)
                    obtain ⟨VD, hWD⟩ : ∃ WD, wr.drew = WD := ⟨_, rfl⟩
                    have HVD : Hid (Below wr.heap.size wr VD) := by rw [← hWD]; exact Below.drew (Below.refl _ _)
                    rw [hWD] at hHeld ⊢
                    clear hWD
                    refine wpAnyH_take (i := 0) (oi := { dst := _, op := _, type := _, pos := _, after := _, guard := _ }) (v := ?_) rfl (by kernel_rfl) (by kernel_rfl) (by kernel_rfl) (fun _ _ _ h => h) (Or.inl ⟨by rfl, ?_⟩) (by assumption) ?_
                    rotate_left
                    · intro W hSw
                      (try dsimp only at hSw)
                      go_simp
                      (try with_reducible rfl)
                    try simp only [Act.put, List.setIfInBounds_toArray, List.set_cons_zero, List.set_cons_succ]
                    refine wpAnyH_take (i := 1) (oi := { dst := _, op := _, type := _, pos := _, after := _, guard := _ }) (v := ?_) rfl (by kernel_rfl) (by kernel_rfl) (by kernel_rfl) (fun _ _ _ h => h) (Or.inl ⟨by rfl, ?_⟩) (by assumption) ?_
                    rotate_left
                    · intro W hSw
                      (try dsimp only at hSw)
                      go_simp
                      (try with_reducible rfl)
                    try simp only [Act.put, List.setIfInBounds_toArray, List.set_cons_zero, List.set_cons_succ]
                    refine wpAnyH_take (i := 2) (oi := { dst := _, op := _, type := _, pos := _, after := _, guard := _ }) (v := ?_) rfl (by kernel_rfl) (by kernel_rfl) (by kernel_rfl) (fun _ _ _ h => h) (Or.inl ⟨by rfl, ?_⟩) (by assumption) ?_
                    rotate_left
                    · intro W hSw
                      (try dsimp only at hSw)
                      go_simp
                      (try with_reducible rfl)
                    try simp only [Act.put, List.setIfInBounds_toArray, List.set_cons_zero, List.set_cons_succ]
                    refine wpAnyH_take (i := 3) (oi := { dst := _, op := _, type := _, pos := _, after := _, guard := _ }) (v := ?_) rfl (by kernel_rfl) (by kernel_rfl) (by kernel_rfl) (fun _ _ _ h => h) (Or.inl ⟨by rfl, ?_⟩) (by assumption) ?_
                    rotate_left
                    · intro W hSw
                      (try dsimp only at hSw)
                      have z0 := below_cell hSw HCX.out
                      go_simp
                      (try with_reducible rfl)
                    try simp only [Act.put, List.setIfInBounds_toArray, List.set_cons_zero, List.set_cons_succ]
                    refine wpAnyH_take (i := 4) (oi := { dst := _, op := _, type := _, pos := _, after := _, guard := _ }) (v := ?_) rfl (by kernel_rfl) (by kernel_rfl) (by kernel_rfl) (fun _ _ _ h => h) (Or.inl ⟨by rfl, ?_⟩) (by assumption) ?_
                    rotate_left
                    · intro W hSw
                      (try dsimp only at hSw)
                      go_simp
                      (try with_reducible rfl)
                    try simp only [Act.put, List.setIfInBounds_toArray, List.set_cons_zero, List.set_cons_succ]
                    refine wpAnyH_take (i := 5) (oi := { dst := _, op := _, type := _, pos := _, after := _, guard := _ }) (v := ?_) rfl (by kernel_rfl) (by kernel_rfl) (by kernel_rfl) (fun _ _ _ h => h) (Or.inl ⟨by rfl, ?_⟩) (by assumption) ?_
                    rotate_left
                    · intro W hSw
                      (try dsimp only at hSw)
                      go_simp
                      (try with_reducible rfl)
                    try simp only [Act.put, List.setIfInBounds_toArray, List.set_cons_zero, List.set_cons_succ]
                    refine wpAnyH_take (i := 6) (oi := { dst := _, op := _, type := _, pos := _, after := _, guard := _ }) (v := ?_) rfl (by kernel_rfl) (by kernel_rfl) (by kernel_rfl) (fun _ _ _ h => h) (Or.inl ⟨by rfl, ?_⟩) (by assumption) ?_
                    rotate_left
                    · intro W hSw
                      (try dsimp only at hSw)
                      go_simp
                      (try with_reducible rfl)
                    try simp only [Act.put, List.setIfInBounds_toArray, List.set_cons_zero, List.set_cons_succ]
                    refine wpAnyH_take (i := 7) (oi := { dst := _, op := _, type := _, pos := _, after := _, guard := _ }) (v := ?_) rfl (by kernel_rfl) (by kernel_rfl) (by kernel_rfl) (fun _ _ _ h => h) (Or.inl ⟨by rfl, ?_⟩) (by assumption) ?_
                    rotate_left
                    · intro W hSw
                      (try dsimp only at hSw)
                      have z0 := below_cell hSw HCY.out
                      go_simp
                      (try with_reducible rfl)
                    try simp only [Act.put, List.setIfInBounds_toArray, List.set_cons_zero, List.set_cons_succ]
                    refine wpAnyH_ready (rs := [8]) (by kernel_rfl) (by simp) ?_
                    refine AllReadyH.cons (o := { dst := _, op := _, type := _, pos := _, after := _, guard := _ }) rfl (fun K hK => ?_) AllReadyH.nil
                    go_simp
                    refine Calls.mono (same_any HSX.out VD (HNA.out.up HVD.out) (HNB2.out.up HVD.out)) ?_
                    rintro ee V2 ⟨rfl, hb5⟩
                    have HV2 : Hid (Below wr.heap.size wr V2) := below_trans HVD.out hb5
                    rw [decide_eq_true rfl]
                    clear hb5
                    go_wp2_with fail
                    refine hK.out _ _ ?_ (fun hHeld => ?_)
                    · exact HV2.out
                    clear hK K
                    try simp only [Act.put, List.setIfInBounds_toArray, List.set_cons_zero, List.set_cons_succ]
                    refine wpAnyH_take (i := 9) (oi := { dst := _, op := _, type := _, pos := _, after := _, guard := _ }) (v := ?_) rfl (by kernel_rfl) (by kernel_rfl) (by kernel_rfl) (fun _ _ _ h => h) (Or.inl ⟨by rfl, ?_⟩) (by assumption) ?_
                    rotate_left
                    · intro W hSw
                      (try dsimp only at hSw)
                      go_simp
                      (try with_reducible rfl)
                    try simp only [Act.put, List.setIfInBounds_toArray, List.set_cons_zero, List.set_cons_succ]
                    refine wpAnyH_done (by kernel_rfl) ?_ _
                    clear hHeld
                    refine NoPanic.normal ?_
                    go_wp2_with fail
                    go_roundg (n - (i + 1))
                    case measure => have := HI.out.1; have := HIM.out; omega
                    case rel => exact ⟨i + 1, by first | rfl | (rw [show (i : Int) + 1 = ((i + 1 : Nat) : Int) by omega]), ⟨rfl, HIM.out⟩, HEW.out.up HV2.out⟩
                  · have e1 : decide ((i : Int) < (n : Int)) = false := by rw [decide_eq_false_iff_not]; omega
                    have e2 : decide (i < n) = false := by rw [decide_eq_false_iff_not]; omega
                    clear hi
                    go_upto_region 41 with fail
                    clear e1 e2 HI
                    have HBW2 : Hid (Ns wr vb R ∧ Ns wr vw R) := ⟨by have h7 := HEW.out.ns HZ0.out.b (by decide); rw [HZ0.out.eb] at h7; exact h7, by have h7 := HEW.out.ns HZ0.out.w (by decide); rw [HZ0.out.ew] at h7; exact h7⟩
                    go_upto_region 42 with (go_at_call 11; refine Calls.mono (same_ev HEW.out HBW2.out.1 HBW2.out.2 HSR.out) ?_; rintro ee X6 ⟨rfl, he5⟩; have HE6 : Hid (Ev 2 W1 X3 C0 (.slice ia n ic) I (.slice sa n sc) S (.slice oa n oc) O (.slice qa n qc) Q X6) := he5; clear he5)
                    clear HBW2 HEW
                    have HK6 : Hid (Kr X6 (.slice ia n ic) (I.map fun x => (x, ct C0 x))) := ⟨by rw [List.length_map, List.map_map, show (Prod.fst ∘ fun x : Value => (x, ct C0 x)) = id from rfl, List.map_id]; exact row_rw HE6.out.r.i (by decide), fun x hx => by obtain ⟨y, hy, rfl⟩ := List.mem_map.1 hx; exact HE6.out.ns (HZ0.out.i y hy) (by decide)⟩
                    have HPS : Hid ((I.map fun x => (x, ct C0 x)).map Prod.snd = T) := by show _ = _; rw [pr_snd]; exact HZ0.out.t
                    have HPL : Hid (((I.map fun x => (x, ct C0 x)).map Prod.snd).map List.length = T.map List.length) := by show _ = _; rw [HPS.out]
                    have HB6 : Hid (Below W1.heap.size W1 X6) := HE6.out.b
                    have x0 := rcell (HXB.out _ HB6.out) 0 _ rfl; have x1 := rcell (HXB.out _ HB6.out) 1 _ rfl; have x2 := rcell (HXB.out _ HB6.out) 2 _ rfl; have x3 := rcell (HXB.out _ HB6.out) 3 _ rfl; have x4 := rcell (HXB.out _ HB6.out) 4 _ rfl; have x5 := rcell (HXB.out _ HB6.out) 5 _ rfl; have x6 := rcell (HXB.out _ HB6.out) 6 _ rfl; have x7 := rcell (HXB.out _ HB6.out) 7 _ rfl; have x8 := rcell (HXB.out _ HB6.out) 8 _ rfl; have x9 := rcell (HXB.out _ HB6.out) 9 _ rfl; have x10 := rcell (HXB.out _ HB6.out) 10 _ rfl; have x11 := rcell (HXB.out _ HB6.out) 11 _ rfl
                    go_upto_region 43 with (go_at_call 7; refine Calls.mono (HRED.out _ _ _ _ _ HB6.out HK6.out HPS.out HPL.out) ?_; rw [HR.out]; rintro ee X7 ⟨vc, rfl, hn5⟩; have HN7 : Hid (Nw X6 X7 vc R) := hn5; clear hn5)
                    clear x0 x1 x2 x3 x4 x5 x6 x7 x8 x9 x10 x11
                    have HE7 : Hid (Ev 2 W1 X3 C0 (.slice ia n ic) I (.slice sa n sc) S (.slice oa n oc) O (.slice qa n qc) Q X7) := HE6.out.up HN7.out.2
                    have HC7 : Hid (Ns X7 vc R ∧ Ns X7 vw R) := ⟨row_rw HN7.out.1 (by decide), by have h7 := HE7.out.ns HZ0.out.w (by decide); rw [HZ0.out.ew] at h7; exact h7⟩
                    clear HK6 HPS HPL HB6 HE6 HN7
                    go_upto_region 45 with (go_at_call 11; refine Calls.mono (same_ev HE7.out HC7.out.1 HC7.out.2 HSR.out) ?_; rintro ee X8 ⟨rfl, he5⟩; have HE8 : Hid (Ev 2 W1 X3 C0 (.slice ia n ic) I (.slice sa n sc) S (.slice oa n oc) O (.slice qa n qc) Q X8) := he5; clear he5)
                    clear HE7 HC7
                    obtain ⟨C1, hC1⟩ := HE8.out.t
                    have HZ1 : Hid ((∀ x ∈ I, Z W1.heap.size X8 C1 1 x ∧ (ct C1 x).length ≤ 1048576) ∧ (Z W1.heap.size X8 C1 3 vb ∧ ct C1 vb = R) ∧ (Z W1.heap.size X8 C1 3 vw ∧ ct C1 vw = R) ∧ (I.map (ct C1)).map List.length = T.map List.length) := ⟨fun x hx => ⟨(hC1 _ _ (HZ0.out.i x hx)).1, by rw [(hC1 _ _ (HZ0.out.i x hx)).2.1]; exact HTL.out _ (by rw [← HZ0.out.t]; exact List.mem_map.2 ⟨x, hx, rfl⟩)⟩, ⟨(hC1 _ _ HZ0.out.b).1, ((hC1 _ _ HZ0.out.b).2.2 (by decide)).trans HZ0.out.eb⟩, ⟨(hC1 _ _ HZ0.out.w).1, ((hC1 _ _ HZ0.out.w).2.2 (by decide)).trans HZ0.out.ew⟩, by rw [ct_map HZ0.out.i hC1 (by decide), HZ0.out.t]⟩
                    have HE9 : Hid (Ev 1 W1 X8 C1 (.slice ia n ic) I (.slice sa n sc) S (.slice oa n oc) O (.slice qa n qc) Q X8) := Ev.start HE8.out.b HE8.out.r
                    clear hC1 HZ0 HE8
                    go_loopg [33] n (fun gm vv wr => ∃ i : Nat, vv = .int .i64 (i : Int) ∧ Hid (gm = n - i ∧ i ≤ n) ∧ Hid (Ev 1 W1 X8 C1 (.slice ia n ic) I (.slice sa n sc) S (.slice oa n oc) O (.slice qa n qc) Q wr))
                    case atStart => exact ⟨0, rfl, ⟨rfl, Nat.zero_le _⟩, HE9⟩
                    case round =>
                      clear HE9
                      obtain ⟨i, rfl, HI, HEW⟩ := hrel
                      by_cases hi : i < n
                      · have e1 : decide ((i : Int) < (n : Int)) = true := by rw [decide_eq_true_eq]; omega
                        have e2 : decide (i < n) = true := by rw [decide_eq_true_eq]; omega
                        have e3 : (i : Int) < (n : Int) := by omega
                        have HIM : Hid (i < n) := hi
                        have hwi := w64n i (by have := HNB.out; omega)
                        clear hi
                        obtain ⟨g2, hia, hc_x⟩ := row_cell (by have h7 := HEW.out.r.i; rw [HIN.out] at h7; exact h7) i HIM.out
                        subst hia
                        have hm_x := getD_mem I .nilFunc i (by rw [HIN.out]; exact HIM.out)
                        obtain ⟨x, hx⟩ : ∃ x, I.getD i .nilFunc = x := ⟨_, rfl⟩
                        rw [hx] at hc_x hm_x
                        have hz := (HZ1.out.1 x hm_x).1
                        have hl := (HZ1.out.1 x hm_x).2
                        obtain ⟨xa, xc, hxs⟩ := row_shape hz.1
                        obtain ⟨m, hm⟩ : ∃ m, (ct C1 x).length = m := ⟨_, rfl⟩
                        rw [hm] at hxs hl
                        subst hxs
                        have HZX : Hid (Z W1.heap.size X8 C1 1 (.slice xa m xc)) := hz
                        have HLX : Hid ((ct C1 (.slice xa m xc)).length ≤ 1073741824) := by show _ ≤ _; rw [hm]; omega
                        clear hz hl hm hx hm_x
                        go_wp2_with (go_at_call 10; refine Calls.mono (spoil_ev HEW.out HZX.out HLX.out) ?_; rintro ee V5 ⟨⟨xx, rfl⟩, he5⟩; have HE5 : Hid (Ev 1 W1 X8 C1 (.slice (some ⟨g2, 0, none⟩) n ic) I (.slice sa n sc) S (.slice oa n oc) O (.slice qa n qc) Q V5) := he5; clear he5 hc_x)
                        go_roundg (n - (i + 1))
                        case measure => have := HI.out.1; have := HIM.out; omega
                        case rel => exact ⟨i + 1, by first | rfl | (rw [show (i : Int) + 1 = ((i + 1 : Nat) : Int) by omega]), ⟨rfl, HIM.out⟩, HE5⟩
                      · have e1 : decide ((i : Int) < (n : Int)) = false := by rw [decide_eq_false_iff_not]; omega
                        have e2 : decide (i < n) = false := by rw [decide_eq_false_iff_not]; omega
                        clear hi
                        go_upto_region 48 with fail
                        clear e1 e2 HI
                        have HBW2 : Hid (Ns wr vb R ∧ Ns wr vw R) := ⟨by have h7 := HEW.out.ns HZ1.out.2.1.1 (by decide); rw [HZ1.out.2.1.2] at h7; exact h7, by have h7 := HEW.out.ns HZ1.out.2.2.1.1 (by decide); rw [HZ1.out.2.2.1.2] at h7; exact h7⟩
                        go_upto_region 49 with (go_at_call 11; refine Calls.mono (same_ev HEW.out HBW2.out.1 HBW2.out.2 HSR.out) ?_; rintro ee Y1 ⟨rfl, he5⟩; have HEY : Hid (Ev 1 W1 X8 C1 (.slice ia n ic) I (.slice sa n sc) S (.slice oa n oc) O (.slice qa n qc) Q Y1) := he5; clear he5)
                        clear HBW2 HEW
                        obtain ⟨C2, hC2⟩ := HEY.out.t
                        have HK2 : Hid (Kr Y1 (.slice ia n ic) (I.map fun x => (x, ct C2 x))) := kr_of HEY.out.r.i (fun x hx => (hC2 _ _ (HZ1.out.1 x hx).1).1)
                        have HPL : Hid (((I.map fun x => (x, ct C2 x)).map Prod.snd).map List.length = T.map List.length) := by show _ = _; rw [pr_snd, ← HZ1.out.2.2.2, List.map_map, List.map_map]; exact List.map_congr_left fun x hx => (hC2 _ _ (HZ1.out.1 x hx).1).2.1
                        have HBY : Hid (Below W1.heap.size W1 Y1) := HEY.out.b
                        obtain ⟨M2, hM2⟩ : ∃ M2, (I.map fun x => (x, ct C2 x)) = M2 := ⟨_, rfl⟩
                        rw [hM2] at HK2 HPL
                        obtain ⟨T2, hT2⟩ : ∃ T2, M2.map Prod.snd = T2 := ⟨_, rfl⟩
                        have HT2 : Hid (M2.map Prod.snd = T2) := hT2
                        have HRD2 : Hid (Sm (RD z T2)) := by have h7 := HRL.out z M2 HPL.out; rw [hT2] at h7; show _ ≤ _; omega
                        clear hC2 hM2 hT2 HZ1 HEY
                        refine wp_region_noPanic ?_
                        refine wp_region_held_drew (S := fun W => Below Y1.heap.size Y1 W) (by kernel_rfl) (Below.drew (Below.refl _ _)) (fun hHeld => ?_)
                        obtain ⟨YD, hWD⟩ : ∃ WD, Y1.drew = WD := ⟨_, rfl⟩
                        have HYD : Hid (Below Y1.heap.size Y1 YD) := by rw [← hWD]; exact Below.drew (Below.refl _ _)
                        rw [hWD] at hHeld ⊢
                        clear hWD
                        refine wpAnyH_take (i := 0) (oi := { dst := _, op := _, type := _, pos := _, after := _, guard := _ }) (v := ?_) rfl (by kernel_rfl) (by kernel_rfl) (by kernel_rfl) (fun _ _ _ h => h) (Or.inl ⟨by rfl, ?_⟩) (by assumption) ?_
                        rotate_left
                        · intro W hSw
                          (try dsimp only at hSw)
                          have x0 := below_cell hSw (rcell (HXB.out _ HBY.out) 0 _ rfl)
                          have x1 := below_cell hSw (rcell (HXB.out _ HBY.out) 1 _ rfl)
                          have x2 := below_cell hSw (rcell (HXB.out _ HBY.out) 2 _ rfl)
                          have x3 := below_cell hSw (rcell (HXB.out _ HBY.out) 3 _ rfl)
                          have x4 := below_cell hSw (rcell (HXB.out _ HBY.out) 4 _ rfl)
                          have x5 := below_cell hSw (rcell (HXB.out _ HBY.out) 5 _ rfl)
                          have x6 := below_cell hSw (rcell (HXB.out _ HBY.out) 6 _ rfl)
                          have x7 := below_cell hSw (rcell (HXB.out _ HBY.out) 7 _ rfl)
                          have x8 := below_cell hSw (rcell (HXB.out _ HBY.out) 8 _ rfl)
                          have x9 := below_cell hSw (rcell (HXB.out _ HBY.out) 9 _ rfl)
                          have x10 := below_cell hSw (rcell (HXB.out _ HBY.out) 10 _ rfl)
                          have x11 := below_cell hSw (rcell (HXB.out _ HBY.out) 11 _ rfl)
                          go_simp
                          (try with_reducible rfl)
                        try simp only [Act.put, List.setIfInBounds_toArray, List.set_cons_zero, List.set_cons_succ]
                        refine wpAnyH_take (i := 1) (oi := { dst := _, op := _, type := _, pos := _, after := _, guard := _ }) (v := ?_) rfl (by kernel_rfl) (by kernel_rfl) (by kernel_rfl) (fun _ _ _ h => h) (Or.inl ⟨by rfl, ?_⟩) (by assumption) ?_
                        rotate_left
                        · intro W hSw
                          (try dsimp only at hSw)
                          go_simp
                          (try with_reducible rfl)
                        try simp only [Act.put, List.setIfInBounds_toArray, List.set_cons_zero, List.set_cons_succ]
                        refine wpAnyH_take (i := 2) (oi := { dst := _, op := _, type := _, pos := _, after := _, guard := _ }) (v := ?_) rfl (by kernel_rfl) (by kernel_rfl) (by kernel_rfl) (fun _ _ _ h => h) (Or.inl ⟨by rfl, ?_⟩) (by assumption) ?_
                        rotate_left
                        · intro W hSw
                          (try dsimp only at hSw)
                          go_simp
                          (try with_reducible rfl)
                        try simp only [Act.put, List.setIfInBounds_toArray, List.set_cons_zero, List.set_cons_succ]
                        refine wpAnyH_take (i := 4) (oi := { dst := _, op := _, type := _, pos := _, after := _, guard := _ }) (v := ?_) rfl (by kernel_rfl) (by kernel_rfl) (by kernel_rfl) (fun _ _ _ h => h) (Or.inl ⟨by rfl, ?_⟩) (by assumption) ?_
                        rotate_left
                        · intro W hSw
                          (try dsimp only at hSw)
                          go_simp
                          (try with_reducible rfl)
                        try simp only [Act.put, List.setIfInBounds_toArray, List.set_cons_zero, List.set_cons_succ]
                        refine wpAnyH_ready (rs := [3]) (by kernel_rfl) (by simp) ?_
                        refine AllReadyH.cons (o := { dst := _, op := _, type := _, pos := _, after := _, guard := _ }) rfl (fun K hK => ?_) AllReadyH.nil
                        go_simp
                        refine Calls.mono (HCB.out YD _ M2 (below_trans HBY.out HYD.out) (HK2.out.up HYD.out) HPL.out) ?_
                        rintro ee Y2 ⟨v5, M5, rfl, hk5, hm5, hb5⟩
                        have HY2 : Hid (Below Y1.heap.size Y1 Y2) := below_trans HYD.out hb5
                        have HK5 : Hid (Kr Y2 v5 M5) := hk5
                        have HM5 : Hid (M5.map Prod.snd = T2) := hm5.trans HT2.out
                        have HL5 : Hid ((M5.map Prod.snd).map List.length = T.map List.length) := by show _ = _; rw [hm5]; exact HPL.out
                        clear hk5 hm5 hb5
                        go_wp2_with fail
                        refine hK.out _ _ ?_ (fun hHeld => ?_)
                        · exact HY2.out
                        clear hK K
                        try simp only [Act.put, List.setIfInBounds_toArray, List.set_cons_zero, List.set_cons_succ]
                        refine wpAnyH_ready (rs := [5]) (by kernel_rfl) (by simp) ?_
                        refine AllReadyH.cons (o := { dst := _, op := _, type := _, pos := _, after := _, guard := _ }) rfl (fun K hK => ?_) AllReadyH.nil
                        go_simp
                        refine Calls.mono (HRR.out _ _ M5 _ T2 (below_trans HBY.out HY2.out) HK5.out HM5.out HL5.out) ?_
                        rintro ee Y3 ⟨vo', rfl, hn5⟩
                        have HN3 : Hid (Nw Y2 Y3 vo' (RD z T2)) := hn5
                        have HY3 : Hid (Below Y1.heap.size Y1 Y3) := below_trans HY2.out hn5.2
                        clear hn5
                        go_wp2_with fail
                        refine hK.out _ _ ?_ (fun hHeld => ?_)
                        · exact HY3.out
                        clear hK K
                        try simp only [Act.put, List.setIfInBounds_toArray, List.set_cons_zero, List.set_cons_succ]
                        refine wpAnyH_take (i := 6) (oi := { dst := _, op := _, type := _, pos := _, after := _, guard := _ }) (v := ?_) rfl (by kernel_rfl) (by kernel_rfl) (by kernel_rfl) (fun _ _ _ h => h) (Or.inl ⟨by rfl, ?_⟩) (by assumption) ?_
                        rotate_left
                        · intro W hSw
                          (try dsimp only at hSw)
                          go_simp
                          (try with_reducible rfl)
                        try simp only [Act.put, List.setIfInBounds_toArray, List.set_cons_zero, List.set_cons_succ]
                        refine wpAnyH_done (by kernel_rfl) ?_ _
                        clear hHeld
                        refine NoPanic.normal ?_
                        have HB3 : Hid (Below W1.heap.size W1 Y3) := below_trans HBY.out HY3.out
                        go_upto_region 50 with fail
                        have x0 := rcell (HXB.out _ HB3.out) 0 _ rfl; have x1 := rcell (HXB.out _ HB3.out) 1 _ rfl; have x2 := rcell (HXB.out _ HB3.out) 2 _ rfl; have x3 := rcell (HXB.out _ HB3.out) 3 _ rfl; have x4 := rcell (HXB.out _ HB3.out) 4 _ rfl; have x5 := rcell (HXB.out _ HB3.out) 5 _ rfl; have x6 := rcell (HXB.out _ HB3.out) 6 _ rfl; have x7 := rcell (HXB.out _ HB3.out) 7 _ rfl; have x8 := rcell (HXB.out _ HB3.out) 8 _ rfl; have x9 := rcell (HXB.out _ HB3.out) 9 _ rfl; have x10 := rcell (HXB.out _ HB3.out) 10 _ rfl; have x11 := rcell (HXB.out _ HB3.out) 11 _ rfl
                        go_upto_region 51 with (go_at_call 7; refine Calls.mono (HRED.out _ _ M2 _ T2 HB3.out (HK2.out.up HY3.out) HT2.out HPL.out) ?_; rintro ee Y4 ⟨vd, rfl, hn5⟩; have HN4 : Hid (Nw Y3 Y4 vd (RD z T2)) := hn5; clear hn5)
                        clear x0 x1 x2 x3 x4 x5 x6 x7 x8 x9 x10 x11
                        have HS4 : Hid (Ns Y4 vd (RD z T2) ∧ Ns Y4 vo' (RD z T2)) := ⟨row_rw HN4.out.1 (by decide), row_rw (row_up HN3.out.1 HN4.out.2) (by decide)⟩
                        go_wp2_with (go_at_call 11; refine Calls.mono (same_any HRD2.out Y4 HS4.out.1 HS4.out.2) ?_; rintro ee Y5 ⟨rfl, hb5⟩; have HB5 : Hid (Below W1.heap.size W1 Y5) := below_trans HB3.out (below_trans HN4.out.2 hb5); rw [decide_eq_true rfl]; clear hb5)
                        go_ret
                        exact ⟨rfl, below_trans HB1.out HB5.out⟩
end Go.Proofs.Ytcfmpmhdjkchjab
