import Derived.Test.YtcfmpmhdjkchjaaTgf
namespace Go.Proofs.Ytcfmpmhdjkchjaa
open Go.RowKit Go.Maps

theorem Og.push {B : Nat} {W : World} {g cap : Nat} {T X : List Nd} (h : W.ownsRow B 33 7 (.slice (some ⟨g, 0, none⟩) (T.length + X.length) cap) (T.length + X.length) (flat nf T ++ flat nf X)) : Og B W g cap (T ++ X) := by
  unfold Og; rw [List.length_append, flat_app]; exact h
theorem bel_own {B : Nat} {w0 W W' : World} {g cap : Nat} {X : List Nd} (hb : Below B w0 W) (hB : B ≤ W.heap.size) (ho : Og B W g cap X) (hg : W.grownBy W' (some g)) : Below B w0 W' := hb.grown hg hB (fun r hr => by cases hr; exact ho.blk)
set_option maxRecDepth 100000 in
set_option maxHeartbeats 16000000 in
theorem appendPart_any {v0 v1 v2 vk : Value} {Te : List Td} {Sy : List Sd} {P : List Pd} {T k : List Nd} {g cap : Nat} (w0 w : World) (hb0 : Below w0.heap.size w0 w) (hg0 : Gx w0 v0 v1 v2 Te Sy P) (hgs : Gs Te Sy P) (hk : Ns w0 vk k) (hf : Fo (kds k)) (ho : Og w0.heap.size w g cap T) (z : Int) (fd nm : ByteArray) (en : Int) (hz : z ≤ 9223372036854775807) (hsz : (T.length + k.length + 1) * 72 + 4096 ≤ 140737488355328) :
    Calls Try.prog 78 #[.slice (some ⟨g, 0, none⟩) T.length cap, .agg #[v0, v1, v2], .agg #[.int .i64 z, .string fd, .string nm], vk, .int .i64 en] w fun e w' => ∃ g' cap', e = .returned (.slice (some ⟨g', 0, none⟩) (T ++ part Te Sy (z, fd, nm) k en).length cap') ∧ Og w0.heap.size w' g' cap' (T ++ part Te Sy (z, fd, nm) k en) ∧ Below w0.heap.size w0 w' := by
  obtain ⟨iN, hiN, hx0, hx1, hx2⟩ := info_parts infoNd
  have HB0 : Hid (Below w0.heap.size w0 w) := hb0
  have HG0 : Hid (Gx w0 v0 v1 v2 Te Sy P) := hg0
  have HGS : Hid (Gs Te Sy P) := hgs
  have HF : Hid (Fo (kds k)) := hf
  have HK0 : Hid (Ns w0 vk k) := hk
  have HZ : Hid (z ≤ 9223372036854775807) := hz
  have HSZ : Hid ((T.length + k.length + 1) * 72 + 4096 ≤ 140737488355328) := hsz
  have HSK : Hid (Sm k) := by show _ ≤ _; omega
  obtain ⟨a0, c0, a1, c1, a2, c2, rfl, rfl, rfl⟩ := hg0.form
  obtain ⟨ka, kc, rfl⟩ := hk.form
  obtain ⟨W1, hW1⟩ : ∃ W1, W1 = (w.alloc (.cells #[.slice a0 Te.length c0, .slice a1 Sy.length c1, .slice a2 P.length c2] 41)).alloc (.cells #[.int .i64 z, .string fd, .string nm] 97) := ⟨_, rfl⟩
  have HO1 : Hid (Og w0.heap.size W1 g cap T) := by rw [hW1]; exact (ho.alloc _).alloc _
  have HB1 : Hid (Below w0.heap.size w0 W1) := by rw [hW1]; exact below_trans hb0 (below_trans (bel_up _ _) (bel_up _ _))
  have HS1 : Hid (w0.heap.size ≤ W1.heap.size) := HB1.out.size
  have HX1 : Hid (W1.heap[w.heap.size]? = some (.cells #[.slice a0 Te.length c0, .slice a1 Sy.length c1, .slice a2 P.length c2] 41 (0, 0))) := by rw [hW1]; exact ((bel_up (w.alloc _) _).block w.heap.size (by simp)).trans (heap_new _ _)
  have HR1 : Hid (Rb W1 (w.heap.size + 1) (z, fd, nm)) := by rw [hW1]; exact heap_new2 _ _ _
  obtain ⟨n0, hn0⟩ : ∃ n, Te.length = n := ⟨_, rfl⟩
  obtain ⟨n1, hn1⟩ : ∃ n, Sy.length = n := ⟨_, rfl⟩
  obtain ⟨n2, hn2⟩ : ∃ n, P.length = n := ⟨_, rfl⟩
  obtain ⟨n, hn⟩ : ∃ n, T.length = n := ⟨_, rfl⟩
  obtain ⟨m, hm⟩ : ∃ n, k.length = n := ⟨_, rfl⟩
  have HN : Hid (T.length = n) := hn
  have HM : Hid (k.length = m) := hm
  rw [hn0, hn1, hn2] at HG0 HX1 hW1 ⊢
  rw [hm] at HK0 HSZ ⊢
  rw [hn] at HSZ ⊢
  clear hb0 hg0 hgs hk hf ho hz hsz hn0 hn1 hn2 hn hm
  have HOW : Hid (W1.ownsRow w0.heap.size 33 7 (.slice (some ⟨g, 0, none⟩) n cap) n (flat nf T)) := by have h7 := HO1.out; unfold Og at h7; rw [HN.out] at h7; exact h7
  have HKR : Hid (∀ W, Below w0.heap.size w0 W → Rw W (.slice ka m kc) m (flat nf k)) := fun W hb => by have h7 := HK0.out.up hb; unfold Ns at h7; rw [HM.out] at h7; exact h7
  go_enter Try.func78, Try.ntmps78
  go_upto_region 4 with fail
  rw [← hW1]
  clear hW1
  obtain ⟨gb, hgb⟩ : ∃ gb, w.heap.size = gb := ⟨_, rfl⟩
  rw [hgb] at HX1 HR1 ⊢
  obtain ⟨rb, hrb⟩ : ∃ rb, gb + 1 = rb := ⟨_, rfl⟩
  rw [hrb] at HR1 ⊢
  clear hgb hrb
  have x0 := rcell HX1.out 0 _ rfl
  have x1 := rcell HX1.out 1 _ rfl
  have x2 := rcell HX1.out 2 _ rfl
  have r0 := rcell HR1.out 0 _ rfl
  have r1 := rcell HR1.out 1 _ rfl
  have r2 := rcell HR1.out 2 _ rfl
  by_cases hnm : nm = ⟨#[]⟩
  · have e8 : nm.toList = [] := by rw [hnm]; exact emp_yes
    cases hhd : hdn Te z with
    | true =>
      have HPE : Hid (part Te Sy (z, fd, nm) k en = []) := by show _ = _; unfold part; rw [if_pos ⟨hnm, hhd⟩]
      have HHD : Hid (hdn Te z = true) := hhd
      clear hhd hnm
      go_wp2_with (go_at_call 73; refine (isHidden_any _ (HG0.out.up HB1.out) _).mono ?_; rintro ee W2 ⟨rfl, hb5⟩; rw [HHD.out]; have HB2 : Hid (Below w0.heap.size w0 W2) := HB1.out.trans (hb5.mono HS1.out); have HO2 : Hid (Og w0.heap.size W2 g cap T) := row_up HO1.out hb5; clear hb5)
      go_ret
      rw [HPE.out]
      exact ⟨_, _, by rw [List.append_nil, HN.out]; rfl, by rw [List.append_nil]; exact HO2.out, HB2.out⟩
    | false =>
      have HXE : Hid (part Te Sy (z, fd, nm) k en = prf fd k) := by
        show _ = _
        unfold part prx
        rw [if_neg (fun h => by have h2 := h.2; rw [hhd] at h2; cases h2), if_pos hnm]
      have HHD : Hid (hdn Te z = false) := hhd
      clear hhd hnm
      go_upto_region 7 with (go_at_call 73; refine (isHidden_any _ (HG0.out.up HB1.out) _).mono ?_; rintro ee W2 ⟨rfl, hb5⟩; rw [HHD.out]; have HB2 : Hid (Below w0.heap.size w0 W2) := HB1.out.trans (hb5.mono HS1.out); have HO2 : Hid (W2.ownsRow w0.heap.size 33 7 (.slice (some ⟨g, 0, none⟩) n cap) n (flat nf T)) := row_up HOW.out hb5; have HR2 : Hid (Rb W2 rb (z, fd, nm)) := (hb5.block rb (lt_of_heap HR1.out)).trans HR1.out; have s2 := below_cell hb5 r2; have s1 := below_cell hb5 r1; clear hb5)
      clear x0 x1 x2 r0 r1 r2 s1 s2
      go_upto_region 11 with (at_builtin; refine wpList_push _ rfl _ _ 22 rfl w0.heap.size 33 iN _ 7 72 Try.underlying22 hiN hx0 hx1 hx2 rfl (by decide) g n cap _ rfl HO2.out _ m (flat nf k) rfl (HKR.out _ HB2.out) (by rw [flat_len nf_len, HM.out]) (flat_one nf_one k) (by have := HSZ.out; unfold maxLen; omega) (by have := HSZ.out; omega) HB2.out.size ?_; intro g3 cap3 W3 ho9 hg9; have HO3 : Hid (Og w0.heap.size W3 g3 cap3 (T ++ k)) := Og.push (by rw [HN.out, HM.out]; exact ho9); have HB3 : Hid (Below w0.heap.size w0 W3) := HB2.out.grown hg9 HB2.out.size (fun r hr => by cases hr; exact (row_tag HO2.out g rfl).1); have HR3 : Hid (Rb W3 rb (z, fd, nm)) := (hg9.block rb (lt_of_heap HR2.out) (fun e => tag_ne_blk HO2.out HR2.out (by decide) e.symm)).trans HR2.out; have r1 := rcell HR3.out 1 _ rfl; clear ho9 hg9)
      have HXL : Hid (k.length = m) := HM.out
      have HFX : Hid (Fo (kds k)) := HF.out
      have HSN : Hid ((n + m) * 72 + 4096 ≤ 140737488355328) := by have := HSZ.out; show _ ≤ _; omega
      obtain ⟨nl, hnl⟩ : ∃ nl, n + m = nl := ⟨_, rfl⟩
      rw [hnl]
      have HNL : Hid ((T ++ k).length = nl ∧ n ≤ nl) := ⟨by rw [List.length_append, HN.out]; first | (rw [HXL.out]; exact hnl) | (rw [HXL.out]; omega), by omega⟩
      clear hnl
      have HCP : Hid (nl ≤ cap3) := by have h7 := row_cap HO3.out; rw [HNL.out.1] at h7; exact h7.1
      by_cases hfd : fd = ⟨#[]⟩
      · have HPE : Hid (part Te Sy (z, fd, nm) k en = k) := by show _ = _; rw [HXE.out]; unfold prf; rw [if_pos hfd]
        have e7 : fd.toList = [] := by rw [hfd]; exact emp_yes
        clear hfd
        go_wp2_with fail
        go_ret
        rw [HPE.out]
        exact ⟨g3, cap3, by have h6 := HNL.out.1; rw [List.length_append] at h6; rw [h6]; rfl, HO3.out, HB3.out⟩
      · have HPE : Hid (part Te Sy (z, fd, nm) k en = rtm (gfl fd) (k) (k).length) := by show _ = _; rw [HXE.out]; unfold prf; rw [if_neg hfd]
        have e7 : ¬ fd.toList = [] := emp_no hfd
        have e6 : fd.toList.isEmpty = false := by rw [List.isEmpty_eq_false_iff]; exact e7
        have HSX : Hid (Sm (k)) := by have := HSN.out; have := HXL.out; show _ ≤ _; omega
        clear hfd
        have HGF : Hid (∀ W, Og w0.heap.size W g3 cap3 (T ++ k) → Calls Try.prog 87 #[.slice (if cap3 = n then some ⟨g3, 0, none⟩ else some ⟨g3, n * 7, none⟩) (nl - n) (cap3 - n), .string fd] W fun e w' => e = .returned (.tuple #[]) ∧ Og w0.heap.size w' g3 cap3 (T ++ rtm (gfl fd) (k) (k).length) ∧ W.grownBy w' (some g3)) := fun W ho7 => by
          have hl7 : (k).length = nl - n := by have := HNL.out.1; rw [List.length_append, HN.out] at this; omega
          have h7 := giveField_any (T := T) (t := k) (c := cap3 - n) (ad := if cap3 = n then some ⟨g3, 0, none⟩ else some ⟨g3, n * 7, none⟩) fd W ho7 HSX.out HFX.out (by have := HCP.out; omega) (fun hp => by rw [if_neg (by have := HCP.out; omega), HN.out])
          rw [hl7] at h7
          refine h7.mono ?_
          rintro e7 w7 ⟨q1, q2, q3⟩
          exact ⟨q1, by unfold Og; rw [List.length_append, rtm_len, ← List.length_append, hl7]; exact q2, q3⟩
        have hnl := HNL.out.2
        have hcp := HCP.out
        have hnl1 : (n : Int) ≤ (nl : Int) := by omega
        have hcp1 : (nl : Int) ≤ (cap3 : Int) := by omega
        go_upto_region 12 with fail
        refine wp_region_noPanic ?_
        refine wp_region_held_drew (S := fun W' => W'.cell? ⟨rb, 1, none⟩ = some (.string fd)) (by kernel_rfl) r1 (fun hHeld => ?_)
        obtain ⟨WD, hWD⟩ : ∃ WD, W3.drew = WD := ⟨_, rfl⟩
        have HOD : Hid (Og w0.heap.size WD g3 cap3 (T ++ k)) := by rw [← hWD]; exact row_up HO3.out (Below.drew (Below.refl _ _))
        have HRD : Hid (Rb WD rb (z, fd, nm)) := by rw [← hWD]; exact ((Below.drew (Below.refl _ _)).block rb (lt_of_heap HR3.out)).trans HR3.out
        have HBD : Hid (Below w0.heap.size w0 WD) := by rw [← hWD]; exact Below.drew HB3.out
        (try rw [hWD] at hHeld)
        rw [hWD]
        clear hWD
        refine wpAnyH_take (i := 0) (oi := { dst := _, op := _, type := _, pos := _, after := _, guard := _ }) (v := ?_) rfl (by kernel_rfl) (by kernel_rfl) (by kernel_rfl) (fun _ _ _ h => h) (Or.inl ⟨by rfl, ?_⟩) (by assumption) ?_
        rotate_left
        · intro W hSw
          (try dsimp only at hSw)
          go_simp
          (try with_reducible rfl)
        try simp only [Act.put, List.setIfInBounds_toArray, List.set_cons_zero, List.set_cons_succ]
        refine wpAnyH_take (i := 1) (oi := { dst := _, op := _, type := _, pos := _, after := _, guard := _ }) (v := ?_) rfl (by kernel_rfl) (by kernel_rfl) (by kernel_rfl) (fun _ _ _ h => h) (Or.inl ⟨by rfl, ?_⟩) (by assumption) ?_
        rotate_left
        · intro W hSw
          (try dsimp only at hSw)
          go_simp
          (try with_reducible rfl)
        try simp only [Act.put, List.setIfInBounds_toArray, List.set_cons_zero, List.set_cons_succ]
        refine wpAnyH_take (i := 2) (oi := { dst := _, op := _, type := _, pos := _, after := _, guard := _ }) (v := ?_) rfl (by kernel_rfl) (by kernel_rfl) (by kernel_rfl) (fun _ _ _ h => h) (Or.inl ⟨by rfl, ?_⟩) (by assumption) ?_
        rotate_left
        · intro W hSw
          (try dsimp only at hSw)
          go_simp
          (try with_reducible rfl)
        try simp only [Act.put, List.setIfInBounds_toArray, List.set_cons_zero, List.set_cons_succ]
        refine wpAnyH_take (i := 3) (oi := { dst := _, op := _, type := _, pos := _, after := _, guard := _ }) (v := ?_) rfl (by kernel_rfl) (by kernel_rfl) (by kernel_rfl) (fun _ _ _ h => h) (Or.inl ⟨by rfl, ?_⟩) (by assumption) ?_
        rotate_left
        · intro W hSw
          (try dsimp only at hSw)
          go_simp
          (try with_reducible rfl)
        try simp only [Act.put, List.setIfInBounds_toArray, List.set_cons_zero, List.set_cons_succ]
        refine wpAnyH_take (i := 4) (oi := { dst := _, op := _, type := _, pos := _, after := _, guard := _ }) (v := ?_) rfl (by kernel_rfl) (by kernel_rfl) (by kernel_rfl) (fun _ _ _ h => h) (Or.inl ⟨by rfl, ?_⟩) (by assumption) ?_
        rotate_left
        · intro W hSw
          (try dsimp only at hSw)
          go_simp
          (try with_reducible rfl)
        try simp only [Act.put, List.setIfInBounds_toArray, List.set_cons_zero, List.set_cons_succ]
        refine wpAnyH_ready (rs := [5]) (by kernel_rfl) (by simp) ?_
        refine AllReadyH.cons (o := { dst := _, op := _, type := _, pos := _, after := _, guard := _ }) rfl (fun K hK => ?_) AllReadyH.nil
        go_simp
        refine Calls.mono (HGF.out WD HOD.out) ?_
        rintro ee WE ⟨rfl, ho8, hg8⟩
        have HRE : Hid (Rb WE rb (z, fd, nm)) := HRD.out.keep HOD.out hg8
        have HBE : Hid (Below w0.heap.size w0 WE) := bel_own HBD.out HBD.out.size HOD.out hg8
        have HOE : Hid (Og w0.heap.size WE g3 cap3 (T ++ rtm (gfl fd) (k) (k).length)) := ho8
        clear ho8 hg8
        refine hK.out _ _ ?_ (fun hHeld => ?_)
        · first | exact trivial | (exact rcell HRE.out 1 _ rfl)
        clear hK K
        try simp only [Act.put, List.setIfInBounds_toArray, List.set_cons_zero, List.set_cons_succ]
        refine wpAnyH_done (by kernel_rfl) ?_ _
        refine NoPanic.normal ?_
        generalize (if cap3 = n then (some ⟨g3, 0, none⟩ : Option Addr) else some ⟨g3, n * 7, none⟩) = sa
        go_wp2_with fail
        go_ret
        rw [HPE.out]
        exact ⟨g3, cap3, by have h6 := HNL.out.1; rw [List.length_append] at h6; rw [rtm_len, h6]; rfl, HOE.out, HBE.out⟩
  · have e8 : ¬ nm.toList = [] := emp_no hnm
    have e9 : nm.toList.isEmpty = false := by rw [List.isEmpty_eq_false_iff]; exact e8
    have HPX : Hid (∀ b, hnd Te Sy z = b → part Te Sy (z, fd, nm) k en = prf fd (if b = true then rtm (cal nm) k k.length else hed nm k en :: k)) := fun b hb => by
      unfold part prx
      rw [if_neg (fun h => hnm h.1), if_neg hnm, hb]
    clear hnm
    cases hhn : hnd Te Sy z with
    | true =>
      have HXE : Hid (part Te Sy (z, fd, nm) k en = prf fd (rtm (cal nm) k k.length)) := by have h6 := HPX.out true hhn; rw [if_pos rfl] at h6; exact h6
      have HHN : Hid (hnd Te Sy z = true) := hhn
      clear hhn HPX
      go_upto_region 9 with (go_at_call 85; refine (hasNode_any _ (HG0.out.up HB1.out) HGS.out _ HZ.out).mono ?_; rintro ee W2 ⟨rfl, hb5⟩; rw [HHN.out]; have HB2 : Hid (Below w0.heap.size w0 W2) := HB1.out.trans (hb5.mono HS1.out); have HO2 : Hid (W2.ownsRow w0.heap.size 33 7 (.slice (some ⟨g, 0, none⟩) n cap) n (flat nf T)) := row_up HOW.out hb5; have HR2 : Hid (Rb W2 rb (z, fd, nm)) := (hb5.block rb (lt_of_heap HR1.out)).trans HR1.out; clear hb5)
      clear x0 x1 x2 r0 r1 r2
      go_upto_region 10 with (at_builtin; refine wpList_push _ rfl _ _ 22 rfl w0.heap.size 33 iN _ 7 72 Try.underlying22 hiN hx0 hx1 hx2 rfl (by decide) g n cap _ rfl HO2.out _ m (flat nf k) rfl (HKR.out _ HB2.out) (by rw [flat_len nf_len, HM.out]) (flat_one nf_one k) (by have := HSZ.out; unfold maxLen; omega) (by have := HSZ.out; omega) HB2.out.size ?_; intro g3 cap3 W3 ho9 hg9; have HO3 : Hid (Og w0.heap.size W3 g3 cap3 (T ++ k)) := Og.push (by rw [HN.out, HM.out]; exact ho9); have HB3 : Hid (Below w0.heap.size w0 W3) := HB2.out.grown hg9 HB2.out.size (fun r hr => by cases hr; exact (row_tag HO2.out g rfl).1); have HR3 : Hid (Rb W3 rb (z, fd, nm)) := (hg9.block rb (lt_of_heap HR2.out) (fun e => tag_ne_blk HO2.out HR2.out (by decide) e.symm)).trans HR2.out; have r2 := rcell HR3.out 2 _ rfl; clear ho9 hg9)
      obtain ⟨nl, hnl⟩ : ∃ nl, n + m = nl := ⟨_, rfl⟩
      rw [hnl]
      have HNL : Hid ((T ++ k).length = nl ∧ n ≤ nl) := ⟨by rw [List.length_append, HN.out, HM.out]; exact hnl, by omega⟩
      have HSN : Hid ((n + m) * 72 + 4096 ≤ 140737488355328) := by have := HSZ.out; show _ ≤ _; omega
      clear hnl
      have HCP : Hid (nl ≤ cap3) := by have h7 := row_cap HO3.out; rw [HNL.out.1] at h7; exact h7.1
      have HFX : Hid (Fo (kds k)) := HF.out
      have HSX : Hid (Sm k) := HSK.out
      have HCF : Hid (∀ W, Og w0.heap.size W g3 cap3 (T ++ k) → Calls Try.prog 86 #[.slice (if cap3 = n then some ⟨g3, 0, none⟩ else some ⟨g3, n * 7, none⟩) (nl - n) (cap3 - n), .string nm] W fun e w' => e = .returned (.tuple #[]) ∧ Og w0.heap.size w' g3 cap3 (T ++ rtm (cal nm) (k) (k).length) ∧ W.grownBy w' (some g3)) := fun W ho7 => by
        have hl7 : (k).length = nl - n := by have := HNL.out.1; rw [List.length_append, HN.out] at this; omega
        have h7 := callRoots_any (T := T) (t := k) (c := cap3 - n) (ad := if cap3 = n then some ⟨g3, 0, none⟩ else some ⟨g3, n * 7, none⟩) nm W ho7 HSX.out HFX.out (by have := HCP.out; omega) (fun hp => by rw [if_neg (by have := HCP.out; omega), HN.out])
        rw [hl7] at h7
        refine h7.mono ?_
        rintro e7 w7 ⟨q1, q2, q3⟩
        exact ⟨q1, by unfold Og; rw [List.length_append, rtm_len, ← List.length_append, hl7]; exact q2, q3⟩
      have hnl := HNL.out.2
      have hcp := HCP.out
      have hnl1 : (n : Int) ≤ (nl : Int) := by omega
      have hcp1 : (nl : Int) ≤ (cap3 : Int) := by omega
      refine wp_region_noPanic ?_
      refine wp_region_held_drew (S := fun W' => W'.cell? ⟨rb, 2, none⟩ = some (.string nm)) (by kernel_rfl) r2 (fun hHeld => ?_)
      obtain ⟨WD, hWD⟩ : ∃ WD, W3.drew = WD := ⟨_, rfl⟩
      have HOD : Hid (Og w0.heap.size WD g3 cap3 (T ++ k)) := by rw [← hWD]; exact row_up HO3.out (Below.drew (Below.refl _ _))
      have HRD : Hid (Rb WD rb (z, fd, nm)) := by rw [← hWD]; exact ((Below.drew (Below.refl _ _)).block rb (lt_of_heap HR3.out)).trans HR3.out
      have HBD : Hid (Below w0.heap.size w0 WD) := by rw [← hWD]; exact Below.drew HB3.out
      (try rw [hWD] at hHeld)
      rw [hWD]
      clear hWD
      refine wpAnyH_take (i := 0) (oi := { dst := _, op := _, type := _, pos := _, after := _, guard := _ }) (v := ?_) rfl (by kernel_rfl) (by kernel_rfl) (by kernel_rfl) (fun _ _ _ h => h) (Or.inl ⟨by rfl, ?_⟩) (by assumption) ?_
      rotate_left
      · intro W hSw
        (try dsimp only at hSw)
        go_simp
        (try with_reducible rfl)
      try simp only [Act.put, List.setIfInBounds_toArray, List.set_cons_zero, List.set_cons_succ]
      refine wpAnyH_take (i := 1) (oi := { dst := _, op := _, type := _, pos := _, after := _, guard := _ }) (v := ?_) rfl (by kernel_rfl) (by kernel_rfl) (by kernel_rfl) (fun _ _ _ h => h) (Or.inl ⟨by rfl, ?_⟩) (by assumption) ?_
      rotate_left
      · intro W hSw
        (try dsimp only at hSw)
        go_simp
        (try with_reducible rfl)
      try simp only [Act.put, List.setIfInBounds_toArray, List.set_cons_zero, List.set_cons_succ]
      refine wpAnyH_take (i := 2) (oi := { dst := _, op := _, type := _, pos := _, after := _, guard := _ }) (v := ?_) rfl (by kernel_rfl) (by kernel_rfl) (by kernel_rfl) (fun _ _ _ h => h) (Or.inl ⟨by rfl, ?_⟩) (by assumption) ?_
      rotate_left
      · intro W hSw
        (try dsimp only at hSw)
        go_simp
        (try with_reducible rfl)
      try simp only [Act.put, List.setIfInBounds_toArray, List.set_cons_zero, List.set_cons_succ]
      refine wpAnyH_take (i := 3) (oi := { dst := _, op := _, type := _, pos := _, after := _, guard := _ }) (v := ?_) rfl (by kernel_rfl) (by kernel_rfl) (by kernel_rfl) (fun _ _ _ h => h) (Or.inl ⟨by rfl, ?_⟩) (by assumption) ?_
      rotate_left
      · intro W hSw
        (try dsimp only at hSw)
        go_simp
        (try with_reducible rfl)
      try simp only [Act.put, List.setIfInBounds_toArray, List.set_cons_zero, List.set_cons_succ]
      refine wpAnyH_take (i := 4) (oi := { dst := _, op := _, type := _, pos := _, after := _, guard := _ }) (v := ?_) rfl (by kernel_rfl) (by kernel_rfl) (by kernel_rfl) (fun _ _ _ h => h) (Or.inl ⟨by rfl, ?_⟩) (by assumption) ?_
      rotate_left
      · intro W hSw
        (try dsimp only at hSw)
        go_simp
        (try with_reducible rfl)
      try simp only [Act.put, List.setIfInBounds_toArray, List.set_cons_zero, List.set_cons_succ]
      refine wpAnyH_ready (rs := [5]) (by kernel_rfl) (by simp) ?_
      refine AllReadyH.cons (o := { dst := _, op := _, type := _, pos := _, after := _, guard := _ }) rfl (fun K hK => ?_) AllReadyH.nil
      go_simp
      refine Calls.mono (HCF.out WD HOD.out) ?_
      rintro ee WE ⟨rfl, ho8, hg8⟩
      have HRE : Hid (Rb WE rb (z, fd, nm)) := HRD.out.keep HOD.out hg8
      have HBE : Hid (Below w0.heap.size w0 WE) := bel_own HBD.out HBD.out.size HOD.out hg8
      have HOE : Hid (Og w0.heap.size WE g3 cap3 (T ++ rtm (cal nm) (k) (k).length)) := ho8
      clear ho8 hg8
      refine hK.out _ _ ?_ (fun hHeld => ?_)
      · first | exact trivial | (exact rcell HRE.out 2 _ rfl)
      clear hK K
      try simp only [Act.put, List.setIfInBounds_toArray, List.set_cons_zero, List.set_cons_succ]
      refine wpAnyH_done (by kernel_rfl) ?_ _
      refine NoPanic.normal ?_
      generalize (if cap3 = n then (some ⟨g3, 0, none⟩ : Option Addr) else some ⟨g3, n * 7, none⟩) = sa
      clear hHeld r2 hnl hcp hnl1 hcp1
      have HO4 : Hid (Og w0.heap.size WE g3 cap3 (T ++ rtm (cal nm) k k.length)) := HOE.out
      have HR4 : Hid (Rb WE rb (z, fd, nm)) := HRE.out
      have HB4 : Hid (Below w0.heap.size w0 WE) := HBE.out
      have HNL' : Hid ((T ++ rtm (cal nm) k k.length).length = nl ∧ n ≤ nl) := ⟨by have h6 := HNL.out.1; rw [List.length_append] at h6 ⊢; rw [rtm_len]; exact h6, HNL.out.2⟩
      have HFX' : Hid (Fo (kds (rtm (cal nm) k k.length))) := by rw [kds_rtm (f := cal nm) (fun _ => rfl)]; exact HF.out
      have HXL : Hid ((rtm (cal nm) k k.length).length = m) := by rw [rtm_len]; exact HM.out
      clear HNL HFX HOE HRE HBE HOD HRD HBD HCF HSX
      obtain ⟨X, hX⟩ : ∃ X, rtm (cal nm) k k.length = X := ⟨_, rfl⟩
      rw [hX] at HO4 HNL' HFX' HXL HXE
      have HNL : Hid ((T ++ X).length = nl ∧ n ≤ nl) := HNL'.out
      have HFX : Hid (Fo (kds X)) := HFX'.out
      clear HNL' HFX' hX
      obtain ⟨W4, hW4⟩ : ∃ W4, WE = W4 := ⟨_, rfl⟩
      rw [hW4] at HO4 HR4 HB4 ⊢
      clear hW4
      have r1 := rcell HR4.out 1 _ rfl
      go_upto_region 11 with fail
      by_cases hfd : fd = ⟨#[]⟩
      · have HPE : Hid (part Te Sy (z, fd, nm) k en = X) := by show _ = _; rw [HXE.out]; unfold prf; rw [if_pos hfd]
        have e7 : fd.toList = [] := by rw [hfd]; exact emp_yes
        clear hfd
        go_wp2_with fail
        go_ret
        rw [HPE.out]
        exact ⟨g3, cap3, by have h6 := HNL.out.1; rw [List.length_append] at h6; rw [h6]; rfl, HO4.out, HB4.out⟩
      · have HPE : Hid (part Te Sy (z, fd, nm) k en = rtm (gfl fd) (X) (X).length) := by show _ = _; rw [HXE.out]; unfold prf; rw [if_neg hfd]
        have e7 : ¬ fd.toList = [] := emp_no hfd
        have e6 : fd.toList.isEmpty = false := by rw [List.isEmpty_eq_false_iff]; exact e7
        have HSX : Hid (Sm (X)) := by have := HSN.out; have := HXL.out; show _ ≤ _; omega
        clear hfd
        have HGF : Hid (∀ W, Og w0.heap.size W g3 cap3 (T ++ X) → Calls Try.prog 87 #[.slice (if cap3 = n then some ⟨g3, 0, none⟩ else some ⟨g3, n * 7, none⟩) (nl - n) (cap3 - n), .string fd] W fun e w' => e = .returned (.tuple #[]) ∧ Og w0.heap.size w' g3 cap3 (T ++ rtm (gfl fd) (X) (X).length) ∧ W.grownBy w' (some g3)) := fun W ho7 => by
          have hl7 : (X).length = nl - n := by have := HNL.out.1; rw [List.length_append, HN.out] at this; omega
          have h7 := giveField_any (T := T) (t := X) (c := cap3 - n) (ad := if cap3 = n then some ⟨g3, 0, none⟩ else some ⟨g3, n * 7, none⟩) fd W ho7 HSX.out HFX.out (by have := HCP.out; omega) (fun hp => by rw [if_neg (by have := HCP.out; omega), HN.out])
          rw [hl7] at h7
          refine h7.mono ?_
          rintro e7 w7 ⟨q1, q2, q3⟩
          exact ⟨q1, by unfold Og; rw [List.length_append, rtm_len, ← List.length_append, hl7]; exact q2, q3⟩
        have hnl := HNL.out.2
        have hcp := HCP.out
        have hnl1 : (n : Int) ≤ (nl : Int) := by omega
        have hcp1 : (nl : Int) ≤ (cap3 : Int) := by omega
        go_upto_region 12 with fail
        refine wp_region_noPanic ?_
        refine wp_region_held_drew (S := fun W' => W'.cell? ⟨rb, 1, none⟩ = some (.string fd)) (by kernel_rfl) r1 (fun hHeld => ?_)
        obtain ⟨WD, hWD⟩ : ∃ WD, W4.drew = WD := ⟨_, rfl⟩
        have HOD : Hid (Og w0.heap.size WD g3 cap3 (T ++ X)) := by rw [← hWD]; exact row_up HO4.out (Below.drew (Below.refl _ _))
        have HRD : Hid (Rb WD rb (z, fd, nm)) := by rw [← hWD]; exact ((Below.drew (Below.refl _ _)).block rb (lt_of_heap HR4.out)).trans HR4.out
        have HBD : Hid (Below w0.heap.size w0 WD) := by rw [← hWD]; exact Below.drew HB4.out
        (try rw [hWD] at hHeld)
        rw [hWD]
        clear hWD
        refine wpAnyH_take (i := 0) (oi := { dst := _, op := _, type := _, pos := _, after := _, guard := _ }) (v := ?_) rfl (by kernel_rfl) (by kernel_rfl) (by kernel_rfl) (fun _ _ _ h => h) (Or.inl ⟨by rfl, ?_⟩) (by assumption) ?_
        rotate_left
        · intro W hSw
          (try dsimp only at hSw)
          go_simp
          (try with_reducible rfl)
        try simp only [Act.put, List.setIfInBounds_toArray, List.set_cons_zero, List.set_cons_succ]
        refine wpAnyH_take (i := 1) (oi := { dst := _, op := _, type := _, pos := _, after := _, guard := _ }) (v := ?_) rfl (by kernel_rfl) (by kernel_rfl) (by kernel_rfl) (fun _ _ _ h => h) (Or.inl ⟨by rfl, ?_⟩) (by assumption) ?_
        rotate_left
        · intro W hSw
          (try dsimp only at hSw)
          go_simp
          (try with_reducible rfl)
        try simp only [Act.put, List.setIfInBounds_toArray, List.set_cons_zero, List.set_cons_succ]
        refine wpAnyH_take (i := 2) (oi := { dst := _, op := _, type := _, pos := _, after := _, guard := _ }) (v := ?_) rfl (by kernel_rfl) (by kernel_rfl) (by kernel_rfl) (fun _ _ _ h => h) (Or.inl ⟨by rfl, ?_⟩) (by assumption) ?_
        rotate_left
        · intro W hSw
          (try dsimp only at hSw)
          go_simp
          (try with_reducible rfl)
        try simp only [Act.put, List.setIfInBounds_toArray, List.set_cons_zero, List.set_cons_succ]
        refine wpAnyH_take (i := 3) (oi := { dst := _, op := _, type := _, pos := _, after := _, guard := _ }) (v := ?_) rfl (by kernel_rfl) (by kernel_rfl) (by kernel_rfl) (fun _ _ _ h => h) (Or.inl ⟨by rfl, ?_⟩) (by assumption) ?_
        rotate_left
        · intro W hSw
          (try dsimp only at hSw)
          go_simp
          (try with_reducible rfl)
        try simp only [Act.put, List.setIfInBounds_toArray, List.set_cons_zero, List.set_cons_succ]
        refine wpAnyH_take (i := 4) (oi := { dst := _, op := _, type := _, pos := _, after := _, guard := _ }) (v := ?_) rfl (by kernel_rfl) (by kernel_rfl) (by kernel_rfl) (fun _ _ _ h => h) (Or.inl ⟨by rfl, ?_⟩) (by assumption) ?_
        rotate_left
        · intro W hSw
          (try dsimp only at hSw)
          go_simp
          (try with_reducible rfl)
        try simp only [Act.put, List.setIfInBounds_toArray, List.set_cons_zero, List.set_cons_succ]
        refine wpAnyH_ready (rs := [5]) (by kernel_rfl) (by simp) ?_
        refine AllReadyH.cons (o := { dst := _, op := _, type := _, pos := _, after := _, guard := _ }) rfl (fun K hK => ?_) AllReadyH.nil
        go_simp
        refine Calls.mono (HGF.out WD HOD.out) ?_
        rintro ee WE ⟨rfl, ho8, hg8⟩
        have HRE : Hid (Rb WE rb (z, fd, nm)) := HRD.out.keep HOD.out hg8
        have HBE : Hid (Below w0.heap.size w0 WE) := bel_own HBD.out HBD.out.size HOD.out hg8
        have HOE : Hid (Og w0.heap.size WE g3 cap3 (T ++ rtm (gfl fd) (X) (X).length)) := ho8
        clear ho8 hg8
        refine hK.out _ _ ?_ (fun hHeld => ?_)
        · first | exact trivial | (exact rcell HRE.out 1 _ rfl)
        clear hK K
        try simp only [Act.put, List.setIfInBounds_toArray, List.set_cons_zero, List.set_cons_succ]
        refine wpAnyH_done (by kernel_rfl) ?_ _
        refine NoPanic.normal ?_
        generalize (if cap3 = n then (some ⟨g3, 0, none⟩ : Option Addr) else some ⟨g3, n * 7, none⟩) = sa
        go_wp2_with fail
        go_ret
        rw [HPE.out]
        exact ⟨g3, cap3, by have h6 := HNL.out.1; rw [List.length_append] at h6; rw [rtm_len, h6]; rfl, HOE.out, HBE.out⟩
    | false =>
      have HXE : Hid (part Te Sy (z, fd, nm) k en = prf fd (hed nm k en :: k)) := by have h6 := HPX.out false hhn; rw [if_neg (by decide)] at h6; exact h6
      have HHN : Hid (hnd Te Sy z = false) := hhn
      clear hhn HPX
      go_upto_region 2 with (go_at_call 85; refine (hasNode_any _ (HG0.out.up HB1.out) HGS.out _ HZ.out).mono ?_; rintro ee W2 ⟨rfl, hb5⟩; rw [HHN.out]; have HB2 : Hid (Below w0.heap.size w0 W2) := HB1.out.trans (hb5.mono HS1.out); have HO2 : Hid (W2.ownsRow w0.heap.size 33 7 (.slice (some ⟨g, 0, none⟩) n cap) n (flat nf T)) := row_up HOW.out hb5; have HR2 : Hid (Rb W2 rb (z, fd, nm)) := (hb5.block rb (lt_of_heap HR1.out)).trans HR1.out; clear hb5)
      clear x0 x1 x2 r0 r1 r2
      have r2 := rcell HR2.out 2 _ rfl
      have HKN : Hid (∀ W, Below w0.heap.size w0 W → Ns W (.slice ka m kc) k) := fun W hb => HK0.out.up hb
      have HRW : Hid (∀ (W : World) (x : Nd), Rw (W.alloc (.cells #[.string x.nm, .bool x.nd, .string x.fd, .int .i64 x.fr, .int .i64 x.tt, .int .i64 x.kd, .int .i64 x.lf] 33)) (.slice (some ⟨W.heap.size, 0, none⟩) 1 1) 1 (flat nf [x])) := fun W x => ⟨_, W.heap.size, 0, 1, rfl, Nat.le_refl _, (fun h => by cases h), fun _ => rfl, fun j u hu => by rw [show flat nf [x] = nf x from List.append_nil _] at hu; rw [Nat.zero_add]; refine rcell (heap_new _ _) j u ?_; rw [← Array.getElem?_toList]; exact hu⟩
      have HHE : Hid (hed nm k en = hed nm k en) := rfl
      obtain ⟨x, hx⟩ : ∃ x, hed nm k en = x := ⟨_, rfl⟩
      rw [hx] at HXE
      have HEX : Hid (hed nm k en = x) := hx
      clear hx HHE
      have HMX : Hid (n + 1 ≤ maxLen ∧ (n + 1) * 72 ≤ 140737488355328) := by have := HSZ.out; show _ ∧ _; unfold maxLen; omega
      go_upto_region 3 with first | (go_at_call 79; refine (head_any _ (HKN.out _ HB2.out) HSK.out HF.out nm en).mono ?_; rintro ee W3 ⟨rfl, hb6⟩; rw [HEX.out]; unfold nA; have HB3 : Hid (Below w0.heap.size w0 W3) := HB2.out.trans (hb6.mono HB2.out.size); have HO3 : Hid ((W3.alloc (.cells #[.string x.nm, .bool x.nd, .string x.fd, .int .i64 x.fr, .int .i64 x.tt, .int .i64 x.kd, .int .i64 x.lf] 33)).ownsRow w0.heap.size 33 7 (.slice (some ⟨g, 0, none⟩) n cap) n (flat nf T)) := (row_up HO2.out hb6).alloc _; have HR3 : Hid (Rb (W3.alloc (.cells #[.string x.nm, .bool x.nd, .string x.fd, .int .i64 x.fr, .int .i64 x.tt, .int .i64 x.kd, .int .i64 x.lf] 33)) rb (z, fd, nm)) := ((below_trans hb6 (bel_up _ _)).block rb (lt_of_heap HR2.out)).trans HR2.out; have HBA : Hid (Below w0.heap.size w0 (W3.alloc (.cells #[.string x.nm, .bool x.nd, .string x.fd, .int .i64 x.fr, .int .i64 x.tt, .int .i64 x.kd, .int .i64 x.lf] 33))) := HB3.out.trans ((bel_up W3 _).mono HB3.out.size); have HSA : Hid (w0.heap.size ≤ (W3.alloc (.cells #[.string x.nm, .bool x.nd, .string x.fd, .int .i64 x.fr, .int .i64 x.tt, .int .i64 x.kd, .int .i64 x.lf] 33)).heap.size) := HBA.out.size; have HRX : Hid (Rw (W3.alloc (.cells #[.string x.nm, .bool x.nd, .string x.fd, .int .i64 x.fr, .int .i64 x.tt, .int .i64 x.kd, .int .i64 x.lf] 33)) (.slice (some ⟨W3.heap.size, 0, none⟩) 1 1) 1 (flat nf [x])) := HRW.out W3 x; clear hb6) | (at_builtin; refine wpList_push _ rfl _ _ 22 rfl w0.heap.size 33 iN _ 7 72 Try.underlying22 hiN hx0 hx1 hx2 rfl (by decide) g n cap _ rfl HO3.out _ 1 (flat nf [x]) rfl HRX.out rfl (flat_one nf_one [x]) HMX.out.1 HMX.out.2 HSA.out ?_; intro g4 cap4 W4 ho9 hg9; have HO4 : Hid (W4.ownsRow w0.heap.size 33 7 (.slice (some ⟨g4, 0, none⟩) (n + 1) cap4) (n + 1) (flat nf (T ++ [x]))) := (by rw [flat_app]; exact ho9); have HB4 : Hid (Below w0.heap.size w0 W4) := HBA.out.grown hg9 HSA.out (fun r hr => by cases hr; exact (row_tag HO3.out g rfl).1); have HR4 : Hid (Rb W4 rb (z, fd, nm)) := (hg9.block rb (lt_of_heap HR3.out) (fun e => tag_ne_blk HO3.out HR3.out (by decide) e.symm)).trans HR3.out; clear ho9 hg9)
      clear r2
      obtain ⟨n1', hn1'⟩ : ∃ n1', n + 1 = n1' := ⟨_, rfl⟩
      rw [hn1'] at HO4 ⊢
      have HN1 : Hid (n + 1 = n1') := hn1'
      clear hn1'
      go_upto_region 11 with (at_builtin; refine wpList_push _ rfl _ _ 22 rfl w0.heap.size 33 iN _ 7 72 Try.underlying22 hiN hx0 hx1 hx2 rfl (by decide) g4 n1' cap4 _ rfl HO4.out _ m (flat nf k) rfl (HKR.out _ HB4.out) (by rw [flat_len nf_len, HM.out]) (flat_one nf_one k) (by have := HSZ.out; have := HN1.out; unfold maxLen; omega) (by have := HSZ.out; have := HN1.out; omega) HB4.out.size ?_; intro g5 cap5 W5 ho9 hg9; have HO5 : Hid (Og w0.heap.size W5 g5 cap5 (T ++ (x :: k))) := (by have e6 : T ++ (x :: k) = (T ++ [x]) ++ k := (by simp); rw [e6]; refine Og.push ?_; rw [List.length_append, HN.out, HM.out, List.length_singleton, HN1.out]; exact ho9); have HB5 : Hid (Below w0.heap.size w0 W5) := HB4.out.grown hg9 HB4.out.size (fun r hr => by cases hr; exact (row_tag HO4.out g4 rfl).1); have HR5 : Hid (Rb W5 rb (z, fd, nm)) := (hg9.block rb (lt_of_heap HR4.out) (fun e => tag_ne_blk HO4.out HR4.out (by decide) e.symm)).trans HR4.out; have r1 := rcell HR5.out 1 _ rfl; clear ho9 hg9)
      have HXL : Hid ((x :: k).length = m + 1) := by rw [List.length_cons, HM.out]; exact rfl
      have HFX : Hid (Fo (kds (x :: k))) := by rw [← HEX.out]; exact ⟨1, fo_head HF.out⟩
      have HSN : Hid ((n + (m + 1)) * 72 + 4096 ≤ 140737488355328) := by have := HSZ.out; show _ ≤ _; omega
      have hn1' := HN1.out
      obtain ⟨nl, hnl⟩ : ∃ nl, n1' + m = nl := ⟨_, rfl⟩
      rw [hnl]
      have HNL : Hid ((T ++ (x :: k)).length = nl ∧ n ≤ nl) := ⟨by rw [List.length_append, HN.out]; first | (rw [HXL.out]; exact hnl) | (rw [HXL.out]; omega), by omega⟩
      clear hnl hn1'
      have HCP : Hid (nl ≤ cap5) := by have h7 := row_cap HO5.out; rw [HNL.out.1] at h7; exact h7.1
      by_cases hfd : fd = ⟨#[]⟩
      · have HPE : Hid (part Te Sy (z, fd, nm) k en = x :: k) := by show _ = _; rw [HXE.out]; unfold prf; rw [if_pos hfd]
        have e7 : fd.toList = [] := by rw [hfd]; exact emp_yes
        clear hfd
        go_wp2_with fail
        go_ret
        rw [HPE.out]
        exact ⟨g5, cap5, by have h6 := HNL.out.1; rw [List.length_append] at h6; rw [h6]; rfl, HO5.out, HB5.out⟩
      · have HPE : Hid (part Te Sy (z, fd, nm) k en = rtm (gfl fd) (x :: k) (x :: k).length) := by show _ = _; rw [HXE.out]; unfold prf; rw [if_neg hfd]
        have e7 : ¬ fd.toList = [] := emp_no hfd
        have e6 : fd.toList.isEmpty = false := by rw [List.isEmpty_eq_false_iff]; exact e7
        have HSX : Hid (Sm (x :: k)) := by have := HSN.out; have := HXL.out; show _ ≤ _; omega
        clear hfd
        have HGF : Hid (∀ W, Og w0.heap.size W g5 cap5 (T ++ (x :: k)) → Calls Try.prog 87 #[.slice (if cap5 = n then some ⟨g5, 0, none⟩ else some ⟨g5, n * 7, none⟩) (nl - n) (cap5 - n), .string fd] W fun e w' => e = .returned (.tuple #[]) ∧ Og w0.heap.size w' g5 cap5 (T ++ rtm (gfl fd) (x :: k) (x :: k).length) ∧ W.grownBy w' (some g5)) := fun W ho7 => by
          have hl7 : (x :: k).length = nl - n := by have := HNL.out.1; rw [List.length_append, HN.out] at this; omega
          have h7 := giveField_any (T := T) (t := x :: k) (c := cap5 - n) (ad := if cap5 = n then some ⟨g5, 0, none⟩ else some ⟨g5, n * 7, none⟩) fd W ho7 HSX.out HFX.out (by have := HCP.out; omega) (fun hp => by rw [if_neg (by have := HCP.out; omega), HN.out])
          rw [hl7] at h7
          refine h7.mono ?_
          rintro e7 w7 ⟨q1, q2, q3⟩
          exact ⟨q1, by unfold Og; rw [List.length_append, rtm_len, ← List.length_append, hl7]; exact q2, q3⟩
        have hnl := HNL.out.2
        have hcp := HCP.out
        have hnl1 : (n : Int) ≤ (nl : Int) := by omega
        have hcp1 : (nl : Int) ≤ (cap5 : Int) := by omega
        go_upto_region 12 with fail
        refine wp_region_noPanic ?_
        refine wp_region_held_drew (S := fun W' => W'.cell? ⟨rb, 1, none⟩ = some (.string fd)) (by kernel_rfl) r1 (fun hHeld => ?_)
        obtain ⟨WD, hWD⟩ : ∃ WD, W5.drew = WD := ⟨_, rfl⟩
        have HOD : Hid (Og w0.heap.size WD g5 cap5 (T ++ (x :: k))) := by rw [← hWD]; exact row_up HO5.out (Below.drew (Below.refl _ _))
        have HRD : Hid (Rb WD rb (z, fd, nm)) := by rw [← hWD]; exact ((Below.drew (Below.refl _ _)).block rb (lt_of_heap HR5.out)).trans HR5.out
        have HBD : Hid (Below w0.heap.size w0 WD) := by rw [← hWD]; exact Below.drew HB5.out
        (try rw [hWD] at hHeld)
        rw [hWD]
        clear hWD
        refine wpAnyH_take (i := 0) (oi := { dst := _, op := _, type := _, pos := _, after := _, guard := _ }) (v := ?_) rfl (by kernel_rfl) (by kernel_rfl) (by kernel_rfl) (fun _ _ _ h => h) (Or.inl ⟨by rfl, ?_⟩) (by assumption) ?_
        rotate_left
        · intro W hSw
          (try dsimp only at hSw)
          go_simp
          (try with_reducible rfl)
        try simp only [Act.put, List.setIfInBounds_toArray, List.set_cons_zero, List.set_cons_succ]
        refine wpAnyH_take (i := 1) (oi := { dst := _, op := _, type := _, pos := _, after := _, guard := _ }) (v := ?_) rfl (by kernel_rfl) (by kernel_rfl) (by kernel_rfl) (fun _ _ _ h => h) (Or.inl ⟨by rfl, ?_⟩) (by assumption) ?_
        rotate_left
        · intro W hSw
          (try dsimp only at hSw)
          go_simp
          (try with_reducible rfl)
        try simp only [Act.put, List.setIfInBounds_toArray, List.set_cons_zero, List.set_cons_succ]
        refine wpAnyH_take (i := 2) (oi := { dst := _, op := _, type := _, pos := _, after := _, guard := _ }) (v := ?_) rfl (by kernel_rfl) (by kernel_rfl) (by kernel_rfl) (fun _ _ _ h => h) (Or.inl ⟨by rfl, ?_⟩) (by assumption) ?_
        rotate_left
        · intro W hSw
          (try dsimp only at hSw)
          go_simp
          (try with_reducible rfl)
        try simp only [Act.put, List.setIfInBounds_toArray, List.set_cons_zero, List.set_cons_succ]
        refine wpAnyH_take (i := 3) (oi := { dst := _, op := _, type := _, pos := _, after := _, guard := _ }) (v := ?_) rfl (by kernel_rfl) (by kernel_rfl) (by kernel_rfl) (fun _ _ _ h => h) (Or.inl ⟨by rfl, ?_⟩) (by assumption) ?_
        rotate_left
        · intro W hSw
          (try dsimp only at hSw)
          go_simp
          (try with_reducible rfl)
        try simp only [Act.put, List.setIfInBounds_toArray, List.set_cons_zero, List.set_cons_succ]
        refine wpAnyH_take (i := 4) (oi := { dst := _, op := _, type := _, pos := _, after := _, guard := _ }) (v := ?_) rfl (by kernel_rfl) (by kernel_rfl) (by kernel_rfl) (fun _ _ _ h => h) (Or.inl ⟨by rfl, ?_⟩) (by assumption) ?_
        rotate_left
        · intro W hSw
          (try dsimp only at hSw)
          go_simp
          (try with_reducible rfl)
        try simp only [Act.put, List.setIfInBounds_toArray, List.set_cons_zero, List.set_cons_succ]
        refine wpAnyH_ready (rs := [5]) (by kernel_rfl) (by simp) ?_
        refine AllReadyH.cons (o := { dst := _, op := _, type := _, pos := _, after := _, guard := _ }) rfl (fun K hK => ?_) AllReadyH.nil
        go_simp
        refine Calls.mono (HGF.out WD HOD.out) ?_
        rintro ee WE ⟨rfl, ho8, hg8⟩
        have HRE : Hid (Rb WE rb (z, fd, nm)) := HRD.out.keep HOD.out hg8
        have HBE : Hid (Below w0.heap.size w0 WE) := bel_own HBD.out HBD.out.size HOD.out hg8
        have HOE : Hid (Og w0.heap.size WE g5 cap5 (T ++ rtm (gfl fd) (x :: k) (x :: k).length)) := ho8
        clear ho8 hg8
        refine hK.out _ _ ?_ (fun hHeld => ?_)
        · first | exact trivial | (exact rcell HRE.out 1 _ rfl)
        clear hK K
        try simp only [Act.put, List.setIfInBounds_toArray, List.set_cons_zero, List.set_cons_succ]
        refine wpAnyH_done (by kernel_rfl) ?_ _
        refine NoPanic.normal ?_
        generalize (if cap5 = n then (some ⟨g5, 0, none⟩ : Option Addr) else some ⟨g5, n * 7, none⟩) = sa
        go_wp2_with fail
        go_ret
        rw [HPE.out]
        exact ⟨g5, cap5, by have h6 := HNL.out.1; rw [List.length_append] at h6; rw [rtm_len, h6]; rfl, HOE.out, HBE.out⟩
end Go.Proofs.Ytcfmpmhdjkchjaa
