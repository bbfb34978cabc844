import Derived.Test.YthlbajkbpceglaaTbo
namespace Go.Proofs.Ythlbajkbpceglaa
open Go.RowKit Go.Maps

abbrev NbA := Nb af 38 2 ((0, -77) : Ak) 35
abbrev NbG := Nb gf 3 1 (-77 : Int) 39
abbrev NkA := Nk af 38 2 ((0, -77) : Ak) 35
abbrev NkG := Nk gf 3 1 (-77 : Int) 39
set_option maxRecDepth 100000 in
set_option maxHeartbeats 16000000 in
theorem roomy_any {v0 v1 : Value} {A : List (Value × List Ak)} {G : List (Value × List Int)} (w : World) (h : Tb w v0 v1 A G) (hs : Ts A G) :
    Calls Try.prog 5 #[.agg #[v0, v1]] w fun e w' => ∃ g0 k0 b0 g1 k1 b1 A' G', e = .returned (.agg #[.slice (some ⟨g0, 0, none⟩) A.length k0, .slice (some ⟨g1, 0, none⟩) G.length k1]) ∧ NkA w.heap.size w' g0 k0 b0 A' ∧ NkG w.heap.size w' g1 k1 b1 G' ∧ A'.map Prod.snd = A.map Prod.snd ∧ G'.map Prod.snd = G.map Prod.snd ∧ Below w.heap.size w w' := by
  have HT : Hid (Tb w v0 v1 A G) := h
  have HS : Hid (Ts A G) := hs
  obtain ⟨a0, c0, a1, c1, rfl, rfl⟩ := h.form
  clear h hs
  obtain ⟨nA, hnA⟩ : ∃ n, A.length = n := ⟨_, rfl⟩
  have HNA : Hid (A.length = nA) := hnA
  obtain ⟨nG, hnG⟩ : ∃ n, G.length = n := ⟨_, rfl⟩
  have HNG : Hid (G.length = nG) := hnG
  rw [hnA, hnG] at HT ⊢
  clear hnA hnG
  have HBT : Hid (nA * 24 + 4096 ≤ 140737488355328 ∧ nG * 24 + 4096 ≤ 140737488355328) := by have := HS.out.a; have := HS.out.g; have := HNA.out; have := HNG.out; show _ ∧ _; omega
  obtain ⟨i38, hi, h0, h1, h2⟩ := info_parts info38
  have HI38 : Hid (Try.prog.info? 38 = some i38 ∧ i38.zero = some (.agg #[.int .i64 0, .int .i64 0]) ∧ i38.size = 2 ∧ i38.bytes = 16) := ⟨hi, h0, h1, h2⟩
  clear hi h0 h1 h2
  obtain ⟨i35, hi, h0, h1, h2⟩ := info_parts info35
  have HI35 : Hid (Try.prog.info? 35 = some i35 ∧ i35.zero = some (.slice none 0 0) ∧ i35.size = 1 ∧ i35.bytes = 24) := ⟨hi, h0, h1, h2⟩
  clear hi h0 h1 h2
  obtain ⟨i39, hi, h0, h1, h2⟩ := info_parts info39
  have HI39 : Hid (Try.prog.info? 39 = some i39 ∧ i39.zero = some (.slice none 0 0) ∧ i39.size = 1 ∧ i39.bytes = 24) := ⟨hi, h0, h1, h2⟩
  clear hi h0 h1 h2
  obtain ⟨i3, hi, h0, h1, h2⟩ := info_parts info3
  have HI3 : Hid (Try.prog.info? 3 = some i3 ∧ i3.zero = some (.int .i64 0) ∧ i3.size = 1 ∧ i3.bytes = 8) := ⟨hi, h0, h1, h2⟩
  clear hi h0 h1 h2
  obtain ⟨W1, hW1⟩ : ∃ W1, W1 = ((w.alloc (.cells #[.slice a0 nA c0, .slice a1 nG c1] 25)).alloc (.cells #[.slice none 0 0, .slice none 0 0] 25)).alloc (.cells #[.slice none 0 0, .slice none 0 0] 25) := ⟨_, rfl⟩
  have HB1 : Hid (Below w.heap.size w W1) := by rw [hW1]; exact below_trans (bel_up _ _) (below_trans (bel_up _ _) (bel_up _ _))
  have HX : Hid (B3 W1 w.heap.size (w.heap.size + 1) (w.heap.size + 1 + 1) (.slice a0 nA c0) (.slice a1 nG c1) (.slice none 0 0) (.slice none 0 0)) := by
    have e1 := heap_new w (.cells #[.slice a0 nA c0, .slice a1 nG c1] 25)
    have e2 := heap_new (w.alloc (.cells #[.slice a0 nA c0, .slice a1 nG c1] 25)) (.cells #[.slice none 0 0, .slice none 0 0] 25)
    have e3 := heap_new ((w.alloc (.cells #[.slice a0 nA c0, .slice a1 nG c1] 25)).alloc (.cells #[.slice none 0 0, .slice none 0 0] 25)) (.cells #[.slice none 0 0, .slice none 0 0] 25)
    rw [World.size_alloc] at e2
    rw [World.size_alloc, World.size_alloc] at e3
    rw [hW1]
    exact ⟨((below_trans (bel_up _ _) (bel_up _ _)).block _ (lt_of_heap e1)).trans e1, ((bel_up _ _).block _ (lt_of_heap e2)).trans e2, e3⟩
  go_enter Try.func5, Try.ntmps5
  go_upto_region 2 with fail
  rw [← hW1]
  clear hW1
  obtain ⟨gb, hgb⟩ : ∃ gb, w.heap.size = gb := ⟨_, rfl⟩
  have HGB : Hid (w.heap.size = gb) := hgb
  rw [hgb] at HX ⊢
  clear hgb
  obtain ⟨rb, hrb⟩ : ∃ rb, gb + 1 = rb := ⟨_, rfl⟩
  obtain ⟨ob, hob⟩ : ∃ ob, rb + 1 = ob := ⟨_, rfl⟩
  have HNE : Hid (gb ≠ ob ∧ rb ≠ ob ∧ gb ≠ rb) := by show _ ∧ _; omega
  have HOB : Hid (w.heap.size ≤ ob ∧ w.heap.size ≤ rb) := by have := HGB.out; show _ ∧ _; omega
  rw [hrb, hob] at HX ⊢
  clear hrb hob
  go_upto_region 3 with fail
  go_loopg [4] nA (fun gm v4 wr => ∃ i : Nat, v4 = .int .i64 (i : Int) ∧ ∃ (ra : Option Addr) (m rc : Nat), Hid (m = i) ∧ Hid (Below w.heap.size w wr) ∧ Hid (i ≤ nA ∧ gm = nA - i) ∧ Hid (B3 wr gb rb ob (.slice a0 nA c0) (.slice a1 nG c1) (.slice ra m rc) (.slice none 0 0)) ∧ ∃ L : List (Value × List Ak), Hid (L.map Prod.snd = (A.take i).map Prod.snd ∧ L.length = m) ∧ Hid (NbA w.heap.size wr (.slice ra m rc) L))
  case atStart => exact ⟨0, rfl, none, 0, 0, rfl, HB1, ⟨Nat.zero_le _, rfl⟩, HX, [], ⟨rfl, rfl⟩, Nb.nil⟩
  case round =>
    clear HB1 HX
    obtain ⟨i, rfl, ra, m, rc, HM, HBW, HI, HX, L, HL, HW⟩ := hrel
    have b0 := rcell HX.out.g 0 (.slice a0 nA c0) rfl
    by_cases hi : i < nA
    · have hil : i < A.length := by have := HNA.out; omega
      obtain ⟨g, oo, cap, a, c, q0', q1, q2, q3⟩ := HT.out.a.at i hil
      obtain ⟨rfl, -, rfl⟩ := Value.slice.inj q0'
      have HSZ : Hid ((A.getD i nrd).2.length * 16 + 4096 ≤ 140737488355328) := HS.out.ra _ (getD_mem A nrd i hil)
      have HSN : Hid (∀ v, (L ++ [(v, (A.getD i nrd).2)]).map Prod.snd = (A.take (i + 1)).map Prod.snd) := fun v => snd_snoc HL.out.1 hil v
      obtain ⟨l, hl⟩ : ∃ l, (A.getD i nrd).2 = l := ⟨_, rfl⟩
      rw [hl] at q2 q3 HSZ HSN
      obtain ⟨ml, hml⟩ : ∃ m, l.length = m := ⟨_, rfl⟩
      have HML : Hid (l.length = ml) := hml
      rw [hml] at q2 q3 HSZ
      have HR : Hid (Rw w (.slice a ml c) ml (flat af l)) := q3
      have KW : Hid (∀ W, Below w.heap.size w W → W.cell? ⟨g, oo + i, none⟩ = some (.slice a ml c)) := fun W hW => below_cell hW q2
      have k1 := KW.out _ HBW.out
      clear hml hl q0' q1 q2 q3 hil
      have e1 : decide ((i : Int) < (nA : Int)) = true := by rw [decide_eq_true_eq]; omega
      have e2 : decide (i < nA) = true := by rw [decide_eq_true_eq]; omega
      have e5 : (i : Int) < (nA : Int) := by omega
      have e6 : i < nA := hi
      have HIL : Hid (i < nA) := hi
      have hwr := w64n i (by have := HBT.out; have := HIL.out; omega)
      clear hi
      go_upto_region 8 with (first | (at_builtin; refine wpList_copy _ rfl _ _ 35 rfl wr.heap.size 38 i38 (.agg #[.int .i64 0, .int .i64 0]) 2 16 Try.underlying35 HI38.out.1 HI38.out.2.1 HI38.out.2.2.1 HI38.out.2.2.2 rfl (by decide) (.slice a ml c) ml (flat af l) rfl rfl (HR.out.up HBW.out) (by rw [flat_len af_len, HML.out]) (flat_one af_one l) (by have := HSZ.out; unfold maxLen; omega) (by have := HSZ.out; omega) (Nat.le_refl _) ?_; intro v6 w6 ho6 hg6; have HO6 : Hid (w6.ownsRow wr.heap.size 38 2 v6 ml (flat af l)) := ho6; have HG6 : Hid (Below wr.heap.size wr w6) := (Below.refl _ _).grown hg6 (Nat.le_refl _) (fun r e' => by cases e'); obtain ⟨qa, qc, rfl⟩ := row_shape ho6; have k1 := KW.out _ (below_trans HBW.out HG6.out); have b0 := rcell (HX.out.up HG6.out).g 0 (.slice (some ⟨g, oo, none⟩) nA c0) rfl; clear ho6 hg6) | (at_builtin; refine wpList_append_own_at _ rfl _ _ 35 rfl wr.heap.size 38 i38 (.agg #[.int .i64 0, .int .i64 0]) 2 16 Try.underlying35 HI38.out.1 HI38.out.2.1 HI38.out.2.2.1 HI38.out.2.2.2 rfl (by decide) _ _ _ rfl (row_up HO6.out (bel_up _ _)) ⟨w6.heap.size, 0, none⟩ 1 1 [.int .i64 0, .int .i64 (-77)] rfl rfl (cell_two_new _ _ _ _) (by simp [Value.oneCell']) (by have := HSZ.out; unfold maxLen; omega) (by have := HSZ.out; omega) (by have := HG6.out.size; simp; omega) ?_; intro v7 w7 ho7 hg7 _ ha7; have HO7 : Hid (w7.ownsRow wr.heap.size 38 2 v7 (ml + 1) (flat af l ++ [.int .i64 0, .int .i64 (-77)])) := ho7; have HG7 : Hid (Below wr.heap.size wr w7) := (below_trans HG6.out (bel_up _ _)).grown hg7 (by have := HG6.out.size; simp; omega) (fun r e' => (row_tag HO6.out r e').1); obtain ⟨ua, uc, rfl⟩ := row_shape ho7; have k1 := KW.out _ (below_trans HBW.out HG7.out); have b0 := rcell (HX.out.up HG7.out).g 0 (.slice (some ⟨g, oo, none⟩) nA c0) rfl; clear ho7 hg7 ha7))
      have HLK : Hid (Lk af 38 2 ((0, -77) : Ak) w.heap.size w7 (match (Value.slice ua (ml + 1) uc) with | .slice a' _ c' => .slice a' ml c' | v => v) l ∧ ∃ gg, ua = some ⟨gg, 0, none⟩ ∧ ml ≤ uc) := by
        obtain ⟨gg, cc, e0, -, hcp, -⟩ := row_form HO7.out (by omega)
        obtain ⟨rfl, -, rfl⟩ := Value.slice.inj e0
        refine ⟨⟨gg, uc, by rw [HML.out], ?_⟩, gg, rfl, by omega⟩
        rw [HML.out, flat_app]
        exact row_base HO7.out HBW.out.size
      obtain ⟨gg, rfl, hcu⟩ := HLK.out.2
      have HLL : Hid (Lk af 38 2 ((0, -77) : Ak) w.heap.size w7 (.slice (some ⟨gg, 0, none⟩) ml uc) l) := HLK.out.1
      clear HLK
      have HW7 : Hid _ := HW.out.up HG7.out
      have HX7 : Hid _ := HX.out.up HG7.out
      have HB7 : Hid _ := below_trans HBW.out HG7.out
      clear HW HX HO6 HO7 HG6 HG7 HBW
      clear k1 b0
      obtain ⟨WD, hWD⟩ : ∃ WD, w7.drew = WD := ⟨_, rfl⟩
      have BD : Hid (Below w7.heap.size w7 WD) := by rw [← hWD]; exact Below.drew (Below.refl _ _)
      have BWD : Hid (Below w.heap.size w WD) := below_trans HB7.out BD.out
      have XD : Hid _ := HX7.out.up BD.out
      have ND : Hid _ := HW7.out.up BD.out
      have LD : Hid (Lk af 38 2 ((0, -77) : Ak) w.heap.size WD (.slice (some ⟨gg, 0, none⟩) ml uc) l) := HLL.out.up BD.out
      have XA : Hid _ := XD.out.up (bel_up WD (.cells #[.slice (some ⟨gg, 0, none⟩) ml uc] 35))
      have NA : Hid _ := ND.out.up (bel_up WD (.cells #[.slice (some ⟨gg, 0, none⟩) ml uc] 35))
      have LA' : Hid _ := LD.out.up (bel_up WD (.cells #[.slice (some ⟨gg, 0, none⟩) ml uc] 35))
      have hcu2 : (ml : Int) ≤ (uc : Int) := by omega
      have c0' := rcell XD.out.o 0 (.slice ra m rc) rfl
      have cA := rcell XA.out.o 0 (.slice ra m rc) rfl
      have kd : Hid _ := KW.out WD BWD.out
      have HBA : Hid _ := below_trans BWD.out (bel_up WD (.cells #[.slice (some ⟨gg, 0, none⟩) ml uc] 35))
      refine wp_region_noPanic ?_
      refine wp_region_held_drew (S := fun W => W.cell? ⟨g, oo + i, none⟩ = some (.slice a ml c) ∧ W.cell? ⟨gb, 0, none⟩ = some (.slice (some ⟨g, oo, none⟩) nA c0)) (by kernel_rfl) (by rw [hWD]; exact ⟨kd.out, rcell XD.out.g 0 _ rfl⟩) (fun hHeld => ?_)
      rw [hWD] at hHeld ⊢
      clear hWD
      refine wpAnyH_take (i := 0) (oi := { dst := _, op := _, type := _, pos := _, after := _, guard := _ }) (v := ?_) rfl (by kernel_rfl) (by kernel_rfl) (by kernel_rfl) (fun _ _ _ h => h) (Or.inl ⟨by rfl, ?_⟩) (by assumption) ?_
      rotate_left
      · intro W hSw
        (try dsimp only at hSw)
        go_simp
        (try with_reducible rfl)
      try simp only [Act.put, List.setIfInBounds_toArray, List.set_cons_zero, List.set_cons_succ]
      refine wpAnyH_take (i := 2) (oi := { dst := _, op := _, type := _, pos := _, after := _, guard := _ }) (v := ?_) rfl (by kernel_rfl) (by kernel_rfl) (by kernel_rfl) (fun _ _ _ h => h) (Or.inl ⟨by rfl, ?_⟩) (by assumption) ?_
      rotate_left
      · intro W hSw
        (try dsimp only at hSw)
        go_simp
        (try with_reducible rfl)
      try simp only [Act.put, List.setIfInBounds_toArray, List.set_cons_zero, List.set_cons_succ]
      refine wpAnyH_take (i := 3) (oi := { dst := _, op := _, type := _, pos := _, after := _, guard := _ }) (v := ?_) rfl (by kernel_rfl) (by kernel_rfl) (by kernel_rfl) (fun _ _ _ h => h) (Or.inl ⟨by rfl, ?_⟩) (by assumption) ?_
      rotate_left
      · intro W hSw
        (try dsimp only at hSw)
        go_simp
        (try with_reducible rfl)
      try simp only [Act.put, List.setIfInBounds_toArray, List.set_cons_zero, List.set_cons_succ]
      refine wpAnyH_take (i := 4) (oi := { dst := _, op := _, type := _, pos := _, after := _, guard := _ }) (v := ?_) rfl (by kernel_rfl) (by kernel_rfl) (by kernel_rfl) (fun _ _ _ h => h) (Or.inl ⟨by rfl, ?_⟩) (by assumption) ?_
      rotate_left
      · intro W hSw
        (try dsimp only at hSw)
        go_simp
        (try with_reducible rfl)
      try simp only [Act.put, List.setIfInBounds_toArray, List.set_cons_zero, List.set_cons_succ]
      refine wpAnyH_take (i := 5) (oi := { dst := _, op := _, type := _, pos := _, after := _, guard := _ }) (v := ?_) rfl (by kernel_rfl) (by kernel_rfl) (by kernel_rfl) (fun _ _ _ h => h) (Or.inl ⟨by rfl, ?_⟩) (by assumption) ?_
      rotate_left
      · intro W hSw
        (try dsimp only at hSw)
        go_simp
        (try with_reducible rfl)
      try simp only [Act.put, List.setIfInBounds_toArray, List.set_cons_zero, List.set_cons_succ]
      refine wpAnyH_take (i := 6) (oi := { dst := _, op := _, type := _, pos := _, after := _, guard := _ }) (v := ?_) rfl (by kernel_rfl) (by kernel_rfl) (by kernel_rfl) (fun _ _ _ h => h) (Or.inl ⟨by rfl, ?_⟩) (by assumption) ?_
      rotate_left
      · intro W hSw
        (try dsimp only at hSw)
        go_simp
        (try with_reducible rfl)
      try simp only [Act.put, List.setIfInBounds_toArray, List.set_cons_zero, List.set_cons_succ]
      refine wpAnyH_take (i := 7) (oi := { dst := _, op := _, type := _, pos := _, after := _, guard := _ }) (v := ?_) rfl (by kernel_rfl) (by kernel_rfl) (by kernel_rfl) (fun _ _ _ h => h) (Or.inl ⟨by rfl, ?_⟩) (by assumption) ?_
      rotate_left
      · intro W hSw
        (try dsimp only at hSw)
        go_simp
        (try with_reducible rfl)
      try simp only [Act.put, List.setIfInBounds_toArray, List.set_cons_zero, List.set_cons_succ]
      refine wpAnyH_take (i := 8) (oi := { dst := _, op := _, type := _, pos := _, after := _, guard := _ }) (v := ?_) rfl (by kernel_rfl) (by kernel_rfl) (by kernel_rfl) (fun _ _ _ h => h) (Or.inl ⟨by rfl, ?_⟩) (by assumption) ?_
      rotate_left
      · intro W hSw
        (try dsimp only at hSw)
        go_simp
        (try with_reducible rfl)
      try simp only [Act.put, List.setIfInBounds_toArray, List.set_cons_zero, List.set_cons_succ]
      refine wpAnyH_take (i := 9) (oi := { dst := _, op := _, type := _, pos := _, after := _, guard := _ }) (v := ?_) rfl (by kernel_rfl) (by kernel_rfl) (by kernel_rfl) (fun _ _ _ h => h) (Or.inl ⟨by rfl, ?_⟩) (by assumption) ?_
      rotate_left
      · intro W hSw
        (try dsimp only at hSw)
        go_simp
        (try with_reducible rfl)
      try simp only [Act.put, List.setIfInBounds_toArray, List.set_cons_zero, List.set_cons_succ]
      refine wpAnyH_ready (rs := [1, 10]) (by kernel_rfl) (by simp) ?_
      refine AllReadyH.cons (o := { dst := _, op := _, type := _, pos := _, after := _, guard := _ }) rfl (fun K hK => ?_) (AllReadyH.cons (o := { dst := _, op := _, type := _, pos := _, after := _, guard := _ }) rfl (fun K hK => ?_) (AllReadyH.nil))
      · go_simp
        refine hK.out _ _ ?_ (fun hHeld => ?_)
        · assumption
        clear hK K
        try simp only [Act.put, List.setIfInBounds_toArray, List.set_cons_zero, List.set_cons_succ]
        refine wpAnyH_ready (rs := [10]) (by kernel_rfl) (by simp) ?_
        refine AllReadyH.cons (o := { dst := _, op := _, type := _, pos := _, after := _, guard := _ }) rfl (fun K hK => ?_) AllReadyH.nil
        go_simp
        refine hK.out _ _ ?_ (fun hHeld => ?_)
        · exact ⟨KW.out _ HBA.out, rcell XA.out.g 0 _ rfl⟩
        clear hK K
        try simp only [Act.put, List.setIfInBounds_toArray, List.set_cons_zero, List.set_cons_succ]
        refine wpAnyH_ready (rs := [11]) (by kernel_rfl) (by simp) ?_
        refine AllReadyH.cons (o := { dst := _, op := _, type := _, pos := _, after := _, guard := _ }) rfl (fun K hK => ?_) AllReadyH.nil
        refine step_append_lies _ rfl (.tmp 29) (.tmp 38) 22 rfl w.heap.size 35 i35 (.slice none 0 0) 1 24 Try.underlying22 HI35.out.1 HI35.out.2.1 HI35.out.2.2.1 HI35.out.2.2.2 rfl (by decide) (.slice ra m rc) m (L.map Prod.fst) rfl (by have h9 := NA.out.t; rw [HL.out.2] at h9; exact h9) ⟨WD.heap.size, 0, none⟩ 1 1 [.slice (some ⟨gg, 0, none⟩) ml uc] rfl rfl (cell_one_new _ _ _) (by simp [Value.oneCell']) (by decide) (by have := HM.out; have := HIL.out; have := HBT.out; unfold maxLen; omega) (by have := HM.out; have := HIL.out; have := HBT.out; omega) (by have := BWD.out.size; simp; omega) (WD.heap.size + 1) (by simp) ?_
        intro g6 q6 w6 ho6 hg6 ha6 _
        have X6 : Hid _ := XA.out.grown (NA.out.t) (by decide) hg6
        have N6 : Hid _ := NA.out.app (.slice (some ⟨gg, 0, none⟩) ml uc, l) LA'.out (by decide) hg6 (by rw [HL.out.2]; exact ho6)
        have B6 : Hid (Below w.heap.size w w6) := HBA.out.grown hg6 (by have := BWD.out.size; simp; omega) (fun r e' => (row_tag (NA.out.t) r e').1)
        have c6 := rcell X6.out.o 0 (.slice ra m rc) rfl
        have f6 : w6.frozen? ⟨ob, 0, none⟩ = false := Lib.frozen_of_heap X6.out.o 0
        clear ho6 hg6 ha6
        refine hK.out _ _ ?_ (fun hHeld => ?_)
        · exact ⟨KW.out _ B6.out, rcell X6.out.g 0 _ rfl⟩
        clear hK K
        try simp only [Act.put, List.setIfInBounds_toArray, List.set_cons_zero, List.set_cons_succ]
        refine wpAnyH_take (i := 12) (oi := { dst := _, op := _, type := _, pos := _, after := _, guard := _ }) (v := ?_) rfl (by kernel_rfl) (by kernel_rfl) (by kernel_rfl) (fun _ _ _ h => h) (Or.inl ⟨by rfl, ?_⟩) (by assumption) ?_
        rotate_left
        · intro W hSw
          (try dsimp only at hSw)
          go_simp
          (try with_reducible rfl)
        try simp only [Act.put, List.setIfInBounds_toArray, List.set_cons_zero, List.set_cons_succ]
        refine wpAnyH_ready (rs := [13]) (by kernel_rfl) (by simp) ?_
        refine AllReadyH.cons (o := { dst := _, op := _, type := _, pos := _, after := _, guard := _ }) rfl (fun K hK => ?_) AllReadyH.nil
        go_simp
        have X7 : Hid _ := X6.out.set (k := 0) (v := .slice (some ⟨g6, 0, none⟩) (m + 1) q6) HNE.out.1 HNE.out.2.1 (.slice (some ⟨g6, 0, none⟩) (m + 1) q6) (.slice none 0 0) rfl
        have B7 : Hid (Below w.heap.size w (w6.setCell ⟨ob, 0, none⟩ (.slice (some ⟨g6, 0, none⟩) (m + 1) q6))) := B6.out.setCell (p := ⟨ob, 0, none⟩) HOB.out.1 _
        refine hK.out _ _ ?_ (fun hHeld => ?_)
        · exact ⟨KW.out _ B7.out, rcell X7.out.g 0 _ rfl⟩
        clear hK K
        try simp only [Act.put, List.setIfInBounds_toArray, List.set_cons_zero, List.set_cons_succ]
        refine wpAnyH_done (by kernel_rfl) ?_ _
        refine NoPanic.normal ?_
        clear hHeld
        have N7 : Hid _ := N6.out.off (k := 0) (u := .slice (some ⟨g6, 0, none⟩) (m + 1) q6) X6.out.o (by decide) (by decide)
        clear c6 f6
        go_wp2_with fail
        go_roundg (nA - (i + 1))
        case measure => have := HI.out; have := HIL.out; omega
        case rel => exact ⟨i + 1, by first | rfl | (rw [show (i : Int) + 1 = ((i + 1 : Nat) : Int) by omega]), _, m + 1, _, by have := HM.out; show _ = _; omega, B7, ⟨HIL.out, rfl⟩, X7, _, ⟨HSN.out _, by rw [List.length_append, HL.out.2]; rfl⟩, N7⟩
      · go_simp
        refine hK.out _ _ ?_ (fun hHeld => ?_)
        · exact ⟨KW.out _ HBA.out, rcell XA.out.g 0 _ rfl⟩
        clear hK K
        try simp only [Act.put, List.setIfInBounds_toArray, List.set_cons_zero, List.set_cons_succ]
        refine wpAnyH_ready (rs := [1]) (by kernel_rfl) (by simp) ?_
        refine AllReadyH.cons (o := { dst := _, op := _, type := _, pos := _, after := _, guard := _ }) rfl (fun K hK => ?_) AllReadyH.nil
        go_simp
        refine hK.out _ _ ?_ (fun hHeld => ?_)
        · assumption
        clear hK K
        try simp only [Act.put, List.setIfInBounds_toArray, List.set_cons_zero, List.set_cons_succ]
        refine wpAnyH_ready (rs := [11]) (by kernel_rfl) (by simp) ?_
        refine AllReadyH.cons (o := { dst := _, op := _, type := _, pos := _, after := _, guard := _ }) rfl (fun K hK => ?_) AllReadyH.nil
        refine step_append_lies _ rfl (.tmp 29) (.tmp 38) 22 rfl w.heap.size 35 i35 (.slice none 0 0) 1 24 Try.underlying22 HI35.out.1 HI35.out.2.1 HI35.out.2.2.1 HI35.out.2.2.2 rfl (by decide) (.slice ra m rc) m (L.map Prod.fst) rfl (by have h9 := NA.out.t; rw [HL.out.2] at h9; exact h9) ⟨WD.heap.size, 0, none⟩ 1 1 [.slice (some ⟨gg, 0, none⟩) ml uc] rfl rfl (cell_one_new _ _ _) (by simp [Value.oneCell']) (by decide) (by have := HM.out; have := HIL.out; have := HBT.out; unfold maxLen; omega) (by have := HM.out; have := HIL.out; have := HBT.out; omega) (by have := BWD.out.size; simp; omega) (WD.heap.size + 1) (by simp) ?_
        intro g6 q6 w6 ho6 hg6 ha6 _
        have X6 : Hid _ := XA.out.grown (NA.out.t) (by decide) hg6
        have N6 : Hid _ := NA.out.app (.slice (some ⟨gg, 0, none⟩) ml uc, l) LA'.out (by decide) hg6 (by rw [HL.out.2]; exact ho6)
        have B6 : Hid (Below w.heap.size w w6) := HBA.out.grown hg6 (by have := BWD.out.size; simp; omega) (fun r e' => (row_tag (NA.out.t) r e').1)
        have c6 := rcell X6.out.o 0 (.slice ra m rc) rfl
        have f6 : w6.frozen? ⟨ob, 0, none⟩ = false := Lib.frozen_of_heap X6.out.o 0
        clear ho6 hg6 ha6
        refine hK.out _ _ ?_ (fun hHeld => ?_)
        · exact ⟨KW.out _ B6.out, rcell X6.out.g 0 _ rfl⟩
        clear hK K
        try simp only [Act.put, List.setIfInBounds_toArray, List.set_cons_zero, List.set_cons_succ]
        refine wpAnyH_take (i := 12) (oi := { dst := _, op := _, type := _, pos := _, after := _, guard := _ }) (v := ?_) rfl (by kernel_rfl) (by kernel_rfl) (by kernel_rfl) (fun _ _ _ h => h) (Or.inl ⟨by rfl, ?_⟩) (by assumption) ?_
        rotate_left
        · intro W hSw
          (try dsimp only at hSw)
          go_simp
          (try with_reducible rfl)
        try simp only [Act.put, List.setIfInBounds_toArray, List.set_cons_zero, List.set_cons_succ]
        refine wpAnyH_ready (rs := [13]) (by kernel_rfl) (by simp) ?_
        refine AllReadyH.cons (o := { dst := _, op := _, type := _, pos := _, after := _, guard := _ }) rfl (fun K hK => ?_) AllReadyH.nil
        go_simp
        have X7 : Hid _ := X6.out.set (k := 0) (v := .slice (some ⟨g6, 0, none⟩) (m + 1) q6) HNE.out.1 HNE.out.2.1 (.slice (some ⟨g6, 0, none⟩) (m + 1) q6) (.slice none 0 0) rfl
        have B7 : Hid (Below w.heap.size w (w6.setCell ⟨ob, 0, none⟩ (.slice (some ⟨g6, 0, none⟩) (m + 1) q6))) := B6.out.setCell (p := ⟨ob, 0, none⟩) HOB.out.1 _
        refine hK.out _ _ ?_ (fun hHeld => ?_)
        · exact ⟨KW.out _ B7.out, rcell X7.out.g 0 _ rfl⟩
        clear hK K
        try simp only [Act.put, List.setIfInBounds_toArray, List.set_cons_zero, List.set_cons_succ]
        refine wpAnyH_done (by kernel_rfl) ?_ _
        refine NoPanic.normal ?_
        clear hHeld
        have N7 : Hid _ := N6.out.off (k := 0) (u := .slice (some ⟨g6, 0, none⟩) (m + 1) q6) X6.out.o (by decide) (by decide)
        clear c6 f6
        go_wp2_with fail
        go_roundg (nA - (i + 1))
        case measure => have := HI.out; have := HIL.out; omega
        case rel => exact ⟨i + 1, by first | rfl | (rw [show (i : Int) + 1 = ((i + 1 : Nat) : Int) by omega]), _, m + 1, _, by have := HM.out; show _ = _; omega, B7, ⟨HIL.out, rfl⟩, X7, _, ⟨HSN.out _, by rw [List.length_append, HL.out.2]; rfl⟩, N7⟩
    · have e1 : decide ((i : Int) < (nA : Int)) = false := by rw [decide_eq_false_iff_not]; omega
      have e2 : decide (i < nA) = false := by rw [decide_eq_false_iff_not]; omega
      have HIN : Hid (i = nA) := by have := HI.out; show i = nA; omega
      clear hi
      go_upto_region 9 with fail
      clear e1 e2 b0
      obtain ⟨V, hV⟩ : ∃ V, V = wr := ⟨_, rfl⟩
      rw [← hV] at HBW HX HW ⊢
      obtain ⟨LA, hLA⟩ : ∃ x, x = L := ⟨_, rfl⟩
      rw [← hLA] at HW HL
      have HLE : Hid (LA.map Prod.snd = A.map Prod.snd ∧ LA.length = nA) := by
        have h9 := HL.out
        rw [HIN.out, ← HNA.out, List.take_length] at h9
        exact ⟨h9.1, by have := HM.out; have := HIN.out; have := h9.2; omega⟩
      clear hV HL HI hLA
      obtain ⟨y0, hy0⟩ : ∃ x, x = ra := ⟨_, rfl⟩
      obtain ⟨z0, hz0⟩ : ∃ x, x = m := ⟨_, rfl⟩
      obtain ⟨q0, hq0⟩ : ∃ x, x = rc := ⟨_, rfl⟩
      have HZ0 : Hid (z0 = nA) := by have := HM.out; have := HIN.out; show _ = _; omega
      rw [← hy0, ← hz0, ← hq0] at HX HW
      have HBV : Hid (Below w.heap.size w V) := HBW.out
      have HXV : Hid _ := HX.out
      have HLA : Hid (NbA w.heap.size V (.slice y0 z0 q0) LA) := HW.out
      clear hy0 hz0 hq0 HBW HX HW HM HIN
      go_upto_region 10 with fail
      go_loopg [6] nG (fun gm v6 wr => ∃ i : Nat, v6 = .int .i64 (i : Int) ∧ ∃ (ra : Option Addr) (m rc : Nat), Hid (m = i) ∧ Hid (Below w.heap.size w wr) ∧ Hid (i ≤ nG ∧ gm = nG - i) ∧ Hid (B3 wr gb rb ob (.slice a0 nA c0) (.slice a1 nG c1) (.slice y0 z0 q0) (.slice ra m rc)) ∧ ∃ L : List (Value × List Int), Hid (L.map Prod.snd = (G.take i).map Prod.snd ∧ L.length = m) ∧ Hid (NbG w.heap.size wr (.slice ra m rc) L) ∧ Hid (NbA w.heap.size wr (.slice y0 z0 q0) LA))
      case atStart => exact ⟨0, rfl, none, 0, 0, rfl, HBV, ⟨Nat.zero_le _, rfl⟩, HXV, [], ⟨rfl, rfl⟩, Nb.nil, HLA⟩
      case round =>
        clear HBV HXV HLA
        obtain ⟨i, rfl, ra, m, rc, HM, HBW, HI, HX, L, HL, HW, HLA⟩ := hrel
        have b1 := rcell HX.out.g 1 (.slice a1 nG c1) rfl
        by_cases hi : i < nG
        · have hil : i < G.length := by have := HNG.out; omega
          obtain ⟨g, oo, cap, a, c, q0', q1, q2, q3⟩ := HT.out.g.at i hil
          obtain ⟨rfl, -, rfl⟩ := Value.slice.inj q0'
          have HSZ : Hid ((G.getD i nrd).2.length * 8 + 4096 ≤ 140737488355328) := HS.out.rg _ (getD_mem G nrd i hil)
          have HSN : Hid (∀ v, (L ++ [(v, (G.getD i nrd).2)]).map Prod.snd = (G.take (i + 1)).map Prod.snd) := fun v => snd_snoc HL.out.1 hil v
          obtain ⟨l, hl⟩ : ∃ l, (G.getD i nrd).2 = l := ⟨_, rfl⟩
          rw [hl] at q2 q3 HSZ HSN
          obtain ⟨ml, hml⟩ : ∃ m, l.length = m := ⟨_, rfl⟩
          have HML : Hid (l.length = ml) := hml
          rw [hml] at q2 q3 HSZ
          have HR : Hid (Rw w (.slice a ml c) ml (flat gf l)) := q3
          have KW : Hid (∀ W, Below w.heap.size w W → W.cell? ⟨g, oo + i, none⟩ = some (.slice a ml c)) := fun W hW => below_cell hW q2
          have k1 := KW.out _ HBW.out
          clear hml hl q0' q1 q2 q3 hil
          have e1 : decide ((i : Int) < (nG : Int)) = true := by rw [decide_eq_true_eq]; omega
          have e2 : decide (i < nG) = true := by rw [decide_eq_true_eq]; omega
          have e5 : (i : Int) < (nG : Int) := by omega
          have e6 : i < nG := hi
          have HIL : Hid (i < nG) := hi
          have hwr := w64n i (by have := HBT.out; have := HIL.out; omega)
          clear hi
          go_upto_region 15 with (first | (at_builtin; refine wpList_copy _ rfl _ _ 39 rfl wr.heap.size 3 i3 (.int .i64 0) 1 8 Try.underlying39 HI3.out.1 HI3.out.2.1 HI3.out.2.2.1 HI3.out.2.2.2 rfl (by decide) (.slice a ml c) ml (flat gf l) rfl rfl (HR.out.up HBW.out) (by rw [flat_len gf_len, HML.out]) (flat_one gf_one l) (by have := HSZ.out; unfold maxLen; omega) (by have := HSZ.out; omega) (Nat.le_refl _) ?_; intro v6 w6 ho6 hg6; have HO6 : Hid (w6.ownsRow wr.heap.size 3 1 v6 ml (flat gf l)) := ho6; have HG6 : Hid (Below wr.heap.size wr w6) := (Below.refl _ _).grown hg6 (Nat.le_refl _) (fun r e' => by cases e'); obtain ⟨qa, qc, rfl⟩ := row_shape ho6; have k1 := KW.out _ (below_trans HBW.out HG6.out); have b1 := rcell (HX.out.up HG6.out).g 1 (.slice (some ⟨g, oo, none⟩) nG c1) rfl; clear ho6 hg6) | (at_builtin; refine wpList_append_own_at _ rfl _ _ 39 rfl wr.heap.size 3 i3 (.int .i64 0) 1 8 Try.underlying39 HI3.out.1 HI3.out.2.1 HI3.out.2.2.1 HI3.out.2.2.2 rfl (by decide) _ _ _ rfl (row_up HO6.out (bel_up _ _)) ⟨w6.heap.size, 0, none⟩ 1 1 [.int .i64 (-77)] rfl rfl (cell_one_new _ _ _) (by simp [Value.oneCell']) (by have := HSZ.out; unfold maxLen; omega) (by have := HSZ.out; omega) (by have := HG6.out.size; simp; omega) ?_; intro v7 w7 ho7 hg7 _ ha7; have HO7 : Hid (w7.ownsRow wr.heap.size 3 1 v7 (ml + 1) (flat gf l ++ [.int .i64 (-77)])) := ho7; have HG7 : Hid (Below wr.heap.size wr w7) := (below_trans HG6.out (bel_up _ _)).grown hg7 (by have := HG6.out.size; simp; omega) (fun r e' => (row_tag HO6.out r e').1); obtain ⟨ua, uc, rfl⟩ := row_shape ho7; have k1 := KW.out _ (below_trans HBW.out HG7.out); have b1 := rcell (HX.out.up HG7.out).g 1 (.slice (some ⟨g, oo, none⟩) nG c1) rfl; clear ho7 hg7 ha7))
          have HLK : Hid (Lk gf 3 1 (-77 : Int) w.heap.size w7 (match (Value.slice ua (ml + 1) uc) with | .slice a' _ c' => .slice a' ml c' | v => v) l ∧ ∃ gg, ua = some ⟨gg, 0, none⟩ ∧ ml ≤ uc) := by
            obtain ⟨gg, cc, e0, -, hcp, -⟩ := row_form HO7.out (by omega)
            obtain ⟨rfl, -, rfl⟩ := Value.slice.inj e0
            refine ⟨⟨gg, uc, by rw [HML.out], ?_⟩, gg, rfl, by omega⟩
            rw [HML.out, flat_app]
            exact row_base HO7.out HBW.out.size
          obtain ⟨gg, rfl, hcu⟩ := HLK.out.2
          have HLL : Hid (Lk gf 3 1 (-77 : Int) w.heap.size w7 (.slice (some ⟨gg, 0, none⟩) ml uc) l) := HLK.out.1
          clear HLK
          have HW7 : Hid _ := HW.out.up HG7.out
          have HX7 : Hid _ := HX.out.up HG7.out
          have HLA7 : Hid _ := HLA.out.up HG7.out
          have HB7 : Hid _ := below_trans HBW.out HG7.out
          clear HW HX HO6 HO7 HG6 HG7 HBW HLA
          clear k1 b1
          obtain ⟨WD, hWD⟩ : ∃ WD, w7.drew = WD := ⟨_, rfl⟩
          have BD : Hid (Below w7.heap.size w7 WD) := by rw [← hWD]; exact Below.drew (Below.refl _ _)
          have BWD : Hid (Below w.heap.size w WD) := below_trans HB7.out BD.out
          have XD : Hid _ := HX7.out.up BD.out
          have ND : Hid _ := HW7.out.up BD.out
          have LD : Hid (Lk gf 3 1 (-77 : Int) w.heap.size WD (.slice (some ⟨gg, 0, none⟩) ml uc) l) := HLL.out.up BD.out
          have AD : Hid _ := HLA7.out.up BD.out
          have XA : Hid _ := XD.out.up (bel_up WD (.cells #[.slice (some ⟨gg, 0, none⟩) ml uc] 39))
          have NA : Hid _ := ND.out.up (bel_up WD (.cells #[.slice (some ⟨gg, 0, none⟩) ml uc] 39))
          have LA' : Hid _ := LD.out.up (bel_up WD (.cells #[.slice (some ⟨gg, 0, none⟩) ml uc] 39))
          have AA : Hid _ := AD.out.up (bel_up WD (.cells #[.slice (some ⟨gg, 0, none⟩) ml uc] 39))
          have hcu2 : (ml : Int) ≤ (uc : Int) := by omega
          have c0' := rcell XD.out.o 1 (.slice ra m rc) rfl
          have cA := rcell XA.out.o 1 (.slice ra m rc) rfl
          have kd : Hid _ := KW.out WD BWD.out
          have HBA : Hid _ := below_trans BWD.out (bel_up WD (.cells #[.slice (some ⟨gg, 0, none⟩) ml uc] 39))
          refine wp_region_noPanic ?_
          refine wp_region_held_drew (S := fun W => W.cell? ⟨g, oo + i, none⟩ = some (.slice a ml c) ∧ W.cell? ⟨gb, 1, none⟩ = some (.slice (some ⟨g, oo, none⟩) nG c1)) (by kernel_rfl) (by rw [hWD]; exact ⟨kd.out, rcell XD.out.g 1 _ rfl⟩) (fun hHeld => ?_)
          rw [hWD] at hHeld ⊢
          clear hWD
          refine wpAnyH_take (i := 0) (oi := { dst := _, op := _, type := _, pos := _, after := _, guard := _ }) (v := ?_) rfl (by kernel_rfl) (by kernel_rfl) (by kernel_rfl) (fun _ _ _ h => h) (Or.inl ⟨by rfl, ?_⟩) (by assumption) ?_
          rotate_left
          · intro W hSw
            (try dsimp only at hSw)
            go_simp
            (try with_reducible rfl)
          try simp only [Act.put, List.setIfInBounds_toArray, List.set_cons_zero, List.set_cons_succ]
          refine wpAnyH_take (i := 2) (oi := { dst := _, op := _, type := _, pos := _, after := _, guard := _ }) (v := ?_) rfl (by kernel_rfl) (by kernel_rfl) (by kernel_rfl) (fun _ _ _ h => h) (Or.inl ⟨by rfl, ?_⟩) (by assumption) ?_
          rotate_left
          · intro W hSw
            (try dsimp only at hSw)
            go_simp
            (try with_reducible rfl)
          try simp only [Act.put, List.setIfInBounds_toArray, List.set_cons_zero, List.set_cons_succ]
          refine wpAnyH_take (i := 3) (oi := { dst := _, op := _, type := _, pos := _, after := _, guard := _ }) (v := ?_) rfl (by kernel_rfl) (by kernel_rfl) (by kernel_rfl) (fun _ _ _ h => h) (Or.inl ⟨by rfl, ?_⟩) (by assumption) ?_
          rotate_left
          · intro W hSw
            (try dsimp only at hSw)
            go_simp
            (try with_reducible rfl)
          try simp only [Act.put, List.setIfInBounds_toArray, List.set_cons_zero, List.set_cons_succ]
          refine wpAnyH_take (i := 4) (oi := { dst := _, op := _, type := _, pos := _, after := _, guard := _ }) (v := ?_) rfl (by kernel_rfl) (by kernel_rfl) (by kernel_rfl) (fun _ _ _ h => h) (Or.inl ⟨by rfl, ?_⟩) (by assumption) ?_
          rotate_left
          · intro W hSw
            (try dsimp only at hSw)
            go_simp
            (try with_reducible rfl)
          try simp only [Act.put, List.setIfInBounds_toArray, List.set_cons_zero, List.set_cons_succ]
          refine wpAnyH_take (i := 5) (oi := { dst := _, op := _, type := _, pos := _, after := _, guard := _ }) (v := ?_) rfl (by kernel_rfl) (by kernel_rfl) (by kernel_rfl) (fun _ _ _ h => h) (Or.inl ⟨by rfl, ?_⟩) (by assumption) ?_
          rotate_left
          · intro W hSw
            (try dsimp only at hSw)
            go_simp
            (try with_reducible rfl)
          try simp only [Act.put, List.setIfInBounds_toArray, List.set_cons_zero, List.set_cons_succ]
          refine wpAnyH_take (i := 6) (oi := { dst := _, op := _, type := _, pos := _, after := _, guard := _ }) (v := ?_) rfl (by kernel_rfl) (by kernel_rfl) (by kernel_rfl) (fun _ _ _ h => h) (Or.inl ⟨by rfl, ?_⟩) (by assumption) ?_
          rotate_left
          · intro W hSw
            (try dsimp only at hSw)
            go_simp
            (try with_reducible rfl)
          try simp only [Act.put, List.setIfInBounds_toArray, List.set_cons_zero, List.set_cons_succ]
          refine wpAnyH_take (i := 7) (oi := { dst := _, op := _, type := _, pos := _, after := _, guard := _ }) (v := ?_) rfl (by kernel_rfl) (by kernel_rfl) (by kernel_rfl) (fun _ _ _ h => h) (Or.inl ⟨by rfl, ?_⟩) (by assumption) ?_
          rotate_left
          · intro W hSw
            (try dsimp only at hSw)
            go_simp
            (try with_reducible rfl)
          try simp only [Act.put, List.setIfInBounds_toArray, List.set_cons_zero, List.set_cons_succ]
          refine wpAnyH_take (i := 8) (oi := { dst := _, op := _, type := _, pos := _, after := _, guard := _ }) (v := ?_) rfl (by kernel_rfl) (by kernel_rfl) (by kernel_rfl) (fun _ _ _ h => h) (Or.inl ⟨by rfl, ?_⟩) (by assumption) ?_
          rotate_left
          · intro W hSw
            (try dsimp only at hSw)
            go_simp
            (try with_reducible rfl)
          try simp only [Act.put, List.setIfInBounds_toArray, List.set_cons_zero, List.set_cons_succ]
          refine wpAnyH_take (i := 9) (oi := { dst := _, op := _, type := _, pos := _, after := _, guard := _ }) (v := ?_) rfl (by kernel_rfl) (by kernel_rfl) (by kernel_rfl) (fun _ _ _ h => h) (Or.inl ⟨by rfl, ?_⟩) (by assumption) ?_
          rotate_left
          · intro W hSw
            (try dsimp only at hSw)
            go_simp
            (try with_reducible rfl)
          try simp only [Act.put, List.setIfInBounds_toArray, List.set_cons_zero, List.set_cons_succ]
          refine wpAnyH_ready (rs := [1, 10]) (by kernel_rfl) (by simp) ?_
          refine AllReadyH.cons (o := { dst := _, op := _, type := _, pos := _, after := _, guard := _ }) rfl (fun K hK => ?_) (AllReadyH.cons (o := { dst := _, op := _, type := _, pos := _, after := _, guard := _ }) rfl (fun K hK => ?_) (AllReadyH.nil))
          · go_simp
            refine hK.out _ _ ?_ (fun hHeld => ?_)
            · assumption
            clear hK K
            try simp only [Act.put, List.setIfInBounds_toArray, List.set_cons_zero, List.set_cons_succ]
            refine wpAnyH_ready (rs := [10]) (by kernel_rfl) (by simp) ?_
            refine AllReadyH.cons (o := { dst := _, op := _, type := _, pos := _, after := _, guard := _ }) rfl (fun K hK => ?_) AllReadyH.nil
            go_simp
            refine hK.out _ _ ?_ (fun hHeld => ?_)
            · exact ⟨KW.out _ HBA.out, rcell XA.out.g 1 _ rfl⟩
            clear hK K
            try simp only [Act.put, List.setIfInBounds_toArray, List.set_cons_zero, List.set_cons_succ]
            refine wpAnyH_ready (rs := [11]) (by kernel_rfl) (by simp) ?_
            refine AllReadyH.cons (o := { dst := _, op := _, type := _, pos := _, after := _, guard := _ }) rfl (fun K hK => ?_) AllReadyH.nil
            refine step_append_lies _ rfl (.tmp 59) (.tmp 68) 23 rfl w.heap.size 39 i39 (.slice none 0 0) 1 24 Try.underlying23 HI39.out.1 HI39.out.2.1 HI39.out.2.2.1 HI39.out.2.2.2 rfl (by decide) (.slice ra m rc) m (L.map Prod.fst) rfl (by have h9 := NA.out.t; rw [HL.out.2] at h9; exact h9) ⟨WD.heap.size, 0, none⟩ 1 1 [.slice (some ⟨gg, 0, none⟩) ml uc] rfl rfl (cell_one_new _ _ _) (by simp [Value.oneCell']) (by decide) (by have := HM.out; have := HIL.out; have := HBT.out; unfold maxLen; omega) (by have := HM.out; have := HIL.out; have := HBT.out; omega) (by have := BWD.out.size; simp; omega) (WD.heap.size + 1) (by simp) ?_
            intro g6 q6 w6 ho6 hg6 ha6 _
            have X6 : Hid _ := XA.out.grown (NA.out.t) (by decide) hg6
            have N6 : Hid _ := NA.out.app (.slice (some ⟨gg, 0, none⟩) ml uc, l) LA'.out (by decide) hg6 (by rw [HL.out.2]; exact ho6)
            have A6 : Hid _ := AA.out.kept NA.out.t (by decide) (by decide) hg6
            have B6 : Hid (Below w.heap.size w w6) := HBA.out.grown hg6 (by have := BWD.out.size; simp; omega) (fun r e' => (row_tag (NA.out.t) r e').1)
            have c6 := rcell X6.out.o 1 (.slice ra m rc) rfl
            have f6 : w6.frozen? ⟨ob, 1, none⟩ = false := Lib.frozen_of_heap X6.out.o 1
            clear ho6 hg6 ha6
            refine hK.out _ _ ?_ (fun hHeld => ?_)
            · exact ⟨KW.out _ B6.out, rcell X6.out.g 1 _ rfl⟩
            clear hK K
            try simp only [Act.put, List.setIfInBounds_toArray, List.set_cons_zero, List.set_cons_succ]
            refine wpAnyH_take (i := 12) (oi := { dst := _, op := _, type := _, pos := _, after := _, guard := _ }) (v := ?_) rfl (by kernel_rfl) (by kernel_rfl) (by kernel_rfl) (fun _ _ _ h => h) (Or.inl ⟨by rfl, ?_⟩) (by assumption) ?_
            rotate_left
            · intro W hSw
              (try dsimp only at hSw)
              go_simp
              (try with_reducible rfl)
            try simp only [Act.put, List.setIfInBounds_toArray, List.set_cons_zero, List.set_cons_succ]
            refine wpAnyH_ready (rs := [13]) (by kernel_rfl) (by simp) ?_
            refine AllReadyH.cons (o := { dst := _, op := _, type := _, pos := _, after := _, guard := _ }) rfl (fun K hK => ?_) AllReadyH.nil
            go_simp
            have X7 : Hid _ := X6.out.set (k := 1) (v := .slice (some ⟨g6, 0, none⟩) (m + 1) q6) HNE.out.1 HNE.out.2.1 (.slice y0 z0 q0) (.slice (some ⟨g6, 0, none⟩) (m + 1) q6) rfl
            have B7 : Hid (Below w.heap.size w (w6.setCell ⟨ob, 1, none⟩ (.slice (some ⟨g6, 0, none⟩) (m + 1) q6))) := B6.out.setCell (p := ⟨ob, 1, none⟩) HOB.out.1 _
            refine hK.out _ _ ?_ (fun hHeld => ?_)
            · exact ⟨KW.out _ B7.out, rcell X7.out.g 1 _ rfl⟩
            clear hK K
            try simp only [Act.put, List.setIfInBounds_toArray, List.set_cons_zero, List.set_cons_succ]
            refine wpAnyH_done (by kernel_rfl) ?_ _
            refine NoPanic.normal ?_
            clear hHeld
            have N7 : Hid _ := N6.out.off (k := 1) (u := .slice (some ⟨g6, 0, none⟩) (m + 1) q6) X6.out.o (by decide) (by decide)
            have A7 : Hid _ := A6.out.off (k := 1) (u := .slice (some ⟨g6, 0, none⟩) (m + 1) q6) X6.out.o (by decide) (by decide)
            clear c6 f6
            go_wp2_with fail
            go_roundg (nG - (i + 1))
            case measure => have := HI.out; have := HIL.out; omega
            case rel => exact ⟨i + 1, by first | rfl | (rw [show (i : Int) + 1 = ((i + 1 : Nat) : Int) by omega]), _, m + 1, _, by have := HM.out; show _ = _; omega, B7, ⟨HIL.out, rfl⟩, X7, _, ⟨HSN.out _, by rw [List.length_append, HL.out.2]; rfl⟩, N7, A7⟩
          · go_simp
            refine hK.out _ _ ?_ (fun hHeld => ?_)
            · exact ⟨KW.out _ HBA.out, rcell XA.out.g 1 _ rfl⟩
            clear hK K
            try simp only [Act.put, List.setIfInBounds_toArray, List.set_cons_zero, List.set_cons_succ]
            refine wpAnyH_ready (rs := [1]) (by kernel_rfl) (by simp) ?_
            refine AllReadyH.cons (o := { dst := _, op := _, type := _, pos := _, after := _, guard := _ }) rfl (fun K hK => ?_) AllReadyH.nil
            go_simp
            refine hK.out _ _ ?_ (fun hHeld => ?_)
            · assumption
            clear hK K
            try simp only [Act.put, List.setIfInBounds_toArray, List.set_cons_zero, List.set_cons_succ]
            refine wpAnyH_ready (rs := [11]) (by kernel_rfl) (by simp) ?_
            refine AllReadyH.cons (o := { dst := _, op := _, type := _, pos := _, after := _, guard := _ }) rfl (fun K hK => ?_) AllReadyH.nil
            refine step_append_lies _ rfl (.tmp 59) (.tmp 68) 23 rfl w.heap.size 39 i39 (.slice none 0 0) 1 24 Try.underlying23 HI39.out.1 HI39.out.2.1 HI39.out.2.2.1 HI39.out.2.2.2 rfl (by decide) (.slice ra m rc) m (L.map Prod.fst) rfl (by have h9 := NA.out.t; rw [HL.out.2] at h9; exact h9) ⟨WD.heap.size, 0, none⟩ 1 1 [.slice (some ⟨gg, 0, none⟩) ml uc] rfl rfl (cell_one_new _ _ _) (by simp [Value.oneCell']) (by decide) (by have := HM.out; have := HIL.out; have := HBT.out; unfold maxLen; omega) (by have := HM.out; have := HIL.out; have := HBT.out; omega) (by have := BWD.out.size; simp; omega) (WD.heap.size + 1) (by simp) ?_
            intro g6 q6 w6 ho6 hg6 ha6 _
            have X6 : Hid _ := XA.out.grown (NA.out.t) (by decide) hg6
            have N6 : Hid _ := NA.out.app (.slice (some ⟨gg, 0, none⟩) ml uc, l) LA'.out (by decide) hg6 (by rw [HL.out.2]; exact ho6)
            have A6 : Hid _ := AA.out.kept NA.out.t (by decide) (by decide) hg6
            have B6 : Hid (Below w.heap.size w w6) := HBA.out.grown hg6 (by have := BWD.out.size; simp; omega) (fun r e' => (row_tag (NA.out.t) r e').1)
            have c6 := rcell X6.out.o 1 (.slice ra m rc) rfl
            have f6 : w6.frozen? ⟨ob, 1, none⟩ = false := Lib.frozen_of_heap X6.out.o 1
            clear ho6 hg6 ha6
            refine hK.out _ _ ?_ (fun hHeld => ?_)
            · exact ⟨KW.out _ B6.out, rcell X6.out.g 1 _ rfl⟩
            clear hK K
            try simp only [Act.put, List.setIfInBounds_toArray, List.set_cons_zero, List.set_cons_succ]
            refine wpAnyH_take (i := 12) (oi := { dst := _, op := _, type := _, pos := _, after := _, guard := _ }) (v := ?_) rfl (by kernel_rfl) (by kernel_rfl) (by kernel_rfl) (fun _ _ _ h => h) (Or.inl ⟨by rfl, ?_⟩) (by assumption) ?_
            rotate_left
            · intro W hSw
              (try dsimp only at hSw)
              go_simp
              (try with_reducible rfl)
            try simp only [Act.put, List.setIfInBounds_toArray, List.set_cons_zero, List.set_cons_succ]
            refine wpAnyH_ready (rs := [13]) (by kernel_rfl) (by simp) ?_
            refine AllReadyH.cons (o := { dst := _, op := _, type := _, pos := _, after := _, guard := _ }) rfl (fun K hK => ?_) AllReadyH.nil
            go_simp
            have X7 : Hid _ := X6.out.set (k := 1) (v := .slice (some ⟨g6, 0, none⟩) (m + 1) q6) HNE.out.1 HNE.out.2.1 (.slice y0 z0 q0) (.slice (some ⟨g6, 0, none⟩) (m + 1) q6) rfl
            have B7 : Hid (Below w.heap.size w (w6.setCell ⟨ob, 1, none⟩ (.slice (some ⟨g6, 0, none⟩) (m + 1) q6))) := B6.out.setCell (p := ⟨ob, 1, none⟩) HOB.out.1 _
            refine hK.out _ _ ?_ (fun hHeld => ?_)
            · exact ⟨KW.out _ B7.out, rcell X7.out.g 1 _ rfl⟩
            clear hK K
            try simp only [Act.put, List.setIfInBounds_toArray, List.set_cons_zero, List.set_cons_succ]
            refine wpAnyH_done (by kernel_rfl) ?_ _
            refine NoPanic.normal ?_
            clear hHeld
            have N7 : Hid _ := N6.out.off (k := 1) (u := .slice (some ⟨g6, 0, none⟩) (m + 1) q6) X6.out.o (by decide) (by decide)
            have A7 : Hid _ := A6.out.off (k := 1) (u := .slice (some ⟨g6, 0, none⟩) (m + 1) q6) X6.out.o (by decide) (by decide)
            clear c6 f6
            go_wp2_with fail
            go_roundg (nG - (i + 1))
            case measure => have := HI.out; have := HIL.out; omega
            case rel => exact ⟨i + 1, by first | rfl | (rw [show (i : Int) + 1 = ((i + 1 : Nat) : Int) by omega]), _, m + 1, _, by have := HM.out; show _ = _; omega, B7, ⟨HIL.out, rfl⟩, X7, _, ⟨HSN.out _, by rw [List.length_append, HL.out.2]; rfl⟩, N7, A7⟩
        · have e1 : decide ((i : Int) < (nG : Int)) = false := by rw [decide_eq_false_iff_not]; omega
          have e2 : decide (i < nG) = false := by rw [decide_eq_false_iff_not]; omega
          have HIN : Hid (i = nG) := by have := HI.out; show i = nG; omega
          clear hi
          go_upto_region 16 with fail
          clear e1 e2 b1
          obtain rfl : m = nG := by have := HM.out; have := HIN.out; omega
          obtain rfl : z0 = nA := HZ0.out
          have HLE2 : Hid (L.map Prod.snd = G.map Prod.snd ∧ L.length = m) := by
            have h9 := HL.out
            rw [HIN.out, ← HNG.out, List.take_length] at h9
            exact ⟨h9.1, by rw [h9.2]; exact HNG.out⟩
          clear HL HI HM HIN HZ0
          have HC0 : Hid (∀ j q, [Value.slice (some ⟨wr.heap.size, 0, none⟩) 1 1][j]? = some q → ((wr.alloc (.cells #[.int .i64 0, .int .i64 (-77)] 38)).alloc (.cells #[.slice (some ⟨wr.heap.size, 0, none⟩) 1 1] 35)).cell? ((⟨wr.heap.size + 1, 0, none⟩ : Addr).add j) = some q) := by
            have h9 := cell_one_new (wr.alloc (.cells #[.int .i64 0, .int .i64 (-77)] 38)) (.slice (some ⟨wr.heap.size, 0, none⟩) 1 1) 35
            rw [World.size_alloc] at h9
            exact h9
          have HBM0 : Hid (Below wr.heap.size wr ((wr.alloc (.cells #[.int .i64 0, .int .i64 (-77)] 38)).alloc (.cells #[.slice (some ⟨wr.heap.size, 0, none⟩) 1 1] 35))) := below_trans (bel_up _ _) (bel_up _ _)
          have HMK0 : Hid (((wr.alloc (.cells #[.int .i64 0, .int .i64 (-77)] 38)).alloc (.cells #[.slice (some ⟨wr.heap.size, 0, none⟩) 1 1] 35)).heap[wr.heap.size]? = some (.cells #[.int .i64 0, .int .i64 (-77)] 38 (0, 0))) := by
            have e1 := heap_new wr (.cells #[.int .i64 0, .int .i64 (-77)] 38)
            exact ((bel_up (wr.alloc (.cells #[.int .i64 0, .int .i64 (-77)] 38)) _).block _ (lt_of_heap e1)).trans e1
          have HNM0 : Hid _ := HLA.out.up HBM0.out
          have HRM0 : Hid (((wr.alloc (.cells #[.int .i64 0, .int .i64 (-77)] 38)).alloc (.cells #[.slice (some ⟨wr.heap.size, 0, none⟩) 1 1] 35)).ownsRow w.heap.size 35 1 (.slice y0 z0 q0) z0 (LA.map Prod.fst)) := by have h9 := HNM0.out.t; rw [HLE.out.2] at h9; exact h9
          have cc0 := rcell HX.out.o 0 (.slice y0 z0 q0) rfl
          go_upto_region 17 with (at_builtin; refine wpList_append_own_at _ rfl _ _ 22 rfl w.heap.size 35 i35 (.slice none 0 0) 1 24 Try.underlying22 HI35.out.1 HI35.out.2.1 HI35.out.2.2.1 HI35.out.2.2.2 rfl (by decide) _ _ _ rfl HRM0.out ⟨wr.heap.size + 1, 0, none⟩ 1 1 [.slice (some ⟨wr.heap.size, 0, none⟩) 1 1] rfl rfl HC0.out (by simp [Value.oneCell']) (by have := HBT.out; unfold maxLen; omega) (by have := HBT.out; omega) (by have := HBW.out.size; simp; omega) ?_; intro v9 w6 ho9 hg9 _ ha9; have HO0 : Hid (w6.ownsRow w.heap.size 35 1 v9 (z0 + 1) (LA.map Prod.fst ++ [.slice (some ⟨wr.heap.size, 0, none⟩) 1 1])) := ho9; have HG0 : Hid (((wr.alloc (.cells #[.int .i64 0, .int .i64 (-77)] 38)).alloc (.cells #[.slice (some ⟨wr.heap.size, 0, none⟩) 1 1] 35)).grownBy w6 (Value.ownBlock (.slice y0 z0 q0))) := hg9; obtain ⟨ua0, uc0, rfl⟩ := row_shape ho9; clear ho9 hg9 ha9)
          clear cc0
          obtain ⟨gg0, ck0, ee0, -, hcp0, -⟩ := row_form HO0.out (by omega)
          obtain ⟨rfl, -, rfl⟩ := Value.slice.inj ee0
          clear ee0
          have NK0 : Hid (NkA w.heap.size w6 gg0 uc0 wr.heap.size LA) := HNM0.out.mark (by decide) HMK0.out HBW.out.size HG0.out (by rw [HLE.out.2]; exact HO0.out)
          have X6 : Hid _ := (HX.out.up HBM0.out).grown HRM0.out (by decide) HG0.out
          have OT0 : Hid _ := (HW.out.up HBM0.out).kept HRM0.out (by decide) (by decide) HG0.out
          have B6 : Hid (Below w.heap.size w w6) := (below_trans HBW.out HBM0.out).grown HG0.out (by have := HBW.out.size; simp; omega) (fun r e' => (row_tag HRM0.out r e').1)
          clear HC0 HBM0 HMK0 HNM0 HRM0 HO0 HG0
          have HC1 : Hid (∀ j q, [Value.slice (some ⟨w6.heap.size, 0, none⟩) 1 1][j]? = some q → ((w6.alloc (.cells #[.int .i64 (-77)] 3)).alloc (.cells #[.slice (some ⟨w6.heap.size, 0, none⟩) 1 1] 39)).cell? ((⟨w6.heap.size + 1, 0, none⟩ : Addr).add j) = some q) := by
            have h9 := cell_one_new (w6.alloc (.cells #[.int .i64 (-77)] 3)) (.slice (some ⟨w6.heap.size, 0, none⟩) 1 1) 39
            rw [World.size_alloc] at h9
            exact h9
          have HBM1 : Hid (Below w6.heap.size w6 ((w6.alloc (.cells #[.int .i64 (-77)] 3)).alloc (.cells #[.slice (some ⟨w6.heap.size, 0, none⟩) 1 1] 39))) := below_trans (bel_up _ _) (bel_up _ _)
          have HMK1 : Hid (((w6.alloc (.cells #[.int .i64 (-77)] 3)).alloc (.cells #[.slice (some ⟨w6.heap.size, 0, none⟩) 1 1] 39)).heap[w6.heap.size]? = some (.cells #[.int .i64 (-77)] 3 (0, 0))) := by
            have e1 := heap_new w6 (.cells #[.int .i64 (-77)] 3)
            exact ((bel_up (w6.alloc (.cells #[.int .i64 (-77)] 3)) _).block _ (lt_of_heap e1)).trans e1
          have HNM1 : Hid _ := OT0.out.up HBM1.out
          have HRM1 : Hid (((w6.alloc (.cells #[.int .i64 (-77)] 3)).alloc (.cells #[.slice (some ⟨w6.heap.size, 0, none⟩) 1 1] 39)).ownsRow w.heap.size 39 1 (.slice ra m rc) m (L.map Prod.fst)) := by have h9 := HNM1.out.t; rw [HLE2.out.2] at h9; exact h9
          have cc1 := rcell X6.out.o 1 (.slice ra m rc) rfl
          go_upto_region 18 with (at_builtin; refine wpList_append_own_at _ rfl _ _ 23 rfl w.heap.size 39 i39 (.slice none 0 0) 1 24 Try.underlying23 HI39.out.1 HI39.out.2.1 HI39.out.2.2.1 HI39.out.2.2.2 rfl (by decide) _ _ _ rfl HRM1.out ⟨w6.heap.size + 1, 0, none⟩ 1 1 [.slice (some ⟨w6.heap.size, 0, none⟩) 1 1] rfl rfl HC1.out (by simp [Value.oneCell']) (by have := HBT.out; unfold maxLen; omega) (by have := HBT.out; omega) (by have := B6.out.size; simp; omega) ?_; intro v9 w7 ho9 hg9 _ ha9; have HO1 : Hid (w7.ownsRow w.heap.size 39 1 v9 (m + 1) (L.map Prod.fst ++ [.slice (some ⟨w6.heap.size, 0, none⟩) 1 1])) := ho9; have HG1 : Hid (((w6.alloc (.cells #[.int .i64 (-77)] 3)).alloc (.cells #[.slice (some ⟨w6.heap.size, 0, none⟩) 1 1] 39)).grownBy w7 (Value.ownBlock (.slice ra m rc))) := hg9; obtain ⟨ua1, uc1, rfl⟩ := row_shape ho9; clear ho9 hg9 ha9)
          clear cc1
          obtain ⟨gg1, ck1, ee1, -, hcp1, -⟩ := row_form HO1.out (by omega)
          obtain ⟨rfl, -, rfl⟩ := Value.slice.inj ee1
          clear ee1
          have NK1 : Hid (NkG w.heap.size w7 gg1 uc1 w6.heap.size L) := HNM1.out.mark (by decide) HMK1.out B6.out.size HG1.out (by rw [HLE2.out.2]; exact HO1.out)
          have X7 : Hid _ := (X6.out.up HBM1.out).grown HRM1.out (by decide) HG1.out
          have OT1 : Hid _ := (NK0.out.up HBM1.out).kept HRM1.out (by decide) (by decide) HG1.out
          have B7 : Hid (Below w.heap.size w w7) := (below_trans B6.out HBM1.out).grown HG1.out (by have := B6.out.size; simp; omega) (fun r e' => (row_tag HRM1.out r e').1)
          clear HC1 HBM1 HMK1 HNM1 HRM1 HO1 HG1
          obtain ⟨WD, hWD⟩ : ∃ WD, w7.drew = WD := ⟨_, rfl⟩
          have BD : Hid (Below w7.heap.size w7 WD) := by rw [← hWD]; exact Below.drew (Below.refl _ _)
          have BWD : Hid (Below w.heap.size w WD) := below_trans B7.out BD.out
          have XD : Hid _ := X7.out.up BD.out
          have N0 : Hid _ := OT1.out.up BD.out
          have N1 : Hid _ := NK1.out.up BD.out
          have f1 : (z0 : Int) ≤ (uc0 : Int) := by omega
          have f2 : z0 ≤ uc0 := by omega
          have f3 : (m : Int) ≤ (uc1 : Int) := by omega
          have f4 : m ≤ uc1 := by omega
          have r0 := rcell XD.out.r 0 (.slice none 0 0) rfl
          have r1 := rcell XD.out.r 1 (.slice none 0 0) rfl
          have z0' : WD.frozen? ⟨rb, 0, none⟩ = false := Lib.frozen_of_heap XD.out.r 0
          have z1' : WD.frozen? ⟨rb, 1, none⟩ = false := Lib.frozen_of_heap XD.out.r 1
          refine wp_region_noPanic ?_
          refine wp_region_held_drew (S := fun W => W.cell? ⟨gb, 0, none⟩ = some (.slice a0 z0 c0) ∧ W.cell? ⟨gb, 1, none⟩ = some (.slice a1 m c1)) (by kernel_rfl) (by rw [hWD]; exact ⟨rcell XD.out.g 0 _ rfl, rcell XD.out.g 1 _ rfl⟩) (fun hHeld => ?_)
          rw [hWD] at hHeld ⊢
          clear hWD
          refine wpAnyH_take (i := 0) (oi := { dst := _, op := _, type := _, pos := _, after := _, guard := _ }) (v := ?_) rfl (by kernel_rfl) (by kernel_rfl) (by kernel_rfl) (fun _ _ _ h => h) (Or.inl ⟨by rfl, ?_⟩) (by assumption) ?_
          rotate_left
          · intro W hSw
            (try dsimp only at hSw)
            go_simp
            (try with_reducible rfl)
          try simp only [Act.put, List.setIfInBounds_toArray, List.set_cons_zero, List.set_cons_succ]
          refine wpAnyH_take (i := 1) (oi := { dst := _, op := _, type := _, pos := _, after := _, guard := _ }) (v := ?_) rfl (by kernel_rfl) (by kernel_rfl) (by kernel_rfl) (fun _ _ _ h => h) (Or.inl ⟨by rfl, ?_⟩) (by assumption) ?_
          rotate_left
          · intro W hSw
            (try dsimp only at hSw)
            go_simp
            (try with_reducible rfl)
          try simp only [Act.put, List.setIfInBounds_toArray, List.set_cons_zero, List.set_cons_succ]
          refine wpAnyH_take (i := 2) (oi := { dst := _, op := _, type := _, pos := _, after := _, guard := _ }) (v := ?_) rfl (by kernel_rfl) (by kernel_rfl) (by kernel_rfl) (fun _ _ _ h => h) (Or.inl ⟨by rfl, ?_⟩) (by assumption) ?_
          rotate_left
          · intro W hSw
            (try dsimp only at hSw)
            go_simp
            (try with_reducible rfl)
          try simp only [Act.put, List.setIfInBounds_toArray, List.set_cons_zero, List.set_cons_succ]
          refine wpAnyH_take (i := 3) (oi := { dst := _, op := _, type := _, pos := _, after := _, guard := _ }) (v := ?_) rfl (by kernel_rfl) (by kernel_rfl) (by kernel_rfl) (fun _ _ _ h => h) (Or.inl ⟨by rfl, ?_⟩) (by assumption) ?_
          rotate_left
          · intro W hSw
            (try dsimp only at hSw)
            go_simp
            (try with_reducible rfl)
          try simp only [Act.put, List.setIfInBounds_toArray, List.set_cons_zero, List.set_cons_succ]
          refine wpAnyH_take (i := 4) (oi := { dst := _, op := _, type := _, pos := _, after := _, guard := _ }) (v := ?_) rfl (by kernel_rfl) (by kernel_rfl) (by kernel_rfl) (fun _ _ _ h => h) (Or.inl ⟨by rfl, ?_⟩) (by assumption) ?_
          rotate_left
          · intro W hSw
            (try dsimp only at hSw)
            go_simp
            (try with_reducible rfl)
          try simp only [Act.put, List.setIfInBounds_toArray, List.set_cons_zero, List.set_cons_succ]
          refine wpAnyH_take (i := 5) (oi := { dst := _, op := _, type := _, pos := _, after := _, guard := _ }) (v := ?_) rfl (by kernel_rfl) (by kernel_rfl) (by kernel_rfl) (fun _ _ _ h => h) (Or.inl ⟨by rfl, ?_⟩) (by assumption) ?_
          rotate_left
          · intro W hSw
            (try dsimp only at hSw)
            go_simp
            (try with_reducible rfl)
          try simp only [Act.put, List.setIfInBounds_toArray, List.set_cons_zero, List.set_cons_succ]
          refine wpAnyH_take (i := 6) (oi := { dst := _, op := _, type := _, pos := _, after := _, guard := _ }) (v := ?_) rfl (by kernel_rfl) (by kernel_rfl) (by kernel_rfl) (fun _ _ _ h => h) (Or.inl ⟨by rfl, ?_⟩) (by assumption) ?_
          rotate_left
          · intro W hSw
            (try dsimp only at hSw)
            go_simp
            (try with_reducible rfl)
          try simp only [Act.put, List.setIfInBounds_toArray, List.set_cons_zero, List.set_cons_succ]
          refine wpAnyH_take (i := 7) (oi := { dst := _, op := _, type := _, pos := _, after := _, guard := _ }) (v := ?_) rfl (by kernel_rfl) (by kernel_rfl) (by kernel_rfl) (fun _ _ _ h => h) (Or.inl ⟨by rfl, ?_⟩) (by assumption) ?_
          rotate_left
          · intro W hSw
            (try dsimp only at hSw)
            go_simp
            (try with_reducible rfl)
          try simp only [Act.put, List.setIfInBounds_toArray, List.set_cons_zero, List.set_cons_succ]
          refine wpAnyH_take (i := 8) (oi := { dst := _, op := _, type := _, pos := _, after := _, guard := _ }) (v := ?_) rfl (by kernel_rfl) (by kernel_rfl) (by kernel_rfl) (fun _ _ _ h => h) (Or.inl ⟨by rfl, ?_⟩) (by assumption) ?_
          rotate_left
          · intro W hSw
            (try dsimp only at hSw)
            go_simp
            (try with_reducible rfl)
          try simp only [Act.put, List.setIfInBounds_toArray, List.set_cons_zero, List.set_cons_succ]
          refine wpAnyH_take (i := 9) (oi := { dst := _, op := _, type := _, pos := _, after := _, guard := _ }) (v := ?_) rfl (by kernel_rfl) (by kernel_rfl) (by kernel_rfl) (fun _ _ _ h => h) (Or.inl ⟨by rfl, ?_⟩) (by assumption) ?_
          rotate_left
          · intro W hSw
            (try dsimp only at hSw)
            go_simp
            (try with_reducible rfl)
          try simp only [Act.put, List.setIfInBounds_toArray, List.set_cons_zero, List.set_cons_succ]
          refine wpAnyH_take (i := 10) (oi := { dst := _, op := _, type := _, pos := _, after := _, guard := _ }) (v := ?_) rfl (by kernel_rfl) (by kernel_rfl) (by kernel_rfl) (fun _ _ _ h => h) (Or.inl ⟨by rfl, ?_⟩) (by assumption) ?_
          rotate_left
          · intro W hSw
            (try dsimp only at hSw)
            go_simp
            (try with_reducible rfl)
          try simp only [Act.put, List.setIfInBounds_toArray, List.set_cons_zero, List.set_cons_succ]
          refine wpAnyH_ready (rs := [11]) (by kernel_rfl) (by simp) ?_
          refine AllReadyH.cons (o := { dst := _, op := _, type := _, pos := _, after := _, guard := _ }) rfl (fun K hK => ?_) AllReadyH.nil
          go_simp
          have hb1 := blk_set (k := 0) (.slice (some ⟨gg0, 0, none⟩) z0 uc0) XD.out.r
          have XE : Hid (((WD.setCell ⟨rb, 0, none⟩ (.slice (some ⟨gg0, 0, none⟩) z0 uc0)).setCell ⟨rb, 1, none⟩ (.slice (some ⟨gg1, 0, none⟩) m uc1)).heap[gb]? = some (.cells #[.slice a0 z0 c0, .slice a1 m c1] 25 (0, 0))) := ((Below.heap_setCell _ ⟨rb, 1, none⟩ _ gb HNE.out.2.2).trans (Below.heap_setCell _ ⟨rb, 0, none⟩ _ gb HNE.out.2.2)).trans XD.out.g
          refine hK.out _ _ ?_ (fun hHeld => ?_)
          · exact ⟨rcell XE.out 0 _ rfl, rcell XE.out 1 _ rfl⟩
          clear hK K
          try simp only [Act.put, List.setIfInBounds_toArray, List.set_cons_zero, List.set_cons_succ]
          refine wpAnyH_done (by kernel_rfl) ?_ _
          refine NoPanic.normal ?_
          clear hHeld
          clear r0 r1 z0' z1'
          go_wp2_with fail
          (try simp only [Exit.inBlock, Exit.then])
          have hb1 := blk_set (k := 0) (.slice (some ⟨gg0, 0, none⟩) z0 uc0) XD.out.r
          refine bodyPost_ret (v := .agg #[.slice (some ⟨gg0, 0, none⟩) z0 uc0, .slice (some ⟨gg1, 0, none⟩) m uc1]) ?_ rfl ⟨gg0, uc0, _, gg1, uc1, _, LA, L, rfl, (N0.out.off XD.out.r (by decide) (by decide)).off hb1 (by decide) (by decide), (N1.out.off XD.out.r (by decide) (by decide)).off hb1 (by decide) (by decide), HLE.out.1, HLE2.out.1, (BWD.out.setCell (p := ⟨rb, 0, none⟩) HOB.out.2 _).setCell (p := ⟨rb, 1, none⟩) HOB.out.2 _⟩
          rw [results_cell1 rfl]
          have r0 := rcell (blk_set (k := 1) (.slice (some ⟨gg1, 0, none⟩) m uc1) hb1) 0 (.slice (some ⟨gg0, 0, none⟩) z0 uc0) rfl
          have r1 := rcell (blk_set (k := 1) (.slice (some ⟨gg1, 0, none⟩) m uc1) hb1) 1 (.slice (some ⟨gg1, 0, none⟩) m uc1) rfl
          go_simp
end Go.Proofs.Ythlbajkbpceglaa
