import Derived.Test.YtodncbkdlnepjaaFmo
namespace Go.Proofs.Ytodncbkdlnepjaa
open Go.RowKit Go.Maps

/-- A row behind a step. -/
def Rpl (nT : Nat) (P : List Pd) (l l' : List Rf) : Prop :=
  l' = l ∨ ∃ (i : Nat) (p : Pd), i < l.length ∧ p ∈ P ∧ 0 ≤ p.1 ∧ (l.getD i rfd).1 = (nT : Int) + p.1 ∧ l' = l.take i ++ p.2.2 ++ l.drop (i + 1)
theorem drop_take_step {α : Type} (l : List α) (d : α) (a k : Nat) (h : a + k < l.length) : (l.drop a).take (k + 1) = (l.drop a).take k ++ [l.getD (a + k) d] := by
  rw [take_getD (l.drop a) d k (by rw [List.length_drop]; omega)]
  congr 2
  rw [List.getD_eq_getElem?_getD, List.getD_eq_getElem?_getD, List.getElem?_drop]

set_option maxRecDepth 100000 in
set_option maxHeartbeats 16000000 in
theorem replaced_any {v0 v1 v2 v : Value} {nT nS : Nat} {P : List Pd} {l : List Rf} (st sp : Int) (w : World) (h : Gm w v0 v1 v2 nT nS P) (hz : Gz nT nS P) (hs : snd nT nS P = true) (hr : Rw w v l.length (flat rf l)) (hl : l.length * 40 + 4096 ≤ 140737488355328) :
    Calls Try.prog 15 #[.agg #[v0, v1, v2], v, .agg #[.int .i64 st, .int .i64 sp]] w fun e w' => ∃ u l', e = .returned u ∧ Rw w' u l'.length (flat rf l') ∧ Rpl nT P l l' ∧ l'.length * 40 + 4096 ≤ 140737488355328 ∧ Below w.heap.size w w' := by
  have HG : Hid (Gm w v0 v1 v2 nT nS P) := h
  have HZ : Hid _ := hz
  have HSN : Hid _ := snd_mem hs
  have HV : Hid (Rw w v l.length (flat rf l)) := hr
  have HL : Hid _ := hl
  obtain ⟨a0, c0, a1, c1, a2, c2, rfl, rfl, rfl⟩ := h.form
  obtain ⟨xa, ca, rfl⟩ := hr.form
  clear h hz hs hr hl
  obtain ⟨n, hn⟩ : ∃ n, P.length = n := ⟨_, rfl⟩
  have HN : Hid (P.length = n) := hn
  rw [hn] at HG ⊢
  clear hn
  obtain ⟨na, hna⟩ : ∃ n, l.length = n := ⟨_, rfl⟩
  have HNA : Hid (l.length = na) := hna
  rw [hna] at HV HL ⊢
  clear hna
  obtain ⟨i32, hi, h0, h1, h2⟩ := info_parts info32
  have HI32 : Hid (Try.prog.info? 32 = some i32 ∧ i32.zero = some (.agg #[.int .i64 0, .string ⟨#[]⟩, .string ⟨#[]⟩]) ∧ i32.size = 3 ∧ i32.bytes = 40) := ⟨hi, h0, h1, h2⟩
  clear hi h0 h1 h2
  obtain ⟨W0, hW0⟩ : ∃ W0, W0 = w.alloc (.cells #[.slice a0 nT c0, .slice a1 nS c1, .slice a2 n c2] 26) := ⟨_, rfl⟩
  obtain ⟨W1, hW1⟩ : ∃ W1, W1 = W0.alloc (.cells #[.int .i64 st, .int .i64 sp] 46) := ⟨_, rfl⟩
  have B01 : Hid (Below W0.heap.size W0 W1) := by rw [hW1]; exact bel_up _ _
  have hx0 : W0.heap[w.heap.size]? = some (.cells #[.slice a0 nT c0, .slice a1 nS c1, .slice a2 n c2] 26 (0, 0)) := by rw [hW0]; exact heap_new w _
  have HX : Hid (W1.heap[w.heap.size]? = some (.cells #[.slice a0 nT c0, .slice a1 nS c1, .slice a2 n c2] 26 (0, 0))) := (B01.out.block _ (lt_of_heap hx0)).trans hx0
  have HY : Hid (W1.heap[W0.heap.size]? = some (.cells #[.int .i64 st, .int .i64 sp] 46 (0, 0))) := by rw [hW1]; exact heap_new _ _
  have HB1 : Hid (Below w.heap.size w W1) := by rw [hW0] at B01; rw [hW1, hW0]; exact below_trans (bel_up _ _) (bel_up _ _)
  have hsz : W0.heap.size = w.heap.size + 1 := by rw [hW0]; simp
  rw [hsz] at HY
  go_enter Try.func15, Try.ntmps15
  go_upto_region 1 with fail
  rw [← hW0, ← hW1]
  clear hx0 hW0 hW1 B01 hsz
  obtain ⟨gb, hgb⟩ : ∃ gb, w.heap.size = gb := ⟨_, rfl⟩
  have HGB : Hid (w.heap.size = gb) := hgb
  rw [hgb] at HX HY ⊢
  clear hgb
  obtain ⟨sb, hsb⟩ : ∃ sb, gb + 1 = sb := ⟨_, rfl⟩
  have HSB : Hid (gb + 1 = sb) := hsb
  rw [hsb] at HY ⊢
  clear hsb
  have p0 := rcell HX.out 0 (.slice a0 nT c0) rfl
  have p2 := rcell HX.out 2 (.slice a2 n c2) rfl
  have s0 := rcell HY.out 0 (.int .i64 st) rfl
  by_cases hz1 : na = 0
  · have d1 : ((na : Int) == 0) = true := by rw [hz1]; rfl
    subst hz1
    go_wp2_with fail
    go_ret
    exact ⟨_, l, rfl, by rw [HNA.out]; exact HV.out.up HB1.out, Or.inl rfl, by have := HNA.out; have := HL.out; omega, HB1.out⟩
  have d1 : ((na : Int) == 0) = false := by rw [beq_eq_false_iff_ne]; omega
  have d1' : (na == 0) = false := by rw [beq_eq_false_iff_ne]; omega
  have HA1 : Hid (1 ≤ na) := by show 1 ≤ na; omega
  by_cases hz2 : n = 0
  · have d2 : ((n : Int) == 0) = true := by rw [hz2]; rfl
    subst hz2
    go_wp2_with fail
    go_ret
    exact ⟨_, l, rfl, by rw [HNA.out]; exact HV.out.up HB1.out, Or.inl rfl, by have := HNA.out; have := HL.out; omega, HB1.out⟩
  have d2 : ((n : Int) == 0) = false := by rw [beq_eq_false_iff_ne]; omega
  have d2' : (n == 0) = false := by rw [beq_eq_false_iff_ne]; omega
  have HA2 : Hid (1 ≤ n) := by show 1 ≤ n; omega
  have HNB : Hid (na ≤ 4611686018427387904 ∧ n ≤ 4611686018427387904) := by have := HL.out; have := HZ.out.p; have := HN.out; show _ ∧ _; omega
  have nz1 : ¬ na = 0 := hz1
  have nz2 : ¬ n = 0 := hz2
  clear hz1 hz2
  go_upto_region 4 with (go_at_call 34; refine (mod_any _ st na HA1.out HNB.out.1).mono ?_; rintro e w2 ⟨at', rfl, hat, hww⟩; rw [hww]; clear hww; have HAT : Hid (at' < na) := hat; clear hat)
  clear d1 d1' d2 d2' nz1 nz2
  have HPR : Hid (∀ j, j < n → ∃ g o, a2 = some ⟨g, o, none⟩ ∧ ∀ W, Below w.heap.size w W → W.cell? ⟨g, o + j * 2, none⟩ = some (.int .i64 (P.getD j pfd).1) ∧ W.cell? ⟨g, o + j * 2 + 1, none⟩ = some (P.getD j pfd).2.1) := fun j hj => by
    have hp := HG.out.p
    rw [HN.out] at hp
    obtain ⟨g, o, cap, e0, hc⟩ := hp.place (by omega)
    obtain ⟨q0, q1⟩ := pf_get P j (by have := HN.out; omega)
    obtain ⟨e1, -, -⟩ := Value.slice.inj e0
    exact ⟨g, o, e1, fun W hW => ⟨below_cell hW (hc _ _ q0), by rw [Nat.add_assoc]; exact below_cell hW (hc _ _ q1)⟩⟩
  obtain ⟨g, o, ha2, -⟩ := HPR.out 0 (by have := HA2.out; omega)
  have HPR2 : Hid (∀ j, j < n → ∀ W, Below w.heap.size w W → W.cell? ⟨g, o + j * 2, none⟩ = some (.int .i64 (P.getD j pfd).1) ∧ W.cell? ⟨g, o + j * 2 + 1, none⟩ = some (P.getD j pfd).2.1) := fun j hj W hW => by
    obtain ⟨g', o', e, h⟩ := HPR.out j hj
    rw [ha2] at e
    cases e
    exact h W hW
  subst ha2
  clear HPR p0 p2 s0
  obtain ⟨F1, FA, FN, FC, hF⟩ : ∃ (F1 : Nat → Int) (FA : Nat → Option Addr) (FN FC : Nat → Nat), ∀ j, j < n → P.getD j pfd = (F1 j, Value.slice (FA j) (FN j) (FC j), (P.getD j pfd).2.2) :=
    ⟨fun j => (P.getD j pfd).1, fun j => match (P.getD j pfd).2.1 with | .slice a _ _ => a | _ => none, fun j => match (P.getD j pfd).2.1 with | .slice _ a _ => a | _ => 0, fun j => match (P.getD j pfd).2.1 with | .slice _ _ a => a | _ => 0, fun j hj => by
      obtain ⟨a, c, e⟩ := (HG.out.r _ (mem_getD (show j < P.length by have := HN.out; omega) pfd)).form
      dsimp only
      rw [e]
      exact Prod.ext rfl (Prod.ext e rfl)⟩
  have HF : Hid (∀ j, j < n → P.getD j pfd = (F1 j, Value.slice (FA j) (FN j) (FC j), (P.getD j pfd).2.2)) := hF
  clear hF
  obtain ⟨WD, hWD⟩ : ∃ WD, W1.drew = WD := ⟨_, rfl⟩
  have BD : Hid (Below W1.heap.size W1 WD) := by rw [← hWD]; exact Below.drew (Below.refl _ _)
  have HSS : Hid (∀ W, Below W1.heap.size W1 W → W.cell? ⟨gb, 2, none⟩ = some (.slice (some ⟨g, o, none⟩) n c2) ∧ W.cell? ⟨sb, 1, none⟩ = some (.int .i64 sp) ∧ ∀ j, j < n → W.cell? ⟨g, o + j * 2, none⟩ = some (.int .i64 (F1 j)) ∧ W.cell? ⟨g, o + j * 2 + 1, none⟩ = some (.slice (FA j) (FN j) (FC j))) := fun W hW => ⟨below_cell hW (rcell HX.out 2 _ rfl), below_cell hW (rcell HY.out 1 _ rfl), fun j hj => by have h := HPR2.out j hj W (below_trans HB1.out hW); rw [HF.out j hj] at h; exact h⟩
  go_cut [8] from 28 to 37 (fun v8 wx => ∃ pb j : Nat, v8 = .pointer (some ⟨pb, 0, none⟩) ∧ Hid (j < n) ∧ Hid (wx.heap[pb]? = some (.cells #[.int .i64 (F1 j), .slice (FA j) (FN j) (FC j)] 53 (0, 0))) ∧ Hid (Below W1.heap.size W1 wx))
  case first =>
    refine wp_region_noPanic ?_
    refine wp_region_held_drew (S := fun W => W.cell? ⟨gb, 2, none⟩ = some (.slice (some ⟨g, o, none⟩) n c2) ∧ W.cell? ⟨sb, 1, none⟩ = some (.int .i64 sp) ∧ ∀ j, j < n → W.cell? ⟨g, o + j * 2, none⟩ = some (.int .i64 (F1 j)) ∧ W.cell? ⟨g, o + j * 2 + 1, none⟩ = some (.slice (FA j) (FN j) (FC j))) (by kernel_rfl) (by rw [hWD]; exact HSS.out _ BD.out) (fun hHeld => ?_)
    rw [hWD] at hHeld ⊢
    clear hWD
    refine wpAnyH_take (i := 0) (oi := { dst := _, op := _, type := _, pos := _, after := _, guard := _ }) (v := ?_) rfl (by kernel_rfl) (by kernel_rfl) (by kernel_rfl) (fun _ _ _ h => h) (Or.inl ⟨by rfl, ?_⟩) (by assumption) ?_
    rotate_left
    · intro W hSw
      (try dsimp only at hSw)
      go_simp
      (try with_reducible rfl)
    try simp only [Act.put, List.setIfInBounds_toArray, List.set_cons_zero, List.set_cons_succ]
    refine wpAnyH_take (i := 1) (oi := { dst := _, op := _, type := _, pos := _, after := _, guard := _ }) (v := ?_) rfl (by kernel_rfl) (by kernel_rfl) (by kernel_rfl) (fun _ _ _ h => h) (Or.inl ⟨by rfl, ?_⟩) (by assumption) ?_
    rotate_left
    · intro W hSw
      (try dsimp only at hSw)
      go_simp
      (try with_reducible rfl)
    try simp only [Act.put, List.setIfInBounds_toArray, List.set_cons_zero, List.set_cons_succ]
    refine wpAnyH_take (i := 2) (oi := { dst := _, op := _, type := _, pos := _, after := _, guard := _ }) (v := ?_) rfl (by kernel_rfl) (by kernel_rfl) (by kernel_rfl) (fun _ _ _ h => h) (Or.inl ⟨by rfl, ?_⟩) (by assumption) ?_
    rotate_left
    · intro W hSw
      (try dsimp only at hSw)
      go_simp
      (try with_reducible rfl)
    try simp only [Act.put, List.setIfInBounds_toArray, List.set_cons_zero, List.set_cons_succ]
    refine wpAnyH_take (i := 3) (oi := { dst := _, op := _, type := _, pos := _, after := _, guard := _ }) (v := ?_) rfl (by kernel_rfl) (by kernel_rfl) (by kernel_rfl) (fun _ _ _ h => h) (Or.inl ⟨by rfl, ?_⟩) (by assumption) ?_
    rotate_left
    · intro W hSw
      (try dsimp only at hSw)
      go_simp
      (try with_reducible rfl)
    try simp only [Act.put, List.setIfInBounds_toArray, List.set_cons_zero, List.set_cons_succ]
    refine wpAnyH_take (i := 4) (oi := { dst := _, op := _, type := _, pos := _, after := _, guard := _ }) (v := ?_) rfl (by kernel_rfl) (by kernel_rfl) (by kernel_rfl) (fun _ _ _ h => h) (Or.inl ⟨by rfl, ?_⟩) (by assumption) ?_
    rotate_left
    · intro W hSw
      (try dsimp only at hSw)
      go_simp
      (try with_reducible rfl)
    try simp only [Act.put, List.setIfInBounds_toArray, List.set_cons_zero, List.set_cons_succ]
    refine wpAnyH_take (i := 5) (oi := { dst := _, op := _, type := _, pos := _, after := _, guard := _ }) (v := ?_) rfl (by kernel_rfl) (by kernel_rfl) (by kernel_rfl) (fun _ _ _ h => h) (Or.inl ⟨by rfl, ?_⟩) (by assumption) ?_
    rotate_left
    · intro W hSw
      (try dsimp only at hSw)
      go_simp
      (try with_reducible rfl)
    try simp only [Act.put, List.setIfInBounds_toArray, List.set_cons_zero, List.set_cons_succ]
    refine wpAnyH_take (i := 6) (oi := { dst := _, op := _, type := _, pos := _, after := _, guard := _ }) (v := ?_) rfl (by kernel_rfl) (by kernel_rfl) (by kernel_rfl) (fun _ _ _ h => h) (Or.inl ⟨by rfl, ?_⟩) (by assumption) ?_
    rotate_left
    · intro W hSw
      (try dsimp only at hSw)
      go_simp
      (try with_reducible rfl)
    try simp only [Act.put, List.setIfInBounds_toArray, List.set_cons_zero, List.set_cons_succ]
    refine wpAnyH_ready (rs := [7, 10]) (by kernel_rfl) (by simp) ?_
    refine AllReadyH.cons (o := { dst := _, op := _, type := _, pos := _, after := _, guard := _ }) rfl (fun K hK => ?_) (AllReadyH.cons (o := { dst := _, op := _, type := _, pos := _, after := _, guard := _ }) rfl (fun K hK => ?_) (AllReadyH.nil))
    · go_simp
      go_at_call 34
      refine (mod_any _ sp n HA2.out HNB.out.2).mono ?_
      rintro e w3 ⟨j, rfl, hj, hww⟩
      rw [hww]
      clear hww
      have HJ : Hid (j < n) := hj
      have j1 : (j : Int) < (n : Int) := by omega
      have j2 : j < n := hj
      clear hj
      refine hK.out _ _ ?_ (fun hHeld => ?_)
      · exact hHeld
      clear hK K
      try simp only [Act.put, List.setIfInBounds_toArray, List.set_cons_zero, List.set_cons_succ]
      refine wpAnyH_take (i := 8) (oi := { dst := _, op := _, type := _, pos := _, after := _, guard := _ }) (v := ?_) rfl (by kernel_rfl) (by kernel_rfl) (by kernel_rfl) (fun _ _ _ h => h) (Or.inl ⟨by rfl, ?_⟩) (by assumption) ?_
      rotate_left
      · intro W hSw
        (try dsimp only at hSw)
        go_simp
        (try with_reducible rfl)
      try simp only [Act.put, List.setIfInBounds_toArray, List.set_cons_zero, List.set_cons_succ]
      refine wpAnyH_take (i := 9) (oi := { dst := _, op := _, type := _, pos := _, after := _, guard := _ }) (v := ?_) rfl (by kernel_rfl) (by kernel_rfl) (by kernel_rfl) (fun _ _ _ h => h) (Or.inl ⟨by rfl, ?_⟩) (by assumption) ?_
      rotate_left
      · intro W hSw
        (try dsimp only at hSw)
        obtain ⟨kk0, kk1⟩ := hSw.2.2 j HJ.out
        go_simp
        (try with_reducible rfl)
      try simp only [Act.put, List.setIfInBounds_toArray, List.set_cons_zero, List.set_cons_succ]
      refine wpAnyH_ready (rs := [10]) (by kernel_rfl) (by simp) ?_
      refine AllReadyH.cons (o := { dst := _, op := _, type := _, pos := _, after := _, guard := _ }) rfl (fun K hK => ?_) AllReadyH.nil
      go_simp
      have BA : Hid (Below W1.heap.size W1 (WD.alloc (.cells #[.int .i64 0, .slice none 0 0] 53))) := below_trans BD.out (bel_up _ _)
      refine hK.out _ _ ?_ (fun hHeld => ?_)
      · exact HSS.out _ BA.out
      clear hK K
      try simp only [Act.put, List.setIfInBounds_toArray, List.set_cons_zero, List.set_cons_succ]
      have fa0 : (WD.alloc (.cells #[.int .i64 0, .slice none 0 0] 53)).frozen? ⟨WD.heap.size, 0, none⟩ = false := Lib.frozen_of_heap (heap_new _ _) 0
      have fa1 : (WD.alloc (.cells #[.int .i64 0, .slice none 0 0] 53)).frozen? ⟨WD.heap.size, 1, none⟩ = false := Lib.frozen_of_heap (heap_new _ _) 1
      refine wpAnyH_ready (rs := [11]) (by kernel_rfl) (by simp) ?_
      refine AllReadyH.cons (o := { dst := _, op := _, type := _, pos := _, after := _, guard := _ }) rfl (fun K hK => ?_) AllReadyH.nil
      go_simp
      have BN : Hid (Below W1.heap.size W1 (WD.alloc (.cells #[.int .i64 (F1 j), .slice (FA j) (FN j) (FC j)] 53))) := below_trans BD.out (bel_up _ _)
      refine hK.out _ _ ?_ (fun hHeld => ?_)
      · exact HSS.out _ BN.out
      clear hK K
      try simp only [Act.put, List.setIfInBounds_toArray, List.set_cons_zero, List.set_cons_succ]
      refine wpAnyH_done (by kernel_rfl) ?_ _
      refine NoPanic.normal ?_
      clear hHeld
      go_wp2_with fail
      go_meet
      exact ⟨WD.heap.size, j, rfl, HJ, heap_new _ _, BN⟩
    · go_simp
      have BA : Hid (Below W1.heap.size W1 (WD.alloc (.cells #[.int .i64 0, .slice none 0 0] 53))) := below_trans BD.out (bel_up _ _)
      refine hK.out _ _ ?_ (fun hHeld => ?_)
      · exact HSS.out _ BA.out
      clear hK K
      try simp only [Act.put, List.setIfInBounds_toArray, List.set_cons_zero, List.set_cons_succ]
      have fa0 : (WD.alloc (.cells #[.int .i64 0, .slice none 0 0] 53)).frozen? ⟨WD.heap.size, 0, none⟩ = false := Lib.frozen_of_heap (heap_new _ _) 0
      have fa1 : (WD.alloc (.cells #[.int .i64 0, .slice none 0 0] 53)).frozen? ⟨WD.heap.size, 1, none⟩ = false := Lib.frozen_of_heap (heap_new _ _) 1
      refine wpAnyH_ready (rs := [7]) (by kernel_rfl) (by simp) ?_
      refine AllReadyH.cons (o := { dst := _, op := _, type := _, pos := _, after := _, guard := _ }) rfl (fun K hK => ?_) AllReadyH.nil
      go_simp
      go_at_call 34
      refine (mod_any _ sp n HA2.out HNB.out.2).mono ?_
      rintro e w3 ⟨j, rfl, hj, hww⟩
      rw [hww]
      clear hww
      have HJ : Hid (j < n) := hj
      have j1 : (j : Int) < (n : Int) := by omega
      have j2 : j < n := hj
      clear hj
      refine hK.out _ _ ?_ (fun hHeld => ?_)
      · exact hHeld
      clear hK K
      try simp only [Act.put, List.setIfInBounds_toArray, List.set_cons_zero, List.set_cons_succ]
      refine wpAnyH_take (i := 8) (oi := { dst := _, op := _, type := _, pos := _, after := _, guard := _ }) (v := ?_) rfl (by kernel_rfl) (by kernel_rfl) (by kernel_rfl) (fun _ _ _ h => h) (Or.inl ⟨by rfl, ?_⟩) (by assumption) ?_
      rotate_left
      · intro W hSw
        (try dsimp only at hSw)
        go_simp
        (try with_reducible rfl)
      try simp only [Act.put, List.setIfInBounds_toArray, List.set_cons_zero, List.set_cons_succ]
      refine wpAnyH_take (i := 9) (oi := { dst := _, op := _, type := _, pos := _, after := _, guard := _ }) (v := ?_) rfl (by kernel_rfl) (by kernel_rfl) (by kernel_rfl) (fun _ _ _ h => h) (Or.inl ⟨by rfl, ?_⟩) (by assumption) ?_
      rotate_left
      · intro W hSw
        (try dsimp only at hSw)
        obtain ⟨kk0, kk1⟩ := hSw.2.2 j HJ.out
        go_simp
        (try with_reducible rfl)
      try simp only [Act.put, List.setIfInBounds_toArray, List.set_cons_zero, List.set_cons_succ]
      refine wpAnyH_ready (rs := [11]) (by kernel_rfl) (by simp) ?_
      refine AllReadyH.cons (o := { dst := _, op := _, type := _, pos := _, after := _, guard := _ }) rfl (fun K hK => ?_) AllReadyH.nil
      go_simp
      have BN : Hid (Below W1.heap.size W1 (WD.alloc (.cells #[.int .i64 (F1 j), .slice (FA j) (FN j) (FC j)] 53))) := below_trans BD.out (bel_up _ _)
      refine hK.out _ _ ?_ (fun hHeld => ?_)
      · exact HSS.out _ BN.out
      clear hK K
      try simp only [Act.put, List.setIfInBounds_toArray, List.set_cons_zero, List.set_cons_succ]
      refine wpAnyH_done (by kernel_rfl) ?_ _
      refine NoPanic.normal ?_
      clear hHeld
      go_wp2_with fail
      go_meet
      exact ⟨WD.heap.size, j, rfl, HJ, heap_new _ _, BN⟩
  case rest =>
    obtain ⟨pb, j, rfl, HJ, HPB, BX⟩ := hcut
    go_upto_region 5 with fail
    have hjP : j < P.length := by have := HJ.out; have := HN.out; omega
    have HMP : Hid (P.getD j pfd ∈ P) := mem_getD hjP pfd
    have hF := HF.out j HJ.out
    obtain ⟨xl, hxl⟩ : ∃ xl, (P.getD j pfd).2.2 = xl := ⟨_, rfl⟩
    rw [hxl] at hF
    obtain ⟨xs, hxs⟩ : ∃ x, F1 j = x := ⟨_, rfl⟩
    obtain ⟨ax, hax⟩ : ∃ x, FA j = x := ⟨_, rfl⟩
    obtain ⟨cx, hcx⟩ : ∃ x, FC j = x := ⟨_, rfl⟩
    obtain ⟨xn, hxn⟩ : ∃ x, FN j = x := ⟨_, rfl⟩
    rw [hxs, hax, hcx, hxn] at HPB hF
    rw [hF] at HMP
    have HXR : Hid (Rw w (.slice ax xn cx) xl.length (flat rf xl)) := HG.out.r _ HMP.out
    obtain ⟨_, _, e9⟩ := HXR.out.form
    obtain ⟨-, e10, -⟩ := Value.slice.inj e9
    have HXN : Hid (xl.length = xn) := e10.symm
    have hsn := HSN.out.2 _ HMP.out
    dsimp only at hsn
    have HSX : Hid (-1 ≤ xs ∧ xs < 128) := by have := HSN.out.1; show _ ∧ _; omega
    have hrz := HZ.out.r _ HMP.out
    dsimp only at hrz
    have HRZ : Hid (xl.length * 40 + 4096 ≤ 140737488355328) := hrz
    clear hrz hsn hF hxl hxs hax hcx hxn e9 e10 hjP HSS hWD BD
    obtain ⟨gr, og, cap, e0, hc⟩ := HV.out.place (by have := HA1.out; omega)
    obtain ⟨rfl, -, rfl⟩ := Value.slice.inj e0
    have hil : at' < l.length := by have := HNA.out; have := HAT.out; omega
    obtain ⟨q0, -, -⟩ := rf_get l at' hil
    have HBX : Hid (Below w.heap.size w wc) := below_trans HB1.out BX.out
    have k0 := below_cell HBX.out (hc _ _ q0)
    obtain ⟨y, hy⟩ : ∃ y, (l.getD at' rfd).1 = y := ⟨_, rfl⟩
    have HYE : Hid ((l.getD at' rfd).1 = y) := hy
    rw [hy] at k0
    clear e0 hc q0 hil hy
    have HDN : Hid (∀ W, Below wc.heap.size wc W → ∃ u l', (Value.slice (some ⟨gr, og, none⟩) na ca) = u ∧ Rw W u l'.length (flat rf l') ∧ Rpl nT P l l' ∧ l'.length * 40 + 4096 ≤ 140737488355328 ∧ Below w.heap.size w W) := fun W hW => ⟨_, l, rfl, by rw [HNA.out]; exact HV.out.up (below_trans HBX.out hW), Or.inl rfl, by have := HNA.out; have := HL.out; omega, below_trans HBX.out hW⟩
    obtain ⟨WE, hWE⟩ : ∃ WE, wc.drew = WE := ⟨_, rfl⟩
    have BE : Hid (Below wc.heap.size wc WE) := by rw [← hWE]; exact Below.drew (Below.refl _ _)
    have KE : Hid (WE.cell? ⟨pb, 0, none⟩ = some (.int .i64 xs) ∧ WE.cell? ⟨pb, 1, none⟩ = some (.slice ax xn cx) ∧ WE.cell? ⟨gr, og + at' * 3, none⟩ = some (.int .i64 y) ∧ WE.cell? ⟨gb, 0, none⟩ = some (.slice a0 nT c0)) := ⟨below_cell BE.out (rcell HPB.out 0 _ rfl), below_cell BE.out (rcell HPB.out 1 _ rfl), below_cell BE.out k0, below_cell (below_trans BX.out BE.out) (rcell HX.out 0 _ rfl)⟩
    have t1 : (at' : Int) < (na : Int) := by have := HAT.out; omega
    have t2 : at' < na := HAT.out
    have hadd : IntKind.i64.wrap ((nT : Int) + xs) = (nT : Int) + xs := by have := HSN.out.1; have := HSX.out; rw [IntKind.wrap_i64]; omega
    have hlen : IntKind.i64.wrap ((na : Int) + (xn : Int)) = (na : Int) + (xn : Int) := by have := HL.out; have := HRZ.out; have := HXN.out; rw [IntKind.wrap_i64]; omega
    clear k0
    by_cases hneg : xs < 0
    · have d1 : decide (xs < 0) = true := decide_eq_true hneg
      clear hneg
      refine wp_region_noPanic ?_
      refine wp_region_held_drew (S := fun W => W.cell? ⟨pb, 0, none⟩ = some (.int .i64 xs) ∧ W.cell? ⟨pb, 1, none⟩ = some (.slice ax xn cx) ∧ W.cell? ⟨gr, og + at' * 3, none⟩ = some (.int .i64 y) ∧ W.cell? ⟨gb, 0, none⟩ = some (.slice a0 nT c0)) (by kernel_rfl) (by rw [hWE]; exact KE.out) (fun hHeld => ?_)
      rw [hWE] at hHeld ⊢
      clear hWE
      refine wpAnyH_take (i := 0) (oi := { dst := _, op := _, type := _, pos := _, after := _, guard := _ }) (v := ?_) rfl (by kernel_rfl) (by kernel_rfl) (by kernel_rfl) (fun _ _ _ h => h) (Or.inl ⟨by rfl, ?_⟩) (by assumption) ?_
      rotate_left
      · intro W hSw
        (try dsimp only at hSw)
        go_simp
        (try with_reducible rfl)
      try simp only [Act.put, List.setIfInBounds_toArray, List.set_cons_zero, List.set_cons_succ]
      refine wpAnyH_take (i := 1) (oi := { dst := _, op := _, type := _, pos := _, after := _, guard := _ }) (v := ?_) rfl (by kernel_rfl) (by kernel_rfl) (by kernel_rfl) (fun _ _ _ h => h) (Or.inl ⟨by rfl, ?_⟩) (by assumption) ?_
      rotate_left
      · intro W hSw
        (try dsimp only at hSw)
        go_simp
        (try with_reducible rfl)
      try simp only [Act.put, List.setIfInBounds_toArray, List.set_cons_zero, List.set_cons_succ]
      refine wpAnyH_take (i := 2) (oi := { dst := _, op := _, type := _, pos := _, after := _, guard := _ }) (v := ?_) rfl (by kernel_rfl) (by kernel_rfl) (by kernel_rfl) (fun _ _ _ h => h) (Or.inl ⟨by rfl, ?_⟩) (by assumption) ?_
      rotate_left
      · intro W hSw
        (try dsimp only at hSw)
        go_simp
        (try with_reducible rfl)
      try simp only [Act.put, List.setIfInBounds_toArray, List.set_cons_zero, List.set_cons_succ]
      refine wpAnyH_take (i := 3) (oi := { dst := _, op := _, type := _, pos := _, after := _, guard := _ }) (v := ?_) rfl (by kernel_rfl) (by kernel_rfl) (by kernel_rfl) (fun _ _ _ h => h) (Or.inl ⟨by rfl, ?_⟩) (by assumption) ?_
      rotate_left
      · intro W hSw
        (try dsimp only at hSw)
        go_simp
        (try with_reducible rfl)
      try simp only [Act.put, List.setIfInBounds_toArray, List.set_cons_zero, List.set_cons_succ]
      refine wpAnyH_take (i := 4) (oi := { dst := _, op := _, type := _, pos := _, after := _, guard := _ }) rfl (by kernel_rfl) (by kernel_rfl) (by kernel_rfl) (fun _ _ _ h => h) (Or.inr ⟨by rfl, rfl⟩) (by assumption) ?_
      try simp only [Act.put, List.setIfInBounds_toArray, List.set_cons_zero, List.set_cons_succ]
      refine wpAnyH_take (i := 5) (oi := { dst := _, op := _, type := _, pos := _, after := _, guard := _ }) rfl (by kernel_rfl) (by kernel_rfl) (by kernel_rfl) (fun _ _ _ h => h) (Or.inr ⟨by rfl, rfl⟩) (by assumption) ?_
      try simp only [Act.put, List.setIfInBounds_toArray, List.set_cons_zero, List.set_cons_succ]
      refine wpAnyH_take (i := 6) (oi := { dst := _, op := _, type := _, pos := _, after := _, guard := _ }) rfl (by kernel_rfl) (by kernel_rfl) (by kernel_rfl) (fun _ _ _ h => h) (Or.inr ⟨by rfl, rfl⟩) (by assumption) ?_
      try simp only [Act.put, List.setIfInBounds_toArray, List.set_cons_zero, List.set_cons_succ]
      refine wpAnyH_take (i := 7) (oi := { dst := _, op := _, type := _, pos := _, after := _, guard := _ }) rfl (by kernel_rfl) (by kernel_rfl) (by kernel_rfl) (fun _ _ _ h => h) (Or.inr ⟨by rfl, rfl⟩) (by assumption) ?_
      try simp only [Act.put, List.setIfInBounds_toArray, List.set_cons_zero, List.set_cons_succ]
      refine wpAnyH_take (i := 8) (oi := { dst := _, op := _, type := _, pos := _, after := _, guard := _ }) rfl (by kernel_rfl) (by kernel_rfl) (by kernel_rfl) (fun _ _ _ h => h) (Or.inr ⟨by rfl, rfl⟩) (by assumption) ?_
      try simp only [Act.put, List.setIfInBounds_toArray, List.set_cons_zero, List.set_cons_succ]
      refine wpAnyH_take (i := 9) (oi := { dst := _, op := _, type := _, pos := _, after := _, guard := _ }) rfl (by kernel_rfl) (by kernel_rfl) (by kernel_rfl) (fun _ _ _ h => h) (Or.inr ⟨by rfl, rfl⟩) (by assumption) ?_
      try simp only [Act.put, List.setIfInBounds_toArray, List.set_cons_zero, List.set_cons_succ]
      refine wpAnyH_take (i := 10) (oi := { dst := _, op := _, type := _, pos := _, after := _, guard := _ }) rfl (by kernel_rfl) (by kernel_rfl) (by kernel_rfl) (fun _ _ _ h => h) (Or.inr ⟨by rfl, rfl⟩) (by assumption) ?_
      try simp only [Act.put, List.setIfInBounds_toArray, List.set_cons_zero, List.set_cons_succ]
      refine wpAnyH_take (i := 11) (oi := { dst := _, op := _, type := _, pos := _, after := _, guard := _ }) rfl (by kernel_rfl) (by kernel_rfl) (by kernel_rfl) (fun _ _ _ h => h) (Or.inr ⟨by rfl, rfl⟩) (by assumption) ?_
      try simp only [Act.put, List.setIfInBounds_toArray, List.set_cons_zero, List.set_cons_succ]
      refine wpAnyH_take (i := 12) (oi := { dst := _, op := _, type := _, pos := _, after := _, guard := _ }) rfl (by kernel_rfl) (by kernel_rfl) (by kernel_rfl) (fun _ _ _ h => h) (Or.inr ⟨by rfl, rfl⟩) (by assumption) ?_
      try simp only [Act.put, List.setIfInBounds_toArray, List.set_cons_zero, List.set_cons_succ]
      refine wpAnyH_take (i := 13) (oi := { dst := _, op := _, type := _, pos := _, after := _, guard := _ }) rfl (by kernel_rfl) (by kernel_rfl) (by kernel_rfl) (fun _ _ _ h => h) (Or.inr ⟨by rfl, rfl⟩) (by assumption) ?_
      try simp only [Act.put, List.setIfInBounds_toArray, List.set_cons_zero, List.set_cons_succ]
      refine wpAnyH_take (i := 14) (oi := { dst := _, op := _, type := _, pos := _, after := _, guard := _ }) rfl (by kernel_rfl) (by kernel_rfl) (by kernel_rfl) (fun _ _ _ h => h) (Or.inr ⟨by rfl, rfl⟩) (by assumption) ?_
      try simp only [Act.put, List.setIfInBounds_toArray, List.set_cons_zero, List.set_cons_succ]
      refine wpAnyH_take (i := 15) (oi := { dst := _, op := _, type := _, pos := _, after := _, guard := _ }) rfl (by kernel_rfl) (by kernel_rfl) (by kernel_rfl) (fun _ _ _ h => h) (Or.inr ⟨by rfl, rfl⟩) (by assumption) ?_
      try simp only [Act.put, List.setIfInBounds_toArray, List.set_cons_zero, List.set_cons_succ]
      refine wpAnyH_take (i := 16) (oi := { dst := _, op := _, type := _, pos := _, after := _, guard := _ }) (v := ?_) rfl (by kernel_rfl) (by kernel_rfl) (by kernel_rfl) (fun _ _ _ h => h) (Or.inl ⟨by rfl, ?_⟩) (by assumption) ?_
      rotate_left
      · intro W hSw
        (try dsimp only at hSw)
        go_simp
        (try with_reducible rfl)
      try simp only [Act.put, List.setIfInBounds_toArray, List.set_cons_zero, List.set_cons_succ]
      refine wpAnyH_take (i := 17) (oi := { dst := _, op := _, type := _, pos := _, after := _, guard := _ }) (v := ?_) rfl (by kernel_rfl) (by kernel_rfl) (by kernel_rfl) (fun _ _ _ h => h) (Or.inl ⟨by rfl, ?_⟩) (by assumption) ?_
      rotate_left
      · intro W hSw
        (try dsimp only at hSw)
        go_simp
        (try with_reducible rfl)
      try simp only [Act.put, List.setIfInBounds_toArray, List.set_cons_zero, List.set_cons_succ]
      refine wpAnyH_take (i := 18) (oi := { dst := _, op := _, type := _, pos := _, after := _, guard := _ }) rfl (by kernel_rfl) (by kernel_rfl) (by kernel_rfl) (fun _ _ _ h => h) (Or.inr ⟨by rfl, rfl⟩) (by assumption) ?_
      try simp only [Act.put, List.setIfInBounds_toArray, List.set_cons_zero, List.set_cons_succ]
      refine wpAnyH_take (i := 19) (oi := { dst := _, op := _, type := _, pos := _, after := _, guard := _ }) rfl (by kernel_rfl) (by kernel_rfl) (by kernel_rfl) (fun _ _ _ h => h) (Or.inr ⟨by rfl, rfl⟩) (by assumption) ?_
      try simp only [Act.put, List.setIfInBounds_toArray, List.set_cons_zero, List.set_cons_succ]
      refine wpAnyH_take (i := 20) (oi := { dst := _, op := _, type := _, pos := _, after := _, guard := _ }) rfl (by kernel_rfl) (by kernel_rfl) (by kernel_rfl) (fun _ _ _ h => h) (Or.inr ⟨by rfl, rfl⟩) (by assumption) ?_
      try simp only [Act.put, List.setIfInBounds_toArray, List.set_cons_zero, List.set_cons_succ]
      refine wpAnyH_take (i := 21) (oi := { dst := _, op := _, type := _, pos := _, after := _, guard := _ }) rfl (by kernel_rfl) (by kernel_rfl) (by kernel_rfl) (fun _ _ _ h => h) (Or.inr ⟨by rfl, rfl⟩) (by assumption) ?_
      try simp only [Act.put, List.setIfInBounds_toArray, List.set_cons_zero, List.set_cons_succ]
      refine wpAnyH_take (i := 22) (oi := { dst := _, op := _, type := _, pos := _, after := _, guard := _ }) rfl (by kernel_rfl) (by kernel_rfl) (by kernel_rfl) (fun _ _ _ h => h) (Or.inr ⟨by rfl, rfl⟩) (by assumption) ?_
      try simp only [Act.put, List.setIfInBounds_toArray, List.set_cons_zero, List.set_cons_succ]
      refine wpAnyH_take (i := 23) (oi := { dst := _, op := _, type := _, pos := _, after := _, guard := _ }) rfl (by kernel_rfl) (by kernel_rfl) (by kernel_rfl) (fun _ _ _ h => h) (Or.inr ⟨by rfl, rfl⟩) (by assumption) ?_
      try simp only [Act.put, List.setIfInBounds_toArray, List.set_cons_zero, List.set_cons_succ]
      refine wpAnyH_take (i := 24) (oi := { dst := _, op := _, type := _, pos := _, after := _, guard := _ }) rfl (by kernel_rfl) (by kernel_rfl) (by kernel_rfl) (fun _ _ _ h => h) (Or.inr ⟨by rfl, rfl⟩) (by assumption) ?_
      try simp only [Act.put, List.setIfInBounds_toArray, List.set_cons_zero, List.set_cons_succ]
      refine wpAnyH_take (i := 25) (oi := { dst := _, op := _, type := _, pos := _, after := _, guard := _ }) (v := ?_) rfl (by kernel_rfl) (by kernel_rfl) (by kernel_rfl) (fun _ _ _ h => h) (Or.inl ⟨by rfl, ?_⟩) (by assumption) ?_
      rotate_left
      · intro W hSw
        (try dsimp only at hSw)
        go_simp
        (try with_reducible rfl)
      try simp only [Act.put, List.setIfInBounds_toArray, List.set_cons_zero, List.set_cons_succ]
      refine wpAnyH_done (by kernel_rfl) ?_ _
      refine NoPanic.normal ?_
      clear hHeld
      go_wp2_with fail
      go_ret
      obtain ⟨u, l', hu, h⟩ := HDN.out WE BE.out
      exact ⟨u, l', by rw [← hu]; rfl, h⟩
    have d1 : decide (xs < 0) = false := decide_eq_false hneg
    have HXS : Hid (0 ≤ xs) := by show 0 ≤ xs; omega
    clear hneg
    by_cases heq : y = (nT : Int) + xs
    rotate_left
    · have d2 : (y == (nT : Int) + xs) = false := by rw [beq_eq_false_iff_ne]; exact heq
      have d3 : decide (y = (nT : Int) + xs) = false := decide_eq_false heq
      have d4 : (y != (nT : Int) + xs) = true := by rw [bne_iff_ne]; exact heq
      clear heq
      refine wp_region_noPanic ?_
      refine wp_region_held_drew (S := fun W => W.cell? ⟨pb, 0, none⟩ = some (.int .i64 xs) ∧ W.cell? ⟨pb, 1, none⟩ = some (.slice ax xn cx) ∧ W.cell? ⟨gr, og + at' * 3, none⟩ = some (.int .i64 y) ∧ W.cell? ⟨gb, 0, none⟩ = some (.slice a0 nT c0)) (by kernel_rfl) (by rw [hWE]; exact KE.out) (fun hHeld => ?_)
      rw [hWE] at hHeld ⊢
      clear hWE
      refine wpAnyH_take (i := 0) (oi := { dst := _, op := _, type := _, pos := _, after := _, guard := _ }) (v := ?_) rfl (by kernel_rfl) (by kernel_rfl) (by kernel_rfl) (fun _ _ _ h => h) (Or.inl ⟨by rfl, ?_⟩) (by assumption) ?_
      rotate_left
      · intro W hSw
        (try dsimp only at hSw)
        go_simp
        (try with_reducible rfl)
      try simp only [Act.put, List.setIfInBounds_toArray, List.set_cons_zero, List.set_cons_succ]
      refine wpAnyH_take (i := 1) (oi := { dst := _, op := _, type := _, pos := _, after := _, guard := _ }) (v := ?_) rfl (by kernel_rfl) (by kernel_rfl) (by kernel_rfl) (fun _ _ _ h => h) (Or.inl ⟨by rfl, ?_⟩) (by assumption) ?_
      rotate_left
      · intro W hSw
        (try dsimp only at hSw)
        go_simp
        (try with_reducible rfl)
      try simp only [Act.put, List.setIfInBounds_toArray, List.set_cons_zero, List.set_cons_succ]
      refine wpAnyH_take (i := 2) (oi := { dst := _, op := _, type := _, pos := _, after := _, guard := _ }) (v := ?_) rfl (by kernel_rfl) (by kernel_rfl) (by kernel_rfl) (fun _ _ _ h => h) (Or.inl ⟨by rfl, ?_⟩) (by assumption) ?_
      rotate_left
      · intro W hSw
        (try dsimp only at hSw)
        go_simp
        (try with_reducible rfl)
      try simp only [Act.put, List.setIfInBounds_toArray, List.set_cons_zero, List.set_cons_succ]
      refine wpAnyH_take (i := 3) (oi := { dst := _, op := _, type := _, pos := _, after := _, guard := _ }) (v := ?_) rfl (by kernel_rfl) (by kernel_rfl) (by kernel_rfl) (fun _ _ _ h => h) (Or.inl ⟨by rfl, ?_⟩) (by assumption) ?_
      rotate_left
      · intro W hSw
        (try dsimp only at hSw)
        go_simp
        (try with_reducible rfl)
      try simp only [Act.put, List.setIfInBounds_toArray, List.set_cons_zero, List.set_cons_succ]
      refine wpAnyH_take (i := 4) (oi := { dst := _, op := _, type := _, pos := _, after := _, guard := _ }) (v := ?_) rfl (by kernel_rfl) (by kernel_rfl) (by kernel_rfl) (fun _ _ _ h => h) (Or.inl ⟨by rfl, ?_⟩) (by assumption) ?_
      rotate_left
      · intro W hSw
        (try dsimp only at hSw)
        go_simp
        (try with_reducible rfl)
      try simp only [Act.put, List.setIfInBounds_toArray, List.set_cons_zero, List.set_cons_succ]
      refine wpAnyH_take (i := 5) (oi := { dst := _, op := _, type := _, pos := _, after := _, guard := _ }) (v := ?_) rfl (by kernel_rfl) (by kernel_rfl) (by kernel_rfl) (fun _ _ _ h => h) (Or.inl ⟨by rfl, ?_⟩) (by assumption) ?_
      rotate_left
      · intro W hSw
        (try dsimp only at hSw)
        go_simp
        (try with_reducible rfl)
      try simp only [Act.put, List.setIfInBounds_toArray, List.set_cons_zero, List.set_cons_succ]
      refine wpAnyH_take (i := 6) (oi := { dst := _, op := _, type := _, pos := _, after := _, guard := _ }) (v := ?_) rfl (by kernel_rfl) (by kernel_rfl) (by kernel_rfl) (fun _ _ _ h => h) (Or.inl ⟨by rfl, ?_⟩) (by assumption) ?_
      rotate_left
      · intro W hSw
        (try dsimp only at hSw)
        go_simp
        (try with_reducible rfl)
      try simp only [Act.put, List.setIfInBounds_toArray, List.set_cons_zero, List.set_cons_succ]
      refine wpAnyH_take (i := 7) (oi := { dst := _, op := _, type := _, pos := _, after := _, guard := _ }) (v := ?_) rfl (by kernel_rfl) (by kernel_rfl) (by kernel_rfl) (fun _ _ _ h => h) (Or.inl ⟨by rfl, ?_⟩) (by assumption) ?_
      rotate_left
      · intro W hSw
        (try dsimp only at hSw)
        go_simp
        (try with_reducible rfl)
      try simp only [Act.put, List.setIfInBounds_toArray, List.set_cons_zero, List.set_cons_succ]
      refine wpAnyH_take (i := 8) (oi := { dst := _, op := _, type := _, pos := _, after := _, guard := _ }) (v := ?_) rfl (by kernel_rfl) (by kernel_rfl) (by kernel_rfl) (fun _ _ _ h => h) (Or.inl ⟨by rfl, ?_⟩) (by assumption) ?_
      rotate_left
      · intro W hSw
        (try dsimp only at hSw)
        go_simp
        (try with_reducible rfl)
      try simp only [Act.put, List.setIfInBounds_toArray, List.set_cons_zero, List.set_cons_succ]
      refine wpAnyH_take (i := 9) (oi := { dst := _, op := _, type := _, pos := _, after := _, guard := _ }) (v := ?_) rfl (by kernel_rfl) (by kernel_rfl) (by kernel_rfl) (fun _ _ _ h => h) (Or.inl ⟨by rfl, ?_⟩) (by assumption) ?_
      rotate_left
      · intro W hSw
        (try dsimp only at hSw)
        go_simp
        (try with_reducible rfl)
      try simp only [Act.put, List.setIfInBounds_toArray, List.set_cons_zero, List.set_cons_succ]
      refine wpAnyH_take (i := 10) (oi := { dst := _, op := _, type := _, pos := _, after := _, guard := _ }) (v := ?_) rfl (by kernel_rfl) (by kernel_rfl) (by kernel_rfl) (fun _ _ _ h => h) (Or.inl ⟨by rfl, ?_⟩) (by assumption) ?_
      rotate_left
      · intro W hSw
        (try dsimp only at hSw)
        go_simp
        (try with_reducible rfl)
      try simp only [Act.put, List.setIfInBounds_toArray, List.set_cons_zero, List.set_cons_succ]
      refine wpAnyH_take (i := 11) (oi := { dst := _, op := _, type := _, pos := _, after := _, guard := _ }) (v := ?_) rfl (by kernel_rfl) (by kernel_rfl) (by kernel_rfl) (fun _ _ _ h => h) (Or.inl ⟨by rfl, ?_⟩) (by assumption) ?_
      rotate_left
      · intro W hSw
        (try dsimp only at hSw)
        go_simp
        (try with_reducible rfl)
      try simp only [Act.put, List.setIfInBounds_toArray, List.set_cons_zero, List.set_cons_succ]
      refine wpAnyH_take (i := 12) (oi := { dst := _, op := _, type := _, pos := _, after := _, guard := _ }) (v := ?_) rfl (by kernel_rfl) (by kernel_rfl) (by kernel_rfl) (fun _ _ _ h => h) (Or.inl ⟨by rfl, ?_⟩) (by assumption) ?_
      rotate_left
      · intro W hSw
        (try dsimp only at hSw)
        go_simp
        (try with_reducible rfl)
      try simp only [Act.put, List.setIfInBounds_toArray, List.set_cons_zero, List.set_cons_succ]
      refine wpAnyH_take (i := 13) (oi := { dst := _, op := _, type := _, pos := _, after := _, guard := _ }) (v := ?_) rfl (by kernel_rfl) (by kernel_rfl) (by kernel_rfl) (fun _ _ _ h => h) (Or.inl ⟨by rfl, ?_⟩) (by assumption) ?_
      rotate_left
      · intro W hSw
        (try dsimp only at hSw)
        go_simp
        (try with_reducible rfl)
      try simp only [Act.put, List.setIfInBounds_toArray, List.set_cons_zero, List.set_cons_succ]
      refine wpAnyH_take (i := 14) (oi := { dst := _, op := _, type := _, pos := _, after := _, guard := _ }) (v := ?_) rfl (by kernel_rfl) (by kernel_rfl) (by kernel_rfl) (fun _ _ _ h => h) (Or.inl ⟨by rfl, ?_⟩) (by assumption) ?_
      rotate_left
      · intro W hSw
        (try dsimp only at hSw)
        go_simp
        (try with_reducible rfl)
      try simp only [Act.put, List.setIfInBounds_toArray, List.set_cons_zero, List.set_cons_succ]
      refine wpAnyH_take (i := 15) (oi := { dst := _, op := _, type := _, pos := _, after := _, guard := _ }) (v := ?_) rfl (by kernel_rfl) (by kernel_rfl) (by kernel_rfl) (fun _ _ _ h => h) (Or.inl ⟨by rfl, ?_⟩) (by assumption) ?_
      rotate_left
      · intro W hSw
        (try dsimp only at hSw)
        go_simp
        (try with_reducible rfl)
      try simp only [Act.put, List.setIfInBounds_toArray, List.set_cons_zero, List.set_cons_succ]
      refine wpAnyH_take (i := 16) (oi := { dst := _, op := _, type := _, pos := _, after := _, guard := _ }) (v := ?_) rfl (by kernel_rfl) (by kernel_rfl) (by kernel_rfl) (fun _ _ _ h => h) (Or.inl ⟨by rfl, ?_⟩) (by assumption) ?_
      rotate_left
      · intro W hSw
        (try dsimp only at hSw)
        go_simp
        (try with_reducible rfl)
      try simp only [Act.put, List.setIfInBounds_toArray, List.set_cons_zero, List.set_cons_succ]
      refine wpAnyH_take (i := 17) (oi := { dst := _, op := _, type := _, pos := _, after := _, guard := _ }) (v := ?_) rfl (by kernel_rfl) (by kernel_rfl) (by kernel_rfl) (fun _ _ _ h => h) (Or.inl ⟨by rfl, ?_⟩) (by assumption) ?_
      rotate_left
      · intro W hSw
        (try dsimp only at hSw)
        go_simp
        (try with_reducible rfl)
      try simp only [Act.put, List.setIfInBounds_toArray, List.set_cons_zero, List.set_cons_succ]
      refine wpAnyH_take (i := 18) (oi := { dst := _, op := _, type := _, pos := _, after := _, guard := _ }) rfl (by kernel_rfl) (by kernel_rfl) (by kernel_rfl) (fun _ _ _ h => h) (Or.inr ⟨by rfl, rfl⟩) (by assumption) ?_
      try simp only [Act.put, List.setIfInBounds_toArray, List.set_cons_zero, List.set_cons_succ]
      refine wpAnyH_take (i := 19) (oi := { dst := _, op := _, type := _, pos := _, after := _, guard := _ }) rfl (by kernel_rfl) (by kernel_rfl) (by kernel_rfl) (fun _ _ _ h => h) (Or.inr ⟨by rfl, rfl⟩) (by assumption) ?_
      try simp only [Act.put, List.setIfInBounds_toArray, List.set_cons_zero, List.set_cons_succ]
      refine wpAnyH_take (i := 20) (oi := { dst := _, op := _, type := _, pos := _, after := _, guard := _ }) rfl (by kernel_rfl) (by kernel_rfl) (by kernel_rfl) (fun _ _ _ h => h) (Or.inr ⟨by rfl, rfl⟩) (by assumption) ?_
      try simp only [Act.put, List.setIfInBounds_toArray, List.set_cons_zero, List.set_cons_succ]
      refine wpAnyH_take (i := 21) (oi := { dst := _, op := _, type := _, pos := _, after := _, guard := _ }) rfl (by kernel_rfl) (by kernel_rfl) (by kernel_rfl) (fun _ _ _ h => h) (Or.inr ⟨by rfl, rfl⟩) (by assumption) ?_
      try simp only [Act.put, List.setIfInBounds_toArray, List.set_cons_zero, List.set_cons_succ]
      refine wpAnyH_take (i := 22) (oi := { dst := _, op := _, type := _, pos := _, after := _, guard := _ }) rfl (by kernel_rfl) (by kernel_rfl) (by kernel_rfl) (fun _ _ _ h => h) (Or.inr ⟨by rfl, rfl⟩) (by assumption) ?_
      try simp only [Act.put, List.setIfInBounds_toArray, List.set_cons_zero, List.set_cons_succ]
      refine wpAnyH_take (i := 23) (oi := { dst := _, op := _, type := _, pos := _, after := _, guard := _ }) rfl (by kernel_rfl) (by kernel_rfl) (by kernel_rfl) (fun _ _ _ h => h) (Or.inr ⟨by rfl, rfl⟩) (by assumption) ?_
      try simp only [Act.put, List.setIfInBounds_toArray, List.set_cons_zero, List.set_cons_succ]
      refine wpAnyH_take (i := 24) (oi := { dst := _, op := _, type := _, pos := _, after := _, guard := _ }) rfl (by kernel_rfl) (by kernel_rfl) (by kernel_rfl) (fun _ _ _ h => h) (Or.inr ⟨by rfl, rfl⟩) (by assumption) ?_
      try simp only [Act.put, List.setIfInBounds_toArray, List.set_cons_zero, List.set_cons_succ]
      refine wpAnyH_take (i := 25) (oi := { dst := _, op := _, type := _, pos := _, after := _, guard := _ }) (v := ?_) rfl (by kernel_rfl) (by kernel_rfl) (by kernel_rfl) (fun _ _ _ h => h) (Or.inl ⟨by rfl, ?_⟩) (by assumption) ?_
      rotate_left
      · intro W hSw
        (try dsimp only at hSw)
        go_simp
        (try with_reducible rfl)
      try simp only [Act.put, List.setIfInBounds_toArray, List.set_cons_zero, List.set_cons_succ]
      refine wpAnyH_done (by kernel_rfl) ?_ _
      refine NoPanic.normal ?_
      clear hHeld
      go_wp2_with fail
      go_ret
      obtain ⟨u, l', hu, h⟩ := HDN.out WE BE.out
      exact ⟨u, l', by rw [← hu]; rfl, h⟩
    subst heq
    by_cases hbig : 65536 < na + xn
    · have d2 : decide ((65536 : Int) < (na : Int) + (xn : Int)) = true := decide_eq_true (by omega)
      clear hbig
      refine wp_region_noPanic ?_
      refine wp_region_held_drew (S := fun W => W.cell? ⟨pb, 0, none⟩ = some (.int .i64 xs) ∧ W.cell? ⟨pb, 1, none⟩ = some (.slice ax xn cx) ∧ W.cell? ⟨gr, og + at' * 3, none⟩ = some (.int .i64 ((nT : Int) + xs)) ∧ W.cell? ⟨gb, 0, none⟩ = some (.slice a0 nT c0)) (by kernel_rfl) (by rw [hWE]; exact KE.out) (fun hHeld => ?_)
      rw [hWE] at hHeld ⊢
      clear hWE
      refine wpAnyH_take (i := 0) (oi := { dst := _, op := _, type := _, pos := _, after := _, guard := _ }) (v := ?_) rfl (by kernel_rfl) (by kernel_rfl) (by kernel_rfl) (fun _ _ _ h => h) (Or.inl ⟨by rfl, ?_⟩) (by assumption) ?_
      rotate_left
      · intro W hSw
        (try dsimp only at hSw)
        go_simp
        (try with_reducible rfl)
      try simp only [Act.put, List.setIfInBounds_toArray, List.set_cons_zero, List.set_cons_succ]
      refine wpAnyH_take (i := 1) (oi := { dst := _, op := _, type := _, pos := _, after := _, guard := _ }) (v := ?_) rfl (by kernel_rfl) (by kernel_rfl) (by kernel_rfl) (fun _ _ _ h => h) (Or.inl ⟨by rfl, ?_⟩) (by assumption) ?_
      rotate_left
      · intro W hSw
        (try dsimp only at hSw)
        go_simp
        (try with_reducible rfl)
      try simp only [Act.put, List.setIfInBounds_toArray, List.set_cons_zero, List.set_cons_succ]
      refine wpAnyH_take (i := 2) (oi := { dst := _, op := _, type := _, pos := _, after := _, guard := _ }) (v := ?_) rfl (by kernel_rfl) (by kernel_rfl) (by kernel_rfl) (fun _ _ _ h => h) (Or.inl ⟨by rfl, ?_⟩) (by assumption) ?_
      rotate_left
      · intro W hSw
        (try dsimp only at hSw)
        go_simp
        (try with_reducible rfl)
      try simp only [Act.put, List.setIfInBounds_toArray, List.set_cons_zero, List.set_cons_succ]
      refine wpAnyH_take (i := 3) (oi := { dst := _, op := _, type := _, pos := _, after := _, guard := _ }) (v := ?_) rfl (by kernel_rfl) (by kernel_rfl) (by kernel_rfl) (fun _ _ _ h => h) (Or.inl ⟨by rfl, ?_⟩) (by assumption) ?_
      rotate_left
      · intro W hSw
        (try dsimp only at hSw)
        go_simp
        (try with_reducible rfl)
      try simp only [Act.put, List.setIfInBounds_toArray, List.set_cons_zero, List.set_cons_succ]
      refine wpAnyH_take (i := 4) (oi := { dst := _, op := _, type := _, pos := _, after := _, guard := _ }) (v := ?_) rfl (by kernel_rfl) (by kernel_rfl) (by kernel_rfl) (fun _ _ _ h => h) (Or.inl ⟨by rfl, ?_⟩) (by assumption) ?_
      rotate_left
      · intro W hSw
        (try dsimp only at hSw)
        go_simp
        (try with_reducible rfl)
      try simp only [Act.put, List.setIfInBounds_toArray, List.set_cons_zero, List.set_cons_succ]
      refine wpAnyH_take (i := 5) (oi := { dst := _, op := _, type := _, pos := _, after := _, guard := _ }) (v := ?_) rfl (by kernel_rfl) (by kernel_rfl) (by kernel_rfl) (fun _ _ _ h => h) (Or.inl ⟨by rfl, ?_⟩) (by assumption) ?_
      rotate_left
      · intro W hSw
        (try dsimp only at hSw)
        go_simp
        (try with_reducible rfl)
      try simp only [Act.put, List.setIfInBounds_toArray, List.set_cons_zero, List.set_cons_succ]
      refine wpAnyH_take (i := 6) (oi := { dst := _, op := _, type := _, pos := _, after := _, guard := _ }) (v := ?_) rfl (by kernel_rfl) (by kernel_rfl) (by kernel_rfl) (fun _ _ _ h => h) (Or.inl ⟨by rfl, ?_⟩) (by assumption) ?_
      rotate_left
      · intro W hSw
        (try dsimp only at hSw)
        go_simp
        (try with_reducible rfl)
      try simp only [Act.put, List.setIfInBounds_toArray, List.set_cons_zero, List.set_cons_succ]
      refine wpAnyH_take (i := 7) (oi := { dst := _, op := _, type := _, pos := _, after := _, guard := _ }) (v := ?_) rfl (by kernel_rfl) (by kernel_rfl) (by kernel_rfl) (fun _ _ _ h => h) (Or.inl ⟨by rfl, ?_⟩) (by assumption) ?_
      rotate_left
      · intro W hSw
        (try dsimp only at hSw)
        go_simp
        (try with_reducible rfl)
      try simp only [Act.put, List.setIfInBounds_toArray, List.set_cons_zero, List.set_cons_succ]
      refine wpAnyH_take (i := 8) (oi := { dst := _, op := _, type := _, pos := _, after := _, guard := _ }) (v := ?_) rfl (by kernel_rfl) (by kernel_rfl) (by kernel_rfl) (fun _ _ _ h => h) (Or.inl ⟨by rfl, ?_⟩) (by assumption) ?_
      rotate_left
      · intro W hSw
        (try dsimp only at hSw)
        go_simp
        (try with_reducible rfl)
      try simp only [Act.put, List.setIfInBounds_toArray, List.set_cons_zero, List.set_cons_succ]
      refine wpAnyH_take (i := 9) (oi := { dst := _, op := _, type := _, pos := _, after := _, guard := _ }) (v := ?_) rfl (by kernel_rfl) (by kernel_rfl) (by kernel_rfl) (fun _ _ _ h => h) (Or.inl ⟨by rfl, ?_⟩) (by assumption) ?_
      rotate_left
      · intro W hSw
        (try dsimp only at hSw)
        go_simp
        (try with_reducible rfl)
      try simp only [Act.put, List.setIfInBounds_toArray, List.set_cons_zero, List.set_cons_succ]
      refine wpAnyH_take (i := 10) (oi := { dst := _, op := _, type := _, pos := _, after := _, guard := _ }) (v := ?_) rfl (by kernel_rfl) (by kernel_rfl) (by kernel_rfl) (fun _ _ _ h => h) (Or.inl ⟨by rfl, ?_⟩) (by assumption) ?_
      rotate_left
      · intro W hSw
        (try dsimp only at hSw)
        go_simp
        (try with_reducible rfl)
      try simp only [Act.put, List.setIfInBounds_toArray, List.set_cons_zero, List.set_cons_succ]
      refine wpAnyH_take (i := 11) (oi := { dst := _, op := _, type := _, pos := _, after := _, guard := _ }) (v := ?_) rfl (by kernel_rfl) (by kernel_rfl) (by kernel_rfl) (fun _ _ _ h => h) (Or.inl ⟨by rfl, ?_⟩) (by assumption) ?_
      rotate_left
      · intro W hSw
        (try dsimp only at hSw)
        go_simp
        (try with_reducible rfl)
      try simp only [Act.put, List.setIfInBounds_toArray, List.set_cons_zero, List.set_cons_succ]
      refine wpAnyH_take (i := 12) (oi := { dst := _, op := _, type := _, pos := _, after := _, guard := _ }) (v := ?_) rfl (by kernel_rfl) (by kernel_rfl) (by kernel_rfl) (fun _ _ _ h => h) (Or.inl ⟨by rfl, ?_⟩) (by assumption) ?_
      rotate_left
      · intro W hSw
        (try dsimp only at hSw)
        go_simp
        (try with_reducible rfl)
      try simp only [Act.put, List.setIfInBounds_toArray, List.set_cons_zero, List.set_cons_succ]
      refine wpAnyH_take (i := 13) (oi := { dst := _, op := _, type := _, pos := _, after := _, guard := _ }) (v := ?_) rfl (by kernel_rfl) (by kernel_rfl) (by kernel_rfl) (fun _ _ _ h => h) (Or.inl ⟨by rfl, ?_⟩) (by assumption) ?_
      rotate_left
      · intro W hSw
        (try dsimp only at hSw)
        go_simp
        (try with_reducible rfl)
      try simp only [Act.put, List.setIfInBounds_toArray, List.set_cons_zero, List.set_cons_succ]
      refine wpAnyH_take (i := 14) (oi := { dst := _, op := _, type := _, pos := _, after := _, guard := _ }) (v := ?_) rfl (by kernel_rfl) (by kernel_rfl) (by kernel_rfl) (fun _ _ _ h => h) (Or.inl ⟨by rfl, ?_⟩) (by assumption) ?_
      rotate_left
      · intro W hSw
        (try dsimp only at hSw)
        go_simp
        (try with_reducible rfl)
      try simp only [Act.put, List.setIfInBounds_toArray, List.set_cons_zero, List.set_cons_succ]
      refine wpAnyH_take (i := 15) (oi := { dst := _, op := _, type := _, pos := _, after := _, guard := _ }) (v := ?_) rfl (by kernel_rfl) (by kernel_rfl) (by kernel_rfl) (fun _ _ _ h => h) (Or.inl ⟨by rfl, ?_⟩) (by assumption) ?_
      rotate_left
      · intro W hSw
        (try dsimp only at hSw)
        go_simp
        (try with_reducible rfl)
      try simp only [Act.put, List.setIfInBounds_toArray, List.set_cons_zero, List.set_cons_succ]
      refine wpAnyH_take (i := 16) (oi := { dst := _, op := _, type := _, pos := _, after := _, guard := _ }) (v := ?_) rfl (by kernel_rfl) (by kernel_rfl) (by kernel_rfl) (fun _ _ _ h => h) (Or.inl ⟨by rfl, ?_⟩) (by assumption) ?_
      rotate_left
      · intro W hSw
        (try dsimp only at hSw)
        go_simp
        (try with_reducible rfl)
      try simp only [Act.put, List.setIfInBounds_toArray, List.set_cons_zero, List.set_cons_succ]
      refine wpAnyH_take (i := 17) (oi := { dst := _, op := _, type := _, pos := _, after := _, guard := _ }) (v := ?_) rfl (by kernel_rfl) (by kernel_rfl) (by kernel_rfl) (fun _ _ _ h => h) (Or.inl ⟨by rfl, ?_⟩) (by assumption) ?_
      rotate_left
      · intro W hSw
        (try dsimp only at hSw)
        go_simp
        (try with_reducible rfl)
      try simp only [Act.put, List.setIfInBounds_toArray, List.set_cons_zero, List.set_cons_succ]
      refine wpAnyH_take (i := 18) (oi := { dst := _, op := _, type := _, pos := _, after := _, guard := _ }) (v := ?_) rfl (by kernel_rfl) (by kernel_rfl) (by kernel_rfl) (fun _ _ _ h => h) (Or.inl ⟨by rfl, ?_⟩) (by assumption) ?_
      rotate_left
      · intro W hSw
        (try dsimp only at hSw)
        go_simp
        (try with_reducible rfl)
      try simp only [Act.put, List.setIfInBounds_toArray, List.set_cons_zero, List.set_cons_succ]
      refine wpAnyH_take (i := 19) (oi := { dst := _, op := _, type := _, pos := _, after := _, guard := _ }) (v := ?_) rfl (by kernel_rfl) (by kernel_rfl) (by kernel_rfl) (fun _ _ _ h => h) (Or.inl ⟨by rfl, ?_⟩) (by assumption) ?_
      rotate_left
      · intro W hSw
        (try dsimp only at hSw)
        go_simp
        (try with_reducible rfl)
      try simp only [Act.put, List.setIfInBounds_toArray, List.set_cons_zero, List.set_cons_succ]
      refine wpAnyH_take (i := 20) (oi := { dst := _, op := _, type := _, pos := _, after := _, guard := _ }) (v := ?_) rfl (by kernel_rfl) (by kernel_rfl) (by kernel_rfl) (fun _ _ _ h => h) (Or.inl ⟨by rfl, ?_⟩) (by assumption) ?_
      rotate_left
      · intro W hSw
        (try dsimp only at hSw)
        go_simp
        (try with_reducible rfl)
      try simp only [Act.put, List.setIfInBounds_toArray, List.set_cons_zero, List.set_cons_succ]
      refine wpAnyH_take (i := 21) (oi := { dst := _, op := _, type := _, pos := _, after := _, guard := _ }) (v := ?_) rfl (by kernel_rfl) (by kernel_rfl) (by kernel_rfl) (fun _ _ _ h => h) (Or.inl ⟨by rfl, ?_⟩) (by assumption) ?_
      rotate_left
      · intro W hSw
        (try dsimp only at hSw)
        go_simp
        (try with_reducible rfl)
      try simp only [Act.put, List.setIfInBounds_toArray, List.set_cons_zero, List.set_cons_succ]
      refine wpAnyH_take (i := 22) (oi := { dst := _, op := _, type := _, pos := _, after := _, guard := _ }) (v := ?_) rfl (by kernel_rfl) (by kernel_rfl) (by kernel_rfl) (fun _ _ _ h => h) (Or.inl ⟨by rfl, ?_⟩) (by assumption) ?_
      rotate_left
      · intro W hSw
        (try dsimp only at hSw)
        go_simp
        (try with_reducible rfl)
      try simp only [Act.put, List.setIfInBounds_toArray, List.set_cons_zero, List.set_cons_succ]
      refine wpAnyH_take (i := 23) (oi := { dst := _, op := _, type := _, pos := _, after := _, guard := _ }) (v := ?_) rfl (by kernel_rfl) (by kernel_rfl) (by kernel_rfl) (fun _ _ _ h => h) (Or.inl ⟨by rfl, ?_⟩) (by assumption) ?_
      rotate_left
      · intro W hSw
        (try dsimp only at hSw)
        go_simp
        (try with_reducible rfl)
      try simp only [Act.put, List.setIfInBounds_toArray, List.set_cons_zero, List.set_cons_succ]
      refine wpAnyH_take (i := 24) (oi := { dst := _, op := _, type := _, pos := _, after := _, guard := _ }) (v := ?_) rfl (by kernel_rfl) (by kernel_rfl) (by kernel_rfl) (fun _ _ _ h => h) (Or.inl ⟨by rfl, ?_⟩) (by assumption) ?_
      rotate_left
      · intro W hSw
        (try dsimp only at hSw)
        go_simp
        (try with_reducible rfl)
      try simp only [Act.put, List.setIfInBounds_toArray, List.set_cons_zero, List.set_cons_succ]
      refine wpAnyH_take (i := 25) (oi := { dst := _, op := _, type := _, pos := _, after := _, guard := _ }) (v := ?_) rfl (by kernel_rfl) (by kernel_rfl) (by kernel_rfl) (fun _ _ _ h => h) (Or.inl ⟨by rfl, ?_⟩) (by assumption) ?_
      rotate_left
      · intro W hSw
        (try dsimp only at hSw)
        go_simp
        (try with_reducible rfl)
      try simp only [Act.put, List.setIfInBounds_toArray, List.set_cons_zero, List.set_cons_succ]
      refine wpAnyH_done (by kernel_rfl) ?_ _
      refine NoPanic.normal ?_
      clear hHeld
      go_wp2_with fail
      go_ret
      obtain ⟨u, l', hu, h⟩ := HDN.out WE BE.out
      exact ⟨u, l', by rw [← hu]; rfl, h⟩
    have d2 : decide ((65536 : Int) < (na : Int) + (xn : Int)) = false := decide_eq_false (by omega)
    have H65 : Hid (na + xn ≤ 65536) := by show _ ≤ _; omega
    clear hbig
    refine wp_region_noPanic ?_
    refine wp_region_held_drew (S := fun W => W.cell? ⟨pb, 0, none⟩ = some (.int .i64 xs) ∧ W.cell? ⟨pb, 1, none⟩ = some (.slice ax xn cx) ∧ W.cell? ⟨gr, og + at' * 3, none⟩ = some (.int .i64 ((nT : Int) + xs)) ∧ W.cell? ⟨gb, 0, none⟩ = some (.slice a0 nT c0)) (by kernel_rfl) (by rw [hWE]; exact KE.out) (fun hHeld => ?_)
    rw [hWE] at hHeld ⊢
    clear hWE
    refine wpAnyH_take (i := 0) (oi := { dst := _, op := _, type := _, pos := _, after := _, guard := _ }) (v := ?_) rfl (by kernel_rfl) (by kernel_rfl) (by kernel_rfl) (fun _ _ _ h => h) (Or.inl ⟨by rfl, ?_⟩) (by assumption) ?_
    rotate_left
    · intro W hSw
      (try dsimp only at hSw)
      go_simp
      (try with_reducible rfl)
    try simp only [Act.put, List.setIfInBounds_toArray, List.set_cons_zero, List.set_cons_succ]
    refine wpAnyH_take (i := 1) (oi := { dst := _, op := _, type := _, pos := _, after := _, guard := _ }) (v := ?_) rfl (by kernel_rfl) (by kernel_rfl) (by kernel_rfl) (fun _ _ _ h => h) (Or.inl ⟨by rfl, ?_⟩) (by assumption) ?_
    rotate_left
    · intro W hSw
      (try dsimp only at hSw)
      go_simp
      (try with_reducible rfl)
    try simp only [Act.put, List.setIfInBounds_toArray, List.set_cons_zero, List.set_cons_succ]
    refine wpAnyH_take (i := 2) (oi := { dst := _, op := _, type := _, pos := _, after := _, guard := _ }) (v := ?_) rfl (by kernel_rfl) (by kernel_rfl) (by kernel_rfl) (fun _ _ _ h => h) (Or.inl ⟨by rfl, ?_⟩) (by assumption) ?_
    rotate_left
    · intro W hSw
      (try dsimp only at hSw)
      go_simp
      (try with_reducible rfl)
    try simp only [Act.put, List.setIfInBounds_toArray, List.set_cons_zero, List.set_cons_succ]
    refine wpAnyH_take (i := 3) (oi := { dst := _, op := _, type := _, pos := _, after := _, guard := _ }) (v := ?_) rfl (by kernel_rfl) (by kernel_rfl) (by kernel_rfl) (fun _ _ _ h => h) (Or.inl ⟨by rfl, ?_⟩) (by assumption) ?_
    rotate_left
    · intro W hSw
      (try dsimp only at hSw)
      go_simp
      (try with_reducible rfl)
    try simp only [Act.put, List.setIfInBounds_toArray, List.set_cons_zero, List.set_cons_succ]
    refine wpAnyH_take (i := 4) (oi := { dst := _, op := _, type := _, pos := _, after := _, guard := _ }) (v := ?_) rfl (by kernel_rfl) (by kernel_rfl) (by kernel_rfl) (fun _ _ _ h => h) (Or.inl ⟨by rfl, ?_⟩) (by assumption) ?_
    rotate_left
    · intro W hSw
      (try dsimp only at hSw)
      go_simp
      (try with_reducible rfl)
    try simp only [Act.put, List.setIfInBounds_toArray, List.set_cons_zero, List.set_cons_succ]
    refine wpAnyH_take (i := 5) (oi := { dst := _, op := _, type := _, pos := _, after := _, guard := _ }) (v := ?_) rfl (by kernel_rfl) (by kernel_rfl) (by kernel_rfl) (fun _ _ _ h => h) (Or.inl ⟨by rfl, ?_⟩) (by assumption) ?_
    rotate_left
    · intro W hSw
      (try dsimp only at hSw)
      go_simp
      (try with_reducible rfl)
    try simp only [Act.put, List.setIfInBounds_toArray, List.set_cons_zero, List.set_cons_succ]
    refine wpAnyH_take (i := 6) (oi := { dst := _, op := _, type := _, pos := _, after := _, guard := _ }) (v := ?_) rfl (by kernel_rfl) (by kernel_rfl) (by kernel_rfl) (fun _ _ _ h => h) (Or.inl ⟨by rfl, ?_⟩) (by assumption) ?_
    rotate_left
    · intro W hSw
      (try dsimp only at hSw)
      go_simp
      (try with_reducible rfl)
    try simp only [Act.put, List.setIfInBounds_toArray, List.set_cons_zero, List.set_cons_succ]
    refine wpAnyH_take (i := 7) (oi := { dst := _, op := _, type := _, pos := _, after := _, guard := _ }) (v := ?_) rfl (by kernel_rfl) (by kernel_rfl) (by kernel_rfl) (fun _ _ _ h => h) (Or.inl ⟨by rfl, ?_⟩) (by assumption) ?_
    rotate_left
    · intro W hSw
      (try dsimp only at hSw)
      go_simp
      (try with_reducible rfl)
    try simp only [Act.put, List.setIfInBounds_toArray, List.set_cons_zero, List.set_cons_succ]
    refine wpAnyH_take (i := 8) (oi := { dst := _, op := _, type := _, pos := _, after := _, guard := _ }) (v := ?_) rfl (by kernel_rfl) (by kernel_rfl) (by kernel_rfl) (fun _ _ _ h => h) (Or.inl ⟨by rfl, ?_⟩) (by assumption) ?_
    rotate_left
    · intro W hSw
      (try dsimp only at hSw)
      go_simp
      (try with_reducible rfl)
    try simp only [Act.put, List.setIfInBounds_toArray, List.set_cons_zero, List.set_cons_succ]
    refine wpAnyH_take (i := 9) (oi := { dst := _, op := _, type := _, pos := _, after := _, guard := _ }) (v := ?_) rfl (by kernel_rfl) (by kernel_rfl) (by kernel_rfl) (fun _ _ _ h => h) (Or.inl ⟨by rfl, ?_⟩) (by assumption) ?_
    rotate_left
    · intro W hSw
      (try dsimp only at hSw)
      go_simp
      (try with_reducible rfl)
    try simp only [Act.put, List.setIfInBounds_toArray, List.set_cons_zero, List.set_cons_succ]
    refine wpAnyH_take (i := 10) (oi := { dst := _, op := _, type := _, pos := _, after := _, guard := _ }) (v := ?_) rfl (by kernel_rfl) (by kernel_rfl) (by kernel_rfl) (fun _ _ _ h => h) (Or.inl ⟨by rfl, ?_⟩) (by assumption) ?_
    rotate_left
    · intro W hSw
      (try dsimp only at hSw)
      go_simp
      (try with_reducible rfl)
    try simp only [Act.put, List.setIfInBounds_toArray, List.set_cons_zero, List.set_cons_succ]
    refine wpAnyH_take (i := 11) (oi := { dst := _, op := _, type := _, pos := _, after := _, guard := _ }) (v := ?_) rfl (by kernel_rfl) (by kernel_rfl) (by kernel_rfl) (fun _ _ _ h => h) (Or.inl ⟨by rfl, ?_⟩) (by assumption) ?_
    rotate_left
    · intro W hSw
      (try dsimp only at hSw)
      go_simp
      (try with_reducible rfl)
    try simp only [Act.put, List.setIfInBounds_toArray, List.set_cons_zero, List.set_cons_succ]
    refine wpAnyH_take (i := 12) (oi := { dst := _, op := _, type := _, pos := _, after := _, guard := _ }) (v := ?_) rfl (by kernel_rfl) (by kernel_rfl) (by kernel_rfl) (fun _ _ _ h => h) (Or.inl ⟨by rfl, ?_⟩) (by assumption) ?_
    rotate_left
    · intro W hSw
      (try dsimp only at hSw)
      go_simp
      (try with_reducible rfl)
    try simp only [Act.put, List.setIfInBounds_toArray, List.set_cons_zero, List.set_cons_succ]
    refine wpAnyH_take (i := 13) (oi := { dst := _, op := _, type := _, pos := _, after := _, guard := _ }) (v := ?_) rfl (by kernel_rfl) (by kernel_rfl) (by kernel_rfl) (fun _ _ _ h => h) (Or.inl ⟨by rfl, ?_⟩) (by assumption) ?_
    rotate_left
    · intro W hSw
      (try dsimp only at hSw)
      go_simp
      (try with_reducible rfl)
    try simp only [Act.put, List.setIfInBounds_toArray, List.set_cons_zero, List.set_cons_succ]
    refine wpAnyH_take (i := 14) (oi := { dst := _, op := _, type := _, pos := _, after := _, guard := _ }) (v := ?_) rfl (by kernel_rfl) (by kernel_rfl) (by kernel_rfl) (fun _ _ _ h => h) (Or.inl ⟨by rfl, ?_⟩) (by assumption) ?_
    rotate_left
    · intro W hSw
      (try dsimp only at hSw)
      go_simp
      (try with_reducible rfl)
    try simp only [Act.put, List.setIfInBounds_toArray, List.set_cons_zero, List.set_cons_succ]
    refine wpAnyH_take (i := 15) (oi := { dst := _, op := _, type := _, pos := _, after := _, guard := _ }) (v := ?_) rfl (by kernel_rfl) (by kernel_rfl) (by kernel_rfl) (fun _ _ _ h => h) (Or.inl ⟨by rfl, ?_⟩) (by assumption) ?_
    rotate_left
    · intro W hSw
      (try dsimp only at hSw)
      go_simp
      (try with_reducible rfl)
    try simp only [Act.put, List.setIfInBounds_toArray, List.set_cons_zero, List.set_cons_succ]
    refine wpAnyH_take (i := 16) (oi := { dst := _, op := _, type := _, pos := _, after := _, guard := _ }) (v := ?_) rfl (by kernel_rfl) (by kernel_rfl) (by kernel_rfl) (fun _ _ _ h => h) (Or.inl ⟨by rfl, ?_⟩) (by assumption) ?_
    rotate_left
    · intro W hSw
      (try dsimp only at hSw)
      go_simp
      (try with_reducible rfl)
    try simp only [Act.put, List.setIfInBounds_toArray, List.set_cons_zero, List.set_cons_succ]
    refine wpAnyH_take (i := 17) (oi := { dst := _, op := _, type := _, pos := _, after := _, guard := _ }) (v := ?_) rfl (by kernel_rfl) (by kernel_rfl) (by kernel_rfl) (fun _ _ _ h => h) (Or.inl ⟨by rfl, ?_⟩) (by assumption) ?_
    rotate_left
    · intro W hSw
      (try dsimp only at hSw)
      go_simp
      (try with_reducible rfl)
    try simp only [Act.put, List.setIfInBounds_toArray, List.set_cons_zero, List.set_cons_succ]
    refine wpAnyH_take (i := 18) (oi := { dst := _, op := _, type := _, pos := _, after := _, guard := _ }) (v := ?_) rfl (by kernel_rfl) (by kernel_rfl) (by kernel_rfl) (fun _ _ _ h => h) (Or.inl ⟨by rfl, ?_⟩) (by assumption) ?_
    rotate_left
    · intro W hSw
      (try dsimp only at hSw)
      go_simp
      (try with_reducible rfl)
    try simp only [Act.put, List.setIfInBounds_toArray, List.set_cons_zero, List.set_cons_succ]
    refine wpAnyH_take (i := 19) (oi := { dst := _, op := _, type := _, pos := _, after := _, guard := _ }) (v := ?_) rfl (by kernel_rfl) (by kernel_rfl) (by kernel_rfl) (fun _ _ _ h => h) (Or.inl ⟨by rfl, ?_⟩) (by assumption) ?_
    rotate_left
    · intro W hSw
      (try dsimp only at hSw)
      go_simp
      (try with_reducible rfl)
    try simp only [Act.put, List.setIfInBounds_toArray, List.set_cons_zero, List.set_cons_succ]
    refine wpAnyH_take (i := 20) (oi := { dst := _, op := _, type := _, pos := _, after := _, guard := _ }) (v := ?_) rfl (by kernel_rfl) (by kernel_rfl) (by kernel_rfl) (fun _ _ _ h => h) (Or.inl ⟨by rfl, ?_⟩) (by assumption) ?_
    rotate_left
    · intro W hSw
      (try dsimp only at hSw)
      go_simp
      (try with_reducible rfl)
    try simp only [Act.put, List.setIfInBounds_toArray, List.set_cons_zero, List.set_cons_succ]
    refine wpAnyH_take (i := 21) (oi := { dst := _, op := _, type := _, pos := _, after := _, guard := _ }) (v := ?_) rfl (by kernel_rfl) (by kernel_rfl) (by kernel_rfl) (fun _ _ _ h => h) (Or.inl ⟨by rfl, ?_⟩) (by assumption) ?_
    rotate_left
    · intro W hSw
      (try dsimp only at hSw)
      go_simp
      (try with_reducible rfl)
    try simp only [Act.put, List.setIfInBounds_toArray, List.set_cons_zero, List.set_cons_succ]
    refine wpAnyH_take (i := 22) (oi := { dst := _, op := _, type := _, pos := _, after := _, guard := _ }) (v := ?_) rfl (by kernel_rfl) (by kernel_rfl) (by kernel_rfl) (fun _ _ _ h => h) (Or.inl ⟨by rfl, ?_⟩) (by assumption) ?_
    rotate_left
    · intro W hSw
      (try dsimp only at hSw)
      go_simp
      (try with_reducible rfl)
    try simp only [Act.put, List.setIfInBounds_toArray, List.set_cons_zero, List.set_cons_succ]
    refine wpAnyH_take (i := 23) (oi := { dst := _, op := _, type := _, pos := _, after := _, guard := _ }) (v := ?_) rfl (by kernel_rfl) (by kernel_rfl) (by kernel_rfl) (fun _ _ _ h => h) (Or.inl ⟨by rfl, ?_⟩) (by assumption) ?_
    rotate_left
    · intro W hSw
      (try dsimp only at hSw)
      go_simp
      (try with_reducible rfl)
    try simp only [Act.put, List.setIfInBounds_toArray, List.set_cons_zero, List.set_cons_succ]
    refine wpAnyH_take (i := 24) (oi := { dst := _, op := _, type := _, pos := _, after := _, guard := _ }) (v := ?_) rfl (by kernel_rfl) (by kernel_rfl) (by kernel_rfl) (fun _ _ _ h => h) (Or.inl ⟨by rfl, ?_⟩) (by assumption) ?_
    rotate_left
    · intro W hSw
      (try dsimp only at hSw)
      go_simp
      (try with_reducible rfl)
    try simp only [Act.put, List.setIfInBounds_toArray, List.set_cons_zero, List.set_cons_succ]
    refine wpAnyH_take (i := 25) (oi := { dst := _, op := _, type := _, pos := _, after := _, guard := _ }) (v := ?_) rfl (by kernel_rfl) (by kernel_rfl) (by kernel_rfl) (fun _ _ _ h => h) (Or.inl ⟨by rfl, ?_⟩) (by assumption) ?_
    rotate_left
    · intro W hSw
      (try dsimp only at hSw)
      go_simp
      (try with_reducible rfl)
    try simp only [Act.put, List.setIfInBounds_toArray, List.set_cons_zero, List.set_cons_succ]
    refine wpAnyH_done (by kernel_rfl) ?_ _
    refine NoPanic.normal ?_
    clear hHeld
    have HPE : Hid (WE.heap[pb]? = some (.cells #[.int .i64 xs, .slice ax xn cx] 53 (0, 0))) := (BE.out.block _ (lt_of_heap HPB.out)).trans HPB.out
    have BWE : Hid (Below w.heap.size w WE) := below_trans HBX.out BE.out
    clear HDN KE BE HPB BX HBX d1 d2 hadd hlen t1 t2
    go_upto_region 9 with fail
    have HVL : Hid (Rw w (.slice (some ⟨gr, og, none⟩) na ca) l.length (flat rf l)) := by rw [HNA.out]; exact HV.out
    go_loopg [9, 10] (at' - (0)) (fun gm v9 v10 wr => ∃ i : Nat, v10 = .int .i64 (i : Int) ∧ ∃ (ra : Option Addr) (m rc : Nat), v9 = .slice ra m rc ∧ Hid (m = 0 + (i - (0))) ∧ Hid (Below w.heap.size w wr) ∧ Hid ((0) ≤ i ∧ i ≤ at' ∧ gm = at' - i) ∧ Hid (wr.heap[pb]? = some (.cells #[.int .i64 xs, .slice ax xn cx] 53 (0, 0))) ∧ Hid (wr.ownsRow w.heap.size 32 3 (.slice ra m rc) m (flat rf (([] : List Rf) ++ (l.drop (0)).take (i - (0))))))
    case atStart => exact ⟨0, rfl, none, 0, 0, rfl, rfl, BWE, ⟨Nat.le_refl _, Nat.zero_le _, rfl⟩, HPE, World.ownsRow_nil _ _ _ _⟩
    case round =>
      clear BWE HPE
      obtain ⟨i, rfl, ra, m, rc, rfl, HM, HBW, HI, HPE, HRO⟩ := hrel
      have pp1 := rcell HPE.out 1 (.slice ax xn cx) rfl
      by_cases hi : i < at'
      · have hil : i < l.length := by have := HNA.out; have := HAT.out; omega
        have hxr := HVL.out
        rw [HNA.out] at hxr
        obtain ⟨g3, o3, cap, e0, hc⟩ := hxr.place (by have := HNA.out; omega)
        obtain ⟨hg3, -, hc3⟩ := Value.slice.inj e0
        obtain ⟨q0, q1, q2⟩ := rf_get l i hil
        have k0 := below_cell HBW.out (hc _ _ q0)
        have k1 := below_cell HBW.out (hc _ _ q1)
        have k2 := below_cell HBW.out (hc _ _ q2)
        have HTK : Hid _ := drop_take_step l rfd (0) (i - (0)) (by have := HI.out; omega)
        have hii : (0) + (i - (0)) = i := by have := HI.out; omega
        have hii2 : i - (0) + 1 = i + 1 - (0) := by have := HI.out; omega
        rw [hii, hii2] at HTK
        obtain ⟨x, hx⟩ : ∃ x, l.getD i rfd = x := ⟨_, rfl⟩
        rw [hx] at k0 k1 k2 HTK
        obtain ⟨ys, yf, yz⟩ := x
        dsimp only at k0 k1 k2
        rw [← Nat.add_assoc] at k1 k2
        have e1 : decide ((i : Int) < (at' : Int)) = true := by rw [decide_eq_true_eq]; omega
        have e2 : decide (i < at') = true := by rw [decide_eq_true_eq]; omega
        have e5 : (i : Int) < (at' : Int) := by omega
        have e6 : i < at' := hi
        have e8 : (i : Int) < (na : Int) := by have := HAT.out; omega
        have e9 : i < na := by have := HAT.out; omega
        have HIL : Hid (i < at') := hi
        have e7 : i < l.length := hil
        have hwr := w64n i (by have := H65.out; have := HAT.out; omega)
        obtain ⟨rfl, rfl⟩ : gr = g3 ∧ og = o3 := ⟨congrArg Addr.block (Option.some.inj hg3), congrArg Addr.off (Option.some.inj hg3)⟩; clear hg3 hc3 e0
        clear hxr hc hx q0 q1 q2 hi hii hii2 hil e7
        have HROW : Hid ((wr.alloc (.cells #[.int .i64 ys, .string yf, .string yz] 32)).ownsRow w.heap.size 32 3 (.slice ra m rc) m (flat rf (([] : List Rf) ++ (l.drop (0)).take (i - (0))))) := row_up HRO.out (bel_up _ _)
        go_wp2_with (at_builtin; refine wpList_append_own_at _ rfl _ _ 27 rfl w.heap.size 32 i32 (.agg #[.int .i64 0, .string ⟨#[]⟩, .string ⟨#[]⟩]) 3 40 Try.underlying27 HI32.out.1 HI32.out.2.1 HI32.out.2.2.1 HI32.out.2.2.2 rfl (by decide) _ _ _ rfl HROW.out ⟨wr.heap.size, 0, none⟩ 1 1 [.int .i64 ys, .string yf, .string yz] rfl rfl (cell_three_new _ _ _ _ _) (by simp [Value.oneCell']) (by have := HM.out; have := H65.out; have := HIL.out; have := HAT.out; unfold maxLen; omega) (by have := HM.out; have := H65.out; have := HIL.out; have := HAT.out; omega) (by have := HBW.out.size; simp; omega) ?_; intro v6 w6 ho6 hg6 _ ha6; have HO6 : Hid (w6.ownsRow w.heap.size 32 3 v6 (m + 1) (flat rf (([] : List Rf) ++ (l.drop (0)).take (i - (0))) ++ [.int .i64 ys, .string yf, .string yz])) := ho6; have HG6 : Hid (wr.grownBy w6 (Value.ownBlock (.slice ra m rc))) := (World.grownBy_alloc _ _ _).trans hg6; obtain ⟨qa, qc, rfl⟩ := row_shape ho6; clear ho6 hg6 ha6)
        have HR6 : Hid (w6.ownsRow w.heap.size 32 3 (.slice qa (m + 1) qc) (m + 1) (flat rf (([] : List Rf) ++ (l.drop (0)).take (i + 1 - (0))))) := by
          show World.ownsRow _ _ _ _ _ _ _
          rw [HTK.out]
          have h9 := HO6.out
          rw [show [Value.int .i64 ys, .string yf, .string yz] = flat rf [((ys : Int), yf, yz)] from rfl, ← flat_app, List.append_assoc] at h9
          exact h9
        have HP6 : Hid (w6.heap[pb]? = some (.cells #[.int .i64 xs, .slice ax xn cx] 53 (0, 0))) := (HG6.out.block _ (lt_of_heap HPE.out) (fun e => tag_ne_blk HRO.out HPE.out (by decide) e.symm)).trans HPE.out
        have BW6 : Hid (Below w.heap.size w w6) := HBW.out.grown HG6.out HBW.out.size (fun r e' => (row_tag HRO.out r e').1)
        go_roundg (at' - (i + 1))
        case measure => have := HI.out; have := HIL.out; omega
        case rel => exact ⟨i + 1, by first | rfl | (rw [show (i : Int) + 1 = ((i + 1 : Nat) : Int) by omega]), qa, m + 1, qc, rfl, by have := HM.out; have := HI.out; show _ = _; omega, BW6, ⟨by have := HI.out; omega, HIL.out, rfl⟩, HP6, HR6⟩
      · have e1 : decide ((i : Int) < (at' : Int)) = false := by rw [decide_eq_false_iff_not]; omega
        have e2 : decide (i < at') = false := by rw [decide_eq_false_iff_not]; omega
        have HIN : Hid (i = at') := by have := HI.out; have := HAT.out; show i = at'; omega
        have hRO := HRO.out
        rw [HIN.out] at hRO
        clear hi
        have hwa := w64n at' (by have := HAT.out; have := H65.out; omega)
        go_upto_region 13 with fail
        clear hwa
        clear e1 e2 pp1
        have HR1 : Hid (wr.ownsRow w.heap.size 32 3 (.slice ra m rc) m (flat rf (l.take at' ++ (xl.drop 0).take (0 - 0)))) := by
          show World.ownsRow _ _ _ _ _ _ _
          have h9 := hRO
          rw [List.nil_append, List.drop_zero, Nat.sub_zero] at h9
          rw [Nat.sub_self, List.take_zero, List.append_nil]
          exact h9
        have HM1 : Hid (m = at') := by have := HM.out; have := HIN.out; have := HAT.out; show _ = _; omega
        obtain ⟨V1, hV⟩ : ∃ V, V = wr := ⟨_, rfl⟩
        rw [← hV] at HBW HPE HR1 ⊢
        have HBq1 : Hid (Below w.heap.size w V1) := HBW.out
        have HP1 : Hid (V1.heap[pb]? = some (.cells #[.int .i64 xs, .slice ax xn cx] 53 (0, 0))) := HPE.out
        clear hV HBW HPE HRO hRO HM HI HIN
        obtain ⟨m1, hm⟩ : ∃ x, x = m := ⟨_, rfl⟩
        obtain ⟨ra1, hra0⟩ : ∃ x, x = ra := ⟨_, rfl⟩
        obtain ⟨rc1, hrc0⟩ : ∃ x, x = rc := ⟨_, rfl⟩
        rw [← hra0, ← hrc0, ← hm] at HR1 ⊢
        rw [← hm] at HM1
        clear hra0 hrc0 hm
        go_loopg [9, 11] (xn - (0)) (fun gm v9 v11 wr => ∃ i : Nat, v11 = .int .i64 (i : Int) ∧ ∃ (ra : Option Addr) (m rc : Nat), v9 = .slice ra m rc ∧ Hid (m = at' + (i - (0))) ∧ Hid (Below w.heap.size w wr) ∧ Hid ((0) ≤ i ∧ i ≤ xn ∧ gm = xn - i) ∧ Hid (wr.heap[pb]? = some (.cells #[.int .i64 xs, .slice ax xn cx] 53 (0, 0))) ∧ Hid (wr.ownsRow w.heap.size 32 3 (.slice ra m rc) m (flat rf ((l.take at') ++ (xl.drop (0)).take (i - (0))))))
        case atStart => exact ⟨0, rfl, ra1, m1, rc1, rfl, HM1, HBq1, ⟨Nat.le_refl _, Nat.zero_le _, rfl⟩, HP1, HR1⟩
        case round =>
          clear HBq1 HP1 HR1 HM1
          obtain ⟨i, rfl, ra, m, rc, rfl, HM, HBW, HI, HPE, HRO⟩ := hrel
          have pp1 := rcell HPE.out 1 (.slice ax xn cx) rfl
          by_cases hi : i < xn
          · have hil : i < xl.length := by have := HXN.out; have := HAT.out; omega
            have hxr := HXR.out
            rw [HXN.out] at hxr
            obtain ⟨g3, o3, cap, e0, hc⟩ := hxr.place (by have := HXN.out; omega)
            obtain ⟨hg3, -, hc3⟩ := Value.slice.inj e0
            obtain ⟨q0, q1, q2⟩ := rf_get xl i hil
            have k0 := below_cell HBW.out (hc _ _ q0)
            have k1 := below_cell HBW.out (hc _ _ q1)
            have k2 := below_cell HBW.out (hc _ _ q2)
            have HTK : Hid _ := drop_take_step xl rfd (0) (i - (0)) (by have := HI.out; omega)
            have hii : (0) + (i - (0)) = i := by have := HI.out; omega
            have hii2 : i - (0) + 1 = i + 1 - (0) := by have := HI.out; omega
            rw [hii, hii2] at HTK
            obtain ⟨x, hx⟩ : ∃ x, xl.getD i rfd = x := ⟨_, rfl⟩
            rw [hx] at k0 k1 k2 HTK
            obtain ⟨ys, yf, yz⟩ := x
            dsimp only at k0 k1 k2
            rw [← Nat.add_assoc] at k1 k2
            have e1 : decide ((i : Int) < (xn : Int)) = true := by rw [decide_eq_true_eq]; omega
            have e2 : decide (i < xn) = true := by rw [decide_eq_true_eq]; omega
            have e5 : (i : Int) < (xn : Int) := by omega
            have e6 : i < xn := hi
            have e8 : (i : Int) < (xn : Int) := by have := HAT.out; omega
            have e9 : i < xn := by have := HAT.out; omega
            have HIL : Hid (i < xn) := hi
            have e7 : i < xl.length := hil
            have hwr := w64n i (by have := H65.out; have := HAT.out; omega)
            rw [hg3] at pp1; clear hg3 hc3 e0
            clear hxr hc hx q0 q1 q2 hi hii hii2 hil e7
            have HROW : Hid ((wr.alloc (.cells #[.int .i64 ys, .string yf, .string yz] 32)).ownsRow w.heap.size 32 3 (.slice ra m rc) m (flat rf ((l.take at') ++ (xl.drop (0)).take (i - (0))))) := row_up HRO.out (bel_up _ _)
            go_wp2_with (at_builtin; refine wpList_append_own_at _ rfl _ _ 27 rfl w.heap.size 32 i32 (.agg #[.int .i64 0, .string ⟨#[]⟩, .string ⟨#[]⟩]) 3 40 Try.underlying27 HI32.out.1 HI32.out.2.1 HI32.out.2.2.1 HI32.out.2.2.2 rfl (by decide) _ _ _ rfl HROW.out ⟨wr.heap.size, 0, none⟩ 1 1 [.int .i64 ys, .string yf, .string yz] rfl rfl (cell_three_new _ _ _ _ _) (by simp [Value.oneCell']) (by have := HM.out; have := H65.out; have := HIL.out; have := HAT.out; unfold maxLen; omega) (by have := HM.out; have := H65.out; have := HIL.out; have := HAT.out; omega) (by have := HBW.out.size; simp; omega) ?_; intro v6 w6 ho6 hg6 _ ha6; have HO6 : Hid (w6.ownsRow w.heap.size 32 3 v6 (m + 1) (flat rf ((l.take at') ++ (xl.drop (0)).take (i - (0))) ++ [.int .i64 ys, .string yf, .string yz])) := ho6; have HG6 : Hid (wr.grownBy w6 (Value.ownBlock (.slice ra m rc))) := (World.grownBy_alloc _ _ _).trans hg6; obtain ⟨qa, qc, rfl⟩ := row_shape ho6; clear ho6 hg6 ha6)
            have HR6 : Hid (w6.ownsRow w.heap.size 32 3 (.slice qa (m + 1) qc) (m + 1) (flat rf ((l.take at') ++ (xl.drop (0)).take (i + 1 - (0))))) := by
              show World.ownsRow _ _ _ _ _ _ _
              rw [HTK.out]
              have h9 := HO6.out
              rw [show [Value.int .i64 ys, .string yf, .string yz] = flat rf [((ys : Int), yf, yz)] from rfl, ← flat_app, List.append_assoc] at h9
              exact h9
            have HP6 : Hid (w6.heap[pb]? = some (.cells #[.int .i64 xs, .slice ax xn cx] 53 (0, 0))) := (HG6.out.block _ (lt_of_heap HPE.out) (fun e => tag_ne_blk HRO.out HPE.out (by decide) e.symm)).trans HPE.out
            have BW6 : Hid (Below w.heap.size w w6) := HBW.out.grown HG6.out HBW.out.size (fun r e' => (row_tag HRO.out r e').1)
            go_roundg (xn - (i + 1))
            case measure => have := HI.out; have := HIL.out; omega
            case rel => exact ⟨i + 1, by first | rfl | (rw [show (i : Int) + 1 = ((i + 1 : Nat) : Int) by omega]), qa, m + 1, qc, rfl, by have := HM.out; have := HI.out; show _ = _; omega, BW6, ⟨by have := HI.out; omega, HIL.out, rfl⟩, HP6, HR6⟩
          · have e1 : decide ((i : Int) < (xn : Int)) = false := by rw [decide_eq_false_iff_not]; omega
            have e2 : decide (i < xn) = false := by rw [decide_eq_false_iff_not]; omega
            have HIN : Hid (i = xn) := by have := HI.out; have := HAT.out; show i = xn; omega
            have hRO := HRO.out
            rw [HIN.out] at hRO
            clear hi
            have hwa := w64n at' (by have := HAT.out; have := H65.out; omega)
            go_upto_region 17 with fail
            clear hwa
            clear e1 e2 pp1
            have HR2 : Hid (wr.ownsRow w.heap.size 32 3 (.slice ra m rc) m (flat rf (l.take at' ++ xl ++ (l.drop (at' + 1)).take (at' + 1 - (at' + 1))))) := by
              show World.ownsRow _ _ _ _ _ _ _
              have h9 := hRO
              rw [List.drop_zero, Nat.sub_zero, ← HXN.out, List.take_length] at h9
              rw [Nat.sub_self, List.take_zero, List.append_nil]
              exact h9
            have HM2 : Hid (m = at' + xn) := by have := HM.out; have := HIN.out; have := HAT.out; show _ = _; omega
            obtain ⟨V2, hV⟩ : ∃ V, V = wr := ⟨_, rfl⟩
            rw [← hV] at HBW HPE HR2 ⊢
            have HBq2 : Hid (Below w.heap.size w V2) := HBW.out
            have HP2 : Hid (V2.heap[pb]? = some (.cells #[.int .i64 xs, .slice ax xn cx] 53 (0, 0))) := HPE.out
            clear hV HBW HPE HRO hRO HM HI HIN
            obtain ⟨m2, hm⟩ : ∃ x, x = m := ⟨_, rfl⟩
            obtain ⟨ra2, hra0⟩ : ∃ x, x = ra := ⟨_, rfl⟩
            obtain ⟨rc2, hrc0⟩ : ∃ x, x = rc := ⟨_, rfl⟩
            rw [← hra0, ← hrc0, ← hm] at HR2 ⊢
            rw [← hm] at HM2
            clear hra0 hrc0 hm
            go_loopg [9, 12] (na - (at' + 1)) (fun gm v9 v12 wr => ∃ i : Nat, v12 = .int .i64 (i : Int) ∧ ∃ (ra : Option Addr) (m rc : Nat), v9 = .slice ra m rc ∧ Hid (m = (at' + xn) + (i - (at' + 1))) ∧ Hid (Below w.heap.size w wr) ∧ Hid ((at' + 1) ≤ i ∧ i ≤ na ∧ gm = na - i) ∧ Hid (wr.heap[pb]? = some (.cells #[.int .i64 xs, .slice ax xn cx] 53 (0, 0))) ∧ Hid (wr.ownsRow w.heap.size 32 3 (.slice ra m rc) m (flat rf ((l.take at' ++ xl) ++ (l.drop (at' + 1)).take (i - (at' + 1))))))
            case atStart => exact ⟨at' + 1, by first | rfl | (rw [show (at' : Int) + 1 = ((at' + 1 : Nat) : Int) by omega]), ra2, m2, rc2, rfl, by have := HM2.out; show _ = _; omega, HBq2, ⟨Nat.le_refl _, HAT.out, rfl⟩, HP2, HR2⟩
            case round =>
              clear HBq2 HP2 HR2 HM2
              obtain ⟨i, rfl, ra, m, rc, rfl, HM, HBW, HI, HPE, HRO⟩ := hrel
              have pp1 := rcell HPE.out 1 (.slice ax xn cx) rfl
              by_cases hi : i < na
              · have hil : i < l.length := by have := HNA.out; have := HAT.out; omega
                have hxr := HVL.out
                rw [HNA.out] at hxr
                obtain ⟨g3, o3, cap, e0, hc⟩ := hxr.place (by have := HNA.out; omega)
                obtain ⟨hg3, -, hc3⟩ := Value.slice.inj e0
                obtain ⟨q0, q1, q2⟩ := rf_get l i hil
                have k0 := below_cell HBW.out (hc _ _ q0)
                have k1 := below_cell HBW.out (hc _ _ q1)
                have k2 := below_cell HBW.out (hc _ _ q2)
                have HTK : Hid _ := drop_take_step l rfd (at' + 1) (i - (at' + 1)) (by have := HI.out; omega)
                have hii : (at' + 1) + (i - (at' + 1)) = i := by have := HI.out; omega
                have hii2 : i - (at' + 1) + 1 = i + 1 - (at' + 1) := by have := HI.out; omega
                rw [hii, hii2] at HTK
                obtain ⟨x, hx⟩ : ∃ x, l.getD i rfd = x := ⟨_, rfl⟩
                rw [hx] at k0 k1 k2 HTK
                obtain ⟨ys, yf, yz⟩ := x
                dsimp only at k0 k1 k2
                rw [← Nat.add_assoc] at k1 k2
                have e1 : decide ((i : Int) < (na : Int)) = true := by rw [decide_eq_true_eq]; omega
                have e2 : decide (i < na) = true := by rw [decide_eq_true_eq]; omega
                have e5 : (i : Int) < (na : Int) := by omega
                have e6 : i < na := hi
                have e8 : (i : Int) < (na : Int) := by have := HAT.out; omega
                have e9 : i < na := by have := HAT.out; omega
                have HIL : Hid (i < na) := hi
                have e7 : i < l.length := hil
                have hwr := w64n i (by have := H65.out; have := HAT.out; omega)
                obtain ⟨rfl, rfl⟩ : gr = g3 ∧ og = o3 := ⟨congrArg Addr.block (Option.some.inj hg3), congrArg Addr.off (Option.some.inj hg3)⟩; clear hg3 hc3 e0
                clear hxr hc hx q0 q1 q2 hi hii hii2 hil e7
                have HROW : Hid ((wr.alloc (.cells #[.int .i64 ys, .string yf, .string yz] 32)).ownsRow w.heap.size 32 3 (.slice ra m rc) m (flat rf ((l.take at' ++ xl) ++ (l.drop (at' + 1)).take (i - (at' + 1))))) := row_up HRO.out (bel_up _ _)
                go_wp2_with (at_builtin; refine wpList_append_own_at _ rfl _ _ 27 rfl w.heap.size 32 i32 (.agg #[.int .i64 0, .string ⟨#[]⟩, .string ⟨#[]⟩]) 3 40 Try.underlying27 HI32.out.1 HI32.out.2.1 HI32.out.2.2.1 HI32.out.2.2.2 rfl (by decide) _ _ _ rfl HROW.out ⟨wr.heap.size, 0, none⟩ 1 1 [.int .i64 ys, .string yf, .string yz] rfl rfl (cell_three_new _ _ _ _ _) (by simp [Value.oneCell']) (by have := HM.out; have := H65.out; have := HIL.out; have := HAT.out; unfold maxLen; omega) (by have := HM.out; have := H65.out; have := HIL.out; have := HAT.out; omega) (by have := HBW.out.size; simp; omega) ?_; intro v6 w6 ho6 hg6 _ ha6; have HO6 : Hid (w6.ownsRow w.heap.size 32 3 v6 (m + 1) (flat rf ((l.take at' ++ xl) ++ (l.drop (at' + 1)).take (i - (at' + 1))) ++ [.int .i64 ys, .string yf, .string yz])) := ho6; have HG6 : Hid (wr.grownBy w6 (Value.ownBlock (.slice ra m rc))) := (World.grownBy_alloc _ _ _).trans hg6; obtain ⟨qa, qc, rfl⟩ := row_shape ho6; clear ho6 hg6 ha6)
                have HR6 : Hid (w6.ownsRow w.heap.size 32 3 (.slice qa (m + 1) qc) (m + 1) (flat rf ((l.take at' ++ xl) ++ (l.drop (at' + 1)).take (i + 1 - (at' + 1))))) := by
                  show World.ownsRow _ _ _ _ _ _ _
                  rw [HTK.out]
                  have h9 := HO6.out
                  rw [show [Value.int .i64 ys, .string yf, .string yz] = flat rf [((ys : Int), yf, yz)] from rfl, ← flat_app, List.append_assoc] at h9
                  exact h9
                have HP6 : Hid (w6.heap[pb]? = some (.cells #[.int .i64 xs, .slice ax xn cx] 53 (0, 0))) := (HG6.out.block _ (lt_of_heap HPE.out) (fun e => tag_ne_blk HRO.out HPE.out (by decide) e.symm)).trans HPE.out
                have BW6 : Hid (Below w.heap.size w w6) := HBW.out.grown HG6.out HBW.out.size (fun r e' => (row_tag HRO.out r e').1)
                go_roundg (na - (i + 1))
                case measure => have := HI.out; have := HIL.out; omega
                case rel => exact ⟨i + 1, by first | rfl | (rw [show (i : Int) + 1 = ((i + 1 : Nat) : Int) by omega]), qa, m + 1, qc, rfl, by have := HM.out; have := HI.out; show _ = _; omega, BW6, ⟨by have := HI.out; omega, HIL.out, rfl⟩, HP6, HR6⟩
              · have e1 : decide ((i : Int) < (na : Int)) = false := by rw [decide_eq_false_iff_not]; omega
                have e2 : decide (i < na) = false := by rw [decide_eq_false_iff_not]; omega
                have HIN : Hid (i = na) := by have := HI.out; have := HAT.out; show i = na; omega
                have hRO := HRO.out
                rw [HIN.out] at hRO
                clear hi
                go_wp2_with fail
                go_ret
                have hl' : l.take at' ++ xl ++ (l.drop (at' + 1)).take (na - (at' + 1)) = l.take at' ++ xl ++ l.drop (at' + 1) := by
                  rw [show (l.drop (at' + 1)).take (na - (at' + 1)) = l.drop (at' + 1) from List.take_of_length_le (by rw [List.length_drop, HNA.out]; exact Nat.le_refl _)]
                rw [hl'] at hRO
                have hlen : (l.take at' ++ xl ++ l.drop (at' + 1)).length = m := by
                  have h1 := hRO.1
                  rw [flat_len rf_len] at h1
                  omega
                refine ⟨_, l.take at' ++ xl ++ l.drop (at' + 1), rfl, by rw [hlen]; exact row_rw hRO (by decide), Or.inr ⟨at', _, by have := HNA.out; have := HAT.out; omega, HMP.out, HXS.out, HYE.out, rfl⟩, ?_, HBW.out⟩
                rw [hlen]
                have := HM.out
                have := H65.out
                have := HIN.out
                have := HAT.out
                omega
end Go.Proofs.Ytodncbkdlnepjaa
