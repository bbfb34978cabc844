import Derived.Test.YthlbajkbpceglaaTbc
namespace Go.Proofs.Ythlbajkbpceglaa
open Go.RowKit Go.Maps

theorem Cn.row {α : Type} {f : α → List Value} {e : TypeId} {s : Nat} {eo : TypeId} {B : Nat} {W : World} {g cap : Nat} {L : List (Value × List α)} (h : Cn f e s eo B W g cap L) (i : Nat) (hi : i < L.length) :
    ∃ gr cr, (L.getD i nrd).1 = .slice (some ⟨gr, 0, none⟩) (L.getD i nrd).2.length cr ∧ W.cell? ⟨g, i, none⟩ = some (.slice (some ⟨gr, 0, none⟩) (L.getD i nrd).2.length cr) ∧ W.ownsRow B e s (.slice (some ⟨gr, 0, none⟩) (L.getD i nrd).2.length cr) (L.getD i nrd).2.length (flat f (L.getD i nrd).2) := by
  obtain ⟨gr, cr, e1, ho⟩ := h.r _ (getD_mem L nrd i hi)
  refine ⟨gr, cr, e1, ?_, ho⟩
  rw [← e1]
  exact row_at h.t i _ (fst_get L i hi)
abbrev CnA := Cn af 38 2 35
abbrev CnG := Cn gf 3 1 39
/-- Blocks of the kind of tables are as they were. -/
def Kt (W W' : World) : Prop := ∀ (b : Nat) (cs : Array Value), W.heap[b]? = some (.cells cs 25 (0, 0)) → W'.heap[b]? = some (.cells cs 25 (0, 0))
theorem Kt.trans {a b c : World} (h : Kt a b) (k : Kt b c) : Kt a c := fun x cs e => k x cs (h x cs e)
theorem Kt.up {W W' : World} (h : Below W.heap.size W W') : Kt W W' := fun _ _ e => (h.block _ (lt_of_heap e)).trans e
theorem B2.kt {W W' : World} {ga gb : Nat} {v0 v1 u0 u1 : Value} (h : B2 W ga gb v0 v1 u0 u1) (k : Kt W W') : B2 W' ga gb v0 v1 u0 u1 := ⟨k _ _ h.a, k _ _ h.b⟩
set_option maxRecDepth 100000 in
set_option maxHeartbeats 16000000 in
theorem turned_any {w0 : World} {g0 k0 g1 k1 : Nat} {v0 v1 : Value} {A C : List (Value × List Ak)} {G D : List (Value × List Int)} (w : World) (hb : Below w0.heap.size w0 w) (h : Tb w0 v0 v1 A G) (hs : Ts A G) (hc : CnA w0.heap.size w g0 k0 C) (hd : CnG w0.heap.size w g1 k1 D) (hC : ∀ i, (C.getD i nrd).2.length = (A.getD i nrd).2.length) (hD : ∀ i, (D.getD i nrd).2.length = (G.getD i nrd).2.length) (lC : C.length = A.length) (lD : D.length = G.length) :
    Calls Try.prog 9 #[.agg #[.slice (some ⟨g0, 0, none⟩) A.length k0, .slice (some ⟨g1, 0, none⟩) G.length k1], .agg #[v0, v1]] w fun e w' => e = .returned (.tuple #[]) ∧ ∃ C' D', CnA w0.heap.size w' g0 k0 C' ∧ CnG w0.heap.size w' g1 k1 D' ∧ shp C' = shp C ∧ shp D' = shp D ∧ Below w0.heap.size w0 w' ∧ Kt w w' := by
  have HT : Hid (Tb w0 v0 v1 A G) := h
  have HS : Hid (Ts A G) := hs
  have HC : Hid (CnA w0.heap.size w g0 k0 C) := hc
  have HD : Hid (CnG w0.heap.size w g1 k1 D) := hd
  have HBW0 : Hid (Below w0.heap.size w0 w) := hb
  have HLA : Hid (∀ i, (C.getD i nrd).2.length = (A.getD i nrd).2.length) := hC
  have HLG : Hid (∀ i, (D.getD i nrd).2.length = (G.getD i nrd).2.length) := hD
  obtain ⟨a0, c0, a1, c1, rfl, rfl⟩ := h.form
  clear h hs hc hd hb hC hD
  obtain ⟨nA, hnA⟩ : ∃ n, A.length = n := ⟨_, rfl⟩
  have HNA : Hid (A.length = nA ∧ C.length = nA) := ⟨hnA, lC.trans hnA⟩
  obtain ⟨nG, hnG⟩ : ∃ n, G.length = n := ⟨_, rfl⟩
  have HNG : Hid (G.length = nG ∧ D.length = nG) := ⟨hnG, lD.trans hnG⟩
  rw [hnA, hnG] at HT ⊢
  clear hnA hnG lC lD
  have HBT : Hid (nA * 24 + 4096 ≤ 140737488355328 ∧ nG * 24 + 4096 ≤ 140737488355328) := by have := HS.out.a; have := HS.out.g; have := HNA.out; have := HNG.out; show _ ∧ _; omega
  obtain ⟨W1, hW1⟩ : ∃ W1, W1 = (w.alloc (.cells #[.slice (some ⟨g0, 0, none⟩) nA k0, .slice (some ⟨g1, 0, none⟩) nG k1] 25)).alloc (.cells #[.slice a0 nA c0, .slice a1 nG c1] 25) := ⟨_, rfl⟩
  have HUP : Hid (Below w.heap.size w W1) := by rw [hW1]; exact below_trans (bel_up _ _) (bel_up _ _)
  have HB1 : Hid (Below w0.heap.size w0 W1) := below_trans HBW0.out HUP.out
  have HX : Hid (B2 W1 w.heap.size (w.heap.size + 1) (.slice (some ⟨g0, 0, none⟩) nA k0) (.slice (some ⟨g1, 0, none⟩) nG k1) (.slice a0 nA c0) (.slice a1 nG c1)) := by rw [hW1]; exact B2.mk2 _ _ _ _ _
  have HC1 : Hid (CnA w0.heap.size W1 g0 k0 C) := HC.out.up HUP.out
  have HD1 : Hid (CnG w0.heap.size W1 g1 k1 D) := HD.out.up HUP.out
  have HK1 : Hid (Kt w W1) := Kt.up HUP.out
  go_enter Try.func9, Try.ntmps9
  go_upto_region 1 with fail
  rw [← hW1]
  clear hW1 HC HD HUP
  obtain ⟨ga, hga⟩ : ∃ gb, w.heap.size = gb := ⟨_, rfl⟩
  rw [hga] at HX ⊢
  obtain ⟨gb, hgb⟩ : ∃ gb, ga + 1 = gb := ⟨_, rfl⟩
  rw [hgb] at HX ⊢
  clear hgb hga
  go_upto_region 2 with fail
  go_loopg [4] nA (fun gm v4 wr => ∃ i : Nat, v4 = .int .i64 (i : Int) ∧ Hid (i ≤ nA ∧ gm = nA - i) ∧ ∃ CT DT, Hid (CnA w0.heap.size wr g0 k0 CT) ∧ Hid (CnG w0.heap.size wr g1 k1 DT) ∧ Hid (shp CT = shp C ∧ shp DT = shp D) ∧ Hid (Below w0.heap.size w0 wr) ∧ Hid (Kt w wr) ∧ Hid (B2 wr ga gb (.slice (some ⟨g0, 0, none⟩) nA k0) (.slice (some ⟨g1, 0, none⟩) nG k1) (.slice a0 nA c0) (.slice a1 nG c1)))
  case atStart => exact ⟨0, rfl, ⟨Nat.zero_le _, rfl⟩, _, _, HC1, HD1, ⟨rfl, rfl⟩, HB1, HK1, HX⟩
  case round =>
    clear HB1 HX HC1 HD1 HK1
    obtain ⟨i, rfl, HI, CT, DT, HCT, HDT, HSH, HBW, HK, HX⟩ := hrel
    have cb := rcell HX.out.b 0 _ rfl
    by_cases hi : i < nA
    · have hil : i < A.length := by have := HNA.out; omega
      obtain ⟨g, oo, cap, a, c, q0, q1, q2, q3⟩ := HT.out.a.at i hil
      obtain ⟨rfl, -, rfl⟩ := Value.slice.inj q0
      have HSZ : Hid ((A.getD i nrd).2.length * 16 + 4096 ≤ 140737488355328) := HS.out.ra _ (getD_mem A nrd i hil)
      have HCL : Hid (∀ M : List (Value × List Ak), shp M = shp C → i < M.length ∧ (M.getD i nrd).1 = (C.getD i nrd).1 ∧ (M.getD i nrd).2.length = (A.getD i nrd).2.length) := fun M hM => ⟨by rw [shp_len hM]; have := HNA.out; omega, (shp_get hM i).1, (shp_get hM i).2.trans (HLA.out i)⟩
      obtain ⟨l, hl⟩ : ∃ l, (A.getD i nrd).2 = l := ⟨_, rfl⟩
      rw [hl] at q2 q3 HSZ HCL
      obtain ⟨ml, hml⟩ : ∃ m, l.length = m := ⟨_, rfl⟩
      have HML : Hid (l.length = ml) := hml
      rw [hml] at q2 q3 HSZ HCL
      have HR : Hid (Rw w0 (.slice a ml c) ml (flat af l)) := q3
      have KW : Hid (∀ W, Below w0.heap.size w0 W → W.cell? ⟨g, oo + i, none⟩ = some (.slice a ml c)) := fun W hW => below_cell hW q2
      clear hml hl q0 q1 q2 q3 hil
      have e1 : decide ((i : Int) < (nA : Int)) = true := by rw [decide_eq_true_eq]; omega
      have e2 : decide (i < nA) = true := by rw [decide_eq_true_eq]; omega
      have e5 : (i : Int) < (nA : Int) := by omega
      have e6 : i < nA := hi
      have HIL : Hid (i < nA) := hi
      have hwr := w64n i (by have := HBT.out; have := HIL.out; omega)
      clear hi
      go_upto_region 5 with fail
      clear e1 e2 cb
      go_loopg [5] ml (fun gm v5 wr => ∃ j : Nat, v5 = .int .i64 (j : Int) ∧ Hid (j ≤ ml ∧ gm = ml - j) ∧ ∃ CT DT, Hid (CnA w0.heap.size wr g0 k0 CT) ∧ Hid (CnG w0.heap.size wr g1 k1 DT) ∧ Hid (shp CT = shp C ∧ shp DT = shp D) ∧ Hid (Below w0.heap.size w0 wr) ∧ Hid (Kt w wr) ∧ Hid (B2 wr ga gb (.slice (some ⟨g0, 0, none⟩) nA k0) (.slice (some ⟨g1, 0, none⟩) nG k1) (.slice (some ⟨g, oo, none⟩) nA c0) (.slice a1 nG c1)))
      case atStart => exact ⟨0, rfl, ⟨Nat.zero_le _, rfl⟩, _, _, HCT, HDT, HSH, HBW, HK, HX⟩
      case round =>
        clear HCT HDT HSH HBW HK HX
        obtain ⟨j, rfl, HJ, CT, DT, HCT, HDT, HSH, HBW, HK, HX⟩ := hrel
        have cb := rcell HX.out.b 0 _ rfl
        have kd := KW.out _ HBW.out
        by_cases hj : j < ml
        · obtain ⟨g2, o2, cap2, e0, hc⟩ := HR.out.place (by omega)
          obtain ⟨rfl, -, rfl⟩ := Value.slice.inj e0
          obtain ⟨p, hp⟩ : ∃ p, p = ml - 1 - j := ⟨_, rfl⟩
          obtain ⟨L1, L2, L3⟩ := HCL.out CT HSH.out.1
          obtain ⟨gr, cr, r0, r1, r2⟩ := HCT.out.row i L1
          rw [L3] at r0 r1 r2
          have HRO : Hid (wr.ownsRow w0.heap.size 38 2 (.slice (some ⟨gr, 0, none⟩) ml cr) ml (flat af (CT.getD i nrd).2)) := r2
          have HRC : Hid (wr.cell? ⟨g0, i, none⟩ = some (.slice (some ⟨gr, 0, none⟩) ml cr)) := r1
          have HBG : Hid (w0.heap.size ≤ gr ∧ ∃ cur, wr.heap[gr]? = some (.cells cur 38 (0, 0))) := row_tag r2 gr rfl
          have HGG : Hid (w0.heap.size ≤ g0 ∧ ∃ cur, wr.heap[g0]? = some (.cells cur 35 (0, 0))) := row_tag HCT.out.t g0 rfl
          obtain ⟨q0, q1⟩ := af_get l p (by rw [HML.out]; omega)
          obtain ⟨x, hx⟩ : ∃ x, l.getD p akd = x := ⟨_, rfl⟩
          rw [hx] at q0 q1
          obtain ⟨y0, y1⟩ := x
          dsimp only at q0 q1
          have KV : Hid (∀ W, Below w0.heap.size w0 W → W.cell? ⟨g2, o2 + p * 2, none⟩ = some (.int .i64 y0) ∧ W.cell? ⟨g2, o2 + p * 2 + 1, none⟩ = some (.int .i64 y1)) := fun W hW => ⟨below_cell hW (hc _ _ q0), by rw [Nat.add_assoc]; exact below_cell hW (hc _ _ q1)⟩
          obtain ⟨q0', q1'⟩ := af_get (CT.getD i nrd).2 j (by rw [L3]; exact hj)
          have HTC : Hid (wr.cell? ⟨gr, j * 2, none⟩ = some (.int .i64 ((CT.getD i nrd).2.getD j akd).1) ∧ wr.cell? ⟨gr, j * 2 + 1, none⟩ = some (.int .i64 ((CT.getD i nrd).2.getD j akd).2)) := ⟨row_at r2 _ _ q0', row_at r2 _ _ q1'⟩
          clear q0 q1 hx q0' q1'
          have t1 : decide ((j : Int) < (ml : Int)) = true := by rw [decide_eq_true_eq]; omega
          have t2 : decide (j < ml) = true := by rw [decide_eq_true_eq]; omega
          have t5 : (j : Int) < (ml : Int) := by omega
          have t6 : j < ml := hj
          have HJL : Hid (j < ml) := hj
          have hwj := w64n j (by have := HSZ.out; have := HJL.out; omega)
          have hs1 : IntKind.i64.wrap ((ml : Int) - 1) = (ml : Int) - 1 := by have := HSZ.out; rw [IntKind.wrap_i64]; omega
          have hs2 : IntKind.i64.wrap ((ml : Int) - 1 - (j : Int)) = (p : Int) := by have := HSZ.out; rw [IntKind.wrap_i64]; omega
          have t7 : (p : Int) < (ml : Int) := by omega
          have t8 : p < ml := by omega
          clear hj e0 hc hp L1 L2 L3 r0 r1 r2
          go_upto_region 7 with fail
          clear cb kd
          obtain ⟨WD, hWD⟩ : ∃ WD, wr.drew = WD := ⟨_, rfl⟩
          have BD : Hid (Below wr.heap.size wr WD) := by rw [← hWD]; exact Below.drew (Below.refl _ _)
          have BWD : Hid (Below w0.heap.size w0 WD) := below_trans HBW.out BD.out
          have XD : Hid _ := HX.out.up BD.out
          have CD : Hid (CnA w0.heap.size WD g0 k0 CT) := HCT.out.up BD.out
          have DD : Hid (CnG w0.heap.size WD g1 k1 DT) := HDT.out.up BD.out
          have kd := KW.out WD BWD.out
          have kv := KV.out WD BWD.out
          have kr := below_cell BD.out HRC.out
          have HGD : Hid (∃ cur, WD.heap[gr]? = some (.cells cur 38 (0, 0))) := by obtain ⟨cur, hcur⟩ := HBG.out.2; exact ⟨cur, (BD.out.block _ (lt_of_heap hcur)).trans hcur⟩
          have s0 := below_cell BD.out HTC.out.1
          have s1 := below_cell BD.out HTC.out.2
          have z0 : WD.frozen? ⟨gr, j * 2, none⟩ = false := by obtain ⟨cur, hcur⟩ := HGD.out; exact Lib.frozen_of_heap hcur _
          have z1 : WD.frozen? ⟨gr, j * 2 + 1, none⟩ = false := by obtain ⟨cur, hcur⟩ := HGD.out; exact Lib.frozen_of_heap hcur _
          refine wp_region_noPanic ?_
          refine wp_region_held_drew (S := fun W => W.cell? ⟨g2, o2 + p * 2, none⟩ = some (.int .i64 y0) ∧ W.cell? ⟨g2, o2 + p * 2 + 1, none⟩ = some (.int .i64 y1) ∧ W.cell? ⟨g, oo + i, none⟩ = some (.slice (some ⟨g2, o2, none⟩) ml c) ∧ W.cell? ⟨g0, i, none⟩ = some (.slice (some ⟨gr, 0, none⟩) ml cr) ∧ W.cell? ⟨ga, 0, none⟩ = some (.slice (some ⟨g0, 0, none⟩) nA k0) ∧ W.cell? ⟨gb, 0, none⟩ = some (.slice (some ⟨g, oo, none⟩) nA c0)) (by kernel_rfl) (by rw [hWD]; exact ⟨kv.1, kv.2, kd, kr, rcell XD.out.a 0 _ rfl, rcell XD.out.b 0 _ rfl⟩) (fun hHeld => ?_)
          rw [hWD] at hHeld ⊢
          clear hWD
          refine wpAnyH_take (i := 0) (oi := { dst := _, op := _, type := _, pos := _, after := _, guard := _ }) (v := ?_) rfl (by kernel_rfl) (by kernel_rfl) (by kernel_rfl) (fun _ _ _ h => h) (Or.inl ⟨by rfl, ?_⟩) (by assumption) ?_
          rotate_left
          · intro W hSw
            (try dsimp only at hSw)
            go_simp
            (try with_reducible rfl)
          try simp only [Act.put, List.setIfInBounds_toArray, List.set_cons_zero, List.set_cons_succ]
          refine wpAnyH_take (i := 1) (oi := { dst := _, op := _, type := _, pos := _, after := _, guard := _ }) (v := ?_) rfl (by kernel_rfl) (by kernel_rfl) (by kernel_rfl) (fun _ _ _ h => h) (Or.inl ⟨by rfl, ?_⟩) (by assumption) ?_
          rotate_left
          · intro W hSw
            (try dsimp only at hSw)
            go_simp
            (try with_reducible rfl)
          try simp only [Act.put, List.setIfInBounds_toArray, List.set_cons_zero, List.set_cons_succ]
          refine wpAnyH_take (i := 2) (oi := { dst := _, op := _, type := _, pos := _, after := _, guard := _ }) (v := ?_) rfl (by kernel_rfl) (by kernel_rfl) (by kernel_rfl) (fun _ _ _ h => h) (Or.inl ⟨by rfl, ?_⟩) (by assumption) ?_
          rotate_left
          · intro W hSw
            (try dsimp only at hSw)
            go_simp
            (try with_reducible rfl)
          try simp only [Act.put, List.setIfInBounds_toArray, List.set_cons_zero, List.set_cons_succ]
          refine wpAnyH_take (i := 3) (oi := { dst := _, op := _, type := _, pos := _, after := _, guard := _ }) (v := ?_) rfl (by kernel_rfl) (by kernel_rfl) (by kernel_rfl) (fun _ _ _ h => h) (Or.inl ⟨by rfl, ?_⟩) (by assumption) ?_
          rotate_left
          · intro W hSw
            (try dsimp only at hSw)
            go_simp
            (try with_reducible rfl)
          try simp only [Act.put, List.setIfInBounds_toArray, List.set_cons_zero, List.set_cons_succ]
          refine wpAnyH_take (i := 4) (oi := { dst := _, op := _, type := _, pos := _, after := _, guard := _ }) (v := ?_) rfl (by kernel_rfl) (by kernel_rfl) (by kernel_rfl) (fun _ _ _ h => h) (Or.inl ⟨by rfl, ?_⟩) (by assumption) ?_
          rotate_left
          · intro W hSw
            (try dsimp only at hSw)
            go_simp
            (try with_reducible rfl)
          try simp only [Act.put, List.setIfInBounds_toArray, List.set_cons_zero, List.set_cons_succ]
          refine wpAnyH_take (i := 5) (oi := { dst := _, op := _, type := _, pos := _, after := _, guard := _ }) (v := ?_) rfl (by kernel_rfl) (by kernel_rfl) (by kernel_rfl) (fun _ _ _ h => h) (Or.inl ⟨by rfl, ?_⟩) (by assumption) ?_
          rotate_left
          · intro W hSw
            (try dsimp only at hSw)
            go_simp
            (try with_reducible rfl)
          try simp only [Act.put, List.setIfInBounds_toArray, List.set_cons_zero, List.set_cons_succ]
          refine wpAnyH_take (i := 6) (oi := { dst := _, op := _, type := _, pos := _, after := _, guard := _ }) (v := ?_) rfl (by kernel_rfl) (by kernel_rfl) (by kernel_rfl) (fun _ _ _ h => h) (Or.inl ⟨by rfl, ?_⟩) (by assumption) ?_
          rotate_left
          · intro W hSw
            (try dsimp only at hSw)
            go_simp
            (try with_reducible rfl)
          try simp only [Act.put, List.setIfInBounds_toArray, List.set_cons_zero, List.set_cons_succ]
          refine wpAnyH_take (i := 7) (oi := { dst := _, op := _, type := _, pos := _, after := _, guard := _ }) (v := ?_) rfl (by kernel_rfl) (by kernel_rfl) (by kernel_rfl) (fun _ _ _ h => h) (Or.inl ⟨by rfl, ?_⟩) (by assumption) ?_
          rotate_left
          · intro W hSw
            (try dsimp only at hSw)
            go_simp
            (try with_reducible rfl)
          try simp only [Act.put, List.setIfInBounds_toArray, List.set_cons_zero, List.set_cons_succ]
          refine wpAnyH_take (i := 8) (oi := { dst := _, op := _, type := _, pos := _, after := _, guard := _ }) (v := ?_) rfl (by kernel_rfl) (by kernel_rfl) (by kernel_rfl) (fun _ _ _ h => h) (Or.inl ⟨by rfl, ?_⟩) (by assumption) ?_
          rotate_left
          · intro W hSw
            (try dsimp only at hSw)
            go_simp
            (try with_reducible rfl)
          try simp only [Act.put, List.setIfInBounds_toArray, List.set_cons_zero, List.set_cons_succ]
          refine wpAnyH_take (i := 9) (oi := { dst := _, op := _, type := _, pos := _, after := _, guard := _ }) (v := ?_) rfl (by kernel_rfl) (by kernel_rfl) (by kernel_rfl) (fun _ _ _ h => h) (Or.inl ⟨by rfl, ?_⟩) (by assumption) ?_
          rotate_left
          · intro W hSw
            (try dsimp only at hSw)
            go_simp
            (try with_reducible rfl)
          try simp only [Act.put, List.setIfInBounds_toArray, List.set_cons_zero, List.set_cons_succ]
          refine wpAnyH_take (i := 10) (oi := { dst := _, op := _, type := _, pos := _, after := _, guard := _ }) (v := ?_) rfl (by kernel_rfl) (by kernel_rfl) (by kernel_rfl) (fun _ _ _ h => h) (Or.inl ⟨by rfl, ?_⟩) (by assumption) ?_
          rotate_left
          · intro W hSw
            (try dsimp only at hSw)
            go_simp
            (try with_reducible rfl)
          try simp only [Act.put, List.setIfInBounds_toArray, List.set_cons_zero, List.set_cons_succ]
          refine wpAnyH_take (i := 11) (oi := { dst := _, op := _, type := _, pos := _, after := _, guard := _ }) (v := ?_) rfl (by kernel_rfl) (by kernel_rfl) (by kernel_rfl) (fun _ _ _ h => h) (Or.inl ⟨by rfl, ?_⟩) (by assumption) ?_
          rotate_left
          · intro W hSw
            (try dsimp only at hSw)
            go_simp
            (try with_reducible rfl)
          try simp only [Act.put, List.setIfInBounds_toArray, List.set_cons_zero, List.set_cons_succ]
          refine wpAnyH_take (i := 12) (oi := { dst := _, op := _, type := _, pos := _, after := _, guard := _ }) (v := ?_) rfl (by kernel_rfl) (by kernel_rfl) (by kernel_rfl) (fun _ _ _ h => h) (Or.inl ⟨by rfl, ?_⟩) (by assumption) ?_
          rotate_left
          · intro W hSw
            (try dsimp only at hSw)
            go_simp
            (try with_reducible rfl)
          try simp only [Act.put, List.setIfInBounds_toArray, List.set_cons_zero, List.set_cons_succ]
          refine wpAnyH_take (i := 13) (oi := { dst := _, op := _, type := _, pos := _, after := _, guard := _ }) (v := ?_) rfl (by kernel_rfl) (by kernel_rfl) (by kernel_rfl) (fun _ _ _ h => h) (Or.inl ⟨by rfl, ?_⟩) (by assumption) ?_
          rotate_left
          · intro W hSw
            (try dsimp only at hSw)
            go_simp
            (try with_reducible rfl)
          try simp only [Act.put, List.setIfInBounds_toArray, List.set_cons_zero, List.set_cons_succ]
          refine wpAnyH_take (i := 14) (oi := { dst := _, op := _, type := _, pos := _, after := _, guard := _ }) (v := ?_) rfl (by kernel_rfl) (by kernel_rfl) (by kernel_rfl) (fun _ _ _ h => h) (Or.inl ⟨by rfl, ?_⟩) (by assumption) ?_
          rotate_left
          · intro W hSw
            (try dsimp only at hSw)
            go_simp
            (try with_reducible rfl)
          try simp only [Act.put, List.setIfInBounds_toArray, List.set_cons_zero, List.set_cons_succ]
          refine wpAnyH_take (i := 15) (oi := { dst := _, op := _, type := _, pos := _, after := _, guard := _ }) (v := ?_) rfl (by kernel_rfl) (by kernel_rfl) (by kernel_rfl) (fun _ _ _ h => h) (Or.inl ⟨by rfl, ?_⟩) (by assumption) ?_
          rotate_left
          · intro W hSw
            (try dsimp only at hSw)
            go_simp
            (try with_reducible rfl)
          try simp only [Act.put, List.setIfInBounds_toArray, List.set_cons_zero, List.set_cons_succ]
          refine wpAnyH_take (i := 16) (oi := { dst := _, op := _, type := _, pos := _, after := _, guard := _ }) (v := ?_) rfl (by kernel_rfl) (by kernel_rfl) (by kernel_rfl) (fun _ _ _ h => h) (Or.inl ⟨by rfl, ?_⟩) (by assumption) ?_
          rotate_left
          · intro W hSw
            (try dsimp only at hSw)
            go_simp
            (try with_reducible rfl)
          try simp only [Act.put, List.setIfInBounds_toArray, List.set_cons_zero, List.set_cons_succ]
          refine wpAnyH_take (i := 17) (oi := { dst := _, op := _, type := _, pos := _, after := _, guard := _ }) (v := ?_) rfl (by kernel_rfl) (by kernel_rfl) (by kernel_rfl) (fun _ _ _ h => h) (Or.inl ⟨by rfl, ?_⟩) (by assumption) ?_
          rotate_left
          · intro W hSw
            (try dsimp only at hSw)
            go_simp
            (try with_reducible rfl)
          try simp only [Act.put, List.setIfInBounds_toArray, List.set_cons_zero, List.set_cons_succ]
          refine wpAnyH_take (i := 18) (oi := { dst := _, op := _, type := _, pos := _, after := _, guard := _ }) (v := ?_) rfl (by kernel_rfl) (by kernel_rfl) (by kernel_rfl) (fun _ _ _ h => h) (Or.inl ⟨by rfl, ?_⟩) (by assumption) ?_
          rotate_left
          · intro W hSw
            (try dsimp only at hSw)
            go_simp
            (try with_reducible rfl)
          try simp only [Act.put, List.setIfInBounds_toArray, List.set_cons_zero, List.set_cons_succ]
          refine wpAnyH_take (i := 19) (oi := { dst := _, op := _, type := _, pos := _, after := _, guard := _ }) (v := ?_) rfl (by kernel_rfl) (by kernel_rfl) (by kernel_rfl) (fun _ _ _ h => h) (Or.inl ⟨by rfl, ?_⟩) (by assumption) ?_
          rotate_left
          · intro W hSw
            (try dsimp only at hSw)
            go_simp
            (try with_reducible rfl)
          try simp only [Act.put, List.setIfInBounds_toArray, List.set_cons_zero, List.set_cons_succ]
          refine wpAnyH_take (i := 20) (oi := { dst := _, op := _, type := _, pos := _, after := _, guard := _ }) (v := ?_) rfl (by kernel_rfl) (by kernel_rfl) (by kernel_rfl) (fun _ _ _ h => h) (Or.inl ⟨by rfl, ?_⟩) (by assumption) ?_
          rotate_left
          · intro W hSw
            (try dsimp only at hSw)
            go_simp
            (try with_reducible rfl)
          try simp only [Act.put, List.setIfInBounds_toArray, List.set_cons_zero, List.set_cons_succ]
          refine wpAnyH_take (i := 21) (oi := { dst := _, op := _, type := _, pos := _, after := _, guard := _ }) (v := ?_) rfl (by kernel_rfl) (by kernel_rfl) (by kernel_rfl) (fun _ _ _ h => h) (Or.inl ⟨by rfl, ?_⟩) (by assumption) ?_
          rotate_left
          · intro W hSw
            (try dsimp only at hSw)
            go_simp
            (try with_reducible rfl)
          try simp only [Act.put, List.setIfInBounds_toArray, List.set_cons_zero, List.set_cons_succ]
          refine wpAnyH_take (i := 22) (oi := { dst := _, op := _, type := _, pos := _, after := _, guard := _ }) (v := ?_) rfl (by kernel_rfl) (by kernel_rfl) (by kernel_rfl) (fun _ _ _ h => h) (Or.inl ⟨by rfl, ?_⟩) (by assumption) ?_
          rotate_left
          · intro W hSw
            (try dsimp only at hSw)
            go_simp
            (try with_reducible rfl)
          try simp only [Act.put, List.setIfInBounds_toArray, List.set_cons_zero, List.set_cons_succ]
          refine wpAnyH_ready (rs := [23]) (by kernel_rfl) (by simp) ?_
          refine AllReadyH.cons (o := { dst := _, op := _, type := _, pos := _, after := _, guard := _ }) rfl (fun K hK => ?_) AllReadyH.nil
          go_simp
          have BE : Hid (Below w0.heap.size w0 (put2 WD gr j (y0, y1))) := put_below (y0, y1) BWD.out HBG.out.1
          have KE : Hid (Kt WD (put2 WD gr j (y0, y1))) := show Kt _ _ from fun b cs eb => by obtain ⟨cur, hcur⟩ := HGD.out; exact put_blk (y0, y1) eb hcur (by decide)
          have XE : Hid _ := XD.out.kt KE.out
          have OE : Hid ((put2 WD gr j (y0, y1)).cell? ⟨g0, i, none⟩ = some (.slice (some ⟨gr, 0, none⟩) ml cr)) := by
            obtain ⟨cur, hcur⟩ := HGD.out
            obtain ⟨-, cu2, hcu2⟩ := row_tag CD.out.t g0 rfl
            have h9 := put_blk (g := gr) (j := j) (y0, y1) hcu2 hcur (by decide)
            show World.cell? _ _ = _
            rw [Lib.cell_of_heap h9, ← Lib.cell_of_heap hcu2]
            exact kr
          have kz := KV.out _ BE.out
          refine hK.out _ _ ?_ (fun hHeld => ?_)
          · exact ⟨kz.1, kz.2, KW.out _ BE.out, OE.out, rcell XE.out.a 0 _ rfl, rcell XE.out.b 0 _ rfl⟩
          clear hK K
          try simp only [Act.put, List.setIfInBounds_toArray, List.set_cons_zero, List.set_cons_succ]
          refine wpAnyH_done (by kernel_rfl) ?_ _
          refine NoPanic.normal ?_
          clear hHeld
          have HST : Hid (∃ CE DE, CnA w0.heap.size (put2 WD gr j (y0, y1)) g0 k0 CE ∧ CnG w0.heap.size (put2 WD gr j (y0, y1)) g1 k1 DE ∧ shp CE = shp C ∧ shp DE = shp D) := by
            obtain ⟨cur, hcur⟩ := HGD.out
            obtain ⟨CE, h1, h2⟩ := CD.out.put (W' := put2 WD gr j (y0, y1)) (fun v n l hh => row_put (y0, y1) hh) (fun hh => put_off (y0, y1) hh hcur (by decide))
            exact ⟨CE, DT, h1, DD.out.off2 (y0, y1) hcur, Eq.trans h2 HSH.out.1, HSH.out.2⟩
          obtain ⟨CE, DE, hce, hde, hsh1, hsh2⟩ := HST.out
          have HCE : Hid _ := hce
          have HDE : Hid _ := hde
          have HSE : Hid (shp CE = shp C ∧ shp DE = shp D) := ⟨hsh1, hsh2⟩
          have HKE : Hid _ := (HK.out.trans (Kt.up BD.out)).trans KE.out
          clear hce hde hsh1 hsh2 HST kd kv kr s0 z0 kz s1 z1
          go_wp2_with fail
          go_roundg (ml - (j + 1))
          case measure => have := HJ.out; have := HJL.out; omega
          case rel => exact ⟨j + 1, by first | rfl | (rw [show (j : Int) + 1 = ((j + 1 : Nat) : Int) by omega]), ⟨HJL.out, rfl⟩, _, _, HCE, HDE, HSE, BE, HKE, XE⟩
        · have t1 : decide ((j : Int) < (ml : Int)) = false := by rw [decide_eq_false_iff_not]; omega
          have t2 : decide (j < ml) = false := by rw [decide_eq_false_iff_not]; omega
          clear hj
          go_wp2_with fail
          go_roundg (nA - (i + 1))
          case measure => have := HI.out; have := HIL.out; omega
          case rel => exact ⟨i + 1, by first | rfl | (rw [show (i : Int) + 1 = ((i + 1 : Nat) : Int) by omega]), ⟨HIL.out, rfl⟩, _, _, HCT, HDT, HSH, HBW, HK, HX⟩
    · have e1 : decide ((i : Int) < (nA : Int)) = false := by rw [decide_eq_false_iff_not]; omega
      have e2 : decide (i < nA) = false := by rw [decide_eq_false_iff_not]; omega
      clear hi
      go_upto_region 8 with fail
      clear e1 e2 cb HI
      obtain ⟨V, hV⟩ : ∃ V, V = wr := ⟨_, rfl⟩
      rw [← hV] at HCT HDT HBW HK HX ⊢
      have HCV : Hid _ := HCT.out
      have HDV : Hid _ := HDT.out
      have HBV : Hid _ := HBW.out
      have HKV : Hid (Kt w V) := HK.out
      have HXV : Hid (B2 V ga gb (.slice (some ⟨g0, 0, none⟩) nA k0) (.slice (some ⟨g1, 0, none⟩) nG k1) (.slice a0 nA c0) (.slice a1 nG c1)) := HX.out
      clear hV HCT HDT HBW HK HX
      go_upto_region 9 with fail
      go_loopg [6] nG (fun gm v6 wr => ∃ i : Nat, v6 = .int .i64 (i : Int) ∧ Hid (i ≤ nG ∧ gm = nG - i) ∧ ∃ CT DT, Hid (CnA w0.heap.size wr g0 k0 CT) ∧ Hid (CnG w0.heap.size wr g1 k1 DT) ∧ Hid (shp CT = shp C ∧ shp DT = shp D) ∧ Hid (Below w0.heap.size w0 wr) ∧ Hid (Kt w wr) ∧ Hid (B2 wr ga gb (.slice (some ⟨g0, 0, none⟩) nA k0) (.slice (some ⟨g1, 0, none⟩) nG k1) (.slice a0 nA c0) (.slice a1 nG c1)))
      case atStart => exact ⟨0, rfl, ⟨Nat.zero_le _, rfl⟩, _, _, HCV, HDV, HSH, HBV, HKV, HXV⟩
      case round =>
        clear HBV HXV HCV HDV HKV HSH
        obtain ⟨i, rfl, HI, CT, DT, HCT, HDT, HSH, HBW, HK, HX⟩ := hrel
        have cb := rcell HX.out.b 1 _ rfl
        by_cases hi : i < nG
        · have hil : i < G.length := by have := HNG.out; omega
          obtain ⟨g, oo, cap, a, c, q0, q1, q2, q3⟩ := HT.out.g.at i hil
          obtain ⟨rfl, -, rfl⟩ := Value.slice.inj q0
          have HSZ : Hid ((G.getD i nrd).2.length * 8 + 4096 ≤ 140737488355328) := HS.out.rg _ (getD_mem G nrd i hil)
          have HCL : Hid (∀ M : List (Value × List Int), shp M = shp D → i < M.length ∧ (M.getD i nrd).1 = (D.getD i nrd).1 ∧ (M.getD i nrd).2.length = (G.getD i nrd).2.length) := fun M hM => ⟨by rw [shp_len hM]; have := HNG.out; omega, (shp_get hM i).1, (shp_get hM i).2.trans (HLG.out i)⟩
          obtain ⟨l, hl⟩ : ∃ l, (G.getD i nrd).2 = l := ⟨_, rfl⟩
          rw [hl] at q2 q3 HSZ HCL
          obtain ⟨ml, hml⟩ : ∃ m, l.length = m := ⟨_, rfl⟩
          have HML : Hid (l.length = ml) := hml
          rw [hml] at q2 q3 HSZ HCL
          have HR : Hid (Rw w0 (.slice a ml c) ml (flat gf l)) := q3
          have KW : Hid (∀ W, Below w0.heap.size w0 W → W.cell? ⟨g, oo + i, none⟩ = some (.slice a ml c)) := fun W hW => below_cell hW q2
          clear hml hl q0 q1 q2 q3 hil
          have e1 : decide ((i : Int) < (nG : Int)) = true := by rw [decide_eq_true_eq]; omega
          have e2 : decide (i < nG) = true := by rw [decide_eq_true_eq]; omega
          have e5 : (i : Int) < (nG : Int) := by omega
          have e6 : i < nG := hi
          have HIL : Hid (i < nG) := hi
          have hwr := w64n i (by have := HBT.out; have := HIL.out; omega)
          clear hi
          go_upto_region 12 with fail
          clear e1 e2 cb
          go_loopg [7] ml (fun gm v7 wr => ∃ j : Nat, v7 = .int .i64 (j : Int) ∧ Hid (j ≤ ml ∧ gm = ml - j) ∧ ∃ CT DT, Hid (CnA w0.heap.size wr g0 k0 CT) ∧ Hid (CnG w0.heap.size wr g1 k1 DT) ∧ Hid (shp CT = shp C ∧ shp DT = shp D) ∧ Hid (Below w0.heap.size w0 wr) ∧ Hid (Kt w wr) ∧ Hid (B2 wr ga gb (.slice (some ⟨g0, 0, none⟩) nA k0) (.slice (some ⟨g1, 0, none⟩) nG k1) (.slice a0 nA c0) (.slice (some ⟨g, oo, none⟩) nG c1)))
          case atStart => exact ⟨0, rfl, ⟨Nat.zero_le _, rfl⟩, _, _, HCT, HDT, HSH, HBW, HK, HX⟩
          case round =>
            clear HCT HDT HSH HBW HK HX
            obtain ⟨j, rfl, HJ, CT, DT, HCT, HDT, HSH, HBW, HK, HX⟩ := hrel
            have cb := rcell HX.out.b 1 _ rfl
            have kd := KW.out _ HBW.out
            by_cases hj : j < ml
            · obtain ⟨g2, o2, cap2, e0, hc⟩ := HR.out.place (by omega)
              obtain ⟨rfl, -, rfl⟩ := Value.slice.inj e0
              obtain ⟨p, hp⟩ : ∃ p, p = ml - 1 - j := ⟨_, rfl⟩
              obtain ⟨L1, L2, L3⟩ := HCL.out DT HSH.out.2
              obtain ⟨gr, cr, r0, r1, r2⟩ := HDT.out.row i L1
              rw [L3] at r0 r1 r2
              have HRO : Hid (wr.ownsRow w0.heap.size 3 1 (.slice (some ⟨gr, 0, none⟩) ml cr) ml (flat gf (DT.getD i nrd).2)) := r2
              have HRC : Hid (wr.cell? ⟨g1, i, none⟩ = some (.slice (some ⟨gr, 0, none⟩) ml cr)) := r1
              have HBG : Hid (w0.heap.size ≤ gr ∧ ∃ cur, wr.heap[gr]? = some (.cells cur 3 (0, 0))) := row_tag r2 gr rfl
              have HGG : Hid (w0.heap.size ≤ g1 ∧ ∃ cur, wr.heap[g1]? = some (.cells cur 39 (0, 0))) := row_tag HDT.out.t g1 rfl
              have q0 := gf_get l p (by rw [HML.out]; omega)
              obtain ⟨y0, hx⟩ : ∃ x, l.getD p 0 = x := ⟨_, rfl⟩
              rw [hx] at q0
              have KV : Hid (∀ W, Below w0.heap.size w0 W → W.cell? ⟨g2, o2 + p, none⟩ = some (.int .i64 y0)) := fun W hW => below_cell hW (hc _ _ q0)
              have q0' := gf_get (DT.getD i nrd).2 j (by rw [L3]; exact hj)
              have HTC : Hid (wr.cell? ⟨gr, j, none⟩ = some (.int .i64 ((DT.getD i nrd).2.getD j 0))) := row_at r2 _ _ q0'
              clear q0 hx q0'
              have t1 : decide ((j : Int) < (ml : Int)) = true := by rw [decide_eq_true_eq]; omega
              have t2 : decide (j < ml) = true := by rw [decide_eq_true_eq]; omega
              have t5 : (j : Int) < (ml : Int) := by omega
              have t6 : j < ml := hj
              have HJL : Hid (j < ml) := hj
              have hwj := w64n j (by have := HSZ.out; have := HJL.out; omega)
              have hs1 : IntKind.i64.wrap ((ml : Int) - 1) = (ml : Int) - 1 := by have := HSZ.out; rw [IntKind.wrap_i64]; omega
              have hs2 : IntKind.i64.wrap ((ml : Int) - 1 - (j : Int)) = (p : Int) := by have := HSZ.out; rw [IntKind.wrap_i64]; omega
              have t7 : (p : Int) < (ml : Int) := by omega
              have t8 : p < ml := by omega
              clear hj e0 hc hp L1 L2 L3 r0 r1 r2
              go_upto_region 14 with fail
              clear cb kd
              obtain ⟨WD, hWD⟩ : ∃ WD, wr.drew = WD := ⟨_, rfl⟩
              have BD : Hid (Below wr.heap.size wr WD) := by rw [← hWD]; exact Below.drew (Below.refl _ _)
              have BWD : Hid (Below w0.heap.size w0 WD) := below_trans HBW.out BD.out
              have XD : Hid _ := HX.out.up BD.out
              have CD : Hid (CnA w0.heap.size WD g0 k0 CT) := HCT.out.up BD.out
              have DD : Hid (CnG w0.heap.size WD g1 k1 DT) := HDT.out.up BD.out
              have kd := KW.out WD BWD.out
              have kv := KV.out WD BWD.out
              have kr := below_cell BD.out HRC.out
              have HGD : Hid (∃ cur, WD.heap[gr]? = some (.cells cur 3 (0, 0))) := by obtain ⟨cur, hcur⟩ := HBG.out.2; exact ⟨cur, (BD.out.block _ (lt_of_heap hcur)).trans hcur⟩
              have s0 := below_cell BD.out HTC.out
              have z0 : WD.frozen? ⟨gr, j, none⟩ = false := by obtain ⟨cur, hcur⟩ := HGD.out; exact Lib.frozen_of_heap hcur _
              refine wp_region_noPanic ?_
              refine wp_region_held_drew (S := fun W => W.cell? ⟨g2, o2 + p, none⟩ = some (.int .i64 y0) ∧ W.cell? ⟨g, oo + i, none⟩ = some (.slice (some ⟨g2, o2, none⟩) ml c) ∧ W.cell? ⟨g1, i, none⟩ = some (.slice (some ⟨gr, 0, none⟩) ml cr) ∧ W.cell? ⟨ga, 1, none⟩ = some (.slice (some ⟨g1, 0, none⟩) nG k1) ∧ W.cell? ⟨gb, 1, none⟩ = some (.slice (some ⟨g, oo, none⟩) nG c1)) (by kernel_rfl) (by rw [hWD]; exact ⟨kv, kd, kr, rcell XD.out.a 1 _ rfl, rcell XD.out.b 1 _ rfl⟩) (fun hHeld => ?_)
              rw [hWD] at hHeld ⊢
              clear hWD
              refine wpAnyH_take (i := 0) (oi := { dst := _, op := _, type := _, pos := _, after := _, guard := _ }) (v := ?_) rfl (by kernel_rfl) (by kernel_rfl) (by kernel_rfl) (fun _ _ _ h => h) (Or.inl ⟨by rfl, ?_⟩) (by assumption) ?_
              rotate_left
              · intro W hSw
                (try dsimp only at hSw)
                go_simp
                (try with_reducible rfl)
              try simp only [Act.put, List.setIfInBounds_toArray, List.set_cons_zero, List.set_cons_succ]
              refine wpAnyH_take (i := 1) (oi := { dst := _, op := _, type := _, pos := _, after := _, guard := _ }) (v := ?_) rfl (by kernel_rfl) (by kernel_rfl) (by kernel_rfl) (fun _ _ _ h => h) (Or.inl ⟨by rfl, ?_⟩) (by assumption) ?_
              rotate_left
              · intro W hSw
                (try dsimp only at hSw)
                go_simp
                (try with_reducible rfl)
              try simp only [Act.put, List.setIfInBounds_toArray, List.set_cons_zero, List.set_cons_succ]
              refine wpAnyH_take (i := 2) (oi := { dst := _, op := _, type := _, pos := _, after := _, guard := _ }) (v := ?_) rfl (by kernel_rfl) (by kernel_rfl) (by kernel_rfl) (fun _ _ _ h => h) (Or.inl ⟨by rfl, ?_⟩) (by assumption) ?_
              rotate_left
              · intro W hSw
                (try dsimp only at hSw)
                go_simp
                (try with_reducible rfl)
              try simp only [Act.put, List.setIfInBounds_toArray, List.set_cons_zero, List.set_cons_succ]
              refine wpAnyH_take (i := 3) (oi := { dst := _, op := _, type := _, pos := _, after := _, guard := _ }) (v := ?_) rfl (by kernel_rfl) (by kernel_rfl) (by kernel_rfl) (fun _ _ _ h => h) (Or.inl ⟨by rfl, ?_⟩) (by assumption) ?_
              rotate_left
              · intro W hSw
                (try dsimp only at hSw)
                go_simp
                (try with_reducible rfl)
              try simp only [Act.put, List.setIfInBounds_toArray, List.set_cons_zero, List.set_cons_succ]
              refine wpAnyH_take (i := 4) (oi := { dst := _, op := _, type := _, pos := _, after := _, guard := _ }) (v := ?_) rfl (by kernel_rfl) (by kernel_rfl) (by kernel_rfl) (fun _ _ _ h => h) (Or.inl ⟨by rfl, ?_⟩) (by assumption) ?_
              rotate_left
              · intro W hSw
                (try dsimp only at hSw)
                go_simp
                (try with_reducible rfl)
              try simp only [Act.put, List.setIfInBounds_toArray, List.set_cons_zero, List.set_cons_succ]
              refine wpAnyH_take (i := 5) (oi := { dst := _, op := _, type := _, pos := _, after := _, guard := _ }) (v := ?_) rfl (by kernel_rfl) (by kernel_rfl) (by kernel_rfl) (fun _ _ _ h => h) (Or.inl ⟨by rfl, ?_⟩) (by assumption) ?_
              rotate_left
              · intro W hSw
                (try dsimp only at hSw)
                go_simp
                (try with_reducible rfl)
              try simp only [Act.put, List.setIfInBounds_toArray, List.set_cons_zero, List.set_cons_succ]
              refine wpAnyH_take (i := 6) (oi := { dst := _, op := _, type := _, pos := _, after := _, guard := _ }) (v := ?_) rfl (by kernel_rfl) (by kernel_rfl) (by kernel_rfl) (fun _ _ _ h => h) (Or.inl ⟨by rfl, ?_⟩) (by assumption) ?_
              rotate_left
              · intro W hSw
                (try dsimp only at hSw)
                go_simp
                (try with_reducible rfl)
              try simp only [Act.put, List.setIfInBounds_toArray, List.set_cons_zero, List.set_cons_succ]
              refine wpAnyH_take (i := 7) (oi := { dst := _, op := _, type := _, pos := _, after := _, guard := _ }) (v := ?_) rfl (by kernel_rfl) (by kernel_rfl) (by kernel_rfl) (fun _ _ _ h => h) (Or.inl ⟨by rfl, ?_⟩) (by assumption) ?_
              rotate_left
              · intro W hSw
                (try dsimp only at hSw)
                go_simp
                (try with_reducible rfl)
              try simp only [Act.put, List.setIfInBounds_toArray, List.set_cons_zero, List.set_cons_succ]
              refine wpAnyH_take (i := 8) (oi := { dst := _, op := _, type := _, pos := _, after := _, guard := _ }) (v := ?_) rfl (by kernel_rfl) (by kernel_rfl) (by kernel_rfl) (fun _ _ _ h => h) (Or.inl ⟨by rfl, ?_⟩) (by assumption) ?_
              rotate_left
              · intro W hSw
                (try dsimp only at hSw)
                go_simp
                (try with_reducible rfl)
              try simp only [Act.put, List.setIfInBounds_toArray, List.set_cons_zero, List.set_cons_succ]
              refine wpAnyH_take (i := 9) (oi := { dst := _, op := _, type := _, pos := _, after := _, guard := _ }) (v := ?_) rfl (by kernel_rfl) (by kernel_rfl) (by kernel_rfl) (fun _ _ _ h => h) (Or.inl ⟨by rfl, ?_⟩) (by assumption) ?_
              rotate_left
              · intro W hSw
                (try dsimp only at hSw)
                go_simp
                (try with_reducible rfl)
              try simp only [Act.put, List.setIfInBounds_toArray, List.set_cons_zero, List.set_cons_succ]
              refine wpAnyH_take (i := 10) (oi := { dst := _, op := _, type := _, pos := _, after := _, guard := _ }) (v := ?_) rfl (by kernel_rfl) (by kernel_rfl) (by kernel_rfl) (fun _ _ _ h => h) (Or.inl ⟨by rfl, ?_⟩) (by assumption) ?_
              rotate_left
              · intro W hSw
                (try dsimp only at hSw)
                go_simp
                (try with_reducible rfl)
              try simp only [Act.put, List.setIfInBounds_toArray, List.set_cons_zero, List.set_cons_succ]
              refine wpAnyH_take (i := 11) (oi := { dst := _, op := _, type := _, pos := _, after := _, guard := _ }) (v := ?_) rfl (by kernel_rfl) (by kernel_rfl) (by kernel_rfl) (fun _ _ _ h => h) (Or.inl ⟨by rfl, ?_⟩) (by assumption) ?_
              rotate_left
              · intro W hSw
                (try dsimp only at hSw)
                go_simp
                (try with_reducible rfl)
              try simp only [Act.put, List.setIfInBounds_toArray, List.set_cons_zero, List.set_cons_succ]
              refine wpAnyH_take (i := 12) (oi := { dst := _, op := _, type := _, pos := _, after := _, guard := _ }) (v := ?_) rfl (by kernel_rfl) (by kernel_rfl) (by kernel_rfl) (fun _ _ _ h => h) (Or.inl ⟨by rfl, ?_⟩) (by assumption) ?_
              rotate_left
              · intro W hSw
                (try dsimp only at hSw)
                go_simp
                (try with_reducible rfl)
              try simp only [Act.put, List.setIfInBounds_toArray, List.set_cons_zero, List.set_cons_succ]
              refine wpAnyH_take (i := 13) (oi := { dst := _, op := _, type := _, pos := _, after := _, guard := _ }) (v := ?_) rfl (by kernel_rfl) (by kernel_rfl) (by kernel_rfl) (fun _ _ _ h => h) (Or.inl ⟨by rfl, ?_⟩) (by assumption) ?_
              rotate_left
              · intro W hSw
                (try dsimp only at hSw)
                go_simp
                (try with_reducible rfl)
              try simp only [Act.put, List.setIfInBounds_toArray, List.set_cons_zero, List.set_cons_succ]
              refine wpAnyH_take (i := 14) (oi := { dst := _, op := _, type := _, pos := _, after := _, guard := _ }) (v := ?_) rfl (by kernel_rfl) (by kernel_rfl) (by kernel_rfl) (fun _ _ _ h => h) (Or.inl ⟨by rfl, ?_⟩) (by assumption) ?_
              rotate_left
              · intro W hSw
                (try dsimp only at hSw)
                go_simp
                (try with_reducible rfl)
              try simp only [Act.put, List.setIfInBounds_toArray, List.set_cons_zero, List.set_cons_succ]
              refine wpAnyH_take (i := 15) (oi := { dst := _, op := _, type := _, pos := _, after := _, guard := _ }) (v := ?_) rfl (by kernel_rfl) (by kernel_rfl) (by kernel_rfl) (fun _ _ _ h => h) (Or.inl ⟨by rfl, ?_⟩) (by assumption) ?_
              rotate_left
              · intro W hSw
                (try dsimp only at hSw)
                go_simp
                (try with_reducible rfl)
              try simp only [Act.put, List.setIfInBounds_toArray, List.set_cons_zero, List.set_cons_succ]
              refine wpAnyH_take (i := 16) (oi := { dst := _, op := _, type := _, pos := _, after := _, guard := _ }) (v := ?_) rfl (by kernel_rfl) (by kernel_rfl) (by kernel_rfl) (fun _ _ _ h => h) (Or.inl ⟨by rfl, ?_⟩) (by assumption) ?_
              rotate_left
              · intro W hSw
                (try dsimp only at hSw)
                go_simp
                (try with_reducible rfl)
              try simp only [Act.put, List.setIfInBounds_toArray, List.set_cons_zero, List.set_cons_succ]
              refine wpAnyH_take (i := 17) (oi := { dst := _, op := _, type := _, pos := _, after := _, guard := _ }) (v := ?_) rfl (by kernel_rfl) (by kernel_rfl) (by kernel_rfl) (fun _ _ _ h => h) (Or.inl ⟨by rfl, ?_⟩) (by assumption) ?_
              rotate_left
              · intro W hSw
                (try dsimp only at hSw)
                go_simp
                (try with_reducible rfl)
              try simp only [Act.put, List.setIfInBounds_toArray, List.set_cons_zero, List.set_cons_succ]
              refine wpAnyH_take (i := 18) (oi := { dst := _, op := _, type := _, pos := _, after := _, guard := _ }) (v := ?_) rfl (by kernel_rfl) (by kernel_rfl) (by kernel_rfl) (fun _ _ _ h => h) (Or.inl ⟨by rfl, ?_⟩) (by assumption) ?_
              rotate_left
              · intro W hSw
                (try dsimp only at hSw)
                go_simp
                (try with_reducible rfl)
              try simp only [Act.put, List.setIfInBounds_toArray, List.set_cons_zero, List.set_cons_succ]
              refine wpAnyH_take (i := 19) (oi := { dst := _, op := _, type := _, pos := _, after := _, guard := _ }) (v := ?_) rfl (by kernel_rfl) (by kernel_rfl) (by kernel_rfl) (fun _ _ _ h => h) (Or.inl ⟨by rfl, ?_⟩) (by assumption) ?_
              rotate_left
              · intro W hSw
                (try dsimp only at hSw)
                go_simp
                (try with_reducible rfl)
              try simp only [Act.put, List.setIfInBounds_toArray, List.set_cons_zero, List.set_cons_succ]
              refine wpAnyH_take (i := 20) (oi := { dst := _, op := _, type := _, pos := _, after := _, guard := _ }) (v := ?_) rfl (by kernel_rfl) (by kernel_rfl) (by kernel_rfl) (fun _ _ _ h => h) (Or.inl ⟨by rfl, ?_⟩) (by assumption) ?_
              rotate_left
              · intro W hSw
                (try dsimp only at hSw)
                go_simp
                (try with_reducible rfl)
              try simp only [Act.put, List.setIfInBounds_toArray, List.set_cons_zero, List.set_cons_succ]
              refine wpAnyH_take (i := 21) (oi := { dst := _, op := _, type := _, pos := _, after := _, guard := _ }) (v := ?_) rfl (by kernel_rfl) (by kernel_rfl) (by kernel_rfl) (fun _ _ _ h => h) (Or.inl ⟨by rfl, ?_⟩) (by assumption) ?_
              rotate_left
              · intro W hSw
                (try dsimp only at hSw)
                go_simp
                (try with_reducible rfl)
              try simp only [Act.put, List.setIfInBounds_toArray, List.set_cons_zero, List.set_cons_succ]
              refine wpAnyH_take (i := 22) (oi := { dst := _, op := _, type := _, pos := _, after := _, guard := _ }) (v := ?_) rfl (by kernel_rfl) (by kernel_rfl) (by kernel_rfl) (fun _ _ _ h => h) (Or.inl ⟨by rfl, ?_⟩) (by assumption) ?_
              rotate_left
              · intro W hSw
                (try dsimp only at hSw)
                go_simp
                (try with_reducible rfl)
              try simp only [Act.put, List.setIfInBounds_toArray, List.set_cons_zero, List.set_cons_succ]
              refine wpAnyH_ready (rs := [23]) (by kernel_rfl) (by simp) ?_
              refine AllReadyH.cons (o := { dst := _, op := _, type := _, pos := _, after := _, guard := _ }) rfl (fun K hK => ?_) AllReadyH.nil
              go_simp
              have BE : Hid (Below w0.heap.size w0 (WD.setCell ⟨gr, j, none⟩ (.int .i64 y0))) := BWD.out.setCell (p := ⟨gr, j, none⟩) HBG.out.1 _
              have KE : Hid (Kt WD (WD.setCell ⟨gr, j, none⟩ (.int .i64 y0))) := show Kt _ _ from fun b cs eb => by obtain ⟨cur, hcur⟩ := HGD.out; exact put_blk1 eb hcur (by decide)
              have XE : Hid _ := XD.out.kt KE.out
              have OE : Hid ((WD.setCell ⟨gr, j, none⟩ (.int .i64 y0)).cell? ⟨g1, i, none⟩ = some (.slice (some ⟨gr, 0, none⟩) ml cr)) := by
                obtain ⟨cur, hcur⟩ := HGD.out
                obtain ⟨-, cu2, hcu2⟩ := row_tag DD.out.t g1 rfl
                have h9 := put_blk1 (g := gr) (j := j) (v := .int .i64 y0) hcu2 hcur (by decide)
                show World.cell? _ _ = _
                rw [Lib.cell_of_heap h9, ← Lib.cell_of_heap hcu2]
                exact kr
              have kz := KV.out _ BE.out
              refine hK.out _ _ ?_ (fun hHeld => ?_)
              · exact ⟨kz, KW.out _ BE.out, OE.out, rcell XE.out.a 1 _ rfl, rcell XE.out.b 1 _ rfl⟩
              clear hK K
              try simp only [Act.put, List.setIfInBounds_toArray, List.set_cons_zero, List.set_cons_succ]
              refine wpAnyH_done (by kernel_rfl) ?_ _
              refine NoPanic.normal ?_
              clear hHeld
              have HST : Hid (∃ CE DE, CnA w0.heap.size (WD.setCell ⟨gr, j, none⟩ (.int .i64 y0)) g0 k0 CE ∧ CnG w0.heap.size (WD.setCell ⟨gr, j, none⟩ (.int .i64 y0)) g1 k1 DE ∧ shp CE = shp C ∧ shp DE = shp D) := by
                obtain ⟨cur, hcur⟩ := HGD.out
                obtain ⟨DE, h1, h2⟩ := DD.out.put (W' := WD.setCell ⟨gr, j, none⟩ (.int .i64 y0)) (fun v n l hh => row_put1 y0 hh) (fun hh => (row_off hcur hh (by decide)).1)
                exact ⟨CT, DE, CD.out.off1 hcur, h1, HSH.out.1, Eq.trans h2 HSH.out.2⟩
              obtain ⟨CE, DE, hce, hde, hsh1, hsh2⟩ := HST.out
              have HCE : Hid _ := hce
              have HDE : Hid _ := hde
              have HSE : Hid (shp CE = shp C ∧ shp DE = shp D) := ⟨hsh1, hsh2⟩
              have HKE : Hid _ := (HK.out.trans (Kt.up BD.out)).trans KE.out
              clear hce hde hsh1 hsh2 HST kd kv kr s0 z0 kz
              go_wp2_with fail
              go_roundg (ml - (j + 1))
              case measure => have := HJ.out; have := HJL.out; omega
              case rel => exact ⟨j + 1, by first | rfl | (rw [show (j : Int) + 1 = ((j + 1 : Nat) : Int) by omega]), ⟨HJL.out, rfl⟩, _, _, HCE, HDE, HSE, BE, HKE, XE⟩
            · have t1 : decide ((j : Int) < (ml : Int)) = false := by rw [decide_eq_false_iff_not]; omega
              have t2 : decide (j < ml) = false := by rw [decide_eq_false_iff_not]; omega
              clear hj
              go_wp2_with fail
              go_roundg (nG - (i + 1))
              case measure => have := HI.out; have := HIL.out; omega
              case rel => exact ⟨i + 1, by first | rfl | (rw [show (i : Int) + 1 = ((i + 1 : Nat) : Int) by omega]), ⟨HIL.out, rfl⟩, _, _, HCT, HDT, HSH, HBW, HK, HX⟩
        · have e1 : decide ((i : Int) < (nG : Int)) = false := by rw [decide_eq_false_iff_not]; omega
          have e2 : decide (i < nG) = false := by rw [decide_eq_false_iff_not]; omega
          clear hi
          go_wp2_with fail
          go_end0
          exact ⟨rfl, _, _, HCT.out, HDT.out, HSH.out.1, HSH.out.2, HBW.out, HK.out⟩
end Go.Proofs.Ythlbajkbpceglaa
