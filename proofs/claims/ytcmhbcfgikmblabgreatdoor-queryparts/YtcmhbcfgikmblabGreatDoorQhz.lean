import Derived.Test.YtcmhbcfgikmblabGreatDoorQhy
import Derived.Test.YtcmhbcfgikmblabGreatDoorQhx
import Derived.Laws.OwnMore
namespace Go.Proofs.YtcmhbcfgikmblabGreatDoor.Qy
open Go.RowKit Go.Maps

/-- What match answers. -/
def Mt (us : List Value) (R : List (List Int)) (z : Int) (x : Value) : Prop := (mtc R z = none ∧ x = .slice none 0 0) ∨ ∃ l a c i, mtc R z = some l ∧ x = .slice a l.length c ∧ us[i]? = some x ∧ R.getD i [] = l ∧ 0 < l.length
set_option maxRecDepth 100000 in
set_option maxHeartbeats 8000000 in
theorem match_any {u : Value} {us : List Value} {R : List (List Int)} {n : Nat} (z : Int) (hn : n < 4611686018427387904) (w : World) (hu : Fg w u us R n) :
    Calls Tryz.prog 15 #[u, .int .i64 z] w fun e w' => (∃ x, e = .returned x ∧ Mt us R z x) ∧ w = w' := by
  have HU : Hid (Fg w u us R n) := hu
  obtain ⟨ua, uc, rfl⟩ := hu.rw'.form
  have HL : Hid (n < 4611686018427387904) := hn
  clear hu hn
  go_enter Tryz.func15, Tryz.ntmps15
  go_upto_region 2 with fail
  go_loopg [5] n (fun gm v5 wr => ∃ i : Nat, v5 = .int .i64 (i : Int) ∧ Hid (i ≤ n ∧ gm = n - i) ∧ Hid (∀ j, j < i → (R.getD j []).head? ≠ some z) ∧ w = wr)
  case atStart => exact ⟨0, rfl, ⟨Nat.zero_le _, rfl⟩, (fun j hj => by omega), rfl⟩
  case round =>
    obtain ⟨i, rfl, HI, HM, hw9⟩ := hrel
    subst hw9
    by_cases hi : i < n
    · have e1 : decide ((i : Int) < (n : Int)) = true := by rw [decide_eq_true_eq]; omega
      have e2 : decide (i < n) = true := by rw [decide_eq_true_eq]; omega
      have b1 : (i : Int) < (n : Int) := by omega
      have b2 : i < n := hi
      have HIM : Hid (i < n) := hi
      have hwi := w64n i (by have := HL.out; omega)
      obtain ⟨g, o, ya, yc, rfl, c0, hr, hus⟩ := HU.out.one i hi
      obtain ⟨l, hl⟩ : ∃ l, R.getD i [] = l := ⟨_, rfl⟩
      have HLE : Hid (R.getD i [] = l) := hl
      rw [hl] at c0 hr hus
      have HNX : l.head? ≠ some z → Hid (∀ j, j < i + 1 → (R.getD j []).head? ≠ some z) := fun h j hj => by
        rcases Nat.lt_or_ge j i with h9 | h9
        · exact HM.out j h9
        · have : j = i := by omega
          rw [this, HLE.out]; exact h
      have HUS : Hid (us[i]? = some (.slice ya l.length yc)) := hus
      clear hi hl hus
      cases l with
      | nil =>
        have HM2 := HNX (by simp)
        clear HNX hr
        go_wp2_with fail
        go_roundg (n - (i + 1))
        case measure => have := HI.out; have := HIM.out; omega
        case rel => exact ⟨i + 1, by simp, ⟨HIM.out, rfl⟩, HM2, rfl⟩
      | cons y t =>
        obtain ⟨yg, yo, c9, hye, hyc⟩ := hr.place (by simp)
        obtain ⟨e4, -, -⟩ := Value.slice.inj hye
        subst e4
        have c1 : w.cell? ⟨yg, yo, none⟩ = some (.int .i64 y) := hyc 0 _ rfl
        obtain ⟨q, hq⟩ : ∃ q, (y :: t).length = q := ⟨_, rfl⟩
        have HQ : Hid ((y :: t).length = q ∧ 0 < q) := ⟨hq, by rw [← hq]; simp⟩
        rw [hq] at c0
        have d1 : decide ((0 : Int) < (q : Int)) = true := by have := HQ.out.2; rw [decide_eq_true_eq]; omega
        have d2 : decide (0 < q) = true := by have := HQ.out.2; rw [decide_eq_true_eq]; omega
        have d3 : (0 : Int) < (q : Int) := by have := HQ.out.2; omega
        have d4 : 0 < q := HQ.out.2
        clear hr hye hyc hq
        by_cases hz : y = z
        · subst hz
          have f1 : (y == y) = true := by simp
          have HT : Hid (mtc R y = some (y :: t)) := by
            have h9 := mtc_hit (z := y) R i (by rw [HU.out.ln.2]; exact HIM.out) (by rw [HLE.out]; rfl) HM.out
            rw [HLE.out] at h9
            exact h9
          clear HNX
          go_wp2_with fail
          go_ret
          obtain ⟨hq1, hq2⟩ := HQ.out
          subst hq1
          exact ⟨⟨_, rfl, .inr ⟨y :: t, _, _, i, HT.out, rfl, HUS.out, HLE.out, hq2⟩⟩, rfl⟩
        · have f1 : (y == z) = false := by simpa using hz
          have HM2 := HNX (by simpa using hz)
          clear HNX hz
          go_wp2_with fail
          go_roundg (n - (i + 1))
          case measure => have := HI.out; have := HIM.out; omega
          case rel => exact ⟨i + 1, by simp, ⟨HIM.out, rfl⟩, HM2, rfl⟩
    · have e1 : decide ((i : Int) < (n : Int)) = false := by rw [decide_eq_false_iff_not]; omega
      have e2 : decide (i < n) = false := by rw [decide_eq_false_iff_not]; omega
      have HT : Hid (mtc R z = none) := mtc_no R (fun j hj => HM.out j (by rw [HU.out.ln.2] at hj; omega))
      clear hi
      go_wp2_with fail
      go_ret
      exact ⟨⟨_, rfl, .inl ⟨HT.out, rfl⟩⟩, rfl⟩
end Go.Proofs.YtcmhbcfgikmblabGreatDoor.Qy
namespace Go.Proofs.YtcmhbcfgikmblabGreatDoor.Qy
open Go.RowKit Go.Maps

theorem infoN : (Tryz.prog.info? 46).map (fun i => (i.zero, i.size, i.bytes)) = some (some (.agg #[.string ⟨#[]⟩, .bool false, .string ⟨#[]⟩, .string ⟨#[]⟩, .int .i64 0]), 5, 64) := by kernel_rfl
theorem results_ct {fn : Func} {p u : Tmp} {ty : TypeId} (h : fn.results = #[.cell p ty, .tmp u]) (tmps : Array Value) (P : Program) (w : World) :
    (results fn tmps).run P w = ((asAddr (tmps.getD p undef)).run P w).andThen fun a w₁ => ((loadVar ty a).run P w₁).andThen fun x w₂ => .ok (.tuple #[x, tmps.getD u undef]) w₂ := by
  simp only [results, h]
  simp [Sem.run_bind, Result.andThen]
set_option maxRecDepth 100000 in
set_option maxHeartbeats 8000000 in
/-- The pattern at a place, in new memory. -/
theorem part_any {vp : Value} {P : List Pn} (w : World) (hp : Ps w vp P) (hf : Tr.Fo (pks P)) (h32 : P.length ≤ 32) (c : Nat) (hc : c < P.length) : Calls Tryz.prog 14 #[vp, .int .i64 (c : Int)] w fun e w' => (∃ vn, e = .returned (.tuple #[.agg #[vn, .slice none 0 0], .int .i64 ((Tr.eA (pks P) c - c : Nat) : Int)]) ∧ w'.ownsRow w.heap.size 46 5 vn (sub P c).length (flat pf (sub P c))) ∧ Below w.heap.size w w' := by
  obtain ⟨W1, hW1⟩ : ∃ W1, W1 = w.alloc (.cells #[.slice none 0 0, .slice none 0 0] 25) := ⟨_, rfl⟩
  obtain ⟨rb, hrb⟩ : ∃ rb, w.heap.size = rb := ⟨_, rfl⟩
  have HRB : Hid (w.heap.size = rb) := hrb
  have HB1 : Hid (Below w.heap.size w W1) := by rw [hW1]; exact bel_up _ _
  have HR1 : Hid (W1.heap[rb]? = some (.cells #[.slice none 0 0, .slice none 0 0] 25 (0, 0))) := by rw [hW1, ← hrb]; exact heap_new w _
  have HPS : Hid (Ps w vp P) := hp
  have HF : Hid (Tr.Fo (pks P)) := hf
  obtain ⟨pa, pc, hvp⟩ := hp.form
  obtain ⟨pl, hpl⟩ : ∃ pl, P.length = pl := ⟨_, rfl⟩
  have HPL : Hid (P.length = pl ∧ (pks P).length = pl ∧ pl ≤ 32) := ⟨hpl, by rw [pks_len]; exact hpl, by omega⟩
  rw [hpl] at hvp
  subst hvp
  have HCL : Hid (c < (pks P).length) := by rw [pks_len]; exact hc
  obtain ⟨e, he⟩ : ∃ e, Tr.eA (pks P) c = e := ⟨_, rfl⟩
  have HE : Hid (Tr.wA (pks P) c 1 = e ∧ c < e ∧ e ≤ pl) := by
    have h9 := hf.elt c HCL.out
    rw [he, HPL.out.2.1] at h9
    exact ⟨he, h9.1, h9.2.1⟩
  have HSL : Hid ((sub P c).length = e - c ∧ sub P c = (P.drop c).take (e - c)) := ⟨by rw [sub_len hf hc, he], by unfold sub; rw [he]⟩
  rw [he]
  clear hp hf h32 hc hpl he
  go_enter Tryz.func14, Tryz.ntmps14
  go_upto_region 1 with fail
  first | rw [← hW1, hrb] | rw [← hW1]
  clear hW1 hrb
  go_upto_region 3 with fail
  go_loopg [6, 7] (e - c) (fun gm v6 v7 wr => ∃ m p : Nat, v6 = .int .i64 (m : Int) ∧ v7 = .int .i64 (p : Int) ∧ Hid (c ≤ p ∧ p ≤ e ∧ gm = e - p) ∧ Hid (Tr.wA (pks P) p m = e ∧ m ≤ Tr.rA (pks P) p) ∧ W1 = wr)
  case atStart => exact ⟨1, c, rfl, rfl, ⟨Nat.le_refl _, by have := HE.out; omega, rfl⟩, ⟨HE.out.1, HF.out.pos c HCL.out⟩, rfl⟩
  case round =>
    obtain ⟨m, p, rfl, rfl, HI, HM, hw9⟩ := hrel
    subst hw9
    by_cases hm : m = 0
    · subst hm
      have hpe : e = p := by have h9 := HM.out.1; rw [Tr.wA_zero] at h9; exact h9.symm
      subst hpe
      clear HM HI
      obtain ⟨W2, hW2⟩ : ∃ W2, W2 = W1.alloc (.cells #[.slice none 0 0, .slice none 0 0] 25) := ⟨_, rfl⟩
      obtain ⟨xb, hxb⟩ : ∃ xb, W1.heap.size = xb := ⟨_, rfl⟩
      have HX2 : Hid (W2.heap[xb]? = some (.cells #[.slice none 0 0, .slice none 0 0] 25 (0, 0))) := by rw [hW2, ← hxb]; exact heap_new W1 _
      have hb2 : Below W1.heap.size W1 W2 := by rw [hW2]; exact bel_up _ _
      have HB2 : Hid (Below w.heap.size w W2) := below_trans HB1.out hb2
      have HR2 : Hid (W2.heap[rb]? = some (.cells #[.slice none 0 0, .slice none 0 0] 25 (0, 0))) := (hb2.block _ (lt_of_heap HR1.out)).trans HR1.out
      have HXB : Hid (w.heap.size ≤ xb) := by rw [← hxb]; exact HB1.out.size
      have HNE : Hid (rb ≠ xb) := by have h9 := lt_of_heap HR1.out; show _ ≠ _; omega
      obtain ⟨iN, hiN, hx0, hx1, hx2⟩ := info_parts infoN
      have d0 : decide ((0 : Int) < ((0 : Nat) : Int)) = false := by decide
      clear hb2
      go_upto_region 8 with fail
      first | rw [← hW2, hxb] | rw [← hW2]
      clear hW2 hxb
      go_loopg [9] (e - c) (fun gm v9 wr => ∃ (p n : Nat) (va : Option Addr) (vc : Nat), v9 = .int .i64 (p : Int) ∧ Hid (c ≤ p ∧ p ≤ e ∧ gm = e - p ∧ n = p - c) ∧ Hid (wr.heap[xb]? = some (.cells #[.slice va n vc, .slice none 0 0] 25 (0, 0))) ∧ Hid (wr.ownsRow w.heap.size 46 5 (.slice va n vc) n (flat pf ((P.drop c).take n))) ∧ Hid (Below w.heap.size w wr) ∧ Hid (wr.heap[rb]? = some (.cells #[.slice none 0 0, .slice none 0 0] 25 (0, 0))))
      case atStart => exact ⟨c, 0, none, 0, rfl, ⟨Nat.le_refl _, by have := HE.out; omega, rfl, by omega⟩, HX2, by rw [List.take_zero]; exact World.ownsRow_nil _ _ _ _, HB2, HR2⟩
      case round =>
        obtain ⟨p, n, va, vc, rfl, HI2, HX, HOW, HBW, HR⟩ := hrel
        by_cases hpe : p < e
        · have e1 : decide ((p : Int) < (e : Int)) = true := by rw [decide_eq_true_eq]; omega
          have e2 : decide (p < e) = true := by rw [decide_eq_true_eq]; omega
          have HPE : Hid (p < e) := hpe
          have hpp : p < pl := by have := HE.out.2.2; omega
          have b1 : (p : Int) < (pl : Int) := by omega
          have b2 : p < pl := hpp
          have hwp := w64n p (by have := HPL.out.2.2; omega)
          have HNL : Hid (n + 1 ≤ 32) := by have := HI2.out; have := HPL.out.2.2; show _ ≤ _; omega
          obtain ⟨g, o, rfl, c0, c1, c2, c3, c4⟩ := (HPS.out.up HBW.out).all p (by rw [HPL.out.1]; exact hpp)
          obtain ⟨g2, o2, hg2, z0, -, -, -, -⟩ := HPS.out.all p (by rw [HPL.out.1]; exact hpp)
          have hg3 : g = g2 := (Addr.mk.inj (Option.some.inj hg2)).1
          have HGL : Hid (g < w.heap.size) := by rw [hg3]; exact cell_lt z0
          obtain ⟨y, hy⟩ : ∃ y, P.getD p pz = y := ⟨_, rfl⟩
          have HTK : Hid (flat pf ((P.drop c).take (n + 1)) = flat pf ((P.drop c).take n) ++ pf y) := by
            show _ = _
            have h9 : (P.drop c)[n]? = some y := by
              rw [List.getElem?_drop, ← hy, List.getD_eq_getElem?_getD, show c + n = p by have := HI2.out; omega, List.getElem?_eq_getElem (by rw [HPL.out.1]; exact hpp)]
              rfl
            rw [List.take_add_one, h9]
            show flat pf (_ ++ [y]) = _
            rw [flat_app]
            exact congrArg _ (List.append_nil _)
          rw [hy] at c0 c1 c2 c3 c4
          have HSS : Hid (wr.cell? ⟨g, o + p * 5, none⟩ = some (.string y.nm) ∧ wr.cell? ⟨g, o + p * 5 + 1, none⟩ = some (.bool y.lit) ∧ wr.cell? ⟨g, o + p * 5 + 2, none⟩ = some (.string y.fd) ∧ wr.cell? ⟨g, o + p * 5 + 3, none⟩ = some (.string y.cp) ∧ wr.cell? ⟨g, o + p * 5 + 4, none⟩ = some (.int .i64 y.kd)) := ⟨c0, c1, c2, c3, c4⟩
          clear hpe hpp hy hg2 hg3 z0 c0 c1 c2 c3 c4
          go_upto_region 10 with fail
          refine wp_region_noPanic ?_
          refine wp_region_held_drew (S := fun W => W.cell? ⟨g, o + p * 5, none⟩ = some (.string y.nm) ∧ W.cell? ⟨g, o + p * 5 + 1, none⟩ = some (.bool y.lit) ∧ W.cell? ⟨g, o + p * 5 + 2, none⟩ = some (.string y.fd) ∧ W.cell? ⟨g, o + p * 5 + 3, none⟩ = some (.string y.cp) ∧ W.cell? ⟨g, o + p * 5 + 4, none⟩ = some (.int .i64 y.kd)) (by kernel_rfl) HSS.out (fun hHeld => ?_)
          obtain ⟨WD, hWD⟩ : ∃ WD, wr.drew = WD := ⟨_, rfl⟩
          have HBD : Hid (Below wr.heap.size wr WD) := by rw [← hWD]; exact Below.drew (Below.refl _ _)
          rw [hWD] at hHeld ⊢
          clear hWD
          have HXD : Hid (WD.heap[xb]? = some (.cells #[.slice va n vc, .slice none 0 0] 25 (0, 0))) := (HBD.out.block _ (lt_of_heap HX.out)).trans HX.out
          have HRD : Hid (WD.heap[rb]? = some (.cells #[.slice none 0 0, .slice none 0 0] 25 (0, 0))) := (HBD.out.block _ (lt_of_heap HR.out)).trans HR.out
          have HROW : Hid ((WD.alloc (.cells #[.string y.nm, .bool y.lit, .string y.fd, .string y.cp, .int .i64 y.kd] 46)).ownsRow w.heap.size 46 5 (.slice va n vc) n (flat pf ((P.drop c).take n))) := (row_up HOW.out HBD.out).alloc _
          have j0 := rcell HXD.out 0 _ rfl
          refine wpAnyH_take (i := 0) (oi := { dst := _, op := _, type := _, pos := _, after := _, guard := _ }) (v := ?_) rfl (by kernel_rfl) (by kernel_rfl) (by kernel_rfl) (fun _ _ _ h => h) (Or.inl ⟨by rfl, ?_⟩) (by assumption) ?_
          rotate_left
          · intro W hSw
            (try dsimp only at hSw)
            go_simp
            (try with_reducible rfl)
          try simp only [Act.put, List.setIfInBounds_toArray, List.set_cons_zero, List.set_cons_succ]
          refine wpAnyH_take (i := 2) (oi := { dst := _, op := _, type := _, pos := _, after := _, guard := _ }) (v := ?_) rfl (by kernel_rfl) (by kernel_rfl) (by kernel_rfl) (fun _ _ _ h => h) (Or.inl ⟨by rfl, ?_⟩) (by assumption) ?_
          rotate_left
          · intro W hSw
            (try dsimp only at hSw)
            go_simp
            (try with_reducible rfl)
          try simp only [Act.put, List.setIfInBounds_toArray, List.set_cons_zero, List.set_cons_succ]
          refine wpAnyH_take (i := 3) (oi := { dst := _, op := _, type := _, pos := _, after := _, guard := _ }) (v := ?_) rfl (by kernel_rfl) (by kernel_rfl) (by kernel_rfl) (fun _ _ _ h => h) (Or.inl ⟨by rfl, ?_⟩) (by assumption) ?_
          rotate_left
          · intro W hSw
            (try dsimp only at hSw)
            go_simp
            (try with_reducible rfl)
          try simp only [Act.put, List.setIfInBounds_toArray, List.set_cons_zero, List.set_cons_succ]
          refine wpAnyH_take (i := 4) (oi := { dst := _, op := _, type := _, pos := _, after := _, guard := _ }) (v := ?_) rfl (by kernel_rfl) (by kernel_rfl) (by kernel_rfl) (fun _ _ _ h => h) (Or.inl ⟨by rfl, ?_⟩) (by assumption) ?_
          rotate_left
          · intro W hSw
            (try dsimp only at hSw)
            go_simp
            (try with_reducible rfl)
          try simp only [Act.put, List.setIfInBounds_toArray, List.set_cons_zero, List.set_cons_succ]
          refine wpAnyH_take (i := 5) (oi := { dst := _, op := _, type := _, pos := _, after := _, guard := _ }) (v := ?_) rfl (by kernel_rfl) (by kernel_rfl) (by kernel_rfl) (fun _ _ _ h => h) (Or.inl ⟨by rfl, ?_⟩) (by assumption) ?_
          rotate_left
          · intro W hSw
            (try dsimp only at hSw)
            obtain ⟨s1, s2, s3, s4, s5⟩ := hSw
            go_simp
            (try with_reducible rfl)
          try simp only [Act.put, List.setIfInBounds_toArray, List.set_cons_zero, List.set_cons_succ]
          refine wpAnyH_ready (rs := [1, 6]) (by kernel_rfl) (by simp) ?_
          refine AllReadyH.cons (o := { dst := _, op := _, type := _, pos := _, after := _, guard := _ }) rfl (fun K hK => ?_) (AllReadyH.cons (o := { dst := _, op := _, type := _, pos := _, after := _, guard := _ }) rfl (fun K hK => ?_) AllReadyH.nil)
          · go_simp
            refine hK.out _ _ ?_ (fun hHeld => ?_)
            · exact hHeld
            clear hK K
            try simp only [Act.put, List.setIfInBounds_toArray, List.set_cons_zero, List.set_cons_succ]
            refine wpAnyH_ready (rs := [6]) (by kernel_rfl) (by simp) ?_
            refine AllReadyH.cons (o := { dst := _, op := _, type := _, pos := _, after := _, guard := _ }) rfl (fun K hK => ?_) AllReadyH.nil
            go_simp
            refine hK.out _ _ ?_ (fun hHeld => ?_)
            · exact ⟨cell_up _ hHeld.1, cell_up _ hHeld.2.1, cell_up _ hHeld.2.2.1, cell_up _ hHeld.2.2.2.1, cell_up _ hHeld.2.2.2.2⟩
            clear hK K
            try simp only [Act.put, List.setIfInBounds_toArray, List.set_cons_zero, List.set_cons_succ]
            have k0a : (WD.alloc (.cells #[.string y.nm, .bool y.lit, .string y.fd, .string y.cp, .int .i64 y.kd] 46)).cell? ⟨xb, 0, none⟩ = some (.slice va n vc) := cell_up _ j0
            refine wpAnyH_ready (rs := [7]) (by kernel_rfl) (by simp) ?_
            refine AllReadyH.cons (o := { dst := _, op := _, type := _, pos := _, after := _, guard := _ }) rfl (fun K hK => ?_) AllReadyH.nil
            refine step_append_lies _ rfl (.tmp 36) (.tmp 41) 22 rfl w.heap.size 46 iN _ 5 64 Tryz.underlying22 hiN hx0 hx1 hx2 rfl (by decide) (.slice va n vc) _ _ rfl HROW.out ⟨WD.heap.size, 0, none⟩ 1 1 [.string y.nm, .bool y.lit, .string y.fd, .string y.cp, .int .i64 y.kd] rfl rfl (World.news_of_block (heap_new WD _)) (by simp [Value.oneCell']) (by decide) (by have := HNL.out; unfold maxLen; omega) (by have := HNL.out; omega) (by have := HBW.out.size; have := HBD.out.size; simp; omega) (WD.heap.size + 1) (by simp) ?_
            intro g' cap' w' h2 h3 h4 _
            have HO : Hid (w'.ownsRow w.heap.size 46 5 (.slice (some ⟨g', 0, none⟩) (n + 1) cap') (n + 1) (flat pf ((P.drop c).take n) ++ pf y)) := h2
            have HG : Hid (WD.grownBy w' (Value.ownBlock (.slice va n vc))) := (World.grownBy_alloc _ _ _).trans h3
            have HGA : Hid ((WD.alloc (.cells #[.string y.nm, .bool y.lit, .string y.fd, .string y.cp, .int .i64 y.kd] 46)).grownBy w' (Value.ownBlock (.slice va n vc))) := h3
            have HXW : Hid (w'.heap[xb]? = some (.cells #[.slice va n vc, .slice none 0 0] 25 (0, 0))) := (HG.out.block xb (lt_of_heap HXD.out) (fun e => tag_ne_blk (row_up HOW.out HBD.out) HXD.out (by decide) e.symm)).trans HXD.out
            have HRW : Hid (w'.heap[rb]? = some (.cells #[.slice none 0 0, .slice none 0 0] 25 (0, 0))) := (HG.out.block rb (lt_of_heap HRD.out) (fun e => tag_ne_blk (row_up HOW.out HBD.out) HRD.out (by decide) e.symm)).trans HRD.out
            have s0b : w'.cell? ⟨g, o + p * 5, none⟩ = some (.string y.nm) ∧ w'.cell? ⟨g, o + p * 5 + 1, none⟩ = some (.bool y.lit) ∧ w'.cell? ⟨g, o + p * 5 + 2, none⟩ = some (.string y.fd) ∧ w'.cell? ⟨g, o + p * 5 + 3, none⟩ = some (.string y.cp) ∧ w'.cell? ⟨g, o + p * 5 + 4, none⟩ = some (.int .i64 y.kd) := ⟨HGA.out.cell hHeld.1 (fun e => by have h8 := (row_tag HOW.out g e.symm).1; have h9 := HGL.out; omega), HGA.out.cell hHeld.2.1 (fun e => by have h8 := (row_tag HOW.out g e.symm).1; have h9 := HGL.out; omega), HGA.out.cell hHeld.2.2.1 (fun e => by have h8 := (row_tag HOW.out g e.symm).1; have h9 := HGL.out; omega), HGA.out.cell hHeld.2.2.2.1 (fun e => by have h8 := (row_tag HOW.out g e.symm).1; have h9 := HGL.out; omega), HGA.out.cell hHeld.2.2.2.2 (fun e => by have h8 := (row_tag HOW.out g e.symm).1; have h9 := HGL.out; omega)⟩
            have fz := Lib.frozen_of_heap HXW.out 0
            have kz := rcell HXW.out 0 _ rfl
            clear h2 h3 h4 k0a
            refine hK.out _ _ ?_ (fun hHeld => ?_)
            · exact s0b
            clear hK K
            try simp only [Act.put, List.setIfInBounds_toArray, List.set_cons_zero, List.set_cons_succ]
            clear s0b
            refine wpAnyH_take (i := 8) (oi := { dst := _, op := _, type := _, pos := _, after := _, guard := _ }) (v := ?_) rfl (by kernel_rfl) (by kernel_rfl) (by kernel_rfl) (fun _ _ _ h => h) (Or.inl ⟨by rfl, ?_⟩) (by assumption) ?_
            rotate_left
            · intro W hSw
              (try dsimp only at hSw)
              go_simp
              (try with_reducible rfl)
            try simp only [Act.put, List.setIfInBounds_toArray, List.set_cons_zero, List.set_cons_succ]
            refine wpAnyH_ready (rs := [9]) (by kernel_rfl) (by simp) ?_
            refine AllReadyH.cons (o := { dst := _, op := _, type := _, pos := _, after := _, guard := _ }) rfl (fun K hK => ?_) AllReadyH.nil
            go_simp
            refine hK.out _ _ ?_ (fun hHeld => ?_)
            · exact ⟨cell_keep hHeld.1 (fun e => by have h9 := HGL.out; have h8 := HXB.out; have e2 : g = xb := e; omega), cell_keep hHeld.2.1 (fun e => by have h9 := HGL.out; have h8 := HXB.out; have e2 : g = xb := e; omega), cell_keep hHeld.2.2.1 (fun e => by have h9 := HGL.out; have h8 := HXB.out; have e2 : g = xb := e; omega), cell_keep hHeld.2.2.2.1 (fun e => by have h9 := HGL.out; have h8 := HXB.out; have e2 : g = xb := e; omega), cell_keep hHeld.2.2.2.2 (fun e => by have h9 := HGL.out; have h8 := HXB.out; have e2 : g = xb := e; omega)⟩
            clear hK K
            try simp only [Act.put, List.setIfInBounds_toArray, List.set_cons_zero, List.set_cons_succ]
            refine wpAnyH_done (by kernel_rfl) ?_ _
            clear hHeld fz kz
            refine NoPanic.normal ?_
            have H9 : Hid (Below w.heap.size w (w'.setCell ⟨xb, 0, none⟩ (.slice (some ⟨g', 0, none⟩) (n + 1) cap'))) := Below.setCell (Tr.bel_app (below_trans HBW.out HBD.out) (Nat.le_trans HBW.out.size HBD.out.size) (row_up HOW.out HBD.out) HGA.out) HXB.out _
            have H8 : Hid ((w'.setCell ⟨xb, 0, none⟩ (.slice (some ⟨g', 0, none⟩) (n + 1) cap')).ownsRow w.heap.size 46 5 (.slice (some ⟨g', 0, none⟩) (n + 1) cap') (n + 1) (flat pf ((P.drop c).take (n + 1)))) := by
              rw [HTK.out]
              exact HO.out.kept grown_set (.inr (tag_ne_blk HO.out HXW.out (by decide)))
            have H7 : Hid ((w'.setCell ⟨xb, 0, none⟩ (.slice (some ⟨g', 0, none⟩) (n + 1) cap')).heap[xb]? = some (.cells #[.slice (some ⟨g', 0, none⟩) (n + 1) cap', .slice none 0 0] 25 (0, 0))) := blk_set _ HXW.out
            have H6 : Hid ((w'.setCell ⟨xb, 0, none⟩ (.slice (some ⟨g', 0, none⟩) (n + 1) cap')).heap[rb]? = some (.cells #[.slice none 0 0, .slice none 0 0] 25 (0, 0))) := by
              show _ = _
              rw [heap_far HNE.out]; exact HRW.out
            generalize w'.setCell ⟨xb, 0, none⟩ (.slice (some ⟨g', 0, none⟩) (n + 1) cap') = w9 at H9 H8 H7 H6 ⊢
            go_wp2_with fail
            go_roundg (e - (p + 1))
            case measure => have := HI2.out; have := HPE.out; omega
            case rel => exact ⟨p + 1, n + 1, _, _, by simp, ⟨by have := HI2.out; omega, HPE.out, rfl, by have := HI2.out; omega⟩, H7, H8, H9, H6⟩
          · go_simp
            refine hK.out _ _ ?_ (fun hHeld => ?_)
            · exact ⟨cell_up _ hHeld.1, cell_up _ hHeld.2.1, cell_up _ hHeld.2.2.1, cell_up _ hHeld.2.2.2.1, cell_up _ hHeld.2.2.2.2⟩
            clear hK K
            try simp only [Act.put, List.setIfInBounds_toArray, List.set_cons_zero, List.set_cons_succ]
            have k0a : (WD.alloc (.cells #[.string y.nm, .bool y.lit, .string y.fd, .string y.cp, .int .i64 y.kd] 46)).cell? ⟨xb, 0, none⟩ = some (.slice va n vc) := cell_up _ j0
            refine wpAnyH_ready (rs := [1]) (by kernel_rfl) (by simp) ?_
            refine AllReadyH.cons (o := { dst := _, op := _, type := _, pos := _, after := _, guard := _ }) rfl (fun K hK => ?_) AllReadyH.nil
            go_simp
            refine hK.out _ _ ?_ (fun hHeld => ?_)
            · exact hHeld
            clear hK K
            try simp only [Act.put, List.setIfInBounds_toArray, List.set_cons_zero, List.set_cons_succ]
            refine wpAnyH_ready (rs := [7]) (by kernel_rfl) (by simp) ?_
            refine AllReadyH.cons (o := { dst := _, op := _, type := _, pos := _, after := _, guard := _ }) rfl (fun K hK => ?_) AllReadyH.nil
            refine step_append_lies _ rfl (.tmp 36) (.tmp 41) 22 rfl w.heap.size 46 iN _ 5 64 Tryz.underlying22 hiN hx0 hx1 hx2 rfl (by decide) (.slice va n vc) _ _ rfl HROW.out ⟨WD.heap.size, 0, none⟩ 1 1 [.string y.nm, .bool y.lit, .string y.fd, .string y.cp, .int .i64 y.kd] rfl rfl (World.news_of_block (heap_new WD _)) (by simp [Value.oneCell']) (by decide) (by have := HNL.out; unfold maxLen; omega) (by have := HNL.out; omega) (by have := HBW.out.size; have := HBD.out.size; simp; omega) (WD.heap.size + 1) (by simp) ?_
            intro g' cap' w' h2 h3 h4 _
            have HO : Hid (w'.ownsRow w.heap.size 46 5 (.slice (some ⟨g', 0, none⟩) (n + 1) cap') (n + 1) (flat pf ((P.drop c).take n) ++ pf y)) := h2
            have HG : Hid (WD.grownBy w' (Value.ownBlock (.slice va n vc))) := (World.grownBy_alloc _ _ _).trans h3
            have HGA : Hid ((WD.alloc (.cells #[.string y.nm, .bool y.lit, .string y.fd, .string y.cp, .int .i64 y.kd] 46)).grownBy w' (Value.ownBlock (.slice va n vc))) := h3
            have HXW : Hid (w'.heap[xb]? = some (.cells #[.slice va n vc, .slice none 0 0] 25 (0, 0))) := (HG.out.block xb (lt_of_heap HXD.out) (fun e => tag_ne_blk (row_up HOW.out HBD.out) HXD.out (by decide) e.symm)).trans HXD.out
            have HRW : Hid (w'.heap[rb]? = some (.cells #[.slice none 0 0, .slice none 0 0] 25 (0, 0))) := (HG.out.block rb (lt_of_heap HRD.out) (fun e => tag_ne_blk (row_up HOW.out HBD.out) HRD.out (by decide) e.symm)).trans HRD.out
            have s0b : w'.cell? ⟨g, o + p * 5, none⟩ = some (.string y.nm) ∧ w'.cell? ⟨g, o + p * 5 + 1, none⟩ = some (.bool y.lit) ∧ w'.cell? ⟨g, o + p * 5 + 2, none⟩ = some (.string y.fd) ∧ w'.cell? ⟨g, o + p * 5 + 3, none⟩ = some (.string y.cp) ∧ w'.cell? ⟨g, o + p * 5 + 4, none⟩ = some (.int .i64 y.kd) := ⟨HGA.out.cell hHeld.1 (fun e => by have h8 := (row_tag HOW.out g e.symm).1; have h9 := HGL.out; omega), HGA.out.cell hHeld.2.1 (fun e => by have h8 := (row_tag HOW.out g e.symm).1; have h9 := HGL.out; omega), HGA.out.cell hHeld.2.2.1 (fun e => by have h8 := (row_tag HOW.out g e.symm).1; have h9 := HGL.out; omega), HGA.out.cell hHeld.2.2.2.1 (fun e => by have h8 := (row_tag HOW.out g e.symm).1; have h9 := HGL.out; omega), HGA.out.cell hHeld.2.2.2.2 (fun e => by have h8 := (row_tag HOW.out g e.symm).1; have h9 := HGL.out; omega)⟩
            have fz := Lib.frozen_of_heap HXW.out 0
            have kz := rcell HXW.out 0 _ rfl
            clear h2 h3 h4 k0a
            refine hK.out _ _ ?_ (fun hHeld => ?_)
            · exact s0b
            clear hK K
            try simp only [Act.put, List.setIfInBounds_toArray, List.set_cons_zero, List.set_cons_succ]
            clear s0b
            refine wpAnyH_take (i := 8) (oi := { dst := _, op := _, type := _, pos := _, after := _, guard := _ }) (v := ?_) rfl (by kernel_rfl) (by kernel_rfl) (by kernel_rfl) (fun _ _ _ h => h) (Or.inl ⟨by rfl, ?_⟩) (by assumption) ?_
            rotate_left
            · intro W hSw
              (try dsimp only at hSw)
              go_simp
              (try with_reducible rfl)
            try simp only [Act.put, List.setIfInBounds_toArray, List.set_cons_zero, List.set_cons_succ]
            refine wpAnyH_ready (rs := [9]) (by kernel_rfl) (by simp) ?_
            refine AllReadyH.cons (o := { dst := _, op := _, type := _, pos := _, after := _, guard := _ }) rfl (fun K hK => ?_) AllReadyH.nil
            go_simp
            refine hK.out _ _ ?_ (fun hHeld => ?_)
            · exact ⟨cell_keep hHeld.1 (fun e => by have h9 := HGL.out; have h8 := HXB.out; have e2 : g = xb := e; omega), cell_keep hHeld.2.1 (fun e => by have h9 := HGL.out; have h8 := HXB.out; have e2 : g = xb := e; omega), cell_keep hHeld.2.2.1 (fun e => by have h9 := HGL.out; have h8 := HXB.out; have e2 : g = xb := e; omega), cell_keep hHeld.2.2.2.1 (fun e => by have h9 := HGL.out; have h8 := HXB.out; have e2 : g = xb := e; omega), cell_keep hHeld.2.2.2.2 (fun e => by have h9 := HGL.out; have h8 := HXB.out; have e2 : g = xb := e; omega)⟩
            clear hK K
            try simp only [Act.put, List.setIfInBounds_toArray, List.set_cons_zero, List.set_cons_succ]
            refine wpAnyH_done (by kernel_rfl) ?_ _
            clear hHeld fz kz
            refine NoPanic.normal ?_
            have H9 : Hid (Below w.heap.size w (w'.setCell ⟨xb, 0, none⟩ (.slice (some ⟨g', 0, none⟩) (n + 1) cap'))) := Below.setCell (Tr.bel_app (below_trans HBW.out HBD.out) (Nat.le_trans HBW.out.size HBD.out.size) (row_up HOW.out HBD.out) HGA.out) HXB.out _
            have H8 : Hid ((w'.setCell ⟨xb, 0, none⟩ (.slice (some ⟨g', 0, none⟩) (n + 1) cap')).ownsRow w.heap.size 46 5 (.slice (some ⟨g', 0, none⟩) (n + 1) cap') (n + 1) (flat pf ((P.drop c).take (n + 1)))) := by
              rw [HTK.out]
              exact HO.out.kept grown_set (.inr (tag_ne_blk HO.out HXW.out (by decide)))
            have H7 : Hid ((w'.setCell ⟨xb, 0, none⟩ (.slice (some ⟨g', 0, none⟩) (n + 1) cap')).heap[xb]? = some (.cells #[.slice (some ⟨g', 0, none⟩) (n + 1) cap', .slice none 0 0] 25 (0, 0))) := blk_set _ HXW.out
            have H6 : Hid ((w'.setCell ⟨xb, 0, none⟩ (.slice (some ⟨g', 0, none⟩) (n + 1) cap')).heap[rb]? = some (.cells #[.slice none 0 0, .slice none 0 0] 25 (0, 0))) := by
              show _ = _
              rw [heap_far HNE.out]; exact HRW.out
            generalize w'.setCell ⟨xb, 0, none⟩ (.slice (some ⟨g', 0, none⟩) (n + 1) cap') = w9 at H9 H8 H7 H6 ⊢
            go_wp2_with fail
            go_roundg (e - (p + 1))
            case measure => have := HI2.out; have := HPE.out; omega
            case rel => exact ⟨p + 1, n + 1, _, _, by simp, ⟨by have := HI2.out; omega, HPE.out, rfl, by have := HI2.out; omega⟩, H7, H8, H9, H6⟩
        · have e1 : decide ((p : Int) < (e : Int)) = false := by rw [decide_eq_false_iff_not]; omega
          have e2 : decide (p < e) = false := by rw [decide_eq_false_iff_not]; omega
          have hn : n = e - c := by have := HI2.out; omega
          subst hn
          have k0 := rcell HX.out 0 _ rfl
          have k1 := rcell HX.out 1 _ rfl
          have r0 := rcell HR.out 0 _ rfl
          have r1 := rcell HR.out 1 _ rfl
          have f0 := Lib.frozen_of_heap HR.out 0
          have f1 := Lib.frozen_of_heap HR.out 1
          have hB : IntKind.i64.wrap ((e : Int) - (c : Int)) = ((e - c : Nat) : Int) := by rw [w64z _ (by have := HE.out; omega) (by have := HE.out; have := HPL.out.2.2; omega)]; have := HE.out; omega
          clear hpe
          obtain ⟨nn, hnn⟩ : ∃ nn, e - c = nn := ⟨_, rfl⟩
          rw [hnn] at HX HOW HSL k0 hB
          have HNN : Hid (e - c = nn) := hnn
          clear hnn
          go_wp2_with fail
          refine bodyPost_ret (v := .tuple #[.agg #[.slice va nn vc, .slice none 0 0], .int .i64 (nn : Int)]) ?_ rfl ⟨⟨_, by rw [HNN.out], ?_⟩, ?_⟩
          · rw [results_ct rfl]; go_simp
          · rw [HSL.out.1, HSL.out.2]
            have h9 := HOW.out.kept (grown_set (W := wr) (b := rb) (k := 0) (v := .slice va nn vc)) (.inr (tag_ne_blk HOW.out HR.out (by decide)))
            exact h9.kept grown_set (.inr (tag_ne_blk h9 (blk_set _ HR.out) (by decide)))
          · exact Below.setCell (Below.setCell HBW.out (Nat.le_of_eq HRB.out) _) (Nat.le_of_eq HRB.out) _
    · have hple : p < (pks P).length := by
        have h9 := HF.out.le p
        have h8 := HM.out.2
        omega
      have HPP : Hid (p < (pks P).length) := hple
      have hpp : p < pl := by rw [← HPL.out.2.1]; exact hple
      have k1 := HF.out.step p hple
      have k2 := HF.out.le (p + 1)
      obtain ⟨K, hK⟩ : ∃ K, Tr.kA (pks P) p = K := ⟨_, rfl⟩
      rw [hK] at k1
      have HK : Hid (Tr.kA (pks P) p = K ∧ K ≤ Tr.rA (pks P) (p + 1) ∧ Tr.rA (pks P) p = Tr.rA (pks P) (p + 1) + 1 - K) := ⟨hK, k1.2.2.1, k1.2.2.2⟩
      have hkd : (P.getD p pz).kd = (K : Int) := by
        rw [← k1.2.1]
        unfold pks
        rw [List.getD_eq_getElem?_getD, List.getD_eq_getElem?_getD, List.getElem?_map]
        rw [List.getElem?_eq_getElem (by rw [HPL.out.1]; exact hpp)]
        rfl
      obtain ⟨g, o, rfl, -, -, -, -, c4⟩ := (HPS.out.up HB1.out).all p (by rw [HPL.out.1]; exact hpp)
      rw [hkd] at c4
      have hkb : K ≤ 32 := by have := HPL.out.2.1; have := HPL.out.2.2; omega
      have hmb : m ≤ 32 := by have h9 := HF.out.le p; have := HM.out.2; have := HPL.out.2.1; have := HPL.out.2.2; omega
      have d1 : decide ((0 : Int) < (m : Int)) = true := by rw [decide_eq_true_eq]; omega
      have d2 : decide (0 < m) = true := by rw [decide_eq_true_eq]; omega
      have d3 : decide ((p : Int) < (pl : Int)) = true := by rw [decide_eq_true_eq]; omega
      have d4 : decide (p < pl) = true := by rw [decide_eq_true_eq]; omega
      have b1 : (p : Int) < (pl : Int) := by omega
      have b2 : p < pl := hpp
      have hwp := w64n p (by have := HPL.out.2.2; omega)
      have hA : IntKind.i64.wrap ((m : Int) - 1) = (m : Int) - 1 := w64z _ (by omega) (by omega)
      have hB : IntKind.i64.wrap ((m : Int) - 1 + (K : Int)) = ((K + (m - 1) : Nat) : Int) := by rw [w64z _ (by omega) (by omega)]; omega
      have HM2 : Hid (Tr.wA (pks P) (p + 1) (K + (m - 1)) = e ∧ K + (m - 1) ≤ Tr.rA (pks P) (p + 1)) := by
        have h9 := HF.out.down p (m - 1) hple
        rw [show m - 1 + 1 = m by omega, HM.out.1, HK.out.1] at h9
        exact ⟨h9.symm, by have := HK.out; have := HM.out.2; omega⟩
      have HPE : Hid (p < e) := by
        have h9 := HF.out.end p m (by omega) HM.out.2
        have h8 := HM.out.1
        rw [h8] at h9
        have := h9.2.2
        show p < e
        omega
      clear hm hple hpp k1 k2 hK hkd hkb hmb
      go_wp2_with fail
      go_roundg (e - (p + 1))
      case measure => have := HI.out; have := HPE.out; omega
      case rel => exact ⟨K + (m - 1), p + 1, rfl, by simp, ⟨by have := HI.out; omega, HPE.out, rfl⟩, HM2, rfl⟩
end Go.Proofs.YtcmhbcfgikmblabGreatDoor.Qy
namespace Go.Proofs.YtcmhbcfgikmblabGreatDoor.Qy
open Go.RowKit Go.Maps

theorem infoSF : (Tryz.prog.info? 30).map (fun i => (i.zero, i.size, i.bytes)) = some (some (.slice none 0 0), 1, 24) := by kernel_rfl
theorem shp_one {P : List Pn} {cs : List Cd} (h : shp P cs = true) : shp [bare1 (P.getD 0 pz)] [] = true := by
  have h0 := h
  unfold shp at h0
  simp only [Bool.and_eq_true, decide_eq_true_eq, List.all_eq_true] at h0
  obtain ⟨a1, a2, a3, a4, a5⟩ := h0
  have h1 := a4 0 (List.mem_range.2 (pos_one a3))
  unfold nat' at h1
  simp only [Bool.and_eq_true] at h1
  obtain ⟨p, hp⟩ : ∃ p, P.getD 0 pz = p := ⟨_, rfl⟩
  rw [hp] at h1 ⊢
  have h2 : nsh (bare1 p) = true := by
    have h3 := h1.1
    unfold nsh at h3 ⊢
    show (nmN p.fd && (nmN p.cp && (if p.lit then !decide (p.nm = ⟨#[]⟩) && decide ((0 : Int) = 0) else nmN p.nm))) = true
    simp only [Bool.and_eq_true] at h3 ⊢
    refine ⟨h3.1, h3.2.1, ?_⟩
    have h4 := h3.2.2
    cases hl : p.lit with
    | true =>
      rw [hl] at h4
      simp only [if_true, Bool.and_eq_true] at h4 ⊢
      exact ⟨h4.1, by simp⟩
    | false => rw [hl] at h4; exact h4
  unfold shp
  simp only [Bool.and_eq_true, decide_eq_true_eq]
  refine ⟨by simp, by simp, rfl, ?_, rfl⟩
  show (List.range 1).all (nat' [bare1 p]) = true
  show (nat' [bare1 p] 0 && true) = true
  unfold nat'
  show ((nsh (bare1 p) && (decide (p.cp = ⟨#[]⟩) || decide (cap [bare1 p] p.cp = ((0 : Nat) : Int)))) && true) = true
  rw [h2]
  by_cases e : p.cp = ⟨#[]⟩
  · rw [decide_eq_true e]; rfl
  · have e2 : cap [bare1 p] p.cp = ((0 : Nat) : Int) := by
      unfold cap
      rw [if_neg e]
      unfold ixc
      rw [if_pos (show (bare1 p).cp = p.cp from rfl)]
    rw [decide_eq_true e2]; simp
/-- The parts' matches in memory. -/
def Pts (W : World) (vs : List Value) (P : List Pn) (T : List Tr.Nd) (s : ByteArray) (i : Nat) : Prop := vs.length = i ∧ ∀ j, j < i → ∃ x us n, vs[j]? = some x ∧ Fa 0 W x us (pts P T s (Tr.wA (pks P) 1 j)) n ∧ n ≤ T.length
theorem Pts.up {W W' : World} {vs : List Value} {P : List Pn} {T : List Tr.Nd} {s : ByteArray} {i : Nat} (h : Pts W vs P T s i) (hb : Below W.heap.size W W') : Pts W' vs P T s i := ⟨h.1, fun j hj => by
  obtain ⟨x, us, n, h1, h2, h3⟩ := h.2 j hj
  exact ⟨x, us, n, h1, h2.up hb, h3⟩⟩
theorem Fa.grown {W W' : World} {B k : Nat} {u v : Value} {vs ys : List Value} {R : List (List Int)} {n : Nat} (h : Fa 0 W v vs R n) (hg : W.grownBy W' u.ownBlock) (ho : W.ownsRow B 30 1 u k ys) : Fa 0 W' v vs R n :=
  ⟨h.ow.kept hg (tag_ne h.ow ho (by decide)), h.ln, fun i x hx => (h.at' i x hx).kept hg (tag_ne (h.at' i x hx) ho (by decide))⟩
theorem Pts.grown {W W' : World} {B k : Nat} {u : Value} {vs ys : List Value} {P : List Pn} {T : List Tr.Nd} {s : ByteArray} {i : Nat} (h : Pts W vs P T s i) (hg : W.grownBy W' u.ownBlock) (ho : W.ownsRow B 30 1 u k ys) : Pts W' vs P T s i := ⟨h.1, fun j hj => by
  obtain ⟨x, us, n, h1, h2, h3⟩ := h.2 j hj
  exact ⟨x, us, n, h1, h2.grown hg ho, h3⟩⟩
theorem Pts.push {W : World} {vs : List Value} {P : List Pn} {T : List Tr.Nd} {s : ByteArray} {i : Nat} (h : Pts W vs P T s i) {x : Value} {us : List Value} {n : Nat} (hx : Fa 0 W x us (pts P T s (Tr.wA (pks P) 1 i)) n) (hn : n ≤ T.length) : Pts W (vs ++ [x]) P T s (i + 1) := by
  refine ⟨by rw [List.length_append, h.1]; rfl, fun j hj => ?_⟩
  by_cases e : j < i
  · obtain ⟨x', us', n', h1, h2, h3⟩ := h.2 j e
    exact ⟨x', us', n', by rw [List.getElem?_append_left (by rw [h.1]; exact e)]; exact h1, h2, h3⟩
  · have : j = i := by omega
    subst this
    exact ⟨x, us, n, by rw [List.getElem?_append_right (by rw [h.1]; exact Nat.le_refl _), h.1, Nat.sub_self]; rfl, hx, hn⟩
theorem pts_all {P : List Pn} {T : List Tr.Nd} {cs : List Cd} (s : ByteArray) (h : shp P cs = true) {r : Nat} (hr : Tr.rt (Tr.kds T) = some r) {c : Nat} (hc : c < P.length) : allQ (sub P c) [] T s = pts P T s c := by
  unfold allQ pts
  rw [shp_sub h hc, hr]
  rfl
theorem mtc_mem {R : List (List Int)} {z : Int} {l : List Int} (h : mtc R z = some l) : l ∈ R := List.mem_of_find?_eq_some h
theorem pts_len {P : List Pn} {T : List Tr.Nd} {cs : List Cd} {s : ByteArray} (h : shp P cs = true) (hT : Tr.Fo (Tr.kds T)) {c : Nat} (hc : c < P.length) {l : List Int} (hl : l ∈ pts P T s c) : l.length ≤ 32 := by
  have h1 := shp_all (shp_sub h hc)
  have h2 := (alls_fv [] s h1.2.2.1 hT T.length (Nat.le_refl _) l hl).1
  omega
theorem kls_kN {T : List Tr.Nd} {v : Nat} (hv : v < T.length) (hf : Tr.Fo (Tr.kds T)) : Tr.kls T (v : Int) = (kN (Tr.kds T) v).map (fun k : Nat => (k : Int)) := by
  unfold Tr.kls
  rw [Tr.std_of hv hf]
  unfold Tr.kl kN
  simp [List.map_map]
theorem ne_app {W : World} {B n size : Nat} {e : TypeId} {kv v v' : Value} {xs : List Value} {o : Obj} (h : kv.ownBlock = none ∨ kv.ownBlock ≠ v.ownBlock) (hk : W.ownsRow B e size kv n xs) (ha : v'.ownBlock = v.ownBlock ∨ v'.ownBlock = some (W.alloc o).heap.size) : kv.ownBlock = none ∨ kv.ownBlock ≠ v'.ownBlock := by
  rcases ha with ha | ha
  · rw [ha]; exact h
  · cases hb : kv.ownBlock with
    | none => exact .inl rfl
    | some r =>
      refine .inr fun e => ?_
      rw [ha] at e
      obtain ⟨_, cur, h7⟩ := row_tag hk r hb
      have h5 := lt_of_heap h7
      have h6 := Option.some.inj e
      simp at h6
      omega
/-- The parts, as what they find at a node. -/
def lf (P : List Pn) (T : List Tr.Nd) (s : ByteArray) : List (Nat → Option (List Int)) := (kN (pks P) 0).map (fun c k => mtc (pts P T s c) (k : Int))
theorem lf_drop {P : List Pn} (T : List Tr.Nd) (s : ByteArray) {K i : Nat} (hk : Tr.kA (pks P) 0 = K) (hi : i < K) : (lf P T s).drop i = (fun k : Nat => mtc (pts P T s (Tr.wA (pks P) 1 i)) (k : Int)) :: (lf P T s).drop (i + 1) := by
  have hl : (lf P T s).length = K := by unfold lf kN; simp [hk]
  rw [List.drop_eq_getElem_cons (by rw [hl]; exact hi)]
  congr 1
  unfold lf kN
  simp
theorem lf_end {P : List Pn} (T : List Tr.Nd) (s : ByteArray) {K : Nat} (hk : Tr.kA (pks P) 0 = K) : (lf P T s).drop K = [] := by
  apply List.drop_eq_nil_of_le
  unfold lf kN
  simp [hk]
theorem alls_next (P : List Pn) (T : List Tr.Nd) (s : ByteArray) (hT : Tr.Fo (Tr.kds T)) (v : Nat) (hv : v < T.length) : alls P [] T s (v + 1) = alls P [] T s v ++ (match gN P T 0 v with | some l => [l] | none => []) := by
  rw [alls_succ, mt1_eq P [] T s hT v hv]
  cases gN P T 0 v with
  | none => rfl
  | some l => rfl
/-- One step of the choice. -/
theorem gr_step {f : Nat → Option (List Int)} {fs : List (Nat → Option (List Int))} {ks : List Nat} {k k2 : Nat} {A : Bool} {F l : List Int} {g : Option (List Int)} (hg : g = if A then (gr (f :: fs) (ks.drop k)).map (F ++ ·) else none) (h0 : l = [] → gr (f :: fs) (ks.drop k) = none) (h1 : l ≠ [] → gr (f :: fs) (ks.drop k) = (gr fs (ks.drop k2)).map (l ++ ·)) : g = if A && !l.isEmpty then (gr fs (ks.drop k2)).map ((F ++ l) ++ ·) else none := by
  rw [hg]
  cases A with
  | false => rfl
  | true =>
    cases l with
    | nil => rw [h0 rfl]; rfl
    | cons x l =>
      rw [h1 (by simp)]
      simp only [if_true, List.isEmpty_cons, Bool.not_false, Bool.and_self, Option.map_map]
      congr 1
      funext y
      simp
end Go.Proofs.YtcmhbcfgikmblabGreatDoor.Qy
