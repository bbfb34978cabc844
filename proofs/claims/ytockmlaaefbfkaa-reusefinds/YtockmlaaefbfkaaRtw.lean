import Derived.Test.YtockmlaaefbfkaaRfi
namespace Go.Proofs.Ytockmlaaefbfkaa
open Go.RowKit Go.Maps

theorem getD_mem {α : Type} (l : List α) (d : α) (i : Nat) (h : i < l.length) : l.getD i d ∈ l := by
  rw [List.getD_eq_getElem?_getD, List.getElem?_eq_getElem h]
  exact List.getElem_mem h
theorem take_getD {α : Type} (l : List α) (d : α) (i : Nat) (h : i < l.length) : l.take (i + 1) = l.take i ++ [l.getD i d] := by
  rw [List.take_add_one, List.getElem?_eq_getElem h, List.getD_eq_getElem?_getD, List.getElem?_eq_getElem h]; rfl
/-- A result with its leaves alone. -/
def ru (k : Nat) : Value := if k = 2 then .int .u64 0 else if k = 4 then .slice none 0 0 else .int .i64 0
def rsA (v : Value) : Array Value := #[.int .i64 0, .int .i64 0, .int .u64 0, v, .slice none 0 0, .int .i64 0]
theorem rsv_is (v : Value) : rsv ru v = .agg (rsA v) := rfl
def Rb (N : Nat) (v : Value) (W : World) : Prop := W.heap[N]? = some (.cells (rsA v) 33 (0, 0))
theorem Rb.up {N : Nat} {v : Value} {W W' : World} (h : Rb N v W) (hb : Below W.heap.size W W') : Rb N v W' := (hb.block N (lt_of_heap h)).trans h
theorem Rb.cs {N : Nat} {v : Value} {W : World} (h : Rb N v W) : W.cell? ⟨N, 0, none⟩ = some (.int .i64 0) ∧ W.cell? ⟨N, 1, none⟩ = some (.int .i64 0) ∧ W.cell? ⟨N, 2, none⟩ = some (.int .u64 0) ∧ W.cell? ⟨N, 3, none⟩ = some v ∧ W.cell? ⟨N, 4, none⟩ = some (.slice none 0 0) ∧ W.cell? ⟨N, 5, none⟩ = some (.int .i64 0) :=
  ⟨rcell h 0 _ rfl, rcell h 1 _ rfl, rcell h 2 _ rfl, rcell h 3 _ rfl, rcell h 4 _ rfl, rcell h 5 _ rfl⟩
theorem Rb.set {N : Nat} {v : Value} {W : World} (h : Rb N v W) (v' : Value) : Rb N v' (W.setCell ⟨N, 3, none⟩ v') := blk_set v' h
theorem leaf_fit (n : Nat) (h : n * 56 ≤ 140737488355328) : Builtin.nextslicecap (n + 1) n * 56 ≤ 281474976710656 := by
  have := cap_fit n h; omega
set_option maxRecDepth 100000 in
theorem resR {fn : Func} {p : Tmp} (hf : fn.results = #[.cell p 33]) {tmps : Array Value} {b : Nat} (ht : tmps.getD p undef = .pointer (some ⟨b, 0, none⟩)) {W : World} {a : Option Addr} {n c : Nat} (h : Rb b (.slice a n c) W) : (results fn tmps).run Try.prog W = .ok (rsv ru (.slice a n c)) W := by
  rw [results_cell1 hf, ht, rsv_is]
  obtain ⟨r0, r1, r2, r3, r4, r5⟩ := h.cs
  unfold rsA
  clear h
  go_simp
theorem rput_heap {W : World} {b : Nat} {v0 : Value} (v : Value) (h : Rb b v0 W) : Rb b v ((((((W.setCell ⟨b, 0, none⟩ (.int .i64 0)).setCell ⟨b, 1, none⟩ (.int .i64 0)).setCell ⟨b, 2, none⟩ (.int .u64 0)).setCell ⟨b, 3, none⟩ v).setCell ⟨b, 4, none⟩ (.slice none 0 0)).setCell ⟨b, 5, none⟩ (.int .i64 0)) := put6_heap _ _ _ _ _ _ h
/-- The cells of one leaf that came in. -/
def Lc (g o : Nat) (x : Lf) (V : World) : Prop := V.cell? ⟨g, o, none⟩ = some (.int .i64 x.t) ∧ V.cell? ⟨g, o + 1, none⟩ = some (.int .i64 x.p) ∧ V.cell? ⟨g, o + 2, none⟩ = some (.int .i64 x.l) ∧ V.cell? ⟨g, o + 3, none⟩ = some (.int .i64 x.k) ∧ V.cell? ⟨g, o + 4, none⟩ = some (.int .u64 x.v) ∧ V.cell? ⟨g, o + 5, none⟩ = some (.string x.a)
set_option maxRecDepth 100000 in
/-- One more leaf in a row of the call's own. -/
theorem leaf_one {B N : Nat} {W : World} {v : Value} {L : List Lf} (h : W.ownsRow B 36 6 v L.length (flat lf L)) (hb : Rb N v W) (hB : B ≤ N) (x : Lf) (hl : L.length * 56 ≤ 140737488355328) (ty : TypeId) :
    ∃ v' W2, (Builtin.append_ #[22, 22] ty #[v, .slice (some ⟨W.heap.size, 0, none⟩) 1 1]).run Try.prog (W.alloc (.cells (lf x).toArray 36)) = .ok v' W2 ∧ W2.ownsRow B 36 6 v' (L ++ [x]).length (flat lf (L ++ [x])) ∧ Below B W W2 ∧ W.grownBy W2 v.ownBlock ∧ (v'.ownBlock = v.ownBlock ∨ v'.ownBlock = some (W.heap.size + 1)) ∧ Rb N v W2 := by
  obtain ⟨iS, hi, hx0, hx1, hx2⟩ := info_parts infoLf
  have hsz1 : (W.alloc (.cells (lf x).toArray 36)).heap.size = W.heap.size + 1 := by simp
  have hN := lt_of_heap hb
  have hb1 : Below W.heap.size W (W.alloc (.cells (lf x).toArray 36)) := bel_up _ _
  obtain ⟨v', W2, hr2, ho2, hg2, hloc⟩ := run_one (P := Try.prog) (W.alloc (.cells (lf x).toArray 36)) 22 ty B 36 iS _ 6 56 Try.underlying22 hi hx0 hx1 hx2 rfl v L.length (flat lf L) (h.alloc _) ⟨W.heap.size, 0, none⟩ 1 (lf x) rfl (fun j u hu => by rw [addPl, Lib.cell_of_heap (heap_new W _)]; rw [Nat.zero_add]; simpa using hu) (lf_one x) (by unfold maxLen; omega) (leaf_fit _ hl) (by omega)
  have hg : W.grownBy W2 v.ownBlock := (World.grownBy_alloc W _ _).trans hg2
  refine ⟨v', W2, hr2, ?_, ?_, hg, by rw [hsz1] at hloc; exact hloc, ?_⟩
  · rw [flat_app, List.length_append]
    have e9 : flat lf [x] = lf x := by simp [flat]
    rw [e9]; exact ho2
  · exact (Below.refl B W).grown hg (by omega) (fun q hq => (row_tag h q hq).1)
  · exact (hg.block N hN (fun e => tag_ne_blk h hb (by decide) e.symm)).trans hb
set_option maxRecDepth 100000 in
set_option maxHeartbeats 8000000 in
theorem twin_any {v : Value} {l : List Lf} (w : World) (h : Lv w v l) (hl : l.length * 56 ≤ 140737488355328) :
    Calls Try.prog 7 #[v] w fun e w' => ∃ v', e = .returned (rsv ru v') ∧ w'.ownsRow w.heap.size 36 6 v' l.length (flat lf l) ∧ Below w.heap.size w w' := by
  have HH : Hid (Lv w v l) := h
  obtain ⟨a, cap, rfl⟩ := h.form
  obtain ⟨m, hm⟩ : ∃ m, l.length = m := ⟨_, rfl⟩
  have HM : Hid (l.length = m) := hm
  unfold Lv at HH
  rw [hm] at HH hl ⊢
  have HL : Hid (m * 56 ≤ 140737488355328) := hl
  clear h hm hl
  obtain ⟨N, hN⟩ : ∃ N, w.heap.size = N := ⟨_, rfl⟩
  obtain ⟨W1, hW1⟩ : ∃ W1, W1 = (w.alloc (.cells #[.int .i64 0, .int .i64 0, .int .u64 0, .slice none 0 0, .slice none 0 0, .int .i64 0] 33)).alloc (.cells #[.int .i64 0, .int .i64 0, .int .u64 0, .slice none 0 0, .slice none 0 0, .int .i64 0] 33) := ⟨_, rfl⟩
  have HB1 : Hid (Below w.heap.size w W1) := by rw [hW1]; exact below_trans (bel_up _ _) (bel_up _ _)
  have HR1 : Hid (Rb N (.slice none 0 0) W1) := by
    show _ = _
    rw [hW1, ← hN, Below.heap_alloc _ _ _ (by simp)]; exact heap_new w _
  have HQ1 : Hid (Rb (N + 1) (.slice none 0 0) W1) := by
    show _ = _
    have h1 := heap_new (w.alloc (.cells #[.int .i64 0, .int .i64 0, .int .u64 0, .slice none 0 0, .slice none 0 0, .int .i64 0] 33)) (.cells #[.int .i64 0, .int .i64 0, .int .u64 0, .slice none 0 0, .slice none 0 0, .int .i64 0] 33)
    rw [show (w.alloc (.cells #[.int .i64 0, .int .i64 0, .int .u64 0, .slice none 0 0, .slice none 0 0, .int .i64 0] 33)).heap.size = w.heap.size + 1 by simp] at h1
    rw [hW1, ← hN]; exact h1
  rw [hN]
  go_enter Try.func7, Try.ntmps7
  go_upto_region 3 with fail
  rw [← hW1]
  clear hW1
  go_loopg [4] m (fun gm v4 wr => ∃ (i : Nat) (x : Value), v4 = .int .i64 (i : Int) ∧ Hid (i ≤ m ∧ gm = m - i) ∧ Hid (wr.ownsRow N 36 6 x (l.take i).length (flat lf (l.take i))) ∧ Hid (Rb (N + 1) x wr) ∧ Hid (Rb N (.slice none 0 0) wr) ∧ Hid (Below w.heap.size w wr))
  case atStart => exact ⟨0, _, rfl, ⟨Nat.zero_le _, rfl⟩, World.ownsRow_nil _ _ _ _, HQ1, HR1, HB1⟩
  case round =>
    obtain ⟨i, xs, rfl, HIX, HO, HQ, HR, HB⟩ := hrel
    clear HQ1 HR1 HB1
    by_cases hi : i < m
    · have e1 : decide ((i : Int) < (m : Int)) = true := by rw [decide_eq_true_eq]; omega
      have e2 : decide (i < m) = true := by rw [decide_eq_true_eq]; omega
      have b1 : (i : Int) < (m : Int) := by omega
      have b2 : i < m := hi
      have HIM : Hid (i < m) := hi
      have hwi := w64n i (by have := HL.out; omega)
      obtain ⟨g, og, rfl, hc⟩ := Lv.at HH.out HM.out i hi
      have HTK : Hid (l.take (i + 1) = l.take i ++ [l.getD i lfd]) := take_getD l lfd i (by have := HM.out; omega)
      have hln : (l.take i).length = i := by rw [List.length_take]; have := HM.out; omega
      obtain ⟨x, hx⟩ : ∃ x, l.getD i lfd = x := ⟨_, rfl⟩
      obtain ⟨Lt, hLt⟩ : ∃ Lt, l.take i = Lt := ⟨_, rfl⟩
      rw [hx] at hc HTK
      rw [hLt] at HTK HO hln
      have HC : Hid (∀ W', Below w.heap.size w W' → Lc g (og + i * 6) x W') := hc
      have HLN : Hid (Lt.length = i) := hln
      rw [hln] at HO
      obtain ⟨xa, xc, hxs⟩ := row_shape HO.out
      subst hxs
      clear hi hc hx hLt hln
      go_upto_region 5 with fail
      refine wp_region_noPanic ?_
      refine wp_region_held_drew (S := Lc g (og + i * 6) x) (by kernel_rfl) (HC.out _ (Below.drew HB.out)) (fun hHeld => ?_)
      obtain ⟨WD, hWD⟩ : ∃ WD, wr.drew = WD := ⟨_, rfl⟩
      have HOD : Hid (WD.ownsRow N 36 6 (.slice xa i xc) Lt.length (flat lf Lt)) := by rw [← hWD, HLN.out]; exact HO.out
      have HQD : Hid (Rb (N + 1) (.slice xa i xc) WD) := by rw [← hWD]; exact HQ.out
      have HRD : Hid (Rb N (.slice none 0 0) WD) := by rw [← hWD]; exact HR.out
      have HBD : Hid (Below w.heap.size w WD) := by rw [← hWD]; exact Below.drew HB.out
      rw [hWD]
      clear hWD hHeld HO HQ HR HB
      have hHeld : Lc g (og + i * 6) x WD := HC.out _ HBD.out
      refine wpAnyH_take (i := 0) (oi := { dst := _, op := _, type := _, pos := _, after := _, guard := _ }) (v := ?_) rfl (by kernel_rfl) (by kernel_rfl) (by kernel_rfl) (fun _ _ _ h => h) (Or.inl ⟨by rfl, ?_⟩) (by assumption) ?_
      rotate_left
      · intro W hSw
        (try dsimp only at hSw)
        obtain ⟨t0, t1, t2, t3, t4, t5⟩ := hSw
        go_simp
        (try with_reducible rfl)
      try simp only [Act.put, List.setIfInBounds_toArray, List.set_cons_zero, List.set_cons_succ]
      refine wpAnyH_take (i := 2) (oi := { dst := _, op := _, type := _, pos := _, after := _, guard := _ }) (v := ?_) rfl (by kernel_rfl) (by kernel_rfl) (by kernel_rfl) (fun _ _ _ h => h) (Or.inl ⟨by rfl, ?_⟩) (by assumption) ?_
      rotate_left
      · intro W hSw
        (try dsimp only at hSw)
        obtain ⟨t0, t1, t2, t3, t4, t5⟩ := hSw
        go_simp
        (try with_reducible rfl)
      try simp only [Act.put, List.setIfInBounds_toArray, List.set_cons_zero, List.set_cons_succ]
      refine wpAnyH_take (i := 3) (oi := { dst := _, op := _, type := _, pos := _, after := _, guard := _ }) (v := ?_) rfl (by kernel_rfl) (by kernel_rfl) (by kernel_rfl) (fun _ _ _ h => h) (Or.inl ⟨by rfl, ?_⟩) (by assumption) ?_
      rotate_left
      · intro W hSw
        (try dsimp only at hSw)
        obtain ⟨t0, t1, t2, t3, t4, t5⟩ := hSw
        go_simp
        (try with_reducible rfl)
      try simp only [Act.put, List.setIfInBounds_toArray, List.set_cons_zero, List.set_cons_succ]
      refine wpAnyH_take (i := 4) (oi := { dst := _, op := _, type := _, pos := _, after := _, guard := _ }) (v := ?_) rfl (by kernel_rfl) (by kernel_rfl) (by kernel_rfl) (fun _ _ _ h => h) (Or.inl ⟨by rfl, ?_⟩) (by assumption) ?_
      rotate_left
      · intro W hSw
        (try dsimp only at hSw)
        obtain ⟨t0, t1, t2, t3, t4, t5⟩ := hSw
        go_simp
        (try with_reducible rfl)
      try simp only [Act.put, List.setIfInBounds_toArray, List.set_cons_zero, List.set_cons_succ]
      refine wpAnyH_take (i := 5) (oi := { dst := _, op := _, type := _, pos := _, after := _, guard := _ }) (v := ?_) rfl (by kernel_rfl) (by kernel_rfl) (by kernel_rfl) (fun _ _ _ h => h) (Or.inl ⟨by rfl, ?_⟩) (by assumption) ?_
      rotate_left
      · intro W hSw
        (try dsimp only at hSw)
        obtain ⟨t0, t1, t2, t3, t4, t5⟩ := hSw
        go_simp
        (try with_reducible rfl)
      try simp only [Act.put, List.setIfInBounds_toArray, List.set_cons_zero, List.set_cons_succ]
      obtain ⟨va, W2, r2, hO2, hB2, hg2, hloc2, hR2⟩ := leaf_one HOD.out HQD.out (by omega) x (by have := HLN.out; have := HL.out; have := HIM.out; omega) 22
      obtain ⟨aa, ac, hva⟩ := row_shape hO2
      subst hva
      have HR2 : Hid _ := r2
      have HO2 : Hid (W2.ownsRow N 36 6 (.slice aa (Lt ++ [x]).length ac) (Lt ++ [x]).length (flat lf (Lt ++ [x]))) := hO2
      have HQ2 : Hid (Rb (N + 1) (.slice xa i xc) W2) := hR2
      have HRR2 : Hid (Rb N (.slice none 0 0) W2) := (hg2.block N (lt_of_heap HRD.out) (fun e => tag_ne_blk HOD.out HRD.out (by decide) e.symm)).trans HRD.out
      have HB2 : Hid (Below w.heap.size w W2) := HBD.out.trans (by rw [hN]; exact hB2)
      have HLL : Hid ((Lt ++ [x]).length = i + 1) := by show _ = _; rw [List.length_append, HLN.out]; rfl
      rw [HLL.out] at HR2 HO2
      clear r2 hO2 hB2 hg2 hloc2 hR2 hHeld
      obtain ⟨-, -, -, ld3, -, -⟩ := HQD.out.cs
      refine wpAnyH_ready (rs := [1, 6]) (by kernel_rfl) (by simp) ?_
      refine AllReadyH.cons (o := { dst := _, op := _, type := _, pos := _, after := _, guard := _ }) rfl (fun K hK => ?_) (AllReadyH.cons (o := { dst := _, op := _, type := _, pos := _, after := _, guard := _ }) rfl (fun K hK => ?_) AllReadyH.nil)
      · go_simp
        refine hK.out _ _ ?_ (fun hHeld => ?_)
        · exact HC.out _ HBD.out
        clear hK K hHeld ld3
        try simp only [Act.put, List.setIfInBounds_toArray, List.set_cons_zero, List.set_cons_succ]
        refine wpAnyH_ready (rs := [6]) (by kernel_rfl) (by simp) ?_
        refine AllReadyH.cons (o := { dst := _, op := _, type := _, pos := _, after := _, guard := _ }) rfl (fun K hK => ?_) AllReadyH.nil
        go_simp
        refine hK.out _ _ ?_ (fun hHeld => ?_)
        · exact HC.out _ (below_trans HBD.out (bel_up _ _))
        clear hK K hHeld
        try simp only [Act.put, List.setIfInBounds_toArray, List.set_cons_zero, List.set_cons_succ]
        refine wpAnyH_ready (rs := [7]) (by kernel_rfl) (by simp) ?_
        refine AllReadyH.cons (o := { dst := _, op := _, type := _, pos := _, after := _, guard := _ }) rfl (fun K hK => ?_) AllReadyH.nil
        refine step_append rfl _ _ 22 rfl _ _ (.slice aa (i + 1) ac) W2 rfl rfl HR2.out ?_
        refine hK.out _ _ ?_ (fun hHeld => ?_)
        · exact HC.out _ HB2.out
        clear hK K
        try simp only [Act.put, List.setIfInBounds_toArray, List.set_cons_zero, List.set_cons_succ]
        refine wpAnyH_take (i := 8) (oi := { dst := _, op := _, type := _, pos := _, after := _, guard := _ }) (v := ?_) rfl (by kernel_rfl) (by kernel_rfl) (by kernel_rfl) (fun _ _ _ h => h) (Or.inl ⟨by rfl, ?_⟩) (by assumption) ?_
        rotate_left
        · intro W hSw
          (try dsimp only at hSw)
          obtain ⟨t0, t1, t2, t3, t4, t5⟩ := hSw
          go_simp
          (try with_reducible rfl)
        try simp only [Act.put, List.setIfInBounds_toArray, List.set_cons_zero, List.set_cons_succ]
        clear hHeld
        obtain ⟨-, -, -, ld, -, -⟩ := HQ2.out.cs
        have fz := Lib.frozen_of_heap HQ2.out 3
        refine wpAnyH_ready (rs := [9]) (by kernel_rfl) (by simp) ?_
        refine AllReadyH.cons (o := { dst := _, op := _, type := _, pos := _, after := _, guard := _ }) rfl (fun K hK => ?_) AllReadyH.nil
        go_simp
        have HB3 : Hid (Below w.heap.size w (W2.setCell ⟨N + 1, 3, none⟩ (.slice aa (i + 1) ac))) := HB2.out.setCell (by show _ ≤ N + 1; omega) _
        refine hK.out _ _ ?_ (fun hHeld => ?_)
        · exact HC.out _ HB3.out
        clear hK K hHeld ld fz
        try simp only [Act.put]
        refine wpAnyH_done (by kernel_rfl) ?_ _
        refine NoPanic.normal ?_
        have HQ3 : Hid (Rb (N + 1) (.slice aa (i + 1) ac) (W2.setCell ⟨N + 1, 3, none⟩ (.slice aa (i + 1) ac))) := HQ2.out.set _
        have HR3 : Hid (Rb N (.slice none 0 0) (W2.setCell ⟨N + 1, 3, none⟩ (.slice aa (i + 1) ac))) := by
          show _ = _
          rw [Below.heap_setCell _ _ _ _ (by show N ≠ N + 1; omega)]; exact HRR2.out
        have HO3 : Hid ((W2.setCell ⟨N + 1, 3, none⟩ (.slice aa (i + 1) ac)).ownsRow N 36 6 (.slice aa (i + 1) ac) (i + 1) (flat lf (Lt ++ [x]))) := HO2.out.kept grown_set (.inr (tag_ne_blk HO2.out HQ2.out (by decide)))
        clear HR2 HO2 HQ2 HRR2 HB2 HOD HQD HRD HBD
        go_wp2_with fail
        go_roundg (m - (i + 1))
        case measure => have := HIX.out; have := HIM.out; omega
        case rel => exact ⟨i + 1, _, by first | rfl | (rw [show (i : Int) + 1 = ((i + 1 : Nat) : Int) by omega]), ⟨HIM.out, rfl⟩, by rw [HTK.out, HLL.out]; exact HO3, HQ3, HR3, HB3⟩
      · go_simp
        refine hK.out _ _ ?_ (fun hHeld => ?_)
        · exact HC.out _ (below_trans HBD.out (bel_up _ _))
        clear hK K hHeld
        try simp only [Act.put, List.setIfInBounds_toArray, List.set_cons_zero, List.set_cons_succ]
        refine wpAnyH_ready (rs := [1]) (by kernel_rfl) (by simp) ?_
        refine AllReadyH.cons (o := { dst := _, op := _, type := _, pos := _, after := _, guard := _ }) rfl (fun K hK => ?_) AllReadyH.nil
        clear ld3
        obtain ⟨-, -, -, ld3, -, -⟩ := (HQD.out.up (bel_up _ (.cells #[.int .i64 x.t, .int .i64 x.p, .int .i64 x.l, .int .i64 x.k, .int .u64 x.v, .string x.a] 36))).cs
        go_simp
        refine hK.out _ _ ?_ (fun hHeld => ?_)
        · exact HC.out _ (below_trans HBD.out (bel_up _ _))
        clear hK K hHeld ld3
        try simp only [Act.put, List.setIfInBounds_toArray, List.set_cons_zero, List.set_cons_succ]
        refine wpAnyH_ready (rs := [7]) (by kernel_rfl) (by simp) ?_
        refine AllReadyH.cons (o := { dst := _, op := _, type := _, pos := _, after := _, guard := _ }) rfl (fun K hK => ?_) AllReadyH.nil
        refine step_append rfl _ _ 22 rfl _ _ (.slice aa (i + 1) ac) W2 rfl rfl HR2.out ?_
        refine hK.out _ _ ?_ (fun hHeld => ?_)
        · exact HC.out _ HB2.out
        clear hK K
        try simp only [Act.put, List.setIfInBounds_toArray, List.set_cons_zero, List.set_cons_succ]
        refine wpAnyH_take (i := 8) (oi := { dst := _, op := _, type := _, pos := _, after := _, guard := _ }) (v := ?_) rfl (by kernel_rfl) (by kernel_rfl) (by kernel_rfl) (fun _ _ _ h => h) (Or.inl ⟨by rfl, ?_⟩) (by assumption) ?_
        rotate_left
        · intro W hSw
          (try dsimp only at hSw)
          obtain ⟨t0, t1, t2, t3, t4, t5⟩ := hSw
          go_simp
          (try with_reducible rfl)
        try simp only [Act.put, List.setIfInBounds_toArray, List.set_cons_zero, List.set_cons_succ]
        clear hHeld
        obtain ⟨-, -, -, ld, -, -⟩ := HQ2.out.cs
        have fz := Lib.frozen_of_heap HQ2.out 3
        refine wpAnyH_ready (rs := [9]) (by kernel_rfl) (by simp) ?_
        refine AllReadyH.cons (o := { dst := _, op := _, type := _, pos := _, after := _, guard := _ }) rfl (fun K hK => ?_) AllReadyH.nil
        go_simp
        have HB3 : Hid (Below w.heap.size w (W2.setCell ⟨N + 1, 3, none⟩ (.slice aa (i + 1) ac))) := HB2.out.setCell (by show _ ≤ N + 1; omega) _
        refine hK.out _ _ ?_ (fun hHeld => ?_)
        · exact HC.out _ HB3.out
        clear hK K hHeld ld fz
        try simp only [Act.put]
        refine wpAnyH_done (by kernel_rfl) ?_ _
        refine NoPanic.normal ?_
        have HQ3 : Hid (Rb (N + 1) (.slice aa (i + 1) ac) (W2.setCell ⟨N + 1, 3, none⟩ (.slice aa (i + 1) ac))) := HQ2.out.set _
        have HR3 : Hid (Rb N (.slice none 0 0) (W2.setCell ⟨N + 1, 3, none⟩ (.slice aa (i + 1) ac))) := by
          show _ = _
          rw [Below.heap_setCell _ _ _ _ (by show N ≠ N + 1; omega)]; exact HRR2.out
        have HO3 : Hid ((W2.setCell ⟨N + 1, 3, none⟩ (.slice aa (i + 1) ac)).ownsRow N 36 6 (.slice aa (i + 1) ac) (i + 1) (flat lf (Lt ++ [x]))) := HO2.out.kept grown_set (.inr (tag_ne_blk HO2.out HQ2.out (by decide)))
        clear HR2 HO2 HQ2 HRR2 HB2 HOD HQD HRD HBD
        go_wp2_with fail
        go_roundg (m - (i + 1))
        case measure => have := HIX.out; have := HIM.out; omega
        case rel => exact ⟨i + 1, _, by first | rfl | (rw [show (i : Int) + 1 = ((i + 1 : Nat) : Int) by omega]), ⟨HIM.out, rfl⟩, by rw [HTK.out, HLL.out]; exact HO3, HQ3, HR3, HB3⟩
    · have e1 : decide ((i : Int) < (m : Int)) = false := by rw [decide_eq_false_iff_not]; omega
      have e2 : decide (i < m) = false := by rw [decide_eq_false_iff_not]; omega
      have HTA : Hid (l.take i = l) := List.take_of_length_le (by have := HM.out; omega)
      rw [HTA.out, HM.out] at HO
      obtain ⟨xa, xc, hxs⟩ := row_shape HO.out
      subst hxs
      clear hi
      obtain ⟨x0, x1, x2, x3, x4, x5⟩ := HQ.out.cs
      obtain ⟨y0, y1, y2, y3, y4, y5⟩ := HR.out.cs
      have z0 := Lib.frozen_of_heap HR.out 0; have z1 := Lib.frozen_of_heap HR.out 1; have z2 := Lib.frozen_of_heap HR.out 2; have z3 := Lib.frozen_of_heap HR.out 3; have z4 := Lib.frozen_of_heap HR.out 4; have z5 := Lib.frozen_of_heap HR.out 5
      go_wp2_with fail
      obtain ⟨W5, hW5⟩ : ∃ W5, W5 = (((((wr.setCell ⟨N, 0, none⟩ (.int .i64 0)).setCell ⟨N, 1, none⟩ (.int .i64 0)).setCell ⟨N, 2, none⟩ (.int .u64 0)).setCell ⟨N, 3, none⟩ (.slice xa m xc)).setCell ⟨N, 4, none⟩ (.slice none 0 0)).setCell ⟨N, 5, none⟩ (.int .i64 0) := ⟨_, rfl⟩
      have HZ : Hid (Rb N (.slice xa m xc) W5) := by rw [hW5]; exact rput_heap _ HR.out
      have HBZ : Hid (Below w.heap.size w W5) := by rw [hW5]; exact HB.out.trans (put6_bel (by omega))
      have HOZ : Hid (W5.ownsRow N 36 6 (.slice xa m xc) m (flat lf l)) := by
        have hgz : wr.grownBy W5 (some N) := by rw [hW5]; exact ((((grown_set.trans grown_set).trans grown_set).trans grown_set).trans grown_set).trans grown_set
        exact HO.out.kept hgz (.inr (tag_ne_blk HO.out HR.out (by decide)))
      rw [← hW5]
      exact bodyPost_ret (resR rfl rfl HZ.out) rfl ⟨_, rfl, HOZ.out, hN ▸ HBZ.out⟩
end Go.Proofs.Ytockmlaaefbfkaa
