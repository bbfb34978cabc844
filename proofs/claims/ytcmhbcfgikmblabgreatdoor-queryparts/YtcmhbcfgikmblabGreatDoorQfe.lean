import Derived.Test.YtcmhbcfgikmblabGreatDoorQyh
import Derived.Deep.AppendLies
namespace Go.Proofs.YtcmhbcfgikmblabGreatDoor.Qy
open Go.RowKit Go.Maps

/-- A claim's cells. -/
def cl (l : List Pn) (c : Cd) : List Value := [.bool c.nt, .int .i64 (cap l c.a), .int .i64 (cap l c.b), .string c.tx]
theorem cl_len (l : List Pn) (c : Cd) : (cl l c).length = 4 := rfl
theorem infoCl : (Tryz.prog.info? 89).map (fun i => (i.zero, i.size, i.bytes)) = some (some (.agg #[.bool false, .int .i64 0, .int .i64 0, .string ⟨#[]⟩]), 4, 40) := by kernel_rfl
theorem flat_snoc (l : List Pn) (cs : List Cd) (i : Nat) (hi : i < cs.length) : flat (cl l) (cs.take (i + 1)) = flat (cl l) (cs.take i) ++ cl l (cs.getD i cz) := by
  rw [List.take_add_one, flat_app, List.getD_eq_getElem?_getD, List.getElem?_eq_getElem hi]
  simp [flat]
set_option maxRecDepth 100000 in
set_option maxHeartbeats 8000000 in
theorem claims_any {vn vc : Value} {l : List Pn} {cs : List Cd} (w : World) (hn : Ps w vn l) (hc : Cs w vc cs) (hl : l.length ≤ 32) (hm : cs.length ≤ 16) : Calls Tryz.prog 36 #[.agg #[vn, vc]] w fun e w' => ∃ v', e = .returned v' ∧ w'.ownsRow w.heap.size 89 4 v' cs.length (flat (cl l) cs) ∧ Below w.heap.size w w' := by
  obtain ⟨iC, hiC, hx0, hx1, hx2⟩ := info_parts infoCl
  obtain ⟨w1, hw1⟩ : ∃ w1, w1 = w.alloc (.cells #[vn, vc] 25) := ⟨_, rfl⟩
  have HB1 : Hid (Below w.heap.size w w1) := by rw [hw1]; exact bel_up _ _
  have hb := heap_new w (.cells #[vn, vc] 25)
  rw [← hw1] at hb
  obtain ⟨bq, hbq⟩ : ∃ bq, w.heap.size = bq := ⟨_, rfl⟩
  have HBQ : Hid (w.heap.size = bq) := hbq
  rw [hbq] at hb
  have HP : Hid (∀ W, Below w.heap.size w W → Ps W vn l) := fun W hW => hn.up hW
  have HC : Hid (∀ W, Below w.heap.size w W → Cs W vc cs) := fun W hW => hc.up hW
  obtain ⟨a1, p1, rfl⟩ := hn.form
  obtain ⟨a2, p2, rfl⟩ := hc.form
  obtain ⟨n, hln⟩ : ∃ n, l.length = n := ⟨_, rfl⟩
  obtain ⟨m, hlm⟩ : ∃ m, cs.length = m := ⟨_, rfl⟩
  have HLN : Hid (l.length = n) := hln
  have HLM : Hid (cs.length = m) := hlm
  have HN32 : Hid (n ≤ 32 ∧ m ≤ 16) := ⟨by rw [← hln]; exact hl, by rw [← hlm]; exact hm⟩
  rw [hln] at HP hb hw1 ⊢
  rw [hlm] at HC hb hw1 ⊢
  have HBK : Hid (w1.heap[bq]? = some (.cells #[.slice a1 n p1, .slice a2 m p2] 25 (0, 0))) := hb
  have q1 := rcell hb 1 _ rfl
  clear hn hc hl hm hb hln hlm
  go_enter Tryz.func36, Tryz.ntmps36
  go_upto_region 1 with fail
  first | rw [← hw1] | rw [hbq, ← hw1]
  clear hw1
  go_upto_region 3 with fail
  clear q1
  go_loopg [3, 9] m (fun gm v3 v9 wr => ∃ i : Nat, v9 = .int .i64 (i : Int) ∧ Hid (i ≤ m ∧ gm = m - i) ∧ Hid (wr.ownsRow w.heap.size 89 4 v3 i (flat (cl l) (cs.take i))) ∧ Hid (Below w.heap.size w wr) ∧ Hid (wr.heap[bq]? = some (.cells #[.slice a1 n p1, .slice a2 m p2] 25 (0, 0))))
  case atStart => exact ⟨0, rfl, ⟨Nat.zero_le _, rfl⟩, World.ownsRow_nil _ _ _ _, HB1, HBK⟩
  case round =>
    clear HBK HB1 hbq
    obtain ⟨i, rfl, HI, HO, HBW9, HQK⟩ := hrel
    obtain ⟨ra, rc, hrv⟩ := row_shape HO.out
    subst hrv
    by_cases hi : i < m
    · have e1 : decide ((i : Int) < (m : Int)) = true := by rw [decide_eq_true_eq]; omega
      have e2 : decide (i < m) = true := by rw [decide_eq_true_eq]; omega
      have e3 : (i : Int) < (m : Int) := by omega
      have HIL : Hid (i < m) := hi
      have hil : i < cs.length := by rw [HLM.out]; exact hi
      obtain ⟨gg, oo, rfl, c0, c1, c2, c3⟩ := (HC.out wr HBW9.out).all i hil
      have hsn := flat_snoc l cs i hil
      obtain ⟨x, hx⟩ : ∃ x, cs.getD i cz = x := ⟨_, rfl⟩
      rw [hx] at c0 c1 c2 c3 hsn
      have HSN : Hid (flat (cl l) (cs.take (i + 1)) = flat (cl l) (cs.take i) ++ cl l x) := hsn
      have hwi := w64n i (by have := HN32.out; omega)
      obtain ⟨W2, hW2⟩ : ∃ W2, W2 = wr.alloc (.cells #[.bool x.nt, .string x.a, .string x.b, .string x.tx] 38) := ⟨_, rfl⟩
      clear hi hil hx hsn
      go_upto_region 5 with fail
      rw [← hW2]
      have hn2 := heap_new wr (.cells #[.bool x.nt, .string x.a, .string x.b, .string x.tx] 38)
      have hb2 : Below wr.heap.size wr W2 := by rw [hW2]; exact bel_up _ _
      rw [← hW2] at hn2
      obtain ⟨cb, hcb⟩ : ∃ cb, wr.heap.size = cb := ⟨_, rfl⟩
      rw [hcb] at hn2 ⊢
      have HC2 : Hid (W2.heap[cb]? = some (.cells #[.bool x.nt, .string x.a, .string x.b, .string x.tx] 38 (0, 0))) := hn2
      have HQ2 : Hid (W2.heap[bq]? = some (.cells #[.slice a1 n p1, .slice (some ⟨gg, oo, none⟩) m p2] 25 (0, 0))) := (hb2.block _ (lt_of_heap HQK.out)).trans HQK.out
      have HBX : Hid (Below wr.heap.size wr W2) := hb2
      have HBW : Hid (Below w.heap.size w W2) := below_trans HBW9.out hb2
      clear hW2 hn2 hb2 hcb c0 c1 c2 c3
      refine wp_region_noPanic ?_
      refine wp_region_held_drew (S := fun W => W.heap[bq]? = some (.cells #[.slice a1 n p1, .slice (some ⟨gg, oo, none⟩) m p2] 25 (0, 0)) ∧ W.heap[cb]? = some (.cells #[.bool x.nt, .string x.a, .string x.b, .string x.tx] 38 (0, 0))) (by kernel_rfl) (show _ ∧ _ from ⟨HQ2.out, HC2.out⟩) (fun hHeld => ?_)
      obtain ⟨WD, hWD⟩ : ∃ WD, W2.drew = WD := ⟨_, rfl⟩
      have HBD : Hid (Below W2.heap.size W2 WD) := by rw [← hWD]; exact Below.drew (Below.refl _ _)
      rw [hWD] at hHeld ⊢
      clear hWD
      refine wpAnyH_take (i := 0) (oi := { dst := _, op := _, type := _, pos := _, after := _, guard := _ }) (v := ?_) rfl (by kernel_rfl) (by kernel_rfl) (by kernel_rfl) (fun _ _ _ h => h) (Or.inl ⟨by rfl, ?_⟩) (by assumption) ?_
      rotate_left
      · intro W hSw
        (try dsimp only at hSw)
        go_simp
        (try with_reducible rfl)
      try simp only [Act.put, List.setIfInBounds_toArray, List.set_cons_zero, List.set_cons_succ]
      refine wpAnyH_take (i := 1) (oi := { dst := _, op := _, type := _, pos := _, after := _, guard := _ }) (v := ?_) rfl (by kernel_rfl) (by kernel_rfl) (by kernel_rfl) (fun _ _ _ h => h) (Or.inl ⟨by rfl, ?_⟩) (by assumption) ?_
      rotate_left
      · intro W hSw
        (try dsimp only at hSw)
        go_simp
        (try with_reducible rfl)
      try simp only [Act.put, List.setIfInBounds_toArray, List.set_cons_zero, List.set_cons_succ]
      refine wpAnyH_take (i := 2) (oi := { dst := _, op := _, type := _, pos := _, after := _, guard := _ }) (v := ?_) rfl (by kernel_rfl) (by kernel_rfl) (by kernel_rfl) (fun _ _ _ h => h) (Or.inl ⟨by rfl, ?_⟩) (by assumption) ?_
      rotate_left
      · intro W hSw
        (try dsimp only at hSw)
        obtain ⟨sq, sc⟩ := hSw
        have s0 := rcell sq 0 _ rfl
        have s1 := rcell sc 0 _ rfl
        have s2 := rcell sc 1 _ rfl
        have s3 := rcell sc 2 _ rfl
        have s4 := rcell sc 3 _ rfl
        go_simp
        (try with_reducible rfl)
      try simp only [Act.put, List.setIfInBounds_toArray, List.set_cons_zero, List.set_cons_succ]
      refine wpAnyH_take (i := 3) (oi := { dst := _, op := _, type := _, pos := _, after := _, guard := _ }) (v := ?_) rfl (by kernel_rfl) (by kernel_rfl) (by kernel_rfl) (fun _ _ _ h => h) (Or.inl ⟨by rfl, ?_⟩) (by assumption) ?_
      rotate_left
      · intro W hSw
        (try dsimp only at hSw)
        go_simp
        (try with_reducible rfl)
      try simp only [Act.put, List.setIfInBounds_toArray, List.set_cons_zero, List.set_cons_succ]
      refine wpAnyH_take (i := 4) (oi := { dst := _, op := _, type := _, pos := _, after := _, guard := _ }) (v := ?_) rfl (by kernel_rfl) (by kernel_rfl) (by kernel_rfl) (fun _ _ _ h => h) (Or.inl ⟨by rfl, ?_⟩) (by assumption) ?_
      rotate_left
      · intro W hSw
        (try dsimp only at hSw)
        obtain ⟨sq, sc⟩ := hSw
        have s0 := rcell sq 0 _ rfl
        have s1 := rcell sc 0 _ rfl
        have s2 := rcell sc 1 _ rfl
        have s3 := rcell sc 2 _ rfl
        have s4 := rcell sc 3 _ rfl
        go_simp
        (try with_reducible rfl)
      try simp only [Act.put, List.setIfInBounds_toArray, List.set_cons_zero, List.set_cons_succ]
      refine wpAnyH_take (i := 5) (oi := { dst := _, op := _, type := _, pos := _, after := _, guard := _ }) (v := ?_) rfl (by kernel_rfl) (by kernel_rfl) (by kernel_rfl) (fun _ _ _ h => h) (Or.inl ⟨by rfl, ?_⟩) (by assumption) ?_
      rotate_left
      · intro W hSw
        (try dsimp only at hSw)
        go_simp
        (try with_reducible rfl)
      try simp only [Act.put, List.setIfInBounds_toArray, List.set_cons_zero, List.set_cons_succ]
      refine wpAnyH_take (i := 6) (oi := { dst := _, op := _, type := _, pos := _, after := _, guard := _ }) (v := ?_) rfl (by kernel_rfl) (by kernel_rfl) (by kernel_rfl) (fun _ _ _ h => h) (Or.inl ⟨by rfl, ?_⟩) (by assumption) ?_
      rotate_left
      · intro W hSw
        (try dsimp only at hSw)
        obtain ⟨sq, sc⟩ := hSw
        have s0 := rcell sq 0 _ rfl
        have s1 := rcell sc 0 _ rfl
        have s2 := rcell sc 1 _ rfl
        have s3 := rcell sc 2 _ rfl
        have s4 := rcell sc 3 _ rfl
        go_simp
        (try with_reducible rfl)
      try simp only [Act.put, List.setIfInBounds_toArray, List.set_cons_zero, List.set_cons_succ]
      refine wpAnyH_take (i := 8) (oi := { dst := _, op := _, type := _, pos := _, after := _, guard := _ }) (v := ?_) rfl (by kernel_rfl) (by kernel_rfl) (by kernel_rfl) (fun _ _ _ h => h) (Or.inl ⟨by rfl, ?_⟩) (by assumption) ?_
      rotate_left
      · intro W hSw
        (try dsimp only at hSw)
        go_simp
        (try with_reducible rfl)
      try simp only [Act.put, List.setIfInBounds_toArray, List.set_cons_zero, List.set_cons_succ]
      refine wpAnyH_take (i := 9) (oi := { dst := _, op := _, type := _, pos := _, after := _, guard := _ }) (v := ?_) rfl (by kernel_rfl) (by kernel_rfl) (by kernel_rfl) (fun _ _ _ h => h) (Or.inl ⟨by rfl, ?_⟩) (by assumption) ?_
      rotate_left
      · intro W hSw
        (try dsimp only at hSw)
        obtain ⟨sq, sc⟩ := hSw
        have s0 := rcell sq 0 _ rfl
        have s1 := rcell sc 0 _ rfl
        have s2 := rcell sc 1 _ rfl
        have s3 := rcell sc 2 _ rfl
        have s4 := rcell sc 3 _ rfl
        go_simp
        (try with_reducible rfl)
      try simp only [Act.put, List.setIfInBounds_toArray, List.set_cons_zero, List.set_cons_succ]
      refine wpAnyH_take (i := 10) (oi := { dst := _, op := _, type := _, pos := _, after := _, guard := _ }) (v := ?_) rfl (by kernel_rfl) (by kernel_rfl) (by kernel_rfl) (fun _ _ _ h => h) (Or.inl ⟨by rfl, ?_⟩) (by assumption) ?_
      rotate_left
      · intro W hSw
        (try dsimp only at hSw)
        go_simp
        (try with_reducible rfl)
      try simp only [Act.put, List.setIfInBounds_toArray, List.set_cons_zero, List.set_cons_succ]
      refine wpAnyH_take (i := 11) (oi := { dst := _, op := _, type := _, pos := _, after := _, guard := _ }) (v := ?_) rfl (by kernel_rfl) (by kernel_rfl) (by kernel_rfl) (fun _ _ _ h => h) (Or.inl ⟨by rfl, ?_⟩) (by assumption) ?_
      rotate_left
      · intro W hSw
        (try dsimp only at hSw)
        obtain ⟨sq, sc⟩ := hSw
        have s0 := rcell sq 0 _ rfl
        have s1 := rcell sc 0 _ rfl
        have s2 := rcell sc 1 _ rfl
        have s3 := rcell sc 2 _ rfl
        have s4 := rcell sc 3 _ rfl
        go_simp
        (try with_reducible rfl)
      try simp only [Act.put, List.setIfInBounds_toArray, List.set_cons_zero, List.set_cons_succ]
      refine wpAnyH_take (i := 13) (oi := { dst := _, op := _, type := _, pos := _, after := _, guard := _ }) (v := ?_) rfl (by kernel_rfl) (by kernel_rfl) (by kernel_rfl) (fun _ _ _ h => h) (Or.inl ⟨by rfl, ?_⟩) (by assumption) ?_
      rotate_left
      · intro W hSw
        (try dsimp only at hSw)
        go_simp
        (try with_reducible rfl)
      try simp only [Act.put, List.setIfInBounds_toArray, List.set_cons_zero, List.set_cons_succ]
      refine wpAnyH_take (i := 14) (oi := { dst := _, op := _, type := _, pos := _, after := _, guard := _ }) (v := ?_) rfl (by kernel_rfl) (by kernel_rfl) (by kernel_rfl) (fun _ _ _ h => h) (Or.inl ⟨by rfl, ?_⟩) (by assumption) ?_
      rotate_left
      · intro W hSw
        (try dsimp only at hSw)
        obtain ⟨sq, sc⟩ := hSw
        have s0 := rcell sq 0 _ rfl
        have s1 := rcell sc 0 _ rfl
        have s2 := rcell sc 1 _ rfl
        have s3 := rcell sc 2 _ rfl
        have s4 := rcell sc 3 _ rfl
        go_simp
        (try with_reducible rfl)
      try simp only [Act.put, List.setIfInBounds_toArray, List.set_cons_zero, List.set_cons_succ]
      refine wpAnyH_ready (rs := [7]) (by kernel_rfl) (by simp) ?_
      refine AllReadyH.cons (o := { dst := _, op := _, type := _, pos := _, after := _, guard := _ }) rfl (fun K hK => ?_) AllReadyH.nil
      go_simp
      refine (captured_any x.a WD (HP.out WD (below_trans HBW.out HBD.out)) (by rw [HLN.out]; have := HN32.out; omega)).mono ?_
      rintro e wa ⟨rfl, hb⟩
      have HWA : Hid (Below W2.heap.size W2 wa) := below_trans HBD.out hb
      clear hb
      go_wp2_with fail
      refine hK.out _ _ ?_ (fun hHeld => ?_)
      · exact ⟨(HWA.out.block _ (lt_of_heap HQ2.out)).trans HQ2.out, (HWA.out.block _ (lt_of_heap HC2.out)).trans HC2.out⟩
      clear hK K
      try simp only [Act.put, List.setIfInBounds_toArray, List.set_cons_zero, List.set_cons_succ]
      refine wpAnyH_ready (rs := [12]) (by kernel_rfl) (by simp) ?_
      refine AllReadyH.cons (o := { dst := _, op := _, type := _, pos := _, after := _, guard := _ }) rfl (fun K hK => ?_) AllReadyH.nil
      go_simp
      refine (captured_any x.b wa (HP.out wa (below_trans HBW.out HWA.out)) (by rw [HLN.out]; have := HN32.out; omega)).mono ?_
      rintro e wb ⟨rfl, hb⟩
      have HWB : Hid (Below W2.heap.size W2 wb) := below_trans HWA.out hb
      clear hb
      go_wp2_with fail
      refine hK.out _ _ ?_ (fun hHeld => ?_)
      · exact ⟨(HWB.out.block _ (lt_of_heap HQ2.out)).trans HQ2.out, (HWB.out.block _ (lt_of_heap HC2.out)).trans HC2.out⟩
      clear hK K
      try simp only [Act.put, List.setIfInBounds_toArray, List.set_cons_zero, List.set_cons_succ]
      refine wpAnyH_take (i := 15) (oi := { dst := _, op := _, type := _, pos := _, after := _, guard := _ }) (v := ?_) rfl (by kernel_rfl) (by kernel_rfl) (by kernel_rfl) (fun _ _ _ h => h) (Or.inl ⟨by rfl, ?_⟩) (by assumption) ?_
      rotate_left
      · intro W hSw
        (try dsimp only at hSw)
        go_simp
        (try with_reducible rfl)
      try simp only [Act.put, List.setIfInBounds_toArray, List.set_cons_zero, List.set_cons_succ]
      refine wpAnyH_ready (rs := [16]) (by kernel_rfl) (by simp) ?_
      refine AllReadyH.cons (o := { dst := _, op := _, type := _, pos := _, after := _, guard := _ }) rfl (fun K hK => ?_) AllReadyH.nil
      go_simp
      refine hK.out _ _ ?_ (fun hHeld => ?_)
      · exact ⟨((bel_up _ _).block _ (lt_of_heap hHeld.1)).trans hHeld.1, ((bel_up _ _).block _ (lt_of_heap hHeld.2)).trans hHeld.2⟩
      clear hK K
      try simp only [Act.put, List.setIfInBounds_toArray, List.set_cons_zero, List.set_cons_succ]
      refine wpAnyH_ready (rs := [17]) (by kernel_rfl) (by simp) ?_
      refine AllReadyH.cons (o := { dst := _, op := _, type := _, pos := _, after := _, guard := _ }) rfl (fun K hK => ?_) AllReadyH.nil
      refine step_append_lies _ rfl (.tmp 13) (.tmp 29) 63 rfl w.heap.size 89 iC _ 4 40 Tryz.underlying63 hiC hx0 hx1 hx2 rfl (by decide) (.slice ra i rc) _ _ rfl ((row_up (row_up HO.out HBX.out) HWB.out).alloc _) ⟨wb.heap.size, 0, none⟩ 1 1 [.bool x.nt, .int .i64 (cap l x.a), .int .i64 (cap l x.b), .string x.tx] rfl rfl (World.news_of_block (heap_new wb _)) (by simp [Value.oneCell']) (by decide) (by have := HN32.out; have := HIL.out; unfold maxLen; omega) (by have := HN32.out; have := HIL.out; omega) (by have := HBW9.out.size; have := HBX.out.size; have := HWB.out.size; simp; omega) (wb.heap.size + 1) (by simp) ?_
      intro g' cap' w' h2 h3 h4 _
      have HO5 : Hid (w'.ownsRow w.heap.size 89 4 (.slice (some ⟨g', 0, none⟩) (i + 1) cap') (i + 1) (flat (cl l) (cs.take i) ++ [.bool x.nt, .int .i64 (cap l x.a), .int .i64 (cap l x.b), .string x.tx])) := h2
      have HG5 : Hid (wb.grownBy w' (Value.ownBlock (.slice ra i rc))) := (World.grownBy_alloc _ _ _).trans h3
      have hwb := row_up (row_up HO.out HBX.out) HWB.out
      have s0b : w'.heap[bq]? = some (.cells #[.slice a1 n p1, .slice (some ⟨gg, oo, none⟩) m p2] 25 (0, 0)) := (HG5.out.block bq (lt_of_heap ((HWB.out.block _ (lt_of_heap HQ2.out)).trans HQ2.out)) (fun e => tag_ne_blk hwb ((HWB.out.block _ (lt_of_heap HQ2.out)).trans HQ2.out) (by decide) e.symm)).trans ((HWB.out.block _ (lt_of_heap HQ2.out)).trans HQ2.out)
      have s1b : w'.heap[cb]? = some (.cells #[.bool x.nt, .string x.a, .string x.b, .string x.tx] 38 (0, 0)) := (HG5.out.block cb (lt_of_heap ((HWB.out.block _ (lt_of_heap HC2.out)).trans HC2.out)) (fun e => tag_ne_blk hwb ((HWB.out.block _ (lt_of_heap HC2.out)).trans HC2.out) (by decide) e.symm)).trans ((HWB.out.block _ (lt_of_heap HC2.out)).trans HC2.out)
      have HB5 : Hid (Below w.heap.size w w') := Tr.bel_app0 (below_trans (below_trans HBW9.out HBX.out) HWB.out) (below_trans (below_trans HBW9.out HBX.out) HWB.out).size hwb HG5.out
      have HGQ : Hid (w'.heap[bq]? = some (.cells #[.slice a1 n p1, .slice (some ⟨gg, oo, none⟩) m p2] 25 (0, 0))) := s0b
      clear h2 h3 h4 hwb
      refine hK.out _ _ ?_ (fun hHeld => ?_)
      · exact ⟨s0b, s1b⟩
      clear hK K
      try simp only [Act.put, List.setIfInBounds_toArray, List.set_cons_zero, List.set_cons_succ]
      clear s0b s1b
      refine wpAnyH_take (i := 18) (oi := { dst := _, op := _, type := _, pos := _, after := _, guard := _ }) (v := ?_) rfl (by kernel_rfl) (by kernel_rfl) (by kernel_rfl) (fun _ _ _ h => h) (Or.inl ⟨by rfl, ?_⟩) (by assumption) ?_
      rotate_left
      · intro W hSw
        (try dsimp only at hSw)
        go_simp
        (try with_reducible rfl)
      try simp only [Act.put, List.setIfInBounds_toArray, List.set_cons_zero, List.set_cons_succ]
      refine wpAnyH_done (by kernel_rfl) ?_ _
      clear hHeld
      refine NoPanic.normal ?_
      go_wp2_with fail
      go_roundg (m - (i + 1))
      case measure => have := HI.out; have := HIL.out; omega
      case rel => exact ⟨i + 1, by simp, ⟨HIL.out, rfl⟩, by rw [HSN.out]; exact HO5, HB5, HGQ⟩
    · have e1 : decide ((i : Int) < (m : Int)) = false := by rw [decide_eq_false_iff_not]; omega
      have e2 : decide (i < m) = false := by rw [decide_eq_false_iff_not]; omega
      have hO := HO.out
      rw [List.take_of_length_le (by rw [HLM.out]; omega)] at hO
      have him : i = m := by have := HI.out; omega
      subst him
      have HO6 : Hid _ := hO
      clear hi hO
      go_wp2_with fail
      go_ret
      exact ⟨_, rfl, HO6.out, HBW9.out⟩
end Go.Proofs.YtcmhbcfgikmblabGreatDoor.Qy
