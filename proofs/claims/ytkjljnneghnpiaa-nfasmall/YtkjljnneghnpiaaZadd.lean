import Derived.Test.YtkjljnneghnpiaaZpcl
import Derived.Maps.AppendAt
import Derived.Deep.AppendLies
namespace Go.Proofs.Ytkjljnneghnpiaa.Rg
open Go.RowKit
/-- One node more, if there is room: its place, the nodes, are there too many? -/
def padd (nds : List Nd) (lg : Bool) (n : Nd) : Int × List Nd × Bool := if nds.length = 128 then (-1, nds, true) else (nds.length, nds ++ [n], lg)
theorem set_eq' {W : World} {g a : Nat} {u v : Value} (h : W.cell? ⟨g, a, none⟩ = some u) : (W.setCell ⟨g, a, none⟩ v).cell? ⟨g, a, none⟩ = some v := World.cell?_setCell_same _ _ _ h
set_option maxRecDepth 100000 in
set_option maxHeartbeats 8000000 in
theorem add_any (B b : Nat) (s : ByteArray) (i opn : Nat) (nds : List Nd) (lg : Bool) (n : Nd) (w : World) (h : IsP B b s i opn nds lg w) (hl : nds.length ≤ 128) :
    Calls Try.prog 59 #[.pointer (some ⟨b, 0, none⟩), ndV n.op n.m n.a n.b] w fun e w' => e = .returned (.int .i64 (padd nds lg n).1) ∧ IsP B b s i opn (padd nds lg n).2.1 (padd nds lg n).2.2 w' ∧ FP B b w w' := by
  have P0 : Hid (IsP B b s i opn nds lg (w.alloc (.cells #[.int .i64 n.op, .int .u64 (wd n.m 0 : Nat), .int .u64 (wd n.m 1 : Nat), .int .u64 (wd n.m 2 : Nat), .int .u64 (wd n.m 3 : Nat), .int .i64 n.a, .int .i64 n.b] 58))) := h.mono (bel_up _ _)
  have F0 : Hid (FP B b w (w.alloc (.cells #[.int .i64 n.op, .int .u64 (wd n.m 0 : Nat), .int .u64 (wd n.m 1 : Nat), .int .u64 (wd n.m 2 : Nat), .int .u64 (wd n.m 3 : Nat), .int .i64 n.a, .int .i64 n.b] 58))) := FP.of (bel_up _ _) h.sz
  obtain ⟨v, hv, ho⟩ := P0.out.h
  obtain ⟨av, cv, hvs⟩ := own_slice ho
  subst hvs
  have c3 : (w.alloc (.cells #[.int .i64 n.op, .int .u64 (wd n.m 0 : Nat), .int .u64 (wd n.m 1 : Nat), .int .u64 (wd n.m 2 : Nat), .int .u64 (wd n.m 3 : Nat), .int .i64 n.a, .int .i64 n.b] 58)).cell? ⟨b, 3, none⟩ = some (.slice av nds.length cv) := by rw [Lib.cell_of_heap hv]; rfl
  obtain ⟨c0, c1, c2, c4, cf⟩ := P0.out.cells
  have HLE : Hid _ := h.le
  by_cases hf : nds.length = 128
  · have hp : padd nds lg n = (-1, nds, true) := by unfold padd; rw [if_pos hf]
    rw [hp]
    have HV : Hid _ := hv
    have HO : Hid _ := ho
    have P1 : Hid (IsP B b s i opn nds true ((w.alloc (.cells #[.int .i64 n.op, .int .u64 (wd n.m 0 : Nat), .int .u64 (wd n.m 1 : Nat), .int .u64 (wd n.m 2 : Nat), .int .u64 (wd n.m 3 : Nat), .int .i64 n.a, .int .i64 n.b] 58)).setCell ⟨b, 4, none⟩ (.bool true))) := by
      refine ⟨h.le, by simpa using P0.out.sz, _, ?_, own_set ho hv (by decide)⟩
      simp [World.setCell, Array.getElem?_modify, hv]
    rw [hf] at c3
    clear h hl hp hv ho hf
    go_enter Try.func59, Try.ntmps59
    go_wp2_with fail
    go_ret
    exact ⟨rfl, P1.out, F0.out.trans (FP.set _ _ _ HLE.out)⟩
  · have hp : padd nds lg n = ((nds.length : Int), nds ++ [n], lg) := by unfold padd; rw [if_neg hf]
    rw [hp]
    obtain ⟨i34, hi34, hz34, hs34, hy34⟩ := info_parts info34
    obtain ⟨wa, hwa⟩ : ∃ wa, w.alloc (.cells #[.int .i64 n.op, .int .u64 (wd n.m 0 : Nat), .int .u64 (wd n.m 1 : Nat), .int .u64 (wd n.m 2 : Nat), .int .u64 (wd n.m 3 : Nat), .int .i64 n.a, .int .i64 n.b] 58) = wa := ⟨_, rfl⟩
    have hown2 : (wa.alloc (.cells #[.int .i64 n.op, .int .u64 (wd n.m 0 : Nat), .int .u64 (wd n.m 1 : Nat), .int .u64 (wd n.m 2 : Nat), .int .u64 (wd n.m 3 : Nat), .int .i64 n.a, .int .i64 n.b] 58)).drew.ownsRow B 58 7 (.slice av nds.length cv) nds.length (ncs nds) := by
      rw [← hwa]
      exact ho.alloc _
    have hsz : B ≤ wa.heap.size := by rw [← hwa]; exact P0.out.sz
    have HOWN : Hid ((wa.alloc (.cells #[.int .i64 n.op, .int .u64 (wd n.m 0 : Nat), .int .u64 (wd n.m 1 : Nat), .int .u64 (wd n.m 2 : Nat), .int .u64 (wd n.m 3 : Nat), .int .i64 n.a, .int .i64 n.b] 58)).drew.ownsRow B 58 7 (.slice av nds.length cv) nds.length (ncs nds)) := hown2
    have HSZ : Hid _ := hsz
    have hbl : b < wa.heap.size := by rw [← hwa]; exact P0.out.lt
    have hbk : wa.heap[b]? = some (.cells #[.string s, .int .i64 (i : Int), .int .i64 (opn : Int), .slice av nds.length cv, .bool lg] 79 (0, 0)) := by rw [← hwa]; exact hv
    have HBK : Hid _ := hbk
    have HBL : Hid _ := hbl
    have e128 : ((nds.length : Int) == 128) = false := by rw [beq_eq_false_iff_ne]; omega
    obtain ⟨ln, hln⟩ : ∃ ln, nds.length = ln := ⟨_, rfl⟩
    have HLN2 : Hid _ := hln
    rw [hln] at c3 e128 HOWN HBK ⊢
    have F0' : Hid (FP B b w wa) := by rw [← hwa]; exact F0.out
    have HLN : Hid (ln ≤ 128) := by rw [← hln]; exact hl
    have k7 : wa.cell? ⟨w.heap.size, 0, none⟩ = some (.int .i64 n.op) ∧ wa.cell? ⟨w.heap.size, 1, none⟩ = some (.int .u64 (wd n.m 0 : Nat)) ∧ wa.cell? ⟨w.heap.size, 2, none⟩ = some (.int .u64 (wd n.m 1 : Nat)) ∧ wa.cell? ⟨w.heap.size, 3, none⟩ = some (.int .u64 (wd n.m 2 : Nat)) ∧ wa.cell? ⟨w.heap.size, 4, none⟩ = some (.int .u64 (wd n.m 3 : Nat)) ∧ wa.cell? ⟨w.heap.size, 5, none⟩ = some (.int .i64 n.a) ∧ wa.cell? ⟨w.heap.size, 6, none⟩ = some (.int .i64 n.b) := by
      rw [← hwa]
      exact (AtN.new w n.op n.m n.a n.b).cells
    have HWA : Hid _ := hwa
    have HI34 : Hid (Try.prog.info? 58 = some i34 ∧ i34.zero = some (.agg #[.int .i64 0, .int .u64 0, .int .u64 0, .int .u64 0, .int .u64 0, .int .i64 0, .int .i64 0]) ∧ i34.size = 7 ∧ i34.bytes = 56) := ⟨hi34, hz34, hs34, hy34⟩
    clear h hl hp hv ho hf hown2 hsz F0 hln hwa hbl hbk hi34 hz34 hs34 hy34
    go_enter Try.func59, Try.ntmps59
    go_upto_region 4 with fail
    rw [HWA.out] at c0 c1 c2 c3 c4 cf P0 ⊢
    obtain ⟨k0, k1, k2, k3, k4, k5, k6⟩ := k7
    have c3d : wa.drew.cell? ⟨b, 3, none⟩ = some (.slice av ln cv) := c3
    have c3b : (wa.alloc (.cells #[.int .i64 n.op, .int .u64 (wd n.m 0 : Nat), .int .u64 (wd n.m 1 : Nat), .int .u64 (wd n.m 2 : Nat), .int .u64 (wd n.m 3 : Nat), .int .i64 n.a, .int .i64 n.b] 58)).drew.cell? ⟨b, 3, none⟩ = some (.slice av ln cv) := cell_up _ c3
    refine wp_region_held_drew (S := fun _ => True) (by kernel_rfl) trivial (fun hHeld => ?_)
    refine wpAnyH_take (i := 0) (oi := { dst := _, op := _, type := _, pos := _, after := _, guard := _ }) (v := ?_) rfl (by kernel_rfl) (by kernel_rfl) (by kernel_rfl) (fun _ _ _ h => h) (Or.inl ⟨by rfl, ?_⟩) (by assumption) ?_
    rotate_left
    · intro W hSw
      (try dsimp only at hSw)
      go_simp
      (try with_reducible rfl)
    try simp only [Act.put, List.setIfInBounds_toArray, List.set_cons_zero, List.set_cons_succ]
    refine wpAnyH_take (i := 1) (oi := { dst := _, op := _, type := _, pos := _, after := _, guard := _ }) (v := ?_) rfl (by kernel_rfl) (by kernel_rfl) (by kernel_rfl) (fun _ _ _ h => h) (Or.inl ⟨by rfl, ?_⟩) (by assumption) ?_
    rotate_left
    · intro W hSw
      (try dsimp only at hSw)
      go_simp
      (try with_reducible rfl)
    try simp only [Act.put, List.setIfInBounds_toArray, List.set_cons_zero, List.set_cons_succ]
    refine wpAnyH_take (i := 2) (oi := { dst := _, op := _, type := _, pos := _, after := _, guard := _ }) (v := ?_) rfl (by kernel_rfl) (by kernel_rfl) (by kernel_rfl) (fun _ _ _ h => h) (Or.inl ⟨by rfl, ?_⟩) (by assumption) ?_
    rotate_left
    · intro W hSw
      (try dsimp only at hSw)
      go_simp
      (try with_reducible rfl)
    try simp only [Act.put, List.setIfInBounds_toArray, List.set_cons_zero, List.set_cons_succ]
    refine wpAnyH_take (i := 3) (oi := { dst := _, op := _, type := _, pos := _, after := _, guard := _ }) (v := ?_) rfl (by kernel_rfl) (by kernel_rfl) (by kernel_rfl) (fun _ _ _ h => h) (Or.inl ⟨by rfl, ?_⟩) (by assumption) ?_
    rotate_left
    · intro W hSw
      (try dsimp only at hSw)
      go_simp
      (try with_reducible rfl)
    try simp only [Act.put, List.setIfInBounds_toArray, List.set_cons_zero, List.set_cons_succ]
    refine wpAnyH_ready (rs := [4, 5]) (by kernel_rfl) (by simp) ?_
    refine AllReadyH.cons (o := { dst := _, op := _, type := _, pos := _, after := _, guard := _ }) rfl (fun K hK => ?_) (AllReadyH.cons (o := { dst := _, op := _, type := _, pos := _, after := _, guard := _ }) rfl (fun K hK => ?_) (AllReadyH.nil))
    · go_simp
      refine hK.out _ _ ?_ (fun hHeld => ?_)
      · exact trivial
      clear hK K
      try simp only [Act.put, List.setIfInBounds_toArray, List.set_cons_zero, List.set_cons_succ]
      refine wpAnyH_ready (rs := [5]) (by kernel_rfl) (by simp) ?_
      refine AllReadyH.cons (o := { dst := _, op := _, type := _, pos := _, after := _, guard := _ }) rfl (fun K hK => ?_) AllReadyH.nil
      go_simp
      refine hK.out _ _ ?_ (fun hHeld => ?_)
      · exact trivial
      clear hK K
      try simp only [Act.put, List.setIfInBounds_toArray, List.set_cons_zero, List.set_cons_succ]
      refine wpAnyH_ready (rs := [6]) (by kernel_rfl) (by simp) ?_
      refine AllReadyH.cons (o := { dst := _, op := _, type := _, pos := _, after := _, guard := _ }) rfl (fun K hK => ?_) AllReadyH.nil
      go_simp
      refine hK.out _ _ ?_ (fun hHeld => ?_)
      · exact trivial
      clear hK K
      try simp only [Act.put, List.setIfInBounds_toArray, List.set_cons_zero, List.set_cons_succ]
      refine wpAnyH_ready (rs := [7]) (by kernel_rfl) (by simp) ?_
      refine AllReadyH.cons (o := { dst := _, op := _, type := _, pos := _, after := _, guard := _ }) rfl (fun K hK => ?_) AllReadyH.nil
      refine step_append_lies _ rfl (.tmp 18) (.tmp 20) 35 rfl B 58 i34 _ 7 56 Try.underlying35 HI34.out.1 HI34.out.2.1 HI34.out.2.2.1 HI34.out.2.2.2 rfl (by decide) (.slice av ln cv) ln (ncs nds) rfl HOWN.out ⟨wa.heap.size, 0, none⟩ 1 1 (nc n) rfl rfl (fun j u hu => cell_seven_new wa _ _ _ _ _ _ _ 58 j u hu) (by intro y hy; unfold nc at hy; simp at hy; rcases hy with rfl | rfl | rfl | rfl | rfl | rfl | rfl <;> rfl) (by decide) (by unfold maxLen; have := HLN.out; omega) (by have := HLN.out; omega) (by show B ≤ (wa.alloc _).heap.size; have := HSZ.out; simp; omega) (wa.heap.size + 1) (by show (wa.alloc _).heap.size = _; simp) ?_
      intro g' cap' w' h2 h3 _ _
      have hb2 : w'.heap[b]? = some (.cells #[.string s, .int .i64 (i : Int), .int .i64 (opn : Int), .slice av ln cv, .bool lg] 79 (0, 0)) := by
        have hold : (wa.alloc (.cells #[.int .i64 n.op, .int .u64 (wd n.m 0 : Nat), .int .u64 (wd n.m 1 : Nat), .int .u64 (wd n.m 2 : Nat), .int .u64 (wd n.m 3 : Nat), .int .i64 n.a, .int .i64 n.b] 58)).drew.heap[b]? = some (.cells #[.string s, .int .i64 (i : Int), .int .i64 (opn : Int), .slice av ln cv, .bool lg] 79 (0, 0)) := (Lib.alloc_old wa _ b HBL.out).trans HBK.out
        rw [h3.block b (by show b < (wa.alloc _).heap.size; have := HBL.out; simp; omega) (fun e => own_ne HOWN.out hold (by decide) e.symm)]
        exact hold
      have d3 : w'.cell? ⟨b, 3, none⟩ = some (.slice av ln cv) := by rw [Lib.cell_of_heap hb2]; rfl
      have df : ∀ o, w'.frozen? ⟨b, o, none⟩ = false := fun o => Lib.frozen_of_heap hb2 o
      have F1 : Hid (FP B b wa w') := by
        refine ⟨((Below.refl B wa).alloc HSZ.out _).drew.grown h3 (by show B ≤ (wa.alloc _).heap.size; have := HSZ.out; simp; omega) (fun q hq => (HOWN.out.lt q hq).1), ?_⟩
        intro k vs t fz k1 k2 k3
        have hk := lt_of_heap k1
        have k1' : (wa.alloc (.cells #[.int .i64 n.op, .int .u64 (wd n.m 0 : Nat), .int .u64 (wd n.m 1 : Nat), .int .u64 (wd n.m 2 : Nat), .int .u64 (wd n.m 3 : Nat), .int .i64 n.a, .int .i64 n.b] 58)).drew.heap[k]? = some (.cells vs t fz) := (Lib.alloc_old wa _ k hk).trans k1
        rw [h3.block k (by show k < (wa.alloc _).heap.size; simp; omega) (fun e => own_ne HOWN.out k1' k3 e.symm)]
        exact k1'
      have P2 : Hid (IsP B b s i opn (nds ++ [n]) lg (w'.setCell ⟨b, 3, none⟩ (.slice (some ⟨g', 0, none⟩) (ln + 1) cap'))) := by
        have hs' : wa.heap.size ≤ w'.heap.size := F1.out.bel.size
        refine ⟨HLE.out, by have := HSZ.out; simp; omega, .slice (some ⟨g', 0, none⟩) (ln + 1) cap', ?_, ?_⟩
        · simp [World.setCell, Array.getElem?_modify, hb2]
        · have e1 : (nds ++ [n]).length = ln + 1 := by rw [List.length_append, HLN2.out]; rfl
          have e2 : ncs (nds ++ [n]) = ncs nds ++ nc n := by rw [ncs_app]; simp [ncs]
          rw [e1, e2]
          exact own_set h2 hb2 (by decide)
      clear h2 h3 hb2
      refine hK.out _ _ ?_ (fun hHeld => ?_)
      · exact trivial
      clear hK K
      try simp only [Act.put, List.setIfInBounds_toArray, List.set_cons_zero, List.set_cons_succ]
      refine wpAnyH_take (i := 8) (oi := { dst := _, op := _, type := _, pos := _, after := _, guard := _ }) (v := ?_) rfl (by kernel_rfl) (by kernel_rfl) (by kernel_rfl) (fun _ _ _ h => h) (Or.inl ⟨by rfl, ?_⟩) (by assumption) ?_
      rotate_left
      · intro W hSw
        (try dsimp only at hSw)
        go_simp
        (try with_reducible rfl)
      try simp only [Act.put, List.setIfInBounds_toArray, List.set_cons_zero, List.set_cons_succ]
      refine wpAnyH_take (i := 9) (oi := { dst := _, op := _, type := _, pos := _, after := _, guard := _ }) (v := ?_) rfl (by kernel_rfl) (by kernel_rfl) (by kernel_rfl) (fun _ _ _ h => h) (Or.inl ⟨by rfl, ?_⟩) (by assumption) ?_
      rotate_left
      · intro W hSw
        (try dsimp only at hSw)
        go_simp
        (try with_reducible rfl)
      try simp only [Act.put, List.setIfInBounds_toArray, List.set_cons_zero, List.set_cons_succ]
      refine wpAnyH_ready (rs := [10]) (by kernel_rfl) (by simp) ?_
      refine AllReadyH.cons (o := { dst := _, op := _, type := _, pos := _, after := _, guard := _ }) rfl (fun K hK => ?_) AllReadyH.nil
      go_simp
      refine hK.out _ _ ?_ (fun hHeld => ?_)
      · exact trivial
      clear hK K
      try simp only [Act.put, List.setIfInBounds_toArray, List.set_cons_zero, List.set_cons_succ]
      refine wpAnyH_done (by kernel_rfl) ?_ _
      clear hHeld
      have q3 : (w'.setCell ⟨b, 3, none⟩ (.slice (some ⟨g', 0, none⟩) (ln + 1) cap')).cell? ⟨b, 3, none⟩ = some (.slice (some ⟨g', 0, none⟩) (ln + 1) cap') := set_eq' d3
      have hwl : wrap64 (((ln + 1 : Nat) : Int) - 1) = (ln : Int) := by have := HLN.out; unfold wrap64; omega
      go_wp2_with fail
      go_ret
      refine ⟨?_, P2.out, (F0'.out.trans F1.out).trans (FP.set _ _ _ HLE.out)⟩
      simp
      have := HLN.out
      unfold wrap64
      omega
    · go_simp
      refine hK.out _ _ ?_ (fun hHeld => ?_)
      · exact trivial
      clear hK K
      try simp only [Act.put, List.setIfInBounds_toArray, List.set_cons_zero, List.set_cons_succ]
      refine wpAnyH_ready (rs := [4, 6]) (by kernel_rfl) (by simp) ?_
      refine AllReadyH.cons (o := { dst := _, op := _, type := _, pos := _, after := _, guard := _ }) rfl (fun K hK => ?_) (AllReadyH.cons (o := { dst := _, op := _, type := _, pos := _, after := _, guard := _ }) rfl (fun K hK => ?_) (AllReadyH.nil))
      · go_simp
        refine hK.out _ _ ?_ (fun hHeld => ?_)
        · exact trivial
        clear hK K
        try simp only [Act.put, List.setIfInBounds_toArray, List.set_cons_zero, List.set_cons_succ]
        refine wpAnyH_ready (rs := [6]) (by kernel_rfl) (by simp) ?_
        refine AllReadyH.cons (o := { dst := _, op := _, type := _, pos := _, after := _, guard := _ }) rfl (fun K hK => ?_) AllReadyH.nil
        go_simp
        refine hK.out _ _ ?_ (fun hHeld => ?_)
        · exact trivial
        clear hK K
        try simp only [Act.put, List.setIfInBounds_toArray, List.set_cons_zero, List.set_cons_succ]
        refine wpAnyH_ready (rs := [7]) (by kernel_rfl) (by simp) ?_
        refine AllReadyH.cons (o := { dst := _, op := _, type := _, pos := _, after := _, guard := _ }) rfl (fun K hK => ?_) AllReadyH.nil
        refine step_append_lies _ rfl (.tmp 18) (.tmp 20) 35 rfl B 58 i34 _ 7 56 Try.underlying35 HI34.out.1 HI34.out.2.1 HI34.out.2.2.1 HI34.out.2.2.2 rfl (by decide) (.slice av ln cv) ln (ncs nds) rfl HOWN.out ⟨wa.heap.size, 0, none⟩ 1 1 (nc n) rfl rfl (fun j u hu => cell_seven_new wa _ _ _ _ _ _ _ 58 j u hu) (by intro y hy; unfold nc at hy; simp at hy; rcases hy with rfl | rfl | rfl | rfl | rfl | rfl | rfl <;> rfl) (by decide) (by unfold maxLen; have := HLN.out; omega) (by have := HLN.out; omega) (by show B ≤ (wa.alloc _).heap.size; have := HSZ.out; simp; omega) (wa.heap.size + 1) (by show (wa.alloc _).heap.size = _; simp) ?_
        intro g' cap' w' h2 h3 _ _
        have hb2 : w'.heap[b]? = some (.cells #[.string s, .int .i64 (i : Int), .int .i64 (opn : Int), .slice av ln cv, .bool lg] 79 (0, 0)) := by
          have hold : (wa.alloc (.cells #[.int .i64 n.op, .int .u64 (wd n.m 0 : Nat), .int .u64 (wd n.m 1 : Nat), .int .u64 (wd n.m 2 : Nat), .int .u64 (wd n.m 3 : Nat), .int .i64 n.a, .int .i64 n.b] 58)).drew.heap[b]? = some (.cells #[.string s, .int .i64 (i : Int), .int .i64 (opn : Int), .slice av ln cv, .bool lg] 79 (0, 0)) := (Lib.alloc_old wa _ b HBL.out).trans HBK.out
          rw [h3.block b (by show b < (wa.alloc _).heap.size; have := HBL.out; simp; omega) (fun e => own_ne HOWN.out hold (by decide) e.symm)]
          exact hold
        have d3 : w'.cell? ⟨b, 3, none⟩ = some (.slice av ln cv) := by rw [Lib.cell_of_heap hb2]; rfl
        have df : ∀ o, w'.frozen? ⟨b, o, none⟩ = false := fun o => Lib.frozen_of_heap hb2 o
        have F1 : Hid (FP B b wa w') := by
          refine ⟨((Below.refl B wa).alloc HSZ.out _).drew.grown h3 (by show B ≤ (wa.alloc _).heap.size; have := HSZ.out; simp; omega) (fun q hq => (HOWN.out.lt q hq).1), ?_⟩
          intro k vs t fz k1 k2 k3
          have hk := lt_of_heap k1
          have k1' : (wa.alloc (.cells #[.int .i64 n.op, .int .u64 (wd n.m 0 : Nat), .int .u64 (wd n.m 1 : Nat), .int .u64 (wd n.m 2 : Nat), .int .u64 (wd n.m 3 : Nat), .int .i64 n.a, .int .i64 n.b] 58)).drew.heap[k]? = some (.cells vs t fz) := (Lib.alloc_old wa _ k hk).trans k1
          rw [h3.block k (by show k < (wa.alloc _).heap.size; simp; omega) (fun e => own_ne HOWN.out k1' k3 e.symm)]
          exact k1'
        have P2 : Hid (IsP B b s i opn (nds ++ [n]) lg (w'.setCell ⟨b, 3, none⟩ (.slice (some ⟨g', 0, none⟩) (ln + 1) cap'))) := by
          have hs' : wa.heap.size ≤ w'.heap.size := F1.out.bel.size
          refine ⟨HLE.out, by have := HSZ.out; simp; omega, .slice (some ⟨g', 0, none⟩) (ln + 1) cap', ?_, ?_⟩
          · simp [World.setCell, Array.getElem?_modify, hb2]
          · have e1 : (nds ++ [n]).length = ln + 1 := by rw [List.length_append, HLN2.out]; rfl
            have e2 : ncs (nds ++ [n]) = ncs nds ++ nc n := by rw [ncs_app]; simp [ncs]
            rw [e1, e2]
            exact own_set h2 hb2 (by decide)
        clear h2 h3 hb2
        refine hK.out _ _ ?_ (fun hHeld => ?_)
        · exact trivial
        clear hK K
        try simp only [Act.put, List.setIfInBounds_toArray, List.set_cons_zero, List.set_cons_succ]
        refine wpAnyH_take (i := 8) (oi := { dst := _, op := _, type := _, pos := _, after := _, guard := _ }) (v := ?_) rfl (by kernel_rfl) (by kernel_rfl) (by kernel_rfl) (fun _ _ _ h => h) (Or.inl ⟨by rfl, ?_⟩) (by assumption) ?_
        rotate_left
        · intro W hSw
          (try dsimp only at hSw)
          go_simp
          (try with_reducible rfl)
        try simp only [Act.put, List.setIfInBounds_toArray, List.set_cons_zero, List.set_cons_succ]
        refine wpAnyH_take (i := 9) (oi := { dst := _, op := _, type := _, pos := _, after := _, guard := _ }) (v := ?_) rfl (by kernel_rfl) (by kernel_rfl) (by kernel_rfl) (fun _ _ _ h => h) (Or.inl ⟨by rfl, ?_⟩) (by assumption) ?_
        rotate_left
        · intro W hSw
          (try dsimp only at hSw)
          go_simp
          (try with_reducible rfl)
        try simp only [Act.put, List.setIfInBounds_toArray, List.set_cons_zero, List.set_cons_succ]
        refine wpAnyH_ready (rs := [10]) (by kernel_rfl) (by simp) ?_
        refine AllReadyH.cons (o := { dst := _, op := _, type := _, pos := _, after := _, guard := _ }) rfl (fun K hK => ?_) AllReadyH.nil
        go_simp
        refine hK.out _ _ ?_ (fun hHeld => ?_)
        · exact trivial
        clear hK K
        try simp only [Act.put, List.setIfInBounds_toArray, List.set_cons_zero, List.set_cons_succ]
        refine wpAnyH_done (by kernel_rfl) ?_ _
        clear hHeld
        have q3 : (w'.setCell ⟨b, 3, none⟩ (.slice (some ⟨g', 0, none⟩) (ln + 1) cap')).cell? ⟨b, 3, none⟩ = some (.slice (some ⟨g', 0, none⟩) (ln + 1) cap') := set_eq' d3
        have hwl : wrap64 (((ln + 1 : Nat) : Int) - 1) = (ln : Int) := by have := HLN.out; unfold wrap64; omega
        go_wp2_with fail
        go_ret
        refine ⟨?_, P2.out, (F0'.out.trans F1.out).trans (FP.set _ _ _ HLE.out)⟩
        simp
        have := HLN.out
        unfold wrap64
        omega
      · go_simp
        refine hK.out _ _ ?_ (fun hHeld => ?_)
        · exact trivial
        clear hK K
        try simp only [Act.put, List.setIfInBounds_toArray, List.set_cons_zero, List.set_cons_succ]
        refine wpAnyH_ready (rs := [4]) (by kernel_rfl) (by simp) ?_
        refine AllReadyH.cons (o := { dst := _, op := _, type := _, pos := _, after := _, guard := _ }) rfl (fun K hK => ?_) AllReadyH.nil
        go_simp
        refine hK.out _ _ ?_ (fun hHeld => ?_)
        · exact trivial
        clear hK K
        try simp only [Act.put, List.setIfInBounds_toArray, List.set_cons_zero, List.set_cons_succ]
        refine wpAnyH_ready (rs := [7]) (by kernel_rfl) (by simp) ?_
        refine AllReadyH.cons (o := { dst := _, op := _, type := _, pos := _, after := _, guard := _ }) rfl (fun K hK => ?_) AllReadyH.nil
        refine step_append_lies _ rfl (.tmp 18) (.tmp 20) 35 rfl B 58 i34 _ 7 56 Try.underlying35 HI34.out.1 HI34.out.2.1 HI34.out.2.2.1 HI34.out.2.2.2 rfl (by decide) (.slice av ln cv) ln (ncs nds) rfl HOWN.out ⟨wa.heap.size, 0, none⟩ 1 1 (nc n) rfl rfl (fun j u hu => cell_seven_new wa _ _ _ _ _ _ _ 58 j u hu) (by intro y hy; unfold nc at hy; simp at hy; rcases hy with rfl | rfl | rfl | rfl | rfl | rfl | rfl <;> rfl) (by decide) (by unfold maxLen; have := HLN.out; omega) (by have := HLN.out; omega) (by show B ≤ (wa.alloc _).heap.size; have := HSZ.out; simp; omega) (wa.heap.size + 1) (by show (wa.alloc _).heap.size = _; simp) ?_
        intro g' cap' w' h2 h3 _ _
        have hb2 : w'.heap[b]? = some (.cells #[.string s, .int .i64 (i : Int), .int .i64 (opn : Int), .slice av ln cv, .bool lg] 79 (0, 0)) := by
          have hold : (wa.alloc (.cells #[.int .i64 n.op, .int .u64 (wd n.m 0 : Nat), .int .u64 (wd n.m 1 : Nat), .int .u64 (wd n.m 2 : Nat), .int .u64 (wd n.m 3 : Nat), .int .i64 n.a, .int .i64 n.b] 58)).drew.heap[b]? = some (.cells #[.string s, .int .i64 (i : Int), .int .i64 (opn : Int), .slice av ln cv, .bool lg] 79 (0, 0)) := (Lib.alloc_old wa _ b HBL.out).trans HBK.out
          rw [h3.block b (by show b < (wa.alloc _).heap.size; have := HBL.out; simp; omega) (fun e => own_ne HOWN.out hold (by decide) e.symm)]
          exact hold
        have d3 : w'.cell? ⟨b, 3, none⟩ = some (.slice av ln cv) := by rw [Lib.cell_of_heap hb2]; rfl
        have df : ∀ o, w'.frozen? ⟨b, o, none⟩ = false := fun o => Lib.frozen_of_heap hb2 o
        have F1 : Hid (FP B b wa w') := by
          refine ⟨((Below.refl B wa).alloc HSZ.out _).drew.grown h3 (by show B ≤ (wa.alloc _).heap.size; have := HSZ.out; simp; omega) (fun q hq => (HOWN.out.lt q hq).1), ?_⟩
          intro k vs t fz k1 k2 k3
          have hk := lt_of_heap k1
          have k1' : (wa.alloc (.cells #[.int .i64 n.op, .int .u64 (wd n.m 0 : Nat), .int .u64 (wd n.m 1 : Nat), .int .u64 (wd n.m 2 : Nat), .int .u64 (wd n.m 3 : Nat), .int .i64 n.a, .int .i64 n.b] 58)).drew.heap[k]? = some (.cells vs t fz) := (Lib.alloc_old wa _ k hk).trans k1
          rw [h3.block k (by show k < (wa.alloc _).heap.size; simp; omega) (fun e => own_ne HOWN.out k1' k3 e.symm)]
          exact k1'
        have P2 : Hid (IsP B b s i opn (nds ++ [n]) lg (w'.setCell ⟨b, 3, none⟩ (.slice (some ⟨g', 0, none⟩) (ln + 1) cap'))) := by
          have hs' : wa.heap.size ≤ w'.heap.size := F1.out.bel.size
          refine ⟨HLE.out, by have := HSZ.out; simp; omega, .slice (some ⟨g', 0, none⟩) (ln + 1) cap', ?_, ?_⟩
          · simp [World.setCell, Array.getElem?_modify, hb2]
          · have e1 : (nds ++ [n]).length = ln + 1 := by rw [List.length_append, HLN2.out]; rfl
            have e2 : ncs (nds ++ [n]) = ncs nds ++ nc n := by rw [ncs_app]; simp [ncs]
            rw [e1, e2]
            exact own_set h2 hb2 (by decide)
        clear h2 h3 hb2
        refine hK.out _ _ ?_ (fun hHeld => ?_)
        · exact trivial
        clear hK K
        try simp only [Act.put, List.setIfInBounds_toArray, List.set_cons_zero, List.set_cons_succ]
        refine wpAnyH_take (i := 8) (oi := { dst := _, op := _, type := _, pos := _, after := _, guard := _ }) (v := ?_) rfl (by kernel_rfl) (by kernel_rfl) (by kernel_rfl) (fun _ _ _ h => h) (Or.inl ⟨by rfl, ?_⟩) (by assumption) ?_
        rotate_left
        · intro W hSw
          (try dsimp only at hSw)
          go_simp
          (try with_reducible rfl)
        try simp only [Act.put, List.setIfInBounds_toArray, List.set_cons_zero, List.set_cons_succ]
        refine wpAnyH_take (i := 9) (oi := { dst := _, op := _, type := _, pos := _, after := _, guard := _ }) (v := ?_) rfl (by kernel_rfl) (by kernel_rfl) (by kernel_rfl) (fun _ _ _ h => h) (Or.inl ⟨by rfl, ?_⟩) (by assumption) ?_
        rotate_left
        · intro W hSw
          (try dsimp only at hSw)
          go_simp
          (try with_reducible rfl)
        try simp only [Act.put, List.setIfInBounds_toArray, List.set_cons_zero, List.set_cons_succ]
        refine wpAnyH_ready (rs := [10]) (by kernel_rfl) (by simp) ?_
        refine AllReadyH.cons (o := { dst := _, op := _, type := _, pos := _, after := _, guard := _ }) rfl (fun K hK => ?_) AllReadyH.nil
        go_simp
        refine hK.out _ _ ?_ (fun hHeld => ?_)
        · exact trivial
        clear hK K
        try simp only [Act.put, List.setIfInBounds_toArray, List.set_cons_zero, List.set_cons_succ]
        refine wpAnyH_done (by kernel_rfl) ?_ _
        clear hHeld
        have q3 : (w'.setCell ⟨b, 3, none⟩ (.slice (some ⟨g', 0, none⟩) (ln + 1) cap')).cell? ⟨b, 3, none⟩ = some (.slice (some ⟨g', 0, none⟩) (ln + 1) cap') := set_eq' d3
        have hwl : wrap64 (((ln + 1 : Nat) : Int) - 1) = (ln : Int) := by have := HLN.out; unfold wrap64; omega
        go_wp2_with fail
        go_ret
        refine ⟨?_, P2.out, (F0'.out.trans F1.out).trans (FP.set _ _ _ HLE.out)⟩
        simp
        have := HLN.out
        unfold wrap64
        omega
end Go.Proofs.Ytkjljnneghnpiaa.Rg
