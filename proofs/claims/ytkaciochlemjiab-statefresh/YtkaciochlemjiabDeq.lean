import Derived.Test.YtkaciochlemjiabAct
namespace Go.Proofs.Ytkaciochlemjiab
open Go.RowKit Go.Maps Go.Sort

theorem put_heap {α : Type} [Inhabited α] (enc : α → Value) (W : World) (g q : Nat) (d : Array α) (cur : Array Value) (e : TypeId) (h : W.heap[g]? = some (.cells cur e (0, 0))) : (putRow enc (Sort.ahead W q) g 0 d).heap[g]? = some (.cells (putCells enc 0 d cur) e (0, 0)) := by
  unfold putRow mapBlock
  show (W.heap.modify g (onCells (putCells enc 0 d)))[g]? = _
  rw [Array.getElem?_modify, if_pos rfl, h]
  rfl
theorem put_grown {α : Type} [Inhabited α] (enc : α → Value) (W : World) (g q : Nat) (d : Array α) : W.grownBy (putRow enc (Sort.ahead W q) g 0 d) (some g) := by
  refine ⟨rfl, rfl, rfl, ?_, fun k _ hk => ?_⟩
  · show W.heap.size ≤ (W.heap.modify g (onCells (putCells enc 0 d))).size
    simp
  · show (W.heap.modify g (onCells (putCells enc 0 d)))[k]? = _
    rw [Array.getElem?_modify, if_neg (fun e => hk (by rw [e]))]
theorem put_cells {α : Type} [Inhabited α] (enc : α → Value) (d : Array α) (cur : Array Value) (j : Nat) (hj : j < d.size) (hc : j < cur.size) : (putCells enc 0 d cur)[j]? = some (enc d[j]!) := by
  unfold putCells
  rw [Array.getElem?_mapIdx, Array.getElem?_eq_getElem hc]
  simp only [Option.map_some, Nat.zero_le, true_and, Nat.zero_add, Nat.sub_zero, if_pos hj]
abbrev bl (d : ByteArray) : List UInt8 := d.data.toList
/-- A queue without its first. -/
theorem put_own {W : World} {B g cap q : Nat} {l : List ByteArray} (h : W.ownsRow B 9 1 (.slice (some ⟨g, 0, none⟩) l.length cap) l.length (qC l)) (hl : 0 < l.length) :
    (putRow encStr (Sort.ahead W q) g 0 ((l.map bl).take 0 ++ (l.map bl).drop 1 ++ List.replicate (1 - 0) []).toArray).ownsRow B 9 1 (.slice (some ⟨g, 0, none⟩) ((l.map bl).length - (1 - 0)) cap) (l.drop 1).length (qC (l.drop 1)) := by
  obtain ⟨h0, h | ⟨g', cap', cur, h1, h2, h3, h4, h5, h6, h7⟩⟩ := h
  · cases h.1
  · cases h1
    have hlen : (l.drop 1).length = l.length - 1 := by rw [List.length_drop]
    refine ⟨by rw [qC_len], .inr ⟨g, cap, _, by rw [List.length_map, hlen], h2, put_heap encStr W g q _ cur 9 h3, by omega, h5, by unfold putCells; rw [Array.size_mapIdx]; exact h6, ?_⟩⟩
    apply List.ext_getElem?
    intro j
    by_cases hj : j < (l.drop 1).length
    · rw [List.getElem?_take_of_lt (by omega), qC_get _ j hj, Array.getElem?_toList]
      have hd : j < ((l.map bl).take 0 ++ (l.map bl).drop 1 ++ List.replicate (1 - 0) []).toArray.size := by
        simp; omega
      rw [put_cells encStr _ cur j hd (by omega)]
      congr 1
      have e1 : ((l.map bl).take 0 ++ (l.map bl).drop 1 ++ List.replicate (1 - 0) []).toArray[j]! = ((l.drop 1).getD j ⟨#[]⟩).data.toList := by
        rw [getElem!_pos _ j hd]
        simp only [List.getElem_toArray, List.take_zero, List.nil_append]
        rw [List.getElem_append_left (by rw [List.length_drop, List.length_map]; omega), List.getD_eq_getElem?_getD, List.getElem?_eq_getElem hj]
        simp
      rw [e1]
    · rw [List.getElem?_eq_none (Nat.le_trans (List.length_take_le _ _) (by omega)), List.getElem?_eq_none (by rw [qC_len]; omega)]
theorem holds_q {W : World} {B g cap : Nat} {l : List ByteArray} (h : W.ownsRow B 9 1 (.slice (some ⟨g, 0, none⟩) l.length cap) l.length (qC l)) : Holds encStr W g 0 (l.map bl).toArray := by
  intro j hj
  have hj2 : j < l.length := by simpa using hj
  rw [Nat.zero_add]
  refine ⟨?_, h.frozenAt j⟩
  rw [h.cellAt j (by omega), qC_get l j hj2]
  congr 1
  have e1 : ((l.map bl).toArray[j]!) = (l.getD j ⟨#[]⟩).data.toList := by
    rw [getElem!_pos _ j hj, List.getD_eq_getElem?_getD, List.getElem?_eq_getElem hj2]
    simp
  rw [e1]

set_option maxRecDepth 100000 in
set_option maxHeartbeats 4000000 in
theorem dequeue_any {B : Nat} {W : World} {b : Nat} {vi vq vf : Value} {s : Stt} (h : Nx B W b vi vq vf s) (hl : s.que.length ≤ 1000000) :
    Calls Try.prog 36 #[.pointer (some ⟨b, 0, none⟩)] W fun e W' => Rs B W b (aDequeue s) e W' := by
  obtain ⟨a1, c1, a2, c2, a3, c3, rfl, rfl, rfl⟩ := h.own.stm.form
  obtain ⟨k0, k1, k2, k3, k4⟩ := h.cells
  by_cases c0 : s.que.length = 0
  · have d0 : ((s.que.length : Int) == 0) = true := by rw [beq_iff_eq]; omega
    have d1 : (s.que.length == 0) = true := by rw [beq_iff_eq]; omega
    have HE : Hid (aDequeue s = .error 66) := by unfold aDequeue; rw [if_pos c0]; exact rfl
    clear h hl c0
    go_enter Try.func36, Try.ntmps36
    go_wp2_with fail
    go_ret
    exact ⟨Below.refl _ _, .inr ⟨66, HE.out, rfl⟩⟩
  · have d0 : ((s.que.length : Int) == 0) = false := by rw [beq_eq_false_iff_ne]; omega
    have d1 : (s.que.length == 0) = false := by rw [beq_eq_false_iff_ne]; omega
    have HE : Hid (aDequeue s = .ok { s with que := s.que.drop 1 }) := by unfold aDequeue; rw [if_neg c0]; exact rfl
    obtain ⟨g, cp, hgf, hg1, hg2, hg3⟩ := row_form h.own.q (by omega)
    obtain ⟨rfl, -, rfl⟩ := Value.slice.inj hgf
    have hC := Try.slices_Delete g 0 c2 0 1 (s.que.map bl) W (holds_q h.own.q) (by rw [List.length_map]; exact hg2) (by unfold maxLen at hg3; omega) (by omega) (by rw [List.length_map]; omega)
    have HNE : Hid (b ≠ g) := fun e => by
      obtain ⟨cur, h2⟩ := (row_tag h.own.q g rfl).2
      rw [← e, h.blk] at h2
      cases h2
    have HK : Hid (∀ q, ∃ W2, W2 = putRow encStr (Sort.ahead W q) g 0 ((s.que.map bl).take 0 ++ (s.que.map bl).drop 1 ++ List.replicate (1 - 0) []).toArray ∧ W2.heap[b]? = W.heap[b]? ∧ Own B W2 (.slice a1 s.ind.length c1) (.slice (some ⟨g, 0, none⟩) ((s.que.map bl).length - (1 - 0)) c2) (.slice a3 s.frm.length c3) { s with que := s.que.drop 1 } ∧ Below B W W2) := fun q => by
      have hg := put_grown encStr W g q ((s.que.map bl).take 0 ++ (s.que.map bl).drop 1 ++ List.replicate (1 - 0) []).toArray
      refine ⟨_, rfl, hg.block b (lt_of_heap h.blk) (fun e => HNE.out (by cases e; rfl)), ⟨h.own.i.kept hg (tag_ne h.own.i h.own.q (by decide)), put_own h.own.q (by omega), h.own.f.kept hg (tag_ne h.own.f h.own.q (by decide))⟩, (Below.refl B W).grown hg h.lB (fun k e => by cases e; exact hg1)⟩
    have HN : Hid (Nx B W b (.slice a1 s.ind.length c1) (.slice (some ⟨g, 0, none⟩) s.que.length c2) (.slice a3 s.frm.length c3) s) := h
    have HC : Hid _ := hC
    rw [List.length_map] at HC HK
    clear h hl c0 hgf hg1 hg2 hg3 hC
    go_enter Try.func36, Try.ntmps36
    go_wp2_with fail
    refine Calls.mono HC.out ?_
    rintro e w5 ⟨rfl, q, hw5⟩
    obtain ⟨W2, hW2, hb2, ho2, hB2⟩ := HK.out q
    rw [← hW2] at hw5
    subst hw5
    have HB2 : Hid (Below B W w5) := hB2
    have hx : w5.heap[b]? = some (.cells (bxC (.slice a1 s.ind.length c1) (.slice (some ⟨g, 0, none⟩) s.que.length c2) (.slice a3 s.frm.length c3) s) 27 (0, 0)) := hb2.trans HN.out.blk
    have kc : w5.cell? ⟨b, 2, none⟩ = some (.slice (some ⟨g, 0, none⟩) s.que.length c2) := by rw [Lib.cell_of_heap hx]; rfl
    have kf : w5.frozen? ⟨b, 2, none⟩ = false := Lib.frozen_of_heap hx 2
    have HR : Hid (Nx B (w5.setCell ⟨b, 2, none⟩ (.slice (some ⟨g, 0, none⟩) (s.que.length - (1 - 0)) c2)) b (.slice a1 s.ind.length c1) (.slice (some ⟨g, 0, none⟩) (s.que.length - (1 - 0)) c2) (.slice a3 s.frm.length c3) { s with que := s.que.drop 1 }) :=
      ⟨by rw [blk_set _ hx]; rfl, ho2.off hx, HN.out.lo, by simp; exact Nat.le_trans HN.out.lB hB2.size⟩
    clear hW2 hb2 ho2 hB2 hx
    go_wp2_with fail
    go_ret
    exact ⟨HB2.out.trans ((Below.refl B w5).setCell (p := ⟨b, 2, none⟩) HN.out.lo _), .inl ⟨_, _, _, _, HE.out, rfl, HR.out⟩⟩
end Go.Proofs.Ytkaciochlemjiab
