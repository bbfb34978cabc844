import Derived.Test.YtkaciochlemjiabDoo
import Derived.Test.YtkaciochlemjiabDcs
import Derived.Test.YtkaciochlemjiabGpr
import Derived.Test.YtkaciochlemjiabSam
namespace Go.Proofs.Ytkaciochlemjiab
open Go.RowKit Go.Maps

theorem nm_zero : nm 0 = [0] := by unfold nm; rw [if_pos (by omega)]; rfl
theorem enc_st0 : (⟨(enc st0).toArray⟩ : ByteArray) = sb := by
  have e : enc st0 = [83, 0, 0, 0, 0, 0] := by
    show 83 :: (nm 0 ++ [] ++ nm 0 ++ (nm 0 ++ []) ++ (nm 0 ++ []) ++ nm 0) = _
    rw [nm_zero]; rfl
  rw [e]
abbrev nl2 : ByteArray := ⟨#[10, 32, 32]⟩
theorem acts_st0 : acts nl2 st0 [(1, 0, 0), (2, 0, 0)] = .ok ⟨[2], -1, [], [], 0⟩ := by
  have e1 : wid 0 (lastL [] nl2.data.toList) = 2 := by decide +kernel
  have e2 : act st0 1 0 0 nl2 = .ok ⟨[], 2, [], [], 0⟩ := by
    show aMeasure st0 nl2 = _
    unfold aMeasure
    rw [e1, if_neg (by decide)]
    rfl
  have e3 : act ⟨[], 2, [], [], 0⟩ 2 0 0 nl2 = .ok ⟨[2], -1, [], [], 0⟩ := by
    unfold act
    rw [if_neg (by decide), if_pos rfl]
    unfold aIndent
    rw [if_neg (by decide), if_neg (by decide)]
    rfl
  simp only [acts, e2, e3]
theorem act_drop : act ⟨[2], -1, [], [], 0⟩ 4 0 0 ⟨#[]⟩ = .ok st0 := rfl
theorem s2_shp : (⟨[2], -1, [], [], 0⟩ : Stt).shp = true := by decide +kernel

set_option maxRecDepth 100000 in
set_option maxHeartbeats 8000000 in
theorem alive_any (w : World) : Calls Try.prog 11 #[] w fun e w' => e = .returned (.bool true) ∧ Below w.heap.size w w' := by
  go_enter Try.func11, Try.ntmps11
  go_wp2_with fail
  refine (start_any w).mono ?_
  rintro e w1 ⟨rfl, hb1⟩
  have B1 : Hid (Below w.heap.size w w1) := hb1
  clear hb1
  have CE : Hid (Calls Try.prog 12 #[stV] w1 fun e w' => e = .returned (.tuple #[.string sb, .int .i64 0]) ∧ Below w1.heap.size w1 w') := by
    have := encode_any (s := st0) w1 (st0_stm w1) (by decide)
    rw [st0_shp, if_pos rfl, enc_st0] at this
    exact this
  go_wp2_with fail
  refine Calls.mono CE.out ?_
  rintro e w2 ⟨rfl, hb2⟩
  have B2 : Hid (Below w.heap.size w w2) := below_trans B1.out hb2
  clear hb2 CE
  go_wp2_with fail
  refine (decode_start w2).mono ?_
  rintro e w3 ⟨rfl, hb3⟩
  have B3 : Hid (Below w.heap.size w w3) := below_trans B2.out hb3
  clear hb3
  have hsb : (sb.toList == ByteArray.toList ⟨#[83, 0, 0, 0, 0, 0]⟩) = true := by rw [str_eq]; rfl
  go_upto_region 5 with fail
  obtain ⟨W4, hW4⟩ : ∃ W4, W4 = w3.alloc (.cells #[.slice none 0 0, .int .i64 (-1), .slice none 0 0, .slice none 0 0, .int .u16 0] 27) := ⟨_, rfl⟩
  rw [← hW4]
  have B4 : Hid (Below w.heap.size w W4) := by rw [hW4]; exact below_trans B3.out (bel_up _ _)
  have hh4 : W4.heap[w3.heap.size]? = some (.cells #[.slice none 0 0, .int .i64 (-1), .slice none 0 0, .slice none 0 0, .int .u16 0] 27 (0, 0)) := by rw [hW4]; exact heap_new w3 _
  have HS4 : Hid (∀ W, Below W4.heap.size W4 W → W.cell? ⟨w3.heap.size, 0, none⟩ = some (.slice none 0 0) ∧ W.cell? ⟨w3.heap.size, 1, none⟩ = some (.int .i64 (-1)) ∧ W.cell? ⟨w3.heap.size, 2, none⟩ = some (.slice none 0 0) ∧ W.cell? ⟨w3.heap.size, 3, none⟩ = some (.slice none 0 0) ∧ W.cell? ⟨w3.heap.size, 4, none⟩ = some (.int .u16 0)) := fun W hW => by
    have hq : W.heap[w3.heap.size]? = some (.cells #[.slice none 0 0, .int .i64 (-1), .slice none 0 0, .slice none 0 0, .int .u16 0] 27 (0, 0)) := by rw [hW.block _ (lt_of_heap hh4)]; exact hh4
    refine ⟨?_, ?_, ?_, ?_, ?_⟩
    · rw [Lib.cell_of_heap hq]; rfl
    · rw [Lib.cell_of_heap hq]; rfl
    · rw [Lib.cell_of_heap hq]; rfl
    · rw [Lib.cell_of_heap hq]; rfl
    · rw [Lib.cell_of_heap hq]; rfl
  obtain ⟨s0, s1, s2, s3, s4⟩ := HS4.out _ (Below.refl _ _)
  clear hW4 hh4 hsb
  obtain ⟨W5, hW5⟩ : ∃ W5, W5 = W4.alloc (.cells #[.int .i64 1, .int .i64 0, .int .i64 0, .int .i64 2, .int .i64 0, .int .i64 0] 38) := ⟨_, rfl⟩
  have B5 : Hid (Below W4.heap.size W4 W5) := by rw [hW5]; exact bel_up _ _
  have HW5 : Hid (W5 = W4.alloc (.cells #[.int .i64 1, .int .i64 0, .int .i64 0, .int .i64 2, .int .i64 0, .int .i64 0] 38)) := hW5
  have CA : Hid (Calls Try.prog 6 #[stV, .slice (some ⟨W4.heap.size, 0, none⟩) 2 2, .string nl2] W5 fun e w' => As W5 (.ok ⟨[2], -1, [], [], 0⟩) e w') := by
    have := all_any (s := st0) (l := [(1, 0, 0), (2, 0, 0)]) (va := .slice (some ⟨W4.heap.size, 0, none⟩) 2 2) nl2 W5 (st0_stm W5) (by decide) ⟨_, W4.heap.size, 0, 2, rfl, Nat.le_refl 2, fun h => (by cases h), fun _ => rfl, fun j u hu => by
      rw [hW5, Nat.zero_add, Lib.cell_of_heap (heap_new W4 _)]
      simpa [aC] using hu⟩ (by simp) (by decide)
    rw [st0_shp, if_pos rfl, acts_st0] at this
    exact this
  clear hW5
  go_wp2_with fail
  rw [← HW5.out]
  refine Calls.mono CA.out ?_
  rintro e w6 ⟨hb6, ⟨t, vi, vq, vf, ht, rfl, ho⟩ | ⟨c, hc, _⟩⟩
  rotate_left
  · cases hc
  cases ht
  have B6 : Hid (Below W4.heap.size W4 w6) := below_trans B5.out hb6
  have HO6 : Hid (Own W5.heap.size w6 vi vq vf ⟨[2], -1, [], [], 0⟩) := ho
  clear hb6 ho CA s0 s1 s2 s3 s4
  obtain ⟨g, cp, rfl, -, -, -⟩ := row_form HO6.out.i (by decide)
  obtain ⟨a2, c2, rfl⟩ := row_shape HO6.out.q
  obtain ⟨a3, c3, rfl⟩ := row_shape HO6.out.f
  go_upto_region 6 with fail
  obtain ⟨W7, hW7⟩ : ∃ W7, W7 = w6.alloc (.cells #[.slice (some ⟨g, 0, none⟩) 1 cp, .int .i64 (-1), .slice a2 0 c2, .slice a3 0 c3, .int .u16 0] 27) := ⟨_, rfl⟩
  rw [← hW7]
  have B7 : Hid (Below W4.heap.size W4 W7) := by rw [hW7]; exact below_trans B6.out (bel_up _ _)
  have hh7 : W7.heap[w6.heap.size]? = some (.cells #[.slice (some ⟨g, 0, none⟩) 1 cp, .int .i64 (-1), .slice a2 0 c2, .slice a3 0 c3, .int .u16 0] 27 (0, 0)) := by rw [hW7]; exact heap_new w6 _
  have HO7 : Hid (Own W5.heap.size W7 (.slice (some ⟨g, 0, none⟩) 1 cp) (.slice a2 0 c2) (.slice a3 0 c3) ⟨[2], -1, [], [], 0⟩) := by rw [hW7]; exact HO6.out.up (bel_up _ _)
  have HT7 : Hid (∀ W, Below W7.heap.size W7 W → W.cell? ⟨w6.heap.size, 0, none⟩ = some (.slice (some ⟨g, 0, none⟩) 1 cp) ∧ W.cell? ⟨w6.heap.size, 1, none⟩ = some (.int .i64 (-1)) ∧ W.cell? ⟨w6.heap.size, 2, none⟩ = some (.slice a2 0 c2) ∧ W.cell? ⟨w6.heap.size, 3, none⟩ = some (.slice a3 0 c3) ∧ W.cell? ⟨w6.heap.size, 4, none⟩ = some (.int .u16 0) ∧ W.cell? ⟨g, 0, none⟩ = some (.int .i64 2)) := fun W hW => by
    have hq : W.heap[w6.heap.size]? = some (.cells #[.slice (some ⟨g, 0, none⟩) 1 cp, .int .i64 (-1), .slice a2 0 c2, .slice a3 0 c3, .int .u16 0] 27 (0, 0)) := by rw [hW.block _ (lt_of_heap hh7)]; exact hh7
    refine ⟨?_, ?_, ?_, ?_, ?_, ?_⟩
    · rw [Lib.cell_of_heap hq]; rfl
    · rw [Lib.cell_of_heap hq]; rfl
    · rw [Lib.cell_of_heap hq]; rfl
    · rw [Lib.cell_of_heap hq]; rfl
    · rw [Lib.cell_of_heap hq]; rfl
    · rw [(row_up HO7.out.i hW).cellAt 0 (by decide)]; rfl
  obtain ⟨t0, t1, t2, t3, t4, t5⟩ := HT7.out _ (Below.refl _ _)
  clear hW7 hh7
  have CD : Hid (Calls Try.prog 21 #[.agg #[.slice (some ⟨g, 0, none⟩) 1 cp, .int .i64 (-1), .slice a2 0 c2, .slice a3 0 c3, .int .u16 0], av 4 0 0, .string ⟨#[]⟩] W7 fun e w' => As W7 (.ok st0) e w') := by
    have := doo_any (s := ⟨[2], -1, [], [], 0⟩) 4 0 0 ⟨#[]⟩ W7 HO7.out.stm (by decide) (by decide)
    rw [s2_shp, if_pos rfl, act_drop] at this
    exact this
  go_wp2_with fail
  refine Calls.mono CD.out ?_
  rintro e w8 ⟨hb8, ⟨t, vi, vq, vf, ht, rfl, ho⟩ | ⟨c, hc, _⟩⟩
  rotate_left
  · cases hc
  cases ht
  have B8 : Hid (Below W7.heap.size W7 w8) := hb8
  have HO8 : Hid (Own W7.heap.size w8 vi vq vf st0) := ho
  clear hb8 ho CD t0 t1 t2 t3 t4 t5
  obtain ⟨b1, d1, rfl⟩ := row_shape HO8.out.i
  obtain ⟨b2, d2, rfl⟩ := row_shape HO8.out.q
  obtain ⟨b3, d3, rfl⟩ := row_shape HO8.out.f
  go_upto_region 7 with fail
  obtain ⟨W9, hW9⟩ : ∃ W9, W9 = w8.alloc (.cells #[.slice b1 st0.ind.length d1, .int .i64 st0.pen, .slice b2 st0.que.length d2, .slice b3 st0.frm.length d3, .int .u16 (st0.flg : Int)] 27) := ⟨_, rfl⟩
  rw [← hW9]
  have B9 : Hid (Below W7.heap.size W7 W9) := by rw [hW9]; exact below_trans B8.out (bel_up _ _)
  have hh9 : W9.heap[w8.heap.size]? = some (.cells #[.slice b1 st0.ind.length d1, .int .i64 st0.pen, .slice b2 st0.que.length d2, .slice b3 st0.frm.length d3, .int .u16 (st0.flg : Int)] 27 (0, 0)) := by rw [hW9]; exact heap_new w8 _
  have HM9 : Hid (Stm W9 (.slice b1 st0.ind.length d1) (.slice b2 st0.que.length d2) (.slice b3 st0.frm.length d3) st0) := by rw [hW9]; exact HO8.out.stm.up (bel_up _ _)
  have u0 : W9.cell? ⟨w8.heap.size, 0, none⟩ = some (.slice b1 st0.ind.length d1) := by rw [Lib.cell_of_heap hh9]; rfl
  have u1 : W9.cell? ⟨w8.heap.size, 1, none⟩ = some (.int .i64 st0.pen) := by rw [Lib.cell_of_heap hh9]; rfl
  have u2 : W9.cell? ⟨w8.heap.size, 2, none⟩ = some (.slice b2 st0.que.length d2) := by rw [Lib.cell_of_heap hh9]; rfl
  have u3 : W9.cell? ⟨w8.heap.size, 3, none⟩ = some (.slice b3 st0.frm.length d3) := by rw [Lib.cell_of_heap hh9]; rfl
  have u4 : W9.cell? ⟨w8.heap.size, 4, none⟩ = some (.int .u16 (st0.flg : Int)) := by rw [Lib.cell_of_heap hh9]; rfl
  obtain ⟨s0, s1, s2, s3, s4⟩ := HS4.out W9 (below_trans B7.out B9.out)
  have CS : Hid (Calls Try.prog 8 #[sv (.slice b1 st0.ind.length d1) (.slice b2 st0.que.length d2) (.slice b3 st0.frm.length d3) st0, stV] W9 fun e w' => e = .returned (.bool true) ∧ Below W9.heap.size W9 w') := by
    have := rsame_any (s := st0) (t := st0) W9 HM9.out (st0_stm W9) (by decide) (by decide) (by decide)
    rw [decide_eq_true rfl] at this
    exact this
  clear hW9 hh9
  go_wp2_with fail
  refine Calls.mono CS.out ?_
  rintro e w10 ⟨rfl, hb10⟩
  have B10 : Hid (Below W7.heap.size W7 w10) := below_trans B9.out hb10
  obtain ⟨t0, t1, t2, t3, t4, t5⟩ := HT7.out w10 B10.out
  clear hb10 CS u0 u1 u2 u3 u4 s0 s1 s2 s3 s4
  go_wp2_with fail
  go_ret
  exact ⟨rfl, below_trans B4.out (below_trans B7.out B10.out)⟩
end Go.Proofs.Ytkaciochlemjiab
