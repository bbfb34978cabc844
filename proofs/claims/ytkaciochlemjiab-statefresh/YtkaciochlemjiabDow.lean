import Derived.Test.YtkaciochlemjiabMeb
import Derived.Test.YtkaciochlemjiabDeq
import Derived.Test.YtkaciochlemjiabTrn
import Derived.Test.YtkaciochlemjiabEnq
namespace Go.Proofs.Ytkaciochlemjiab
open Go.RowKit Go.Maps

theorem Stt.lens {s : Stt} (h : s.shp = true) : s.ind.length ≤ 1000000 ∧ s.que.length ≤ 1000000 ∧ s.frm.length ≤ 1000000 := by
  simp only [Stt.shp, Stt.oi, Stt.oq, Stt.of, Bool.and_eq_true, decide_eq_true_eq] at h
  obtain ⟨⟨⟨⟨⟨h1, _⟩, _⟩, _⟩, h4, _⟩, h5, _⟩ := h
  omega
/-- An action as a value. -/
@[reducible] def av (k n mo : Int) : Value := .agg #[.int .i64 k, .int .i64 n, .int .i64 mo]

set_option maxRecDepth 100000 in
set_option maxHeartbeats 8000000 in
theorem do_any {B : Nat} {W : World} {b : Nat} {vi vq vf : Value} {s : Stt} (h : Nx B W b vi vq vf s) (hs : s.shp = true) (hf : s.flg < 65536) (k n mo : Int) (m : ByteArray) (hm : m.size ≤ 4611686018427387904) :
    Calls Try.prog 17 #[.pointer (some ⟨b, 0, none⟩), av k n mo, .string m] W fun e W' => Rs B W b (act s k n mo m) e W' := by
  obtain ⟨hl1, hl2, hl3⟩ := Stt.lens hs
  obtain ⟨W1, hW1⟩ : ∃ W1, W1 = W.alloc (.cells #[.int .i64 k, .int .i64 n, .int .i64 mo] 38) := ⟨_, rfl⟩
  have HB : Hid (Below B W W1) := by rw [hW1]; exact (Below.refl B W).alloc h.lB _
  have hN1 : Nx B W1 b vi vq vf s := by rw [hW1]; exact h.up (bel_up _ _)
  have hh : W1.heap[W.heap.size]? = some (.cells #[.int .i64 k, .int .i64 n, .int .i64 mo] 38 (0, 0)) := by rw [hW1]; exact heap_new W _
  have q0 : W1.cell? ⟨W.heap.size, 0, none⟩ = some (.int .i64 k) := by rw [Lib.cell_of_heap hh]; rfl
  have q1 : W1.cell? ⟨W.heap.size, 1, none⟩ = some (.int .i64 n) := by rw [Lib.cell_of_heap hh]; rfl
  have q2 : W1.cell? ⟨W.heap.size, 2, none⟩ = some (.int .i64 mo) := by rw [Lib.cell_of_heap hh]; rfl
  have HW : Hid (W1 = W.alloc (.cells #[.int .i64 k, .int .i64 n, .int .i64 mo] 38)) := hW1
  have HN : Hid (Nx B W1 b vi vq vf s) := hN1
  have HL : Hid (s.ind.length ≤ 1000000 ∧ s.que.length ≤ 1000000 ∧ s.frm.length ≤ 1000000 ∧ s.flg < 65536 ∧ m.size ≤ 4611686018427387904) := ⟨hl1, hl2, hl3, hf, hm⟩
  clear h hs hf hm hl1 hl2 hl3 hN1 hh hW1
  by_cases c1 : k = 1
  · subst c1
    have HE : Hid (act s 1 n mo m = aMeasure s m) := rfl
    
    go_enter Try.func17, Try.ntmps17
    go_upto_region 1 with fail
    rw [← HW.out]
    go_wp2_with fail
    refine Calls.mono (measure_any HN.out HL.out.1 m HL.out.2.2.2.2) ?_
    rintro e w5 ⟨hb, hr⟩
    have HR : Hid (Rs B W b (aMeasure s m) e w5) := ⟨HB.out.trans hb, hr⟩
    clear hb hr
    obtain ⟨v, hv⟩ : ∃ v, e = .returned (.int .i64 v) := by
      rcases HR.out.2 with ⟨_, _, _, _, _, h, _⟩ | ⟨c, _, h⟩
      · exact ⟨_, h⟩
      · exact ⟨_, h⟩
    subst hv
    go_wp2_with fail
    go_ret
    rw [HE.out]
    exact HR.out
  have d1 : (k == 1) = false := by rw [beq_eq_false_iff_ne]; exact c1
  by_cases c2 : k = 2
  · subst c2
    have HE : Hid (act s 2 n mo m = aIndent s) := rfl
    clear c1 d1
    go_enter Try.func17, Try.ntmps17
    go_upto_region 1 with fail
    rw [← HW.out]
    go_wp2_with fail
    refine Calls.mono (indent_any HN.out HL.out.1) ?_
    rintro e w5 ⟨hb, hr⟩
    have HR : Hid (Rs B W b (aIndent s) e w5) := ⟨HB.out.trans hb, hr⟩
    clear hb hr
    obtain ⟨v, hv⟩ : ∃ v, e = .returned (.int .i64 v) := by
      rcases HR.out.2 with ⟨_, _, _, _, _, h, _⟩ | ⟨c, _, h⟩
      · exact ⟨_, h⟩
      · exact ⟨_, h⟩
    subst hv
    go_wp2_with fail
    go_ret
    rw [HE.out]
    exact HR.out
  have d2 : (k == 2) = false := by rw [beq_eq_false_iff_ne]; exact c2
  by_cases c3 : k = 3
  · subst c3
    have HE : Hid (act s 3 n mo m = aDedent s) := rfl
    clear c1 c2 d1  d2
    go_enter Try.func17, Try.ntmps17
    go_upto_region 1 with fail
    rw [← HW.out]
    go_wp2_with fail
    refine Calls.mono (dedent_any HN.out HL.out.1) ?_
    rintro e w5 ⟨hb, hr⟩
    have HR : Hid (Rs B W b (aDedent s) e w5) := ⟨HB.out.trans hb, hr⟩
    clear hb hr
    obtain ⟨v, hv⟩ : ∃ v, e = .returned (.int .i64 v) := by
      rcases HR.out.2 with ⟨_, _, _, _, _, h, _⟩ | ⟨c, _, h⟩
      · exact ⟨_, h⟩
      · exact ⟨_, h⟩
    subst hv
    go_wp2_with fail
    go_ret
    rw [HE.out]
    exact HR.out
  have d3 : (k == 3) = false := by rw [beq_eq_false_iff_ne]; exact c3
  by_cases c4 : k = 4
  · subst c4
    have HE : Hid (act s 4 n mo m = aDrop s) := rfl
    clear c1 c2 c3 d1  d2  d3
    go_enter Try.func17, Try.ntmps17
    go_upto_region 1 with fail
    rw [← HW.out]
    go_wp2_with fail
    refine Calls.mono (drop_any HN.out HL.out.1) ?_
    rintro e w5 ⟨hb, hr⟩
    have HR : Hid (Rs B W b (aDrop s) e w5) := ⟨HB.out.trans hb, hr⟩
    clear hb hr
    obtain ⟨v, hv⟩ : ∃ v, e = .returned (.int .i64 v) := by
      rcases HR.out.2 with ⟨_, _, _, _, _, h, _⟩ | ⟨c, _, h⟩
      · exact ⟨_, h⟩
      · exact ⟨_, h⟩
    subst hv
    go_wp2_with fail
    go_ret
    rw [HE.out]
    exact HR.out
  have d4 : (k == 4) = false := by rw [beq_eq_false_iff_ne]; exact c4
  by_cases c5 : k = 5
  · subst c5
    have HE : Hid (act s 5 n mo m = aEnqueue s n m) := rfl
    clear c1 c2 c3 c4 d1  d2  d3  d4
    go_enter Try.func17, Try.ntmps17
    go_upto_region 1 with fail
    rw [← HW.out]
    go_wp2_with fail
    refine Calls.mono (enqueue_any HN.out HL.out.2.1 n m) ?_
    rintro e w5 ⟨hb, hr⟩
    have HR : Hid (Rs B W b (aEnqueue s n m) e w5) := ⟨HB.out.trans hb, hr⟩
    clear hb hr
    obtain ⟨v, hv⟩ : ∃ v, e = .returned (.int .i64 v) := by
      rcases HR.out.2 with ⟨_, _, _, _, _, h, _⟩ | ⟨c, _, h⟩
      · exact ⟨_, h⟩
      · exact ⟨_, h⟩
    subst hv
    go_wp2_with fail
    go_ret
    rw [HE.out]
    exact HR.out
  have d5 : (k == 5) = false := by rw [beq_eq_false_iff_ne]; exact c5
  by_cases c6 : k = 6
  · subst c6
    have HE : Hid (act s 6 n mo m = aDequeue s) := rfl
    clear c1 c2 c3 c4 c5 d1  d2  d3  d4  d5
    go_enter Try.func17, Try.ntmps17
    go_upto_region 1 with fail
    rw [← HW.out]
    go_wp2_with fail
    refine Calls.mono (dequeue_any HN.out HL.out.2.1) ?_
    rintro e w5 ⟨hb, hr⟩
    have HR : Hid (Rs B W b (aDequeue s) e w5) := ⟨HB.out.trans hb, hr⟩
    clear hb hr
    obtain ⟨v, hv⟩ : ∃ v, e = .returned (.int .i64 v) := by
      rcases HR.out.2 with ⟨_, _, _, _, _, h, _⟩ | ⟨c, _, h⟩
      · exact ⟨_, h⟩
      · exact ⟨_, h⟩
    subst hv
    go_wp2_with fail
    go_ret
    rw [HE.out]
    exact HR.out
  have d6 : (k == 6) = false := by rw [beq_eq_false_iff_ne]; exact c6
  by_cases c7 : k = 7
  · subst c7
    have HE : Hid (act s 7 n mo m = aEnter s n mo m) := rfl
    clear c1 c2 c3 c4 c5 c6 d1  d2  d3  d4  d5  d6
    go_enter Try.func17, Try.ntmps17
    go_upto_region 1 with fail
    rw [← HW.out]
    go_wp2_with fail
    refine Calls.mono (enter_any HN.out HL.out.2.2.1 n mo m) ?_
    rintro e w5 ⟨hb, hr⟩
    have HR : Hid (Rs B W b (aEnter s n mo m) e w5) := ⟨HB.out.trans hb, hr⟩
    clear hb hr
    obtain ⟨v, hv⟩ : ∃ v, e = .returned (.int .i64 v) := by
      rcases HR.out.2 with ⟨_, _, _, _, _, h, _⟩ | ⟨c, _, h⟩
      · exact ⟨_, h⟩
      · exact ⟨_, h⟩
    subst hv
    go_wp2_with fail
    go_ret
    rw [HE.out]
    exact HR.out
  have d7 : (k == 7) = false := by rw [beq_eq_false_iff_ne]; exact c7
  by_cases c8 : k = 8
  · subst c8
    have HE : Hid (act s 8 n mo m = aLeave s) := rfl
    clear c1 c2 c3 c4 c5 c6 c7 d1  d2  d3  d4  d5  d6  d7
    go_enter Try.func17, Try.ntmps17
    go_upto_region 1 with fail
    rw [← HW.out]
    go_wp2_with fail
    refine Calls.mono (leave_any HN.out HL.out.2.2.1) ?_
    rintro e w5 ⟨hb, hr⟩
    have HR : Hid (Rs B W b (aLeave s) e w5) := ⟨HB.out.trans hb, hr⟩
    clear hb hr
    obtain ⟨v, hv⟩ : ∃ v, e = .returned (.int .i64 v) := by
      rcases HR.out.2 with ⟨_, _, _, _, _, h, _⟩ | ⟨c, _, h⟩
      · exact ⟨_, h⟩
      · exact ⟨_, h⟩
    subst hv
    go_wp2_with fail
    go_ret
    rw [HE.out]
    exact HR.out
  have d8 : (k == 8) = false := by rw [beq_eq_false_iff_ne]; exact c8
  by_cases c9 : k = 9
  · subst c9
    have HE : Hid (act s 9 n mo m = aTurn s n true) := rfl
    clear c1 c2 c3 c4 c5 c6 c7 c8 d1  d2  d3  d4  d5  d6  d7  d8
    go_enter Try.func17, Try.ntmps17
    go_upto_region 1 with fail
    rw [← HW.out]
    go_wp2_with fail
    refine Calls.mono (turn_any HN.out HL.out.2.2.2.1 n true) ?_
    rintro e w5 ⟨hb, hr⟩
    have HR : Hid (Rs B W b (aTurn s n true) e w5) := ⟨HB.out.trans hb, hr⟩
    clear hb hr
    obtain ⟨v, hv⟩ : ∃ v, e = .returned (.int .i64 v) := by
      rcases HR.out.2 with ⟨_, _, _, _, _, h, _⟩ | ⟨c, _, h⟩
      · exact ⟨_, h⟩
      · exact ⟨_, h⟩
    subst hv
    go_wp2_with fail
    go_ret
    rw [HE.out]
    exact HR.out
  have d9 : (k == 9) = false := by rw [beq_eq_false_iff_ne]; exact c9
  by_cases c10 : k = 10
  · subst c10
    have HE : Hid (act s 10 n mo m = aTurn s n false) := rfl
    clear c1 c2 c3 c4 c5 c6 c7 c8 c9 d1  d2  d3  d4  d5  d6  d7  d8  d9
    go_enter Try.func17, Try.ntmps17
    go_upto_region 1 with fail
    rw [← HW.out]
    go_wp2_with fail
    refine Calls.mono (turn_any HN.out HL.out.2.2.2.1 n false) ?_
    rintro e w5 ⟨hb, hr⟩
    have HR : Hid (Rs B W b (aTurn s n false) e w5) := ⟨HB.out.trans hb, hr⟩
    clear hb hr
    obtain ⟨v, hv⟩ : ∃ v, e = .returned (.int .i64 v) := by
      rcases HR.out.2 with ⟨_, _, _, _, _, h, _⟩ | ⟨c, _, h⟩
      · exact ⟨_, h⟩
      · exact ⟨_, h⟩
    subst hv
    go_wp2_with fail
    go_ret
    rw [HE.out]
    exact HR.out
  have d10 : (k == 10) = false := by rw [beq_eq_false_iff_ne]; exact c10
  have HE : Hid (act s k n mo m = .error 66) := by
    unfold act
    rw [if_neg c1, if_neg c2, if_neg c3, if_neg c4, if_neg c5, if_neg c6, if_neg c7, if_neg c8, if_neg c9, if_neg c10]
    exact rfl
  clear c1 c2 c3 c4 c5 c6 c7 c8 c9 c10
  go_enter Try.func17, Try.ntmps17
  go_upto_region 1 with fail
  rw [← HW.out]
  go_wp2_with fail
  go_ret
  exact ⟨HB.out, .inr ⟨66, HE.out, rfl⟩⟩
end Go.Proofs.Ytkaciochlemjiab
