import Derived.Test.YtnhmdbmcamfbiaaPlayc
namespace Go.Proofs.Ytnhmdbmcamfbiaa
open Go.RowKit

set_option maxRecDepth 100000 in
set_option maxHeartbeats 4000000 in
theorem plays_splice (k n : Nat) (q1 a d : Int) (ins : ByteArray) (A N : Int) (w0 w : World) (h : Full w0 w k n) (hn : n ≤ 10000000000000) (hi : ins.size ≤ 9223372036854775807) :
    Calls Try.prog 27 #[.pointer (some ⟨k, 0, none⟩), .agg #[.int .i64 5, .int .i64 q1, .int .i64 a, .int .i64 d, .string ins, .int .i64 A, .int .i64 N]] w fun e w' => e = .returned (.bool true) ∧ Full w0 w' k (n + 1) := by
  obtain ⟨rv, mv, cv, kv, R, M, C, K, hb, e1, e2, l1, l2⟩ := h
  obtain ⟨W0, hW0⟩ : ∃ W0, W0 = w.alloc (.cells #[.int .i64 5, .int .i64 q1, .int .i64 a, .int .i64 d, .string ins, .int .i64 A, .int .i64 N] 66) := ⟨_, rfl⟩
  have b0 : Below w.heap.size w W0 := by rw [hW0]; exact (Below.refl _ _).alloc (Nat.le_refl _) _
  have bx : W0.heap[w.heap.size]? = some (.cells #[.int .i64 5, .int .i64 q1, .int .i64 a, .int .i64 d, .string ins, .int .i64 A, .int .i64 N] 66 (0, 0)) := by rw [hW0]; exact heap_alloc_new w _
  have hB := hb.mono b0
  obtain ⟨nr, hnr⟩ : ∃ nr, nr = R.length := ⟨_, rfl⟩
  have hpr : 0 < nr := by rw [hnr]; exact hb.pr
  have hP : Hid (∀ W, Calls Try.prog 25 #[.int .i64 q1, .int .i64 (nr : Int)] W fun e w' => e = .returned (.int .i64 (pickv q1 nr : Int)) ∧ W = w') := fun W => pick_at q1 nr W hpr (by omega)
  have hplt := pickv_lt q1 nr hpr
  obtain ⟨bp, mp, sp, hR, hM⟩ := same_at e1 (p := pickv q1 nr) (by omega)
  generalize pickv q1 nr = p at *
  have lm : M.length = nr := by rw [hnr]; exact (same_len e1).symm
  obtain ⟨g1, c1, hv1, hc1, _, _, hcell1⟩ := own_slice hB.or_ hb.pr
  obtain ⟨g2, c2, hv2, hc2, _, _, hcell2⟩ := own_slice hB.om hb.pm
  rw [← hnr] at hv1 hc1
  rw [lm] at hv2 hc2
  subst hv1 hv2
  have RC : Hid (∀ W cv kv C K, Bk w0 W k (.slice (some ⟨g1, 0, none⟩) nr c1) (.slice (some ⟨g2, 0, none⟩) nr c2) cv kv R M C K → W.cell? ⟨k, 0, none⟩ = some (.slice (some ⟨g1, 0, none⟩) nr c1) ∧ W.cell? ⟨k, 1, none⟩ = some (.slice (some ⟨g2, 0, none⟩) nr c2) ∧ W.cell? ⟨k, 2, none⟩ = some cv ∧ W.cell? ⟨k, 3, none⟩ = some kv ∧ W.cell? ⟨g1, p, none⟩ = some (.pointer (some ⟨bp, 0, none⟩)) ∧ W.cell? ⟨g2, p, none⟩ = some (.pointer (some ⟨mp, 0, none⟩))) := by
    intro W cv kv C K hW
    obtain ⟨k0, k1, k2, k3, -⟩ := book_cells hW.book
    refine ⟨k0, k1, k2, k3, ?_, ?_⟩
    · exact own_cell (n := nr) (by have := hW.or_; rw [← hnr] at this; exact this) hpr p _ (ptrs_at _ _ p _ hR)
    · exact own_cell (n := nr) (by have := hW.om; rw [lm] at this; exact this) hpr p _ (ptrs_at _ _ p _ hM)
  have HB0 : Hid _ := hB
  have HX0 : Hid _ := bx
  obtain ⟨x0, x1, x2, x3, x4, x5, x6⟩ := boxed_heap bx
  obtain ⟨k0, k1, k2, k3, cr, cm⟩ := RC.out _ _ _ _ _ HB0.out
  have HR : Hid _ := hR
  have HM : Hid _ := hM
  have E1 : Hid _ := e1
  have E2 : Hid _ := e2
  have HE : Hid _ := hW0
  have LM : Hid _ := lm
  have LR : Hid _ := hnr
  have hnr2 : nr ≤ n + 1 := by omega
  have HS : Hid (sp.size ≤ 1048576) := (HB0.out.con.m _ (List.mem_of_getElem? hM)).len
  have HI : Hid _ := hi
  clear hi
  by_cases hfit : (ins.size : Int) ≤ 1048576 - ((sp.size : Int) - cl d (sp.size - cl a sp.size))
  · have HF : Hid _ := hfit
    clear hfit
    clear hB hb e1 e2 hcell1 hcell2 hW0 b0 hnr lm l1 hR hM bx
    go_enter Try.func27, Try.ntmps27
    go_wp2_with fail
    rw [← HE.out]
    go_quiet ((go_at_call 25; exact quiet_same (hP.out _)))
    have HB1 : Hid _ := HB0.out.mono (drewN_below W0 nq)
    have HX1 : Hid _ := box_mono HX0.out (drewN_below W0 nq)
    clear hP HE k0 k1 k2 k3 cr cm x0 x1 x2 x3 x4 x5 x6 HB0 HX0
    generalize W0.drewN nq = W1 at *
    have S1 : Hid (∀ W, Below W1.heap.size W1 W → W.cell? ⟨k, 0, none⟩ = some (.slice (some ⟨g1, 0, none⟩) nr c1) ∧ W.cell? ⟨g1, p, none⟩ = some (.pointer (some ⟨bp, 0, none⟩)) ∧ W.cell? ⟨w.heap.size, 0, none⟩ = some (.int .i64 5) ∧ W.cell? ⟨w.heap.size, 2, none⟩ = some (.int .i64 a) ∧ W.cell? ⟨w.heap.size, 3, none⟩ = some (.int .i64 d) ∧ W.cell? ⟨w.heap.size, 4, none⟩ = some (.string ins) ∧ Below W1.heap.size W1 W) := by
      intro W hW
      obtain ⟨k0, -, -, -, cr, -⟩ := RC.out _ _ _ _ _ (HB1.out.mono hW)
      have hx := boxed_heap (box_mono HX1.out hW)
      exact ⟨k0, cr, hx.c0, hx.c2, hx.c3, hx.c4, hW⟩
    have HIS : Hid (∀ W, (W.cell? ⟨k, 0, none⟩ = some (.slice (some ⟨g1, 0, none⟩) nr c1) ∧ W.cell? ⟨g1, p, none⟩ = some (.pointer (some ⟨bp, 0, none⟩)) ∧ W.cell? ⟨w.heap.size, 0, none⟩ = some (.int .i64 5) ∧ W.cell? ⟨w.heap.size, 2, none⟩ = some (.int .i64 a) ∧ W.cell? ⟨w.heap.size, 3, none⟩ = some (.int .i64 d) ∧ W.cell? ⟨w.heap.size, 4, none⟩ = some (.string ins) ∧ Below W1.heap.size W1 W) → Below W1.heap.size W1 W) := fun W h => h.2.2.2.2.2.2
    obtain ⟨k0, cr, x0, x2, x3, x4, -⟩ := S1.out _ (Below.refl _ _)
    have HC1 : Hid (∀ W, Below W1.heap.size W1 W → Calls Try.prog 11 #[.pointer (some ⟨bp, 0, none⟩), .agg #[.int .i64 a, .int .i64 d, .string ins]] W fun e w' => ∃ b' : Nat, e = .returned (.tuple #[.pointer (some ⟨b', 0, none⟩), .int .i64 0]) ∧ RopeAt w' b' (after sp.data.toList a d ins) ∧ Below W1.heap.size W1 w') := by
      intro W hW
      have hbk := HB1.out.mono hW
      have hr := (hbk.con.r _ (List.mem_of_getElem? HR.out)).rope
      refine (splice_fresh bp _ a d ins W hr (by rw [← Lib.size_eq]; exact HF.out)).mono ?_
      rintro e w' ⟨b', rfl, hc, hb⟩
      exact ⟨_, rfl, hc, below_trans hW hb⟩
    go_wp2_with fail
    go_region_held3 (fun W => W.cell? ⟨k, 0, none⟩ = some (.slice (some ⟨g1, 0, none⟩) nr c1) ∧ W.cell? ⟨g1, p, none⟩ = some (.pointer (some ⟨bp, 0, none⟩)) ∧ W.cell? ⟨w.heap.size, 0, none⟩ = some (.int .i64 5) ∧ W.cell? ⟨w.heap.size, 2, none⟩ = some (.int .i64 a) ∧ W.cell? ⟨w.heap.size, 3, none⟩ = some (.int .i64 d) ∧ W.cell? ⟨w.heap.size, 4, none⟩ = some (.string ins) ∧ Below W1.heap.size W1 W) (first | exact S1.out _ ((Below.refl _ _).drew) | exact S1.out _ hb | assumption)
      (first
      | (go_at_call 11; refine (HC1.out _ ?_).mono ?_; exact HIS.out _ (by assumption); rintro e W2 ⟨b', rfl, hr2, hb⟩))
    have HB2 : Hid _ := HB1.out.mono hb
    have HX2 : Hid _ := box_mono HX1.out hb
    have HR2 : Hid _ := hr2
    clear hb hr2 k0 cr x0 x2 x3 x4 S1 HC1 HIS HB1 HX1
    have S2 : Hid (∀ W, Below W2.heap.size W2 W → W.cell? ⟨k, 1, none⟩ = some (.slice (some ⟨g2, 0, none⟩) nr c2) ∧ W.cell? ⟨g2, p, none⟩ = some (.pointer (some ⟨mp, 0, none⟩)) ∧ W.cell? ⟨w.heap.size, 2, none⟩ = some (.int .i64 a) ∧ W.cell? ⟨w.heap.size, 3, none⟩ = some (.int .i64 d) ∧ W.cell? ⟨w.heap.size, 4, none⟩ = some (.string ins) ∧ Below W2.heap.size W2 W) := by
      intro W hW
      obtain ⟨-, k1, -, -, -, cm⟩ := RC.out _ _ _ _ _ (HB2.out.mono hW)
      have hx := boxed_heap (box_mono HX2.out hW)
      exact ⟨k1, cm, hx.c2, hx.c3, hx.c4, hW⟩
    have HIS2 : Hid (∀ W, (W.cell? ⟨k, 1, none⟩ = some (.slice (some ⟨g2, 0, none⟩) nr c2) ∧ W.cell? ⟨g2, p, none⟩ = some (.pointer (some ⟨mp, 0, none⟩)) ∧ W.cell? ⟨w.heap.size, 2, none⟩ = some (.int .i64 a) ∧ W.cell? ⟨w.heap.size, 3, none⟩ = some (.int .i64 d) ∧ W.cell? ⟨w.heap.size, 4, none⟩ = some (.string ins) ∧ Below W2.heap.size W2 W) → Below W2.heap.size W2 W) := fun W h => h.2.2.2.2.2
    obtain ⟨k1, cm, x2, x3, x4, -⟩ := S2.out _ (Below.refl _ _)
    have HC2 : Hid (∀ W, Below W2.heap.size W2 W → Calls Try.prog 37 #[.pointer (some ⟨mp, 0, none⟩), .agg #[.int .i64 a, .int .i64 d, .string ins]] W fun e w' => ∃ (m' : Nat) (r : ByteArray), e = .returned (.tuple #[.pointer (some ⟨m', 0, none⟩), .int .i64 0]) ∧ (ModelAt w' m' r ∧ r.data.toList = after sp.data.toList a d ins) ∧ Below W2.heap.size W2 w') := by
      intro W hW
      have hm := (HB2.out.mono hW).con.m _ (List.mem_of_getElem? HM.out)
      refine (rsplice_ok mp sp a d ins W hm HF.out).mono ?_
      rintro e w' ⟨m', r, rfl, hm', hr', hb⟩
      exact ⟨_, _, rfl, ⟨hm', hr'⟩, below_trans hW hb⟩
    go_wp2_with fail
    go_region_held3 (fun W => W.cell? ⟨k, 1, none⟩ = some (.slice (some ⟨g2, 0, none⟩) nr c2) ∧ W.cell? ⟨g2, p, none⟩ = some (.pointer (some ⟨mp, 0, none⟩)) ∧ W.cell? ⟨w.heap.size, 2, none⟩ = some (.int .i64 a) ∧ W.cell? ⟨w.heap.size, 3, none⟩ = some (.int .i64 d) ∧ W.cell? ⟨w.heap.size, 4, none⟩ = some (.string ins) ∧ Below W2.heap.size W2 W) (first | exact S2.out _ ((Below.refl _ _).drew) | exact S2.out _ hb | assumption)
      (first
      | (go_at_call 37; refine (HC2.out _ ?_).mono ?_; exact HIS2.out _ (by assumption); rintro e w3 ⟨m', r, rfl, hm3, hb⟩))
    have HB3 : Hid _ := HB2.out.mono hb
    have HM3 : Hid _ := hm3.1
    have HR3 : Hid (RopeAt w3 b' r.data.toList) := by have := HR2.out.mono hb; rw [← hm3.2] at this; exact this
    clear hb hm3 k1 cm x2 x3 x4 S2 HC2 HIS2 HB2 HX2 HR2
    obtain ⟨i24, hi24, hz24, hs24, hy24⟩ := info_parts info24
    obtain ⟨i56, hi56, hz56, hs56, hy56⟩ := info_parts info56
    have HB4 : Hid _ := HB3.out.mono (alloc_below w3 (.cells #[.pointer (some ⟨b', 0, none⟩)] 24))
    have HM4 : Hid _ := HM3.out.mono (alloc_below w3 (.cells #[.pointer (some ⟨b', 0, none⟩)] 24))
    have HO : Hid ((w3.alloc (.cells #[.pointer (some ⟨b', 0, none⟩)] 24)).ownsRow w0.heap.size 24 1 (.slice (some ⟨g1, 0, none⟩) nr c1) nr (ptrs (R.map (·.1)))) := by have := HB4.out.or_; rw [← LR.out] at this; exact this
    have hbase : w0.heap.size ≤ (w3.alloc (.cells #[.pointer (some ⟨b', 0, none⟩)] 24)).heap.size := HB4.out.con.below.size
    obtain ⟨k0, -, -, -, -, -⟩ := RC.out _ _ _ _ _ HB3.out
    go_wp2_with (at_builtin; refine wpList_append_own _ rfl (.tmp 67) (.tmp 69) 50 rfl w0.heap.size 24 i24 (.pointer none) 1 8 Try.underlying50 hi24 hz24 hs24 hy24 rfl (by decide) _ _ _ rfl HO.out ⟨w3.heap.size, 0, none⟩ 1 1 [.pointer (some ⟨b', 0, none⟩)] rfl rfl ?c1 ?c2 ?c3 ?c4 ?c5 ?_)
    case c1 => exact cell_one_new _ _ _
    case c2 => intro u hu; simp at hu; subst hu; rfl
    case c3 => unfold maxLen; omega
    case c4 => omega
    case c5 => exact hbase
    intro rv' w5 hown hgrow _
    obtain ⟨g5, c5, hv5, -⟩ := own_slice hown (by omega)
    subst hv5
    have hall := HB4.out.app0 (x := (b', r)) (HR3.out.mono (alloc_below w3 _)) (by rw [← LR.out]; exact hown) hgrow
    have HB5 : Hid _ := hall.2.1
    have HM5 : Hid _ := hall.2.2 _ _ HM4.out
    obtain ⟨k0', -, -, -, fz⟩ := book_cells hall.1
    clear k0 hall hown hgrow HO hbase HB4 hi24 hz24 hs24 hy24 HM4 HR3 HM3 HB3
    go_upto_region 10 with fail
    clear k0' fz
    generalize w5.setCell ⟨k, 0, none⟩ (.slice (some ⟨g5, 0, none⟩) (nr + 1) c5) = W6 at *
    have HB6 : Hid _ := HB5.out.mono (alloc_below W6 (.cells #[.pointer (some ⟨m', 0, none⟩)] 56))
    have HM6 : Hid _ := HM5.out.mono (alloc_below W6 (.cells #[.pointer (some ⟨m', 0, none⟩)] 56))
    have HO : Hid ((W6.alloc (.cells #[.pointer (some ⟨m', 0, none⟩)] 56)).ownsRow w0.heap.size 56 1 (.slice (some ⟨g2, 0, none⟩) nr c2) nr (ptrs (M.map (·.1)))) := by have := HB6.out.om; rw [LM.out] at this; exact this
    have hbase : w0.heap.size ≤ (W6.alloc (.cells #[.pointer (some ⟨m', 0, none⟩)] 56)).heap.size := HB6.out.con.below.size
    obtain ⟨-, k1, -, -, -⟩ := book_cells HB5.out.book
    go_wp2_with (at_builtin; refine wpList_append_own _ rfl (.tmp 77) (.tmp 79) 59 rfl w0.heap.size 56 i56 (.pointer none) 1 8 Try.underlying59 hi56 hz56 hs56 hy56 rfl (by decide) _ _ _ rfl HO.out ⟨W6.heap.size, 0, none⟩ 1 1 [.pointer (some ⟨m', 0, none⟩)] rfl rfl ?d1 ?d2 ?d3 ?d4 ?d5 ?_)
    case d1 => exact cell_one_new _ _ _
    case d2 => intro u hu; simp at hu; subst hu; rfl
    case d3 => unfold maxLen; omega
    case d4 => omega
    case d5 => exact hbase
    intro mv' w7 hown hgrow _
    obtain ⟨g7, c7, hv7, -⟩ := own_slice hown (by omega)
    subst hv7
    have hall := HB6.out.app1 (x := (m', r)) HM6.out (by rw [LM.out]; exact hown) hgrow
    have HB7 : Hid _ := hall.2
    obtain ⟨-, k1', -, -, fz⟩ := book_cells hall.1
    clear hall hown hgrow HO hbase HB6 hi56 hz56 hs56 hy56 HM6 k1
    go_wp2_with fail
    go_ret
    have hl1 : (R ++ [(b', r)]).length ≤ n + 1 + 1 := by rw [List.length_append, ← LR.out]; simp only [List.length_cons, List.length_nil]; omega
    exact ⟨rfl, _, _, _, _, _, _, _, _, HB7.out, by rw [List.map_append, List.map_append, E1.out]; rfl, E2.out, hl1, by omega⟩
  · have hbig : 1048576 - ((sp.size : Int) - cl d (sp.size - cl a sp.size)) < (ins.size : Int) := by omega
    have HF : Hid _ := hbig
    clear hfit hbig
    clear hB hb e1 e2 hcell1 hcell2 hW0 b0 hnr lm l1 hR hM bx
    go_enter Try.func27, Try.ntmps27
    go_wp2_with fail
    rw [← HE.out]
    go_quiet ((go_at_call 25; exact quiet_same (hP.out _)))
    have HB1 : Hid _ := HB0.out.mono (drewN_below W0 nq)
    have HX1 : Hid _ := box_mono HX0.out (drewN_below W0 nq)
    clear hP HE k0 k1 k2 k3 cr cm x0 x1 x2 x3 x4 x5 x6 HB0 HX0
    generalize W0.drewN nq = W1 at *
    have S1 : Hid (∀ W, Below W1.heap.size W1 W → W.cell? ⟨k, 0, none⟩ = some (.slice (some ⟨g1, 0, none⟩) nr c1) ∧ W.cell? ⟨g1, p, none⟩ = some (.pointer (some ⟨bp, 0, none⟩)) ∧ W.cell? ⟨w.heap.size, 0, none⟩ = some (.int .i64 5) ∧ W.cell? ⟨w.heap.size, 2, none⟩ = some (.int .i64 a) ∧ W.cell? ⟨w.heap.size, 3, none⟩ = some (.int .i64 d) ∧ W.cell? ⟨w.heap.size, 4, none⟩ = some (.string ins) ∧ Below W1.heap.size W1 W) := by
      intro W hW
      obtain ⟨k0, -, -, -, cr, -⟩ := RC.out _ _ _ _ _ (HB1.out.mono hW)
      have hx := boxed_heap (box_mono HX1.out hW)
      exact ⟨k0, cr, hx.c0, hx.c2, hx.c3, hx.c4, hW⟩
    have HIS : Hid (∀ W, (W.cell? ⟨k, 0, none⟩ = some (.slice (some ⟨g1, 0, none⟩) nr c1) ∧ W.cell? ⟨g1, p, none⟩ = some (.pointer (some ⟨bp, 0, none⟩)) ∧ W.cell? ⟨w.heap.size, 0, none⟩ = some (.int .i64 5) ∧ W.cell? ⟨w.heap.size, 2, none⟩ = some (.int .i64 a) ∧ W.cell? ⟨w.heap.size, 3, none⟩ = some (.int .i64 d) ∧ W.cell? ⟨w.heap.size, 4, none⟩ = some (.string ins) ∧ Below W1.heap.size W1 W) → Below W1.heap.size W1 W) := fun W h => h.2.2.2.2.2.2
    obtain ⟨k0, cr, x0, x2, x3, x4, -⟩ := S1.out _ (Below.refl _ _)
    have HC1 : Hid (∀ W, Below W1.heap.size W1 W → Calls Try.prog 11 #[.pointer (some ⟨bp, 0, none⟩), .agg #[.int .i64 a, .int .i64 d, .string ins]] W fun e w' => e = .returned (.tuple #[.pointer none, .int .i64 10]) ∧ Below W1.heap.size W1 w') := by
      intro W hW
      have hr := ((HB1.out.mono hW).con.r _ (List.mem_of_getElem? HR.out)).rope
      refine (splice_big bp _ a d ins W hr (by rw [← Lib.size_eq]; exact HF.out)).mono ?_
      rintro e w' ⟨rfl, hb⟩
      exact ⟨rfl, below_trans hW hb⟩
    go_wp2_with fail
    go_region_held3 (fun W => W.cell? ⟨k, 0, none⟩ = some (.slice (some ⟨g1, 0, none⟩) nr c1) ∧ W.cell? ⟨g1, p, none⟩ = some (.pointer (some ⟨bp, 0, none⟩)) ∧ W.cell? ⟨w.heap.size, 0, none⟩ = some (.int .i64 5) ∧ W.cell? ⟨w.heap.size, 2, none⟩ = some (.int .i64 a) ∧ W.cell? ⟨w.heap.size, 3, none⟩ = some (.int .i64 d) ∧ W.cell? ⟨w.heap.size, 4, none⟩ = some (.string ins) ∧ Below W1.heap.size W1 W) (first | exact S1.out _ ((Below.refl _ _).drew) | exact S1.out _ hb | assumption)
      (first
      | (go_at_call 11; refine (HC1.out _ ?_).mono ?_; exact HIS.out _ (by assumption); rintro e W2 ⟨rfl, hb⟩))
    have HB2 : Hid _ := HB1.out.mono hb
    have HX2 : Hid _ := box_mono HX1.out hb
    clear hb k0 cr x0 x2 x3 x4 S1 HC1 HIS HB1 HX1
    have S2 : Hid (∀ W, Below W2.heap.size W2 W → W.cell? ⟨k, 1, none⟩ = some (.slice (some ⟨g2, 0, none⟩) nr c2) ∧ W.cell? ⟨g2, p, none⟩ = some (.pointer (some ⟨mp, 0, none⟩)) ∧ W.cell? ⟨w.heap.size, 2, none⟩ = some (.int .i64 a) ∧ W.cell? ⟨w.heap.size, 3, none⟩ = some (.int .i64 d) ∧ W.cell? ⟨w.heap.size, 4, none⟩ = some (.string ins) ∧ Below W2.heap.size W2 W) := by
      intro W hW
      obtain ⟨-, k1, -, -, -, cm⟩ := RC.out _ _ _ _ _ (HB2.out.mono hW)
      have hx := boxed_heap (box_mono HX2.out hW)
      exact ⟨k1, cm, hx.c2, hx.c3, hx.c4, hW⟩
    have HIS2 : Hid (∀ W, (W.cell? ⟨k, 1, none⟩ = some (.slice (some ⟨g2, 0, none⟩) nr c2) ∧ W.cell? ⟨g2, p, none⟩ = some (.pointer (some ⟨mp, 0, none⟩)) ∧ W.cell? ⟨w.heap.size, 2, none⟩ = some (.int .i64 a) ∧ W.cell? ⟨w.heap.size, 3, none⟩ = some (.int .i64 d) ∧ W.cell? ⟨w.heap.size, 4, none⟩ = some (.string ins) ∧ Below W2.heap.size W2 W) → Below W2.heap.size W2 W) := fun W h => h.2.2.2.2.2
    obtain ⟨k1, cm, x2, x3, x4, -⟩ := S2.out _ (Below.refl _ _)
    have HC2 : Hid (∀ W, Below W2.heap.size W2 W → Calls Try.prog 37 #[.pointer (some ⟨mp, 0, none⟩), .agg #[.int .i64 a, .int .i64 d, .string ins]] W fun e w' => e = .returned (.tuple #[.pointer none, .int .i64 10]) ∧ Below W2.heap.size W2 w') := by
      intro W hW
      have hm := (HB2.out.mono hW).con.m _ (List.mem_of_getElem? HM.out)
      refine (rsplice_big mp sp a d ins W hm HI.out HF.out).mono ?_
      rintro e w' ⟨rfl, hb⟩
      exact ⟨rfl, below_trans hW hb⟩
    go_wp2_with fail
    go_region_held3 (fun W => W.cell? ⟨k, 1, none⟩ = some (.slice (some ⟨g2, 0, none⟩) nr c2) ∧ W.cell? ⟨g2, p, none⟩ = some (.pointer (some ⟨mp, 0, none⟩)) ∧ W.cell? ⟨w.heap.size, 2, none⟩ = some (.int .i64 a) ∧ W.cell? ⟨w.heap.size, 3, none⟩ = some (.int .i64 d) ∧ W.cell? ⟨w.heap.size, 4, none⟩ = some (.string ins) ∧ Below W2.heap.size W2 W) (first | exact S2.out _ ((Below.refl _ _).drew) | exact S2.out _ hb | assumption)
      (first
      | (go_at_call 37; refine (HC2.out _ ?_).mono ?_; exact HIS2.out _ (by assumption); rintro e w3 ⟨rfl, hb⟩))
    have HB3 : Hid _ := HB2.out.mono hb
    clear hb k1 cm x2 x3 x4 S2 HC2 HIS2 HB2 HX2
    go_wp2_with fail
    go_ret
    exact ⟨rfl, _, _, _, _, R, M, C, K, HB3.out, E1.out, E2.out, by rw [← LR.out]; omega, by omega⟩
end Go.Proofs.Ytnhmdbmcamfbiaa
