import Derived.Test.YtnhmdbmcamfbiaaPlayb
namespace Go.Proofs.Ytnhmdbmcamfbiaa
open Go.RowKit

theorem info42 : (Try.prog.info? 42).map (fun i => (i.zero, i.size, i.bytes)) = some (some (.pointer none), 1, 8) := by kernel_rfl
theorem info91 : (Try.prog.info? 91).map (fun i => (i.zero, i.size, i.bytes)) = some (some (.pointer none), 1, 8) := by kernel_rfl
theorem info56 : (Try.prog.info? 56).map (fun i => (i.zero, i.size, i.bytes)) = some (some (.pointer none), 1, 8) := by kernel_rfl

theorem fresh_bk {w0 W : World} {k : Nat} {rv mv cv kv : Value} {R M : List (Nat × ByteArray)} {C K : List (Nat × ByteArray × Nat × Nat)} (h : Bk w0 W k rv mv cv kv R M C K) : W.heap.size ∉ C.map (·.1) ∧ W.heap.size ∉ K.map (·.1) ∧ w0.heap.size ≤ W.heap.size := by
  refine ⟨fun hm => ?_, fun hm => ?_, h.con.below.size⟩
  · obtain ⟨x, hx, e⟩ := List.mem_map.1 hm
    obtain ⟨y, hy⟩ := (h.con.c x hx).tag
    have := lt_of_heap hy
    omega
  · obtain ⟨x, hx, e⟩ := List.mem_map.1 hm
    have := lt_of_heap (h.con.k x hx).heap
    omega
theorem app2_box {w0 w w2 : World} {k b : Nat} {rv mv cv kv cv' : Value} {R M : List (Nat × ByteArray)} {C K : List (Nat × ByteArray × Nat × Nat)} {x : Array Value} (h : Bk w0 w k rv mv cv kv R M C K) (hg : w.grownBy w2 cv.ownBlock)
    (hx : w.heap[b]? = some (.cells x 66 (0, 0))) : (w2.setCell ⟨k, 2, none⟩ cv').heap[b]? = some (.cells x 66 (0, 0)) := by
  obtain ⟨g, T, tg, ng, og⟩ := own_grows h.oc (ptrs_plain _) h.zc hg h.con.below.size
  rw [(Moved.set k 2 w2 cv').block b ((tags_of h.book).ne hx (by decide)), T.block b (lt_of_heap hx) (tg.ne hx (by decide)) (tg.ne hx (by decide))]
  exact hx
theorem box_mono {W W' : World} {b : Nat} {o : Obj} (h : W.heap[b]? = some o) (hb : Below W.heap.size W W') : W'.heap[b]? = some o := by
  rw [hb.block b (lt_of_heap h)]
  exact h
theorem boxed_heap {W : World} {b : Nat} {q q1 a d : Int} {ins : ByteArray} {A N : Int} (h : W.heap[b]? = some (.cells #[.int .i64 q, .int .i64 q1, .int .i64 a, .int .i64 d, .string ins, .int .i64 A, .int .i64 N] 66 (0, 0))) : Boxed W b q q1 a d ins A N := by
  constructor <;> (rw [Lib.cell_of_heap h]; rfl)
theorem alloc_below (W : World) (o : Obj) : Below W.heap.size W (W.alloc o) := (Below.refl _ _).alloc (Nat.le_refl _) _

set_option maxRecDepth 100000 in
set_option maxHeartbeats 4000000 in
theorem plays_cursor (k n : Nat) (q1 a d : Int) (ins : ByteArray) (A N : Int) (w0 w : World) (h : Full w0 w k n) (hn : n ≤ 10000000000000) :
    Calls Try.prog 27 #[.pointer (some ⟨k, 0, none⟩), .agg #[.int .i64 7, .int .i64 q1, .int .i64 a, .int .i64 d, .string ins, .int .i64 A, .int .i64 N]] w fun e w' => e = .returned (.bool true) ∧ Full w0 w' k (n + 1) := by
  obtain ⟨rv, mv, cv, kv, R, M, C, K, hb, e1, e2, l1, l2⟩ := h
  obtain ⟨W0, hW0⟩ : ∃ W0, W0 = w.alloc (.cells #[.int .i64 7, .int .i64 q1, .int .i64 a, .int .i64 d, .string ins, .int .i64 A, .int .i64 N] 66) := ⟨_, rfl⟩
  have b0 : Below w.heap.size w W0 := by rw [hW0]; exact (Below.refl _ _).alloc (Nat.le_refl _) _
  have bx : W0.heap[w.heap.size]? = some (.cells #[.int .i64 7, .int .i64 q1, .int .i64 a, .int .i64 d, .string ins, .int .i64 A, .int .i64 N] 66 (0, 0)) := by rw [hW0]; exact heap_alloc_new w _
  have hB := hb.mono b0
  obtain ⟨nr, hnr⟩ : ∃ nr, nr = R.length := ⟨_, rfl⟩
  have hpr : 0 < nr := by rw [hnr]; exact hb.pr
  have hP : Hid (∀ W, Calls Try.prog 25 #[.int .i64 q1, .int .i64 (nr : Int)] W fun e w' => e = .returned (.int .i64 (pickv q1 nr : Int)) ∧ W = w') := fun W => pick_at q1 nr W hpr (by omega)
  have hplt := pickv_lt q1 nr hpr
  obtain ⟨bp, mp, sp, hR, hM⟩ := same_at e1 (p := pickv q1 nr) (by omega)
  generalize pickv q1 nr = p at *
  have lm : M.length = nr := by rw [hnr]; exact (same_len e1).symm
  have lk : K.length = C.length := (same_len e2).symm
  obtain ⟨g1, c1, hv1, hc1, _, _, hcell1⟩ := own_slice hB.or_ hb.pr
  obtain ⟨g2, c2, hv2, hc2, _, _, hcell2⟩ := own_slice hB.om hb.pm
  rw [← hnr] at hv1 hc1
  rw [lm] at hv2 hc2
  subst hv1 hv2
  have RC : Hid (∀ W cv kv C K, Bk w0 W k (.slice (some ⟨g1, 0, none⟩) nr c1) (.slice (some ⟨g2, 0, none⟩) nr c2) cv kv R M C K → W.cell? ⟨k, 0, none⟩ = some (.slice (some ⟨g1, 0, none⟩) nr c1) ∧ W.cell? ⟨k, 1, none⟩ = some (.slice (some ⟨g2, 0, none⟩) nr c2) ∧ W.cell? ⟨k, 2, none⟩ = some cv ∧ W.cell? ⟨k, 3, none⟩ = some kv ∧ W.cell? ⟨g1, p, none⟩ = some (.pointer (some ⟨bp, 0, none⟩)) ∧ W.cell? ⟨g2, p, none⟩ = some (.pointer (some ⟨mp, 0, none⟩))) := by
    intro W cv kv C K hW
    obtain ⟨k0, k1, k2, k3, -⟩ := book_cells hW.book
    refine ⟨k0, k1, k2, k3, ?_, ?_⟩
    · exact own_cell (n := nr) (by have := hW.or_; rw [← hnr] at this; exact this) hpr p _ (ptrs_at _ _ p _ hR)
    · exact own_cell (n := nr) (by have := hW.om; rw [lm] at this; exact this) hpr p _ (ptrs_at _ _ p _ hM)
  have HB0 : Hid _ := hB
  have HX0 : Hid _ := bx
  obtain ⟨x0, x1, x2, x3, x4, x5, x6⟩ := boxed_heap bx
  obtain ⟨k0, k1, k2, k3, cr, cm⟩ := RC.out _ _ _ _ _ HB0.out
  have HR : Hid _ := hR
  have HM : Hid _ := hM
  have E1 : Hid _ := e1
  have E2 : Hid _ := e2
  have HE : Hid _ := hW0
  have L1 : Hid (R.length ≤ n + 1) := l1
  have LK : Hid _ := lk
  have hnr2 : nr ≤ 10000000000001 := by omega
  clear hB hb e1 e2 hcell1 hcell2 hW0 b0 hnr lm l1 lk hR hM bx
  go_enter Try.func27, Try.ntmps27
  go_wp2_with fail
  rw [← HE.out]
  go_quiet ((go_at_call 25; exact quiet_same (hP.out _)))
  have HB1 : Hid _ := HB0.out.mono (drewN_below W0 nq)
  have HX1 : Hid _ := box_mono HX0.out (drewN_below W0 nq)
  clear hP HE k0 k1 k2 k3 cr cm x0 x1 x2 x3 x4 x5 x6 HB0 HX0
  generalize W0.drewN nq = W1 at *
  have S1 : Hid (∀ W, Below W1.heap.size W1 W → W.cell? ⟨k, 0, none⟩ = some (.slice (some ⟨g1, 0, none⟩) nr c1) ∧ W.cell? ⟨g1, p, none⟩ = some (.pointer (some ⟨bp, 0, none⟩)) ∧ W.cell? ⟨w.heap.size, 0, none⟩ = some (.int .i64 7) ∧ W.cell? ⟨w.heap.size, 5, none⟩ = some (.int .i64 A) ∧ Below W1.heap.size W1 W) := by
    intro W hW
    obtain ⟨k0, -, -, -, cr, -⟩ := RC.out _ _ _ _ _ (HB1.out.mono hW)
    have hx := boxed_heap (box_mono HX1.out hW)
    exact ⟨k0, cr, hx.c0, hx.c5, hW⟩
  have HC1 : Hid (∀ W, Below W1.heap.size W1 W → Calls Try.prog 19 #[.pointer (some ⟨bp, 0, none⟩), .int .i64 A] W fun e w' => ∃ c : Nat, e = .returned (.pointer (some ⟨c, 0, none⟩)) ∧ (IsCur w' c sp.data.toList (cl A sp.size).toNat (cl A sp.size).toNat ∧ c ∉ C.map (·.1) ∧ w0.heap.size ≤ c) ∧ Below W1.heap.size W1 w') := by
    intro W hW
    have hbk := HB1.out.mono hW
    obtain ⟨n1, _, n3⟩ := fresh_bk hbk
    have hr := (hbk.con.r _ (List.mem_of_getElem? HR.out)).rope
    refine (cursor_any bp _ A W hr).mono ?_
    rintro e w' ⟨c, rfl, rfl, hc, hb⟩
    rw [← Lib.size_eq] at hc
    exact ⟨_, rfl, ⟨hc, n1, n3⟩, below_trans hW hb⟩
  have HIS : Hid (∀ W, (W.cell? ⟨k, 0, none⟩ = some (.slice (some ⟨g1, 0, none⟩) nr c1) ∧ W.cell? ⟨g1, p, none⟩ = some (.pointer (some ⟨bp, 0, none⟩)) ∧ W.cell? ⟨w.heap.size, 0, none⟩ = some (.int .i64 7) ∧ W.cell? ⟨w.heap.size, 5, none⟩ = some (.int .i64 A) ∧ Below W1.heap.size W1 W) → Below W1.heap.size W1 W) := fun W h => h.2.2.2.2
  obtain ⟨k0, cr, x0, x5, -⟩ := S1.out _ (Below.refl _ _)
  go_wp2_with fail
  go_region_held3 (fun W => W.cell? ⟨k, 0, none⟩ = some (.slice (some ⟨g1, 0, none⟩) nr c1) ∧ W.cell? ⟨g1, p, none⟩ = some (.pointer (some ⟨bp, 0, none⟩)) ∧ W.cell? ⟨w.heap.size, 0, none⟩ = some (.int .i64 7) ∧ W.cell? ⟨w.heap.size, 5, none⟩ = some (.int .i64 A) ∧ Below W1.heap.size W1 W) (first | exact S1.out _ ((Below.refl _ _).drew) | exact S1.out _ hb | assumption)
    (first
    | (go_at_call 19; refine (HC1.out _ ?_).mono ?_; exact HIS.out _ (by assumption); rintro e w2 ⟨c, rfl, hc, hb⟩))
  obtain ⟨i42, hi42, hz42, hs42, hy42⟩ := info_parts info42
  obtain ⟨i91, hi91, hz91, hs91, hy91⟩ := info_parts info91
  have HB2 : Hid _ := HB1.out.mono hb
  have HX2 : Hid _ := box_mono HX1.out hb
  have HC2 : Hid _ := hc
  have HB3 : Hid _ := HB2.out.mono (alloc_below w2 (.cells #[.pointer (some ⟨c, 0, none⟩)] 42))
  have HX3 : Hid _ := box_mono HX2.out (alloc_below w2 (.cells #[.pointer (some ⟨c, 0, none⟩)] 42))
  have HO : Hid ((w2.alloc (.cells #[.pointer (some ⟨c, 0, none⟩)] 42)).ownsRow w0.heap.size 42 1 cv C.length (ptrs (C.map (·.1)))) := HB3.out.oc
  have hbase : w0.heap.size ≤ (w2.alloc (.cells #[.pointer (some ⟨c, 0, none⟩)] 42)).heap.size := HB3.out.con.below.size
  obtain ⟨-, -, k2, -, -, -⟩ := RC.out _ _ _ _ _ HB2.out
  clear hc hb k0 cr x0 x5 S1 HC1 HIS
  go_wp2_with (at_builtin; refine wpList_append_own _ rfl (.tmp 101) (.tmp 103) 60 rfl w0.heap.size 42 i42 (.pointer none) 1 8 Try.underlying60 hi42 hz42 hs42 hy42 rfl (by decide) _ _ _ rfl HO.out ⟨w2.heap.size, 0, none⟩ 1 1 [.pointer (some ⟨c, 0, none⟩)] rfl rfl ?c1 ?c2 ?c3 ?c4 ?c5 ?_)
  case c1 => exact cell_one_new _ _ _
  case c2 => intro u hu; simp at hu; subst hu; rfl
  case c3 => unfold maxLen; omega
  case c4 => omega
  case c5 => exact hbase
  intro cv' w3 hown hgrow _
  obtain ⟨g3, c3, hv3, -⟩ := own_slice hown (by omega)
  subst hv3
  have hall := HB3.out.app2 (x := (c, sp, (cl A sp.size).toNat, (cl A sp.size).toNat)) (HC2.out.1.mono (alloc_below w2 _)) HC2.out.2.1 HC2.out.2.2 hown hgrow
  have HX4 : Hid _ := app2_box (cv' := .slice (some ⟨g3, 0, none⟩) (C.length + 1) c3) HB3.out hgrow HX3.out
  have HB4 : Hid _ := hall.2
  obtain ⟨-, -, k2', -, fz⟩ := book_cells hall.1
  clear hall hown hgrow HO hbase k2 HB3 HX3 hi42 hz42 hs42 hy42
  go_wp2_with fail
  clear k2' fz HB2 HX2
  generalize w3.setCell ⟨k, 2, none⟩ (.slice (some ⟨g3, 0, none⟩) (C.length + 1) c3) = W4 at *
  have S1 : Hid (∀ W, Below W4.heap.size W4 W → W.cell? ⟨k, 1, none⟩ = some (.slice (some ⟨g2, 0, none⟩) nr c2) ∧ W.cell? ⟨g2, p, none⟩ = some (.pointer (some ⟨mp, 0, none⟩)) ∧ W.cell? ⟨w.heap.size, 5, none⟩ = some (.int .i64 A) ∧ Below W4.heap.size W4 W) := by
    intro W hW
    obtain ⟨-, k1, -, -, -, cm⟩ := RC.out _ _ _ _ _ (HB4.out.mono hW)
    have hx := boxed_heap (box_mono HX4.out hW)
    exact ⟨k1, cm, hx.c5, hW⟩
  have HC1 : Hid (∀ W, Below W4.heap.size W4 W → Calls Try.prog 38 #[.pointer (some ⟨mp, 0, none⟩), .int .i64 A] W fun e w' => ∃ r : Nat, e = .returned (.pointer (some ⟨r, 0, none⟩)) ∧ (ReaderAt w' r sp (cl A sp.size).toNat (cl A sp.size).toNat ∧ r ∉ K.map (·.1) ∧ w0.heap.size ≤ r) ∧ Below W4.heap.size W4 w') := by
    intro W hW
    have hbk := HB4.out.mono hW
    obtain ⟨_, n1, n3⟩ := fresh_bk hbk
    have hm := hbk.con.m _ (List.mem_of_getElem? HM.out)
    refine (rcursor_any mp sp A W hm).mono ?_
    rintro e w' ⟨r, rfl, rfl, hr, hb⟩
    exact ⟨_, rfl, ⟨hr, n1, n3⟩, below_trans hW hb⟩
  have HIS : Hid (∀ W, (W.cell? ⟨k, 1, none⟩ = some (.slice (some ⟨g2, 0, none⟩) nr c2) ∧ W.cell? ⟨g2, p, none⟩ = some (.pointer (some ⟨mp, 0, none⟩)) ∧ W.cell? ⟨w.heap.size, 5, none⟩ = some (.int .i64 A) ∧ Below W4.heap.size W4 W) → Below W4.heap.size W4 W) := fun W h => h.2.2.2
  obtain ⟨k1, cm, x5, -⟩ := S1.out _ (Below.refl _ _)
  go_region_held3 (fun W => W.cell? ⟨k, 1, none⟩ = some (.slice (some ⟨g2, 0, none⟩) nr c2) ∧ W.cell? ⟨g2, p, none⟩ = some (.pointer (some ⟨mp, 0, none⟩)) ∧ W.cell? ⟨w.heap.size, 5, none⟩ = some (.int .i64 A) ∧ Below W4.heap.size W4 W) (first | exact S1.out _ ((Below.refl _ _).drew) | exact S1.out _ hb | assumption)
    (first
    | (go_at_call 38; refine (HC1.out _ ?_).mono ?_; exact HIS.out _ (by assumption); rintro e w5 ⟨r, rfl, hc, hb⟩))
  have HB5 : Hid _ := HB4.out.mono hb
  have HC5 : Hid _ := hc
  have HB6 : Hid _ := HB5.out.mono (alloc_below w5 (.cells #[.pointer (some ⟨r, 0, none⟩)] 91))
  have HO : Hid ((w5.alloc (.cells #[.pointer (some ⟨r, 0, none⟩)] 91)).ownsRow w0.heap.size 91 1 kv K.length (ptrs (K.map (·.1)))) := HB6.out.ok
  have hbase : w0.heap.size ≤ (w5.alloc (.cells #[.pointer (some ⟨r, 0, none⟩)] 91)).heap.size := HB6.out.con.below.size
  have hlk : K.length ≤ n := by rw [LK.out]; exact l2
  obtain ⟨-, -, -, k3, -, -⟩ := RC.out _ _ _ _ _ HB5.out
  clear hc hb k1 cm x5 S1 HC1 HIS
  go_wp2_with (at_builtin; refine wpList_append_own _ rfl (.tmp 121) (.tmp 123) 61 rfl w0.heap.size 91 i91 (.pointer none) 1 8 Try.underlying61 hi91 hz91 hs91 hy91 rfl (by decide) _ _ _ rfl HO.out ⟨w5.heap.size, 0, none⟩ 1 1 [.pointer (some ⟨r, 0, none⟩)] rfl rfl ?d1 ?d2 ?d3 ?d4 ?d5 ?_)
  case d1 => exact cell_one_new _ _ _
  case d2 => intro u hu; simp at hu; subst hu; rfl
  case d3 => unfold maxLen; omega
  case d4 => omega
  case d5 => exact hbase
  intro kv' w6 hown hgrow _
  obtain ⟨g4, c4, hv4, -⟩ := own_slice hown (by omega)
  subst hv4
  have hall := HB6.out.app3 (x := (r, sp, (cl A sp.size).toNat, (cl A sp.size).toNat)) (HC5.out.1.mono (alloc_below w5 _)) HC5.out.2.1 HC5.out.2.2 hown hgrow
  have HB7 : Hid _ := hall.2
  obtain ⟨-, -, -, k3', fz⟩ := book_cells hall.1
  clear hall hown hgrow HO hbase k3 HB6 hi91 hz91 hs91 hy91
  go_wp2_with fail
  go_ret
  have hl2 : (C ++ [(c, sp, (cl A sp.size).toNat, (cl A sp.size).toNat)]).length ≤ n + 1 := by rw [List.length_append]; simp only [List.length_cons, List.length_nil]; omega
  exact ⟨rfl, _, _, _, _, _, _, _, _, HB7.out, E1.out, by rw [List.map_append, List.map_append, E2.out]; rfl, by have := L1.out; omega, hl2⟩
end Go.Proofs.Ytnhmdbmcamfbiaa
