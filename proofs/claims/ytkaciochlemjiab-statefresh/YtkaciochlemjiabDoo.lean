import Derived.Test.YtkaciochlemjiabAll
namespace Go.Proofs.Ytkaciochlemjiab
open Go.RowKit Go.Maps

theorem acts_one (m : ByteArray) (s : Stt) (k n mo : Int) : acts m s [(k, n, mo)] = act s k n mo m := by
  simp only [acts]
  cases act s k n mo m <;> rfl

set_option maxRecDepth 100000 in
set_option maxHeartbeats 4000000 in
theorem doo_any {vi vq vf : Value} {s : Stt} (k n mo : Int) (m : ByteArray) (w : World) (h : Stm w vi vq vf s) (hf : s.flg < 65536) (hm : m.size ≤ 4611686018427387904) :
    Calls Try.prog 21 #[sv vi vq vf s, av k n mo, .string m] w fun e w' => As w (if s.shp then act s k n mo m else .error 65) e w' := by
  obtain ⟨a1, c1, a2, c2, a3, c3, rfl, rfl, rfl⟩ := h.form
  obtain ⟨W1, hW1⟩ : ∃ W1, W1 = ((w.alloc (.cells #[.slice a1 s.ind.length c1, .int .i64 s.pen, .slice a2 s.que.length c2, .slice a3 s.frm.length c3, .int .u16 (s.flg : Int)] 27)).alloc (.cells #[.int .i64 k, .int .i64 n, .int .i64 mo] 38)).alloc (.cells #[.slice none 0 0, .int .i64 0, .slice none 0 0, .slice none 0 0, .int .u16 0] 27) := ⟨_, rfl⟩
  have HB1 : Hid (Below w.heap.size w W1) := by rw [hW1]; exact below_trans (below_trans (bel_up _ _) (bel_up _ _)) (bel_up _ _)
  have hp : W1.heap[w.heap.size]? = some (.cells #[.slice a1 s.ind.length c1, .int .i64 s.pen, .slice a2 s.que.length c2, .slice a3 s.frm.length c3, .int .u16 (s.flg : Int)] 27 (0, 0)) := by rw [hW1, (bel_up _ _).block _ (by simp; omega), (bel_up _ _).block _ (by simp)]; exact heap_new w _
  have hq : W1.heap[w.heap.size + 1]? = some (.cells #[.int .i64 k, .int .i64 n, .int .i64 mo] 38 (0, 0)) := by
    rw [hW1, (bel_up _ _).block _ (by simp)]
    have := heap_new (w.alloc (.cells #[.slice a1 s.ind.length c1, .int .i64 s.pen, .slice a2 s.que.length c2, .slice a3 s.frm.length c3, .int .u16 (s.flg : Int)] 27)) (.cells #[.int .i64 k, .int .i64 n, .int .i64 mo] 38)
    rw [World.size_alloc] at this
    exact this
  have hr : W1.heap[w.heap.size + 2]? = some (.cells zrC 27 (0, 0)) := by
    rw [hW1]
    have := heap_new ((w.alloc (.cells #[.slice a1 s.ind.length c1, .int .i64 s.pen, .slice a2 s.que.length c2, .slice a3 s.frm.length c3, .int .u16 (s.flg : Int)] 27)).alloc (.cells #[.int .i64 k, .int .i64 n, .int .i64 mo] 38)) (.cells #[.slice none 0 0, .int .i64 0, .slice none 0 0, .slice none 0 0, .int .u16 0] 27)
    rw [World.size_alloc, World.size_alloc] at this
    exact this
  have HRB : Hid (W1.heap[w.heap.size + 2]? = some (.cells zrC 27 (0, 0))) := hr
  have p0 : W1.cell? ⟨w.heap.size, 0, none⟩ = some (.slice a1 s.ind.length c1) := by rw [Lib.cell_of_heap hp]; rfl
  have p1 : W1.cell? ⟨w.heap.size, 1, none⟩ = some (.int .i64 s.pen) := by rw [Lib.cell_of_heap hp]; rfl
  have p2 : W1.cell? ⟨w.heap.size, 2, none⟩ = some (.slice a2 s.que.length c2) := by rw [Lib.cell_of_heap hp]; rfl
  have p3 : W1.cell? ⟨w.heap.size, 3, none⟩ = some (.slice a3 s.frm.length c3) := by rw [Lib.cell_of_heap hp]; rfl
  have p4 : W1.cell? ⟨w.heap.size, 4, none⟩ = some (.int .u16 (s.flg : Int)) := by rw [Lib.cell_of_heap hp]; rfl
  have q0 : W1.cell? ⟨w.heap.size + 1, 0, none⟩ = some (.int .i64 k) := by rw [Lib.cell_of_heap hq]; rfl
  have q1 : W1.cell? ⟨w.heap.size + 1, 1, none⟩ = some (.int .i64 n) := by rw [Lib.cell_of_heap hq]; rfl
  have q2 : W1.cell? ⟨w.heap.size + 1, 2, none⟩ = some (.int .i64 mo) := by rw [Lib.cell_of_heap hq]; rfl
  have HZ : Hid (∀ W, Below W1.heap.size W1 W → W.cell? ⟨w.heap.size + 2, 0, none⟩ = some (.slice none 0 0) ∧ W.cell? ⟨w.heap.size + 2, 1, none⟩ = some (.int .i64 0) ∧ W.cell? ⟨w.heap.size + 2, 2, none⟩ = some (.slice none 0 0) ∧ W.cell? ⟨w.heap.size + 2, 3, none⟩ = some (.slice none 0 0) ∧ W.cell? ⟨w.heap.size + 2, 4, none⟩ = some (.int .u16 0) ∧ (∀ k, W.frozen? ⟨w.heap.size + 2, k, none⟩ = false) ∧ W.heap[w.heap.size + 2]? = some (.cells zrC 27 (0, 0))) := fun W hW => by
    have hq : W.heap[w.heap.size + 2]? = some (.cells zrC 27 (0, 0)) := by rw [hW.block _ (lt_of_heap HRB.out)]; exact HRB.out
    refine ⟨?_, ?_, ?_, ?_, ?_, fun k => Lib.frozen_of_heap hq k, hq⟩
    · rw [Lib.cell_of_heap hq]; rfl
    · rw [Lib.cell_of_heap hq]; rfl
    · rw [Lib.cell_of_heap hq]; rfl
    · rw [Lib.cell_of_heap hq]; rfl
    · rw [Lib.cell_of_heap hq]; rfl
  have HW : Hid (W1 = ((w.alloc (.cells #[.slice a1 s.ind.length c1, .int .i64 s.pen, .slice a2 s.que.length c2, .slice a3 s.frm.length c3, .int .u16 (s.flg : Int)] 27)).alloc (.cells #[.int .i64 k, .int .i64 n, .int .i64 mo] 38)).alloc (.cells #[.slice none 0 0, .int .i64 0, .slice none 0 0, .slice none 0 0, .int .u16 0] 27)) := hW1
  obtain ⟨W2, hW2⟩ : ∃ W2, W2 = W1.alloc (.cells #[.int .i64 k, .int .i64 n, .int .i64 mo] 38) := ⟨_, rfl⟩
  have HB2 : Hid (Below W1.heap.size W1 W2) := by rw [hW2]; exact bel_up _ _
  have HW2 : Hid (W2 = W1.alloc (.cells #[.int .i64 k, .int .i64 n, .int .i64 mo] 38)) := hW2
  have HS : Hid (Stm W2 (.slice a1 s.ind.length c1) (.slice a2 s.que.length c2) (.slice a3 s.frm.length c3) s) := (h.up HB1.out).up HB2.out
  have HF : Hid (s.flg < 65536) := hf
  have HM : Hid (m.size ≤ 4611686018427387904) := hm
  have HA : Hid (Rw W2 (.slice (some ⟨W1.heap.size, 0, none⟩) 1 1) [(k, n, mo)].length (aC [(k, n, mo)])) := by
    refine ⟨_, W1.heap.size, 0, 1, rfl, Nat.le_refl 1, fun h => (by cases h), fun _ => rfl, fun j u hu => ?_⟩
    rw [hW2, Nat.zero_add, Lib.cell_of_heap (heap_new W1 _)]
    simpa [aC] using hu
  obtain ⟨R, hR⟩ : ∃ R, (if s.shp then act s k n mo m else .error 65) = R := ⟨_, rfl⟩
  have HR : Hid ((if s.shp then acts m s [(k, n, mo)] else .error 65) = R) := by rw [acts_one]; exact hR
  rw [hR]
  clear hR h hf hm hW1 hW2 hp hq hr
  go_enter Try.func21, Try.ntmps21
  go_upto_region 1 with fail
  rw [← HW.out]
  go_wp2_with fail
  rw [← HW2.out]
  refine (all_any (l := [(k, n, mo)]) m W2 HS.out HF.out HA.out (by simp) HM.out).mono ?_
  rintro e w3 ⟨hb3, hr3⟩
  rw [HR.out] at hr3
  have HB3 : Hid (Below W1.heap.size W1 w3) := below_trans HB2.out hb3
  obtain ⟨z0, z1, z2, z3, z4, zf, zh⟩ := HZ.out _ HB3.out
  have HZH : Hid _ := zh
  clear p0 p1 p2 p3 p4 q0 q1 q2 zh
  rcases hr3 with ⟨t, vi, vq, vf, ht, rfl, ho⟩ | ⟨c, hc, rfl⟩
  · have HO : Hid (Own w.heap.size w3 vi vq vf t) := ho.low (Nat.le_trans HB1.out.size HB2.out.size)
    have HT : Hid (R = .ok t) := ht
    clear hb3 ho ht
    obtain ⟨b1, d1, b2, d2, b3, d3, rfl, rfl, rfl⟩ := HO.out.stm.form
    go_wp2_with fail
    (try simp only [Exit.inBlock, Exit.then])
    refine bodyPost_ret (v := .tuple #[sv (.slice b1 t.ind.length d1) (.slice b2 t.que.length d2) (.slice b3 t.frm.length d3) t, .int .i64 0]) ?_ rfl ⟨?_, .inl ⟨t, _, _, _, HT.out, rfl, ⟨row_five HZH.out HO.out.i (by decide), row_five HZH.out HO.out.q (by decide), row_five HZH.out HO.out.f (by decide)⟩⟩⟩
    · rw [results_cell_tmp rfl]; go_simp
    · exact bel_five (below_trans HB1.out HB3.out) (by omega)
  · have HC : Hid (R = .error c) := hc
    clear hb3 hc
    go_wp2_with fail
    (try simp only [Exit.inBlock, Exit.then])
    refine bodyPost_ret (v := .tuple #[zV, .int .i64 c]) ?_ rfl ⟨?_, .inr ⟨c, HC.out, rfl⟩⟩
    · rw [results_cell_tmp rfl]; go_simp
    · exact bel_five (below_trans HB1.out HB3.out) (by omega)

set_option maxRecDepth 100000 in
theorem start_any (w : World) : Calls Try.prog 24 #[] w fun e w' => e = .returned (.agg #[.slice none 0 0, .int .i64 (-1), .slice none 0 0, .slice none 0 0, .int .u16 0]) ∧ Below w.heap.size w w' := by
  go_enter Try.func24, Try.ntmps24
  go_wp2_with fail
  (try simp only [Exit.inBlock, Exit.then])
  refine bodyPost_ret (v := .agg #[.slice none 0 0, .int .i64 (-1), .slice none 0 0, .slice none 0 0, .int .u16 0]) ?_ rfl ⟨rfl, ?_⟩
  · rw [results_cell1 rfl]; go_simp
  · exact bel_up _ _
end Go.Proofs.Ytkaciochlemjiab
