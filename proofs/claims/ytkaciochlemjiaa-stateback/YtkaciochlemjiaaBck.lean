import Derived.Test.YtkaciochlemjiaaDco
import Derived.Test.YtkaciochlemjiaaLsh
import Derived.Test.YtkaciochlemjiaaAli
namespace Go.Proofs.Ytkaciochlemjiaa
open Go.RowKit Go.Maps

set_option maxRecDepth 100000 in
set_option maxHeartbeats 8000000 in
theorem stateBack_ff {vi vq vf ui uq uf : Value} {s t : Stt} (m : ByteArray) (w : World) (h : Stm w vi vq vf s) (k : Stm w ui uq uf t) (hf : s.flg < 65536) (hg : t.flg < 65536) (hm : m.size ≤ 140737488355328) (pa : s.shp = false) (pb : t.shp = false) :
    Calls Try.prog 5 #[sv vi vq vf s, sv ui uq uf t, .string m] w fun e w' => e = .returned (.bool true) ∧ Below w.heap.size w w' := by
  obtain ⟨a1, c1, a2, c2, a3, c3, rfl, rfl, rfl⟩ := h.form
  obtain ⟨x1, y1, x2, y2, x3, y3, rfl, rfl, rfl⟩ := k.form
  obtain ⟨W1, hW1⟩ : ∃ W1, W1 = (w.alloc (.cells #[.slice a1 s.ind.length c1, .int .i64 s.pen, .slice a2 s.que.length c2, .slice a3 s.frm.length c3, .int .u16 (s.flg : Int)] 27)).alloc (.cells #[.slice x1 t.ind.length y1, .int .i64 t.pen, .slice x2 t.que.length y2, .slice x3 t.frm.length y3, .int .u16 (t.flg : Int)] 27) := ⟨_, rfl⟩
  have B1 : Hid (Below w.heap.size w W1) := by rw [hW1]; exact below_trans (bel_up _ _) (bel_up _ _)
  have HP : Hid (W1.heap[w.heap.size]? = some (.cells #[.slice a1 s.ind.length c1, .int .i64 s.pen, .slice a2 s.que.length c2, .slice a3 s.frm.length c3, .int .u16 (s.flg : Int)] 27 (0, 0)) ∧ W1.heap[w.heap.size + 1]? = some (.cells #[.slice x1 t.ind.length y1, .int .i64 t.pen, .slice x2 t.que.length y2, .slice x3 t.frm.length y3, .int .u16 (t.flg : Int)] 27 (0, 0))) := by
    rw [hW1]
    refine ⟨?_, ?_⟩
    · rw [(bel_up _ _).block _ (by simp)]; exact heap_new w _
    · have := heap_new (w.alloc (.cells #[.slice a1 s.ind.length c1, .int .i64 s.pen, .slice a2 s.que.length c2, .slice a3 s.frm.length c3, .int .u16 (s.flg : Int)] 27)) (.cells #[.slice x1 t.ind.length y1, .int .i64 t.pen, .slice x2 t.que.length y2, .slice x3 t.frm.length y3, .int .u16 (t.flg : Int)] 27)
      rw [World.size_alloc] at this
      exact this
  have HPA : Hid (∀ W' : World, Below W1.heap.size W1 W' → W'.heap[w.heap.size]? = some (.cells #[.slice a1 s.ind.length c1, .int .i64 s.pen, .slice a2 s.que.length c2, .slice a3 s.frm.length c3, .int .u16 (s.flg : Int)] 27 (0, 0)) ∧ W'.heap[w.heap.size + 1]? = some (.cells #[.slice x1 t.ind.length y1, .int .i64 t.pen, .slice x2 t.que.length y2, .slice x3 t.frm.length y3, .int .u16 (t.flg : Int)] 27 (0, 0))) := fun W' hb => ⟨by rw [hb.block _ (lt_of_heap HP.out.1)]; exact HP.out.1, by rw [hb.block _ (lt_of_heap HP.out.2)]; exact HP.out.2⟩
  have HW : Hid (W1 = (w.alloc (.cells #[.slice a1 s.ind.length c1, .int .i64 s.pen, .slice a2 s.que.length c2, .slice a3 s.frm.length c3, .int .u16 (s.flg : Int)] 27)).alloc (.cells #[.slice x1 t.ind.length y1, .int .i64 t.pen, .slice x2 t.que.length y2, .slice x3 t.frm.length y3, .int .u16 (t.flg : Int)] 27)) := hW1
  have HS : Hid (Stm W1 (.slice a1 s.ind.length c1) (.slice a2 s.que.length c2) (.slice a3 s.frm.length c3) s) := h.up B1.out
  have HT : Hid (Stm W1 (.slice x1 t.ind.length y1) (.slice x2 t.que.length y2) (.slice x3 t.frm.length y3) t) := k.up B1.out
  have HM : Hid (m.size ≤ 140737488355328) := hm
  have HF : Hid (s.flg < 65536 ∧ t.flg < 65536 ∧ s.shp = false ∧ t.shp = false) := ⟨hf, hg, pa, pb⟩
  have EA : Hid (∀ W', Below W1.heap.size W1 W' → Calls Try.prog 10 #[sv (.slice a1 s.ind.length c1) (.slice a2 s.que.length c2) (.slice a3 s.frm.length c3) s] W' fun e w' => e = .returned (.tuple #[.string ⟨#[]⟩, .int .i64 65]) ∧ Below W'.heap.size W' w') := fun W' hb => by
    have := encode_any W' (HS.out.up hb) HF.out.1
    rw [pa, if_neg (by decide)] at this
    exact this
  have SA : Hid (∀ W', Below W1.heap.size W1 W' → Calls Try.prog 16 #[sv (.slice a1 s.ind.length c1) (.slice a2 s.que.length c2) (.slice a3 s.frm.length c3) s] W' fun e w' => e = .returned (.bool false) ∧ Below W'.heap.size W' w') := fun W' hb => by
    have := shaped_any W' (HS.out.up hb)
    rw [pa] at this
    exact this
  have EB : Hid (∀ W', Below W1.heap.size W1 W' → Calls Try.prog 10 #[sv (.slice x1 t.ind.length y1) (.slice x2 t.que.length y2) (.slice x3 t.frm.length y3) t] W' fun e w' => e = .returned (.tuple #[.string ⟨#[]⟩, .int .i64 65]) ∧ Below W'.heap.size W' w') := fun W' hb => by
    have := encode_any W' (HT.out.up hb) HF.out.2.1
    rw [pb, if_neg (by decide)] at this
    exact this
  have SB : Hid (∀ W', Below W1.heap.size W1 W' → Calls Try.prog 16 #[sv (.slice x1 t.ind.length y1) (.slice x2 t.que.length y2) (.slice x3 t.frm.length y3) t] W' fun e w' => e = .returned (.bool false) ∧ Below W'.heap.size W' w') := fun W' hb => by
    have := shaped_any W' (HT.out.up hb)
    rw [pb] at this
    exact this
  clear h k hf hg hm pa pb hW1
  go_enter Try.func5, Try.ntmps5
  go_upto_region 1 with fail
  rw [← HW.out]
  go_wp2_with fail
  refine (alive_any W1).mono ?_
  rintro e w2 ⟨rfl, hb⟩
  have B : Hid (Below W1.heap.size W1 w2) := hb
  clear hb
  obtain ⟨k0, k1, k2, k3, k4⟩ := box_cells (HPA.out w2 B.out).1
  obtain ⟨j0, j1, j2, j3, j4⟩ := box_cells (HPA.out w2 B.out).2
  go_wp2_with fail
  refine (EA.out w2 B.out).mono ?_
  rintro e w3 ⟨rfl, hb⟩
  have B' : Hid (Below W1.heap.size W1 w3) := below_trans B.out hb
  clear B hb k0 k1 k2 k3 k4 j0 j1 j2 j3 j4
  have B : Hid (Below W1.heap.size W1 w3) := B'.out
  clear B'
  obtain ⟨k0, k1, k2, k3, k4⟩ := box_cells (HPA.out w3 B.out).1
  obtain ⟨j0, j1, j2, j3, j4⟩ := box_cells (HPA.out w3 B.out).2
  go_wp2_with fail
  refine (EB.out w3 B.out).mono ?_
  rintro e w4 ⟨rfl, hb⟩
  have B' : Hid (Below W1.heap.size W1 w4) := below_trans B.out hb
  clear B hb k0 k1 k2 k3 k4 j0 j1 j2 j3 j4
  have B : Hid (Below W1.heap.size W1 w4) := B'.out
  clear B'
  obtain ⟨k0, k1, k2, k3, k4⟩ := box_cells (HPA.out w4 B.out).1
  obtain ⟨j0, j1, j2, j3, j4⟩ := box_cells (HPA.out w4 B.out).2
  go_wp2_with fail
  refine (SA.out w4 B.out).mono ?_
  rintro e w5 ⟨rfl, hb⟩
  have B' : Hid (Below W1.heap.size W1 w5) := below_trans B.out hb
  clear B hb k0 k1 k2 k3 k4 j0 j1 j2 j3 j4
  have B : Hid (Below W1.heap.size W1 w5) := B'.out
  clear B'
  obtain ⟨k0, k1, k2, k3, k4⟩ := box_cells (HPA.out w5 B.out).1
  obtain ⟨j0, j1, j2, j3, j4⟩ := box_cells (HPA.out w5 B.out).2
  go_wp2_with fail
  refine (SB.out w5 B.out).mono ?_
  rintro e w6 ⟨rfl, hb⟩
  have B' : Hid (Below W1.heap.size W1 w6) := below_trans B.out hb
  clear B hb k0 k1 k2 k3 k4 j0 j1 j2 j3 j4
  have B : Hid (Below W1.heap.size W1 w6) := B'.out
  clear B'
  obtain ⟨k0, k1, k2, k3, k4⟩ := box_cells (HPA.out w6 B.out).1
  obtain ⟨j0, j1, j2, j3, j4⟩ := box_cells (HPA.out w6 B.out).2
  go_wp2_with fail
  refine (decode_any m HM.out w6).mono ?_
  rintro e w20 ⟨hb20, hr20⟩
  have B20 : Hid (Below w.heap.size w w20) := below_trans (below_trans B1.out B.out) hb20
  clear hb20 k0 k1 k2 k3 k4 j0 j1 j2 j3 j4
  rcases hr20 with ⟨d, di, dq, df, h1, h2, h3, rfl, ho⟩ | ⟨-, rfl⟩
  · obtain ⟨e1, f1, e2, f2, e3, f3, rfl, rfl, rfl⟩ := ho.stm.form
    have H1 : Hid (d.shp = true ∧ d.flg < 65536) := ⟨h1, h2⟩
    have HMM : Hid ((⟨(enc d).toArray⟩ : ByteArray) = m) := bytes_ext (by rw [h3])
    obtain ⟨W21, hW21⟩ : ∃ W21, W21 = w20.alloc (.cells #[.slice e1 d.ind.length f1, .int .i64 d.pen, .slice e2 d.que.length f2, .slice e3 d.frm.length f3, .int .u16 (d.flg : Int)] 27) := ⟨_, rfl⟩
    have HW21 : Hid (W21 = w20.alloc (.cells #[.slice e1 d.ind.length f1, .int .i64 d.pen, .slice e2 d.que.length f2, .slice e3 d.frm.length f3, .int .u16 (d.flg : Int)] 27)) := hW21
    have B21 : Hid (Below w.heap.size w W21) := by rw [hW21]; exact below_trans B20.out (bel_up _ _)
    have HP21 : Hid (W21.heap[w20.heap.size]? = some (.cells #[.slice e1 d.ind.length f1, .int .i64 d.pen, .slice e2 d.que.length f2, .slice e3 d.frm.length f3, .int .u16 (d.flg : Int)] 27 (0, 0))) := by rw [hW21]; exact heap_new w20 _
    have HM21 : Hid (Stm W21 (.slice e1 d.ind.length f1) (.slice e2 d.que.length f2) (.slice e3 d.frm.length f3) d) := by rw [hW21]; exact ho.stm.up (bel_up _ _)
    clear hW21 h1 h2 h3 ho
    go_upto_region 23 with fail
    rw [← HW21.out]
    obtain ⟨k0, k1, k2, k3, k4⟩ := box_cells HP21.out
    go_wp2_with fail
    refine (encode_any W21 HM21.out H1.out.2).mono ?_
    rintro e w22 ⟨rfl, hb22⟩
    rw [H1.out.1, if_pos rfl, HMM.out]
    have B22 : Hid (Below w.heap.size w w22) := below_trans B21.out hb22
    clear hb22 k0 k1 k2 k3 k4
    go_wp2_with fail
    go_ret
    exact ⟨rfl, B22.out⟩
  · obtain ⟨W21, hW21⟩ : ∃ W21, W21 = w20.alloc (.cells #[.slice none 0 0, .int .i64 0, .slice none 0 0, .slice none 0 0, .int .u16 0] 27) := ⟨_, rfl⟩
    have HW21 : Hid (W21 = w20.alloc (.cells #[.slice none 0 0, .int .i64 0, .slice none 0 0, .slice none 0 0, .int .u16 0] 27)) := hW21
    have B21 : Hid (Below w.heap.size w W21) := by rw [hW21]; exact below_trans B20.out (bel_up _ _)
    have HP21 : Hid (W21.heap[w20.heap.size]? = some (.cells #[.slice none 0 0, .int .i64 0, .slice none 0 0, .slice none 0 0, .int .u16 0] 27 (0, 0))) := by rw [hW21]; exact heap_new w20 _
    clear hW21
    go_upto_region 21 with fail
    rw [← HW21.out]
    obtain ⟨k0, k1, k2, k3, k4⟩ := box_cells HP21.out
    go_wp2_with fail
    refine (rsame_zero W21).mono ?_
    rintro e w22 ⟨rfl, hb22⟩
    have B22 : Hid (Below w.heap.size w w22) := below_trans B21.out hb22
    clear hb22 k0 k1 k2 k3 k4
    go_wp2_with fail
    go_ret
    exact ⟨rfl, B22.out⟩

set_option maxRecDepth 100000 in
set_option maxHeartbeats 8000000 in
theorem stateBack_ft {vi vq vf ui uq uf : Value} {s t : Stt} (m : ByteArray) (w : World) (h : Stm w vi vq vf s) (k : Stm w ui uq uf t) (hf : s.flg < 65536) (hg : t.flg < 65536) (hm : m.size ≤ 140737488355328) (pa : s.shp = false) (pb : t.shp = true) :
    Calls Try.prog 5 #[sv vi vq vf s, sv ui uq uf t, .string m] w fun e w' => e = .returned (.bool true) ∧ Below w.heap.size w w' := by
  obtain ⟨a1, c1, a2, c2, a3, c3, rfl, rfl, rfl⟩ := h.form
  obtain ⟨x1, y1, x2, y2, x3, y3, rfl, rfl, rfl⟩ := k.form
  obtain ⟨W1, hW1⟩ : ∃ W1, W1 = (w.alloc (.cells #[.slice a1 s.ind.length c1, .int .i64 s.pen, .slice a2 s.que.length c2, .slice a3 s.frm.length c3, .int .u16 (s.flg : Int)] 27)).alloc (.cells #[.slice x1 t.ind.length y1, .int .i64 t.pen, .slice x2 t.que.length y2, .slice x3 t.frm.length y3, .int .u16 (t.flg : Int)] 27) := ⟨_, rfl⟩
  have B1 : Hid (Below w.heap.size w W1) := by rw [hW1]; exact below_trans (bel_up _ _) (bel_up _ _)
  have HP : Hid (W1.heap[w.heap.size]? = some (.cells #[.slice a1 s.ind.length c1, .int .i64 s.pen, .slice a2 s.que.length c2, .slice a3 s.frm.length c3, .int .u16 (s.flg : Int)] 27 (0, 0)) ∧ W1.heap[w.heap.size + 1]? = some (.cells #[.slice x1 t.ind.length y1, .int .i64 t.pen, .slice x2 t.que.length y2, .slice x3 t.frm.length y3, .int .u16 (t.flg : Int)] 27 (0, 0))) := by
    rw [hW1]
    refine ⟨?_, ?_⟩
    · rw [(bel_up _ _).block _ (by simp)]; exact heap_new w _
    · have := heap_new (w.alloc (.cells #[.slice a1 s.ind.length c1, .int .i64 s.pen, .slice a2 s.que.length c2, .slice a3 s.frm.length c3, .int .u16 (s.flg : Int)] 27)) (.cells #[.slice x1 t.ind.length y1, .int .i64 t.pen, .slice x2 t.que.length y2, .slice x3 t.frm.length y3, .int .u16 (t.flg : Int)] 27)
      rw [World.size_alloc] at this
      exact this
  have HPA : Hid (∀ W' : World, Below W1.heap.size W1 W' → W'.heap[w.heap.size]? = some (.cells #[.slice a1 s.ind.length c1, .int .i64 s.pen, .slice a2 s.que.length c2, .slice a3 s.frm.length c3, .int .u16 (s.flg : Int)] 27 (0, 0)) ∧ W'.heap[w.heap.size + 1]? = some (.cells #[.slice x1 t.ind.length y1, .int .i64 t.pen, .slice x2 t.que.length y2, .slice x3 t.frm.length y3, .int .u16 (t.flg : Int)] 27 (0, 0))) := fun W' hb => ⟨by rw [hb.block _ (lt_of_heap HP.out.1)]; exact HP.out.1, by rw [hb.block _ (lt_of_heap HP.out.2)]; exact HP.out.2⟩
  have HW : Hid (W1 = (w.alloc (.cells #[.slice a1 s.ind.length c1, .int .i64 s.pen, .slice a2 s.que.length c2, .slice a3 s.frm.length c3, .int .u16 (s.flg : Int)] 27)).alloc (.cells #[.slice x1 t.ind.length y1, .int .i64 t.pen, .slice x2 t.que.length y2, .slice x3 t.frm.length y3, .int .u16 (t.flg : Int)] 27)) := hW1
  have HS : Hid (Stm W1 (.slice a1 s.ind.length c1) (.slice a2 s.que.length c2) (.slice a3 s.frm.length c3) s) := h.up B1.out
  have HT : Hid (Stm W1 (.slice x1 t.ind.length y1) (.slice x2 t.que.length y2) (.slice x3 t.frm.length y3) t) := k.up B1.out
  have HM : Hid (m.size ≤ 140737488355328) := hm
  have HF : Hid (s.flg < 65536 ∧ t.flg < 65536 ∧ s.shp = false ∧ t.shp = true) := ⟨hf, hg, pa, pb⟩
  have EA : Hid (∀ W', Below W1.heap.size W1 W' → Calls Try.prog 10 #[sv (.slice a1 s.ind.length c1) (.slice a2 s.que.length c2) (.slice a3 s.frm.length c3) s] W' fun e w' => e = .returned (.tuple #[.string ⟨#[]⟩, .int .i64 65]) ∧ Below W'.heap.size W' w') := fun W' hb => by
    have := encode_any W' (HS.out.up hb) HF.out.1
    rw [pa, if_neg (by decide)] at this
    exact this
  have SA : Hid (∀ W', Below W1.heap.size W1 W' → Calls Try.prog 16 #[sv (.slice a1 s.ind.length c1) (.slice a2 s.que.length c2) (.slice a3 s.frm.length c3) s] W' fun e w' => e = .returned (.bool false) ∧ Below W'.heap.size W' w') := fun W' hb => by
    have := shaped_any W' (HS.out.up hb)
    rw [pa] at this
    exact this
  obtain ⟨y, hy⟩ : ∃ z : ByteArray, z = ⟨(enc t).toArray⟩ := ⟨_, rfl⟩
  have HXy : Hid (y.data.toList = enc t) := by rw [hy]; exact rfl
  have EB : Hid (∀ W', Below W1.heap.size W1 W' → Calls Try.prog 10 #[sv (.slice x1 t.ind.length y1) (.slice x2 t.que.length y2) (.slice x3 t.frm.length y3) t] W' fun e w' => e = .returned (.tuple #[.string y, .int .i64 0]) ∧ Below W'.heap.size W' w') := fun W' hb => by
    have := encode_any W' (HT.out.up hb) HF.out.2.1
    rw [pb, if_pos rfl, ← hy] at this
    exact this
  have HZy : Hid (y.size ≤ 140737488355328) := by
    have h1 := pre_len t (Lim.of pb HF.out.2.1) 5
    rw [pre_five, ← HXy.out, Array.length_toList] at h1
    show y.data.size ≤ _
    omega
  clear hy
  have SB : Hid (∀ W', Below W1.heap.size W1 W' → Calls Try.prog 16 #[sv (.slice x1 t.ind.length y1) (.slice x2 t.que.length y2) (.slice x3 t.frm.length y3) t] W' fun e w' => e = .returned (.bool true) ∧ Below W'.heap.size W' w') := fun W' hb => by
    have := shaped_any W' (HT.out.up hb)
    rw [pb] at this
    exact this
  clear h k hf hg hm pa pb hW1
  go_enter Try.func5, Try.ntmps5
  go_upto_region 1 with fail
  rw [← HW.out]
  go_wp2_with fail
  refine (alive_any W1).mono ?_
  rintro e w2 ⟨rfl, hb⟩
  have B : Hid (Below W1.heap.size W1 w2) := hb
  clear hb
  obtain ⟨k0, k1, k2, k3, k4⟩ := box_cells (HPA.out w2 B.out).1
  obtain ⟨j0, j1, j2, j3, j4⟩ := box_cells (HPA.out w2 B.out).2
  go_wp2_with fail
  refine (EA.out w2 B.out).mono ?_
  rintro e w3 ⟨rfl, hb⟩
  have B' : Hid (Below W1.heap.size W1 w3) := below_trans B.out hb
  clear B hb k0 k1 k2 k3 k4 j0 j1 j2 j3 j4
  have B : Hid (Below W1.heap.size W1 w3) := B'.out
  clear B'
  obtain ⟨k0, k1, k2, k3, k4⟩ := box_cells (HPA.out w3 B.out).1
  obtain ⟨j0, j1, j2, j3, j4⟩ := box_cells (HPA.out w3 B.out).2
  go_wp2_with fail
  refine (EB.out w3 B.out).mono ?_
  rintro e w4 ⟨rfl, hb⟩
  have B' : Hid (Below W1.heap.size W1 w4) := below_trans B.out hb
  clear B hb k0 k1 k2 k3 k4 j0 j1 j2 j3 j4
  have B : Hid (Below W1.heap.size W1 w4) := B'.out
  clear B'
  obtain ⟨k0, k1, k2, k3, k4⟩ := box_cells (HPA.out w4 B.out).1
  obtain ⟨j0, j1, j2, j3, j4⟩ := box_cells (HPA.out w4 B.out).2
  go_wp2_with fail
  refine (SA.out w4 B.out).mono ?_
  rintro e w5 ⟨rfl, hb⟩
  have B' : Hid (Below W1.heap.size W1 w5) := below_trans B.out hb
  clear B hb k0 k1 k2 k3 k4 j0 j1 j2 j3 j4
  have B : Hid (Below W1.heap.size W1 w5) := B'.out
  clear B'
  obtain ⟨k0, k1, k2, k3, k4⟩ := box_cells (HPA.out w5 B.out).1
  obtain ⟨j0, j1, j2, j3, j4⟩ := box_cells (HPA.out w5 B.out).2
  go_wp2_with fail
  refine (SB.out w5 B.out).mono ?_
  rintro e w6 ⟨rfl, hb⟩
  have B' : Hid (Below W1.heap.size W1 w6) := below_trans B.out hb
  clear B hb k0 k1 k2 k3 k4 j0 j1 j2 j3 j4
  have B : Hid (Below W1.heap.size W1 w6) := B'.out
  clear B'
  obtain ⟨k0, k1, k2, k3, k4⟩ := box_cells (HPA.out w6 B.out).1
  obtain ⟨j0, j1, j2, j3, j4⟩ := box_cells (HPA.out w6 B.out).2
  go_wp2_with fail
  refine (decode_any m HM.out w6).mono ?_
  rintro e w20 ⟨hb20, hr20⟩
  have B20 : Hid (Below w.heap.size w w20) := below_trans (below_trans B1.out B.out) hb20
  clear hb20 k0 k1 k2 k3 k4 j0 j1 j2 j3 j4
  rcases hr20 with ⟨d, di, dq, df, h1, h2, h3, rfl, ho⟩ | ⟨-, rfl⟩
  · obtain ⟨e1, f1, e2, f2, e3, f3, rfl, rfl, rfl⟩ := ho.stm.form
    have H1 : Hid (d.shp = true ∧ d.flg < 65536) := ⟨h1, h2⟩
    have HMM : Hid ((⟨(enc d).toArray⟩ : ByteArray) = m) := bytes_ext (by rw [h3])
    obtain ⟨W21, hW21⟩ : ∃ W21, W21 = w20.alloc (.cells #[.slice e1 d.ind.length f1, .int .i64 d.pen, .slice e2 d.que.length f2, .slice e3 d.frm.length f3, .int .u16 (d.flg : Int)] 27) := ⟨_, rfl⟩
    have HW21 : Hid (W21 = w20.alloc (.cells #[.slice e1 d.ind.length f1, .int .i64 d.pen, .slice e2 d.que.length f2, .slice e3 d.frm.length f3, .int .u16 (d.flg : Int)] 27)) := hW21
    have B21 : Hid (Below w.heap.size w W21) := by rw [hW21]; exact below_trans B20.out (bel_up _ _)
    have HP21 : Hid (W21.heap[w20.heap.size]? = some (.cells #[.slice e1 d.ind.length f1, .int .i64 d.pen, .slice e2 d.que.length f2, .slice e3 d.frm.length f3, .int .u16 (d.flg : Int)] 27 (0, 0))) := by rw [hW21]; exact heap_new w20 _
    have HM21 : Hid (Stm W21 (.slice e1 d.ind.length f1) (.slice e2 d.que.length f2) (.slice e3 d.frm.length f3) d) := by rw [hW21]; exact ho.stm.up (bel_up _ _)
    clear hW21 h1 h2 h3 ho
    go_upto_region 23 with fail
    rw [← HW21.out]
    obtain ⟨k0, k1, k2, k3, k4⟩ := box_cells HP21.out
    go_wp2_with fail
    refine (encode_any W21 HM21.out H1.out.2).mono ?_
    rintro e w22 ⟨rfl, hb22⟩
    rw [H1.out.1, if_pos rfl, HMM.out]
    have B22 : Hid (Below w.heap.size w w22) := below_trans B21.out hb22
    clear hb22 k0 k1 k2 k3 k4
    go_wp2_with fail
    go_ret
    exact ⟨rfl, B22.out⟩
  · obtain ⟨W21, hW21⟩ : ∃ W21, W21 = w20.alloc (.cells #[.slice none 0 0, .int .i64 0, .slice none 0 0, .slice none 0 0, .int .u16 0] 27) := ⟨_, rfl⟩
    have HW21 : Hid (W21 = w20.alloc (.cells #[.slice none 0 0, .int .i64 0, .slice none 0 0, .slice none 0 0, .int .u16 0] 27)) := hW21
    have B21 : Hid (Below w.heap.size w W21) := by rw [hW21]; exact below_trans B20.out (bel_up _ _)
    have HP21 : Hid (W21.heap[w20.heap.size]? = some (.cells #[.slice none 0 0, .int .i64 0, .slice none 0 0, .slice none 0 0, .int .u16 0] 27 (0, 0))) := by rw [hW21]; exact heap_new w20 _
    clear hW21
    go_upto_region 21 with fail
    rw [← HW21.out]
    obtain ⟨k0, k1, k2, k3, k4⟩ := box_cells HP21.out
    go_wp2_with fail
    refine (rsame_zero W21).mono ?_
    rintro e w22 ⟨rfl, hb22⟩
    have B22 : Hid (Below w.heap.size w w22) := below_trans B21.out hb22
    clear hb22 k0 k1 k2 k3 k4
    go_wp2_with fail
    go_ret
    exact ⟨rfl, B22.out⟩

set_option maxRecDepth 100000 in
set_option maxHeartbeats 8000000 in
theorem stateBack_tf {vi vq vf ui uq uf : Value} {s t : Stt} (m : ByteArray) (w : World) (h : Stm w vi vq vf s) (k : Stm w ui uq uf t) (hf : s.flg < 65536) (hg : t.flg < 65536) (hm : m.size ≤ 140737488355328) (pa : s.shp = true) (pb : t.shp = false) :
    Calls Try.prog 5 #[sv vi vq vf s, sv ui uq uf t, .string m] w fun e w' => e = .returned (.bool true) ∧ Below w.heap.size w w' := by
  obtain ⟨a1, c1, a2, c2, a3, c3, rfl, rfl, rfl⟩ := h.form
  obtain ⟨x1, y1, x2, y2, x3, y3, rfl, rfl, rfl⟩ := k.form
  obtain ⟨W1, hW1⟩ : ∃ W1, W1 = (w.alloc (.cells #[.slice a1 s.ind.length c1, .int .i64 s.pen, .slice a2 s.que.length c2, .slice a3 s.frm.length c3, .int .u16 (s.flg : Int)] 27)).alloc (.cells #[.slice x1 t.ind.length y1, .int .i64 t.pen, .slice x2 t.que.length y2, .slice x3 t.frm.length y3, .int .u16 (t.flg : Int)] 27) := ⟨_, rfl⟩
  have B1 : Hid (Below w.heap.size w W1) := by rw [hW1]; exact below_trans (bel_up _ _) (bel_up _ _)
  have HP : Hid (W1.heap[w.heap.size]? = some (.cells #[.slice a1 s.ind.length c1, .int .i64 s.pen, .slice a2 s.que.length c2, .slice a3 s.frm.length c3, .int .u16 (s.flg : Int)] 27 (0, 0)) ∧ W1.heap[w.heap.size + 1]? = some (.cells #[.slice x1 t.ind.length y1, .int .i64 t.pen, .slice x2 t.que.length y2, .slice x3 t.frm.length y3, .int .u16 (t.flg : Int)] 27 (0, 0))) := by
    rw [hW1]
    refine ⟨?_, ?_⟩
    · rw [(bel_up _ _).block _ (by simp)]; exact heap_new w _
    · have := heap_new (w.alloc (.cells #[.slice a1 s.ind.length c1, .int .i64 s.pen, .slice a2 s.que.length c2, .slice a3 s.frm.length c3, .int .u16 (s.flg : Int)] 27)) (.cells #[.slice x1 t.ind.length y1, .int .i64 t.pen, .slice x2 t.que.length y2, .slice x3 t.frm.length y3, .int .u16 (t.flg : Int)] 27)
      rw [World.size_alloc] at this
      exact this
  have HPA : Hid (∀ W' : World, Below W1.heap.size W1 W' → W'.heap[w.heap.size]? = some (.cells #[.slice a1 s.ind.length c1, .int .i64 s.pen, .slice a2 s.que.length c2, .slice a3 s.frm.length c3, .int .u16 (s.flg : Int)] 27 (0, 0)) ∧ W'.heap[w.heap.size + 1]? = some (.cells #[.slice x1 t.ind.length y1, .int .i64 t.pen, .slice x2 t.que.length y2, .slice x3 t.frm.length y3, .int .u16 (t.flg : Int)] 27 (0, 0))) := fun W' hb => ⟨by rw [hb.block _ (lt_of_heap HP.out.1)]; exact HP.out.1, by rw [hb.block _ (lt_of_heap HP.out.2)]; exact HP.out.2⟩
  have HW : Hid (W1 = (w.alloc (.cells #[.slice a1 s.ind.length c1, .int .i64 s.pen, .slice a2 s.que.length c2, .slice a3 s.frm.length c3, .int .u16 (s.flg : Int)] 27)).alloc (.cells #[.slice x1 t.ind.length y1, .int .i64 t.pen, .slice x2 t.que.length y2, .slice x3 t.frm.length y3, .int .u16 (t.flg : Int)] 27)) := hW1
  have HS : Hid (Stm W1 (.slice a1 s.ind.length c1) (.slice a2 s.que.length c2) (.slice a3 s.frm.length c3) s) := h.up B1.out
  have HT : Hid (Stm W1 (.slice x1 t.ind.length y1) (.slice x2 t.que.length y2) (.slice x3 t.frm.length y3) t) := k.up B1.out
  have HM : Hid (m.size ≤ 140737488355328) := hm
  have HF : Hid (s.flg < 65536 ∧ t.flg < 65536 ∧ s.shp = true ∧ t.shp = false) := ⟨hf, hg, pa, pb⟩
  obtain ⟨x, hx⟩ : ∃ z : ByteArray, z = ⟨(enc s).toArray⟩ := ⟨_, rfl⟩
  have HXx : Hid (x.data.toList = enc s) := by rw [hx]; exact rfl
  have EA : Hid (∀ W', Below W1.heap.size W1 W' → Calls Try.prog 10 #[sv (.slice a1 s.ind.length c1) (.slice a2 s.que.length c2) (.slice a3 s.frm.length c3) s] W' fun e w' => e = .returned (.tuple #[.string x, .int .i64 0]) ∧ Below W'.heap.size W' w') := fun W' hb => by
    have := encode_any W' (HS.out.up hb) HF.out.1
    rw [pa, if_pos rfl, ← hx] at this
    exact this
  have HZx : Hid (x.size ≤ 140737488355328) := by
    have h1 := pre_len s (Lim.of pa HF.out.1) 5
    rw [pre_five, ← HXx.out, Array.length_toList] at h1
    show x.data.size ≤ _
    omega
  clear hx
  have SA : Hid (∀ W', Below W1.heap.size W1 W' → Calls Try.prog 16 #[sv (.slice a1 s.ind.length c1) (.slice a2 s.que.length c2) (.slice a3 s.frm.length c3) s] W' fun e w' => e = .returned (.bool true) ∧ Below W'.heap.size W' w') := fun W' hb => by
    have := shaped_any W' (HS.out.up hb)
    rw [pa] at this
    exact this
  have EB : Hid (∀ W', Below W1.heap.size W1 W' → Calls Try.prog 10 #[sv (.slice x1 t.ind.length y1) (.slice x2 t.que.length y2) (.slice x3 t.frm.length y3) t] W' fun e w' => e = .returned (.tuple #[.string ⟨#[]⟩, .int .i64 65]) ∧ Below W'.heap.size W' w') := fun W' hb => by
    have := encode_any W' (HT.out.up hb) HF.out.2.1
    rw [pb, if_neg (by decide)] at this
    exact this
  have SB : Hid (∀ W', Below W1.heap.size W1 W' → Calls Try.prog 16 #[sv (.slice x1 t.ind.length y1) (.slice x2 t.que.length y2) (.slice x3 t.frm.length y3) t] W' fun e w' => e = .returned (.bool false) ∧ Below W'.heap.size W' w') := fun W' hb => by
    have := shaped_any W' (HT.out.up hb)
    rw [pb] at this
    exact this
  clear h k hf hg hm pa pb hW1
  go_enter Try.func5, Try.ntmps5
  go_upto_region 1 with fail
  rw [← HW.out]
  go_wp2_with fail
  refine (alive_any W1).mono ?_
  rintro e w2 ⟨rfl, hb⟩
  have B : Hid (Below W1.heap.size W1 w2) := hb
  clear hb
  obtain ⟨k0, k1, k2, k3, k4⟩ := box_cells (HPA.out w2 B.out).1
  obtain ⟨j0, j1, j2, j3, j4⟩ := box_cells (HPA.out w2 B.out).2
  go_wp2_with fail
  refine (EA.out w2 B.out).mono ?_
  rintro e w3 ⟨rfl, hb⟩
  have B' : Hid (Below W1.heap.size W1 w3) := below_trans B.out hb
  clear B hb k0 k1 k2 k3 k4 j0 j1 j2 j3 j4
  have B : Hid (Below W1.heap.size W1 w3) := B'.out
  clear B'
  obtain ⟨k0, k1, k2, k3, k4⟩ := box_cells (HPA.out w3 B.out).1
  obtain ⟨j0, j1, j2, j3, j4⟩ := box_cells (HPA.out w3 B.out).2
  go_wp2_with fail
  refine (EB.out w3 B.out).mono ?_
  rintro e w4 ⟨rfl, hb⟩
  have B' : Hid (Below W1.heap.size W1 w4) := below_trans B.out hb
  clear B hb k0 k1 k2 k3 k4 j0 j1 j2 j3 j4
  have B : Hid (Below W1.heap.size W1 w4) := B'.out
  clear B'
  obtain ⟨k0, k1, k2, k3, k4⟩ := box_cells (HPA.out w4 B.out).1
  obtain ⟨j0, j1, j2, j3, j4⟩ := box_cells (HPA.out w4 B.out).2
  go_wp2_with fail
  refine (SA.out w4 B.out).mono ?_
  rintro e w5 ⟨rfl, hb⟩
  have B' : Hid (Below W1.heap.size W1 w5) := below_trans B.out hb
  clear B hb k0 k1 k2 k3 k4 j0 j1 j2 j3 j4
  have B : Hid (Below W1.heap.size W1 w5) := B'.out
  clear B'
  obtain ⟨k0, k1, k2, k3, k4⟩ := box_cells (HPA.out w5 B.out).1
  obtain ⟨j0, j1, j2, j3, j4⟩ := box_cells (HPA.out w5 B.out).2
  go_wp2_with fail
  refine (SB.out w5 B.out).mono ?_
  rintro e w6 ⟨rfl, hb⟩
  have B' : Hid (Below W1.heap.size W1 w6) := below_trans B.out hb
  clear B hb k0 k1 k2 k3 k4 j0 j1 j2 j3 j4
  have B : Hid (Below W1.heap.size W1 w6) := B'.out
  clear B'
  obtain ⟨k0, k1, k2, k3, k4⟩ := box_cells (HPA.out w6 B.out).1
  obtain ⟨j0, j1, j2, j3, j4⟩ := box_cells (HPA.out w6 B.out).2
  go_wp2_with fail
  refine (decode_any x HZx.out w6).mono ?_
  rintro e w7 ⟨hb, hr7⟩
  rcases hr7 with ⟨d, di, dq, df, h1, h2, h3, rfl, ho⟩ | ⟨hno, rfl⟩
  rotate_left
  · exact absurd HXx.out (hno s HF.out.2.2.1 HF.out.1)
  have hsd : s = d := (enc_pfx (x := []) (y := []) HF.out.2.2.1 HF.out.1 h1 h2 (by rw [List.append_nil, List.append_nil, ← HXx.out, h3])).1
  subst hsd
  clear h1 h2 h3
  obtain ⟨e1, f1, e2, f2, e3, f3, rfl, rfl, rfl⟩ := ho.stm.form
  obtain ⟨w8, hw8⟩ : ∃ w8, w8 = w7.alloc (.cells #[.slice e1 s.ind.length f1, .int .i64 s.pen, .slice e2 s.que.length f2, .slice e3 s.frm.length f3, .int .u16 (s.flg : Int)] 27) := ⟨_, rfl⟩
  have HW8 : Hid (w8 = w7.alloc (.cells #[.slice e1 s.ind.length f1, .int .i64 s.pen, .slice e2 s.que.length f2, .slice e3 s.frm.length f3, .int .u16 (s.flg : Int)] 27)) := hw8
  have HP8 : Hid (w8.heap[w7.heap.size]? = some (.cells #[.slice e1 s.ind.length f1, .int .i64 s.pen, .slice e2 s.que.length f2, .slice e3 s.frm.length f3, .int .u16 (s.flg : Int)] 27 (0, 0))) := by rw [hw8]; exact heap_new w7 _
  have HM8 : Hid (Stm w8 (.slice e1 s.ind.length f1) (.slice e2 s.que.length f2) (.slice e3 s.frm.length f3) s) := by rw [hw8]; exact ho.stm.up (bel_up _ _)
  have B' : Hid (Below W1.heap.size W1 w8) := by rw [hw8]; exact below_trans (below_trans B.out hb) (bel_up _ _)
  clear B hb k0 k1 k2 k3 k4 j0 j1 j2 j3 j4 hw8 ho
  have B : Hid (Below W1.heap.size W1 w8) := B'.out
  clear B'
  go_upto_region 11 with fail
  rw [← HW8.out]
  obtain ⟨k0, k1, k2, k3, k4⟩ := box_cells (HPA.out w8 B.out).1
  obtain ⟨j0, j1, j2, j3, j4⟩ := box_cells (HPA.out w8 B.out).2
  obtain ⟨i0, i1, i2, i3, i4⟩ := box_cells HP8.out
  have HLS : Hid (s.ind.length ≤ 4611686018427387904 ∧ s.que.length ≤ 4611686018427387904 ∧ s.frm.length ≤ 4611686018427387904) := by
    have hl := Lim.of HF.out.2.2.1 HF.out.1
    have := hl.i; have := hl.q; have := hl.f
    exact ⟨by omega, by omega, by omega⟩
  go_wp2_with fail
  refine (rsame_any w8 HM8.out (HS.out.up B.out) HLS.out.1 HLS.out.2.1 HLS.out.2.2).mono ?_
  rintro e w9 ⟨rfl, hb⟩
  clear i0 i1 i2 i3 i4
  rw [decide_eq_true rfl]
  have B' : Hid (Below W1.heap.size W1 w9) := below_trans B.out hb
  clear B hb k0 k1 k2 k3 k4 j0 j1 j2 j3 j4
  have B : Hid (Below W1.heap.size W1 w9) := B'.out
  clear B'
  obtain ⟨k0, k1, k2, k3, k4⟩ := box_cells (HPA.out w9 B.out).1
  obtain ⟨j0, j1, j2, j3, j4⟩ := box_cells (HPA.out w9 B.out).2
  go_wp2_with fail
  refine (decode_any m HM.out w9).mono ?_
  rintro e w20 ⟨hb20, hr20⟩
  have B20 : Hid (Below w.heap.size w w20) := below_trans (below_trans B1.out B.out) hb20
  clear hb20 k0 k1 k2 k3 k4 j0 j1 j2 j3 j4
  rcases hr20 with ⟨d, di, dq, df, h1, h2, h3, rfl, ho⟩ | ⟨-, rfl⟩
  · obtain ⟨e1, f1, e2, f2, e3, f3, rfl, rfl, rfl⟩ := ho.stm.form
    have H1 : Hid (d.shp = true ∧ d.flg < 65536) := ⟨h1, h2⟩
    have HMM : Hid ((⟨(enc d).toArray⟩ : ByteArray) = m) := bytes_ext (by rw [h3])
    obtain ⟨W21, hW21⟩ : ∃ W21, W21 = w20.alloc (.cells #[.slice e1 d.ind.length f1, .int .i64 d.pen, .slice e2 d.que.length f2, .slice e3 d.frm.length f3, .int .u16 (d.flg : Int)] 27) := ⟨_, rfl⟩
    have HW21 : Hid (W21 = w20.alloc (.cells #[.slice e1 d.ind.length f1, .int .i64 d.pen, .slice e2 d.que.length f2, .slice e3 d.frm.length f3, .int .u16 (d.flg : Int)] 27)) := hW21
    have B21 : Hid (Below w.heap.size w W21) := by rw [hW21]; exact below_trans B20.out (bel_up _ _)
    have HP21 : Hid (W21.heap[w20.heap.size]? = some (.cells #[.slice e1 d.ind.length f1, .int .i64 d.pen, .slice e2 d.que.length f2, .slice e3 d.frm.length f3, .int .u16 (d.flg : Int)] 27 (0, 0))) := by rw [hW21]; exact heap_new w20 _
    have HM21 : Hid (Stm W21 (.slice e1 d.ind.length f1) (.slice e2 d.que.length f2) (.slice e3 d.frm.length f3) d) := by rw [hW21]; exact ho.stm.up (bel_up _ _)
    clear hW21 h1 h2 h3 ho
    go_upto_region 23 with fail
    rw [← HW21.out]
    obtain ⟨k0, k1, k2, k3, k4⟩ := box_cells HP21.out
    go_wp2_with fail
    refine (encode_any W21 HM21.out H1.out.2).mono ?_
    rintro e w22 ⟨rfl, hb22⟩
    rw [H1.out.1, if_pos rfl, HMM.out]
    have B22 : Hid (Below w.heap.size w w22) := below_trans B21.out hb22
    clear hb22 k0 k1 k2 k3 k4
    go_wp2_with fail
    go_ret
    exact ⟨rfl, B22.out⟩
  · obtain ⟨W21, hW21⟩ : ∃ W21, W21 = w20.alloc (.cells #[.slice none 0 0, .int .i64 0, .slice none 0 0, .slice none 0 0, .int .u16 0] 27) := ⟨_, rfl⟩
    have HW21 : Hid (W21 = w20.alloc (.cells #[.slice none 0 0, .int .i64 0, .slice none 0 0, .slice none 0 0, .int .u16 0] 27)) := hW21
    have B21 : Hid (Below w.heap.size w W21) := by rw [hW21]; exact below_trans B20.out (bel_up _ _)
    have HP21 : Hid (W21.heap[w20.heap.size]? = some (.cells #[.slice none 0 0, .int .i64 0, .slice none 0 0, .slice none 0 0, .int .u16 0] 27 (0, 0))) := by rw [hW21]; exact heap_new w20 _
    clear hW21
    go_upto_region 21 with fail
    rw [← HW21.out]
    obtain ⟨k0, k1, k2, k3, k4⟩ := box_cells HP21.out
    go_wp2_with fail
    refine (rsame_zero W21).mono ?_
    rintro e w22 ⟨rfl, hb22⟩
    have B22 : Hid (Below w.heap.size w w22) := below_trans B21.out hb22
    clear hb22 k0 k1 k2 k3 k4
    go_wp2_with fail
    go_ret
    exact ⟨rfl, B22.out⟩

set_option maxRecDepth 100000 in
set_option maxHeartbeats 8000000 in
theorem stateBack_tt {vi vq vf ui uq uf : Value} {s t : Stt} (m : ByteArray) (w : World) (h : Stm w vi vq vf s) (k : Stm w ui uq uf t) (hf : s.flg < 65536) (hg : t.flg < 65536) (hm : m.size ≤ 140737488355328) (pa : s.shp = true) (pb : t.shp = true) :
    Calls Try.prog 5 #[sv vi vq vf s, sv ui uq uf t, .string m] w fun e w' => e = .returned (.bool true) ∧ Below w.heap.size w w' := by
  obtain ⟨a1, c1, a2, c2, a3, c3, rfl, rfl, rfl⟩ := h.form
  obtain ⟨x1, y1, x2, y2, x3, y3, rfl, rfl, rfl⟩ := k.form
  obtain ⟨W1, hW1⟩ : ∃ W1, W1 = (w.alloc (.cells #[.slice a1 s.ind.length c1, .int .i64 s.pen, .slice a2 s.que.length c2, .slice a3 s.frm.length c3, .int .u16 (s.flg : Int)] 27)).alloc (.cells #[.slice x1 t.ind.length y1, .int .i64 t.pen, .slice x2 t.que.length y2, .slice x3 t.frm.length y3, .int .u16 (t.flg : Int)] 27) := ⟨_, rfl⟩
  have B1 : Hid (Below w.heap.size w W1) := by rw [hW1]; exact below_trans (bel_up _ _) (bel_up _ _)
  have HP : Hid (W1.heap[w.heap.size]? = some (.cells #[.slice a1 s.ind.length c1, .int .i64 s.pen, .slice a2 s.que.length c2, .slice a3 s.frm.length c3, .int .u16 (s.flg : Int)] 27 (0, 0)) ∧ W1.heap[w.heap.size + 1]? = some (.cells #[.slice x1 t.ind.length y1, .int .i64 t.pen, .slice x2 t.que.length y2, .slice x3 t.frm.length y3, .int .u16 (t.flg : Int)] 27 (0, 0))) := by
    rw [hW1]
    refine ⟨?_, ?_⟩
    · rw [(bel_up _ _).block _ (by simp)]; exact heap_new w _
    · have := heap_new (w.alloc (.cells #[.slice a1 s.ind.length c1, .int .i64 s.pen, .slice a2 s.que.length c2, .slice a3 s.frm.length c3, .int .u16 (s.flg : Int)] 27)) (.cells #[.slice x1 t.ind.length y1, .int .i64 t.pen, .slice x2 t.que.length y2, .slice x3 t.frm.length y3, .int .u16 (t.flg : Int)] 27)
      rw [World.size_alloc] at this
      exact this
  have HPA : Hid (∀ W' : World, Below W1.heap.size W1 W' → W'.heap[w.heap.size]? = some (.cells #[.slice a1 s.ind.length c1, .int .i64 s.pen, .slice a2 s.que.length c2, .slice a3 s.frm.length c3, .int .u16 (s.flg : Int)] 27 (0, 0)) ∧ W'.heap[w.heap.size + 1]? = some (.cells #[.slice x1 t.ind.length y1, .int .i64 t.pen, .slice x2 t.que.length y2, .slice x3 t.frm.length y3, .int .u16 (t.flg : Int)] 27 (0, 0))) := fun W' hb => ⟨by rw [hb.block _ (lt_of_heap HP.out.1)]; exact HP.out.1, by rw [hb.block _ (lt_of_heap HP.out.2)]; exact HP.out.2⟩
  have HW : Hid (W1 = (w.alloc (.cells #[.slice a1 s.ind.length c1, .int .i64 s.pen, .slice a2 s.que.length c2, .slice a3 s.frm.length c3, .int .u16 (s.flg : Int)] 27)).alloc (.cells #[.slice x1 t.ind.length y1, .int .i64 t.pen, .slice x2 t.que.length y2, .slice x3 t.frm.length y3, .int .u16 (t.flg : Int)] 27)) := hW1
  have HS : Hid (Stm W1 (.slice a1 s.ind.length c1) (.slice a2 s.que.length c2) (.slice a3 s.frm.length c3) s) := h.up B1.out
  have HT : Hid (Stm W1 (.slice x1 t.ind.length y1) (.slice x2 t.que.length y2) (.slice x3 t.frm.length y3) t) := k.up B1.out
  have HM : Hid (m.size ≤ 140737488355328) := hm
  have HF : Hid (s.flg < 65536 ∧ t.flg < 65536 ∧ s.shp = true ∧ t.shp = true) := ⟨hf, hg, pa, pb⟩
  obtain ⟨x, hx⟩ : ∃ z : ByteArray, z = ⟨(enc s).toArray⟩ := ⟨_, rfl⟩
  have HXx : Hid (x.data.toList = enc s) := by rw [hx]; exact rfl
  have EA : Hid (∀ W', Below W1.heap.size W1 W' → Calls Try.prog 10 #[sv (.slice a1 s.ind.length c1) (.slice a2 s.que.length c2) (.slice a3 s.frm.length c3) s] W' fun e w' => e = .returned (.tuple #[.string x, .int .i64 0]) ∧ Below W'.heap.size W' w') := fun W' hb => by
    have := encode_any W' (HS.out.up hb) HF.out.1
    rw [pa, if_pos rfl, ← hx] at this
    exact this
  have HZx : Hid (x.size ≤ 140737488355328) := by
    have h1 := pre_len s (Lim.of pa HF.out.1) 5
    rw [pre_five, ← HXx.out, Array.length_toList] at h1
    show x.data.size ≤ _
    omega
  clear hx
  have SA : Hid (∀ W', Below W1.heap.size W1 W' → Calls Try.prog 16 #[sv (.slice a1 s.ind.length c1) (.slice a2 s.que.length c2) (.slice a3 s.frm.length c3) s] W' fun e w' => e = .returned (.bool true) ∧ Below W'.heap.size W' w') := fun W' hb => by
    have := shaped_any W' (HS.out.up hb)
    rw [pa] at this
    exact this
  obtain ⟨y, hy⟩ : ∃ z : ByteArray, z = ⟨(enc t).toArray⟩ := ⟨_, rfl⟩
  have HXy : Hid (y.data.toList = enc t) := by rw [hy]; exact rfl
  have EB : Hid (∀ W', Below W1.heap.size W1 W' → Calls Try.prog 10 #[sv (.slice x1 t.ind.length y1) (.slice x2 t.que.length y2) (.slice x3 t.frm.length y3) t] W' fun e w' => e = .returned (.tuple #[.string y, .int .i64 0]) ∧ Below W'.heap.size W' w') := fun W' hb => by
    have := encode_any W' (HT.out.up hb) HF.out.2.1
    rw [pb, if_pos rfl, ← hy] at this
    exact this
  have HZy : Hid (y.size ≤ 140737488355328) := by
    have h1 := pre_len t (Lim.of pb HF.out.2.1) 5
    rw [pre_five, ← HXy.out, Array.length_toList] at h1
    show y.data.size ≤ _
    omega
  clear hy
  have SB : Hid (∀ W', Below W1.heap.size W1 W' → Calls Try.prog 16 #[sv (.slice x1 t.ind.length y1) (.slice x2 t.que.length y2) (.slice x3 t.frm.length y3) t] W' fun e w' => e = .returned (.bool true) ∧ Below W'.heap.size W' w') := fun W' hb => by
    have := shaped_any W' (HT.out.up hb)
    rw [pb] at this
    exact this
  clear h k hf hg hm pa pb hW1
  go_enter Try.func5, Try.ntmps5
  go_upto_region 1 with fail
  rw [← HW.out]
  go_wp2_with fail
  refine (alive_any W1).mono ?_
  rintro e w2 ⟨rfl, hb⟩
  have B : Hid (Below W1.heap.size W1 w2) := hb
  clear hb
  obtain ⟨k0, k1, k2, k3, k4⟩ := box_cells (HPA.out w2 B.out).1
  obtain ⟨j0, j1, j2, j3, j4⟩ := box_cells (HPA.out w2 B.out).2
  go_wp2_with fail
  refine (EA.out w2 B.out).mono ?_
  rintro e w3 ⟨rfl, hb⟩
  have B' : Hid (Below W1.heap.size W1 w3) := below_trans B.out hb
  clear B hb k0 k1 k2 k3 k4 j0 j1 j2 j3 j4
  have B : Hid (Below W1.heap.size W1 w3) := B'.out
  clear B'
  obtain ⟨k0, k1, k2, k3, k4⟩ := box_cells (HPA.out w3 B.out).1
  obtain ⟨j0, j1, j2, j3, j4⟩ := box_cells (HPA.out w3 B.out).2
  go_wp2_with fail
  refine (EB.out w3 B.out).mono ?_
  rintro e w4 ⟨rfl, hb⟩
  have B' : Hid (Below W1.heap.size W1 w4) := below_trans B.out hb
  clear B hb k0 k1 k2 k3 k4 j0 j1 j2 j3 j4
  have B : Hid (Below W1.heap.size W1 w4) := B'.out
  clear B'
  obtain ⟨k0, k1, k2, k3, k4⟩ := box_cells (HPA.out w4 B.out).1
  obtain ⟨j0, j1, j2, j3, j4⟩ := box_cells (HPA.out w4 B.out).2
  go_wp2_with fail
  refine (SA.out w4 B.out).mono ?_
  rintro e w5 ⟨rfl, hb⟩
  have B' : Hid (Below W1.heap.size W1 w5) := below_trans B.out hb
  clear B hb k0 k1 k2 k3 k4 j0 j1 j2 j3 j4
  have B : Hid (Below W1.heap.size W1 w5) := B'.out
  clear B'
  obtain ⟨k0, k1, k2, k3, k4⟩ := box_cells (HPA.out w5 B.out).1
  obtain ⟨j0, j1, j2, j3, j4⟩ := box_cells (HPA.out w5 B.out).2
  go_wp2_with fail
  refine (SB.out w5 B.out).mono ?_
  rintro e w6 ⟨rfl, hb⟩
  have B' : Hid (Below W1.heap.size W1 w6) := below_trans B.out hb
  clear B hb k0 k1 k2 k3 k4 j0 j1 j2 j3 j4
  have B : Hid (Below W1.heap.size W1 w6) := B'.out
  clear B'
  obtain ⟨k0, k1, k2, k3, k4⟩ := box_cells (HPA.out w6 B.out).1
  obtain ⟨j0, j1, j2, j3, j4⟩ := box_cells (HPA.out w6 B.out).2
  go_wp2_with fail
  refine (decode_any x HZx.out w6).mono ?_
  rintro e w7 ⟨hb, hr7⟩
  rcases hr7 with ⟨d, di, dq, df, h1, h2, h3, rfl, ho⟩ | ⟨hno, rfl⟩
  rotate_left
  · exact absurd HXx.out (hno s HF.out.2.2.1 HF.out.1)
  have hsd : s = d := (enc_pfx (x := []) (y := []) HF.out.2.2.1 HF.out.1 h1 h2 (by rw [List.append_nil, List.append_nil, ← HXx.out, h3])).1
  subst hsd
  clear h1 h2 h3
  obtain ⟨e1, f1, e2, f2, e3, f3, rfl, rfl, rfl⟩ := ho.stm.form
  obtain ⟨w8, hw8⟩ : ∃ w8, w8 = w7.alloc (.cells #[.slice e1 s.ind.length f1, .int .i64 s.pen, .slice e2 s.que.length f2, .slice e3 s.frm.length f3, .int .u16 (s.flg : Int)] 27) := ⟨_, rfl⟩
  have HW8 : Hid (w8 = w7.alloc (.cells #[.slice e1 s.ind.length f1, .int .i64 s.pen, .slice e2 s.que.length f2, .slice e3 s.frm.length f3, .int .u16 (s.flg : Int)] 27)) := hw8
  have HP8 : Hid (w8.heap[w7.heap.size]? = some (.cells #[.slice e1 s.ind.length f1, .int .i64 s.pen, .slice e2 s.que.length f2, .slice e3 s.frm.length f3, .int .u16 (s.flg : Int)] 27 (0, 0))) := by rw [hw8]; exact heap_new w7 _
  have HM8 : Hid (Stm w8 (.slice e1 s.ind.length f1) (.slice e2 s.que.length f2) (.slice e3 s.frm.length f3) s) := by rw [hw8]; exact ho.stm.up (bel_up _ _)
  have B' : Hid (Below W1.heap.size W1 w8) := by rw [hw8]; exact below_trans (below_trans B.out hb) (bel_up _ _)
  clear B hb k0 k1 k2 k3 k4 j0 j1 j2 j3 j4 hw8 ho
  have B : Hid (Below W1.heap.size W1 w8) := B'.out
  clear B'
  go_upto_region 11 with fail
  rw [← HW8.out]
  obtain ⟨k0, k1, k2, k3, k4⟩ := box_cells (HPA.out w8 B.out).1
  obtain ⟨j0, j1, j2, j3, j4⟩ := box_cells (HPA.out w8 B.out).2
  obtain ⟨i0, i1, i2, i3, i4⟩ := box_cells HP8.out
  have HLS : Hid (s.ind.length ≤ 4611686018427387904 ∧ s.que.length ≤ 4611686018427387904 ∧ s.frm.length ≤ 4611686018427387904) := by
    have hl := Lim.of HF.out.2.2.1 HF.out.1
    have := hl.i; have := hl.q; have := hl.f
    exact ⟨by omega, by omega, by omega⟩
  go_wp2_with fail
  refine (rsame_any w8 HM8.out (HS.out.up B.out) HLS.out.1 HLS.out.2.1 HLS.out.2.2).mono ?_
  rintro e w9 ⟨rfl, hb⟩
  clear i0 i1 i2 i3 i4
  rw [decide_eq_true rfl]
  have B' : Hid (Below W1.heap.size W1 w9) := below_trans B.out hb
  clear B hb k0 k1 k2 k3 k4 j0 j1 j2 j3 j4
  have B : Hid (Below W1.heap.size W1 w9) := B'.out
  clear B'
  obtain ⟨k0, k1, k2, k3, k4⟩ := box_cells (HPA.out w9 B.out).1
  obtain ⟨j0, j1, j2, j3, j4⟩ := box_cells (HPA.out w9 B.out).2
  go_wp2_with fail
  refine (rsame_any w9 (HS.out.up B.out) (HT.out.up B.out) HLS.out.1 HLS.out.2.1 HLS.out.2.2).mono ?_
  rintro e w10 ⟨rfl, hb⟩
  have B' : Hid (Below W1.heap.size W1 w10) := below_trans B.out hb
  clear B hb k0 k1 k2 k3 k4 j0 j1 j2 j3 j4
  have B : Hid (Below W1.heap.size W1 w10) := B'.out
  clear B'
  obtain ⟨k0, k1, k2, k3, k4⟩ := box_cells (HPA.out w10 B.out).1
  obtain ⟨j0, j1, j2, j3, j4⟩ := box_cells (HPA.out w10 B.out).2
  by_cases hst : s = t
  · have hxy : y = x := bytes_ext (by rw [HXx.out, HXy.out, hst])
    have d0 : decide (s = t) = true := by rw [decide_eq_true_eq]; exact hst
    rw [d0]
    clear hst d0
    subst hxy
    have hex : y.extract 0 y.size = y := bytes_ext (by rw [ext_take]; exact List.take_of_length_le (by rw [Array.length_toList]; exact Nat.le_refl _))
    go_wp2_with fail
    refine (decode_any m HM.out w10).mono ?_
    rintro e w20 ⟨hb20, hr20⟩
    have B20 : Hid (Below w.heap.size w w20) := below_trans (below_trans B1.out B.out) hb20
    clear hb20 k0 k1 k2 k3 k4 j0 j1 j2 j3 j4
    rcases hr20 with ⟨d, di, dq, df, h1, h2, h3, rfl, ho⟩ | ⟨-, rfl⟩
    · obtain ⟨e1, f1, e2, f2, e3, f3, rfl, rfl, rfl⟩ := ho.stm.form
      have H1 : Hid (d.shp = true ∧ d.flg < 65536) := ⟨h1, h2⟩
      have HMM : Hid ((⟨(enc d).toArray⟩ : ByteArray) = m) := bytes_ext (by rw [h3])
      obtain ⟨W21, hW21⟩ : ∃ W21, W21 = w20.alloc (.cells #[.slice e1 d.ind.length f1, .int .i64 d.pen, .slice e2 d.que.length f2, .slice e3 d.frm.length f3, .int .u16 (d.flg : Int)] 27) := ⟨_, rfl⟩
      have HW21 : Hid (W21 = w20.alloc (.cells #[.slice e1 d.ind.length f1, .int .i64 d.pen, .slice e2 d.que.length f2, .slice e3 d.frm.length f3, .int .u16 (d.flg : Int)] 27)) := hW21
      have B21 : Hid (Below w.heap.size w W21) := by rw [hW21]; exact below_trans B20.out (bel_up _ _)
      have HP21 : Hid (W21.heap[w20.heap.size]? = some (.cells #[.slice e1 d.ind.length f1, .int .i64 d.pen, .slice e2 d.que.length f2, .slice e3 d.frm.length f3, .int .u16 (d.flg : Int)] 27 (0, 0))) := by rw [hW21]; exact heap_new w20 _
      have HM21 : Hid (Stm W21 (.slice e1 d.ind.length f1) (.slice e2 d.que.length f2) (.slice e3 d.frm.length f3) d) := by rw [hW21]; exact ho.stm.up (bel_up _ _)
      clear hW21 h1 h2 h3 ho
      go_upto_region 23 with fail
      rw [← HW21.out]
      obtain ⟨k0, k1, k2, k3, k4⟩ := box_cells HP21.out
      go_wp2_with fail
      refine (encode_any W21 HM21.out H1.out.2).mono ?_
      rintro e w22 ⟨rfl, hb22⟩
      rw [H1.out.1, if_pos rfl, HMM.out]
      have B22 : Hid (Below w.heap.size w w22) := below_trans B21.out hb22
      clear hb22 k0 k1 k2 k3 k4
      go_wp2_with fail
      go_ret
      exact ⟨rfl, B22.out⟩
    · obtain ⟨W21, hW21⟩ : ∃ W21, W21 = w20.alloc (.cells #[.slice none 0 0, .int .i64 0, .slice none 0 0, .slice none 0 0, .int .u16 0] 27) := ⟨_, rfl⟩
      have HW21 : Hid (W21 = w20.alloc (.cells #[.slice none 0 0, .int .i64 0, .slice none 0 0, .slice none 0 0, .int .u16 0] 27)) := hW21
      have B21 : Hid (Below w.heap.size w W21) := by rw [hW21]; exact below_trans B20.out (bel_up _ _)
      have HP21 : Hid (W21.heap[w20.heap.size]? = some (.cells #[.slice none 0 0, .int .i64 0, .slice none 0 0, .slice none 0 0, .int .u16 0] 27 (0, 0))) := by rw [hW21]; exact heap_new w20 _
      clear hW21
      go_upto_region 21 with fail
      rw [← HW21.out]
      obtain ⟨k0, k1, k2, k3, k4⟩ := box_cells HP21.out
      go_wp2_with fail
      refine (rsame_zero W21).mono ?_
      rintro e w22 ⟨rfl, hb22⟩
      have B22 : Hid (Below w.heap.size w w22) := below_trans B21.out hb22
      clear hb22 k0 k1 k2 k3 k4
      go_wp2_with fail
      go_ret
      exact ⟨rfl, B22.out⟩
  · have d0 : decide (s = t) = false := by rw [decide_eq_false_iff_not]; exact hst
    rw [d0]
    have n0 : ¬ (x = y) := fun e => hst (enc_pfx (x := []) (y := []) HF.out.2.2.1 HF.out.1 HF.out.2.2.2 HF.out.2.1 (by rw [← HXx.out, ← HXy.out, e])).1
    have n2 : decide (x = y) = false := by rw [decide_eq_false_iff_not]; exact n0
    have n1 : (x.toList == y.toList) = false := by rw [str_eq]; exact n2
    by_cases hle : x.size ≤ y.size
    · have l0 : decide ((x.size : Int) ≤ (y.size : Int)) = true := by rw [decide_eq_true_eq]; omega
      have l1 : decide (x.size ≤ y.size) = true := by rw [decide_eq_true_eq]; omega
      have m0 : ¬ (y.extract 0 x.size = x) := fun e => by
        have h1 : y.data.toList = x.data.toList ++ y.data.toList.drop x.size := by
          rw [← e, ext_take]
          have : (y.extract 0 x.size).size = x.size := by rw [e]
          rw [this]
          exact (List.take_append_drop _ _).symm
        exact hst (enc_pfx (x := y.data.toList.drop x.size) (y := []) HF.out.2.2.1 HF.out.1 HF.out.2.2.2 HF.out.2.1 (by rw [← HXx.out, ← HXy.out, List.append_nil]; exact h1.symm)).1
      have m2 : decide (y.extract 0 x.size = x) = false := by rw [decide_eq_false_iff_not]; exact m0
      have m1 : ((y.extract 0 x.size).toList == x.toList) = false := by rw [str_eq]; exact m2
      clear hst d0
      go_wp2_with fail
      refine (decode_any m HM.out w10).mono ?_
      rintro e w20 ⟨hb20, hr20⟩
      have B20 : Hid (Below w.heap.size w w20) := below_trans (below_trans B1.out B.out) hb20
      clear hb20 k0 k1 k2 k3 k4 j0 j1 j2 j3 j4
      rcases hr20 with ⟨d, di, dq, df, h1, h2, h3, rfl, ho⟩ | ⟨-, rfl⟩
      · obtain ⟨e1, f1, e2, f2, e3, f3, rfl, rfl, rfl⟩ := ho.stm.form
        have H1 : Hid (d.shp = true ∧ d.flg < 65536) := ⟨h1, h2⟩
        have HMM : Hid ((⟨(enc d).toArray⟩ : ByteArray) = m) := bytes_ext (by rw [h3])
        obtain ⟨W21, hW21⟩ : ∃ W21, W21 = w20.alloc (.cells #[.slice e1 d.ind.length f1, .int .i64 d.pen, .slice e2 d.que.length f2, .slice e3 d.frm.length f3, .int .u16 (d.flg : Int)] 27) := ⟨_, rfl⟩
        have HW21 : Hid (W21 = w20.alloc (.cells #[.slice e1 d.ind.length f1, .int .i64 d.pen, .slice e2 d.que.length f2, .slice e3 d.frm.length f3, .int .u16 (d.flg : Int)] 27)) := hW21
        have B21 : Hid (Below w.heap.size w W21) := by rw [hW21]; exact below_trans B20.out (bel_up _ _)
        have HP21 : Hid (W21.heap[w20.heap.size]? = some (.cells #[.slice e1 d.ind.length f1, .int .i64 d.pen, .slice e2 d.que.length f2, .slice e3 d.frm.length f3, .int .u16 (d.flg : Int)] 27 (0, 0))) := by rw [hW21]; exact heap_new w20 _
        have HM21 : Hid (Stm W21 (.slice e1 d.ind.length f1) (.slice e2 d.que.length f2) (.slice e3 d.frm.length f3) d) := by rw [hW21]; exact ho.stm.up (bel_up _ _)
        clear hW21 h1 h2 h3 ho
        go_upto_region 23 with fail
        rw [← HW21.out]
        obtain ⟨k0, k1, k2, k3, k4⟩ := box_cells HP21.out
        go_wp2_with fail
        refine (encode_any W21 HM21.out H1.out.2).mono ?_
        rintro e w22 ⟨rfl, hb22⟩
        rw [H1.out.1, if_pos rfl, HMM.out]
        have B22 : Hid (Below w.heap.size w w22) := below_trans B21.out hb22
        clear hb22 k0 k1 k2 k3 k4
        go_wp2_with fail
        go_ret
        exact ⟨rfl, B22.out⟩
      · obtain ⟨W21, hW21⟩ : ∃ W21, W21 = w20.alloc (.cells #[.slice none 0 0, .int .i64 0, .slice none 0 0, .slice none 0 0, .int .u16 0] 27) := ⟨_, rfl⟩
        have HW21 : Hid (W21 = w20.alloc (.cells #[.slice none 0 0, .int .i64 0, .slice none 0 0, .slice none 0 0, .int .u16 0] 27)) := hW21
        have B21 : Hid (Below w.heap.size w W21) := by rw [hW21]; exact below_trans B20.out (bel_up _ _)
        have HP21 : Hid (W21.heap[w20.heap.size]? = some (.cells #[.slice none 0 0, .int .i64 0, .slice none 0 0, .slice none 0 0, .int .u16 0] 27 (0, 0))) := by rw [hW21]; exact heap_new w20 _
        clear hW21
        go_upto_region 21 with fail
        rw [← HW21.out]
        obtain ⟨k0, k1, k2, k3, k4⟩ := box_cells HP21.out
        go_wp2_with fail
        refine (rsame_zero W21).mono ?_
        rintro e w22 ⟨rfl, hb22⟩
        have B22 : Hid (Below w.heap.size w w22) := below_trans B21.out hb22
        clear hb22 k0 k1 k2 k3 k4
        go_wp2_with fail
        go_ret
        exact ⟨rfl, B22.out⟩
    · have l0 : decide ((x.size : Int) ≤ (y.size : Int)) = false := by rw [decide_eq_false_iff_not]; omega
      have l1 : decide (x.size ≤ y.size) = false := by rw [decide_eq_false_iff_not]; omega
      clear hst d0
      go_wp2_with fail
      refine (decode_any m HM.out w10).mono ?_
      rintro e w20 ⟨hb20, hr20⟩
      have B20 : Hid (Below w.heap.size w w20) := below_trans (below_trans B1.out B.out) hb20
      clear hb20 k0 k1 k2 k3 k4 j0 j1 j2 j3 j4
      rcases hr20 with ⟨d, di, dq, df, h1, h2, h3, rfl, ho⟩ | ⟨-, rfl⟩
      · obtain ⟨e1, f1, e2, f2, e3, f3, rfl, rfl, rfl⟩ := ho.stm.form
        have H1 : Hid (d.shp = true ∧ d.flg < 65536) := ⟨h1, h2⟩
        have HMM : Hid ((⟨(enc d).toArray⟩ : ByteArray) = m) := bytes_ext (by rw [h3])
        obtain ⟨W21, hW21⟩ : ∃ W21, W21 = w20.alloc (.cells #[.slice e1 d.ind.length f1, .int .i64 d.pen, .slice e2 d.que.length f2, .slice e3 d.frm.length f3, .int .u16 (d.flg : Int)] 27) := ⟨_, rfl⟩
        have HW21 : Hid (W21 = w20.alloc (.cells #[.slice e1 d.ind.length f1, .int .i64 d.pen, .slice e2 d.que.length f2, .slice e3 d.frm.length f3, .int .u16 (d.flg : Int)] 27)) := hW21
        have B21 : Hid (Below w.heap.size w W21) := by rw [hW21]; exact below_trans B20.out (bel_up _ _)
        have HP21 : Hid (W21.heap[w20.heap.size]? = some (.cells #[.slice e1 d.ind.length f1, .int .i64 d.pen, .slice e2 d.que.length f2, .slice e3 d.frm.length f3, .int .u16 (d.flg : Int)] 27 (0, 0))) := by rw [hW21]; exact heap_new w20 _
        have HM21 : Hid (Stm W21 (.slice e1 d.ind.length f1) (.slice e2 d.que.length f2) (.slice e3 d.frm.length f3) d) := by rw [hW21]; exact ho.stm.up (bel_up _ _)
        clear hW21 h1 h2 h3 ho
        go_upto_region 23 with fail
        rw [← HW21.out]
        obtain ⟨k0, k1, k2, k3, k4⟩ := box_cells HP21.out
        go_wp2_with fail
        refine (encode_any W21 HM21.out H1.out.2).mono ?_
        rintro e w22 ⟨rfl, hb22⟩
        rw [H1.out.1, if_pos rfl, HMM.out]
        have B22 : Hid (Below w.heap.size w w22) := below_trans B21.out hb22
        clear hb22 k0 k1 k2 k3 k4
        go_wp2_with fail
        go_ret
        exact ⟨rfl, B22.out⟩
      · obtain ⟨W21, hW21⟩ : ∃ W21, W21 = w20.alloc (.cells #[.slice none 0 0, .int .i64 0, .slice none 0 0, .slice none 0 0, .int .u16 0] 27) := ⟨_, rfl⟩
        have HW21 : Hid (W21 = w20.alloc (.cells #[.slice none 0 0, .int .i64 0, .slice none 0 0, .slice none 0 0, .int .u16 0] 27)) := hW21
        have B21 : Hid (Below w.heap.size w W21) := by rw [hW21]; exact below_trans B20.out (bel_up _ _)
        have HP21 : Hid (W21.heap[w20.heap.size]? = some (.cells #[.slice none 0 0, .int .i64 0, .slice none 0 0, .slice none 0 0, .int .u16 0] 27 (0, 0))) := by rw [hW21]; exact heap_new w20 _
        clear hW21
        go_upto_region 21 with fail
        rw [← HW21.out]
        obtain ⟨k0, k1, k2, k3, k4⟩ := box_cells HP21.out
        go_wp2_with fail
        refine (rsame_zero W21).mono ?_
        rintro e w22 ⟨rfl, hb22⟩
        have B22 : Hid (Below w.heap.size w w22) := below_trans B21.out hb22
        clear hb22 k0 k1 k2 k3 k4
        go_wp2_with fail
        go_ret
        exact ⟨rfl, B22.out⟩

theorem stateBack_any {vi vq vf ui uq uf : Value} {s t : Stt} (m : ByteArray) (w : World) (h : Stm w vi vq vf s) (k : Stm w ui uq uf t) (hf : s.flg < 65536) (hg : t.flg < 65536) (hm : m.size ≤ 140737488355328) :
    Calls Try.prog 5 #[sv vi vq vf s, sv ui uq uf t, .string m] w fun e w' => e = .returned (.bool true) ∧ Below w.heap.size w w' := by
  cases pa : s.shp <;> cases pb : t.shp
  · exact stateBack_ff m w h k hf hg hm pa pb
  · exact stateBack_ft m w h k hf hg hm pa pb
  · exact stateBack_tf m w h k hf hg hm pa pb
  · exact stateBack_tt m w h k hf hg hm pa pb
end Go.Proofs.Ytkaciochlemjiaa
