import Derived.Test.YtkaciochlemjiaaAli
namespace Go.Proofs.Ytkaciochlemjiaa
open Go.RowKit Go.Maps

theorem acts_ok (m : ByteArray) : ∀ (l : List (Int × Int × Int)) (s : Stt), s.shp = true → s.flg < 65536 → (∀ t, acts m s l = .ok t → t.shp = true ∧ t.flg < 65536) ∧ (∀ e, acts m s l = .error e → 60 ≤ e ∧ e ≤ 66 ∧ e ≠ 65 ∧ 0 < l.length)
  | [], s, hs, hf => ⟨fun t ht => (by cases ht; exact ⟨hs, hf⟩), fun e he => (by cases he)⟩
  | a :: l, s, hs, hf => by
    have h1 := act_ok s a.1 a.2.1 a.2.2 m hs
    have h2 := act_flg s a.1 a.2.1 a.2.2 m hf
    simp only [acts]
    cases hx : act s a.1 a.2.1 a.2.2 m with
    | ok t =>
      have ih := acts_ok m l t (h1.1 t hx) (h2 t hx)
      exact ⟨ih.1, fun e he => by obtain ⟨k1, k2, k3, _⟩ := ih.2 e he; exact ⟨k1, k2, k3, by simp⟩⟩
    | error c =>
      refine ⟨fun t ht => (by cases ht), fun e he => ?_⟩
      cases he
      obtain ⟨k1, k2, k3⟩ := h1.2 c hx
      exact ⟨k1, k2, k3, by simp⟩
theorem zst_stm (W : World) : Stm W (.slice none 0 0) (.slice none 0 0) (.slice none 0 0) zst := ⟨Rw.nil W, Rw.nil W, Rw.nil W⟩
theorem rsame_zero (W : World) : Calls Try.prog 12 #[zV, zV] W fun e w' => e = .returned (.bool true) ∧ Below W.heap.size W w' := by
  have := rsame_any (s := zst) (t := zst) W (zst_stm W) (zst_stm W) (by decide) (by decide) (by decide)
  rw [decide_eq_true rfl] at this
  exact this
/-- The cells of a boxed state. -/
theorem box_cells {W : World} {b : Nat} {x0 x1 x2 x3 x4 : Value} (h : W.heap[b]? = some (.cells #[x0, x1, x2, x3, x4] 27 (0, 0))) : W.cell? ⟨b, 0, none⟩ = some x0 ∧ W.cell? ⟨b, 1, none⟩ = some x1 ∧ W.cell? ⟨b, 2, none⟩ = some x2 ∧ W.cell? ⟨b, 3, none⟩ = some x3 ∧ W.cell? ⟨b, 4, none⟩ = some x4 := by
  refine ⟨?_, ?_, ?_, ?_, ?_⟩
  · rw [Lib.cell_of_heap h]; rfl
  · rw [Lib.cell_of_heap h]; rfl
  · rw [Lib.cell_of_heap h]; rfl
  · rw [Lib.cell_of_heap h]; rfl
  · rw [Lib.cell_of_heap h]; rfl

set_option maxRecDepth 100000 in
set_option maxHeartbeats 8000000 in
theorem stateShaped_any {vi vq vf va : Value} {s : Stt} {l : List (Int × Int × Int)} (m : ByteArray) (w : World) (h : Stm w vi vq vf s) (hf : s.flg < 65536) (ha : Rw w va l.length (aC l)) (hl : l.length ≤ 4611686018427387904) (hm : m.size ≤ 4611686018427387904) :
    Calls Try.prog 6 #[sv vi vq vf s, va, .string m] w fun e w' => e = .returned (.bool true) ∧ Below w.heap.size w w' := by
  obtain ⟨a1, c1, a2, c2, a3, c3, rfl, rfl, rfl⟩ := h.form
  obtain ⟨W1, hW1⟩ : ∃ W1, W1 = w.alloc (.cells #[.slice a1 s.ind.length c1, .int .i64 s.pen, .slice a2 s.que.length c2, .slice a3 s.frm.length c3, .int .u16 (s.flg : Int)] 27) := ⟨_, rfl⟩
  have B1 : Hid (Below w.heap.size w W1) := by rw [hW1]; exact bel_up _ _
  have HP : Hid (W1.heap[w.heap.size]? = some (.cells #[.slice a1 s.ind.length c1, .int .i64 s.pen, .slice a2 s.que.length c2, .slice a3 s.frm.length c3, .int .u16 (s.flg : Int)] 27 (0, 0))) := by rw [hW1]; exact heap_new w _
  have HW : Hid (W1 = w.alloc (.cells #[.slice a1 s.ind.length c1, .int .i64 s.pen, .slice a2 s.que.length c2, .slice a3 s.frm.length c3, .int .u16 (s.flg : Int)] 27)) := hW1
  have HS : Hid (Stm W1 (.slice a1 s.ind.length c1) (.slice a2 s.que.length c2) (.slice a3 s.frm.length c3) s) := h.up B1.out
  have HA : Hid (Rw W1 va l.length (aC l)) := ha.up B1.out
  have HF : Hid (s.flg < 65536) := hf
  have HL : Hid (l.length ≤ 4611686018427387904 ∧ m.size ≤ 4611686018427387904) := ⟨hl, hm⟩
  clear h ha hf hl hm hW1
  obtain ⟨av_, cv_, hva⟩ : ∃ a c, va = .slice a l.length c := by obtain ⟨a, _, _, c, e, _⟩ := HA.out; exact ⟨a, c, e⟩
  subst hva
  go_enter Try.func6, Try.ntmps6
  go_upto_region 1 with fail
  rw [← HW.out]
  go_wp2_with fail
  refine (alive_any W1).mono ?_
  rintro e w2 ⟨rfl, hb2⟩
  have B2 : Hid (Below W1.heap.size W1 w2) := hb2
  clear hb2
  have hp2 : w2.heap[w.heap.size]? = some (.cells #[.slice a1 s.ind.length c1, .int .i64 s.pen, .slice a2 s.que.length c2, .slice a3 s.frm.length c3, .int .u16 (s.flg : Int)] 27 (0, 0)) := by rw [B2.out.block _ (lt_of_heap HP.out)]; exact HP.out
  obtain ⟨k0, k1, k2, k3, k4⟩ := box_cells hp2
  clear hp2
  go_wp2_with fail
  refine (shaped_any w2 (HS.out.up B2.out)).mono ?_
  rintro e w3 ⟨rfl, hb3⟩
  have B3 : Hid (Below W1.heap.size W1 w3) := below_trans B2.out hb3
  have hp3 : w3.heap[w.heap.size]? = some (.cells #[.slice a1 s.ind.length c1, .int .i64 s.pen, .slice a2 s.que.length c2, .slice a3 s.frm.length c3, .int .u16 (s.flg : Int)] 27 (0, 0)) := by rw [B3.out.block _ (lt_of_heap HP.out)]; exact HP.out
  clear hb3 k0 k1 k2 k3 k4
  obtain ⟨k0, k1, k2, k3, k4⟩ := box_cells hp3
  clear hp3
  go_wp2_with fail
  refine (all_any m w3 (HS.out.up B3.out) HF.out (HA.out.up B3.out) HL.out.1 HL.out.2).mono ?_
  rintro e w4 ⟨hb4, hr4⟩
  have B4 : Hid (Below w.heap.size w w4) := below_trans B1.out (below_trans B3.out hb4)
  clear hb4 k0 k1 k2 k3 k4
  have HOK : Hid (s.shp = true → (∀ t, acts m s l = .ok t → t.shp = true ∧ t.flg < 65536) ∧ (∀ e, acts m s l = .error e → 60 ≤ e ∧ e ≤ 66 ∧ e ≠ 65 ∧ 0 < l.length)) := fun h => acts_ok m l s h HF.out
  rcases hr4 with ⟨t, ti, tq, tf, ht, rfl, ho⟩ | ⟨c, hc, rfl⟩
  · have hsh : s.shp = true := by
      cases hs : s.shp with
      | true => rfl
      | false => rw [hs] at ht; cases ht
    rw [hsh, if_pos rfl] at ht
    rw [hsh]
    obtain ⟨h1, h2⟩ := (HOK.out hsh).1 t ht
    have HT : Hid (t.shp = true ∧ t.flg < 65536) := ⟨h1, h2⟩
    have HO : Hid (Own w3.heap.size w4 ti tq tf t) := ho
    clear hsh ht h1 h2 ho HOK
    obtain ⟨b1, d1, b2, d2, b3, d3, rfl, rfl, rfl⟩ := HO.out.stm.form
    obtain ⟨W5, hW5⟩ : ∃ W5, W5 = w4.alloc (.cells #[.slice b1 t.ind.length d1, .int .i64 t.pen, .slice b2 t.que.length d2, .slice b3 t.frm.length d3, .int .u16 (t.flg : Int)] 27) := ⟨_, rfl⟩
    have HW5 : Hid (W5 = w4.alloc (.cells #[.slice b1 t.ind.length d1, .int .i64 t.pen, .slice b2 t.que.length d2, .slice b3 t.frm.length d3, .int .u16 (t.flg : Int)] 27)) := hW5
    have B5 : Hid (Below w.heap.size w W5) := by rw [hW5]; exact below_trans B4.out (bel_up _ _)
    have HP5 : Hid (W5.heap[w4.heap.size]? = some (.cells #[.slice b1 t.ind.length d1, .int .i64 t.pen, .slice b2 t.que.length d2, .slice b3 t.frm.length d3, .int .u16 (t.flg : Int)] 27 (0, 0))) := by rw [hW5]; exact heap_new w4 _
    have HM5 : Hid (Stm W5 (.slice b1 t.ind.length d1) (.slice b2 t.que.length d2) (.slice b3 t.frm.length d3) t) := by rw [hW5]; exact HO.out.stm.up (bel_up _ _)
    clear hW5
    go_upto_region 11 with fail
    rw [← HW5.out]
    obtain ⟨k0, k1, k2, k3, k4⟩ := box_cells HP5.out
    go_wp2_with fail
    refine (shaped_any W5 HM5.out).mono ?_
    rintro e w6 ⟨rfl, hb6⟩
    rw [HT.out.1]
    have B6 : Hid (Below W5.heap.size W5 w6) := hb6
    clear hb6 k0 k1 k2 k3 k4
    have hp6 : w6.heap[w4.heap.size]? = some (.cells #[.slice b1 t.ind.length d1, .int .i64 t.pen, .slice b2 t.que.length d2, .slice b3 t.frm.length d3, .int .u16 (t.flg : Int)] 27 (0, 0)) := by rw [B6.out.block _ (lt_of_heap HP5.out)]; exact HP5.out
    obtain ⟨k0, k1, k2, k3, k4⟩ := box_cells hp6
    clear hp6
    go_wp2_with fail
    refine (encode_any w6 (HM5.out.up B6.out) HT.out.2).mono ?_
    rintro e w7 ⟨rfl, hb7⟩
    rw [HT.out.1, if_pos rfl]
    have B7 : Hid (Below w.heap.size w w7) := below_trans B5.out (below_trans B6.out hb7)
    clear hb7 k0 k1 k2 k3 k4
    go_wp2_with fail
    go_ret
    exact ⟨rfl, B7.out⟩
  · obtain ⟨W5, hW5⟩ : ∃ W5, W5 = w4.alloc (.cells #[.slice none 0 0, .int .i64 0, .slice none 0 0, .slice none 0 0, .int .u16 0] 27) := ⟨_, rfl⟩
    have HW5 : Hid (W5 = w4.alloc (.cells #[.slice none 0 0, .int .i64 0, .slice none 0 0, .slice none 0 0, .int .u16 0] 27)) := hW5
    have B5 : Hid (Below w.heap.size w W5) := by rw [hW5]; exact below_trans B4.out (bel_up _ _)
    have hp5 : W5.heap[w4.heap.size]? = some (.cells #[.slice none 0 0, .int .i64 0, .slice none 0 0, .slice none 0 0, .int .u16 0] 27 (0, 0)) := by rw [hW5]; exact heap_new w4 _
    obtain ⟨k0, k1, k2, k3, k4⟩ := box_cells hp5
    clear hW5 hp5
    cases hs : s.shp with
    | false =>
      rw [hs] at hc
      cases hc
      clear HOK hs
      go_upto_region 6 with fail
      rw [← HW5.out]
      go_wp2_with fail
      refine (rsame_zero W5).mono ?_
      rintro e w6 ⟨rfl, hb6⟩
      have B6 : Hid (Below w.heap.size w w6) := below_trans B5.out hb6
      clear hb6 k0 k1 k2 k3 k4
      go_wp2_with fail
      go_ret
      exact ⟨rfl, B6.out⟩
    | true =>
      rw [hs, if_pos rfl] at hc
      obtain ⟨j1, j2, j3, j4⟩ := (HOK.out hs).2 c hc
      have z0 : (c != 0) = true := by rw [bne_iff_ne]; omega
      have z1 : decide (60 ≤ c) = true := by rw [decide_eq_true_eq]; exact j1
      have z2 : decide (c ≤ 66) = true := by rw [decide_eq_true_eq]; exact j2
      have z3 : (c != 65) = true := by rw [bne_iff_ne]; exact j3
      have z4 : decide ((0 : Int) < (l.length : Int)) = true := by rw [decide_eq_true_eq]; omega
      have z5 : decide (0 < l.length) = true := by rw [decide_eq_true_eq]; exact j4
      clear HOK hc hs j1 j2 j3 j4
      go_upto_region 9 with fail
      rw [← HW5.out]
      go_wp2_with fail
      refine (rsame_zero W5).mono ?_
      rintro e w6 ⟨rfl, hb6⟩
      have B6 : Hid (Below w.heap.size w w6) := below_trans B5.out hb6
      clear hb6 k0 k1 k2 k3 k4
      go_wp2_with fail
      go_ret
      exact ⟨rfl, B6.out⟩
end Go.Proofs.Ytkaciochlemjiaa
