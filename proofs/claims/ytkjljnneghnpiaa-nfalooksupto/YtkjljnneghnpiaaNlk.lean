import Derived.Test.YtkjljnneghnpiaaNlg
namespace Go.Proofs.Ytkjljnneghnpiaa
open Go.RowKit

theorem bts_app (s t : ByteArray) : bts (s ++ t) = bts s ++ bts t := by
  unfold bts
  rw [ByteArray.data_append, Array.toList_append, List.map_append]
theorem bts_drop (p s : ByteArray) : (bts (p ++ s)).drop p.size = bts s := by
  rw [bts_app, ← bts_len p, List.drop_left]

set_option maxRecDepth 100000 in
set_option maxHeartbeats 4000000 in
theorem looks_any {vo vt vf : Value} {N : Mc} (hs : Small N) (t : ByteArray) (ht : t.size ≤ 1048576) (at_ : Int) (p s : ByteArray) (hpp : p.size ≤ 1048576) (hss : s.size ≤ 1048576) (w : World) (hp : Parts w.heap.size w vo vt vf N) :
    Calls Try.prog 4 #[nfV vo vt vf N, .string t, .int .i64 at_, .string p, .string s] w fun e w' => e = .returned (.bool true) ∧ Below w.heap.size w w' := by
  have HTT : Hid (t.size ≤ 1048576) := ht
  have HT : Hid (t.size ≤ 100000000000) := by show t.size ≤ 100000000000; omega
  have HP : Hid (p.size ≤ 1048576) := hpp
  have HQ : Hid (s.size ≤ 1048576) := hss
  clear ht hpp hss
  obtain ⟨a1, c1, a2, c2, a3, c3, rfl, rfl, rfl⟩ := hp.shape
  obtain ⟨W1, hW1⟩ : ∃ W1, W1 = w.alloc (.cells #[.slice a1 N.on.length c1, .slice a2 N.tos.length c2, .slice a3 N.free.length c3, .int .i64 N.start, .int .i64 N.fin] 26) := ⟨_, rfl⟩
  have hh1 : W1.heap[w.heap.size]? = some (.cells #[.slice a1 N.on.length c1, .slice a2 N.tos.length c2, .slice a3 N.free.length c3, .int .i64 N.start, .int .i64 N.fin] 26 (0, 0)) := by rw [hW1]; exact World.alloc_heap_new w _
  have HP1 : Hid (Parts W1.heap.size W1 (.slice a1 N.on.length c1) (.slice a2 N.tos.length c2) (.slice a3 N.free.length c3) N) := by rw [hW1]; exact hp.mono (bel_up _ _) (by simp)
  have HB1 : Hid (Below w.heap.size w W1) := by rw [hW1]; exact bel_up _ _
  have W1c0 : W1.cell? ⟨w.heap.size, 0, none⟩ = some (.slice a1 N.on.length c1) := by rw [Lib.cell_of_heap hh1]; rfl
  have W1c1 : W1.cell? ⟨w.heap.size, 1, none⟩ = some (.slice a2 N.tos.length c2) := by rw [Lib.cell_of_heap hh1]; rfl
  have W1c2 : W1.cell? ⟨w.heap.size, 2, none⟩ = some (.slice a3 N.free.length c3) := by rw [Lib.cell_of_heap hh1]; rfl
  have W1c3 : W1.cell? ⟨w.heap.size, 3, none⟩ = some (.int .i64 N.start) := by rw [Lib.cell_of_heap hh1]; rfl
  have W1c4 : W1.cell? ⟨w.heap.size, 4, none⟩ = some (.int .i64 N.fin) := by rw [Lib.cell_of_heap hh1]; rfl
  have HW1 : Hid (W1 = w.alloc (.cells #[.slice a1 N.on.length c1, .slice a2 N.tos.length c2, .slice a3 N.free.length c3, .int .i64 N.start, .int .i64 N.fin] 26)) := hW1
  have HS : Hid (Small N) := hs
  clear hh1 hp hW1 hs
  go_enter Try.func4, Try.ntmps4
  go_upto_region 1 with fail
  rw [← HW1.out]
  go_wp2_with fail
  refine (started_any W1).mono ?_
  rintro e w2 ⟨rfl, hb2⟩
  have HP2 : Hid (Parts w2.heap.size w2 (.slice a1 N.on.length c1) (.slice a2 N.tos.length c2) (.slice a3 N.free.length c3) N) := HP1.out.mono hb2 hb2.size
  have HB2 : Hid (Below w.heap.size w w2) := below_trans HB1.out hb2
  have w2c0 : w2.cell? ⟨w.heap.size, 0, none⟩ = some (.slice a1 N.on.length c1) := below_cell hb2 W1c0
  have w2c1 : w2.cell? ⟨w.heap.size, 1, none⟩ = some (.slice a2 N.tos.length c2) := below_cell hb2 W1c1
  have w2c2 : w2.cell? ⟨w.heap.size, 2, none⟩ = some (.slice a3 N.free.length c3) := below_cell hb2 W1c2
  have w2c3 : w2.cell? ⟨w.heap.size, 3, none⟩ = some (.int .i64 N.start) := below_cell hb2 W1c3
  have w2c4 : w2.cell? ⟨w.heap.size, 4, none⟩ = some (.int .i64 N.fin) := below_cell hb2 W1c4
  clear hb2 HP1 HB1 HW1
  clear W1c0 W1c1 W1c2 W1c3 W1c4
  go_wp2_with fail
  refine (run_any HS.out t HT.out at_ w2 HP2.out).mono ?_
  rintro e w3 ⟨⟨x, y, rfl, hr⟩, hb3⟩
  have HP3 : Hid (Parts w3.heap.size w3 (.slice a1 N.on.length c1) (.slice a2 N.tos.length c2) (.slice a3 N.free.length c3) N) := HP2.out.mono hb3 hb3.size
  have HB3 : Hid (Below w.heap.size w w3) := below_trans HB2.out hb3
  have w3c0 : w3.cell? ⟨w.heap.size, 0, none⟩ = some (.slice a1 N.on.length c1) := below_cell hb3 w2c0
  have w3c1 : w3.cell? ⟨w.heap.size, 1, none⟩ = some (.slice a2 N.tos.length c2) := below_cell hb3 w2c1
  have w3c2 : w3.cell? ⟨w.heap.size, 2, none⟩ = some (.slice a3 N.free.length c3) := below_cell hb3 w2c2
  have w3c3 : w3.cell? ⟨w.heap.size, 3, none⟩ = some (.int .i64 N.start) := below_cell hb3 w2c3
  have w3c4 : w3.cell? ⟨w.heap.size, 4, none⟩ = some (.int .i64 N.fin) := below_cell hb3 w2c4
  clear hb3 HP2 HB2
  clear w2c0 w2c1 w2c2 w2c3 w2c4
  have HR : Hid (RunS N t at_ x y) := hr
  clear hr
  by_cases h0 : at_ < 0
  · have d0 : decide (at_ < 0) = true := by simpa using h0
    obtain ⟨rfl, rfl⟩ : x = -1 ∧ y = 0 := by
      rcases HR.out with ⟨_, h⟩ | ⟨a, h, _⟩
      · exact h
      · omega
    clear h0
    go_wp2_with fail
    go_ret
    exact ⟨rfl, HB3.out⟩
  obtain ⟨a, rfl⟩ : ∃ a : Nat, at_ = (a : Int) := ⟨at_.toNat, by omega⟩
  have d0 : decide ((a : Int) < 0) = false := by rw [decide_eq_false_iff_not]; omega
  clear h0
  by_cases h1 : t.size < a
  · have d1 : decide ((t.size : Int) < (a : Int)) = true := by rw [decide_eq_true_eq]; omega
    have d2 : decide (t.size < a) = true := by rw [decide_eq_true_eq]; omega
    obtain ⟨rfl, rfl⟩ : x = -1 ∧ y = 0 := by
      rcases HR.out with ⟨_, h⟩ | ⟨a, h, h2, _⟩
      · exact h
      · omega
    clear h1
    go_wp2_with fail
    go_ret
    exact ⟨rfl, HB3.out⟩
  have d1 : decide ((t.size : Int) < (a : Int)) = false := by rw [decide_eq_false_iff_not]; omega
  have d2 : decide (t.size < a) = false := by rw [decide_eq_false_iff_not]; omega
  have H1 : Hid (a ≤ t.size) := by show a ≤ t.size; omega
  clear h1
  obtain ⟨ev, f, hA, hx, hy⟩ : ∃ (ev : Int) (f : Nat), N.Ans ((bts t).drop a) ev f ∧ x = (if ev = -1 then -1 else (a : Int) + ev) ∧ y = (a : Int) + f := by
    rcases HR.out with ⟨h, _⟩ | ⟨a', h, _, ev, f, h1, h2, h3⟩
    · have := H1.out; omega
    · have ea : a' = a := by omega
      subst ea
      exact ⟨ev, f, h1, h2, h3⟩
  have hl : ((bts t).drop a).length = t.size - a := by rw [List.length_drop, bts_len]
  obtain ⟨z, hz⟩ : ∃ z, a + f = z := ⟨_, rfl⟩
  obtain rfl : y = (z : Int) := by omega
  have HZ : Hid (a + f = z ∧ z ≤ t.size + 1) := ⟨hz, by have := hA.le; have := H1.out; omega⟩
  have HX : Hid (x = (if ev = -1 then -1 else (a : Int) + ev)) := hx
  have HE : Hid (ev ≠ -1 → 0 ≤ ev ∧ ev ≤ (f : Int) ∧ (a : Int) + ev ≤ t.size) := by
    intro c
    have := H1.out
    rcases hA.top with ⟨h, _⟩ | ⟨k, h, h1, h2, _⟩
    · exact absurd h c
    · rw [h]; omega
  have k3 : decide ((z : Int) < (a : Int)) = false := by rw [decide_eq_false_iff_not]; omega
  have k4 : decide (z < a) = false := by rw [decide_eq_false_iff_not]; omega
  have k5 : IntKind.i64.wrap ((t.size : Int) + 1) = (t.size : Int) + 1 := by rw [IntKind.wrap_i64]; have := HT.out; omega
  have k7 : decide ((t.size : Int) + 1 < (z : Int)) = false := by rw [decide_eq_false_iff_not]; have := HZ.out; omega
  have k8 : IntKind.i64.wrap ((p.size : Int) - (a : Int)) = (p.size : Int) - (a : Int) := by rw [IntKind.wrap_i64]; have := HP.out; have := H1.out; have := HT.out; omega
  have g1 : (0 : Int) ≤ (a : Int) := by omega
  have g5 : (a : Int) ≤ (t.size : Int) := by have := H1.out; omega
  have g2 : (a : Int) ≤ (z : Int) := by omega
  have g3 : (0 : Int) ≤ (z : Int) := by omega
  have HA : Hid (N.Ans ((bts t).drop a) ev f) := hA
  have HL : Hid (((bts t).drop a).length = t.size - a) := hl
  have hq : IntKind.i64.wrap ((z : Int) + ((p.size : Int) - (a : Int))) = ((p.size + f : Nat) : Int) := by rw [IntKind.wrap_i64]; have := HZ.out; have := HT.out; have := HP.out; have := H1.out; omega
  have q1 : ¬ 9223372036854775807 < p.size + (t.size - a) := by have := HTT.out; have := HP.out; omega
  have q2 : ¬ 9223372036854775807 < p.size + (min z t.size - a) := by have := HTT.out; have := HP.out; omega
  have q3 : ¬ 9223372036854775807 < p.size + (min z t.size - a) + s.size := by have := HTT.out; have := HP.out; have := HQ.out; omega
  clear hA hl hz hx hy
  by_cases c : ev = -1
  · have HEV : Hid (ev = -1) := c
    by_cases cz : z ≤ t.size
    · have hx' := HX.out
      rw [if_pos c] at hx'
      subst hx'
      have k1 : decide ((z : Int) < -1) = false := by rw [decide_eq_false_iff_not]; omega
      have k9 : decide ((z : Int) ≤ (t.size : Int)) = true := by rw [decide_eq_true_eq]; omega
      have k10 : decide (z ≤ t.size) = true := by rw [decide_eq_true_eq]; omega
      have g4 : (z : Int) ≤ (t.size : Int) := by omega
      have HC : Hid (z ≤ t.size) := cz
      have HAO : Hid (N.Ans ((bts (p ++ t.extract a z ++ s)).drop p.size) ev f) := by
        have hz := HZ.out
        have h1 := H1.out
        have hl := HL.out
        have e1 : (bts (p ++ t.extract a z ++ s)).drop p.size = ((bts t).drop a).take f ++ bts s := by
          rw [ByteArray.append_assoc, bts_drop, bts_app, bts_ext, show z - a = f by omega]
        show N.Ans _ ev f
        rw [e1]
        have hlt : (((bts t).drop a).take f).length = f := by rw [List.length_take]; omega
        refine HA.out.looks (by omega) ?_ (by rw [List.length_append]; omega)
        rw [List.take_append_of_le_length (by omega), List.take_take, Nat.min_self]
      clear c cz
      go_wp2_with fail
      refine (run_any HS.out (p ++ t.extract a z ++ s) (by rw [ByteArray.size_append, ByteArray.size_append, ext_sz _ _ _ HC.out]; have := HTT.out; have := HP.out; have := HQ.out; have := HC.out; omega) (p.size : Int) w3 HP3.out).mono ?_
      rintro e' w4 ⟨⟨x2, y2, rfl, hr2⟩, hb4⟩
      obtain ⟨hx2, hy2⟩ := runs_one (a := p.size) hr2 (by rw [ByteArray.size_append, ByteArray.size_append]; omega) HAO.out
      obtain rfl : y2 = ((p.size + f : Nat) : Int) := by omega
      have HB4 : Hid (Below w.heap.size w w4) := below_trans HB3.out hb4
      rw [if_pos HEV.out] at hx2
      subst hx2
      obtain ⟨qq, hqq⟩ : ∃ qq, p.size + f = qq := ⟨_, rfl⟩
      rw [hqq] at hq ⊢
      clear hr2 hb4 hy2 hqq
      go_wp2_with fail
      go_ret
      exact ⟨rfl, HB4.out⟩
    · have hx' := HX.out
      rw [if_pos c] at hx'
      subst hx'
      have k1 : decide ((z : Int) < -1) = false := by rw [decide_eq_false_iff_not]; omega
      have k9 : decide ((z : Int) ≤ (t.size : Int)) = false := by rw [decide_eq_false_iff_not]; omega
      have k10 : decide (z ≤ t.size) = false := by rw [decide_eq_false_iff_not]; omega
      have HAO : Hid (N.Ans ((bts (p ++ t.extract a t.size)).drop p.size) ev f) := by
        show N.Ans _ ev f
        have hl := HL.out
        rw [bts_drop, bts_ext, List.take_of_length_le (by omega)]
        exact HA.out
      clear c cz
      go_wp2_with fail
      refine (run_any HS.out (p ++ t.extract a t.size) (by rw [ByteArray.size_append, ext_sz _ _ _ (Nat.le_refl _)]; have := HTT.out; have := HP.out; omega) (p.size : Int) w3 HP3.out).mono ?_
      rintro e' w4 ⟨⟨x2, y2, rfl, hr2⟩, hb4⟩
      obtain ⟨hx2, hy2⟩ := runs_one (a := p.size) hr2 (by rw [ByteArray.size_append]; omega) HAO.out
      obtain rfl : y2 = ((p.size + f : Nat) : Int) := by omega
      have HB4 : Hid (Below w.heap.size w w4) := below_trans HB3.out hb4
      rw [if_pos HEV.out] at hx2
      subst hx2
      obtain ⟨qq, hqq⟩ : ∃ qq, p.size + f = qq := ⟨_, rfl⟩
      rw [hqq] at hq ⊢
      clear hr2 hb4 hy2 hqq
      go_wp2_with fail
      go_ret
      exact ⟨rfl, HB4.out⟩
  · have HEV : Hid (¬ ev = -1) := c
    by_cases cz : z ≤ t.size
    · have hx' := HX.out
      rw [if_neg c] at hx'
      have hne : (x == -1) = false := by rw [beq_eq_false_iff_ne]; have := HE.out c; omega
      have hne2 : (x != -1) = true := by rw [bne_iff_ne]; have := HE.out c; omega
      have k1 : decide ((z : Int) < x) = false := by rw [decide_eq_false_iff_not]; have := HE.out c; have := HZ.out; omega
      have k2 : decide (x < (a : Int)) = false := by rw [decide_eq_false_iff_not]; have := HE.out c; omega
      have hm : IntKind.i64.wrap (x + ((p.size : Int) - (a : Int))) = (p.size : Int) + ev := by rw [IntKind.wrap_i64]; have := HE.out c; have := HZ.out; have := HT.out; have := HP.out; have := H1.out; omega
      have k9 : decide ((z : Int) ≤ (t.size : Int)) = true := by rw [decide_eq_true_eq]; omega
      have k10 : decide (z ≤ t.size) = true := by rw [decide_eq_true_eq]; omega
      have g4 : (z : Int) ≤ (t.size : Int) := by omega
      have HC : Hid (z ≤ t.size) := cz
      have HAO : Hid (N.Ans ((bts (p ++ t.extract a z ++ s)).drop p.size) ev f) := by
        have hz := HZ.out
        have h1 := H1.out
        have hl := HL.out
        have e1 : (bts (p ++ t.extract a z ++ s)).drop p.size = ((bts t).drop a).take f ++ bts s := by
          rw [ByteArray.append_assoc, bts_drop, bts_app, bts_ext, show z - a = f by omega]
        show N.Ans _ ev f
        rw [e1]
        have hlt : (((bts t).drop a).take f).length = f := by rw [List.length_take]; omega
        refine HA.out.looks (by omega) ?_ (by rw [List.length_append]; omega)
        rw [List.take_append_of_le_length (by omega), List.take_take, Nat.min_self]
      clear c cz hx'
      go_wp2_with fail
      refine (run_any HS.out (p ++ t.extract a z ++ s) (by rw [ByteArray.size_append, ByteArray.size_append, ext_sz _ _ _ HC.out]; have := HTT.out; have := HP.out; have := HQ.out; have := HC.out; omega) (p.size : Int) w3 HP3.out).mono ?_
      rintro e' w4 ⟨⟨x2, y2, rfl, hr2⟩, hb4⟩
      obtain ⟨hx2, hy2⟩ := runs_one (a := p.size) hr2 (by rw [ByteArray.size_append, ByteArray.size_append]; omega) HAO.out
      obtain rfl : y2 = ((p.size + f : Nat) : Int) := by omega
      have HB4 : Hid (Below w.heap.size w w4) := below_trans HB3.out hb4
      rw [if_neg HEV.out] at hx2
      subst hx2
      obtain ⟨qq, hqq⟩ : ∃ qq, p.size + f = qq := ⟨_, rfl⟩
      rw [hqq] at hq ⊢
      clear hr2 hb4 hy2 hqq
      go_wp2_with fail
      go_ret
      exact ⟨rfl, HB4.out⟩
    · have hx' := HX.out
      rw [if_neg c] at hx'
      have hne : (x == -1) = false := by rw [beq_eq_false_iff_ne]; have := HE.out c; omega
      have hne2 : (x != -1) = true := by rw [bne_iff_ne]; have := HE.out c; omega
      have k1 : decide ((z : Int) < x) = false := by rw [decide_eq_false_iff_not]; have := HE.out c; have := HZ.out; omega
      have k2 : decide (x < (a : Int)) = false := by rw [decide_eq_false_iff_not]; have := HE.out c; omega
      have hm : IntKind.i64.wrap (x + ((p.size : Int) - (a : Int))) = (p.size : Int) + ev := by rw [IntKind.wrap_i64]; have := HE.out c; have := HZ.out; have := HT.out; have := HP.out; have := H1.out; omega
      have k9 : decide ((z : Int) ≤ (t.size : Int)) = false := by rw [decide_eq_false_iff_not]; omega
      have k10 : decide (z ≤ t.size) = false := by rw [decide_eq_false_iff_not]; omega
      have HAO : Hid (N.Ans ((bts (p ++ t.extract a t.size)).drop p.size) ev f) := by
        show N.Ans _ ev f
        have hl := HL.out
        rw [bts_drop, bts_ext, List.take_of_length_le (by omega)]
        exact HA.out
      clear c cz hx'
      go_wp2_with fail
      refine (run_any HS.out (p ++ t.extract a t.size) (by rw [ByteArray.size_append, ext_sz _ _ _ (Nat.le_refl _)]; have := HTT.out; have := HP.out; omega) (p.size : Int) w3 HP3.out).mono ?_
      rintro e' w4 ⟨⟨x2, y2, rfl, hr2⟩, hb4⟩
      obtain ⟨hx2, hy2⟩ := runs_one (a := p.size) hr2 (by rw [ByteArray.size_append]; omega) HAO.out
      obtain rfl : y2 = ((p.size + f : Nat) : Int) := by omega
      have HB4 : Hid (Below w.heap.size w w4) := below_trans HB3.out hb4
      rw [if_neg HEV.out] at hx2
      subst hx2
      obtain ⟨qq, hqq⟩ : ∃ qq, p.size + f = qq := ⟨_, rfl⟩
      rw [hqq] at hq ⊢
      clear hr2 hb4 hy2 hqq
      go_wp2_with fail
      go_ret
      exact ⟨rfl, HB4.out⟩
end Go.Proofs.Ytkjljnneghnpiaa
