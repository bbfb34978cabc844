import Derived.Test.YtkjljnneghnpiaaNsg
namespace Go.Proofs.Ytkjljnneghnpiaa
open Go.RowKit

theorem bts_ext (t : ByteArray) (a i : Nat) : bts (t.extract a i) = ((bts t).drop a).take (i - a) := by
  unfold bts
  rw [ByteArray.data_extract, Array.toList_extract, List.extract_eq_take_drop, List.map_take, List.map_drop]
theorem ext_sz (s : ByteArray) (p e : Nat) (he : e ≤ s.size) : (s.extract p e).size = e - p := by
  rw [ByteArray.size_extract]; omega
/-- What is asked of a round of the law. -/
theorem round_ok {N : Mc} {t : ByteArray} {a i : Nat} {x y : Int} {d : Bool} (hr : RunS N t (a : Int) x y) (ha : a ≤ t.size) (hai : a ≤ i) (hi : i ≤ t.size) (hd : d = true ↔ N.Tk (bts (t.extract a i))) :
    ((i : Int) = x → d = true) ∧ (x < (i : Int) → d = false) := by
  rw [bts_ext t a i] at hd
  rcases hr with ⟨h, _⟩ | ⟨a', e0, _, e1, f, hA, hx, _⟩
  · omega
  · have ea : a' = a := by omega
    subst ea
    have hl : ((bts t).drop a').length = t.size - a' := by rw [List.length_drop, bts_len]
    constructor
    · intro e
      rcases hA.top with ⟨h1, _⟩ | ⟨k, h1, _, _, h2, _⟩
      · rw [h1, if_pos rfl] at hx; omega
      · rw [if_neg (by omega)] at hx
        have : k = i - a' := by omega
        subst this
        exact hd.2 h2
    · intro e
      cases d
      · rfl
      · refine absurd (hd.1 rfl) (hA.longer (by omega) ?_)
        by_cases c : e1 = -1
        · omega
        · rw [if_neg c] at hx; omega

set_option maxRecDepth 100000 in
set_option maxHeartbeats 4000000 in
theorem longest_any {vo vt vf : Value} {N : Mc} (hs : Small N) (t : ByteArray) (ht : t.size ≤ 100000000000) (at_ : Int) (w : World) (hp : Parts w.heap.size w vo vt vf N) :
    Calls Try.prog 5 #[nfV vo vt vf N, .string t, .int .i64 at_] w fun e w' => e = .returned (.bool true) ∧ Below w.heap.size w w' := by
  have HT : Hid (t.size ≤ 100000000000) := ht
  clear ht
  obtain ⟨a1, c1, a2, c2, a3, c3, rfl, rfl, rfl⟩ := hp.shape
  obtain ⟨W1, hW1⟩ : ∃ W1, W1 = w.alloc (.cells #[.slice a1 N.on.length c1, .slice a2 N.tos.length c2, .slice a3 N.free.length c3, .int .i64 N.start, .int .i64 N.fin] 26) := ⟨_, rfl⟩
  have hh1 : W1.heap[w.heap.size]? = some (.cells #[.slice a1 N.on.length c1, .slice a2 N.tos.length c2, .slice a3 N.free.length c3, .int .i64 N.start, .int .i64 N.fin] 26 (0, 0)) := by rw [hW1]; exact World.alloc_heap_new w _
  have HP1 : Hid (Parts W1.heap.size W1 (.slice a1 N.on.length c1) (.slice a2 N.tos.length c2) (.slice a3 N.free.length c3) N) := by rw [hW1]; exact hp.mono (bel_up _ _) (by simp)
  have HB1 : Hid (Below w.heap.size w W1) := by rw [hW1]; exact bel_up _ _
  have W1c0 : W1.cell? ⟨w.heap.size, 0, none⟩ = some (.slice a1 N.on.length c1) := by rw [Lib.cell_of_heap hh1]; rfl
  have W1c1 : W1.cell? ⟨w.heap.size, 1, none⟩ = some (.slice a2 N.tos.length c2) := by rw [Lib.cell_of_heap hh1]; rfl
  have W1c2 : W1.cell? ⟨w.heap.size, 2, none⟩ = some (.slice a3 N.free.length c3) := by rw [Lib.cell_of_heap hh1]; rfl
  have W1c3 : W1.cell? ⟨w.heap.size, 3, none⟩ = some (.int .i64 N.start) := by rw [Lib.cell_of_heap hh1]; rfl
  have W1c4 : W1.cell? ⟨w.heap.size, 4, none⟩ = some (.int .i64 N.fin) := by rw [Lib.cell_of_heap hh1]; rfl
  have HW1 : Hid (W1 = w.alloc (.cells #[.slice a1 N.on.length c1, .slice a2 N.tos.length c2, .slice a3 N.free.length c3, .int .i64 N.start, .int .i64 N.fin] 26)) := hW1
  have HS : Hid (Small N) := hs
  clear hh1 hp hW1 hs
  go_enter Try.func5, Try.ntmps5
  go_upto_region 1 with fail
  rw [← HW1.out]
  go_wp2_with fail
  refine (started_any W1).mono ?_
  rintro e w2 ⟨rfl, hb2⟩
  have HP2 : Hid (Parts w2.heap.size w2 (.slice a1 N.on.length c1) (.slice a2 N.tos.length c2) (.slice a3 N.free.length c3) N) := HP1.out.mono hb2 hb2.size
  have HB2 : Hid (Below w.heap.size w w2) := below_trans HB1.out hb2
  have w2c0 : w2.cell? ⟨w.heap.size, 0, none⟩ = some (.slice a1 N.on.length c1) := below_cell hb2 W1c0
  have w2c1 : w2.cell? ⟨w.heap.size, 1, none⟩ = some (.slice a2 N.tos.length c2) := below_cell hb2 W1c1
  have w2c2 : w2.cell? ⟨w.heap.size, 2, none⟩ = some (.slice a3 N.free.length c3) := below_cell hb2 W1c2
  have w2c3 : w2.cell? ⟨w.heap.size, 3, none⟩ = some (.int .i64 N.start) := below_cell hb2 W1c3
  have w2c4 : w2.cell? ⟨w.heap.size, 4, none⟩ = some (.int .i64 N.fin) := below_cell hb2 W1c4
  clear hb2 HP1 HB1 HW1
  clear W1c0 W1c1 W1c2 W1c3 W1c4
  go_wp2_with fail
  refine (run_any HS.out t HT.out at_ w2 HP2.out).mono ?_
  rintro e w3 ⟨⟨x, y, rfl, hr⟩, hb3⟩
  have HP3 : Hid (Parts w3.heap.size w3 (.slice a1 N.on.length c1) (.slice a2 N.tos.length c2) (.slice a3 N.free.length c3) N) := HP2.out.mono hb3 hb3.size
  have HB3 : Hid (Below w.heap.size w w3) := below_trans HB2.out hb3
  have w3c0 : w3.cell? ⟨w.heap.size, 0, none⟩ = some (.slice a1 N.on.length c1) := below_cell hb3 w2c0
  have w3c1 : w3.cell? ⟨w.heap.size, 1, none⟩ = some (.slice a2 N.tos.length c2) := below_cell hb3 w2c1
  have w3c2 : w3.cell? ⟨w.heap.size, 2, none⟩ = some (.slice a3 N.free.length c3) := below_cell hb3 w2c2
  have w3c3 : w3.cell? ⟨w.heap.size, 3, none⟩ = some (.int .i64 N.start) := below_cell hb3 w2c3
  have w3c4 : w3.cell? ⟨w.heap.size, 4, none⟩ = some (.int .i64 N.fin) := below_cell hb3 w2c4
  clear hb3 HP2 HB2
  clear w2c0 w2c1 w2c2 w2c3 w2c4
  have HR : Hid (RunS N t at_ x y) := hr
  clear hr
  by_cases h0 : at_ < 0
  · have d0 : decide (at_ < 0) = true := by simpa using h0
    obtain ⟨rfl, rfl⟩ : x = -1 ∧ y = 0 := by
      rcases HR.out with ⟨_, h⟩ | ⟨a, h, _⟩
      · exact h
      · omega
    clear h0
    go_wp2_with fail
    go_ret
    exact ⟨rfl, HB3.out⟩
  obtain ⟨a, rfl⟩ : ∃ a : Nat, at_ = (a : Int) := ⟨at_.toNat, by omega⟩
  have d0 : decide ((a : Int) < 0) = false := by rw [decide_eq_false_iff_not]; omega
  clear h0
  by_cases h1 : t.size < a
  · have d1 : decide ((t.size : Int) < (a : Int)) = true := by rw [decide_eq_true_eq]; omega
    have d2 : decide (t.size < a) = true := by rw [decide_eq_true_eq]; omega
    obtain ⟨rfl, rfl⟩ : x = -1 ∧ y = 0 := by
      rcases HR.out with ⟨_, h⟩ | ⟨a, h, h2, _⟩
      · exact h
      · omega
    clear h1
    go_wp2_with fail
    go_ret
    exact ⟨rfl, HB3.out⟩
  have d1 : decide ((t.size : Int) < (a : Int)) = false := by rw [decide_eq_false_iff_not]; omega
  have d2 : decide (t.size < a) = false := by rw [decide_eq_false_iff_not]; omega
  have H1 : Hid (a ≤ t.size) := by show a ≤ t.size; omega
  clear h1
  go_wp2_with fail
  clear d0 d1 d2
  go_loopg [9] (t.size + 1 - a) (fun gm iv wr => ∃ i : Nat, iv = .int .i64 (i : Int) ∧ Hid (Below w3.heap.size w3 wr) ∧ Hid (a ≤ i ∧ i ≤ t.size + 1 ∧ gm = t.size + 1 - i))
  case atStart => exact ⟨a, rfl, Below.refl _ _, ⟨Nat.le_refl _, by have := H1.out; omega, rfl⟩⟩
  case round =>
    obtain ⟨i, rfl, HB4, HI⟩ := hrel
    have HP4 : Hid (Parts wr.heap.size wr (.slice a1 N.on.length c1) (.slice a2 N.tos.length c2) (.slice a3 N.free.length c3) N) := HP3.out.mono HB4.out HB4.out.size
    have wrc0 : wr.cell? ⟨w.heap.size, 0, none⟩ = some (.slice a1 N.on.length c1) := below_cell HB4.out w3c0
    have wrc1 : wr.cell? ⟨w.heap.size, 1, none⟩ = some (.slice a2 N.tos.length c2) := below_cell HB4.out w3c1
    have wrc2 : wr.cell? ⟨w.heap.size, 2, none⟩ = some (.slice a3 N.free.length c3) := below_cell HB4.out w3c2
    have wrc3 : wr.cell? ⟨w.heap.size, 3, none⟩ = some (.int .i64 N.start) := below_cell HB4.out w3c3
    have wrc4 : wr.cell? ⟨w.heap.size, 4, none⟩ = some (.int .i64 N.fin) := below_cell HB4.out w3c4
    clear w3c0 w3c1 w3c2 w3c3 w3c4
    by_cases hi : i ≤ t.size
    · have e1 : decide ((i : Int) ≤ (t.size : Int)) = true := by rw [decide_eq_true_eq]; omega
      have e2 : decide (i ≤ t.size) = true := by rw [decide_eq_true_eq]; omega
      have g1 : (0 : Int) ≤ (a : Int) := by omega
      have g2 : (a : Int) ≤ (i : Int) := by have := HI.out; omega
      have g3 : (0 : Int) ≤ (i : Int) := by omega
      have g4 : (i : Int) ≤ (t.size : Int) := by omega
      have HIT : Hid (i ≤ t.size) := hi
      clear hi
      go_upto_region 9 with fail
      have HPW : Hid (∀ W, Below wr.heap.size wr W → W.cell? ⟨w.heap.size, 0, none⟩ = some (.slice a1 N.on.length c1) ∧ W.cell? ⟨w.heap.size, 1, none⟩ = some (.slice a2 N.tos.length c2) ∧ W.cell? ⟨w.heap.size, 2, none⟩ = some (.slice a3 N.free.length c3) ∧ W.cell? ⟨w.heap.size, 3, none⟩ = some (.int .i64 N.start) ∧ W.cell? ⟨w.heap.size, 4, none⟩ = some (.int .i64 N.fin) ∧ Below wr.heap.size wr W) := fun W hW => ⟨below_cell hW wrc0, below_cell hW wrc1, below_cell hW wrc2, below_cell hW wrc3, below_cell hW wrc4, hW⟩
      clear wrc0 wrc1 wrc2 wrc3 wrc4
      refine wp_region_noPanic ?_
      refine wp_region_held_drew (S := fun W => W.cell? ⟨w.heap.size, 0, none⟩ = some (.slice a1 N.on.length c1) ∧ W.cell? ⟨w.heap.size, 1, none⟩ = some (.slice a2 N.tos.length c2) ∧ W.cell? ⟨w.heap.size, 2, none⟩ = some (.slice a3 N.free.length c3) ∧ W.cell? ⟨w.heap.size, 3, none⟩ = some (.int .i64 N.start) ∧ W.cell? ⟨w.heap.size, 4, none⟩ = some (.int .i64 N.fin) ∧ Below wr.heap.size wr W) (by kernel_rfl) (HPW.out _ (Below.drew (Below.refl _ _))) (fun hHeld => ?_)
      refine wpAnyH_take (i := 0) (oi := { dst := _, op := _, type := _, pos := _, after := _, guard := _ }) (v := ?_) rfl (by kernel_rfl) (by kernel_rfl) (by kernel_rfl) (fun _ _ _ h => h) (Or.inl ⟨by rfl, ?_⟩) (by assumption) ?_
      rotate_left
      · intro W hSw
        (try dsimp only at hSw)
        go_simp
        (try with_reducible rfl)
      try simp only [Act.put, List.setIfInBounds_toArray, List.set_cons_zero, List.set_cons_succ]
      refine wpAnyH_take (i := 1) (oi := { dst := _, op := _, type := _, pos := _, after := _, guard := _ }) (v := ?_) rfl (by kernel_rfl) (by kernel_rfl) (by kernel_rfl) (fun _ _ _ h => h) (Or.inl ⟨by rfl, ?_⟩) (by assumption) ?_
      rotate_left
      · intro W hSw
        (try dsimp only at hSw)
        go_simp
        (try with_reducible rfl)
      try simp only [Act.put, List.setIfInBounds_toArray, List.set_cons_zero, List.set_cons_succ]
      refine wpAnyH_take (i := 2) (oi := { dst := _, op := _, type := _, pos := _, after := _, guard := _ }) (v := ?_) rfl (by kernel_rfl) (by kernel_rfl) (by kernel_rfl) (fun _ _ _ h => h) (Or.inl ⟨by rfl, ?_⟩) (by assumption) ?_
      rotate_left
      · intro W hSw
        (try dsimp only at hSw)
        go_simp
        (try with_reducible rfl)
      try simp only [Act.put, List.setIfInBounds_toArray, List.set_cons_zero, List.set_cons_succ]
      refine wpAnyH_take (i := 3) (oi := { dst := _, op := _, type := _, pos := _, after := _, guard := _ }) (v := ?_) rfl (by kernel_rfl) (by kernel_rfl) (by kernel_rfl) (fun _ _ _ h => h) (Or.inl ⟨by rfl, ?_⟩) (by assumption) ?_
      rotate_left
      · intro W hSw
        (try dsimp only at hSw)
        go_simp
        (try with_reducible rfl)
      try simp only [Act.put, List.setIfInBounds_toArray, List.set_cons_zero, List.set_cons_succ]
      refine wpAnyH_take (i := 4) (oi := { dst := _, op := _, type := _, pos := _, after := _, guard := _ }) (v := ?_) rfl (by kernel_rfl) (by kernel_rfl) (by kernel_rfl) (fun _ _ _ h => h) (Or.inl ⟨by rfl, ?_⟩) (by assumption) ?_
      rotate_left
      · intro W hSw
        (try dsimp only at hSw)
        go_simp
        (try with_reducible rfl)
      try simp only [Act.put, List.setIfInBounds_toArray, List.set_cons_zero, List.set_cons_succ]
      refine wpAnyH_ready (rs := [5]) (by kernel_rfl) (by simp) ?_
      refine AllReadyH.cons (o := { dst := _, op := _, type := _, pos := _, after := _, guard := _ }) rfl (fun K hK => ?_) AllReadyH.nil
      go_simp
      refine (accepts_any HS.out (t.extract a i) (by rw [ext_sz _ _ _ HIT.out]; have := HT.out; omega) _ (HP4.out.mono (Below.drew (Below.refl _ _)) (by simp))).mono ?_
      rintro e w5 ⟨⟨d, rfl, hd⟩, hb5⟩
      have B5 : Hid (Below wr.heap.size wr w5) := below_trans (Below.drew (Below.refl _ _)) hb5
      have HD : Hid (((i : Int) = x → d = true) ∧ (x < (i : Int) → d = false)) := round_ok HR.out H1.out HI.out.1 HIT.out hd
      clear hb5 hd
      go_wp2_with fail
      refine hK.out _ _ ?_ (fun hHeld => ?_)
      · (try dsimp only)
        exact HPW.out _ B5.out
      clear hK K
      try simp only [Act.put, List.setIfInBounds_toArray, List.set_cons_zero, List.set_cons_succ]
      refine wpAnyH_take (i := 6) (oi := { dst := _, op := _, type := _, pos := _, after := _, guard := _ }) (v := ?_) rfl (by kernel_rfl) (by kernel_rfl) (by kernel_rfl) (fun _ _ _ h => h) (Or.inl ⟨by rfl, ?_⟩) (by assumption) ?_
      rotate_left
      · intro W hSw
        (try dsimp only at hSw)
        go_simp
        (try with_reducible rfl)
      try simp only [Act.put, List.setIfInBounds_toArray, List.set_cons_zero, List.set_cons_succ]
      refine wpAnyH_done (by kernel_rfl) ?_ _
      refine NoPanic.normal ?_
      clear hHeld HPW g1 g2 g3 g4 e1 e2
      have HFIN : Hid (Below w3.heap.size w3 w5) := below_trans HB4.out B5.out
      have hwr : IntKind.i64.wrap ((i : Int) + 1) = ((i + 1 : Nat) : Int) := by rw [IntKind.wrap_i64]; have := HIT.out; have := HT.out; omega
      by_cases hx : (i : Int) = x
      · have h2 := HD.out.1 hx
        subst h2
        subst hx
        have h3 : decide ((i : Int) < (i : Int)) = false := by rw [decide_eq_false_iff_not]; omega
        go_wp2_with fail
        go_roundg (t.size + 1 - (i + 1))
        case measure => have := HI.out; have := HIT.out; omega
        case rel => exact ⟨i + 1, by first | rfl | (rw [show (i : Int) + 1 = ((i + 1 : Nat) : Int) by omega]), HFIN, ⟨by have := HI.out; omega, by have := HIT.out; omega, rfl⟩⟩
      · have hxe : ((i : Int) == x) = false := by rw [beq_eq_false_iff_ne]; exact hx
        by_cases hgt : x < (i : Int)
        · have h2 := HD.out.2 hgt
          subst h2
          have h3 : decide (x < (i : Int)) = true := by rw [decide_eq_true_eq]; omega
          clear hgt hx
          go_wp2_with fail
          go_roundg (t.size + 1 - (i + 1))
          case measure => have := HI.out; have := HIT.out; omega
          case rel => exact ⟨i + 1, by first | rfl | (rw [show (i : Int) + 1 = ((i + 1 : Nat) : Int) by omega]), HFIN, ⟨by have := HI.out; omega, by have := HIT.out; omega, rfl⟩⟩
        · have h3 : decide (x < (i : Int)) = false := by rw [decide_eq_false_iff_not]; omega
          clear hgt hx
          go_wp2_with fail
          go_roundg (t.size + 1 - (i + 1))
          case measure => have := HI.out; have := HIT.out; omega
          case rel => exact ⟨i + 1, by first | rfl | (rw [show (i : Int) + 1 = ((i + 1 : Nat) : Int) by omega]), HFIN, ⟨by have := HI.out; omega, by have := HIT.out; omega, rfl⟩⟩
    · have e1 : decide ((i : Int) ≤ (t.size : Int)) = false := by rw [decide_eq_false_iff_not]; omega
      have e2 : decide (i ≤ t.size) = false := by rw [decide_eq_false_iff_not]; omega
      clear hi
      go_wp2_with fail
      go_ret
      exact ⟨rfl, below_trans HB3.out HB4.out⟩
end Go.Proofs.Ytkjljnneghnpiaa
