import Derived.Test.YtdchopljojlcpaaRla
namespace Go.Proofs.Ytdchopljojlcpaa
open Go.RowKit Go.Maps

set_option maxRecDepth 100000 in
set_option maxHeartbeats 4000000 in
theorem wanted_any (t : Int) (x : Nat) (hx : x < 18446744073709551616) (w : World) : Calls Try.prog 26 #[.int .i64 t, .int .u64 (x : Int)] w fun e w' => e = .returned (.bool (wan t x)) ∧ w' = w := by
  by_cases h1 : t = -1
  · subst h1
    go_enter Try.func26, Try.ntmps26
    go_wp2_with fail
    go_ret
    exact ⟨rfl, rfl⟩
  have z1 : (t == -1) = false := by rw [beq_eq_false_iff_ne]; exact h1
  by_cases h2 : 0 < t
  rotate_left
  · have hR : wan t x = false := by unfold wan; rw [decide_eq_false h1, decide_eq_false h2]; rfl
    have HR : Hid _ := hR
    have l1 : decide (0 < t) = false := decide_eq_false h2
    clear hR h1 h2
    go_enter Try.func26, Try.ntmps26
    go_wp2_with fail
    go_ret
    exact ⟨by rw [HR.out]; rfl, rfl⟩
  by_cases h3 : t ≤ 63
  rotate_left
  · have hR : wan t x = false := by unfold wan; rw [decide_eq_false h1, decide_eq_true h2, decide_eq_false h3]; rfl
    have HR : Hid _ := hR
    have l1 : decide (0 < t) = true := decide_eq_true h2
    have l2 : decide (t ≤ 63) = false := decide_eq_false h3
    clear hR h1
    go_enter Try.func26, Try.ntmps26
    go_wp2_with fail
    go_ret
    exact ⟨by rw [HR.out]; rfl, rfl⟩
  obtain ⟨k, rfl⟩ : ∃ k : Nat, t = (k : Int) := ⟨t.toNat, by omega⟩
  have hR : wan (k : Int) x = x.testBit k := by unfold wan; rw [decide_eq_false h1, decide_eq_true h2, decide_eq_true h3, Int.toNat_natCast]; simp
  have HR : Hid _ := hR
  have l1 : decide (0 < (k : Int)) = true := decide_eq_true h2
  have l2 : decide ((k : Int) ≤ 63) = true := decide_eq_true h3
  have l3 : (k : Int) ≤ 64 := by omega
  have l4 : (0 : Int) ≤ (k : Int) := by omega
  have l5 : decide (0 < k) = true := decide_eq_true (by omega)
  have l6 : decide (k ≤ 63) = true := decide_eq_true (by omega)
  have hb := u64_bit x k hx
  have HBIT : Hid _ := hb
  clear hR hb h1
  go_enter Try.func26, Try.ntmps26
  go_wp2_with fail
  go_ret
  refine ⟨?_, rfl⟩
  rw [HR.out]
  refine ret_bool ?_
  rw [HBIT.out]
  cases x.testBit k <;> rfl

set_option maxRecDepth 100000 in
set_option maxHeartbeats 4000000 in
theorem index_any {v : Value} {l : List Int} (w : World) (h : Rw w v l.length (iC l)) (y : Int) (hz : l.length ≤ 4611686018427387904) :
    Calls Try.prog 35 #[v, .int .i64 y] w fun e w' => ∃ r : Int, e = .returned (.int .i64 r) ∧ decide (0 ≤ r) = l.contains y ∧ Below w.heap.size w w' := by
  have HV : Hid (Rw w v l.length (iC l)) := h
  have HZ : Hid _ := hz
  obtain ⟨a, c, rfl⟩ := h.form
  clear h hz
  obtain ⟨n, hn⟩ : ∃ n, l.length = n := ⟨_, rfl⟩
  have HN : Hid (l.length = n) := hn
  rw [hn] at HV HZ ⊢
  clear hn
  go_enter Try.func35, Try.ntmps35
  go_upto_region 2 with fail
  go_loopg [8] n (fun gm v8 wr => ∃ i : Nat, v8 = .int .i64 (i : Int) ∧ Hid (Below w.heap.size w wr) ∧ Hid (i ≤ n ∧ gm = n - i) ∧ Hid (∀ j, j < i → l.getD j 0 ≠ y))
  case atStart => exact ⟨0, rfl, Below.refl _ _, ⟨Nat.zero_le _, rfl⟩, fun j hj => by omega⟩
  case round =>
    obtain ⟨i, rfl, HBW, HI, HA⟩ := hrel
    by_cases hi : i < n
    · obtain ⟨g, o, cap, e0, hc⟩ := HV.out.place (by omega)
      obtain ⟨rfl, -, rfl⟩ := Value.slice.inj e0
      obtain ⟨x, hx⟩ : ∃ x, l.getD i 0 = x := ⟨_, rfl⟩
      have ci := below_cell HBW.out (hc i _ (iC_get l i (by have := HN.out; omega)))
      rw [hx] at ci
      have HX : Hid (l.getD i 0 = x) := hx
      have e1 : decide ((i : Int) < (n : Int)) = true := by rw [decide_eq_true_eq]; omega
      have e2 : decide (i < n) = true := by rw [decide_eq_true_eq]; omega
      have e5 : (i : Int) < (n : Int) := by omega
      have hwr := w64n i (by have := HZ.out; omega)
      have HIL : Hid (i < n) := hi
      clear e0 hc hx
      by_cases hxy : y = x
      · have k1 : (y == x) = true := by rw [beq_iff_eq]; exact hxy
        have HXY : Hid _ := hxy
        clear hxy
        go_wp2_with fail
        go_ret
        refine ⟨_, rfl, ?_, HBW.out⟩
        rw [decide_eq_true (by omega)]
        symm
        rw [List.contains_iff_mem, HXY.out, ← HX.out, List.getD_eq_getElem?_getD, List.getElem?_eq_getElem (by have := HN.out; have := HIL.out; omega)]
        exact List.getElem_mem _
      · have k1 : (y == x) = false := by rw [beq_eq_false_iff_ne]; exact hxy
        have HXY : Hid _ := hxy
        clear hxy
        go_wp2_with fail
        go_roundg (n - (i + 1))
        case measure => have := HI.out; have := HIL.out; omega
        case rel => exact ⟨i + 1, by first | rfl | (rw [show (i : Int) + 1 = ((i + 1 : Nat) : Int) by omega]), HBW, ⟨HIL.out, rfl⟩, fun j hj => (by omega : j < i ∨ j = i).elim (HA.out j) (fun e => by rw [e, HX.out]; exact fun e => HXY.out e.symm)⟩
    · have e1 : decide ((i : Int) < (n : Int)) = false := by rw [decide_eq_false_iff_not]; omega
      have e2 : decide (i < n) = false := by rw [decide_eq_false_iff_not]; omega
      have HIN : Hid (i = n) := by have := HI.out; show i = n; omega
      clear hi
      go_wp2_with fail
      go_ret
      refine ⟨_, rfl, ?_, HBW.out⟩
      rw [decide_eq_false (by omega)]
      symm
      rw [← Bool.not_eq_true, List.contains_iff_mem]
      intro hm
      obtain ⟨j, hj, e⟩ := List.getElem_of_mem hm
      refine HA.out j (by have := HIN.out; have := HN.out; omega) ?_
      rw [List.getD_eq_getElem?_getD, List.getElem?_eq_getElem hj]
      exact e
set_option maxRecDepth 100000 in
theorem contains_any {v : Value} {l : List Int} (w : World) (h : Rw w v l.length (iC l)) (y : Int) (hz : l.length ≤ 4611686018427387904) :
    Calls Try.prog 27 #[v, .int .i64 y] w fun e w' => e = .returned (.bool (l.contains y)) ∧ Below w.heap.size w w' := by
  have HV : Hid (Rw w v l.length (iC l)) := h
  have HZ : Hid _ := hz
  obtain ⟨a, c, rfl⟩ := h.form
  clear h hz
  go_enter Try.func27, Try.ntmps27
  go_wp2_with (go_at_call 35; refine (index_any w HV.out y HZ.out).mono ?_; rintro e w2 ⟨r, rfl, hr, hb⟩; have HR : Hid _ := hr; have HB : Hid _ := hb; clear hr hb)
  go_ret
  refine ⟨?_, HB.out⟩
  refine ret_bool ?_
  rw [← HR.out]
/-- A boxed state. -/
@[reducible] def stC (vi vq vf : Value) (s : Stt) : Array Value := #[vi, .int .i64 s.pen, vq, vf, .int .u16 (s.flg : Int)]
theorem mod_nil {s : Stt} (h : s.frm.length = 0) : mod s = -1 := by unfold mod; rw [List.length_eq_zero_iff.1 h]; rfl
theorem mod_last {s : Stt} (h : 0 < s.frm.length) : mod s = (s.frm.getD (s.frm.length - 1) (0, ⟨#[]⟩)).1 := by
  unfold mod
  rw [List.getLastD_eq_getLast?, List.getLast?_eq_getElem?, List.getD_eq_getElem?_getD, List.getElem?_eq_getElem (by omega)]
  rfl
set_option maxRecDepth 100000 in
set_option maxHeartbeats 4000000 in
theorem mode2_any {vi vq vf : Value} {s : Stt} {b : Nat} (w : World) (h : Stm w vi vq vf s) (hb : w.heap[b]? = some (.cells (stC vi vq vf s) 33 (0, 0))) (hl : s.frm.length ≤ 4611686018427387904) :
    Calls Try.prog 28 #[.pointer (some ⟨b, 0, none⟩)] w fun e w' => e = .returned (.int .i64 (mod s)) ∧ Below w.heap.size w w' := by
  obtain ⟨a1, c1, a2, c2, a3, c3, rfl, rfl, rfl⟩ := h.form
  have p3 := rcell hb 3 (.slice a3 s.frm.length c3) rfl
  by_cases h0 : s.frm.length = 0
  · rw [mod_nil h0]
    rw [h0] at p3
    clear h hb
    go_enter Try.func28, Try.ntmps28
    go_wp2_with fail
    go_ret
    exact ⟨rfl, Below.refl _ _⟩
  obtain ⟨g, o, cap, e0, hc⟩ := h.f.place (by omega)
  obtain ⟨rfl, -, rfl⟩ := Value.slice.inj e0
  have ci := hc _ _ (fC_get s.frm (s.frm.length - 1) (by omega)).1
  rw [← mod_last (by omega)] at ci
  obtain ⟨n, hn⟩ : ∃ n, s.frm.length = n := ⟨_, rfl⟩
  obtain ⟨m, hm⟩ : ∃ m, s.frm.length - 1 = m := ⟨_, rfl⟩
  rw [hm] at ci
  rw [hn] at p3
  have z0 : ((n : Int) == 0) = false := by rw [beq_eq_false_iff_ne]; omega
  have hs1 : IntKind.i64.wrap ((n : Int) - 1) = (m : Int) := by rw [IntKind.wrap_i64]; omega
  have hs2 : (n : Int) - 1 = (m : Int) := by omega
  have hs5 : IntKind.i64.wrap (m : Int) = (m : Int) := by rw [IntKind.wrap_i64]; omega
  have hs3 : m < n := by omega
  have hs4 : (m : Int) < (n : Int) := by omega
  have z1 : (n == 0) = false := by rw [beq_eq_false_iff_ne]; omega
  have z2 : ¬ n = 0 := by omega
  clear h hb e0 hc h0 hn hm hl
  go_enter Try.func28, Try.ntmps28
  go_wp2_with fail
  go_region
  go_wp2_with fail
  go_ret
  exact ⟨rfl, Below.drew (Below.refl _ _)⟩
end Go.Proofs.Ytdchopljojlcpaa
