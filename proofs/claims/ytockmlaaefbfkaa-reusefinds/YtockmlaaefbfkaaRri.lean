import Derived.Test.YtockmlaaefbfkaaRen
namespace Go.Proofs.Ytockmlaaefbfkaa
open Go.RowKit Go.Maps

/-- Leaves in memory. -/
abbrev Lv (W : World) (v : Value) (l : List Lf) : Prop := Rw W v l.length (flat lf l)
theorem Lv.at {W : World} {a : Option Addr} {n cap : Nat} {l : List Lf} (h : Rw W (.slice a n cap) n (flat lf l)) (hn : l.length = n) (i : Nat) (hi : i < n) : ∃ g o, a = some ⟨g, o, none⟩ ∧ ∀ W', Below W.heap.size W W' → (W'.cell? ⟨g, o + i * 6, none⟩ = some (.int .i64 (l.getD i lfd).t) ∧ W'.cell? ⟨g, o + i * 6 + 1, none⟩ = some (.int .i64 (l.getD i lfd).p) ∧ W'.cell? ⟨g, o + i * 6 + 2, none⟩ = some (.int .i64 (l.getD i lfd).l) ∧ W'.cell? ⟨g, o + i * 6 + 3, none⟩ = some (.int .i64 (l.getD i lfd).k) ∧ W'.cell? ⟨g, o + i * 6 + 4, none⟩ = some (.int .u64 (l.getD i lfd).v) ∧ W'.cell? ⟨g, o + i * 6 + 5, none⟩ = some (.string (l.getD i lfd).a)) := by
  obtain ⟨g, o, c, e, hc⟩ := h.place (by omega)
  obtain ⟨rfl, -, -⟩ := Value.slice.inj e
  have hi' : i < l.length := by omega
  refine ⟨g, o, rfl, fun W' hW => ⟨?_, ?_, ?_, ?_, ?_, ?_⟩⟩
  · exact below_cell hW (hc _ _ (flat_get lf_len lfd l i 0 hi' (by decide)))
  · rw [Nat.add_assoc]; exact below_cell hW (hc _ _ (flat_get lf_len lfd l i 1 hi' (by decide)))
  · rw [Nat.add_assoc]; exact below_cell hW (hc _ _ (flat_get lf_len lfd l i 2 hi' (by decide)))
  · rw [Nat.add_assoc]; exact below_cell hW (hc _ _ (flat_get lf_len lfd l i 3 hi' (by decide)))
  · rw [Nat.add_assoc]; exact below_cell hW (hc _ _ (flat_get lf_len lfd l i 4 hi' (by decide)))
  · rw [Nat.add_assoc]; exact below_cell hW (hc _ _ (flat_get lf_len lfd l i 5 hi' (by decide)))
theorem drop_cons {α : Type} (l : List α) (d : α) (i : Nat) (h : i < l.length) : l.drop i = l.getD i d :: l.drop (i + 1) := by
  rw [List.drop_eq_getElem_cons h, List.getD_eq_getElem?_getD, List.getElem?_eq_getElem h]; rfl
set_option maxRecDepth 100000 in
set_option maxHeartbeats 8000000 in
theorem right_any {v : Value} {l : List Lf} (n : Int) (w : World) (h : Lv w v l) (hl : l.length ≤ 140737488355328) :
    Calls Try.prog 17 #[.int .i64 n, v] w fun e w' => e = .returned (.bool (rgt n l)) ∧ Below w.heap.size w w' := by
  have HH : Hid (Lv w v l) := h
  obtain ⟨a, cap, rfl⟩ := h.form
  obtain ⟨m, hm⟩ : ∃ m, l.length = m := ⟨_, rfl⟩
  have HM : Hid (l.length = m) := hm
  unfold Lv at HH
  rw [hm] at HH hl ⊢
  have HL : Hid (m ≤ 140737488355328) := hl
  clear h hm hl
  by_cases h0 : 0 ≤ n
  · have e1 : decide (n < 0) = false := by rw [decide_eq_false_iff_not]; omega
    by_cases h1 : n ≤ 1048576
    · have e2 : decide ((1048576 : Int) < n) = false := by rw [decide_eq_false_iff_not]; omega
      have HE : Hid (rgt n l = rgs n l) := by show _ = _; unfold rgt; simp [h0, h1]
      have HN0 : Hid (0 ≤ n ∧ n ≤ 1048576) := ⟨h0, h1⟩
      rw [HE.out]
      clear h0 h1 HE
      go_enter Try.func17, Try.ntmps17
      go_upto_region 4 with fail
      clear e1 e2
      go_loopg [0, 15] m (fun gm v0 v15 wr => ∃ (i : Nat) (q : Int), v15 = .int .i64 (i : Int) ∧ v0 = .int .i64 q ∧ Hid (i ≤ m ∧ gm = m - i) ∧ Hid (0 ≤ q ∧ q ≤ 1048576) ∧ Hid (rgs q (l.drop i) = rgs n l) ∧ Hid (Below w.heap.size w wr))
      case atStart => exact ⟨0, n, rfl, rfl, ⟨Nat.zero_le _, rfl⟩, HN0, rfl, Below.refl _ _⟩
      case round =>
        obtain ⟨i, q, rfl, rfl, HI, HQ, HR, HB⟩ := hrel
        by_cases hi : i < m
        · have e1 : decide ((i : Int) < (m : Int)) = true := by rw [decide_eq_true_eq]; omega
          have e2 : decide (i < m) = true := by rw [decide_eq_true_eq]; omega
          have b1 : (i : Int) < (m : Int) := by omega
          have b2 : i < m := hi
          have HIM : Hid (i < m) := hi
          have hwi := w64n i (by have := HL.out; omega)
          obtain ⟨g, o, rfl, hc⟩ := Lv.at HH.out HM.out i hi
          obtain ⟨c0, c1, c2, c3, c4, c5⟩ := hc _ HB.out
          have HRC : Hid (rgs q (l.getD i lfd :: l.drop (i + 1)) = rgs n l) := by rw [← drop_cons l lfd i (by have := HM.out; omega)]; exact HR
          obtain ⟨x, hx⟩ : ∃ x, l.getD i lfd = x := ⟨_, rfl⟩
          rw [hx] at c0 c1 c2 c3 c4 c5 HRC
          obtain ⟨xt, xp, xl, xk, xv, xa⟩ := x
          dsimp only at c0 c1 c2 c3 c4 c5
          have HU : Hid (∀ o, Below w.heap.size w (wr.alloc o)) := fun o => below_trans HB.out (bel_up _ _)
          clear hi hc hx
          obtain ⟨bp, hp⟩ : ∃ b, sml xp = b := ⟨_, rfl⟩
          obtain ⟨bl, hlb⟩ : ∃ b, sml xl = b := ⟨_, rfl⟩
          obtain ⟨bk, hk⟩ : ∃ b, sml xk = b := ⟨_, rfl⟩
          have HRB : Hid ((bp && bl && bk && (decide (0 ≤ q - (xp + xl)) && rgs (q - (xp + xl)) (l.drop (i + 1)))) = rgs n l) := by
            have h7 := HRC.out
            simp only [rgs, smL] at h7
            rw [hp, hlb, hk] at h7
            exact h7
          cases bp with
          | false =>
            go_wp2_with (go_at_call 29; refine Calls.mono (small_any _ _) ?_; rintro ee w1 ⟨rfl, rfl⟩)
            go_ret
            exact ⟨by rw [← HRB.out]; rfl, HU.out _⟩
          | true =>
            cases bl with
            | false =>
              go_wp2_with (go_at_call 29; refine Calls.mono (small_any _ _) ?_; rintro ee w1 ⟨rfl, rfl⟩)
              go_ret
              exact ⟨by rw [← HRB.out]; rfl, HU.out _⟩
            | true =>
              cases bk with
              | false =>
                go_wp2_with (go_at_call 29; refine Calls.mono (small_any _ _) ?_; rintro ee w1 ⟨rfl, rfl⟩)
                go_ret
                exact ⟨by rw [← HRB.out]; rfl, HU.out _⟩
              | true =>
                have HPL : Hid ((0 ≤ xp ∧ xp ≤ 1048577) ∧ (0 ≤ xl ∧ xl ≤ 1048577)) := by
                  unfold sml at hp hlb
                  simp only [Bool.and_eq_true, decide_eq_true_eq] at hp hlb
                  exact ⟨hp, hlb⟩
                have w1 : IntKind.i64.wrap (xp + xl) = xp + xl := by have := HPL.out; rw [IntKind.wrap_i64]; omega
                obtain ⟨q', hq'⟩ : ∃ q', q - (xp + xl) = q' := ⟨_, rfl⟩
                have HQQ : Hid (q - (xp + xl) = q') := hq'
                rw [hq'] at HRB
                have w2 : IntKind.i64.wrap (q - (xp + xl)) = q' := by have := HPL.out; have := HQ.out; rw [IntKind.wrap_i64]; omega
                clear hq'
                by_cases hz : q' < 0
                · have y1 : decide (q' < 0) = true := by rw [decide_eq_true_eq]; exact hz
                  have HY : Hid (decide (0 ≤ q') = false) := by show _ = _; rw [decide_eq_false_iff_not]; omega
                  clear hz
                  go_wp2_with (go_at_call 29; refine Calls.mono (small_any _ _) ?_; rintro ee w1 ⟨rfl, rfl⟩)
                  go_ret
                  exact ⟨by rw [← HRB.out, HY.out]; rfl, HU.out _⟩
                · have y1 : decide (q' < 0) = false := by rw [decide_eq_false_iff_not]; exact hz
                  have HY : Hid (decide (0 ≤ q') = true ∧ 0 ≤ q') := ⟨by rw [decide_eq_true_eq]; omega, by omega⟩
                  clear hz
                  go_wp2_with (go_at_call 29; refine Calls.mono (small_any _ _) ?_; rintro ee w1 ⟨rfl, rfl⟩)
                  go_roundg (m - (i + 1))
                  case measure => have := HI.out; have := HIM.out; omega
                  case rel => exact ⟨i + 1, q', by first | rfl | (rw [show (i : Int) + 1 = ((i + 1 : Nat) : Int) by omega]), rfl, ⟨HIM.out, rfl⟩, ⟨HY.out.2, by have := HQQ.out; have := HPL.out; have := HQ.out; omega⟩, by rw [← HRB.out, HY.out.1]; rfl, HU.out _⟩
        · have e1 : decide ((i : Int) < (m : Int)) = false := by rw [decide_eq_false_iff_not]; omega
          have e2 : decide (i < m) = false := by rw [decide_eq_false_iff_not]; omega
          have HE : Hid (rgs n l = true) := by
            show _ = _
            rw [← HR.out, List.drop_eq_nil_of_le (by have := HM.out; omega)]; rfl
          clear hi
          go_wp2_with fail
          go_ret
          exact ⟨by rw [HE.out]; rfl, HB.out⟩
    · have e2 : decide ((1048576 : Int) < n) = true := by rw [decide_eq_true_eq]; omega
      have HE : Hid (rgt n l = false) := by show _ = _; unfold rgt; simp [h1]
      rw [HE.out]
      clear h0 h1 HE
      go_enter Try.func17, Try.ntmps17
      go_wp2_with fail
      go_ret
      exact ⟨rfl, Below.refl _ _⟩
  · have e1 : decide (n < 0) = true := by rw [decide_eq_true_eq]; omega
    have HE : Hid (rgt n l = false) := by show _ = _; unfold rgt; simp [h0]
    rw [HE.out]
    clear h0 HE
    go_enter Try.func17, Try.ntmps17
    go_wp2_with fail
    go_ret
    exact ⟨rfl, Below.refl _ _⟩
end Go.Proofs.Ytockmlaaefbfkaa
