import Derived.Test.YtockmlaaefbfkaaRtw
namespace Go.Proofs.Ytockmlaaefbfkaa
open Go.RowKit Go.Maps

theorem rgs_no {q : Int} {x : Lf} {r : List Lf} (h : smL x = false ∨ q - (x.p + x.l) < 0) : rgs q (x :: r) = false := by
  simp only [rgs]
  rcases h with h | h
  · rw [h]; rfl
  · have : decide (0 ≤ q - (x.p + x.l)) = false := by rw [decide_eq_false_iff_not]; omega
    rw [this]; simp
set_option maxRecDepth 100000 in
theorem rclamp_any (z m : Int) (hm : 0 ≤ m) (w : World) : Calls Try.prog 22 #[.int .i64 z, .int .i64 0, .int .i64 m] w fun e w' => e = .returned (.int .i64 (clm z m)) ∧ w = w' := by
  by_cases h0 : z < 0
  · have e1 : decide (z < 0) = true := by rw [decide_eq_true_eq]; exact h0
    have HE : Hid (clm z m = 0) := by show _ = _; unfold clm; omega
    rw [HE.out]
    clear h0 HE hm
    go_enter Try.func22, Try.ntmps22
    go_wp2_with fail
    go_ret
    exact ⟨rfl, rfl⟩
  · have e1 : decide (z < 0) = false := by rw [decide_eq_false_iff_not]; exact h0
    by_cases h1 : m < z
    · have e2 : decide (m < z) = true := by rw [decide_eq_true_eq]; exact h1
      have HE : Hid (clm z m = m) := by show _ = _; unfold clm; omega
      rw [HE.out]
      clear h0 h1 HE hm
      go_enter Try.func22, Try.ntmps22
      go_wp2_with fail
      go_ret
      exact ⟨rfl, rfl⟩
    · have e2 : decide (m < z) = false := by rw [decide_eq_false_iff_not]; exact h1
      have HE : Hid (clm z m = z) := by show _ = _; unfold clm; omega
      rw [HE.out]
      clear h0 h1 HE hm
      go_enter Try.func22, Try.ntmps22
      go_wp2_with fail
      go_ret
      exact ⟨rfl, rfl⟩
set_option maxRecDepth 100000 in
set_option maxHeartbeats 16000000 in
theorem rRight_any {v : Value} {l : List Lf} (n : Int) (w : World) (h : Lv w v l) (hl : l.length ≤ 140737488355328) :
    Calls Try.prog 21 #[.int .i64 n, rsv ru v] w fun e w' => e = .returned (.bool (rgt n l)) ∧ Below w.heap.size w w' := by
  have HH : Hid (Lv w v l) := h
  obtain ⟨a, cap, rfl⟩ := h.form
  obtain ⟨m, hm⟩ : ∃ m, l.length = m := ⟨_, rfl⟩
  have HM : Hid (l.length = m) := hm
  unfold Lv at HH
  rw [hm] at HH hl ⊢
  have HL : Hid (m ≤ 140737488355328) := hl
  clear h hm hl
  obtain ⟨N, hN⟩ : ∃ N, w.heap.size = N := ⟨_, rfl⟩
  obtain ⟨W1, hW1⟩ : ∃ W1, W1 = w.alloc (.cells #[.int .i64 0, .int .i64 0, .int .u64 0, .slice a m cap, .slice none 0 0, .int .i64 0] 33) := ⟨_, rfl⟩
  have HB1 : Hid (Below w.heap.size w W1) := by rw [hW1]; exact bel_up _ _
  have HR1 : Hid (Rb N (.slice a m cap) W1) := by rw [hW1, ← hN]; exact heap_new w _
  rw [rsv_is]
  unfold rsA
  by_cases h0 : 0 ≤ n
  · have e1 : decide (n < 0) = false := by rw [decide_eq_false_iff_not]; omega
    by_cases h1 : n ≤ 1048576
    · have e2 : decide ((1048576 : Int) < n) = false := by rw [decide_eq_false_iff_not]; omega
      have HE : Hid (rgt n l = rgs n l) := by show _ = _; unfold rgt; simp [h0, h1]
      have HN0 : Hid (0 ≤ n ∧ n ≤ 1048576) := ⟨h0, h1⟩
      rw [HE.out]
      clear h0 h1 HE
      go_enter Try.func21, Try.ntmps21
      go_upto_region 1 with fail
      rw [← hW1]
      clear hW1
      go_upto_region 5 with fail
      clear e1 e2
      go_loopg [5, 6] m (fun gm v5 v6 wr => ∃ (i : Nat) (q : Int), v6 = .int .i64 (i : Int) ∧ v5 = .int .i64 q ∧ Hid (i ≤ m ∧ gm = m - i) ∧ Hid (0 ≤ q ∧ q ≤ n) ∧ Hid (rgs (n - q) (l.drop i) = rgs n l) ∧ Hid (Below W1.heap.size W1 wr))
      case atStart => exact ⟨0, 0, rfl, rfl, ⟨Nat.zero_le _, rfl⟩, ⟨Int.le_refl _, HN0.out.1⟩, by rw [Int.sub_zero]; exact rfl, Below.refl _ _⟩
      case round =>
        obtain ⟨i, q, rfl, rfl, HI, HQ, HR, HB⟩ := hrel
        obtain ⟨-, -, -, r3, -, -⟩ := (HR1.out.up HB.out).cs
        by_cases hi : i < m
        · have e1 : decide ((i : Int) < (m : Int)) = true := by rw [decide_eq_true_eq]; omega
          have e2 : decide (i < m) = true := by rw [decide_eq_true_eq]; omega
          have b1 : (i : Int) < (m : Int) := by omega
          have b2 : i < m := hi
          have HIM : Hid (i < m) := hi
          have hwi := w64n i (by have := HL.out; omega)
          obtain ⟨g, o, rfl, hc⟩ := Lv.at HH.out HM.out i hi
          obtain ⟨c0, c1, c2, c3, c4, c5⟩ := hc _ (below_trans HB1.out HB.out)
          have HRC : Hid (rgs (n - q) (l.getD i lfd :: l.drop (i + 1)) = rgs n l) := by rw [← drop_cons l lfd i (by have := HM.out; omega)]; exact HR
          obtain ⟨x, hx⟩ : ∃ x, l.getD i lfd = x := ⟨_, rfl⟩
          rw [hx] at c0 c1 c2 c3 c4 c5 HRC
          obtain ⟨xt, xp, xl, xk, xv, xa⟩ := x
          dsimp only at c0 c1 c2 c3 c4 c5
          have HU : Hid (∀ o, Below w.heap.size w (wr.alloc o)) := fun o => below_trans HB1.out (below_trans HB.out (bel_up _ _))
          have HU2 : Hid (∀ o, Below W1.heap.size W1 (wr.alloc o)) := fun o => below_trans HB.out (bel_up _ _)
          have HNO : Hid (smL ⟨xt, xp, xl, xk, xv, xa⟩ = false ∨ n - q - (xp + xl) < 0 → rgs n l = false) := fun h7 => by rw [← HRC.out]; exact rgs_no h7
          clear hi hc hx
          by_cases g0 : xp < 0
          · have y0 : decide (xp < 0) = true := by rw [decide_eq_true_eq]; exact g0
            have HF : Hid (rgs n l = false) := HNO.out (.inl (by unfold smL sml; simp only [Bool.and_eq_false_iff, decide_eq_false_iff_not]; omega))
            clear g0
            go_wp2_with fail
            go_ret
            exact ⟨by rw [HF.out]; rfl, HU.out _⟩
          · have y0 : decide (xp < 0) = false := by rw [decide_eq_false_iff_not]; exact g0
            by_cases g1 : xl < 0
            · have y1 : decide (xl < 0) = true := by rw [decide_eq_true_eq]; exact g1
              have HF : Hid (rgs n l = false) := HNO.out (.inl (by unfold smL sml; simp only [Bool.and_eq_false_iff, decide_eq_false_iff_not]; omega))
              clear g0 g1
              go_wp2_with fail
              go_ret
              exact ⟨by rw [HF.out]; rfl, HU.out _⟩
            · have y1 : decide (xl < 0) = false := by rw [decide_eq_false_iff_not]; exact g1
              by_cases g2 : xk < 0
              · have y2 : decide (xk < 0) = true := by rw [decide_eq_true_eq]; exact g2
                have HF : Hid (rgs n l = false) := HNO.out (.inl (by unfold smL sml; simp only [Bool.and_eq_false_iff, decide_eq_false_iff_not]; omega))
                clear g0 g1 g2
                go_wp2_with fail
                go_ret
                exact ⟨by rw [HF.out]; rfl, HU.out _⟩
              · have y2 : decide (xk < 0) = false := by rw [decide_eq_false_iff_not]; exact g2
                by_cases g3 : 1048577 < xp
                · have y3 : decide ((1048577 : Int) < xp) = true := by rw [decide_eq_true_eq]; exact g3
                  have HF : Hid (rgs n l = false) := HNO.out (.inl (by unfold smL sml; simp only [Bool.and_eq_false_iff, decide_eq_false_iff_not]; omega))
                  clear g0 g1 g2 g3
                  go_wp2_with fail
                  go_ret
                  exact ⟨by rw [HF.out]; rfl, HU.out _⟩
                · have y3 : decide ((1048577 : Int) < xp) = false := by rw [decide_eq_false_iff_not]; exact g3
                  by_cases g4 : 1048577 < xl
                  · have y4 : decide ((1048577 : Int) < xl) = true := by rw [decide_eq_true_eq]; exact g4
                    have HF : Hid (rgs n l = false) := HNO.out (.inl (by unfold smL sml; simp only [Bool.and_eq_false_iff, decide_eq_false_iff_not]; omega))
                    clear g0 g1 g2 g3 g4
                    go_wp2_with fail
                    go_ret
                    exact ⟨by rw [HF.out]; rfl, HU.out _⟩
                  · have y4 : decide ((1048577 : Int) < xl) = false := by rw [decide_eq_false_iff_not]; exact g4
                    by_cases g5 : 1048577 < xk
                    · have y5 : decide ((1048577 : Int) < xk) = true := by rw [decide_eq_true_eq]; exact g5
                      have HF : Hid (rgs n l = false) := HNO.out (.inl (by unfold smL sml; simp only [Bool.and_eq_false_iff, decide_eq_false_iff_not]; omega))
                      clear g0 g1 g2 g3 g4 g5
                      go_wp2_with fail
                      go_ret
                      exact ⟨by rw [HF.out]; rfl, HU.out _⟩
                    · have y5 : decide ((1048577 : Int) < xk) = false := by rw [decide_eq_false_iff_not]; exact g5
                      have HX : Hid ((0 ≤ xp ∧ xp ≤ 1048577) ∧ (0 ≤ xl ∧ xl ≤ 1048577) ∧ (0 ≤ xk ∧ xk ≤ 1048577)) := ⟨⟨by omega, by omega⟩, ⟨by omega, by omega⟩, ⟨by omega, by omega⟩⟩
                      clear g0 g1 g2 g3 g4 g5
                      have w1 : IntKind.i64.wrap (q + xp) = q + xp := by have := HX.out; have := HQ.out; have := HN0.out; rw [IntKind.wrap_i64]; omega
                      have w2 : IntKind.i64.wrap (q + xp + xl) = q + xp + xl := by have := HX.out; have := HQ.out; have := HN0.out; rw [IntKind.wrap_i64]; omega
                      by_cases gs : n < q + xp + xl
                      · have ys : decide (n < q + xp + xl) = true := by rw [decide_eq_true_eq]; exact gs
                        have HF : Hid (rgs n l = false) := HNO.out (.inr (by omega))
                        clear gs
                        go_wp2_with fail
                        go_ret
                        exact ⟨by rw [HF.out]; rfl, HU.out _⟩
                      · have ys : decide (n < q + xp + xl) = false := by rw [decide_eq_false_iff_not]; exact gs
                        have HRN : Hid (rgs (n - (q + xp + xl)) (l.drop (i + 1)) = rgs n l) := by
                          show _ = _
                          have h9 := HX.out
                          rw [← HRC.out]
                          simp only [rgs]
                          have s1 : smL ⟨xt, xp, xl, xk, xv, xa⟩ = true := by unfold smL sml; simp [h9]
                          have s2 : decide (0 ≤ n - q - (xp + xl)) = true := by rw [decide_eq_true_eq]; omega
                          rw [s1, s2, show n - q - (xp + xl) = n - (q + xp + xl) by omega]; rfl
                        have HQ2 : Hid (0 ≤ q + xp + xl ∧ q + xp + xl ≤ n) := ⟨by have := HX.out; have := HQ.out; omega, by omega⟩
                        clear gs
                        go_wp2_with fail
                        go_roundg (m - (i + 1))
                        case measure => have := HI.out; have := HIM.out; omega
                        case rel => exact ⟨i + 1, q + xp + xl, by first | rfl | (rw [show (i : Int) + 1 = ((i + 1 : Nat) : Int) by omega]), rfl, ⟨HIM.out, rfl⟩, HQ2, HRN, HU2.out _⟩
        · have e1 : decide ((i : Int) < (m : Int)) = false := by rw [decide_eq_false_iff_not]; omega
          have e2 : decide (i < m) = false := by rw [decide_eq_false_iff_not]; omega
          have HE : Hid (rgs n l = true) := by
            show _ = _
            rw [← HR.out, List.drop_eq_nil_of_le (by have := HM.out; omega)]; rfl
          clear hi
          go_wp2_with fail
          go_ret
          exact ⟨by rw [HE.out]; rfl, below_trans HB1.out HB.out⟩
    · have e2 : decide ((1048576 : Int) < n) = true := by rw [decide_eq_true_eq]; omega
      have HE : Hid (rgt n l = false) := by show _ = _; unfold rgt; simp [h1]
      rw [HE.out]
      clear h0 h1 HE
      go_enter Try.func21, Try.ntmps21
      go_wp2_with fail
      go_ret
      exact ⟨rfl, bel_up _ _⟩
  · have e1 : decide (n < 0) = true := by rw [decide_eq_true_eq]; omega
    have HE : Hid (rgt n l = false) := by show _ = _; unfold rgt; simp [h0]
    rw [HE.out]
    clear h0 HE
    go_enter Try.func21, Try.ntmps21
    go_wp2_with fail
    go_ret
    exact ⟨rfl, bel_up _ _⟩
/-- A model in memory. -/
structure Mo (B : Nat) (W : World) (p : Nat) (v : Value) (L : List Lf) (A D I : Int) : Prop where
  h : W.heap[p]? = some (.cells #[v, .int .i64 A, .int .i64 D, .int .i64 I] 68 (0, 0))
  r : W.ownsRow B 36 6 v L.length (flat lf L)
  pb : B ≤ p
theorem Mo.up {B p : Nat} {W W' : World} {v : Value} {L : List Lf} {A D I : Int} (h : Mo B W p v L A D I) (hb : Below W.heap.size W W') : Mo B W' p v L A D I := ⟨(hb.block p (lt_of_heap h.h)).trans h.h, row_up h.r hb, h.pb⟩
/-- Where the leaf i begins. -/
def bgs (L : List Lf) (i : Nat) : Int := (L.take i).foldl (fun s x => s + (x.p + x.l)) 0
theorem bgs_succ (L : List Lf) (i : Nat) (h : i < L.length) : bgs L (i + 1) = bgs L i + ((L.getD i lfd).p + (L.getD i lfd).l) := by
  unfold bgs; rw [take_getD L lfd i h, List.foldl_append]; rfl
/-- Leaves that are right for a text. -/
def Rts (L : List Lf) : Prop := ∃ n, n ≤ 1048576 ∧ 0 ≤ n ∧ rgs n L = true
theorem rts_at {L : List Lf} (h : Rts L) : ∀ i, i ≤ L.length → ∃ n, 0 ≤ n - bgs L i ∧ 0 ≤ bgs L i ∧ n ≤ 1048576 ∧ rgs (n - bgs L i) (L.drop i) = true := by
  obtain ⟨n, h1, h0, h2⟩ := h
  intro i
  induction i with
  | zero => intro _; exact ⟨n, by show 0 ≤ n - 0; omega, Int.le_refl _, h1, by show rgs (n - 0) _ = true; rw [Int.sub_zero]; exact h2⟩
  | succ i ih =>
    intro hi
    obtain ⟨n', g1, g2, g3, g4⟩ := ih (by omega)
    rw [drop_cons L lfd i (by omega)] at g4
    obtain ⟨⟨hp, hl, hk⟩, s1, s2⟩ := rgs_step g4
    rw [bgs_succ L i (by omega)]
    exact ⟨n', by omega, by omega, g3, by rw [show n' - (bgs L i + ((L.getD i lfd).p + (L.getD i lfd).l)) = n' - bgs L i - ((L.getD i lfd).p + (L.getD i lfd).l) by omega]; exact s2⟩
theorem rts_in {L : List Lf} (h : Rts L) (i : Nat) (hi : i < L.length) : (0 ≤ bgs L i ∧ bgs L i ≤ 1048576) ∧ (0 ≤ (L.getD i lfd).p ∧ (L.getD i lfd).p ≤ 1048577) ∧ (0 ≤ (L.getD i lfd).l ∧ (L.getD i lfd).l ≤ 1048577) ∧ (0 ≤ (L.getD i lfd).k ∧ (L.getD i lfd).k ≤ 1048577) := by
  obtain ⟨n, g1, g2, g3, g4⟩ := rts_at h i (by omega)
  rw [drop_cons L lfd i hi] at g4
  obtain ⟨⟨hp, hl, hk⟩, _, _⟩ := rgs_step g4
  exact ⟨⟨g2, by omega⟩, hp, hl, hk⟩
theorem below_drewN {B : Nat} {a w : World} (h : Below B a w) (n : Nat) : Below B a (w.drewN n) := ⟨h.os, h.tape, h.output, h.size, h.block⟩
set_option maxRecDepth 100000 in
set_option maxHeartbeats 8000000 in
theorem begins_any {B p : Nat} {v : Value} {L : List Lf} {A D I : Int} (w : World) (h : Mo B w p v L A D I) (hr : Rts L) (hl : L.length ≤ 140737488355328) (i : Nat) (hi : i ≤ L.length) :
    Calls Try.prog 25 #[.pointer (some ⟨p, 0, none⟩), .int .i64 (i : Int)] w fun e w' => e = .returned (.int .i64 (bgs L i)) ∧ Below w.heap.size w w' := by
  have HH : Hid (Mo B w p v L A D I) := h
  have HRT : Hid (Rts L) := hr
  have HIL : Hid (i ≤ L.length) := hi
  have HL : Hid (L.length ≤ 140737488355328) := hl
  obtain ⟨a, cap, rfl⟩ := row_shape h.r
  clear h hr hl hi
  obtain ⟨R, hR⟩ : ∃ R, bgs L i = R := ⟨_, rfl⟩
  have HR : Hid (bgs L i = R) := hR
  rw [hR]
  clear hR
  obtain ⟨m, hm⟩ : ∃ m, L.length = m := ⟨_, rfl⟩
  have HM : Hid (L.length = m) := hm
  rw [hm] at HH HIL HL
  clear hm
  go_enter Try.func25, Try.ntmps25
  go_upto_region 3 with fail
  go_loopg [5, 6] i (fun gm v5 v6 wr => ∃ (k : Nat), v6 = .int .i64 (k : Int) ∧ v5 = .int .i64 (bgs L k) ∧ Hid (k ≤ i ∧ gm = i - k) ∧ Hid (Below w.heap.size w wr))
  case atStart => exact ⟨0, rfl, rfl, ⟨Nat.zero_le _, rfl⟩, Below.refl _ _⟩
  case round =>
    obtain ⟨k, rfl, rfl, HK, HB⟩ := hrel
    by_cases hk : k < i
    · have e1 : decide ((k : Int) < (i : Int)) = true := by rw [decide_eq_true_eq]; omega
      have e2 : decide (k < i) = true := by rw [decide_eq_true_eq]; omega
      have HKI : Hid (k < i) := hk
      have b1 : (k : Int) < (m : Int) := by have := HIL.out; omega
      have b2 : k < m := by have := HIL.out; omega
      have hwi := w64n k (by have := HL.out; omega)
      have hMo := HH.out.up HB.out
      have p0 := rcell hMo.h 0 _ rfl
      have hrw := row_rw hMo.r (by decide)
      rw [HM.out] at hrw
      obtain ⟨g, o, rfl, hc⟩ := Lv.at hrw HM.out k b2
      obtain ⟨-, c1, c2, -, -, -⟩ := hc _ (Below.refl _ _)
      have hin := rts_in HRT.out k (by have := HM.out; omega)
      have HSU : Hid (bgs L (k + 1) = bgs L k + ((L.getD k lfd).p + (L.getD k lfd).l)) := bgs_succ L k (by have := HM.out; omega)
      obtain ⟨x, hx⟩ : ∃ x, L.getD k lfd = x := ⟨_, rfl⟩
      obtain ⟨bg, hbg⟩ : ∃ bg, bgs L k = bg := ⟨_, rfl⟩
      rw [hx] at c1 c2 hin HSU
      rw [hbg] at hin HSU ⊢
      obtain ⟨xt, xp, xl, xk, xv, xa⟩ := x
      dsimp only at c1 c2 hin HSU
      have w1 : IntKind.i64.wrap (bg + xp) = bg + xp := by rw [IntKind.wrap_i64]; omega
      have w2 : IntKind.i64.wrap (bg + xp + xl) = bg + xp + xl := by rw [IntKind.wrap_i64]; omega
      clear hk hMo hrw hc hin hx hbg
      go_upto_region 5 with fail
      go_quiet (fail)
      have HB9 : Hid (Below w.heap.size w (wr.drewN nq)) := below_drewN HB.out _
      generalize wr.drewN nq = W9 at HB9 ⊢
      clear p0 c1 c2
      go_wp2_with fail
      go_roundg (i - (k + 1))
      case measure => have := HK.out; have := HKI.out; omega
      case rel => exact ⟨k + 1, by first | rfl | (rw [show (k : Int) + 1 = ((k + 1 : Nat) : Int) by omega]), by rw [HSU.out, Int.add_assoc], ⟨HKI.out, rfl⟩, HB9⟩
    · have e1 : decide ((k : Int) < (i : Int)) = false := by rw [decide_eq_false_iff_not]; omega
      have e2 : decide (k < i) = false := by rw [decide_eq_false_iff_not]; omega
      have HKE : Hid (bgs L k = R) := by rw [← HR.out, show k = i by have := HK.out; omega]; exact rfl
      rw [HKE.out]
      clear hk
      go_wp2_with fail
      go_ret
      exact ⟨rfl, HB.out⟩
set_option maxRecDepth 100000 in
set_option maxHeartbeats 8000000 in
theorem stays_any {B p : Nat} {v : Value} {L : List Lf} {A D I : Int} (w : World) (h : Mo B w p v L A D I) (hr : Rts L) (hl : L.length ≤ 140737488355328) (i : Nat) (hi : i < L.length) :
    Calls Try.prog 23 #[.pointer (some ⟨p, 0, none⟩), .int .i64 (i : Int)] w fun e w' => e = .returned (.bool (ahd A (bgs L i) (L.getD i lfd))) ∧ Below w.heap.size w w' := by
  have HBG : Hid (∀ W, Mo B W p v L A D I → Calls Try.prog 25 #[.pointer (some ⟨p, 0, none⟩), .int .i64 (i : Int)] W fun e w' => e = .returned (.int .i64 (bgs L i)) ∧ Below W.heap.size W w') := fun W h7 => begins_any W h7 hr hl i (by omega)
  have hin := rts_in hr i hi
  obtain ⟨a, cap, rfl⟩ := row_shape h.r
  obtain ⟨m, hm⟩ : ∃ m, L.length = m := ⟨_, rfl⟩
  have HM : Hid (L.length = m) := hm
  rw [hm] at h hi hl HBG
  have b1 : (i : Int) < (m : Int) := by omega
  have b2 : i < m := hi
  have hrw := row_rw h.r (by decide)
  rw [hm] at hrw
  obtain ⟨g, o, rfl, hc⟩ := Lv.at hrw hm i hi
  have HH : Hid (Mo B w p (.slice (some ⟨g, o, none⟩) m cap) L A D I) := h
  have HC : Hid (∀ W', Below w.heap.size w W' → W'.cell? ⟨g, o + i * 6 + 3, none⟩ = some (.int .i64 (L.getD i lfd).k)) := fun W' hb => (hc W' hb).2.2.2.1
  obtain ⟨x, hx⟩ : ∃ x, L.getD i lfd = x := ⟨_, rfl⟩
  obtain ⟨bg, hbg⟩ : ∃ bg, bgs L i = bg := ⟨_, rfl⟩
  rw [hx] at hin HC ⊢
  rw [hbg] at hin HBG ⊢
  have w1 : IntKind.i64.wrap (bg + x.k) = bg + x.k := by rw [IntKind.wrap_i64]; omega
  unfold ahd
  clear h hr hl hi hm hrw hc hx hbg hin
  go_enter Try.func23, Try.ntmps23
  go_upto_region 1 with fail
  refine wp_region_noPanic ?_
  refine wp_region_held_drew (S := fun V => V.cell? ⟨p, 0, none⟩ = some (.slice (some ⟨g, o, none⟩) m cap) ∧ V.cell? ⟨p, 1, none⟩ = some (.int .i64 A) ∧ V.cell? ⟨g, o + i * 6 + 3, none⟩ = some (.int .i64 x.k)) (by kernel_rfl) ⟨rcell (W := w.drew) HH.out.h 0 _ rfl, rcell (W := w.drew) HH.out.h 1 _ rfl, HC.out _ (Below.drew (Below.refl _ _))⟩ (fun hHeld => ?_)
  obtain ⟨WD, hWD⟩ : ∃ WD, w.drew = WD := ⟨_, rfl⟩
  have HMD : Hid (Mo B WD p (.slice (some ⟨g, o, none⟩) m cap) L A D I) := by rw [← hWD]; exact HH.out.up (Below.drew (Below.refl _ _))
  have HBD : Hid (Below w.heap.size w WD) := by rw [← hWD]; exact Below.drew (Below.refl _ _)
  rw [hWD] at hHeld ⊢
  clear hWD
  refine wpAnyH_take (i := 0) (oi := { dst := _, op := _, type := _, pos := _, after := _, guard := _ }) (v := ?_) rfl (by kernel_rfl) (by kernel_rfl) (by kernel_rfl) (fun _ _ _ h => h) (Or.inl ⟨by rfl, ?_⟩) (by assumption) ?_
  rotate_left
  · intro W hSw
    (try dsimp only at hSw)
    obtain ⟨t0, t1, t2⟩ := hSw
    go_simp
    (try with_reducible rfl)
  try simp only [Act.put, List.setIfInBounds_toArray, List.set_cons_zero, List.set_cons_succ]
  refine wpAnyH_take (i := 1) (oi := { dst := _, op := _, type := _, pos := _, after := _, guard := _ }) (v := ?_) rfl (by kernel_rfl) (by kernel_rfl) (by kernel_rfl) (fun _ _ _ h => h) (Or.inl ⟨by rfl, ?_⟩) (by assumption) ?_
  rotate_left
  · intro W hSw
    (try dsimp only at hSw)
    obtain ⟨t0, t1, t2⟩ := hSw
    go_simp
    (try with_reducible rfl)
  try simp only [Act.put, List.setIfInBounds_toArray, List.set_cons_zero, List.set_cons_succ]
  refine wpAnyH_take (i := 3) (oi := { dst := _, op := _, type := _, pos := _, after := _, guard := _ }) (v := ?_) rfl (by kernel_rfl) (by kernel_rfl) (by kernel_rfl) (fun _ _ _ h => h) (Or.inl ⟨by rfl, ?_⟩) (by assumption) ?_
  rotate_left
  · intro W hSw
    (try dsimp only at hSw)
    obtain ⟨t0, t1, t2⟩ := hSw
    go_simp
    (try with_reducible rfl)
  try simp only [Act.put, List.setIfInBounds_toArray, List.set_cons_zero, List.set_cons_succ]
  refine wpAnyH_take (i := 4) (oi := { dst := _, op := _, type := _, pos := _, after := _, guard := _ }) (v := ?_) rfl (by kernel_rfl) (by kernel_rfl) (by kernel_rfl) (fun _ _ _ h => h) (Or.inl ⟨by rfl, ?_⟩) (by assumption) ?_
  rotate_left
  · intro W hSw
    (try dsimp only at hSw)
    obtain ⟨t0, t1, t2⟩ := hSw
    go_simp
    (try with_reducible rfl)
  try simp only [Act.put, List.setIfInBounds_toArray, List.set_cons_zero, List.set_cons_succ]
  refine wpAnyH_take (i := 5) (oi := { dst := _, op := _, type := _, pos := _, after := _, guard := _ }) (v := ?_) rfl (by kernel_rfl) (by kernel_rfl) (by kernel_rfl) (fun _ _ _ h => h) (Or.inl ⟨by rfl, ?_⟩) (by assumption) ?_
  rotate_left
  · intro W hSw
    (try dsimp only at hSw)
    obtain ⟨t0, t1, t2⟩ := hSw
    go_simp
    (try with_reducible rfl)
  try simp only [Act.put, List.setIfInBounds_toArray, List.set_cons_zero, List.set_cons_succ]
  refine wpAnyH_take (i := 6) (oi := { dst := _, op := _, type := _, pos := _, after := _, guard := _ }) (v := ?_) rfl (by kernel_rfl) (by kernel_rfl) (by kernel_rfl) (fun _ _ _ h => h) (Or.inl ⟨by rfl, ?_⟩) (by assumption) ?_
  rotate_left
  · intro W hSw
    (try dsimp only at hSw)
    obtain ⟨t0, t1, t2⟩ := hSw
    go_simp
    (try with_reducible rfl)
  try simp only [Act.put, List.setIfInBounds_toArray, List.set_cons_zero, List.set_cons_succ]
  refine wpAnyH_take (i := 7) (oi := { dst := _, op := _, type := _, pos := _, after := _, guard := _ }) (v := ?_) rfl (by kernel_rfl) (by kernel_rfl) (by kernel_rfl) (fun _ _ _ h => h) (Or.inl ⟨by rfl, ?_⟩) (by assumption) ?_
  rotate_left
  · intro W hSw
    (try dsimp only at hSw)
    obtain ⟨t0, t1, t2⟩ := hSw
    go_simp
    (try with_reducible rfl)
  try simp only [Act.put, List.setIfInBounds_toArray, List.set_cons_zero, List.set_cons_succ]
  refine wpAnyH_take (i := 8) (oi := { dst := _, op := _, type := _, pos := _, after := _, guard := _ }) (v := ?_) rfl (by kernel_rfl) (by kernel_rfl) (by kernel_rfl) (fun _ _ _ h => h) (Or.inl ⟨by rfl, ?_⟩) (by assumption) ?_
  rotate_left
  · intro W hSw
    (try dsimp only at hSw)
    obtain ⟨t0, t1, t2⟩ := hSw
    go_simp
    (try with_reducible rfl)
  try simp only [Act.put, List.setIfInBounds_toArray, List.set_cons_zero, List.set_cons_succ]
  refine wpAnyH_take (i := 9) (oi := { dst := _, op := _, type := _, pos := _, after := _, guard := _ }) (v := ?_) rfl (by kernel_rfl) (by kernel_rfl) (by kernel_rfl) (fun _ _ _ h => h) (Or.inl ⟨by rfl, ?_⟩) (by assumption) ?_
  rotate_left
  · intro W hSw
    (try dsimp only at hSw)
    obtain ⟨t0, t1, t2⟩ := hSw
    go_simp
    (try with_reducible rfl)
  try simp only [Act.put, List.setIfInBounds_toArray, List.set_cons_zero, List.set_cons_succ]
  refine wpAnyH_take (i := 10) (oi := { dst := _, op := _, type := _, pos := _, after := _, guard := _ }) (v := ?_) rfl (by kernel_rfl) (by kernel_rfl) (by kernel_rfl) (fun _ _ _ h => h) (Or.inl ⟨by rfl, ?_⟩) (by assumption) ?_
  rotate_left
  · intro W hSw
    (try dsimp only at hSw)
    obtain ⟨t0, t1, t2⟩ := hSw
    go_simp
    (try with_reducible rfl)
  try simp only [Act.put, List.setIfInBounds_toArray, List.set_cons_zero, List.set_cons_succ]
  refine wpAnyH_take (i := 12) (oi := { dst := _, op := _, type := _, pos := _, after := _, guard := _ }) (v := ?_) rfl (by kernel_rfl) (by kernel_rfl) (by kernel_rfl) (fun _ _ _ h => h) (Or.inl ⟨by rfl, ?_⟩) (by assumption) ?_
  rotate_left
  · intro W hSw
    (try dsimp only at hSw)
    obtain ⟨t0, t1, t2⟩ := hSw
    go_simp
    (try with_reducible rfl)
  try simp only [Act.put, List.setIfInBounds_toArray, List.set_cons_zero, List.set_cons_succ]
  refine wpAnyH_take (i := 13) (oi := { dst := _, op := _, type := _, pos := _, after := _, guard := _ }) (v := ?_) rfl (by kernel_rfl) (by kernel_rfl) (by kernel_rfl) (fun _ _ _ h => h) (Or.inl ⟨by rfl, ?_⟩) (by assumption) ?_
  rotate_left
  · intro W hSw
    (try dsimp only at hSw)
    obtain ⟨t0, t1, t2⟩ := hSw
    go_simp
    (try with_reducible rfl)
  try simp only [Act.put, List.setIfInBounds_toArray, List.set_cons_zero, List.set_cons_succ]
  refine wpAnyH_take (i := 14) (oi := { dst := _, op := _, type := _, pos := _, after := _, guard := _ }) (v := ?_) rfl (by kernel_rfl) (by kernel_rfl) (by kernel_rfl) (fun _ _ _ h => h) (Or.inl ⟨by rfl, ?_⟩) (by assumption) ?_
  rotate_left
  · intro W hSw
    (try dsimp only at hSw)
    obtain ⟨t0, t1, t2⟩ := hSw
    go_simp
    (try with_reducible rfl)
  try simp only [Act.put, List.setIfInBounds_toArray, List.set_cons_zero, List.set_cons_succ]
  refine wpAnyH_take (i := 15) (oi := { dst := _, op := _, type := _, pos := _, after := _, guard := _ }) (v := ?_) rfl (by kernel_rfl) (by kernel_rfl) (by kernel_rfl) (fun _ _ _ h => h) (Or.inl ⟨by rfl, ?_⟩) (by assumption) ?_
  rotate_left
  · intro W hSw
    (try dsimp only at hSw)
    obtain ⟨t0, t1, t2⟩ := hSw
    go_simp
    (try with_reducible rfl)
  try simp only [Act.put, List.setIfInBounds_toArray, List.set_cons_zero, List.set_cons_succ]
  refine wpAnyH_ready (rs := [2]) (by kernel_rfl) (by simp) ?_
  refine AllReadyH.cons (o := { dst := _, op := _, type := _, pos := _, after := _, guard := _ }) rfl (fun K hK => ?_) AllReadyH.nil
  go_simp
  refine Calls.mono (HBG.out WD HMD.out) ?_
  rintro ee W2 ⟨rfl, hb2⟩
  have HB2 : Hid (Below w.heap.size w W2) := below_trans HBD.out hb2
  have HM2 : Hid (Mo B W2 p (.slice (some ⟨g, o, none⟩) m cap) L A D I) := HMD.out.up hb2
  clear hb2
  refine hK.out _ _ ?_ (fun hHeld => ?_)
  · first | exact trivial | (exact ⟨rcell (W := W2) HM2.out.h 0 _ rfl, rcell (W := W2) HM2.out.h 1 _ rfl, HC.out _ HB2.out⟩)
  clear hK K
  try simp only [Act.put, List.setIfInBounds_toArray, List.set_cons_zero, List.set_cons_succ]
  refine wpAnyH_take (i := 11) (oi := { dst := _, op := _, type := _, pos := _, after := _, guard := _ }) (v := ?_) rfl (by kernel_rfl) (by kernel_rfl) (by kernel_rfl) (fun _ _ _ h => h) (Or.inl ⟨by rfl, ?_⟩) (by assumption) ?_
  rotate_left
  · intro W hSw
    (try dsimp only at hSw)
    obtain ⟨t0, t1, t2⟩ := hSw
    go_simp
    (try with_reducible rfl)
  try simp only [Act.put, List.setIfInBounds_toArray, List.set_cons_zero, List.set_cons_succ]
  refine wpAnyH_take (i := 16) (oi := { dst := _, op := _, type := _, pos := _, after := _, guard := _ }) (v := ?_) rfl (by kernel_rfl) (by kernel_rfl) (by kernel_rfl) (fun _ _ _ h => h) (Or.inl ⟨by rfl, ?_⟩) (by assumption) ?_
  rotate_left
  · intro W hSw
    (try dsimp only at hSw)
    obtain ⟨t0, t1, t2⟩ := hSw
    go_simp
    (try with_reducible rfl)
  try simp only [Act.put, List.setIfInBounds_toArray, List.set_cons_zero, List.set_cons_succ]
  refine wpAnyH_take (i := 17) (oi := { dst := _, op := _, type := _, pos := _, after := _, guard := _ }) (v := ?_) rfl (by kernel_rfl) (by kernel_rfl) (by kernel_rfl) (fun _ _ _ h => h) (Or.inl ⟨by rfl, ?_⟩) (by assumption) ?_
  rotate_left
  · intro W hSw
    (try dsimp only at hSw)
    obtain ⟨t0, t1, t2⟩ := hSw
    go_simp
    (try with_reducible rfl)
  try simp only [Act.put, List.setIfInBounds_toArray, List.set_cons_zero, List.set_cons_succ]
  refine wpAnyH_done (by kernel_rfl) ?_ _
  refine NoPanic.normal ?_
  go_wp2_with fail
  go_ret
  exact ⟨rfl, HB2.out⟩
set_option maxRecDepth 100000 in
set_option maxHeartbeats 8000000 in
theorem moves_any {B p : Nat} {v : Value} {L : List Lf} {A D I : Int} (w : World) (h : Mo B w p v L A D I) (hr : Rts L) (hl : L.length ≤ 140737488355328) (i : Nat) (hi : i < L.length) (hA : 0 ≤ A ∧ A ≤ 1048576) (hD : 0 ≤ D ∧ D ≤ 1048576) :
    Calls Try.prog 24 #[.pointer (some ⟨p, 0, none⟩), .int .i64 (i : Int)] w fun e w' => e = .returned (.bool (beh A D (bgs L i))) ∧ Below w.heap.size w w' := by
  have HBG : Hid (∀ W, Mo B W p v L A D I → Calls Try.prog 25 #[.pointer (some ⟨p, 0, none⟩), .int .i64 (i : Int)] W fun e w' => e = .returned (.int .i64 (bgs L i)) ∧ Below W.heap.size W w') := fun W h7 => begins_any W h7 hr hl i (by omega)
  have hin := rts_in hr i hi
  obtain ⟨a, cap, rfl⟩ := row_shape h.r
  obtain ⟨m, hm⟩ : ∃ m, L.length = m := ⟨_, rfl⟩
  have HM : Hid (L.length = m) := hm
  rw [hm] at h hi hl HBG
  have b1 : (i : Int) < (m : Int) := by omega
  have b2 : i < m := hi
  have hrw := row_rw h.r (by decide)
  rw [hm] at hrw
  obtain ⟨g, o, rfl, hc⟩ := Lv.at hrw hm i hi
  have HH : Hid (Mo B w p (.slice (some ⟨g, o, none⟩) m cap) L A D I) := h
  have HC : Hid (∀ W', Below w.heap.size w W' → W'.cell? ⟨g, o + i * 6 + 3, none⟩ = some (.int .i64 (L.getD i lfd).k)) := fun W' hb => (hc W' hb).2.2.2.1
  obtain ⟨x, hx⟩ : ∃ x, L.getD i lfd = x := ⟨_, rfl⟩
  obtain ⟨bg, hbg⟩ : ∃ bg, bgs L i = bg := ⟨_, rfl⟩
  rw [hx] at hin HC
  rw [hbg] at hin HBG ⊢
  have w1 : IntKind.i64.wrap (A + D) = A + D := by rw [IntKind.wrap_i64]; omega
  unfold beh
  clear h hr hl hi hm hrw hc hx hbg hin hA hD
  go_enter Try.func24, Try.ntmps24
  go_upto_region 1 with fail
  refine wp_region_noPanic ?_
  refine wp_region_held_drew (S := fun V => V.cell? ⟨p, 1, none⟩ = some (.int .i64 A) ∧ V.cell? ⟨p, 2, none⟩ = some (.int .i64 D)) (by kernel_rfl) ⟨rcell (W := w.drew) HH.out.h 1 _ rfl, rcell (W := w.drew) HH.out.h 2 _ rfl⟩ (fun hHeld => ?_)
  obtain ⟨WD, hWD⟩ : ∃ WD, w.drew = WD := ⟨_, rfl⟩
  have HMD : Hid (Mo B WD p (.slice (some ⟨g, o, none⟩) m cap) L A D I) := by rw [← hWD]; exact HH.out.up (Below.drew (Below.refl _ _))
  have HBD : Hid (Below w.heap.size w WD) := by rw [← hWD]; exact Below.drew (Below.refl _ _)
  rw [hWD] at hHeld ⊢
  clear hWD
  refine wpAnyH_take (i := 0) (oi := { dst := _, op := _, type := _, pos := _, after := _, guard := _ }) (v := ?_) rfl (by kernel_rfl) (by kernel_rfl) (by kernel_rfl) (fun _ _ _ h => h) (Or.inl ⟨by rfl, ?_⟩) (by assumption) ?_
  rotate_left
  · intro W hSw
    (try dsimp only at hSw)
    obtain ⟨t0, t1⟩ := hSw
    go_simp
    (try with_reducible rfl)
  try simp only [Act.put, List.setIfInBounds_toArray, List.set_cons_zero, List.set_cons_succ]
  refine wpAnyH_take (i := 1) (oi := { dst := _, op := _, type := _, pos := _, after := _, guard := _ }) (v := ?_) rfl (by kernel_rfl) (by kernel_rfl) (by kernel_rfl) (fun _ _ _ h => h) (Or.inl ⟨by rfl, ?_⟩) (by assumption) ?_
  rotate_left
  · intro W hSw
    (try dsimp only at hSw)
    obtain ⟨t0, t1⟩ := hSw
    go_simp
    (try with_reducible rfl)
  try simp only [Act.put, List.setIfInBounds_toArray, List.set_cons_zero, List.set_cons_succ]
  refine wpAnyH_take (i := 3) (oi := { dst := _, op := _, type := _, pos := _, after := _, guard := _ }) (v := ?_) rfl (by kernel_rfl) (by kernel_rfl) (by kernel_rfl) (fun _ _ _ h => h) (Or.inl ⟨by rfl, ?_⟩) (by assumption) ?_
  rotate_left
  · intro W hSw
    (try dsimp only at hSw)
    obtain ⟨t0, t1⟩ := hSw
    go_simp
    (try with_reducible rfl)
  try simp only [Act.put, List.setIfInBounds_toArray, List.set_cons_zero, List.set_cons_succ]
  refine wpAnyH_take (i := 4) (oi := { dst := _, op := _, type := _, pos := _, after := _, guard := _ }) (v := ?_) rfl (by kernel_rfl) (by kernel_rfl) (by kernel_rfl) (fun _ _ _ h => h) (Or.inl ⟨by rfl, ?_⟩) (by assumption) ?_
  rotate_left
  · intro W hSw
    (try dsimp only at hSw)
    obtain ⟨t0, t1⟩ := hSw
    go_simp
    (try with_reducible rfl)
  try simp only [Act.put, List.setIfInBounds_toArray, List.set_cons_zero, List.set_cons_succ]
  refine wpAnyH_take (i := 5) (oi := { dst := _, op := _, type := _, pos := _, after := _, guard := _ }) (v := ?_) rfl (by kernel_rfl) (by kernel_rfl) (by kernel_rfl) (fun _ _ _ h => h) (Or.inl ⟨by rfl, ?_⟩) (by assumption) ?_
  rotate_left
  · intro W hSw
    (try dsimp only at hSw)
    obtain ⟨t0, t1⟩ := hSw
    go_simp
    (try with_reducible rfl)
  try simp only [Act.put, List.setIfInBounds_toArray, List.set_cons_zero, List.set_cons_succ]
  refine wpAnyH_take (i := 6) (oi := { dst := _, op := _, type := _, pos := _, after := _, guard := _ }) (v := ?_) rfl (by kernel_rfl) (by kernel_rfl) (by kernel_rfl) (fun _ _ _ h => h) (Or.inl ⟨by rfl, ?_⟩) (by assumption) ?_
  rotate_left
  · intro W hSw
    (try dsimp only at hSw)
    obtain ⟨t0, t1⟩ := hSw
    go_simp
    (try with_reducible rfl)
  try simp only [Act.put, List.setIfInBounds_toArray, List.set_cons_zero, List.set_cons_succ]
  refine wpAnyH_take (i := 7) (oi := { dst := _, op := _, type := _, pos := _, after := _, guard := _ }) (v := ?_) rfl (by kernel_rfl) (by kernel_rfl) (by kernel_rfl) (fun _ _ _ h => h) (Or.inl ⟨by rfl, ?_⟩) (by assumption) ?_
  rotate_left
  · intro W hSw
    (try dsimp only at hSw)
    obtain ⟨t0, t1⟩ := hSw
    go_simp
    (try with_reducible rfl)
  try simp only [Act.put, List.setIfInBounds_toArray, List.set_cons_zero, List.set_cons_succ]
  refine wpAnyH_take (i := 8) (oi := { dst := _, op := _, type := _, pos := _, after := _, guard := _ }) (v := ?_) rfl (by kernel_rfl) (by kernel_rfl) (by kernel_rfl) (fun _ _ _ h => h) (Or.inl ⟨by rfl, ?_⟩) (by assumption) ?_
  rotate_left
  · intro W hSw
    (try dsimp only at hSw)
    obtain ⟨t0, t1⟩ := hSw
    go_simp
    (try with_reducible rfl)
  try simp only [Act.put, List.setIfInBounds_toArray, List.set_cons_zero, List.set_cons_succ]
  refine wpAnyH_take (i := 9) (oi := { dst := _, op := _, type := _, pos := _, after := _, guard := _ }) (v := ?_) rfl (by kernel_rfl) (by kernel_rfl) (by kernel_rfl) (fun _ _ _ h => h) (Or.inl ⟨by rfl, ?_⟩) (by assumption) ?_
  rotate_left
  · intro W hSw
    (try dsimp only at hSw)
    obtain ⟨t0, t1⟩ := hSw
    go_simp
    (try with_reducible rfl)
  try simp only [Act.put, List.setIfInBounds_toArray, List.set_cons_zero, List.set_cons_succ]
  refine wpAnyH_take (i := 10) (oi := { dst := _, op := _, type := _, pos := _, after := _, guard := _ }) (v := ?_) rfl (by kernel_rfl) (by kernel_rfl) (by kernel_rfl) (fun _ _ _ h => h) (Or.inl ⟨by rfl, ?_⟩) (by assumption) ?_
  rotate_left
  · intro W hSw
    (try dsimp only at hSw)
    obtain ⟨t0, t1⟩ := hSw
    go_simp
    (try with_reducible rfl)
  try simp only [Act.put, List.setIfInBounds_toArray, List.set_cons_zero, List.set_cons_succ]
  refine wpAnyH_take (i := 11) (oi := { dst := _, op := _, type := _, pos := _, after := _, guard := _ }) (v := ?_) rfl (by kernel_rfl) (by kernel_rfl) (by kernel_rfl) (fun _ _ _ h => h) (Or.inl ⟨by rfl, ?_⟩) (by assumption) ?_
  rotate_left
  · intro W hSw
    (try dsimp only at hSw)
    obtain ⟨t0, t1⟩ := hSw
    go_simp
    (try with_reducible rfl)
  try simp only [Act.put, List.setIfInBounds_toArray, List.set_cons_zero, List.set_cons_succ]
  refine wpAnyH_ready (rs := [2]) (by kernel_rfl) (by simp) ?_
  refine AllReadyH.cons (o := { dst := _, op := _, type := _, pos := _, after := _, guard := _ }) rfl (fun K hK => ?_) AllReadyH.nil
  go_simp
  refine Calls.mono (HBG.out WD HMD.out) ?_
  rintro ee W2 ⟨rfl, hb2⟩
  have HB2 : Hid (Below w.heap.size w W2) := below_trans HBD.out hb2
  have HM2 : Hid (Mo B W2 p (.slice (some ⟨g, o, none⟩) m cap) L A D I) := HMD.out.up hb2
  clear hb2
  refine hK.out _ _ ?_ (fun hHeld => ?_)
  · first | exact trivial | (exact ⟨rcell (W := W2) HM2.out.h 1 _ rfl, rcell (W := W2) HM2.out.h 2 _ rfl⟩)
  clear hK K
  try simp only [Act.put, List.setIfInBounds_toArray, List.set_cons_zero, List.set_cons_succ]
  refine wpAnyH_take (i := 12) (oi := { dst := _, op := _, type := _, pos := _, after := _, guard := _ }) (v := ?_) rfl (by kernel_rfl) (by kernel_rfl) (by kernel_rfl) (fun _ _ _ h => h) (Or.inl ⟨by rfl, ?_⟩) (by assumption) ?_
  rotate_left
  · intro W hSw
    (try dsimp only at hSw)
    obtain ⟨t0, t1⟩ := hSw
    go_simp
    (try with_reducible rfl)
  try simp only [Act.put, List.setIfInBounds_toArray, List.set_cons_zero, List.set_cons_succ]
  refine wpAnyH_take (i := 13) (oi := { dst := _, op := _, type := _, pos := _, after := _, guard := _ }) (v := ?_) rfl (by kernel_rfl) (by kernel_rfl) (by kernel_rfl) (fun _ _ _ h => h) (Or.inl ⟨by rfl, ?_⟩) (by assumption) ?_
  rotate_left
  · intro W hSw
    (try dsimp only at hSw)
    obtain ⟨t0, t1⟩ := hSw
    go_simp
    (try with_reducible rfl)
  try simp only [Act.put, List.setIfInBounds_toArray, List.set_cons_zero, List.set_cons_succ]
  refine wpAnyH_done (by kernel_rfl) ?_ _
  refine NoPanic.normal ?_
  go_wp2_with fail
  go_ret
  exact ⟨rfl, HB2.out⟩
end Go.Proofs.Ytockmlaaefbfkaa
