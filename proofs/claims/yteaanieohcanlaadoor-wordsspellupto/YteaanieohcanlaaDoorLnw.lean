import Derived.Test.YteaanieohcanlaaDoorLnt
namespace Go.Proofs.YteaanieohcanlaaDoor
open Go.RowKit Go.Maps

set_option maxRecDepth 100000 in
set_option maxHeartbeats 8000000 in
theorem still_any {v : Value} {B g cap : Nat} (l : List Wd) (w : World) (hm : Lnt B w g cap l.length l) (h : Rw w v l.length (wC l)) (hl : l.length ≤ 1000000000000) :
    Calls Tryd.prog 18 #[.slice (some ⟨g, 0, none⟩) l.length cap, v] w fun e w' => e = .returned (.bool true) ∧ Below w.heap.size w w' := by
  have HS : Hid (∀ W, Below w.heap.size w W → Calls Tryd.prog 13 #[.slice (some ⟨g, 0, none⟩) l.length cap, v] W fun e w' => e = .returned (.bool (decide (l = l))) ∧ Below W.heap.size W w') := fun W hW => same_any l l W (hm.rw.up hW) (h.up hW) (by omega)
  have HM : Hid (∀ W, Below w.heap.size w W → Lnt B W g cap l.length l) := fun W hW => row_up hm hW
  obtain ⟨a1, g1, o1, q1, rfl, hq1, hn1, hsq, hc1⟩ := h
  have HL : Hid (l.length ≤ 1000000000000) := hl
  obtain ⟨g', cap', hsl, hg, hnc, hcm⟩ := row_form hm (by omega)
  injection hsl with hs1 hs2 hs3
  subst hs3
  clear hs1 hsq
  obtain ⟨N, hN⟩ : ∃ N, l.length + 20 = N := ⟨_, rfl⟩
  have hwn : IntKind.i64.wrap ((l.length : Int) + 20) = (N : Int) := by rw [IntKind.wrap_i64]; omega
  have hb1 : (N : Int) ≤ (cap : Int) := by omega
  have hb2 : N ≤ cap := by omega
  have HN : Hid (l.length + 20 = N) := hN
  clear hl hq1 hn1 hc1 hm hnc hcm hg hs2 hN
  go_enter Tryd.func18, Tryd.ntmps18
  go_wp2_with fail
  go_loopg [6] 20 (fun gm v6 wr => ∃ i : Nat, v6 = .int .i64 (i : Int) ∧ Hid (i ≤ 20 ∧ gm = 20 - i) ∧ Hid (Below w.heap.size w wr))
  case atStart => exact ⟨0, rfl, ⟨Nat.zero_le _, rfl⟩, Below.refl _ _⟩
  case round =>
    obtain ⟨i, rfl, HII, HB⟩ := hrel
    by_cases hi : i < 20
    · have e1 : decide ((i : Int) < 20) = true := by rw [decide_eq_true_eq]; omega
      have e2 : decide (i < 20) = true := by rw [decide_eq_true_eq]; omega
      have HIL : Hid (i < 20) := hi
      obtain ⟨p0, p1, p2, p3⟩ := (HM.out wr HB.out).get i hi
      have hwi := w64n i (by omega)
      obtain ⟨M, hM⟩ : ∃ M, 900 + i = M := ⟨_, rfl⟩
      have hwm : IntKind.i64.wrap ((900 : Int) + (i : Int)) = (M : Int) := by rw [IntKind.wrap_i64]; omega
      obtain ⟨K, hK⟩ : ∃ K, l.length + i = K := ⟨_, rfl⟩
      have hwk : IntKind.i64.wrap ((l.length : Int) + (i : Int)) = (K : Int) := by have := HL.out; rw [IntKind.wrap_i64]; omega
      have k1 : (K : Int) < (N : Int) := by have := HN.out; omega
      have k2 : K < N := by omega
      rw [hK] at p0 p1 p2 p3
      rw [hM] at p2
      have HSW : Hid _ := sameword_any ⟨0, [], (M : Int), 7⟩ ⟨0, [], (M : Int), 7⟩ wr
      clear hi hM hK
      go_wp2_with fail
      refine Calls.mono HSW.out ?_
      rintro e w2 ⟨rfl, b2⟩
      rw [show decide True = true from rfl]
      have HB2 : Hid (Below w.heap.size w w2) := below_trans HB.out b2
      clear b2
      go_wp2_with fail
      go_roundg (20 - (i + 1))
      case measure => have := HII.out; have := HIL.out; omega
      case rel => exact ⟨i + 1, by simp, ⟨HIL.out, rfl⟩, HB2⟩
    · have e1 : decide ((i : Int) < 20) = false := by rw [decide_eq_false_iff_not]; omega
      have e2 : decide (i < 20) = false := by rw [decide_eq_false_iff_not]; omega
      clear hi
      go_wp2_with fail
      refine (HS.out wr HB.out).mono ?_
      rintro e w2 ⟨rfl, b2⟩
      rw [show decide True = true from rfl]
      have HB2 : Hid (Below w.heap.size w w2) := below_trans HB.out b2
      clear b2
      go_wp2_with fail
      go_ret
      exact ⟨rfl, HB2.out⟩
end Go.Proofs.YteaanieohcanlaaDoor
