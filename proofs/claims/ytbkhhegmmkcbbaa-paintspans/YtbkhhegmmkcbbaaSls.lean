import Derived.Test.YtbkhhegmmkcbbaaSrs
import Derived.Test.YtbkhhegmmkcbbaaSsa
import Derived.Test.YtbkhhegmmkcbbaaTbe
namespace Go.Proofs.Ytbkhhegmmkcbbaa
open Go.RowKit Go.Maps

set_option maxRecDepth 100000 in
set_option maxHeartbeats 16000000 in
/-- PaintSpans. -/
theorem paintSpans_any {v u : Value} {L : List Pa} {T : List Nd} (w : World) (h : Pl w v L) (hT : Ns w u T) (hz : Zp L T) (hI : ∀ x ∈ T, inI x.fr ∧ inI x.tt ∧ inI x.kd) : Calls Try.prog 5 #[v, u] w fun e w' => e = .returned (.bool true) ∧ Below w.heap.size w w' := by
  have HP : Hid (Pl w v L) := h
  have HT : Hid (Ns w u T) := hT
  have HZ : Hid (Zp L T) := hz
  have HBY : Hid _ := beyond_any w hT hz.tl
  obtain ⟨X, hX⟩ : ∃ X, spn (lcl L) T = X := ⟨_, rfl⟩
  have HXL : Hid (X.length < 4611686018427387904) := by
    have a1 := spn_le (lcl L) T
    rw [hX] at a1
    have h9 := hz.tl
    unfold Sm at h9
    show _ < _
    omega
  have HLA : Hid (∀ W, Below w.heap.size w W → Calls Try.prog 8 #[v] W fun e w' => ∃ v', e = .returned (.agg (lgA v')) ∧ Pl w' v' L ∧ Below W.heap.size W w') := fun W hW => lang_any W (HP.out.up hW) HZ.out.ll
  have HTW : Hid (∀ W, Below w.heap.size w W → Calls Try.prog 13 #[u] W fun e w' => ∃ v', e = .returned v' ∧ Ns w' v' T ∧ Below W.heap.size W w') := fun W hW => twin_any W (HT.out.up hW) HZ.out.tl
  have HSN : Hid (∀ W v' u', Pl W v' L → Ns W u' T → Calls Try.prog 9 #[.agg (lgA v'), u'] W fun e w' => ∃ vo, e = .returned vo ∧ Qs w' vo X ∧ Below W.heap.size W w') := fun W v' u' h1 h2 => by
    refine Calls.mono (spans_any W h1 h2 HZ.out (fun x hx => ⟨(hI x hx).1, (hI x hx).2.1⟩)) ?_
    rintro e w' ⟨vo, rfl, ho, hb⟩
    rw [hX] at ho
    exact ⟨vo, rfl, row_rw ho (by decide), hb⟩
  have HRS : Hid (∀ W v', Pl W v' L → Below w.heap.size w W → Calls Try.prog 14 #[.agg (lgA v'), u] W fun e w' => ∃ vo, e = .returned vo ∧ Qs w' vo X ∧ Below W.heap.size W w') := fun W v' h1 h2 => by
    refine Calls.mono (rspans_any W h1 (HT.out.up h2) HZ.out hI) ?_
    rintro e w' ⟨vo, rfl, ho, hb⟩
    rw [hX] at ho
    exact ⟨vo, rfl, row_rw ho (by decide), hb⟩
  have HSA : Hid (∀ W u', Ns W u' T → Below w.heap.size w W → Calls Try.prog 15 #[u', u] W fun e w' => e = .returned (.bool true) ∧ Below W.heap.size W w') := fun W u' h1 h2 => by
    have h9 := same_any HZ.out.tl W h1 (HT.out.up h2)
    rw [decide_eq_true rfl] at h9
    exact h9
  obtain ⟨a, cap, rfl⟩ := h.form
  obtain ⟨a2, cap2, rfl⟩ := hT.form
  clear h hT hz hX hI
  unfold lgA at HLA HSN HRS
  go_enter Try.func5, Try.ntmps5
  go_upto_if 8 with (go_at_call 7; refine Calls.mono HBY.out ?_; rintro e w1 ⟨b, rfl, hb1⟩; have HB1 : Hid (Below w.heap.size w w1) := hb1; clear hb1)
  cases b with
  | true =>
    go_wp2_with fail
    go_ret
    exact ⟨rfl, HB1.out⟩
  | false =>
    go_upto_region 4 with (go_at_call 13; refine Calls.mono (HTW.out _ HB1.out) ?_; rintro e w2 ⟨u2, rfl, hn2, hb2⟩; have HN2 : Hid (Ns w2 u2 T) := hn2; have HB2 : Hid (Below w.heap.size w w2) := below_trans HB1.out hb2; clear hn2 hb2)
    go_upto_region 5 with first | (go_at_call 8; refine Calls.mono (HLA.out _ HB2.out) ?_; rintro e w3 ⟨v3, rfl, hn3, hb3⟩; have HP3 : Hid (Pl w3 v3 L) := hn3; have HN3 : Hid (Ns w3 u2 T) := HN2.out.up hb3; have HB3 : Hid (Below w.heap.size w w3) := below_trans HB2.out hb3; clear hn3 hb3) | (go_at_call 9; refine Calls.mono (HSN.out _ _ _ HP3.out HN3.out) ?_; rintro e w4 ⟨s4, rfl, hq4, hb4⟩; have HQ4 : Hid (Qs w4 s4 X) := hq4; have HN4 : Hid (Ns w4 u2 T) := HN3.out.up hb4; have HB4 : Hid (Below w.heap.size w w4) := below_trans HB3.out hb4; clear hq4 hb4)
    go_wp2_with first | (go_at_call 8; refine Calls.mono (HLA.out _ HB4.out) ?_; rintro e w5 ⟨v5, rfl, hn5, hb5⟩; have HP5 : Hid (Pl w5 v5 L) := hn5; have HN5 : Hid (Ns w5 u2 T) := HN4.out.up hb5; have HQ5 : Hid (Qs w5 s4 X) := HQ4.out.up hb5; have HB5 : Hid (Below w.heap.size w w5) := below_trans HB4.out hb5; clear hn5 hb5) | (go_at_call 14; refine Calls.mono (HRS.out _ _ HP5.out HB5.out) ?_; rintro e w6 ⟨s6, rfl, hq6, hb6⟩; have HR6 : Hid (Qs w6 s6 X) := hq6; have HQ6 : Hid (Qs w6 s4 X) := HQ5.out.up hb6; have HN6 : Hid (Ns w6 u2 T) := HN5.out.up hb6; have HB6 : Hid (Below w.heap.size w w6) := below_trans HB5.out hb6; clear hq6 hb6) | (go_at_call 11; refine Calls.mono (sameSpans_any HXL.out w6 HQ6.out HR6.out) ?_; rintro e w7 ⟨rfl, hb7⟩; have HN7 : Hid (Ns w7 u2 T) := HN6.out.up hb7; have HB7 : Hid (Below w.heap.size w w7) := below_trans HB6.out hb7; clear hb7) | (go_at_call 15; refine Calls.mono (HSA.out _ _ HN7.out HB7.out) ?_; rintro e w8 ⟨rfl, hb8⟩; have HB8 : Hid (Below w.heap.size w w8) := below_trans HB7.out hb8; clear hb8)
    go_ret
    exact ⟨rfl, HB8.out⟩
end Go.Proofs.Ytbkhhegmmkcbbaa
