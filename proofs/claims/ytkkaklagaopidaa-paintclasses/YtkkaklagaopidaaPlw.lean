import Derived.Test.YtkkaklagaopidaaPrc
import Derived.Test.YtkkaklagaopidaaTbe
namespace Go.Proofs.Ytkkaklagaopidaa
open Go.RowKit Go.Maps

set_option maxRecDepth 100000 in
set_option maxHeartbeats 8000000 in
/-- PaintClasses. -/
theorem paintClasses_any {v u : Value} {L : List Pa} {T : List Nd} (w : World) (h : Pl w v L) (hT : Ns w u T) (hz : Zp L T) (z : Int) : Calls Try.prog 3 #[v, u, .int .i64 z] w fun e w' => e = .returned (.bool true) ∧ Below w.heap.size w w' := by
  have HP : Hid (Pl w v L) := h
  have HT : Hid (Ns w u T) := hT
  have HZ : Hid (Zp L T) := hz
  have HBY : Hid _ := beyond_any w hT hz.tl
  obtain ⟨R, hR⟩ : ∃ R, cls L T z = R := ⟨_, rfl⟩
  have HLA : Hid (∀ W, Below w.heap.size w W → Calls Try.prog 7 #[v] W fun e w' => ∃ v', e = .returned (.agg (lgA v')) ∧ Pl w' v' L ∧ Below W.heap.size W w') := fun W hW => lang_any W (HP.out.up hW) HZ.out.ll
  have HTW : Hid (∀ W, Below w.heap.size w W → Calls Try.prog 5 #[u] W fun e w' => ∃ v', e = .returned v' ∧ Ns w' v' T ∧ Below W.heap.size W w') := fun W hW => twin_any W (HT.out.up hW) HZ.out.tl
  have HCL : Hid (∀ W v' u', Pl W v' L → Ns W u' T → Calls Try.prog 6 #[.agg (lgA v'), u', .int .i64 z] W fun e w' => e = .returned (.string R) ∧ Below W.heap.size W w') := fun W v' u' h1 h2 => by rw [← hR]; exact class_any W h1 h2 HZ.out z
  have HRC : Hid (∀ W v', Pl W v' L → Below w.heap.size w W → Calls Try.prog 8 #[.agg (lgA v'), u, .int .i64 z] W fun e w' => e = .returned (.string R) ∧ Below W.heap.size W w') := fun W v' h1 h2 => by rw [← hR]; exact rclass_any W h1 (HT.out.up h2) HZ.out z
  have HSA : Hid (∀ W u', Ns W u' T → Below w.heap.size w W → Calls Try.prog 9 #[u', u] W fun e w' => e = .returned (.bool true) ∧ Below W.heap.size W w') := fun W u' h1 h2 => by
    have h9 := same_any HZ.out.tl W h1 (HT.out.up h2)
    rw [decide_eq_true rfl] at h9
    exact h9
  obtain ⟨a, cap, rfl⟩ := h.form
  obtain ⟨a2, cap2, rfl⟩ := hT.form
  clear h hT hz hR
  unfold lgA at HLA HCL HRC
  go_enter Try.func3, Try.ntmps3
  go_upto_if 10 with (go_at_call 4; refine Calls.mono HBY.out ?_; rintro e w1 ⟨b, rfl, hb1⟩; have HB1 : Hid (Below w.heap.size w w1) := hb1; clear hb1)
  cases b with
  | true =>
    go_wp2_with fail
    go_ret
    exact ⟨rfl, HB1.out⟩
  | false =>
    go_upto_region 4 with (go_at_call 5; refine Calls.mono (HTW.out _ HB1.out) ?_; rintro e w2 ⟨u2, rfl, hn2, hb2⟩; have HN2 : Hid (Ns w2 u2 T) := hn2; have HB2 : Hid (Below w.heap.size w w2) := below_trans HB1.out hb2; clear hn2 hb2)
    go_upto_region 5 with first | (go_at_call 7; refine Calls.mono (HLA.out _ HB2.out) ?_; rintro e w3 ⟨v3, rfl, hn3, hb3⟩; have HP3 : Hid (Pl w3 v3 L) := hn3; have HN3 : Hid (Ns w3 u2 T) := HN2.out.up hb3; have HB3 : Hid (Below w.heap.size w w3) := below_trans HB2.out hb3; clear hn3 hb3) | (go_at_call 6; refine Calls.mono (HCL.out _ _ _ HP3.out HN3.out) ?_; rintro e w4 ⟨rfl, hb4⟩; have HN4 : Hid (Ns w4 u2 T) := HN3.out.up hb4; have HB4 : Hid (Below w.heap.size w w4) := below_trans HB3.out hb4; clear hb4)
    go_wp2_with first | (go_at_call 7; refine Calls.mono (HLA.out _ HB4.out) ?_; rintro e w5 ⟨v5, rfl, hn5, hb5⟩; have HP5 : Hid (Pl w5 v5 L) := hn5; have HN5 : Hid (Ns w5 u2 T) := HN4.out.up hb5; have HB5 : Hid (Below w.heap.size w w5) := below_trans HB4.out hb5; clear hn5 hb5) | (go_at_call 8; refine Calls.mono (HRC.out _ _ HP5.out HB5.out) ?_; rintro e w6 ⟨rfl, hb6⟩; have HN6 : Hid (Ns w6 u2 T) := HN5.out.up hb6; have HB6 : Hid (Below w.heap.size w w6) := below_trans HB5.out hb6; clear hb6) | (go_at_call 9; refine Calls.mono (HSA.out _ _ HN6.out HB6.out) ?_; rintro e w7 ⟨rfl, hb7⟩; have HB7 : Hid (Below w.heap.size w w7) := below_trans HB6.out hb7; clear hb7)
    go_ret
    exact ⟨rfl, HB7.out⟩
end Go.Proofs.Ytkkaklagaopidaa
