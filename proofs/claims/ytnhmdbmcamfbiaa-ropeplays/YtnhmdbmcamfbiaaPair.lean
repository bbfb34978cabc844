import Derived.Test.YtnhmdbmcamfbiaaBase
namespace Go.Proofs.Ytnhmdbmcamfbiaa
open Go.RowKit

theorem branch_new {w : World} {vl vr : Value} {l r : Rp.T} (hl : IsTree w vl l) (hr : IsTree w vr r) (n h : Int) (hn : n = ((l.len + r.len : Nat) : Int)) (hh : h = ((1 + max l.ht r.ht : Nat) : Int)) :
    IsTree (w.alloc (.cells #[vl, vr, .int .i64 n, .int .i64 h] 100)) (.iface 97 (.pointer (some ⟨w.heap.size, 0, none⟩))) (.branch l r) ∧ Below w.heap.size w (w.alloc (.cells #[vl, vr, .int .i64 n, .int .i64 h] 100)) := by
  have hb : Below w.heap.size w (w.alloc (.cells #[vl, vr, .int .i64 n, .int .i64 h] 100)) := (Below.refl _ _).alloc (Nat.le_refl _) _
  refine ⟨.branch _ vl vr l r ?_ ?_ ?_ ?_ (hl.mono hb) (hr.mono hb), hb⟩
  · simp
  · simp
  · simp [hn]
  · simp [hh]

set_option maxRecDepth 100000 in
set_option maxHeartbeats 400000 in
theorem pair_any (va vb : Value) (a b : Rp.T) (w : World) (ha : IsTree w va a) (hb : IsTree w vb b) (hal : a.len ≤ 4194304) (hbl : b.len ≤ 4194304) (hah : a.ht ≤ 4194305) (hbh : b.ht ≤ 4194305) :
    Calls Try.prog 42 #[va, vb] w fun e w' => ∃ p : Nat, e = .returned (.pointer (some ⟨p, 0, none⟩)) ∧ IsTree w' (.iface 97 (.pointer (some ⟨p, 0, none⟩))) (.branch a b) ∧ Below w.heap.size w w' := by
  obtain ⟨ua, xa, fsa, fla, rfl, msa, mla, esa, ela, csa, cla⟩ := ha.face
  obtain ⟨ub, xb, fsb, flb, rfl, msb, mlb, esb, elb, csb, clb⟩ := hb.face
  have HA : Hid _ := csa
  have HB : Hid _ := csb
  have HAl : Hid _ := cla
  have HBl : Hid _ := clb
  have hT : Hid _ := ha
  have hT2 : Hid _ := hb
  clear csa csb cla clb ha hb
  go_enter Try.func42, Try.ntmps42
  go_wp2_with fail
  refine (HA.out _ (Below.refl _ _)).mono ?_
  rintro e w' ⟨rfl, rfl⟩
  go_wp2_with fail
  refine (HB.out _ (Below.refl _ _)).mono ?_
  rintro e w' ⟨rfl, rfl⟩
  go_wp2_with fail
  refine (HAl.out _ (Below.refl _ _)).mono ?_
  rintro e w' ⟨rfl, rfl⟩
  go_wp2_with fail
  refine (HBl.out _ (Below.refl _ _)).mono ?_
  rintro e w' ⟨rfl, rfl⟩
  go_wp2_with fail
  all_goals
    go_ret
    exact ⟨_, rfl, branch_new hT.out hT2.out _ _ (by omega) (by omega)⟩
end Go.Proofs.Ytnhmdbmcamfbiaa
