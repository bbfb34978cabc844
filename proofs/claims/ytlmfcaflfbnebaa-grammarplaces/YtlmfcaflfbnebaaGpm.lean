import Derived.Test.YtlmfcaflfbnebaaGpl
namespace Go.Proofs.Ytlmfcaflfbnebaa
open Go.RowKit Go.Maps

def sl (L : Nat → List Int) (p : Int) : List Int := if p = 1 then L 0 else if p = 2 then L 1 else if p = 3 then L 2 else if p = 4 then L 3 else if p = 5 then L 4 else if p = 6 then L 5 else if p = 7 then L 6 else if p = 8 then L 7 else []
theorem pl_sl (L : Nat → List Int) (N : List (List Int)) (p i s : Int) (h : ¬ (p = 4 ∧ 0 ≤ s)) : pl L N p i s = en (sl L p) i := by
  unfold pl sl
  rw [if_neg h]
  (repeat' split) <;> first | rfl | exact (en_nil i).symm
theorem Sp.forms {W : World} {v : Nat → Value} {vn : Value} {L : Nat → List Int} {N : List (List Int)} {vs : List Value} (h : Sp W v vn L N vs) : ∃ (a : Nat → Option Addr) (c : Nat → Nat) (an : Option Addr) (cn : Nat), (∀ k, k < 8 → v k = .slice (a k) (L k).length (c k)) ∧ vn = .slice an N.length cn := by
  have hf : ∀ k : Nat, ∃ (a : Option Addr) (c : Nat), k < 8 → v k = .slice a (L k).length c := fun k => by
    by_cases hk : k < 8
    · obtain ⟨a, c, e⟩ := (h.f k hk).form; exact ⟨a, c, fun _ => e⟩
    · exact ⟨none, 0, fun h => absurd h hk⟩
  obtain ⟨an, cn, e⟩ := h.n.form
  exact ⟨fun k => (hf k).choose, fun k => (hf k).choose_spec.choose, an, cn, fun k hk => (hf k).choose_spec.choose_spec hk, e⟩

set_option maxRecDepth 100000 in
set_option maxHeartbeats 8000000 in
theorem spotsOf_any {v : Nat → Value} {vn : Value} {L : Nat → List Int} {N : List (List Int)} {vs : List Value} (w : World) (h : Sp w v vn L N vs) (p : Int) :
    Calls Try.prog 10 #[spv v vn, .int .i64 p] w fun e w' => (∃ x, e = .returned x ∧ Rw w x (sl L p).length (iC (sl L p))) ∧ Below w.heap.size w w' := by
  have S0 : Hid (Sp w v vn L N vs) := h
  clear h
  obtain ⟨a0, c0, e0⟩ := (S0.out.f 0 (by decide)).form
  obtain ⟨a1, c1, e1⟩ := (S0.out.f 1 (by decide)).form
  obtain ⟨a2, c2, e2⟩ := (S0.out.f 2 (by decide)).form
  obtain ⟨a3, c3, e3⟩ := (S0.out.f 3 (by decide)).form
  obtain ⟨a4, c4, e4⟩ := (S0.out.f 4 (by decide)).form
  obtain ⟨a5, c5, e5⟩ := (S0.out.f 5 (by decide)).form
  obtain ⟨a6, c6, e6⟩ := (S0.out.f 6 (by decide)).form
  obtain ⟨a7, c7, e7⟩ := (S0.out.f 7 (by decide)).form
  obtain ⟨an, cn, en⟩ := S0.out.n.form
  have F0 : Hid (Rw w (.slice a0 (L 0).length c0) (L 0).length (iC (L 0))) := by rw [← e0]; exact S0.out.f 0 (by decide)
  have F1 : Hid (Rw w (.slice a1 (L 1).length c1) (L 1).length (iC (L 1))) := by rw [← e1]; exact S0.out.f 1 (by decide)
  have F2 : Hid (Rw w (.slice a2 (L 2).length c2) (L 2).length (iC (L 2))) := by rw [← e2]; exact S0.out.f 2 (by decide)
  have F3 : Hid (Rw w (.slice a3 (L 3).length c3) (L 3).length (iC (L 3))) := by rw [← e3]; exact S0.out.f 3 (by decide)
  have F4 : Hid (Rw w (.slice a4 (L 4).length c4) (L 4).length (iC (L 4))) := by rw [← e4]; exact S0.out.f 4 (by decide)
  have F5 : Hid (Rw w (.slice a5 (L 5).length c5) (L 5).length (iC (L 5))) := by rw [← e5]; exact S0.out.f 5 (by decide)
  have F6 : Hid (Rw w (.slice a6 (L 6).length c6) (L 6).length (iC (L 6))) := by rw [← e6]; exact S0.out.f 6 (by decide)
  have F7 : Hid (Rw w (.slice a7 (L 7).length c7) (L 7).length (iC (L 7))) := by rw [← e7]; exact S0.out.f 7 (by decide)
  simp only [spv, en, e0, e1, e2, e3, e4, e5, e6, e7]
  clear S0 en e0 e1 e2 e3 e4 e5 e6 e7
  obtain ⟨W1, hW1⟩ : ∃ W1, W1 = w.alloc (.cells #[.slice a0 (L 0).length c0, .slice a1 (L 1).length c1, .slice a2 (L 2).length c2, .slice a3 (L 3).length c3, .slice a4 (L 4).length c4, .slice a5 (L 5).length c5, .slice a6 (L 6).length c6, .slice a7 (L 7).length c7, .slice an N.length cn] 25) := ⟨_, rfl⟩
  have hh : W1.heap[w.heap.size]? = some (.cells #[.slice a0 (L 0).length c0, .slice a1 (L 1).length c1, .slice a2 (L 2).length c2, .slice a3 (L 3).length c3, .slice a4 (L 4).length c4, .slice a5 (L 5).length c5, .slice a6 (L 6).length c6, .slice a7 (L 7).length c7, .slice an N.length cn] 25 (0, 0)) := by rw [hW1]; exact heap_new w _
  have HB : Hid (Below w.heap.size w W1) := by rw [hW1]; exact bel_up _ _
  have HW : Hid (W1 = w.alloc (.cells #[.slice a0 (L 0).length c0, .slice a1 (L 1).length c1, .slice a2 (L 2).length c2, .slice a3 (L 3).length c3, .slice a4 (L 4).length c4, .slice a5 (L 5).length c5, .slice a6 (L 6).length c6, .slice a7 (L 7).length c7, .slice an N.length cn] 25)) := hW1
  clear hW1
  have p0 := rcell hh 0 (.slice a0 (L 0).length c0) rfl
  have p1 := rcell hh 1 (.slice a1 (L 1).length c1) rfl
  have p2 := rcell hh 2 (.slice a2 (L 2).length c2) rfl
  have p3 := rcell hh 3 (.slice a3 (L 3).length c3) rfl
  have p4 := rcell hh 4 (.slice a4 (L 4).length c4) rfl
  have p5 := rcell hh 5 (.slice a5 (L 5).length c5) rfl
  have p6 := rcell hh 6 (.slice a6 (L 6).length c6) rfl
  have p7 := rcell hh 7 (.slice a7 (L 7).length c7) rfl
  clear hh
  by_cases n0 : p = 1
  · subst n0
    rw [show sl L 1 = L 0 from rfl]
    go_enter Try.func10, Try.ntmps10
    go_upto_region 1 with fail
    rw [← HW.out]
    go_wp2_with fail
    go_ret
    exact ⟨⟨_, rfl, F0.out⟩, HB.out⟩
  have z0 : (p == 1) = false := by rw [beq_eq_false_iff_ne]; exact n0
  by_cases n1 : p = 2
  · subst n1
    rw [show sl L 2 = L 1 from rfl]
    go_enter Try.func10, Try.ntmps10
    go_upto_region 1 with fail
    rw [← HW.out]
    go_wp2_with fail
    go_ret
    exact ⟨⟨_, rfl, F1.out⟩, HB.out⟩
  have z1 : (p == 2) = false := by rw [beq_eq_false_iff_ne]; exact n1
  by_cases n2 : p = 3
  · subst n2
    rw [show sl L 3 = L 2 from rfl]
    go_enter Try.func10, Try.ntmps10
    go_upto_region 1 with fail
    rw [← HW.out]
    go_wp2_with fail
    go_ret
    exact ⟨⟨_, rfl, F2.out⟩, HB.out⟩
  have z2 : (p == 3) = false := by rw [beq_eq_false_iff_ne]; exact n2
  by_cases n3 : p = 4
  · subst n3
    rw [show sl L 4 = L 3 from rfl]
    go_enter Try.func10, Try.ntmps10
    go_upto_region 1 with fail
    rw [← HW.out]
    go_wp2_with fail
    go_ret
    exact ⟨⟨_, rfl, F3.out⟩, HB.out⟩
  have z3 : (p == 4) = false := by rw [beq_eq_false_iff_ne]; exact n3
  by_cases n4 : p = 5
  · subst n4
    rw [show sl L 5 = L 4 from rfl]
    go_enter Try.func10, Try.ntmps10
    go_upto_region 1 with fail
    rw [← HW.out]
    go_wp2_with fail
    go_ret
    exact ⟨⟨_, rfl, F4.out⟩, HB.out⟩
  have z4 : (p == 5) = false := by rw [beq_eq_false_iff_ne]; exact n4
  by_cases n5 : p = 6
  · subst n5
    rw [show sl L 6 = L 5 from rfl]
    go_enter Try.func10, Try.ntmps10
    go_upto_region 1 with fail
    rw [← HW.out]
    go_wp2_with fail
    go_ret
    exact ⟨⟨_, rfl, F5.out⟩, HB.out⟩
  have z5 : (p == 6) = false := by rw [beq_eq_false_iff_ne]; exact n5
  by_cases n6 : p = 7
  · subst n6
    rw [show sl L 7 = L 6 from rfl]
    go_enter Try.func10, Try.ntmps10
    go_upto_region 1 with fail
    rw [← HW.out]
    go_wp2_with fail
    go_ret
    exact ⟨⟨_, rfl, F6.out⟩, HB.out⟩
  have z6 : (p == 7) = false := by rw [beq_eq_false_iff_ne]; exact n6
  by_cases n7 : p = 8
  · subst n7
    rw [show sl L 8 = L 7 from rfl]
    go_enter Try.func10, Try.ntmps10
    go_upto_region 1 with fail
    rw [← HW.out]
    go_wp2_with fail
    go_ret
    exact ⟨⟨_, rfl, F7.out⟩, HB.out⟩
  have z7 : (p == 8) = false := by rw [beq_eq_false_iff_ne]; exact n7
  rw [show sl L p = [] from by unfold sl; rw [if_neg n0, if_neg n1, if_neg n2, if_neg n3, if_neg n4, if_neg n5, if_neg n6, if_neg n7]]
  clear n0 n1 n2 n3 n4 n5 n6 n7
  go_enter Try.func10, Try.ntmps10
  go_upto_region 1 with fail
  rw [← HW.out]
  go_wp2_with fail
  go_ret
  exact ⟨⟨_, rfl, Rw.nil _⟩, HB.out⟩
end Go.Proofs.Ytlmfcaflfbnebaa
