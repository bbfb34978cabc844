import Derived.Test.YtkjljnneghnpiaaNra
namespace Go.Proofs.Ytkjljnneghnpiaa
open Go.RowKit

/-- Does the state go to q on the byte, as the reference asks it? -/
def Mc.onR (N : Mc) (p : Nat) (q : Int) (b : Nat) : Bool := decide (p < N.tos.length) && (N.tos.getD p 0 == q && N.cls p b)
theorem onR_iff {N : Mc} {p q b : Nat} (hq : q < N.on.length) (hb : b < 256) : N.onR p (q : Int) b = true ↔ N.toOf p = some q ∧ N.cls p b = true := by
  unfold Mc.onR Mc.toOf
  simp only [Bool.and_eq_true, decide_eq_true_eq, beq_iff_eq]
  constructor
  · rintro ⟨h1, h2, h3⟩
    refine ⟨?_, h3⟩
    rw [if_pos ⟨h1, by rw [h2]; exact isS_nat hq, List.any_eq_true.2 ⟨b, List.mem_range.2 hb, h3⟩⟩, h2]
    rfl
  · rintro ⟨h1, h3⟩
    split at h1
    · rename_i c
      refine ⟨c.1, ?_, h3⟩
      have h4 := c.2.1
      simp only [Mc.isS, Bool.and_eq_true, decide_eq_true_eq] at h4
      have h5 := Option.some.inj h1
      omega
    · cases h1

set_option maxRecDepth 100000 in
set_option maxHeartbeats 2000000 in
theorem ron_any {vo vt vf : Value} {N : Mc} (p : Nat) (hpn : p < N.on.length) (q : Int) (b : Nat) (hb : b < 256) (w : World) (hp : Parts w.heap.size w vo vt vf N) :
    Calls Try.prog 38 #[nfW vo vt vf N, .int .i64 (p : Int), .int .i64 q, .int .u8 (b : Int)] w fun e w' => e = .returned (.bool (N.onR p q b)) ∧ Below w.heap.size w w' := by
  obtain ⟨a1, c1, a2, c2, a3, c3, rfl, rfl, rfl⟩ := hp.shapes
  obtain ⟨a, g, o, cap, ea, ha, hc⟩ := hp.on
  obtain ⟨rfl, -, rfl⟩ := Value.slice.inj ea
  obtain ⟨ea3, hg⟩ := ha (by rintro e; rw [e] at hpn; cases hpn)
  subst ea3
  obtain ⟨a', tg, to', tcap, ea', hta, htc⟩ := hp.tos
  obtain ⟨rfl, -, rfl⟩ := Value.slice.inj ea'
  have hk : b / 64 < 4 := by omega
  have q0 : ∀ x, (w.alloc x).cell? ⟨g, o + p * 4 + b / 64, none⟩ = some (.int .u64 (wd (N.cls p) (b / 64) : Nat)) := fun x => cell_up x (hc p hpn (b / 64) hk)
  have d3 : decide ((p : Int) < (N.on.length : Int)) = true := by rw [decide_eq_true_eq]; omega
  have h1 : (b : Int).tdiv 64 = ((b / 64 : Nat) : Int) := by rw [Int.tdiv_eq_ediv_of_nonneg (by omega)]; omega
  have h2 : (b : Int).tmod 64 = ((b % 64 : Nat) : Int) := by rw [Int.tmod_eq_emod_of_nonneg (by omega)]; omega
  have h3 := u64_in (N.cls p) b
  have HTC : Hid _ := htc
  have HTA : Hid _ := hta
  unfold Mc.onR
  clear hp hc ha hg ea ea' htc hta
  by_cases k : p < N.tos.length
  · obtain ⟨rfl, _⟩ := HTA.out (by rintro e; rw [e] at k; cases k)
    have d1 : decide ((p : Int) < (N.tos.length : Int)) = true := by rw [decide_eq_true_eq]; omega
    have d2 : decide (p < N.tos.length) = true := by rw [decide_eq_true_eq]; omega
    have t1 : ∀ x, (w.alloc x).cell? ⟨tg, to' + p, none⟩ = some (.int .i64 (N.tos.getD p 0)) := fun x => cell_up x (HTC.out p k)
    obtain ⟨tv, htv⟩ : ∃ tv, N.tos.getD p 0 = tv := ⟨_, rfl⟩
    rw [htv] at t1 ⊢
    rw [d2]
    clear htv
    cases hq : tv == q
    · go_enter Try.func38, Try.ntmps38
      go_wp2_with fail
      go_ret
      exact ⟨rfl, bel_up _ _⟩
    · go_enter Try.func38, Try.ntmps38
      go_wp2_with fail
      go_ret
      exact ⟨rfl, bel_up _ _⟩
  · have d1 : decide ((p : Int) < (N.tos.length : Int)) = false := by rw [decide_eq_false_iff_not]; omega
    have d2 : decide (p < N.tos.length) = false := by rw [decide_eq_false_iff_not]; omega
    rw [d2]
    go_enter Try.func38, Try.ntmps38
    go_wp2_with fail
    go_ret
    exact ⟨rfl, bel_up _ _⟩
end Go.Proofs.Ytkjljnneghnpiaa
