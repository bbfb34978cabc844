import Derived.Test.YtcfmpmhdjkchjaaTpa
namespace Go.Proofs.Ytcfmpmhdjkchjaa
open Go.RowKit Go.Maps

theorem Rw.intC {W : World} {a : Option Addr} {n cap : Nat} {l : List Int} (h : Rw W (.slice a n cap) n (iC l)) (i : Nat) (hi : i < l.length) (hn : 0 < n) : ∃ g o, a = some ⟨g, o, none⟩ ∧ ∀ W', Below W.heap.size W W' → W'.cell? ⟨g, o + i, none⟩ = some (.int .i64 (l.getD i 0)) := by
  obtain ⟨g, o, c, e, hc⟩ := h.place hn
  obtain ⟨rfl, -, -⟩ := Value.slice.inj e
  exact ⟨g, o, rfl, fun W' hW => below_cell hW (hc i _ (iC_get l i hi))⟩
set_option maxRecDepth 100000 in
set_option maxHeartbeats 8000000 in
/-- Two rows of the same numbers. -/
theorem same_intsC {u v : Value} {l : List Int} (hl : l.length < 4611686018427387904) (w : World) (hu : Rw w u l.length (iC l)) (hv : Rw w v l.length (iC l)) :
    Calls Try.prog 28 #[u, v] w fun e w' => e = .returned (.bool true) ∧ Below w.heap.size w w' := by
  have HU : Hid (Rw w u l.length (iC l)) := hu
  have HV : Hid (Rw w v l.length (iC l)) := hv
  obtain ⟨ua, uc, rfl⟩ := hu.form
  obtain ⟨va, vc, rfl⟩ := hv.form
  obtain ⟨n, hn⟩ : ∃ n, l.length = n := ⟨_, rfl⟩
  have HN : Hid (l.length = n) := hn
  rw [hn] at HU HV hl ⊢
  have HL : Hid (n < 4611686018427387904) := hl
  clear hu hv hl hn
  have f1 : ((n : Int) != (n : Int)) = false := by simp
  go_enter Try.func28, Try.ntmps28
  go_upto_region 4 with fail
  clear f1
  go_loopg [5] n (fun gm v5 wr => ∃ i : Nat, v5 = .int .i64 (i : Int) ∧ Hid (i ≤ n ∧ gm = n - i) ∧ Hid (Below w.heap.size w wr))
  case atStart => exact ⟨0, rfl, ⟨Nat.zero_le _, rfl⟩, Below.refl _ _⟩
  case round =>
    obtain ⟨i, rfl, HI, HB⟩ := hrel
    by_cases hi : i < n
    · have e1 : decide ((i : Int) < (n : Int)) = true := by rw [decide_eq_true_eq]; omega
      have e2 : decide (i < n) = true := by rw [decide_eq_true_eq]; omega
      have b1 : (i : Int) < (n : Int) := by omega
      have b2 : i < n := hi
      have HIM : Hid (i < n) := hi
      have hwi := w64n i (by have := HL.out; omega)
      obtain ⟨g, o, rfl, hc⟩ := HU.out.intC i (by rw [HN.out]; exact hi) (by omega)
      obtain ⟨g', o', rfl, hc'⟩ := HV.out.intC i (by rw [HN.out]; exact hi) (by omega)
      have c1 := hc _ HB.out
      have c2 := hc' _ HB.out
      obtain ⟨z, hz⟩ : ∃ z, l.getD i 0 = z := ⟨_, rfl⟩
      rw [hz] at c1 c2
      have f1 : (z != z) = false := by simp
      clear hi hc hc' hz
      go_upto_region 6 with fail
      go_quiet (fail)
      have HB9 : Hid (Below w.heap.size w (wr.drewN nq)) := below_drewN HB.out _
      generalize wr.drewN nq = W9 at HB9 ⊢
      clear c1 c2
      go_wp2_with fail
      go_roundg (n - (i + 1))
      case measure => have := HI.out; have := HIM.out; omega
      case rel => exact ⟨i + 1, by first | rfl | (rw [show (i : Int) + 1 = ((i + 1 : Nat) : Int) by omega]), ⟨HIM.out, rfl⟩, HB9⟩
    · have e1 : decide ((i : Int) < (n : Int)) = false := by rw [decide_eq_false_iff_not]; omega
      have e2 : decide (i < n) = false := by rw [decide_eq_false_iff_not]; omega
      clear hi
      go_wp2_with fail
      go_ret
      exact ⟨rfl, HB.out⟩
end Go.Proofs.Ytcfmpmhdjkchjaa
