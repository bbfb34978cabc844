import Derived.Test.YtcfmpmhdjkchjabTnd
namespace Go.Proofs.Ytcfmpmhdjkchjab
open Go.RowKit Go.Maps

/-- Is it the place of a node of a forest? -/
def std (t : List Nd) (at_ : Int) : Bool := decide (0 ≤ at_) && (decide (at_ < (t.length : Int)) && decide (0 ≤ rts t))
theorem rts_fo {t : List Nd} : (∃ r : Nat, rt (kds t) = some r ∧ rts t = (r : Int)) ∨ (rt (kds t) = none ∧ rts t = -1) := by
  cases h : rt (kds t) with
  | none => exact .inr ⟨rfl, rts_none h⟩
  | some r => exact .inl ⟨r, rfl, rts_some h⟩
theorem std_true {t : List Nd} {z : Int} (h : std t z = true) : ∃ a : Nat, z = (a : Int) ∧ a < t.length ∧ Fo (kds t) := by
  simp only [std, Bool.and_eq_true, decide_eq_true_eq] at h
  obtain ⟨h0, h1, h2⟩ := h
  refine ⟨z.toNat, by omega, by omega, ?_⟩
  rcases @rts_fo t with ⟨r, hr, _⟩ | ⟨_, he⟩
  · exact ⟨r, hr⟩
  · omega
set_option maxRecDepth 100000 in
set_option maxHeartbeats 8000000 in
theorem stands_any {v : Value} {t : List Nd} (w : World) (h : Ns w v t) (hs : Sm t) (z : Int) :
    Calls Try.prog 26 #[v, .int .i64 z] w fun e w' => e = .returned (.bool (std t z)) ∧ w = w' := by
  have HT : Hid (Ns w v t) := h
  have HS : Hid (Sm t) := hs
  obtain ⟨a, cap, rfl⟩ := h.form
  clear h hs
  by_cases h0 : 0 ≤ z
  · have e1 : decide ((0 : Int) ≤ z) = true := by rw [decide_eq_true_eq]; exact h0
    by_cases h1 : z < (t.length : Int)
    · have e2 : decide (z < (t.length : Int)) = true := by rw [decide_eq_true_eq]; exact h1
      have HE : Hid (std t z = decide (0 ≤ rts t)) := by show _ = _; unfold std; rw [e1, e2]; rfl
      clear h0 h1
      obtain ⟨n, hn⟩ : ∃ n, t.length = n := ⟨_, rfl⟩
      rw [hn] at HT e2 ⊢
      clear hn
      go_enter Try.func26, Try.ntmps26
      go_wp2_with (go_at_call 16; refine (roots_any _ HT.out HS.out).mono ?_; rintro ee ww ⟨rfl, rfl⟩)
      go_ret
      exact ⟨by rw [HE.out]; rfl, rfl⟩
    · have e2 : decide (z < (t.length : Int)) = false := by rw [decide_eq_false_iff_not]; exact h1
      have HE : Hid (std t z = false) := by show _ = _; unfold std; rw [e1, e2]; rfl
      clear h0 h1
      obtain ⟨n, hn⟩ : ∃ n, t.length = n := ⟨_, rfl⟩
      rw [hn] at HT e2 ⊢
      clear hn
      go_enter Try.func26, Try.ntmps26
      go_wp2_with fail
      go_ret
      exact ⟨by rw [HE.out]; rfl, rfl⟩
  · have e1 : decide ((0 : Int) ≤ z) = false := by rw [decide_eq_false_iff_not]; exact h0
    have HE : Hid (std t z = false) := by show _ = _; unfold std; rw [e1]; rfl
    clear h0
    go_enter Try.func26, Try.ntmps26
    go_wp2_with fail
    go_ret
    exact ⟨by rw [HE.out]; rfl, rfl⟩
end Go.Proofs.Ytcfmpmhdjkchjab
