import Derived.Test.YtcfmpmhdjkchjaaTnd
namespace Go.Proofs.Ytcfmpmhdjkchjaa
open Go.RowKit Go.Maps

/-- Is it the place of a node of a forest? -/
def std (t : List Nd) (at_ : Int) : Bool := decide (0 ≤ at_) && (decide (at_ < (t.length : Int)) && decide (0 ≤ rts t))
theorem rts_fo {t : List Nd} : (∃ r : Nat, rt (kds t) = some r ∧ rts t = (r : Int)) ∨ (rt (kds t) = none ∧ rts t = -1) := by
  cases h : rt (kds t) with
  | none => exact .inr ⟨rfl, rts_none h⟩
  | some r => exact .inl ⟨r, rfl, rts_some h⟩
theorem std_true {t : List Nd} {z : Int} (h : std t z = true) : ∃ a : Nat, z = (a : Int) ∧ a < t.length ∧ Fo (kds t) := by
  simp only [std, Bool.and_eq_true, decide_eq_true_eq] at h
  obtain ⟨h0, h1, h2⟩ := h
  refine ⟨z.toNat, by omega, by omega, ?_⟩
  rcases @rts_fo t with ⟨r, hr, _⟩ | ⟨_, he⟩
  · exact ⟨r, hr⟩
  · omega
theorem std_of {t : List Nd} {a : Nat} (ha : a < t.length) (hf : Fo (kds t)) : std t (a : Int) = true := by
  obtain ⟨r, hr⟩ := hf
  have := rts_some hr
  simp only [std, Bool.and_eq_true, decide_eq_true_eq]
  omega
set_option maxRecDepth 100000 in
set_option maxHeartbeats 8000000 in
theorem stands_any {v : Value} {t : List Nd} (w : World) (h : Ns w v t) (hs : Sm t) (z : Int) :
    Calls Try.prog 51 #[v, .int .i64 z] w fun e w' => e = .returned (.bool (std t z)) ∧ w = w' := by
  have HT : Hid (Ns w v t) := h
  have HS : Hid (Sm t) := hs
  obtain ⟨a, cap, rfl⟩ := h.form
  clear h hs
  by_cases h0 : 0 ≤ z
  · have e1 : decide ((0 : Int) ≤ z) = true := by rw [decide_eq_true_eq]; exact h0
    by_cases h1 : z < (t.length : Int)
    · have e2 : decide (z < (t.length : Int)) = true := by rw [decide_eq_true_eq]; exact h1
      have HE : Hid (std t z = decide (0 ≤ rts t)) := by show _ = _; unfold std; rw [e1, e2]; rfl
      clear h0 h1
      obtain ⟨n, hn⟩ : ∃ n, t.length = n := ⟨_, rfl⟩
      rw [hn] at HT e2 ⊢
      clear hn
      go_enter Try.func51, Try.ntmps51
      go_wp2_with (go_at_call 25; refine (roots_any _ HT.out HS.out).mono ?_; rintro ee ww ⟨rfl, rfl⟩)
      go_ret
      exact ⟨by rw [HE.out]; rfl, rfl⟩
    · have e2 : decide (z < (t.length : Int)) = false := by rw [decide_eq_false_iff_not]; exact h1
      have HE : Hid (std t z = false) := by show _ = _; unfold std; rw [e1, e2]; rfl
      clear h0 h1
      obtain ⟨n, hn⟩ : ∃ n, t.length = n := ⟨_, rfl⟩
      rw [hn] at HT e2 ⊢
      clear hn
      go_enter Try.func51, Try.ntmps51
      go_wp2_with fail
      go_ret
      exact ⟨by rw [HE.out]; rfl, rfl⟩
  · have e1 : decide ((0 : Int) ≤ z) = false := by rw [decide_eq_false_iff_not]; exact h0
    have HE : Hid (std t z = false) := by show _ = _; unfold std; rw [e1]; rfl
    clear h0
    go_enter Try.func51, Try.ntmps51
    go_wp2_with fail
    go_ret
    exact ⟨by rw [HE.out]; rfl, rfl⟩
/-- The answer of Size. -/
def siz (t : List Nd) (z : Int) : Int := if std t z then (eA (kds t) z.toNat : Int) - z else 0
set_option maxRecDepth 100000 in
set_option maxHeartbeats 8000000 in
theorem size_any {v : Value} {t : List Nd} (w : World) (h : Ns w v t) (hs : Sm t) (z : Int) :
    Calls Try.prog 31 #[v, .int .i64 z] w fun e w' => e = .returned (.int .i64 (siz t z)) ∧ w = w' := by
  have HT : Hid (Ns w v t) := h
  have HS : Hid (Sm t) := hs
  obtain ⟨a, cap, rfl⟩ := h.form
  clear h hs
  cases hst : std t z with
  | false =>
    have HE : Hid (siz t z = 0) := by show _ = _; unfold siz; rw [hst]; rfl
    have HST : Hid (std t z = false) := hst
    clear hst
    go_enter Try.func31, Try.ntmps31
    go_wp2_with (go_at_call 51; refine (stands_any _ HT.out HS.out z).mono ?_; rintro ee ww ⟨rfl, rfl⟩; rw [HST.out])
    go_ret
    exact ⟨by rw [HE.out]; rfl, rfl⟩
  | true =>
    have HST : Hid (std t z = true) := hst
    obtain ⟨p, rfl, hp, hf⟩ := std_true hst
    have HE : Hid (siz t (p : Int) = (eA (kds t) p : Int) - (p : Int)) := by show _ = _; unfold siz; rw [hst]; rfl
    have HW : Hid (IntKind.i64.wrap ((eA (kds t) p : Int) - (p : Int)) = (eA (kds t) p : Int) - (p : Int)) := by
      have h1 := hf.elt p (by rw [kds_len]; exact hp)
      rw [kds_len] at h1
      have h2 := HS.out
      unfold Sm at h2
      exact w64 _ (by omega) (by omega)
    have HF : Hid (Fo (kds t)) := hf
    have HP : Hid (p < t.length) := hp
    clear hst hp hf
    obtain ⟨E, hE⟩ : ∃ E, eA (kds t) p = E := ⟨_, rfl⟩
    rw [hE] at HW HE
    have HEE : Hid (eA (kds t) p = E) := hE
    clear hE
    have hw := HW.out
    clear HW
    go_enter Try.func31, Try.ntmps31
    go_wp2_with first | (go_at_call 51; refine (stands_any _ HT.out HS.out _).mono ?_; rintro ee ww ⟨rfl, rfl⟩; rw [HST.out]) | (go_at_call 50; refine (behind_any _ HT.out HS.out HF.out p HP.out).mono ?_; rintro ee ww ⟨rfl, rfl⟩; rw [HEE.out])
    go_ret
    exact ⟨by rw [HE.out]; rfl, rfl⟩
/-- The answer of Parent. -/
def prt (t : List Nd) (z : Int) : Int := if std t z then pl (kds t) z.toNat else -1
set_option maxRecDepth 100000 in
set_option maxHeartbeats 8000000 in
theorem parent_any {v : Value} {t : List Nd} (w : World) (h : Ns w v t) (hs : Sm t) (z : Int) :
    Calls Try.prog 29 #[v, .int .i64 z] w fun e w' => e = .returned (.int .i64 (prt t z)) ∧ w = w' := by
  have HT : Hid (Ns w v t) := h
  have HS : Hid (Sm t) := hs
  obtain ⟨a, cap, rfl⟩ := h.form
  clear h hs
  cases hst : std t z with
  | false =>
    have HE : Hid (prt t z = -1) := by show _ = _; unfold prt; rw [hst]; rfl
    have HST : Hid (std t z = false) := hst
    clear hst
    go_enter Try.func29, Try.ntmps29
    go_wp2_with (go_at_call 51; refine (stands_any _ HT.out HS.out z).mono ?_; rintro ee ww ⟨rfl, rfl⟩; rw [HST.out])
    go_ret
    exact ⟨by rw [HE.out]; rfl, rfl⟩
  | true =>
    have HST : Hid (std t z = true) := hst
    obtain ⟨c, rfl, hp, hf⟩ := std_true hst
    have HE : Hid (prt t (c : Int) = pg (kds t) c 1) := by show _ = _; unfold prt; rw [hst]; rfl
    have HF : Hid (Fo (kds t)) := hf
    obtain ⟨n, hn⟩ : ∃ n, t.length = n := ⟨_, rfl⟩
    have HN : Hid (t.length = n) := hn
    rw [hn] at HT hp ⊢
    have HSZ : Hid (n * 72 + 4096 ≤ 140737488355328) := by have := HS.out; unfold Sm at this; rw [hn] at this; exact this
    have HP : Hid (c < n) := hp
    clear hst hp hf hn
    rw [HE.out]
    obtain ⟨R, hR⟩ : ∃ R, pg (kds t) c 1 = R := ⟨_, rfl⟩
    rw [hR]
    have HR : Hid (pg (kds t) c 1 = R) := hR
    clear hR HE
    have hw0 : IntKind.i64.wrap ((c : Int) - 1) = (c : Int) - 1 := w64 _ (by omega) (by have := HSZ.out; have := HP.out; omega)
    obtain ⟨z0, hz0⟩ : ∃ z0, (c : Int) - 1 = z0 := ⟨_, rfl⟩
    have HZ0 : Hid ((c : Int) - 1 = z0) := hz0
    have hw1 : IntKind.i64.wrap ((c : Int) - 1) = z0 := by rw [hw0]; exact hz0
    clear hz0 hw0
    go_enter Try.func29, Try.ntmps29
    go_upto_region 5 with (go_at_call 51; refine (stands_any _ HT.out HS.out _).mono ?_; rintro ee ww ⟨rfl, rfl⟩; rw [HST.out])
    clear hw1
    go_loopg [5, 6] c (fun gm v5 v6 wr => ∃ (b k : Nat) (z : Int), v5 = .int .i64 (b : Int) ∧ v6 = .int .i64 z ∧ Hid (z = (k : Int) - 1) ∧ Hid (gm = k ∧ k ≤ c ∧ b ≤ c + 1 - k ∧ pg (kds t) k b = R) ∧ w = wr)
    case atStart => exact ⟨1, c, z0, rfl, rfl, HZ0.out.symm, ⟨rfl, Nat.le_refl _, by omega, HR.out⟩, rfl⟩
    case round =>
      obtain ⟨b, k, z, rfl, rfl, HZ, HI, hw9⟩ := hrel
      subst hw9
      clear HZ0
      cases k with
      | zero =>
        have e1 : z = -1 := by have := HZ.out; omega
        subst e1
        have HE : Hid (R = -1) := by have := HI.out.2.2.2; exact this.symm
        go_wp2_with fail
        go_ret
        exact ⟨by rw [HE.out]; rfl, rfl⟩
      | succ p =>
        have e1 : z = (p : Int) := by have := HZ.out; omega
        subst e1
        clear HZ
        have hp : p < t.length := by have := HI.out; have := HN.out; have := HP.out; omega
        obtain ⟨g, o, rfl, hc⟩ := HT.out.kid p hp
        obtain ⟨s1, s2, s3, s4⟩ := HF.out.step p (by rw [kds_len]; exact hp)
        rw [← kds_get, s2] at hc
        have HRr : Hid ((if b ≤ kA (kds t) p then (p : Int) else pg (kds t) p (b + 1 - kA (kds t) p)) = R) := HI.out.2.2.2
        have HY : Hid (kA (kds t) p ≤ n) := by
          have h2 := HF.out.le (p + 1)
          have h3 := HN.out
          rw [kds_len] at h2
          show _ ≤ _; omega
        obtain ⟨y, hy⟩ : ∃ y, kA (kds t) p = y := ⟨_, rfl⟩
        rw [hy] at hc HRr HY
        have e2 : decide ((0 : Int) ≤ (p : Int)) = true := by rw [decide_eq_true_eq]; omega
        have e3 : (p : Int) < (n : Int) := by have := HN.out; omega
        have e4 : p < n := by omega
        clear s1 s2 s3 s4 hy hp
        by_cases h1 : b ≤ y
        · have e5 : decide ((b : Int) ≤ (y : Int)) = true := by rw [decide_eq_true_eq]; omega
          have e6 : decide (b ≤ y) = true := by rw [decide_eq_true_eq]; omega
          have HE : Hid ((p : Int) = R) := by have := HRr.out; rw [if_pos h1] at this; exact this
          clear h1
          go_wp2_with fail
          go_ret
          exact ⟨by rw [← HE.out]; rfl, rfl⟩
        · have e5 : decide ((b : Int) ≤ (y : Int)) = false := by rw [decide_eq_false_iff_not]; omega
          have e6 : decide (b ≤ y) = false := by rw [decide_eq_false_iff_not]; omega
          have HE : Hid (pg (kds t) p (b + 1 - y) = R) := by have := HRr.out; rw [if_neg h1] at this; exact this
          have hA : IntKind.i64.wrap ((y : Int) - 1) = (y : Int) - 1 := w64 _ (by omega) (by have := HSZ.out; have := HY.out; omega)
          have hB : IntKind.i64.wrap ((b : Int) - ((y : Int) - 1)) = ((b + 1 - y : Nat) : Int) := by rw [w64 _ (by omega) (by have := HSZ.out; have := HI.out; have := HP.out; omega)]; omega
          have hC : IntKind.i64.wrap ((p : Int) - 1) = (p : Int) - 1 := w64 _ (by omega) (by have := HSZ.out; omega)
          obtain ⟨q, hq⟩ : ∃ q, b + 1 - y = q := ⟨_, rfl⟩
          rw [hq] at hB HE
          have HQ : Hid (q ≤ c + 1 - p) := by have := HI.out; show _ ≤ _; omega
          clear h1 hq
          go_wp2_with fail
          go_roundg p
          case measure => have := HI.out.1; omega
          case rel => exact ⟨q, p, _, rfl, rfl, rfl, ⟨rfl, by have := HI.out; omega, HQ.out, HE.out⟩, rfl⟩
end Go.Proofs.Ytcfmpmhdjkchjaa
