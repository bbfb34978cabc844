import Derived.Test.YtbkhhegmmkcbbaaDoorTtx
namespace Go.Proofs.YtbkhhegmmkcbbaaDoor
open Go.RowKit Go.Maps

/-- Does a node cover a byte? -/
def cvr (x : Nd) (z : Int) : Bool := decide (x.fr ≤ z) && decide (z < x.tt)
set_option maxRecDepth 100000 in
set_option maxHeartbeats 8000000 in
theorem covers_any (x : Nd) (z : Int) (w : World) :
    Calls Tryd.prog 26 #[nC x, .int .i64 z] w fun e w' => e = .returned (.bool (cvr x z)) ∧ Below w.heap.size w w' := by
  obtain ⟨nm, nd, fd, fr, tt, kd, lf⟩ := x
  unfold nC cvr
  dsimp only
  by_cases h : fr ≤ z
  · have e1 : decide (fr ≤ z) = true := by rw [decide_eq_true_eq]; exact h
    obtain ⟨b, hb⟩ : ∃ b, decide (z < tt) = b := ⟨_, rfl⟩
    rw [e1, hb]
    clear h
    go_enter Tryd.func26, Tryd.ntmps26
    go_wp2_with fail
    go_ret
    exact ⟨rfl, bel_up _ _⟩
  · have e1 : decide (fr ≤ z) = false := by rw [decide_eq_false_iff_not]; exact h
    rw [e1]
    clear h
    go_enter Tryd.func26, Tryd.ntmps26
    go_wp2_with fail
    go_ret
    exact ⟨rfl, bel_up _ _⟩
/-- The way to a byte. -/
def pth (t : List Nd) (z : Int) : Nat → Nat → Nat → List Int → List Int
  | 0, _, _, o => o
  | f + 1, a, k, o => if k = 0 then o else if cvr (t.getD a ndd) z then pth t z f (a + 1) (kA (kds t) a) (o ++ [(a : Int)]) else pth t z f (eA (kds t) a) (k - 1) o
/-- The answer of Path. -/
def pat (t : List Nd) (z : Int) : List Int := match rt (kds t) with
  | none => []
  | some r => pth t z (t.length + 1) 0 r []
/-- Enough fuel is enough. -/
theorem pth_fuel (t : List Nd) (z : Int) : ∀ (f g a k : Nat) (o : List Int), Fo (kds t) → a ≤ t.length → k ≤ rA (kds t) a → t.length + 1 - a ≤ f → t.length + 1 - a ≤ g → pth t z f a k o = pth t z g a k o
  | 0, g, a, k, o, h, ha, hk, hf, hg => by omega
  | f + 1, 0, a, k, o, h, ha, hk, hf, hg => by omega
  | f + 1, g + 1, a, k, o, h, ha, hk, hf, hg => by
    unfold pth
    by_cases h0 : k = 0
    · rw [if_pos h0, if_pos h0]
    · rw [if_neg h0, if_neg h0]
      have hal : a < t.length := by have h2 := h.le a; rw [kds_len] at h2; omega
      obtain ⟨s1, s2, s3, s4⟩ := h.step a (by rw [kds_len]; exact hal)
      have hE := h.elt a (by rw [kds_len]; exact hal)
      rw [kds_len] at hE
      split
      · exact pth_fuel t z f g (a + 1) _ _ h hal s3 (by omega) (by omega)
      · exact pth_fuel t z f g _ _ _ h hE.2.1 (by omega) (by omega) (by omega)
set_option maxRecDepth 100000 in
set_option maxHeartbeats 8000000 in
theorem path_any {v : Value} {t : List Nd} (w : World) (h : Ns w v t) (hs : Sm t) (z : Int) :
    Calls Tryd.prog 17 #[v, .int .i64 z] w fun e w' => ∃ v', e = .returned v' ∧ w'.ownsRow w.heap.size 3 1 v' (pat t z).length (iC (pat t z)) ∧ Below w.heap.size w w' := by
  obtain ⟨i3, hi3, hx0, hx1, hx2⟩ := info_parts info3
  have HT : Hid (Ns w v t) := h
  have HS : Hid (Sm t) := hs
  obtain ⟨a, cap, rfl⟩ := h.form
  clear h hs
  obtain ⟨n, hn⟩ : ∃ n, t.length = n := ⟨_, rfl⟩
  have HN : Hid (t.length = n) := hn
  rw [hn] at HT ⊢
  have HSZ : Hid (n * 72 + 4096 ≤ 140737488355328) := by have := HS.out; unfold Sm at this; rw [hn] at this; exact this
  clear hn
  rcases @rts_fo t with ⟨r, hr, hr2⟩ | ⟨hr, hr2⟩
  · have HR : Hid (rts t = (r : Int)) := hr2
    have HF : Hid (Fo (kds t)) := ⟨r, hr⟩
    have HP : Hid (pat t z = pth t z (n + 1) 0 r []) := by show _ = _; unfold pat; rw [hr, HN.out]
    have HR0 : Hid (r = rA (kds t) 0) := (Fo.top hr).symm
    obtain ⟨Q, hQ⟩ : ∃ Q, pat t z = Q := ⟨_, rfl⟩
    rw [hQ] at HP ⊢
    clear hr hr2 hQ
    go_enter Tryd.func17, Tryd.ntmps17
    go_upto_region 4 with (go_at_call 25; refine (roots_any _ HT.out HS.out).mono ?_; rintro ee ww ⟨rfl, rfl⟩; rw [HR.out])
    go_loopg [5, 6, 7] (n + 1) (fun gm v5 v6 v7 wr => ∃ (p k m : Nat) (o : List Int), v6 = .int .i64 (p : Int) ∧ v7 = .int .i64 (k : Int) ∧ Hid (n + 1 - p ≤ gm ∧ p ≤ n ∧ k ≤ rA (kds t) p) ∧ Hid (o.length = m ∧ m ≤ p) ∧ Hid (Q = pth t z (n + 1 - p) p k o) ∧ Hid (wr.ownsRow w.heap.size 3 1 v5 m (iC o)) ∧ Hid (Below w.heap.size w wr))
    case atStart => exact ⟨0, r, 0, [], rfl, rfl, ⟨by omega, Nat.zero_le _, by rw [HR0.out]; exact Nat.le_refl _⟩, ⟨rfl, Nat.le_refl _⟩, HP, World.ownsRow_nil _ _ _ _, Below.refl _ _⟩
    case round =>
      obtain ⟨p, k, m, o, rfl, rfl, HI, HM, HQ, HO, HBW⟩ := hrel
      obtain ⟨ra, rc, hv⟩ := row_shape HO.out
      subst hv
      cases k with
      | zero =>
        have HQ2 : Hid (Q = o) := by
          have h7 := HQ.out
          rw [show n + 1 - p = (n - p) + 1 by have := HI.out; omega] at h7
          unfold pth at h7
          rw [if_pos rfl] at h7
          exact h7
        go_wp2_with fail
        go_ret
        exact ⟨_, rfl, by rw [HQ2.out, HM.out.1]; exact HO.out, HBW.out⟩
      | succ k =>
        have hp : p < t.length := by
          have h2 := HF.out.le p
          rw [kds_len] at h2
          have := HI.out
          omega
        obtain ⟨g, oo, rfl, d0, d1, d2, d3, d4, d5, d6⟩ := (HT.out.up HBW.out).all7 p hp
        have hQ := HQ.out
        rw [show n + 1 - p = (n - p) + 1 by have := HI.out; omega] at hQ
        unfold pth at hQ
        rw [if_neg (by omega)] at hQ
        obtain ⟨s1, s2, s3, s4⟩ := HF.out.step p (by rw [kds_len]; exact hp)
        rw [kds_get] at s2
        have HEL : Hid (p < eA (kds t) p ∧ eA (kds t) p ≤ n ∧ rA (kds t) (eA (kds t) p) = rA (kds t) p - 1) := by have h7 := HF.out.elt p (by rw [kds_len]; exact hp); rw [kds_len, HN.out] at h7; exact h7
        have HRB : Hid (rA (kds t) p ≤ n) := by have h7 := HF.out.le p; rw [kds_len, HN.out] at h7; show _ ≤ _; omega
        obtain ⟨x, hx⟩ : ∃ x, t.getD p ndd = x := ⟨_, rfl⟩
        rw [hx] at hQ s2 d0 d1 d2 d3 d4 d5 d6
        obtain ⟨kk, hkk⟩ : ∃ kk, kA (kds t) p = kk := ⟨_, rfl⟩
        rw [hkk] at hQ s2 s3
        have HS3 : Hid (kk ≤ rA (kds t) (p + 1)) := s3
        obtain ⟨b, hb⟩ : ∃ b, cvr x z = b := ⟨_, rfl⟩
        rw [hb] at hQ
        have HCV : Hid (∀ W, Calls Tryd.prog 26 #[nC x, .int .i64 z] W fun e w' => e = .returned (.bool b) ∧ Below W.heap.size W w') := fun W => by rw [← hb]; exact covers_any x z W
        unfold nC at HCV
        have e1 : (p : Int) < (n : Int) := by have := HN.out; omega
        have e2 : p < n := by have := HN.out; omega
        have e3 : decide ((0 : Int) < ((k + 1 : Nat) : Int)) = true := by rw [decide_eq_true_eq]; omega
        obtain ⟨k1, hk1⟩ : ∃ k1, k + 1 = k1 := ⟨_, rfl⟩
        rw [hk1] at e3 ⊢
        have e4 : decide (0 < k1) = true := by rw [decide_eq_true_eq]; omega
        have e5 : 0 < k1 := by omega
        have HK1 : Hid (k + 1 = k1) := hk1
        have HPN : Hid (p < n) := e2
        have HPL : Hid (p < t.length) := hp
        clear s1 s3 s4 hx hkk hb hk1 hp
        cases b with
        | true =>
          rw [if_pos rfl] at hQ
          have HQ2 : Hid (Q = pth t z (n - p) (p + 1) kk (o ++ [(p : Int)])) := hQ
          have HS2 : Hid (x.kd = (kk : Int)) := s2
          have hwp := w64n p (by have := HSZ.out; omega)
          clear hQ s2
          go_upto_region 6 with (go_at_call 26; refine Calls.mono (HCV.out _) ?_; rintro ee W2 ⟨rfl, hb2⟩; have HB2 : Hid (Below w.heap.size w W2) := below_trans HBW.out hb2; have HO2 : Hid (W2.ownsRow w.heap.size 3 1 (.slice ra m rc) m (iC o)) := row_up HO.out hb2; have D5 : Hid (W2.cell? ⟨g, oo + p * 7 + 5, none⟩ = some (.int .i64 (kk : Int))) := (by rw [← HS2.out]; exact below_cell hb2 d5); clear hb2)
          clear d0 d1 d2 d3 d4 d5 d6
          have HROW : Hid ((W2.alloc (.cells #[.int .i64 (p : Int)] 3)).ownsRow w.heap.size 3 1 (.slice ra m rc) m (iC o)) := HO2.out.alloc _
          have HSA : Hid (w.heap.size ≤ (W2.alloc (.cells #[.int .i64 (p : Int)] 3)).heap.size) := Nat.le_trans HB2.out.size (bel_up _ _).size
          have HMX : Hid (m + 1 ≤ maxLen ∧ (m + 1) * 8 ≤ 140737488355328) := by have := HM.out; have := HSZ.out; have := HPN.out; show _ ∧ _; unfold maxLen; omega
          have HNG : Hid (∀ r, Value.ownBlock (.slice ra m rc) = some r → w.heap.size ≤ r) := fun r hr => (row_tag HO2.out r hr).1
          have D5' : Hid (w.cell? ⟨g, oo + p * 7 + 5, none⟩ = some (.int .i64 (kk : Int))) := by
            obtain ⟨g', o', e0, hk⟩ := HT.out.kid p HPL.out
            cases e0
            have h8 := below_cell HB2.out hk
            rw [D5.out] at h8
            rw [hk]; exact h8.symm
          go_upto_region 7 with (at_builtin; refine wpList_append_own_at _ rfl _ _ 55 rfl w.heap.size 3 i3 (.int .i64 0) 1 8 Tryd.underlying55 hi3 hx0 hx1 hx2 rfl (by decide) _ _ _ rfl HROW.out ⟨W2.heap.size, 0, none⟩ 1 1 [.int .i64 (p : Int)] rfl rfl (cell_one_new _ _ _) (by simp [Value.oneCell']) HMX.out.1 HMX.out.2 HSA.out ?_; intro v5 w5 ho5 hg5 _ ha5; have HB5 : Hid (Below w.heap.size w w5) := bel_app HB2.out HB2.out.size HO2.out hg5; have HO5 : Hid (w5.ownsRow w.heap.size 3 1 v5 (m + 1) (iC (o ++ [(p : Int)]))) := (by rw [iC_app]; exact ho5); obtain ⟨qa, qc, rfl⟩ := row_shape ho5; clear ho5 hg5 ha5)
          have d5 := below_cell HB5.out D5'.out
          go_wp2_with fail
          go_roundg (n + 1 - (p + 1))
          case measure => have := HI.out; have := HPN.out; omega
          case rel => exact ⟨p + 1, kk, m + 1, o ++ [(p : Int)], by first | rfl | (rw [show (p : Int) + 1 = ((p + 1 : Nat) : Int) by omega]), rfl, ⟨Nat.le_refl _, HPN.out, HS3.out⟩, ⟨by rw [List.length_append, HM.out.1]; rfl, by have := HM.out; omega⟩, by rw [show n + 1 - (p + 1) = n - p by omega]; exact HQ2, HO5, HB5⟩
        | false =>
          rw [if_neg (by decide)] at hQ
          have HQ2 : Hid (Q = pth t z (n - p) (eA (kds t) p) k o) := hQ
          have HBH : Hid (∀ W, Below w.heap.size w W → Calls Tryd.prog 27 #[.slice (some ⟨g, oo, none⟩) n cap, .int .i64 (p : Int)] W fun e w' => e = .returned (.int .i64 (eA (kds t) p : Nat)) ∧ W = w') := fun W hb => behind_any W (HT.out.up hb) HS.out HF.out p HPL.out
          obtain ⟨E, hE⟩ : ∃ E, eA (kds t) p = E := ⟨_, rfl⟩
          rw [hE] at HBH HQ2 HEL
          have hwk : IntKind.i64.wrap ((k1 : Int) - 1) = (k : Int) := by rw [w64 _ (by omega) (by have := HI.out; have := HRB.out; have := HSZ.out; have := HK1.out; omega)]; have := HK1.out; omega
          clear hQ s2 hE
          go_wp2_with first | (go_at_call 26; refine Calls.mono (HCV.out _) ?_; rintro ee W2 ⟨rfl, hb2⟩; have HB2 : Hid (Below w.heap.size w W2) := below_trans HBW.out hb2; have HO2 : Hid (W2.ownsRow w.heap.size 3 1 (.slice ra m rc) m (iC o)) := row_up HO.out hb2; clear hb2) | (go_at_call 27; refine Calls.mono (HBH.out _ HB2.out) ?_; rintro ee ww ⟨rfl, rfl⟩)
          go_roundg (n + 1 - E)
          case measure => have := HI.out; have := HPN.out; have := HEL.out; omega
          case rel => exact ⟨E, k, m, o, rfl, rfl, ⟨Nat.le_refl _, HEL.out.2.1, by have := HI.out; have := HEL.out; have := HK1.out; omega⟩, ⟨HM.out.1, by have := HM.out; have := HEL.out; omega⟩, by rw [pth_fuel t z (n + 1 - E) (n - p) E k o HF.out (by rw [HN.out]; exact HEL.out.2.1) (by have := HI.out; have := HEL.out; have := HK1.out; omega) (by rw [HN.out]; have := HEL.out; omega) (by rw [HN.out]; have := HEL.out; have := HPN.out; omega)]; exact HQ2, HO2, HB2⟩
  · have HR : Hid (rts t = -1) := hr2
    have HP : Hid (pat t z = []) := by show _ = _; unfold pat; rw [hr]
    clear hr hr2
    go_enter Tryd.func17, Tryd.ntmps17
    go_upto_region 4 with (go_at_call 25; refine (roots_any _ HT.out HS.out).mono ?_; rintro ee ww ⟨rfl, rfl⟩; rw [HR.out])
    go_loopg [5, 6, 7] 0 (fun gm v5 v6 v7 wr => v5 = .slice none 0 0 ∧ v6 = .int .i64 0 ∧ v7 = .int .i64 (-1) ∧ gm = 0 ∧ w = wr)
    case atStart => exact ⟨rfl, rfl, rfl, rfl, rfl⟩
    case round =>
      obtain ⟨rfl, rfl, rfl, _, hw9⟩ := hrel
      subst hw9
      go_wp2_with fail
      go_ret
      exact ⟨_, rfl, by rw [HP.out]; exact World.ownsRow_nil _ _ _ _, Below.refl _ _⟩
end Go.Proofs.YtbkhhegmmkcbbaaDoor
