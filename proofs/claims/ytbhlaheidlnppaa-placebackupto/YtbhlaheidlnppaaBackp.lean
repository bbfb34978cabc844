import Derived.Test.YtbhlaheidlnppaaOrder
namespace Go.Proofs.Ytbhlaheidlnppaa
open Go.RowKit

/-- a place, its border, and the place behind the border -/
theorem back_at {s : ByteArray} {T : List ((Nat × Nat) × Value)} (hR : Rw s 0 s.size (T.map (·.1))) {t j : Nat} {x : (Nat × Nat) × Value} (hx : T[j]? = some x) (h1 : x.1.1 ≤ t) (h2 : t ≤ x.1.2) :
    ∃ B u : Nat, (lastB (s.extract x.1.1 x.1.2) (winAt ((t - x.1.1 : Nat) : Int))).2 = u ∧ atW s (T.map (·.1)) j u = B ∧ B ≤ t ∧ t ≤ B + 3 ∧ x.1.1 ≤ B ∧
      (lastB (s.extract x.1.1 x.1.2) (winAt ((B - x.1.1 : Nat) : Int))).2 = u ∧ (B < t → (lastB (s.extract x.1.1 x.1.2) (winAt ((B + 1 - x.1.1 : Nat) : Int))).2 = u) := by
  have hle := hR.le _ _ (map_get hx)
  obtain ⟨⟨f, e⟩, v⟩ := x
  simp only at h1 h2 hle ⊢
  have hsz : (s.extract f e).size = e - f := ext_size s f e hle.2.1 hle.2.2
  obtain ⟨k, u, e1, bd, hw, hn⟩ := lastB_spec (s.extract f e) (winAt ((t - f : Nat) : Int)) (by simp [winAt])
  generalize hl : s.extract f e = l at *
  have hk := bd.le
  simp only [winAt, decide_eq_true_eq, decide_eq_false_iff_not] at hw hn
  have hkc : k ≤ t - f := by omega
  have a1 : lastB l (winUn (u : Int)) = (k, u) := lastB_at l _ (winUn_mono _) bd (by simp [winUn]) (fun _ => by have := (cu_pos l k).1; simp [winUn]; omega)
  have a2 : lastB l (winAt (k : Int)) = (k, u) := lastB_at l _ (winAt_mono _) bd (by simp [winAt]) (fun h => by have := cw_pos l k h; simp [winAt]; omega)
  refine ⟨f + k, u, by rw [e1], ?_, by omega, ?_, by omega, ?_, fun hlt => ?_⟩
  · unfold atW
    rw [if_neg (by omega), show ((j : Int)).toNat = j by omega, map_get hx]
    simp only [hl]
    rw [a1]
    simp
  · by_cases hkl : k < l.size
    · have := hn hkl
      have := (cw_le l k hkl).2.1
      omega
    · omega
  · rw [show f + k - f = k by omega, a2]
  · have hkl : k < l.size := by omega
    have hnn := hn hkl
    rw [show f + k + 1 - f = k + 1 by omega]
    have a3 : lastB l (winAt ((k + 1 : Nat) : Int)) = (k, u) := lastB_at l _ (winAt_mono _) bd (by simp [winAt]; omega) (fun _ => by simp [winAt]; omega)
    rw [a3]

/-- a row and a column, their border, and the row's units -/
theorem back_pos {s : ByteArray} {T : List ((Nat × Nat) × Value)} (hR : Rw s 0 s.size (T.map (·.1))) {n : Nat} {x : (Nat × Nat) × Value} (hx : T[n]? = some x) (c : Nat) :
    ∃ B u ua : Nat, atW s (T.map (·.1)) n c = B ∧ x.1.1 ≤ B ∧ B ≤ x.1.2 ∧ (lastB (s.extract x.1.1 x.1.2) (winAt ((B - x.1.1 : Nat) : Int))).2 = u ∧ (lastB (s.extract x.1.1 x.1.2) (winAt ((x.1.2 - x.1.1 : Nat) : Int))).2 = ua ∧ u ≤ c ∧ (u = c ∨ (c = u + 1 ∧ c ≤ ua) ∨ u = ua) := by
  have hle := hR.le _ _ (map_get hx)
  obtain ⟨⟨f, e⟩, v⟩ := x
  simp only at hle ⊢
  have hsz : (s.extract f e).size = e - f := ext_size s f e hle.2.1 hle.2.2
  obtain ⟨k, u, e1, bd, hw, hn⟩ := lastB_spec (s.extract f e) (winUn (c : Int)) (by simp [winUn])
  generalize hl : s.extract f e = l at *
  have hk := bd.le
  simp only [winUn, decide_eq_true_eq, decide_eq_false_iff_not] at hw hn
  have a2 : lastB l (winAt (k : Int)) = (k, u) := lastB_at l _ (winAt_mono _) bd (by simp [winAt]) (fun h => by have := cw_pos l k h; simp [winAt]; omega)
  refine ⟨f + k, u, _, ?_, by omega, by omega, ?_, rfl, by omega, ?_⟩
  · unfold atW
    rw [if_neg (by omega), show ((n : Int)).toNat = n by omega, map_get hx]
    simp only [hl]
    rw [e1]
    simp
  · rw [show f + k - f = k by omega, a2]
  · rw [← hsz]
    by_cases hkl : k < l.size
    · have h1 := hn hkl
      have h2 := (cu_pos l k).2
      by_cases hc : u = c
      · exact Or.inl hc
      · right; left
        refine ⟨by omega, ?_⟩
        have bd2 := bd.step hkl
        have hw2 : winAt (l.size : Int) (k + cw l k) (u + cu l k) = true := by
          have := (cw_le l k hkl).1
          simp [winAt]
          omega
        obtain ⟨k', u', e', _, _, _, l2, _⟩ := lgo_spec l (winAt (l.size : Int)) l.size _ _ (0, 0) (by omega) bd2 hw2
        rw [lgo_from l _ (winAt_mono _) bd2 hw2 (0, 0), e']
        show c ≤ u'
        omega
    · right; right
      have hkk : k = l.size := by omega
      have a4 : lastB l (winAt (l.size : Int)) = (k, u) := lastB_at l _ (winAt_mono _) bd (by simp [winAt]; omega) (fun h => by omega)
      rw [a4]

theorem at_pos {s : ByteArray} {T : List ((Nat × Nat) × Value)} {n : Nat} {x : (Nat × Nat) × Value} (hx : T[n]? = some x) (c : Nat) (hc : x.1.1 + c ≤ x.1.2) : atS s (T.map (·.1)) n c = ((x.1.1 + c : Nat) : Int) := by
  unfold atS
  rw [if_neg (by omega), show ((n : Int)).toNat = n by omega, map_get hx]
  simp only
  rw [cl_id (by omega) (by omega)]
  omega

end Go.Proofs.Ytbhlaheidlnppaa
