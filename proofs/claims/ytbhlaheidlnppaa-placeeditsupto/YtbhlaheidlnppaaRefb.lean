import Derived.Test.YtbhlaheidlnppaaRef
namespace Go.Proofs.Ytbhlaheidlnppaa
open Go.RowKit

theorem Rw.nl {s : ByteArray} {R : List (Nat × Nat)} (h : Rw s 0 s.size R) {m p : Nat} {q : Nat × Nat} (hq : R[m]? = some q) (h1 : q.1 ≤ p) (h2 : p ≤ q.2) (hlt : p < s.size) (h10 : s.get! p = 10) :
    ∃ q2 : Nat × Nat, R[m + 1]? = some q2 ∧ q2.1 = p + 1 ∧ q2.1 ≤ q2.2 := by
  have hpe : p = q.2 := by
    rcases Nat.lt_or_ge p q.2 with hh | hh
    · exact absurd h10 (h.free _ _ hq p h1 hh)
    · omega
  have hn1 : m + 1 < R.length := by
    rcases Nat.lt_or_ge (m + 1) R.length with hh | hh
    · exact hh
    · have := lt_of_get hq
      have := h.last q (by rw [show R.length - 1 = m by omega]; exact hq)
      omega
  obtain ⟨q2, hq2⟩ := get_of_lt hn1
  have a1 := (h.step _ _ _ hq hq2).1
  have a2 := h.le _ _ hq2
  exact ⟨q2, hq2, by omega, by omega⟩
theorem Rw.nonl {s : ByteArray} {R : List (Nat × Nat)} (h : Rw s 0 s.size R) {m p : Nat} {q : Nat × Nat} (hq : R[m]? = some q) (h2 : p ≤ q.2) (hlt : p < s.size) (h10 : s.get! p ≠ 10) : p < q.2 := by
  rcases Nat.lt_or_ge p q.2 with hh | hh
  · exact hh
  · have hpe : p = q.2 := by omega
    have hn1 : m + 1 < R.length := by
      rcases Nat.lt_or_ge (m + 1) R.length with hh | hh
      · exact hh
      · have := lt_of_get hq
        have := h.last q (by rw [show R.length - 1 = m by omega]; exact hq)
        omega
    obtain ⟨q2, hq2⟩ := get_of_lt hn1
    exact absurd (by rw [hpe]; exact (h.step _ _ _ hq hq2).2) h10

set_option maxRecDepth 100000 in
set_option maxHeartbeats 1000000 in
theorem rpos_any (s : ByteArray) (R : List (Nat × Nat)) (n : Int) (t j : Nat) (r : Nat × Nat) (w : World) (hR : Rw s 0 s.size R) (hs : s.size ≤ 1099511627776) (ht : cl n s.size = t) (hj : R[j]? = some r) (h1 : r.1 ≤ t) (h2 : t ≤ r.2) :
    Calls Try.prog 15 #[.string s, .int .i64 n] w fun e w' => e = .returned (.agg #[.int .i64 (j : Int), .int .i64 ((t - r.1 : Nat) : Int)]) ∧ Below w.heap.size w w' := by
  have H : Hid _ := fun W : World => rclamp_any s n W
  rw [ht] at H
  have HR : Hid _ := hR
  have HJ : Hid (R[j]? = some r ∧ r.1 ≤ t ∧ t ≤ r.2 ∧ t ≤ s.size) := ⟨hj, h1, h2, by have := hR.le _ _ hj; omega⟩
  have hts : t ≤ 1099511627776 := by have := hR.le _ _ hj; omega
  clear hR hs hj h1 h2 ht
  go_enter Try.func15, Try.ntmps15
  go_wp2_with fail
  refine (H.out _).mono ?_
  rintro e w' ⟨rfl, rfl⟩
  go_wp2_with fail
  go_loopg [6] t (fun k i wr => ∃ (p m : Nat) (q : Nat × Nat), i = .int .i64 (p : Int) ∧ p ≤ t ∧ R[m]? = some q ∧ q.1 ≤ p ∧ p ≤ q.2 ∧ k = t - p ∧ wr = (w.alloc (.cells #[.int .i64 0, .int .i64 0] 33)).alloc (.cells #[.int .i64 (m : Int), .int .i64 ((p - q.1 : Nat) : Int)] 33))
  case atStart =>
    obtain ⟨q, hq⟩ := get_of_lt HR.out.pos
    have hf := HR.out.first q hq
    exact ⟨0, 0, q, rfl, by omega, hq, by omega, by omega, by omega, by rw [hf]; rfl⟩
  case round =>
    obtain ⟨p, m, q, rfl, hpt, hq, h1, h2, hk, rfl⟩ := hrel
    have HK : Hid _ := hk
    have hle := HR.out.le _ _ hq
    have Q : Hid (p ≤ t ∧ R[m]? = some q ∧ q.1 ≤ p ∧ p ≤ q.2) := ⟨hpt, hq, h1, h2⟩
    have hml : m ≤ 1099511627777 := by have := HR.out.ge _ _ hq; omega
    have hts2 := HJ.out.2.2.2
    by_cases hlt : p < t
    · have hps : p < s.size := by omega
      have hix := idx_fact s p hps
      have hd : p - q.1 ≤ 1099511627776 := by omega
      obtain ⟨d, hdd⟩ : ∃ d, d = p - q.1 := ⟨_, rfl⟩
      rw [← hdd] at hd ⊢
      have HD : Hid _ := hdd
      clear hdd hle hk hq h1 h2 hts2
      by_cases h10 : s.get! p = 10
      · have hc := is_nl s p h10
        have H10 : Hid _ := h10
        clear h10
        go_wp2_with fail
        go_roundg (t - (p + 1))
        case measure =>
          have hk := HK.out
          omega
        case rel =>
          obtain ⟨hpt, hq, h1, h2⟩ := Q.out
          obtain ⟨q2, a1, a2, a3⟩ := HR.out.nl hq h1 h2 hps H10.out
          exact ⟨p + 1, m + 1, q2, by simp, by omega, a1, by omega, by omega, rfl, by rw [a2]; simp⟩
      · have hc := no_nl s p h10
        have H10 : Hid _ := h10
        clear h10
        go_wp2_with fail
        go_roundg (t - (p + 1))
        case measure =>
          have hk := HK.out
          omega
        case rel =>
          obtain ⟨hpt, hq, h1, h2⟩ := Q.out
          have a1 := HR.out.nonl hq h2 hps H10.out
          have a2 := HD.out
          exact ⟨p + 1, m, q, by simp, by omega, hq, by omega, by omega, rfl, by rw [show p + 1 - q.1 = d + 1 by omega]; simp⟩
    · have hpe : p = t := by omega
      subst hpe
      have hmj : m = j := by
        have hJ := HJ.out
        exact HR.out.uniq hq hJ.1 h1 h2 hJ.2.1 hJ.2.2.1
      subst hmj
      have hqr : q = r := by
        have hJ := HJ.out
        rw [hJ.1] at hq
        simpa using hq.symm
      subst hqr
      clear hq h1 h2 hle hk
      go_wp2_with fail
      (try simp only [Exit.inBlock, Exit.then])
      refine bodyPost_ret (v := .agg #[.int .i64 (m : Int), .int .i64 ((p - q.1 : Nat) : Int)]) ?_ rfl ⟨rfl, ?_⟩
      · rw [results_cell1 rfl]; go_simp
      · (repeat' (first | exact Below.refl _ _ | refine Below.drew ?_ | refine Below.alloc ?_ (by simp <;> omega) _ | refine Below.setCell ?_ (by simp <;> omega) _))

/-- the place of a row and a column in bytes -/
def atS (s : ByteArray) (R : List (Nat × Nat)) (row col : Int) : Int :=
  if row < 0 then 0 else match R[row.toNat]? with | none => s.size | some r => r.1 + cl col (r.2 - r.1)

set_option maxRecDepth 100000 in
set_option maxHeartbeats 1000000 in
theorem rat_any (s : ByteArray) (R : List (Nat × Nat)) (row col : Int) (w : World) (hR : Rw s 0 s.size R) (hs : s.size ≤ 1099511627776) :
    Calls Try.prog 17 #[.string s, .agg #[.int .i64 row, .int .i64 col]] w fun e w' => e = .returned (.int .i64 (atS s R row col)) ∧ Below w.heap.size w w' := by
  by_cases h0 : row < 0
  · have ha : atS s R row col = 0 := by unfold atS; rw [if_pos h0]
    rw [ha]
    clear ha hR hs
    go_enter Try.func17, Try.ntmps17
    go_wp2_with fail
    go_ret
    exact ⟨rfl, by (repeat' (first | exact Below.refl _ _ | refine Below.drew ?_ | refine Below.alloc ?_ (by simp <;> omega) _ | refine Below.setCell ?_ (by simp <;> omega) _))⟩
  · by_cases h1 : (R.length : Int) ≤ row
    · have ha : atS s R row col = s.size := by
        unfold atS
        rw [if_neg h0, List.getElem?_eq_none (by omega)]
      rw [ha]
      have H : Hid _ := fun W : World => rrow_none s R row W hR hs (Or.inr h1)
      clear ha hR hs h1
      go_enter Try.func17, Try.ntmps17
      go_wp2_with fail
      refine (H.out _).mono ?_
      rintro e w1 ⟨rfl, hb⟩
      have HB : Hid _ := hb
      clear hb
      go_wp2_with fail
      go_ret
      refine ⟨rfl, ?_⟩
      exact below_trans (below_trans (bel_up _ _) HB.out) (bel_up _ _)
    · obtain ⟨n, hn⟩ : ∃ n : Nat, row = n := ⟨row.toNat, by omega⟩
      subst hn
      obtain ⟨r, hr⟩ := get_of_lt (R := R) (i := n) (by omega)
      have ha : atS s R n col = r.1 + cl col (r.2 - r.1) := by
        unfold atS
        rw [if_neg h0, show ((n : Int)).toNat = n by omega, hr]
      rw [ha]
      have H : Hid _ := fun W : World => rrow_some s R n r W hR hs hr
      have hle := hR.le _ _ hr
      obtain ⟨a, b⟩ := r
      have h1 : a ≤ b := hle.2.1
      have h2 : b ≤ 1099511627776 := by simp at hle; omega
      have HE : Hid (cl col ((b : Int) - (a : Int)) = if col < 0 then 0 else if (b : Int) - a < col then (b : Int) - a else col) := rfl
      generalize cl col ((b : Int) - (a : Int)) = c at HE ⊢
      clear ha hR hs hr hle
      go_enter Try.func17, Try.ntmps17
      go_wp2_with fail
      refine (H.out _).mono ?_
      rintro e w1 ⟨rfl, hb⟩
      have c0 := cell_up (.cells #[.int .i64 (a : Int), .int .i64 (b : Int)] 25) (below_cell hb (cells2 w (.int .i64 (n : Int)) (.int .i64 col) 33).1)
      have c1 := cell_up (.cells #[.int .i64 (a : Int), .int .i64 (b : Int)] 25) (below_cell hb (cells2 w (.int .i64 (n : Int)) (.int .i64 col) 33).2)
      have HB : Hid _ := hb
      clear hb
      go_wp2_with fail
      all_goals go_ret
      all_goals refine ⟨ret_int ?_, below_trans (below_trans (bel_up _ _) HB.out) (bel_up _ _)⟩
      all_goals rw [HE.out]
      all_goals (split <;> (try split) <;> omega)

end Go.Proofs.Ytbhlaheidlnppaa
