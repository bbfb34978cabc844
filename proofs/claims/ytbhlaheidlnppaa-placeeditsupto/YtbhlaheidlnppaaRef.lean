import Derived.Test.YtbhlaheidlnppaaBase
namespace Go.Proofs.Ytbhlaheidlnppaa
open Go.RowKit

set_option maxRecDepth 100000 in
set_option maxHeartbeats 400000 in
theorem rclamp_any (s : ByteArray) (n : Int) (w : World) :
    Calls Try.prog 31 #[.string s, .int .i64 n] w fun e w' => e = .returned (.int .i64 (cl n s.size)) ∧ w = w' := by
  go_enter Try.func31, Try.ntmps31
  go_wp2
  all_goals
    go_ret
    exact ⟨ret_int (by unfold cl; split <;> (try split) <;> omega), rfl⟩

set_option maxRecDepth 100000 in
set_option maxHeartbeats 1000000 in
theorem rrows_any (s : ByteArray) (R : List (Nat × Nat)) (w : World) (hR : Rw s 0 s.size R) (hs : s.size ≤ 1099511627776) :
    Calls Try.prog 13 #[.string s] w fun e w' => e = .returned (.int .i64 (R.length : Int)) ∧ w = w' := by
  have HR : Hid _ := hR
  have HS : Hid _ := hs
  clear hR hs
  go_enter Try.func13, Try.ntmps13
  go_wp2_with fail
  go_loopg [3, 4] s.size (fun k n i wr => ∃ (j p : Nat) (r : Nat × Nat), n = .int .i64 ((j : Int) + 1) ∧ i = .int .i64 (p : Int) ∧ R[j]? = some r ∧ r.1 ≤ p ∧ p ≤ r.2 ∧ k = s.size - p ∧ wr = w)
  case atStart =>
    obtain ⟨r, hr⟩ := get_of_lt HR.out.pos
    have := HR.out.first r hr
    exact ⟨0, 0, r, rfl, rfl, hr, by omega, by omega, by omega, rfl⟩
  case round =>
    obtain ⟨j, p, r, rfl, rfl, hr, h1, h2, hk, rfl⟩ := hrel
    have hle := HR.out.le _ _ hr
    have hjl := HR.out.ge _ _ hr
    have hs := HS.out
    have hle3 := hle.2.2
    clear hle
    have HK : Hid _ := hk
    have Q : Hid (r.1 ≤ p ∧ p ≤ r.2 ∧ R[j]? = some r ∧ r.2 ≤ s.size) := ⟨h1, h2, hr, hle3⟩
    have hj : j ≤ 1099511627776 := by omega
    have hp : p ≤ 1099511627776 := by omega
    clear h1 h2 hk hr hle3 hjl hs
    by_cases hlt : p < s.size
    · have hix := idx_fact s p hlt
      by_cases h10 : s.get! p = 10
      · have hc := is_nl s p h10
        have H10 : Hid _ := h10
        clear h10
        go_wp2_with fail
        go_roundg (s.size - (p + 1))
        case measure =>
          have hk := HK.out
          omega
        case rel =>
          obtain ⟨h1, h2, hr, hle3⟩ := Q.out
          have hpe : p = r.2 := by
            rcases Nat.lt_or_ge p r.2 with hh | hh
            · exact absurd H10.out (HR.out.free _ _ hr p h1 hh)
            · omega
          have hn : j + 1 < R.length := by
            rcases Nat.lt_or_ge (j + 1) R.length with hh | hh
            · exact hh
            · have := lt_of_get hr
              have := HR.out.last r (by rw [show R.length - 1 = j by omega]; exact hr)
              omega
          obtain ⟨q, hq⟩ := get_of_lt hn
          have hs := (HR.out.step _ _ _ hr hq).1
          have hl := HR.out.le _ _ hq
          exact ⟨j + 1, p + 1, q, by simp, by simp, hq, by omega, by omega, rfl, rfl⟩
      · have hc := no_nl s p h10
        have H10 : Hid _ := h10
        clear h10
        go_wp2_with fail
        go_roundg (s.size - (p + 1))
        case measure =>
          have hk := HK.out
          omega
        case rel =>
          obtain ⟨h1, h2, hr, hle3⟩ := Q.out
          have hpe : p < r.2 := by
            rcases Nat.lt_or_ge p r.2 with hh | hh
            · exact hh
            · have hpe : p = r.2 := by omega
              have hn : j + 1 < R.length := by
                rcases Nat.lt_or_ge (j + 1) R.length with hh | hh
                · exact hh
                · have := lt_of_get hr
                  have := HR.out.last r (by rw [show R.length - 1 = j by omega]; exact hr)
                  omega
              obtain ⟨q, hq⟩ := get_of_lt hn
              exact absurd (by rw [hpe]; exact (HR.out.step _ _ _ hr hq).2) H10.out
          exact ⟨j, p + 1, r, rfl, by simp, hr, by omega, by omega, rfl, rfl⟩
    · go_wp2_with fail
      go_ret
      obtain ⟨h1, h2, hr, hle3⟩ := Q.out
      refine ⟨ret_int ?_, rfl⟩
      have hl := lt_of_get hr
      rcases Nat.lt_or_ge (j + 1) R.length with hh | hh
      · obtain ⟨q, hq⟩ := get_of_lt hh
        have a1 := (HR.out.step _ _ _ hr hq).1
        have a2 := HR.out.le _ _ hq
        omega
      · omega

set_option maxRecDepth 100000 in
set_option maxHeartbeats 1000000 in
theorem rrow_none (s : ByteArray) (R : List (Nat × Nat)) (n : Int) (w : World) (hR : Rw s 0 s.size R) (hs : s.size ≤ 1099511627776) (hn : n < 0 ∨ (R.length : Int) ≤ n) :
    Calls Try.prog 11 #[.string s, .int .i64 n] w fun e w' => e = .returned (.tuple #[.agg #[.int .i64 0, .int .i64 0], .bool false]) ∧ Below w.heap.size w w' := by
  have H : Hid _ := fun W : World => rrows_any s R W hR hs
  clear hR hs
  by_cases h0 : n < 0
  · clear hn
    go_enter Try.func11, Try.ntmps11
    go_wp2_with fail
    (try simp only [Exit.inBlock, Exit.then])
    refine bodyPost_ret (v := .tuple #[.agg #[.int .i64 0, .int .i64 0], .bool false]) ?_ rfl ⟨rfl, ?_⟩
    · rw [results_cell_tmp rfl]; go_simp
    · (repeat' (first | exact Below.refl _ _ | refine Below.drew ?_ | refine Below.alloc ?_ (by simp <;> omega) _ | refine Below.setCell ?_ (by simp <;> omega) _))
  · have h1 : (R.length : Int) ≤ n := by omega
    clear hn
    go_enter Try.func11, Try.ntmps11
    go_wp2_with fail
    refine (H.out _).mono ?_
    rintro e w' ⟨rfl, rfl⟩
    go_wp2_with fail
    (try simp only [Exit.inBlock, Exit.then])
    refine bodyPost_ret (v := .tuple #[.agg #[.int .i64 0, .int .i64 0], .bool false]) ?_ rfl ⟨rfl, ?_⟩
    · rw [results_cell_tmp rfl]; go_simp
    · (repeat' (first | exact Below.refl _ _ | refine Below.drew ?_ | refine Below.alloc ?_ (by simp <;> omega) _ | refine Below.setCell ?_ (by simp <;> omega) _))

set_option maxRecDepth 100000 in
set_option maxHeartbeats 1000000 in
theorem rrow_some (s : ByteArray) (R : List (Nat × Nat)) (n : Nat) (r : Nat × Nat) (w : World) (hR : Rw s 0 s.size R) (hs : s.size ≤ 1099511627776) (hn : R[n]? = some r) :
    Calls Try.prog 11 #[.string s, .int .i64 (n : Int)] w fun e w' => e = .returned (.tuple #[.agg #[.int .i64 (r.1 : Int), .int .i64 (r.2 : Int)], .bool true]) ∧ Below w.heap.size w w' := by
  have H : Hid _ := fun W : World => rrows_any s R W hR hs
  have HR : Hid _ := hR
  have HS : Hid _ := hs
  have HN : Hid _ := hn
  have hl := lt_of_get hn
  have hlen : R.length ≤ 1099511627777 := by have := hR.len; omega
  clear hR hs hn
  go_enter Try.func11, Try.ntmps11
  go_wp2_with fail
  refine (H.out _).mono ?_
  rintro e w' ⟨rfl, rfl⟩
  go_wp2_with fail
  clear hl hlen
  go_loopg [1, 6] s.size (fun k c f wr => ∃ (j p m : Nat) (q : Nat × Nat), c = .int .i64 (m : Int) ∧ f = .int .i64 (p : Int) ∧ R[j]? = some q ∧ q.1 ≤ p ∧ p ≤ q.2 ∧ (m = 0 → p = q.1) ∧ j + m = n ∧ k = s.size - p ∧ wr = w.alloc (.cells #[.int .i64 0, .int .i64 0] 25))
  case atStart =>
    obtain ⟨q, hq⟩ := get_of_lt HR.out.pos
    have := HR.out.first q hq
    exact ⟨0, 0, n, q, rfl, rfl, hq, by omega, by omega, fun _ => by omega, by omega, by omega, rfl⟩
  case round =>
    obtain ⟨j, p, m, q, rfl, rfl, hq, h1, h2, h3, hjm, hk, rfl⟩ := hrel
    have hle := HR.out.le _ _ hq
    have hs := HS.out
    have hnl := lt_of_get HN.out
    have hlen := HR.out.len
    have HK : Hid _ := hk
    have Q : Hid (R[j]? = some q ∧ q.1 ≤ p ∧ p ≤ q.2 ∧ (m = 0 → p = q.1) ∧ j + m = n) := ⟨hq, h1, h2, h3, hjm⟩
    have hm : m ≤ 1099511627777 := by omega
    have hp : p ≤ 1099511627776 := by omega
    by_cases hm0 : 0 < m
    · have hn1 : j + 1 < R.length := by omega
      obtain ⟨q2, hq2⟩ := get_of_lt hn1
      have hst := HR.out.step _ _ _ hq hq2
      have hl2 := HR.out.le _ _ hq2
      have hlt : p < s.size := by omega
      have S2 : Hid (R[j + 1]? = some q2 ∧ q2.1 = q.2 + 1 ∧ s.get! q.2 = 10 ∧ q2.1 ≤ q2.2) := ⟨hq2, hst.1, hst.2, hl2.2.1⟩
      clear hq2 hst hl2 hle hs hnl hlen hk hq h1 h2 h3 hjm hn1
      have hix := idx_fact s p hlt
      by_cases h10 : s.get! p = 10
      · have hc := is_nl s p h10
        have H10 : Hid _ := h10
        clear h10
        go_wp2_with fail
        go_roundg (s.size - (p + 1))
        case measure =>
          have hk := HK.out
          omega
        case rel =>
          obtain ⟨hq, h1, h2, h3, hjm⟩ := Q.out
          obtain ⟨a1, a2, a3, a4⟩ := S2.out
          have hpe : p = q.2 := by
            rcases Nat.lt_or_ge p q.2 with hh | hh
            · exact absurd H10.out (HR.out.free _ _ hq p h1 hh)
            · omega
          exact ⟨j + 1, p + 1, m - 1, q2, by congr 1; omega, by simp, a1, by omega, by omega, fun _ => by omega, by omega, rfl, rfl⟩
      · have hc := no_nl s p h10
        have H10 : Hid _ := h10
        clear h10
        go_wp2_with fail
        go_roundg (s.size - (p + 1))
        case measure =>
          have hk := HK.out
          omega
        case rel =>
          obtain ⟨hq, h1, h2, h3, hjm⟩ := Q.out
          obtain ⟨a1, a2, a3, a4⟩ := S2.out
          have hpe : p < q.2 := by
            rcases Nat.lt_or_ge p q.2 with hh | hh
            · exact hh
            · exact absurd (by rw [show p = q.2 by omega]; exact a3) H10.out
          exact ⟨j, p + 1, m, q, rfl, by simp, hq, by omega, by omega, fun _ => by omega, by omega, rfl, rfl⟩
    · have hmz : m = 0 := by omega
      subst hmz
      have hjn : j = n := by omega
      subst hjn
      have hqr : q = r := by
        have := HN.out
        rw [hq] at this
        simpa using this
      subst hqr
      have hpq : p = q.1 := h3 rfl
      subst hpq
      have L : Hid (q.1 ≤ q.2 ∧ q.2 ≤ s.size) := ⟨hle.2.1, hle.2.2⟩
      clear hle hs hnl hlen hk hq h1 h2 h3 hjm hm HK Q
      go_wp2_with fail
      go_loopg [7] (s.size - q.1) (fun k t wr => ∃ p : Nat, t = .int .i64 (p : Int) ∧ q.1 ≤ p ∧ p ≤ q.2 ∧ k = s.size - p ∧ wr = w.alloc (.cells #[.int .i64 0, .int .i64 0] 25))
      case atStart =>
        have := L.out
        exact ⟨q.1, rfl, Nat.le_refl _, this.1, rfl, rfl⟩
      case round =>
        obtain ⟨p, rfl, h1, h2, hk, rfl⟩ := hrel
        have HK : Hid _ := hk
        have Q : Hid (q.1 ≤ p ∧ p ≤ q.2) := ⟨h1, h2⟩
        have hp : p ≤ 1099511627776 := by have := L.out; have := HS.out; omega
        have hat : p = s.size → p = q.2 := by have := L.out; omega
        have HAT : Hid _ := hat
        clear hk h1 h2 hat
        by_cases hlt : p < s.size
        · have hix := idx_fact s p hlt
          by_cases h10 : s.get! p = 10
          · have hc := is_nl s p h10
            have hpe : p = q.2 := by
              have hQ := Q.out
              rcases Nat.lt_or_ge p q.2 with hh | hh
              · exact absurd h10 (HR.out.free _ _ HN.out p hQ.1 hh)
              · omega
            have H10 : Hid _ := h10
            have HP : Hid _ := hpe
            clear h10 hpe
            go_wp2_with fail
            (try simp only [Exit.inBlock, Exit.then])
            refine bodyPost_ret (v := .tuple #[.agg #[.int .i64 (q.1 : Int), .int .i64 (p : Int)], .bool true]) ?_ rfl ⟨by rw [HP.out], ?_⟩
            · rw [results_cell_tmp rfl]; go_simp
            · (repeat' (first | exact Below.refl _ _ | refine Below.drew ?_ | refine Below.alloc ?_ (by simp <;> omega) _ | refine Below.setCell ?_ (by simp <;> omega) _))
          · have hc := no_nl s p h10
            have hpe : p < q.2 := by
              have hQ := Q.out
              rcases Nat.lt_or_ge p q.2 with hh | hh
              · exact hh
              · have hpe : p = q.2 := by omega
                have hn1 : j + 1 < R.length := by
                  rcases Nat.lt_or_ge (j + 1) R.length with hh | hh
                  · exact hh
                  · have := lt_of_get HN.out
                    have := HR.out.last q (by rw [show R.length - 1 = j by omega]; exact HN.out)
                    omega
                obtain ⟨q2, hq2⟩ := get_of_lt hn1
                exact absurd (by rw [hpe]; exact (HR.out.step _ _ _ HN.out hq2).2) h10
            have HP : Hid _ := hpe
            have H10 : Hid _ := h10
            clear h10 hpe
            go_wp2_with fail
            go_roundg (s.size - (p + 1))
            case measure =>
              have hk := HK.out
              omega
            case rel =>
              have hQ := Q.out
              have := HP.out
              exact ⟨p + 1, by simp, by omega, by omega, rfl, rfl⟩
        · have hpe : p = q.2 := by
            have hQ : q.1 ≤ p ∧ p ≤ q.2 := Q.out
            have hL : q.1 ≤ q.2 ∧ q.2 ≤ s.size := L.out
            omega
          have HP : Hid _ := hpe
          clear hpe
          go_wp2_with fail
          (try simp only [Exit.inBlock, Exit.then])
          refine bodyPost_ret (v := .tuple #[.agg #[.int .i64 (q.1 : Int), .int .i64 (p : Int)], .bool true]) ?_ rfl ⟨by rw [HP.out], ?_⟩
          · rw [results_cell_tmp rfl]; go_simp
          · (repeat' (first | exact Below.refl _ _ | refine Below.drew ?_ | refine Below.alloc ?_ (by simp <;> omega) _ | refine Below.setCell ?_ (by simp <;> omega) _))

end Go.Proofs.Ytbhlaheidlnppaa
