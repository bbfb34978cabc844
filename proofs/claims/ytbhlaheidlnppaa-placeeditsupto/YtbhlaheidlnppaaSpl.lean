import Derived.Test.YtbhlaheidlnppaaIxt
import Derived.Test.YtbhlaheidlnppaaEditp
namespace Go.Proofs.Ytbhlaheidlnppaa
open Go.RowKit

theorem spl_app (s : ByteArray) (a e : Nat) (ins : ByteArray) : s.extract 0 a ++ ins ++ s.extract e s.size = spl s a e ins := by
  unfold spl
  have h : (s.extract 0 a ++ ins ++ s.extract e s.size).data.toList = (s.extract 0 a).data.toList ++ ins.data.toList ++ (s.extract e s.size).data.toList := by
    rw [ByteArray.data_append, ByteArray.data_append, Array.toList_append, Array.toList_append]
  generalize s.extract 0 a ++ ins ++ s.extract e s.size = x at *
  cases x with
  | mk d =>
    simp only at h
    rw [← h]

set_option maxRecDepth 1000000 in
set_option maxHeartbeats 2000000 in
theorem spliced_any (s : ByteArray) (at_ del : Int) (ins : ByteArray) (a e : Nat) (w : World) (ha : cl at_ s.size = a) (he : cl del ((s.size : Int) - a) = (e : Int) - a) (hae : a ≤ e) (hes : e ≤ s.size) (hs : s.size + ins.size ≤ 1099511627776) :
    Calls Try.prog 23 #[.string s, .agg #[.int .i64 at_, .int .i64 del, .string ins]] w fun x w' => x = .returned (.string (spl s a e ins)) ∧ Below w.heap.size w w' := by
  obtain ⟨k0, k1, k2⟩ := cells3 w (.int .i64 at_) (.int .i64 del) (.string ins) 47
  obtain ⟨W0, hW0⟩ : ∃ W0, W0 = w.alloc (.cells #[.int .i64 at_, .int .i64 del, .string ins] 47) := ⟨_, rfl⟩
  have b0 := bel_up w (.cells #[.int .i64 at_, .int .i64 del, .string ins] 47)
  rw [← hW0] at k0 k1 k2 b0
  have HE : Hid _ := hW0
  have B0 : Hid _ := b0
  have HA : Hid _ := ha
  have HEE : Hid _ := he
  have HS : Hid _ := hs
  have hs1 : s.size ≤ 1099511627776 := by omega
  have ha1 : a ≤ s.size := by omega
  clear hW0 b0 ha he hs
  go_enter Try.func23, Try.ntmps23
  go_upto_if 10 with fail
  rw [← HE.out]
  go_cut [5] from 11 (fun v wc => ∃ m : Int, v = .int .i64 m ∧ 0 ≤ m ∧ cl m s.size = a ∧ wc = W0)
  case first =>
    by_cases h0 : at_ < 0
    · go_wp2_with fail
      go_meet
      exact ⟨0, rfl, by omega, by rw [← HA.out]; unfold cl; rw [if_neg (by omega), if_neg (by omega), if_pos h0], rfl⟩
    · go_wp2_with fail
      go_meet
      exact ⟨at_, rfl, by omega, HA.out, rfl⟩
  case rest =>
    obtain ⟨m, rfl, hm0, hmc, rfl⟩ := hcut
    have HM : Hid _ := hmc
    clear hmc
    go_upto_if 14 with fail
    go_cut [5] from 15 (fun v wd => v = .int .i64 (a : Int) ∧ wd = wc)
    case first =>
      by_cases h0 : (s.size : Int) < m
      · have ht : a = s.size := by
          have := HM.out
          unfold cl at this
          rw [if_neg (by omega), if_pos h0] at this
          omega
        go_wp2_with fail
        go_meet
        exact ⟨by rw [ht], rfl⟩
      · have ht : (a : Int) = m := by
          have := HM.out
          unfold cl at this
          rw [if_neg (by omega), if_neg h0] at this
          omega
        go_wp2_with fail
        go_meet
        exact ⟨by rw [ht], rfl⟩
    case rest =>
      obtain ⟨rfl, rfl⟩ := hcut
      clear HM hm0
      go_upto_if 20 with fail
      go_cut [6] from 21 (fun v wd => ∃ m : Int, v = .int .i64 m ∧ 0 ≤ m ∧ cl m ((s.size : Int) - a) = (e : Int) - a ∧ wd = wc)
      case first =>
        by_cases h0 : del < 0
        · go_wp2_with fail
          go_meet
          exact ⟨0, rfl, by omega, by rw [← HEE.out]; unfold cl; rw [if_neg (by omega), if_neg (by omega), if_pos h0], rfl⟩
        · go_wp2_with fail
          go_meet
          exact ⟨del, rfl, by omega, HEE.out, rfl⟩
      case rest =>
        obtain ⟨m2, rfl, hm0, hmc, rfl⟩ := hcut
        have HM : Hid _ := hmc
        clear hmc
        go_upto_if 26 with fail
        go_cut [6] from 27 (fun v wd => v = .int .i64 ((e : Int) - (a : Int)) ∧ wd = wc)
        case first =>
          by_cases h0 : (s.size : Int) - (a : Int) < m2
          · have ht : (e : Int) - (a : Int) = (s.size : Int) - (a : Int) := by
              have := HM.out
              unfold cl at this
              rw [if_neg (by omega), if_pos h0] at this
              omega
            go_wp2_with fail
            go_meet
            exact ⟨by rw [ht], rfl⟩
          · have ht : (e : Int) - (a : Int) = m2 := by
              have := HM.out
              unfold cl at this
              rw [if_neg (by omega), if_neg h0] at this
              omega
            go_wp2_with fail
            go_meet
            exact ⟨by rw [ht], rfl⟩
        case rest =>
          obtain ⟨rfl, rfl⟩ := hcut
          have hS := HS.out
          have wr2 : IntKind.i64.wrap ((a : Int) + ((e : Int) - (a : Int))) = (e : Int) := by rw [IntKind.wrap_i64]; omega
          have h0e : (0 : Int) ≤ (e : Int) := by omega
          have h0a : (0 : Int) ≤ (a : Int) := by omega
          have hesI : (e : Int) ≤ (s.size : Int) := by omega
          have hasI : (a : Int) ≤ (s.size : Int) := by omega
          have q1 : (s.extract 0 a).size = a := by have := ext_size s 0 a (by omega) (by omega); omega
          have q2 : (s.extract e s.size).size = s.size - e := ext_size s e s.size hes (Nat.le_refl _)
          have z1 : ¬ 9223372036854775807 < (s.extract 0 a).size + ins.size := by omega
          have z2 : ¬ 9223372036854775807 < (s.extract 0 a ++ ins).size + (s.extract e s.size).size := by rw [ByteArray.size_append]; omega
          clear HM hm0 q1 q2 k0 k1 hS
          go_wp2_with fail
          go_quiet (fail)
          go_wp2_with fail
          go_ret
          refine ⟨?_, below_drewN B0.out _⟩
          show Ending.returned (.string (s.extract 0 a ++ ins ++ s.extract e s.size)) = _
          rw [spl_app]

end Go.Proofs.Ytbhlaheidlnppaa
