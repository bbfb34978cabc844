import Derived.Test.YtcfmpmhdjkchjabThh
import Derived.Test.YtcfmpmhdjkchjabTbe
namespace Go.Proofs.Ytcfmpmhdjkchjab
open Go.RowKit Go.Maps

set_option maxRecDepth 100000 in
set_option maxHeartbeats 8000000 in
theorem anyBeyond_any {v : Value} {L : List (Value × List Nd)} (w : World) (h : Kr w v L) (hn : L.length ≤ 140737488355328) (hs : ∀ x ∈ L, Sm x.2) :
    Calls Try.prog 5 #[v] w fun e w' => ∃ b, e = .returned (.bool b) ∧ Below w.heap.size w w' := by
  have HK : Hid (Kr w v L) := h
  have HS : Hid (∀ x ∈ L, Sm x.2) := hs
  have HL : Hid (L.length ≤ 140737488355328) := hn
  obtain ⟨a, cap, rfl⟩ := h.t.form
  clear h hs hn
  obtain ⟨n, hn⟩ : ∃ n, L.length = n := ⟨_, rfl⟩
  have HN : Hid (L.length = n) := hn
  rw [hn] at HK HL ⊢
  clear hn
  go_enter Try.func5, Try.ntmps5
  go_upto_region 2 with fail
  go_loopg [3] n (fun gm v3 wr => ∃ i : Nat, v3 = .int .i64 (i : Int) ∧ Hid (gm = n - i ∧ i ≤ n) ∧ Hid (Below w.heap.size w wr))
  case atStart => exact ⟨0, rfl, ⟨rfl, Nat.zero_le _⟩, Below.refl _ _⟩
  case round =>
    obtain ⟨i, rfl, HI, HBW⟩ := hrel
    by_cases hi : i < n
    · have e1 : decide ((i : Int) < (n : Int)) = true := by rw [decide_eq_true_eq]; omega
      have e2 : decide (i < n) = true := by rw [decide_eq_true_eq]; omega
      have e3 : (i : Int) < (n : Int) := by omega
      have HIM : Hid (i < n) := hi
      have hil : i < L.length := by have := HN.out; omega
      obtain ⟨g, o, b, c, rfl, q0, q1, q2⟩ := (HK.out.up HBW.out).at i hil
      have HSM : Hid (Sm (L.getD i krd).2) := HS.out _ (getD_mem L krd i hil)
      have HT : Hid (Ns wr (.slice b (L.getD i krd).2.length c) (L.getD i krd).2) := q2
      obtain ⟨t, ht⟩ : ∃ t, (L.getD i krd).2 = t := ⟨_, rfl⟩
      rw [ht] at q1 HT HSM
      obtain ⟨m, hm⟩ : ∃ m, t.length = m := ⟨_, rfl⟩
      rw [hm] at q1 HT
      have hwi := w64n i (by have := HL.out; omega)
      clear hil q0 q2 ht hm hi
      go_upto_region 5 with (go_at_call 17; refine (beyond_any _ HT.out HSM.out).mono ?_; rintro ee W2 ⟨bb, rfl, hb2⟩; have HB2 : Hid _ := below_trans HBW.out hb2; clear hb2)
      cases bb with
      | true =>
        go_wp2_with fail
        go_ret
        exact ⟨_, rfl, HB2.out⟩
      | false =>
        go_wp2_with fail
        go_roundg (n - (i + 1))
        case measure => have := HI.out.1; have := HIM.out; omega
        case rel => exact ⟨i + 1, by first | rfl | (rw [show (i : Int) + 1 = ((i + 1 : Nat) : Int) by omega]), ⟨rfl, HIM.out⟩, HB2.out⟩
    · have e1 : decide ((i : Int) < (n : Int)) = false := by rw [decide_eq_false_iff_not]; omega
      have e2 : decide (i < n) = false := by rw [decide_eq_false_iff_not]; omega
      clear hi
      go_wp2_with fail
      go_ret
      exact ⟨_, rfl, HBW.out⟩
end Go.Proofs.Ytcfmpmhdjkchjab
