import Derived.Test.YtkaciochlemjiabAct
import Derived.Test.YtkaciochlemjiabBeh
namespace Go.Proofs.Ytkaciochlemjiab
open Go.RowKit Go.Maps

theorem u16_wrap (a : Nat) (h : a < 65536) : IntKind.u16.wrap (a : Int) = (a : Int) := by
  simp [IntKind.wrap, IntKind.bits, IntKind.signed]; omega
theorem u16_or (a n : Nat) (ha : a < 65536) (hn : n < 16) : bits .or .u16 (a : Int) ((2 ^ n : Nat) : Int) = ((a ||| 2 ^ n : Nat) : Int) := by
  have hp : 2 ^ n < 65536 := Nat.pow_lt_pow_right (a := 2) (m := n) (n := 16) (by decide) (by omega)
  exact (bits_nat .u16 16 (by decide) (fun n h0 h1 => by simp [IntKind.wrap, IntKind.bits, IntKind.signed]; omega) a (2 ^ n) ha hp).2
theorem and_not (a : Nat) (ha : a < 65536) (n : Nat) (hn : n < 16) : bits .andNot .u16 (a : Int) ((2 ^ n : Nat) : Int) = ((a &&& (65535 - 2 ^ n) : Nat) : Int) := by
  have hp : 2 ^ n < 65536 := Nat.pow_lt_pow_right (a := 2) (m := n) (n := 16) (by decide) (by omega)
  have e : bits .andNot .u16 (a : Int) ((2 ^ n : Nat) : Int) = IntKind.u16.wrap ((BitVec.ofInt 16 (a : Int) &&& ~~~(BitVec.ofInt 16 ((2 ^ n : Nat) : Int))).toNat : Nat) := rfl
  rw [e, BitVec.toNat_and, BitVec.toNat_not, BitVec.ofInt_natCast, BitVec.ofInt_natCast, BitVec.toNat_ofNat, BitVec.toNat_ofNat, Nat.mod_eq_of_lt ha, Nat.mod_eq_of_lt hp]
  exact u16_wrap _ (Nat.lt_of_le_of_lt Nat.and_le_left ha)
theorem pw16 (n : Nat) (hn : n < 16) : IntKind.u16.wrap (2 ^ n) = ((2 ^ n : Nat) : Int) := by
  have hp : 2 ^ n < 65536 := Nat.pow_lt_pow_right (a := 2) (m := n) (n := 16) (by decide) (by omega)
  have e1 : ((2 : Int) ^ n) = ((2 ^ n : Nat) : Int) := by simp
  rw [e1, u16_wrap _ hp]
theorem u16_orw (a n : Nat) (ha : a < 65536) (hn : n < 16) : bits .or .u16 (a : Int) (IntKind.u16.wrap (2 ^ n)) = ((a ||| 2 ^ n : Nat) : Int) := by rw [pw16 n hn, u16_or a n ha hn]
theorem u16_anw (a n : Nat) (ha : a < 65536) (hn : n < 16) : bits .andNot .u16 (a : Int) (IntKind.u16.wrap (2 ^ n)) = ((a &&& (65535 - 2 ^ n) : Nat) : Int) := by rw [pw16 n hn, and_not a ha n hn]

set_option maxRecDepth 100000 in
set_option maxHeartbeats 4000000 in
theorem turn_any {B : Nat} {W : World} {b : Nat} {vi vq vf : Value} {s : Stt} (h : Nx B W b vi vq vf s) (hf : s.flg < 65536) (n : Int) (on : Bool) :
    Calls Try.prog 39 #[.pointer (some ⟨b, 0, none⟩), .int .i64 n, .bool on] W fun e W' => Rs B W b (aTurn s n on) e W' := by
  obtain ⟨a1, c1, a2, c2, a3, c3, rfl, rfl, rfl⟩ := h.own.stm.form
  by_cases hn : n < 0 ∨ 16 ≤ n
  · have HE : Hid (aTurn s n on = .error 66) := by unfold aTurn; rw [if_pos hn]; exact rfl
    have HF : Hid ((decide (0 ≤ n) && decide (n < 16)) = false) := by
      rw [Hid, ← Bool.not_eq_true]
      simp
      omega
    clear h hn
    go_enter Try.func39, Try.ntmps39
    go_wp2_with (go_at_call 65; refine (flag_any _ _).mono ?_; rintro e w9 ⟨rfl, hw9⟩; rw [hw9, HF.out]; clear hw9 w9)
    go_ret
    exact ⟨Below.refl _ _, .inr ⟨66, HE.out, rfl⟩⟩
  · have HF : Hid ((decide (0 ≤ n) && decide (n < 16)) = true) := by
      rw [Hid]
      simp
      omega
    obtain ⟨k, rfl⟩ : ∃ k : Nat, n = (k : Int) := ⟨n.toNat, by omega⟩
    have hk : k < 16 := by omega
    have l1 : (k : Int) ≤ 16 := by omega
    have l2 : (0 : Int) ≤ (k : Int) := by omega
    obtain ⟨k0, k1, k2, k3, k4⟩ := h.cells
    have kw := h.drew.cells.2.2.2.2
    have kf := h.drew.frz 4
    cases on with
    | true =>
      obtain ⟨hn1, hb⟩ := h.drew.put (t := { s with flg := s.flg ||| 2 ^ k }) 4 (.int .u16 (bits .or .u16 (s.flg : Int) (IntKind.u16.wrap (2 ^ k)))) (by rw [u16_orw _ _ hf hk]; rfl) ⟨h.drew.own.i, h.drew.own.q, h.drew.own.f⟩
      have HR : Hid _ := hn1
      have HB : Hid _ := (Below.drew (Below.refl B W)).trans hb
      have HE : Hid (aTurn s k true = .ok { s with flg := s.flg ||| 2 ^ k }) := by unfold aTurn; rw [if_neg hn, Int.toNat_natCast]; exact rfl
      clear h hn hn1 hb hk hf
      go_enter Try.func39, Try.ntmps39
      go_upto_region 5 with (go_at_call 65; refine (flag_any _ _).mono ?_; rintro e w9 ⟨rfl, hw9⟩; rw [hw9, HF.out]; clear hw9 w9)
      go_region
      go_wp2_with fail
      go_ret
      exact ⟨HB.out, .inl ⟨_, _, _, _, HE.out, rfl, HR.out⟩⟩
    | false =>
      obtain ⟨hn1, hb⟩ := h.drew.put (t := { s with flg := s.flg &&& (65535 - 2 ^ k) }) 4 (.int .u16 (bits .andNot .u16 (s.flg : Int) (IntKind.u16.wrap (2 ^ k)))) (by rw [u16_anw _ _ hf hk]; rfl) ⟨h.drew.own.i, h.drew.own.q, h.drew.own.f⟩
      have HR : Hid _ := hn1
      have HB : Hid _ := (Below.drew (Below.refl B W)).trans hb
      have HE : Hid (aTurn s k false = .ok { s with flg := s.flg &&& (65535 - 2 ^ k) }) := by unfold aTurn; rw [if_neg hn, Int.toNat_natCast]; exact rfl
      clear h hn hn1 hb hk hf
      go_enter Try.func39, Try.ntmps39
      go_upto_region 1 with (go_at_call 65; refine (flag_any _ _).mono ?_; rintro e w9 ⟨rfl, hw9⟩; rw [hw9, HF.out]; clear hw9 w9)
      go_region
      go_wp2_with fail
      go_ret
      exact ⟨HB.out, .inl ⟨_, _, _, _, HE.out, rfl, HR.out⟩⟩

set_option maxRecDepth 100000 in
set_option maxHeartbeats 4000000 in
theorem dedent_any {B : Nat} {W : World} {b : Nat} {vi vq vf : Value} {s : Stt} (h : Nx B W b vi vq vf s) (hl : s.ind.length ≤ 1000000) :
    Calls Try.prog 33 #[.pointer (some ⟨b, 0, none⟩)] W fun e W' => Rs B W b (aDedent s) e W' := by
  have HL : Hid (s.ind.length ≤ 1000000) := hl
  have HD : Hid (aDrop s = if s.ind.length = 0 then .error 66 else .ok { s with ind := s.ind.take (s.ind.length - 1) }) := rfl
  have HE : Hid (aDedent s = if s.ind.length = 0 then .error 66 else .ok ({ s with ind := s.ind.take (s.ind.length - 1) } : Stt).settle) := rfl
  have HC : Hid _ := drop_any h hl
  clear h hl
  go_enter Try.func33, Try.ntmps33
  go_wp2_with fail
  refine Calls.mono HC.out ?_
  rintro e w5 ⟨hb, ⟨t, vi', vq', vf', h1, rfl, h3⟩ | ⟨c, h1, rfl⟩⟩
  · have HB : Hid _ := hb
    have H3 : Hid _ := h3
    have hz : ¬ s.ind.length = 0 := fun e => by
      have := HD.out
      rw [if_pos e, h1] at this
      cases this
    have ht : t = { s with ind := s.ind.take (s.ind.length - 1) } := by
      have := HD.out
      rw [if_neg hz, h1] at this
      cases this; rfl
    have HE2 : Hid (aDedent s = .ok t.settle) := by rw [HE.out, if_neg hz, ht]; exact rfl
    have hlt : t.ind.length ≤ 1000000 := by
      rw [ht]
      show (s.ind.take (s.ind.length - 1)).length ≤ 1000000
      rw [List.length_take]
      have := HL.out
      omega
    have HS : Hid _ := settle_any h3 hlt
    clear hb h3 h1 hz ht hlt
    go_wp2_with fail
    refine Calls.mono HS.out ?_
    rintro e w6 ⟨rfl, hb6, hn6⟩
    have HB6 : Hid _ := HB.out.trans hb6
    have HN6 : Hid _ := hn6
    clear hb6 hn6
    go_wp2_with fail
    go_ret
    exact ⟨HB6.out, .inl ⟨_, _, _, _, HE2.out, rfl, HN6.out⟩⟩
  · have HB : Hid _ := hb
    have hz : s.ind.length = 0 := Decidable.byContradiction fun e => by
      have := HD.out
      rw [if_neg e, h1] at this
      cases this
    have hc : c = 66 := by
      have := HD.out
      rw [if_pos hz, h1] at this
      cases this; rfl
    subst hc
    have HE2 : Hid (aDedent s = .error 66) := by rw [HE.out, if_pos hz]; exact rfl
    clear hb h1 hz
    go_wp2_with fail
    go_ret
    exact ⟨HB.out, .inr ⟨66, HE2.out, rfl⟩⟩
end Go.Proofs.Ytkaciochlemjiab
