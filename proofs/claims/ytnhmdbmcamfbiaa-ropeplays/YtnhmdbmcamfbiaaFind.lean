import Derived.Test.YtnhmdbmcamfbiaaRope
import Derived.Deep.LoopGhost
namespace Go.Proofs.Ytnhmdbmcamfbiaa
open Go.RowKit

/-- what find has found -/
structure Found (txt : List UInt8) (a : Nat) (s : ByteArray) (st : Nat) : Prop where
  cut : ∃ pre post, txt = pre ++ s.data.toList ++ post ∧ pre.length = st
  lo : st ≤ a
  hi : a < st + s.size

/-- where the search stands -/
def At (w : World) (txt : List UInt8) (a k : Nat) (x st : Value) : Prop :=
  ∃ t pre post, IsTree w x t ∧ t.ht ≤ k ∧ txt = pre ++ t.text ++ post ∧ st = .int .i64 (pre.length : Int) ∧ pre.length ≤ a ∧ a < pre.length + t.len

set_option maxRecDepth 100000 in
set_option maxHeartbeats 1000000 in
theorem find_any (v : Value) (t : Rp.T) (w : World) (a : Nat) (hT : IsTree w v t) (hs : t.len ≤ 4194304) (ha : a < t.len) :
    Calls Try.prog 36 #[v, .int .i64 (a : Int)] w fun e w' => ∃ s st, e = .returned (.tuple #[.string s, .int .i64 (st : Nat)]) ∧ Found t.text a s st ∧ w = w' := by
  have hlen := t.text_length
  obtain ⟨txt, htxt⟩ : ∃ txt, txt = t.text := ⟨_, rfl⟩
  have h0 : At w txt a t.ht v (.int .i64 0) := ⟨t, [], [], hT, Nat.le_refl _, by simp [htxt], rfl, Nat.zero_le _, by simpa using ha⟩
  obtain ⟨n, hn⟩ : ∃ n, n = t.ht := ⟨_, rfl⟩
  rw [← hn] at h0
  have hl : txt.length ≤ 4194304 := by rw [htxt, hlen]; exact hs
  have HTX : Hid _ := htxt
  rw [← htxt]
  have H0 : Hid _ := h0
  clear h0 hT hlen htxt hn
  go_enter Try.func36, Try.ntmps36
  go_wp2_with fail
  go_loopg [0, 6] n (fun k x st wr => At w txt a k x st ∧ w = wr)
  case atStart => exact ⟨H0.out, rfl⟩
  case round =>
    obtain ⟨⟨t', pre, post, hT, hk, hx, rfl, h1, h2⟩, rfl⟩ := hrel
    have l1 := congrArg List.length hx
    rw [List.length_append, List.length_append, t'.text_length] at l1
    have l2 : pre.length + t'.len ≤ 4194304 := by omega
    have HX : Hid _ := hx
    clear hx l1
    cases hT with
    | leaf s =>
      have t1 := ta_ll s
      simp only [Rp.T.len] at h2 l2
      have hk' : Hid _ := hk
      clear hk
      go_wp2_with fail
      go_ret2
      exact ⟨s, _, rfl, ⟨⟨pre, post, HX.out, rfl⟩, h1, h2⟩, rfl⟩
    | branch p vl vr l r c0 c1 c2 c3 hl' hr' =>
      obtain ⟨ul, xl, fsl, fll, rfl, msl, mll, esl, ell, csl, cll⟩ := hl'.face
      have HL : Hid _ := csl
      have TL : Hid _ := hl'
      have TR : Hid _ := hr'
      have t1 := ta_lb ⟨p, 0, none⟩
      have t2 := ta_bb ⟨p, 0, none⟩
      simp only [Rp.T.len] at h2 l2
      simp only [Rp.T.ht] at hk
      have e1 : txt = pre ++ l.text ++ (r.text ++ post) := by rw [HX.out]; simp [Rp.T.text]
      have e2 : txt = (pre ++ l.text) ++ r.text ++ post := by rw [HX.out]; simp [Rp.T.text]
      have E1 : Hid _ := e1
      have E2 : Hid _ := e2
      clear csl cll mll ell c2 c3 hl' hr' e1 e2
      by_cases hc : (a : Int) - (pre.length : Int) < (l.len : Int)
      · go_wp2_with fail
        refine (HL.out _ (Below.refl _ _)).mono ?_
        rintro e w' ⟨rfl, rfl⟩
        go_wp2_with fail
        go_roundg l.ht
        case measure => omega
        case rel => exact ⟨⟨l, pre, _, TL.out, Nat.le_refl _, E1.out, rfl, h1, by omega⟩, rfl⟩
      · have hc' : (l.len : Int) ≤ (a : Int) - (pre.length : Int) := by omega
        clear hc
        go_wp2_with fail
        refine (HL.out _ (Below.refl _ _)).mono ?_
        rintro e w' ⟨rfl, rfl⟩
        go_wp2_with fail
        go_roundg r.ht
        case measure => omega
        case rel => exact ⟨⟨r, pre ++ l.text, post, TR.out, Nat.le_refl _, E2.out, by rw [List.length_append, l.text_length]; go_num, by rw [List.length_append, l.text_length]; omega, by rw [List.length_append, l.text_length]; omega⟩, rfl⟩

end Go.Proofs.Ytnhmdbmcamfbiaa
