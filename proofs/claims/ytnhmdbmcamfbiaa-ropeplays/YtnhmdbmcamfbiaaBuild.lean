import Derived.Test.YtnhmdbmcamfbiaaPair
import Derived.Test.YtnhmdbmcamfbiaaParts
import Derived.Test.YtnhmdbmcamfbiaaShelf
import Derived.Deep.RegionWith
namespace Go.Proofs.Ytnhmdbmcamfbiaa
open Go.RowKit

set_option maxRecDepth 100000 in
set_option maxHeartbeats 400000 in
theorem clone_any (s : ByteArray) (w : World) (h : s.size ≤ 4194304) :
    Calls Try.prog 41 #[.string s] w fun e w' => e = .returned (.string s) ∧ Below w.heap.size w w' := by
  go_enter Try.func41, Try.ntmps41
  go_wp2_with fail
  refine (Try.stringslite_Clone s w (by omega)).mono ?_
  rintro e w1 ⟨rfl, hb⟩
  have B1 : Hid _ := hb
  clear hb
  go_wp2_with fail
  go_ret
  exact ⟨rfl, B1.out⟩

structure Built (w w' : World) (v : Value) (s : ByteArray) (t : Rp.T) : Prop where
  tree : IsTree w' v t
  text : t.text = s.data.toList
  bal : t.Bal
  ht : t.ht = Rp.bh s.size
  below : Below w.heap.size w w'

theorem Built.len {w w' : World} {v : Value} {s : ByteArray} {t : Rp.T} (h : Built w w' v s t) : t.len = s.size := by
  rw [← t.text_length, h.text]; exact Array.length_toList
theorem halves (s : ByteArray) (k : Nat) (h : k ≤ s.size) : (s.extract 0 k).data.toList ++ (s.extract k s.size).data.toList = s.data.toList := by
  have hl : s.data.toList.length = s.size := Array.length_toList
  rw [Lib.extract_data, Lib.extract_data, List.take_of_length_le (i := s.size - k) (by rw [List.length_drop]; omega)]
  simp
theorem built_join {w w1 w2 w3 : World} {v1 v2 v3 : Value} {s : ByteArray} {t1 t2 : Rp.T} {k k' : Nat} (h : 1024 < s.size) (hk : k = s.size / 2) (hk' : k' = s.size / 2)
    (J1 : Built w.drew w1 v1 (s.extract 0 k) t1) (J2 : Built w1 w2 v2 (s.extract k' s.size) t2)
    (K1 : IsTree w3 v3 (.branch t1 t2)) (K2 : Below w2.heap.size w2 w3) : Built w w3 v3 s (.branch t1 t2) := by
  subst hk hk'
  have l1 := J1.len
  have l2 := J2.len
  have g1 := J1.ht
  have g2 := J2.ht
  rw [ByteArray.size_extract] at l1 l2 g1 g2
  rw [show min (s.size / 2) s.size - 0 = s.size / 2 by omega] at l1 g1
  rw [show min s.size s.size - s.size / 2 = s.size - s.size / 2 by omega] at l2 g2
  have hh := Rp.bh_halves s.size
  refine ⟨K1, ?_, ⟨J1.bal, J2.bal, by omega, by omega, by omega, by omega⟩, ?_, ?_⟩
  · rw [Rp.T.text, J1.text, J2.text]; exact halves s _ (by omega)
  · rw [Rp.bh_big h, Rp.T.ht, g1, g2]
  · have b0 : Below w.heap.size w w.drew := (Below.refl _ _).drew
    exact below_trans (below_trans (below_trans b0 J1.below) J2.below) K2

set_option maxRecDepth 100000 in
set_option maxHeartbeats 400000 in
theorem build_small (s : ByteArray) (w : World) (h : s.size ≤ 1024) :
    Calls Try.prog 28 #[.string s] w fun e w' => ∃ v t, e = .returned v ∧ Built w w' v s t := by
  go_enter Try.func28, Try.ntmps28
  go_wp2_with fail
  refine (clone_any s w (by omega)).mono ?_
  rintro e w1 ⟨rfl, hb⟩
  have B1 : Hid _ := hb
  clear hb
  go_wp2_with fail
  go_ret
  exact ⟨_, _, rfl, .leaf s, rfl, trivial, by rw [Rp.bh_small h]; rfl, B1.out⟩

set_option maxRecDepth 100000 in
set_option maxHeartbeats 1000000 in
theorem build_big (s : ByteArray) (w : World) (h : 1024 < s.size) (hs : s.size ≤ 4194304)
    (ih : ∀ (x : ByteArray) (W : World), x.size < s.size → Calls Try.prog 28 #[.string x] W fun e w' => ∃ v t, e = .returned v ∧ Built W w' v x t) :
    Calls Try.prog 28 #[.string s] w fun e w' => ∃ v t, e = .returned v ∧ Built w w' v s t := by
  have IH : Hid _ := ih
  clear ih
  go_enter Try.func28, Try.ntmps28
  go_wp2_with fail
  go_region_with (first
    | (go_at_call 28; have JJ := J1; clear JJ; refine (IH.out _ _ (by rw [ByteArray.size_extract]; omega)).mono ?_; rintro e w2 ⟨v2, t2, rfl, j2⟩; have J2 : Hid _ := j2; clear j2)
    | (go_at_call 28; refine (IH.out _ _ (by rw [ByteArray.size_extract]; omega)).mono ?_; rintro e w1 ⟨v1, t1, rfl, j1⟩; have J1 : Hid _ := j1; clear j1)
    | (go_at_call 42; refine (pair_any _ _ t1 t2 _ (J1.out.tree.mono J2.out.below) J2.out.tree (by have := J1.out.len; rw [ByteArray.size_extract] at this; omega) (by have := J2.out.len; rw [ByteArray.size_extract] at this; omega) (by have := J1.out.len; have := t1.ht_le J1.out.bal; rw [ByteArray.size_extract] at *; omega) (by have := J2.out.len; have := t2.ht_le J2.out.bal; rw [ByteArray.size_extract] at *; omega)).mono ?_; rintro e w3 ⟨p3, rfl, k1, k2⟩; have K1 : Hid _ := k1; have K2 : Hid _ := k2; clear k1 k2))
  all_goals
    go_wp2_with fail
    go_ret
    exact ⟨_, _, rfl, built_join h (by omega) (by omega) J1.out J2.out K1.out K2.out⟩

theorem build_any : ∀ (n : Nat) (s : ByteArray) (w : World), s.size ≤ n → s.size ≤ 4194304 →
    Calls Try.prog 28 #[.string s] w fun e w' => ∃ v t, e = .returned v ∧ Built w w' v s t := by
  intro n
  induction n with
  | zero => intro s w h _; exact build_small s w (by omega)
  | succ n ih =>
    intro s w h hs
    by_cases h0 : s.size ≤ 1024
    · exact build_small s w h0
    · exact build_big s w (by omega) hs (fun x W hx => ih x W (by omega) (by omega))
end Go.Proofs.Ytnhmdbmcamfbiaa
