import Derived.Test.YtnhmdbmcamfbiaaJoin
import Derived.Lib.Strings
import Derived.Lib.IndexBytes
namespace Go.Proofs.Ytnhmdbmcamfbiaa
open Go.RowKit

theorem take_over (l r : List UInt8) (n a : Nat) (h : l.length = n) (ha : n ≤ a) : (l ++ r).take a = l ++ r.take (a - n) := by
  subst h; rw [List.take_append, List.take_of_length_le ha]
theorem drop_over (l r : List UInt8) (n a : Nat) (h : l.length = n) (ha : n ≤ a) : (l ++ r).drop a = r.drop (a - n) := by
  subst h; rw [List.drop_append, List.drop_of_length_le ha, List.nil_append]

structure Ahead (w w' : World) (v : Value) (h : ByteArray) (t : Rp.T) (k : Nat) : Prop where
  tree : ∃ r, IsTree w' v r ∧ r.Bal ∧ r.text ++ h.data.toList = t.text.take k
  below : Below w.heap.size w w'
structure Behind (w w' : World) (v : Value) (h : ByteArray) (t : Rp.T) (k : Nat) : Prop where
  tree : ∃ r, IsTree w' v r ∧ r.Bal ∧ h.data.toList ++ r.text = t.text.drop k
  below : Below w.heap.size w w'

set_option maxRecDepth 100000 in
set_option maxHeartbeats 1000000 in
theorem ahead_leaf (s : ByteArray) (w : World) (a : Int) (h0 : 0 ≤ a) (h1 : a ≤ s.size) :
    Calls Try.prog 30 #[.iface 95 (.string s), .int .i64 a] w fun e w' => ∃ v h, e = .returned (.tuple #[v, .string h]) ∧ Ahead w w' v h (.leaf s) a.toNat := by
  have t1 := ta_ll s
  go_enter Try.func30, Try.ntmps30
  go_wp2_with fail
  go_region
  all_goals
    go_wp2_with fail
    go_ret2
    refine ⟨_, _, rfl, ⟨_, .leaf _, trivial, ?_⟩, (Below.refl _ _).drew⟩
    simp [Rp.T.text]

set_option maxRecDepth 100000 in
set_option maxHeartbeats 1000000 in
theorem ahead_branch (v : Value) (l r : Rp.T) (w : World) (a : Int) (h0 : 0 ≤ a) (ht : IsTree w v (.branch l r)) (hB : (Rp.T.branch l r).Bal) (h1 : a ≤ ((Rp.T.branch l r).len : Int)) (hs : (Rp.T.branch l r).len ≤ 4194304)
    (ihl : ∀ (v : Value) (w : World) (a : Int), 0 ≤ a → IsTree w v l → l.Bal → a ≤ (l.len : Int) → Calls Try.prog 30 #[v, .int .i64 a] w fun e w' => ∃ v h, e = .returned (.tuple #[v, .string h]) ∧ Ahead w w' v h l a.toNat)
    (ihr : ∀ (v : Value) (w : World) (a : Int), 0 ≤ a → IsTree w v r → r.Bal → a ≤ (r.len : Int) → Calls Try.prog 30 #[v, .int .i64 a] w fun e w' => ∃ v h, e = .returned (.tuple #[v, .string h]) ∧ Ahead w w' v h r a.toNat) :
    Calls Try.prog 30 #[v, .int .i64 a] w fun e w' => ∃ v h, e = .returned (.tuple #[v, .string h]) ∧ Ahead w w' v h (.branch l r) a.toNat := by
  have IL : Hid _ := ihl
  have IR : Hid _ := ihr
  clear ihl ihr
  cases ht with
  | branch p vl vr _ _ c0 c1 c2 c3 hl hr =>
  obtain ⟨ul, xl, fsl, fll, rfl, msl, mll, esl, ell, csl, cll⟩ := hl.face
  have HL : Hid _ := csl
  have TL : Hid _ := hl
  have TR : Hid _ := hr
  have t1 := ta_lb ⟨p, 0, none⟩
  have t2 := ta_bb ⟨p, 0, none⟩
  obtain ⟨Bl, Br, g1, g2, ll, lr⟩ := hB
  simp only [Rp.T.len] at h1 hs
  clear csl cll mll ell c2 c3 hl hr
  by_cases hc : a ≤ (l.len : Int)
  · go_enter Try.func30, Try.ntmps30
    go_wp2_with fail
    refine (HL.out _ (Below.refl _ _)).mono ?_
    rintro e w' ⟨rfl, rfl⟩
    go_wp2_with fail
    refine (IL.out _ _ a h0 TL.out Bl hc).mono ?_
    rintro e w1 ⟨v1, q1, rfl, j1⟩
    have J1 : Hid _ := j1
    clear j1
    go_wp2_with fail
    go_ret2
    obtain ⟨⟨x, hx, hxB, hxt⟩, hb⟩ := J1.out
    refine ⟨_, _, rfl, ⟨x, hx, hxB, ?_⟩, hb⟩
    rw [hxt, Rp.T.text, List.take_append_of_le_length (by rw [l.text_length]; omega)]
  · have hc' : (l.len : Int) < a := by omega
    clear hc
    go_enter Try.func30, Try.ntmps30
    go_wp2_with fail
    refine (HL.out _ (Below.refl _ _)).mono ?_
    rintro e w' ⟨rfl, rfl⟩
    go_wp2_with fail
    refine (IR.out _ _ (a - l.len) (by omega) TR.out Br (by omega)).mono ?_
    rintro e w1 ⟨v1, q1, rfl, j1⟩
    obtain ⟨⟨x, hx, hxB, hxt⟩, hb⟩ := j1
    have lx : x.len ≤ r.len := by
      have h1 := congrArg List.length hxt
      rw [List.length_append, x.text_length, List.length_take, r.text_length] at h1
      omega
    have c0' := below_cell hb c0
    have B1 : Hid _ := hb
    have X1 : Hid _ := hx
    have X3 : Hid _ := hxt
    clear hb hx hxt
    go_wp2_with fail
    refine (join_any _ _ l x _ (TL.out.mono B1.out) X1.out Bl hxB (by omega)).mono ?_
    rintro e w2 ⟨v2, t2, rfl, J⟩
    have JJ : Hid _ := J
    clear J
    go_wp2_with fail
    go_ret2
    have J := JJ.out
    refine ⟨_, _, rfl, ⟨t2, J.tree, J.bal, ?_⟩, below_trans B1.out J.below⟩
    rw [J.text, List.append_assoc, X3.out, Rp.T.text, take_over l.text r.text l.len a.toNat l.text_length (by omega), show (a - (l.len : Int)).toNat = a.toNat - l.len by omega]

theorem ahead_any (t : Rp.T) : ∀ (v : Value) (w : World) (a : Int), 0 ≤ a → IsTree w v t → t.Bal → t.len ≤ 4194304 → a ≤ (t.len : Int) →
    Calls Try.prog 30 #[v, .int .i64 a] w fun e w' => ∃ v h, e = .returned (.tuple #[v, .string h]) ∧ Ahead w w' v h t a.toNat := by
  induction t with
  | leaf s => intro v w a h0 ht _ _ h1; cases ht; exact ahead_leaf s w a h0 h1
  | branch l r il ir =>
    intro v w a h0 ht hB hs h1
    have hs' := hs
    simp only [Rp.T.len] at hs'
    exact ahead_branch v l r w a h0 ht hB h1 hs (fun v w a x y z u => il v w a x y z (by omega) u) (fun v w a x y z u => ir v w a x y z (by omega) u)

set_option maxRecDepth 100000 in
set_option maxHeartbeats 1000000 in
theorem behind_leaf (s : ByteArray) (w : World) (a : Int) (h0 : 0 ≤ a) (h1 : a ≤ s.size) :
    Calls Try.prog 31 #[.iface 95 (.string s), .int .i64 a] w fun e w' => ∃ v h, e = .returned (.tuple #[.string h, v]) ∧ Behind w w' v h (.leaf s) a.toNat := by
  have t1 := ta_ll s
  go_enter Try.func31, Try.ntmps31
  go_wp2_with fail
  all_goals
    go_ret2
    refine ⟨_, _, rfl, ⟨_, .leaf _, trivial, ?_⟩, Below.refl _ _⟩
    simp only [Rp.T.text]
    rw [Lib.extract_to_end]
    exact List.append_nil _

set_option maxRecDepth 100000 in
set_option maxHeartbeats 1000000 in
theorem behind_branch (v : Value) (l r : Rp.T) (w : World) (a : Int) (h0 : 0 ≤ a) (ht : IsTree w v (.branch l r)) (hB : (Rp.T.branch l r).Bal) (h1 : a ≤ ((Rp.T.branch l r).len : Int)) (hs : (Rp.T.branch l r).len ≤ 4194304)
    (ihl : ∀ (v : Value) (w : World) (a : Int), 0 ≤ a → IsTree w v l → l.Bal → a ≤ (l.len : Int) → Calls Try.prog 31 #[v, .int .i64 a] w fun e w' => ∃ v h, e = .returned (.tuple #[.string h, v]) ∧ Behind w w' v h l a.toNat)
    (ihr : ∀ (v : Value) (w : World) (a : Int), 0 ≤ a → IsTree w v r → r.Bal → a ≤ (r.len : Int) → Calls Try.prog 31 #[v, .int .i64 a] w fun e w' => ∃ v h, e = .returned (.tuple #[.string h, v]) ∧ Behind w w' v h r a.toNat) :
    Calls Try.prog 31 #[v, .int .i64 a] w fun e w' => ∃ v h, e = .returned (.tuple #[.string h, v]) ∧ Behind w w' v h (.branch l r) a.toNat := by
  have IL : Hid _ := ihl
  have IR : Hid _ := ihr
  clear ihl ihr
  cases ht with
  | branch p vl vr _ _ c0 c1 c2 c3 hl hr =>
  obtain ⟨ul, xl, fsl, fll, rfl, msl, mll, esl, ell, csl, cll⟩ := hl.face
  have HL : Hid _ := csl
  have TL : Hid _ := hl
  have TR : Hid _ := hr
  have t1 := ta_lb ⟨p, 0, none⟩
  have t2 := ta_bb ⟨p, 0, none⟩
  obtain ⟨Bl, Br, g1, g2, ll, lr⟩ := hB
  simp only [Rp.T.len] at h1 hs
  clear csl cll mll ell c2 c3 hl hr
  by_cases hc : (l.len : Int) ≤ a
  · go_enter Try.func31, Try.ntmps31
    go_wp2_with fail
    refine (HL.out _ (Below.refl _ _)).mono ?_
    rintro e w' ⟨rfl, rfl⟩
    go_wp2_with fail
    refine (IR.out _ _ (a - l.len) (by omega) TR.out Br (by omega)).mono ?_
    rintro e w1 ⟨v1, q1, rfl, j1⟩
    have J1 : Hid _ := j1
    clear j1
    go_wp2_with fail
    go_ret2
    obtain ⟨⟨x, hx, hxB, hxt⟩, hb⟩ := J1.out
    refine ⟨_, _, rfl, ⟨x, hx, hxB, ?_⟩, hb⟩
    rw [hxt, Rp.T.text, drop_over l.text r.text l.len a.toNat l.text_length (by omega), show (a - (l.len : Int)).toNat = a.toNat - l.len by omega]
  · have hc' : a < (l.len : Int) := by omega
    clear hc
    go_enter Try.func31, Try.ntmps31
    go_wp2_with fail
    refine (HL.out _ (Below.refl _ _)).mono ?_
    rintro e w' ⟨rfl, rfl⟩
    go_wp2_with fail
    refine (IL.out _ _ a h0 TL.out Bl (by omega)).mono ?_
    rintro e w1 ⟨v1, q1, rfl, j1⟩
    obtain ⟨⟨x, hx, hxB, hxt⟩, hb⟩ := j1
    have lx : x.len ≤ l.len := by
      have h1 := congrArg List.length hxt
      rw [List.length_append, x.text_length, List.length_drop, l.text_length] at h1
      omega
    have c1' := below_cell hb c1
    have B1 : Hid _ := hb
    have X1 : Hid _ := hx
    have X3 : Hid _ := hxt
    clear hb hx hxt
    go_wp2_with fail
    refine (join_any _ _ x r _ X1.out (TR.out.mono B1.out) hxB Br (by omega)).mono ?_
    rintro e w2 ⟨v2, t2, rfl, J⟩
    have JJ : Hid _ := J
    clear J
    go_wp2_with fail
    go_ret2
    have J := JJ.out
    refine ⟨_, _, rfl, ⟨t2, J.tree, J.bal, ?_⟩, below_trans B1.out J.below⟩
    rw [J.text, ← List.append_assoc, X3.out, Rp.T.text, List.drop_append_of_le_length (by rw [l.text_length]; omega)]

theorem behind_any (t : Rp.T) : ∀ (v : Value) (w : World) (a : Int), 0 ≤ a → IsTree w v t → t.Bal → t.len ≤ 4194304 → a ≤ (t.len : Int) →
    Calls Try.prog 31 #[v, .int .i64 a] w fun e w' => ∃ v h, e = .returned (.tuple #[.string h, v]) ∧ Behind w w' v h t a.toNat := by
  induction t with
  | leaf s => intro v w a h0 ht _ _ h1; cases ht; exact behind_leaf s w a h0 h1
  | branch l r il ir =>
    intro v w a h0 ht hB hs h1
    have hs' := hs
    simp only [Rp.T.len] at hs'
    exact behind_branch v l r w a h0 ht hB h1 hs (fun v w a x y z u => il v w a x y z (by omega) u) (fun v w a x y z u => ir v w a x y z (by omega) u)

end Go.Proofs.Ytnhmdbmcamfbiaa
