import Derived.Test.YtnhmdbmcamfbiaaBal
namespace Go.Proofs.Ytnhmdbmcamfbiaa
open Go.RowKit

structure Joint (w w' : World) (v : Value) (a b t : Rp.T) : Prop where
  tree : IsTree w' v t
  text : t.text = a.text ++ b.text
  bal : t.Bal
  hts : 0 < a.len → 0 < b.len → max a.ht b.ht ≤ t.ht ∧ t.ht ≤ max a.ht b.ht + 1
  below : Below w.heap.size w w'

theorem Rp.T.text_nil {t : Rp.T} (h : t.len = 0) : t.text = [] := by
  have := t.text_length
  exact List.eq_nil_of_length_eq_zero (by omega)
theorem Joint.len {w w' : World} {v : Value} {a b t : Rp.T} (h : Joint w w' v a b t) : t.len = a.len + b.len := by
  have h1 := congrArg List.length h.text
  rw [List.length_append, t.text_length, a.text_length, b.text_length] at h1
  exact h1
theorem Joined.len {w w' : World} {v : Value} {a b t : Rp.T} (h : Joined w w' v a b t) : t.len = a.len + b.len := by
  have h1 := congrArg List.length h.text
  rw [List.length_append, t.text_length, a.text_length, b.text_length] at h1
  exact h1

theorem ht_left {l r b t2 t3 : Nat} (h1 : b + 1 < 1 + max l r) (g1 : l ≤ r + 1) (g2 : r ≤ l + 1) (j1 : max r b ≤ t2) (j2 : t2 ≤ max r b + 1) (k1 : max l t2 ≤ t3) (k2 : t3 ≤ max l t2 + 1)
    (ev : l ≤ t2 + 1 → t2 ≤ l + 1 → t3 = 1 + max l t2) : max (1 + max l r) b ≤ t3 ∧ t3 ≤ max (1 + max l r) b + 1 := by
  by_cases e : t2 ≤ l + 1
  · have := ev (by omega) e; omega
  · omega
theorem ht_right {l r a t2 t3 : Nat} (h1 : a + 1 < 1 + max l r) (g1 : l ≤ r + 1) (g2 : r ≤ l + 1) (j1 : max a l ≤ t2) (j2 : t2 ≤ max a l + 1) (k1 : max t2 r ≤ t3) (k2 : t3 ≤ max t2 r + 1)
    (ev : t2 ≤ r + 1 → r ≤ t2 + 1 → t3 = 1 + max t2 r) : max a (1 + max l r) ≤ t3 ∧ t3 ≤ max a (1 + max l r) + 1 := by
  by_cases e : t2 ≤ r + 1
  · have := ev e (by omega); omega
  · omega

set_option maxRecDepth 100000 in
set_option maxHeartbeats 1000000 in
theorem join_no (va vb : Value) (a b : Rp.T) (w : World) (ha : IsTree w va a) (hb : IsTree w vb b) (Bb : b.Bal) (h : a.len = 0) :
    Calls Try.prog 32 #[va, vb] w fun e w' => ∃ v t, e = .returned v ∧ Joint w w' v a b t := by
  obtain ⟨ua, xa, fsa, fla, rfl, msa, mla, esa, ela, csa, cla⟩ := ha.face
  rw [h] at csa
  have HA : Hid _ := csa
  have HE : Hid _ := h
  have TB : Hid _ := hb
  clear csa cla ha hb mla ela h
  go_enter Try.func32, Try.ntmps32
  go_wp2_with fail
  refine (HA.out _ (Below.refl _ _)).mono ?_
  rintro e w' ⟨rfl, rfl⟩
  go_wp2_with fail
  go_ret
  exact ⟨_, _, rfl, TB.out, by rw [Rp.T.text_nil HE.out, List.nil_append], Bb, fun h => absurd h (by have := HE.out; omega), Below.refl _ _⟩

set_option maxRecDepth 100000 in
set_option maxHeartbeats 1000000 in
theorem join_on (va vb : Value) (a b : Rp.T) (w : World) (ha : IsTree w va a) (hb : IsTree w vb b) (Ba : a.Bal) (h : b.len = 0) (h0 : 0 < a.len) :
    Calls Try.prog 32 #[va, vb] w fun e w' => ∃ v t, e = .returned v ∧ Joint w w' v a b t := by
  obtain ⟨ua, xa, fsa, fla, rfl, msa, mla, esa, ela, csa, cla⟩ := ha.face
  obtain ⟨ub, xb, fsb, flb, rfl, msb, mlb, esb, elb, csb, clb⟩ := hb.face
  rw [h] at csb
  have HA : Hid _ := csa
  have HB : Hid _ := csb
  have HE : Hid _ := h
  have TA : Hid _ := ha
  have z : ((a.len : Int) == 0) = false := by rw [beq_eq_false_iff_ne]; omega
  clear csa cla csb clb ha hb mla ela mlb elb h
  go_enter Try.func32, Try.ntmps32
  go_wp2_with fail
  refine (HA.out _ (Below.refl _ _)).mono ?_
  rintro e w' ⟨rfl, rfl⟩
  go_wp2_with fail
  refine (HB.out _ (Below.refl _ _)).mono ?_
  rintro e w' ⟨rfl, rfl⟩
  go_wp2_with fail
  go_ret
  exact ⟨_, _, rfl, TA.out, by rw [Rp.T.text_nil HE.out, List.append_nil], Ba, fun _ h => absurd h (by have := HE.out; omega), Below.refl _ _⟩

set_option maxRecDepth 100000 in
set_option maxHeartbeats 1000000 in
theorem join_even (va vb : Value) (a b : Rp.T) (w : World) (ha : IsTree w va a) (hb : IsTree w vb b) (Ba : a.Bal) (Bb : b.Bal) (la : 0 < a.len) (lb : 0 < b.len)
    (h1 : a.ht ≤ b.ht + 1) (h2 : b.ht ≤ a.ht + 1) (hs : a.len + b.len ≤ 4194304) :
    Calls Try.prog 32 #[va, vb] w fun e w' => ∃ v t, e = .returned v ∧ Joint w w' v a b t := by
  have bA := a.ht_le Ba
  have bB := b.ht_le Bb
  have hP := pair_any va vb a b w ha hb (by omega) (by omega) (by omega) (by omega)
  obtain ⟨ua, xa, fsa, fla, rfl, msa, mla, esa, ela, csa, cla⟩ := ha.face
  obtain ⟨ub, xb, fsb, flb, rfl, msb, mlb, esb, elb, csb, clb⟩ := hb.face
  have HA : Hid _ := csa
  have HB : Hid _ := csb
  have HAl : Hid _ := cla
  have HBl : Hid _ := clb
  have HP : Hid _ := hP
  have z : ((a.len : Int) == 0) = false := by rw [beq_eq_false_iff_ne]; omega
  have z' : ((b.len : Int) == 0) = false := by rw [beq_eq_false_iff_ne]; omega
  clear csa csb cla clb ha hb hP
  go_enter Try.func32, Try.ntmps32
  go_wp2_with fail
  refine (HA.out _ (Below.refl _ _)).mono ?_
  rintro e w' ⟨rfl, rfl⟩
  go_wp2_with fail
  refine (HB.out _ (Below.refl _ _)).mono ?_
  rintro e w' ⟨rfl, rfl⟩
  go_wp2_with fail
  refine (HAl.out _ (Below.refl _ _)).mono ?_
  rintro e w' ⟨rfl, rfl⟩
  go_wp2_with fail
  refine (HBl.out _ (Below.refl _ _)).mono ?_
  rintro e w' ⟨rfl, rfl⟩
  go_wp2_with fail
  refine (HBl.out _ (Below.refl _ _)).mono ?_
  rintro e w' ⟨rfl, rfl⟩
  go_wp2_with fail
  refine (HAl.out _ (Below.refl _ _)).mono ?_
  rintro e w' ⟨rfl, rfl⟩
  go_wp2_with fail
  refine Calls.mono HP.out ?_
  rintro e w1 ⟨p, rfl, ht, hb1⟩
  have HT : Hid _ := ht
  have HB1 : Hid _ := hb1
  clear ht hb1
  go_wp2_with fail
  go_ret
  exact ⟨_, _, rfl, HT.out, rfl, ⟨Ba, Bb, h1, h2, la, lb⟩, fun _ _ => ⟨by simp only [Rp.T.ht]; omega, by simp only [Rp.T.ht]; omega⟩, HB1.out⟩

set_option maxRecDepth 100000 in
set_option maxHeartbeats 1000000 in
theorem join_left (va vb : Value) (a b : Rp.T) (w : World) (ha : IsTree w va a) (hb : IsTree w vb b) (Ba : a.Bal) (Bb : b.Bal) (la : 0 < a.len) (lb : 0 < b.len)
    (h1 : b.ht + 1 < a.ht) (hs : a.len + b.len ≤ 4194304)
    (ih : ∀ vx vy x y W, x.ht < a.ht → IsTree W vx x → IsTree W vy y → x.Bal → y = b → x.len + y.len ≤ 4194304 → Calls Try.prog 32 #[vx, vy] W fun e w' => ∃ v t, e = .returned v ∧ Joint W w' v x y t) :
    Calls Try.prog 32 #[va, vb] w fun e w' => ∃ v t, e = .returned v ∧ Joint w w' v a b t := by
  have bA := a.ht_le Ba
  have bB := b.ht_le Bb
  have pB := b.ht_pos
  have IH : Hid _ := ih
  clear ih
  cases ha with
  | leaf s => exact absurd h1 (by simp only [Rp.T.ht]; omega)
  | branch p vl vr l r c0 c1 c2 c3 hl hr =>
  obtain ⟨_, msa, mla, esa, ela, csa, cla⟩ := face_branch c2 c3
  obtain ⟨ub, xb, fsb, flb, rfl, msb, mlb, esb, elb, csb, clb⟩ := hb.face
  obtain ⟨Bl, Br, g1, g2, ll, lr⟩ := Ba
  simp only [Rp.T.ht] at cla
  simp only [Rp.T.len] at csa
  simp only [Rp.T.ht, Rp.T.len] at h1 hs bA la
  have bL := l.ht_le Bl
  have bR := r.ht_le Br
  have HA : Hid _ := csa
  have HB : Hid _ := csb
  have HAl : Hid _ := cla
  have HBl : Hid _ := clb
  have C0 : Hid _ := c0
  have C1 : Hid _ := c1
  have TL : Hid _ := hl
  have TR : Hid _ := hr
  have TB : Hid _ := hb
  have z : (((l.len : Int) + (r.len : Int)) == 0) = false := by rw [beq_eq_false_iff_ne]; omega
  have z' : ((b.len : Int) == 0) = false := by rw [beq_eq_false_iff_ne]; omega
  clear csa csb cla clb c0 c1 c2 c3 hl hr hb
  go_enter Try.func32, Try.ntmps32
  go_wp2_with fail
  refine (HA.out _ (Below.refl _ _)).mono ?_
  rintro e w' ⟨rfl, rfl⟩
  go_wp2_with fail
  refine (HB.out _ (Below.refl _ _)).mono ?_
  rintro e w' ⟨rfl, rfl⟩
  go_wp2_with fail
  refine (HAl.out _ (Below.refl _ _)).mono ?_
  rintro e w' ⟨rfl, rfl⟩
  go_wp2_with fail
  refine (HBl.out _ (Below.refl _ _)).mono ?_
  rintro e w' ⟨rfl, rfl⟩
  go_wp2_with fail
  refine (parts_any _ _ _ _ C0.out C1.out).mono ?_
  rintro e w1 ⟨rfl, hb1⟩
  have B1 : Hid _ := hb1
  clear hb1
  go_wp2_with fail
  refine (IH.out _ _ r b _ (by simp only [Rp.T.ht]; omega) (TR.out.mono B1.out) (TB.out.mono B1.out) Br rfl (by omega)).mono ?_
  rintro e w2 ⟨v2, t2, rfl, J⟩
  have hb2 : Below w.heap.size w w2 := below_trans B1.out J.below
  have JL : t2.len = r.len + b.len := J.len
  have JH := J.hts lr lb
  have JT : Hid _ := J
  have B2 : Hid _ := hb2
  have LE : Hid _ := JL
  have LL : Hid _ := JH
  have q1 : t2.ht ≤ l.ht + 2 := by omega
  have q2 : l.ht ≤ t2.ht + 2 := by omega
  have q3 : l.len + t2.len ≤ 4194304 := by omega
  have q4 : 0 < t2.len := by omega
  clear JL J hb2 JH
  go_wp2_with fail
  refine (balance_any _ _ l t2 _ (TL.out.mono B2.out) JT.out.tree Bl JT.out.bal ll q4 q2 q1 q3).mono ?_
  rintro e w3 ⟨v3, t3, rfl, K⟩
  have KT : Hid _ := K
  clear K
  go_wp2_with fail
  go_ret
  have k := KT.out
  have jh := LL.out
  have k1 := k.lo
  have k2 := k.hi
  exact ⟨_, _, rfl, k.tree, by rw [k.text, JT.out.text]; simp only [Rp.T.text, List.append_assoc], k.bal, fun _ _ => ht_left h1 g1 g2 jh.1 jh.2 k1 k2 k.ev, below_trans B2.out k.below⟩

set_option maxRecDepth 100000 in
set_option maxHeartbeats 1000000 in
theorem join_right (va vb : Value) (a b : Rp.T) (w : World) (ha : IsTree w va a) (hb : IsTree w vb b) (Ba : a.Bal) (Bb : b.Bal) (la : 0 < a.len) (lb : 0 < b.len)
    (h1 : a.ht + 1 < b.ht) (hs : a.len + b.len ≤ 4194304)
    (ih : ∀ vx vy x y W, y.ht < b.ht → IsTree W vx x → IsTree W vy y → y.Bal → x = a → x.len + y.len ≤ 4194304 → Calls Try.prog 32 #[vx, vy] W fun e w' => ∃ v t, e = .returned v ∧ Joint W w' v x y t) :
    Calls Try.prog 32 #[va, vb] w fun e w' => ∃ v t, e = .returned v ∧ Joint w w' v a b t := by
  have bA := a.ht_le Ba
  have bB := b.ht_le Bb
  have pA := a.ht_pos
  have IH : Hid _ := ih
  clear ih
  cases hb with
  | leaf s => exact absurd h1 (by simp only [Rp.T.ht]; omega)
  | branch p vl vr l r c0 c1 c2 c3 hl hr =>
  obtain ⟨_, msb, mlb, esb, elb, csb, clb⟩ := face_branch c2 c3
  obtain ⟨ua, xa, fsa, fla, rfl, msa, mla, esa, ela, csa, cla⟩ := ha.face
  obtain ⟨Bl, Br, g1, g2, ll, lr⟩ := Bb
  simp only [Rp.T.ht] at clb
  simp only [Rp.T.len] at csb
  simp only [Rp.T.ht, Rp.T.len] at h1 hs bB lb
  have bL := l.ht_le Bl
  have bR := r.ht_le Br
  have HA : Hid _ := csa
  have HB : Hid _ := csb
  have HAl : Hid _ := cla
  have HBl : Hid _ := clb
  have C0 : Hid _ := c0
  have C1 : Hid _ := c1
  have TL : Hid _ := hl
  have TR : Hid _ := hr
  have TA : Hid _ := ha
  have z : (((l.len : Int) + (r.len : Int)) == 0) = false := by rw [beq_eq_false_iff_ne]; omega
  have z' : ((a.len : Int) == 0) = false := by rw [beq_eq_false_iff_ne]; omega
  clear csa csb cla clb c0 c1 c2 c3 hl hr ha
  go_enter Try.func32, Try.ntmps32
  go_wp2_with fail
  refine (HA.out _ (Below.refl _ _)).mono ?_
  rintro e w' ⟨rfl, rfl⟩
  go_wp2_with fail
  refine (HB.out _ (Below.refl _ _)).mono ?_
  rintro e w' ⟨rfl, rfl⟩
  go_wp2_with fail
  refine (HAl.out _ (Below.refl _ _)).mono ?_
  rintro e w' ⟨rfl, rfl⟩
  go_wp2_with fail
  refine (HBl.out _ (Below.refl _ _)).mono ?_
  rintro e w' ⟨rfl, rfl⟩
  go_wp2_with fail
  refine (HBl.out _ (Below.refl _ _)).mono ?_
  rintro e w' ⟨rfl, rfl⟩
  go_wp2_with fail
  refine (HAl.out _ (Below.refl _ _)).mono ?_
  rintro e w' ⟨rfl, rfl⟩
  go_wp2_with fail
  refine (parts_any _ _ _ _ C0.out C1.out).mono ?_
  rintro e w1 ⟨rfl, hb1⟩
  have B1 : Hid _ := hb1
  clear hb1
  go_wp2_with fail
  refine (IH.out _ _ a l _ (by simp only [Rp.T.ht]; omega) (TA.out.mono B1.out) (TL.out.mono B1.out) Bl rfl (by omega)).mono ?_
  rintro e w2 ⟨v2, t2, rfl, J⟩
  have hb2 : Below w.heap.size w w2 := below_trans B1.out J.below
  have JL : t2.len = a.len + l.len := J.len
  have JH := J.hts la ll
  have JT : Hid _ := J
  have B2 : Hid _ := hb2
  have LE : Hid _ := JL
  have LL : Hid _ := JH
  have q1 : t2.ht ≤ r.ht + 2 := by omega
  have q2 : r.ht ≤ t2.ht + 2 := by omega
  have q3 : t2.len + r.len ≤ 4194304 := by omega
  have q4 : 0 < t2.len := by omega
  clear JL J hb2 JH
  go_wp2_with fail
  refine (balance_any _ _ t2 r _ JT.out.tree (TR.out.mono B2.out) JT.out.bal Br q4 lr q1 q2 q3).mono ?_
  rintro e w3 ⟨v3, t3, rfl, K⟩
  have KT : Hid _ := K
  clear K
  go_wp2_with fail
  go_ret
  have k := KT.out
  have jh := LL.out
  have k1 := k.lo
  have k2 := k.hi
  exact ⟨_, _, rfl, k.tree, by rw [k.text, JT.out.text]; simp only [Rp.T.text, List.append_assoc], k.bal, fun _ _ => ht_right h1 g1 g2 jh.1 jh.2 k1 k2 k.ev, below_trans B2.out k.below⟩

theorem join_all : ∀ (n : Nat) (va vb : Value) (a b : Rp.T) (w : World), a.ht + b.ht ≤ n → IsTree w va a → IsTree w vb b → a.Bal → b.Bal → a.len + b.len ≤ 4194304 →
    Calls Try.prog 32 #[va, vb] w fun e w' => ∃ v t, e = .returned v ∧ Joint w w' v a b t := by
  intro n
  induction n with
  | zero => intro va vb a b w h; have := a.ht_pos; omega
  | succ n ih =>
    intro va vb a b w h ha hb Ba Bb hs
    by_cases la : a.len = 0
    · exact join_no va vb a b w ha hb Bb la
    by_cases lb : b.len = 0
    · exact join_on va vb a b w ha hb Ba lb (by omega)
    by_cases h1 : b.ht + 1 < a.ht
    · exact join_left va vb a b w ha hb Ba Bb (by omega) (by omega) h1 hs (fun vx vy x y W hx tx ty Bx hy hl => ih vx vy x y W (by subst hy; omega) tx ty Bx (hy ▸ Bb) hl)
    by_cases h2 : a.ht + 1 < b.ht
    · exact join_right va vb a b w ha hb Ba Bb (by omega) (by omega) h2 hs (fun vx vy x y W hx tx ty Bx hy hl => ih vx vy x y W (by subst hy; omega) tx ty (hy ▸ Ba) Bx hl)
    exact join_even va vb a b w ha hb Ba Bb (by omega) (by omega) (by omega) (by omega) hs

theorem join_any (va vb : Value) (a b : Rp.T) (w : World) (ha : IsTree w va a) (hb : IsTree w vb b) (Ba : a.Bal) (Bb : b.Bal) (hs : a.len + b.len ≤ 4194304) :
    Calls Try.prog 32 #[va, vb] w fun e w' => ∃ v t, e = .returned v ∧ Joint w w' v a b t := join_all _ va vb a b w (Nat.le_refl _) ha hb Ba Bb hs

end Go.Proofs.Ytnhmdbmcamfbiaa
