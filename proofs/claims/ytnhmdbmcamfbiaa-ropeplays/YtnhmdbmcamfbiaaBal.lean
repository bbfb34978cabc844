import Derived.Test.YtnhmdbmcamfbiaaPair
import Derived.Test.YtnhmdbmcamfbiaaParts
namespace Go.Proofs.Ytnhmdbmcamfbiaa
open Go.RowKit

theorem face_branch {w : World} {b : Nat} {l r : Rp.T}
    (h2 : w.cell? ⟨b, 2, none⟩ = some (.int .i64 ((l.len + r.len : Nat) : Int))) (h3 : w.cell? ⟨b, 3, none⟩ = some (.int .i64 ((1 + max l.ht r.ht : Nat) : Int))) :
    Face w (.iface 97 (.pointer (some ⟨b, 0, none⟩))) (.branch l r) 97 (.pointer (some ⟨b, 0, none⟩)) 82 81 :=
  ⟨rfl, m_branch_size _, m_branch_levels _, fun W => by kernel_rfl, fun W => by kernel_rfl, fun W hb => branch_size_any b _ W (below_cell hb h2), fun W hb => branch_levels_any b _ W (below_cell hb h3)⟩

/-- what balance and join come to -/
structure Joined (w w' : World) (v : Value) (a b t : Rp.T) : Prop where
  tree : IsTree w' v t
  text : t.text = a.text ++ b.text
  bal : t.Bal
  lo : max a.ht b.ht ≤ t.ht
  hi : t.ht ≤ max a.ht b.ht + 1
  ev : a.ht ≤ b.ht + 1 → b.ht ≤ a.ht + 1 → t.ht = 1 + max a.ht b.ht
  below : Below w.heap.size w w'

set_option maxRecDepth 100000 in
set_option maxHeartbeats 1000000 in
theorem balance_even (va vb : Value) (a b : Rp.T) (w : World) (ha : IsTree w va a) (hb : IsTree w vb b) (Ba : a.Bal) (Bb : b.Bal) (la : 0 < a.len) (lb : 0 < b.len)
    (h1 : a.ht ≤ b.ht + 1) (h2 : b.ht ≤ a.ht + 1) (hs : a.len + b.len ≤ 4194304) :
    Calls Try.prog 44 #[va, vb] w fun e w' => ∃ v t, e = .returned v ∧ Joined w w' v a b t := by
  have bA := a.ht_le Ba
  have bB := b.ht_le Bb
  have hP := pair_any va vb a b w ha hb (by omega) (by omega) (by omega) (by omega)
  obtain ⟨ua, xa, fsa, fla, rfl, msa, mla, esa, ela, csa, cla⟩ := ha.face
  obtain ⟨ub, xb, fsb, flb, rfl, msb, mlb, esb, elb, csb, clb⟩ := hb.face
  have HAl : Hid _ := cla
  have HBl : Hid _ := clb
  have HP : Hid _ := hP
  clear csa csb cla clb ha hb hP msa msb esa esb
  go_enter Try.func44, Try.ntmps44
  go_wp2_with fail
  refine (HAl.out _ (Below.refl _ _)).mono ?_
  rintro e w' ⟨rfl, rfl⟩
  go_wp2_with fail
  refine (HBl.out _ (Below.refl _ _)).mono ?_
  rintro e w' ⟨rfl, rfl⟩
  go_wp2_with fail
  refine (HBl.out _ (Below.refl _ _)).mono ?_
  rintro e w' ⟨rfl, rfl⟩
  go_wp2_with fail
  refine (HAl.out _ (Below.refl _ _)).mono ?_
  rintro e w' ⟨rfl, rfl⟩
  go_wp2_with fail
  refine Calls.mono HP.out ?_
  rintro e w1 ⟨p, rfl, ht, hb1⟩
  have HT : Hid _ := ht
  have HB1 : Hid _ := hb1
  clear ht hb1
  go_wp2_with fail
  go_ret
  exact ⟨_, _, rfl, HT.out, rfl, ⟨Ba, Bb, h1, h2, la, lb⟩, by simp only [Rp.T.ht]; omega, by simp only [Rp.T.ht]; omega, fun _ _ => rfl, HB1.out⟩

set_option maxRecDepth 100000 in
set_option maxHeartbeats 1000000 in
theorem balance_left (va vb : Value) (a b : Rp.T) (w : World) (ha : IsTree w va a) (hb : IsTree w vb b) (Ba : a.Bal) (Bb : b.Bal) (lb : 0 < b.len)
    (h1 : a.ht = b.ht + 2) (hs : a.len + b.len ≤ 4194304) :
    Calls Try.prog 44 #[va, vb] w fun e w' => ∃ v t, e = .returned v ∧ Joined w w' v a b t := by
  have bA := a.ht_le Ba
  have bB := b.ht_le Bb
  have pB := b.ht_pos
  cases ha with
  | leaf s => exact absurd h1 (by simp only [Rp.T.ht]; omega)
  | branch p vo vi o i c0 c1 c2 c3 ho hi =>
  obtain ⟨_, msa, mla, esa, ela, csa, cla⟩ := face_branch c2 c3
  simp only [Rp.T.ht] at cla
  obtain ⟨ub, xb, fsb, flb, rfl, msb, mlb, esb, elb, csb, clb⟩ := hb.face
  obtain ⟨ui, xi, fsi, fli, rfl, msi, mli, esi, eli, csi, cli⟩ := hi.face
  obtain ⟨uo, xo, fso, flo, rfl, mso, mlo, eso, elo, cso, clo⟩ := ho.face
  obtain ⟨Bo, Bi, g1, g2, lo, li⟩ := Ba
  simp only [Rp.T.ht, Rp.T.len] at h1 hs bA
  have bO := o.ht_le Bo
  have bI := i.ht_le Bi
  have HAl : Hid _ := cla
  have HBl : Hid _ := clb
  have HIl : Hid _ := cli
  have HOl : Hid _ := clo
  have C0 : Hid _ := c0
  have C1 : Hid _ := c1
  have TO : Hid _ := ho
  have TI : Hid _ := hi
  have TB : Hid _ := hb
  clear csa csb cla clb csi cli cso clo msa msb esa esb msi esi mso eso c0 c1 c2 c3 ho hi hb
  have E1 : Hid _ := h1
  have h1a : b.ht + 1 < 1 + max o.ht i.ht := by omega
  clear h1
  by_cases hc : o.ht < i.ht
  · have TI' := TI.out
    generalize hgi : (Value.iface ui xi) = vi at TI'
    cases TI' with
    | leaf s => exact absurd hc (by have := o.ht_pos; simp only [Rp.T.ht]; omega)
    | branch q vn vf n f d0 d1 d2 d3 hn hf =>
    have hq : ui = 97 ∧ xi = .pointer (some ⟨q, 0, none⟩) := by simpa using hgi
    obtain ⟨rfl, rfl⟩ := hq
    clear hgi
    obtain ⟨Bn, Bf, k1, k2, ln, lf⟩ := Bi
    simp only [Rp.T.ht, Rp.T.len] at *
    have bN := n.ht_le Bn
    have bF := f.ht_le Bf
    have D0 : Hid _ := d0
    have D1 : Hid _ := d1
    have TN : Hid _ := hn
    have TF : Hid _ := hf
    clear d0 d1 d2 d3 hn hf
    go_enter Try.func44, Try.ntmps44
    go_wp2_with fail
    refine (HAl.out _ (Below.refl _ _)).mono ?_
    rintro e w' ⟨rfl, rfl⟩
    go_wp2_with fail
    refine (HBl.out _ (Below.refl _ _)).mono ?_
    rintro e w' ⟨rfl, rfl⟩
    go_wp2_with fail
    refine (parts_any _ _ _ _ C0.out C1.out).mono ?_
    rintro e w1 ⟨rfl, hb1⟩
    have B1 : Hid _ := hb1
    clear hb1
    go_wp2_with fail
    refine (HIl.out _ B1.out).mono ?_
    rintro e w' ⟨rfl, rfl⟩
    go_wp2_with fail
    refine (HOl.out _ B1.out).mono ?_
    rintro e w' ⟨rfl, rfl⟩
    go_wp2_with fail
    refine (parts_any _ _ _ _ (below_cell B1.out D0.out) (below_cell B1.out D1.out)).mono ?_
    rintro e w2 ⟨rfl, hb2⟩
    have B2 : Hid _ := below_trans B1.out hb2
    clear hb2
    go_wp2_with fail
    refine (pair_any _ _ o n _ (TO.out.mono B2.out) (TN.out.mono B2.out) (by omega) (by omega) (by omega) (by omega)).mono ?_
    rintro e w3 ⟨p3, rfl, t3, hb3⟩
    have B3 : Hid _ := below_trans B2.out hb3
    have T3 : Hid _ := t3
    clear hb3 t3
    go_wp2_with fail
    refine (pair_any _ _ f b _ (TF.out.mono B3.out) (TB.out.mono B3.out) (by omega) (by omega) (by omega) (by omega)).mono ?_
    rintro e w4 ⟨p4, rfl, t4, hb4⟩
    have B4 : Hid _ := below_trans B3.out hb4
    have T3' : Hid _ := T3.out.mono hb4
    have T4 : Hid _ := t4
    clear hb4 t4 T3
    go_wp2_with fail
    refine (pair_any _ _ (.branch o n) (.branch f b) _ T3'.out T4.out (by simp only [Rp.T.len]; omega) (by simp only [Rp.T.len]; omega) (by simp only [Rp.T.ht]; omega) (by simp only [Rp.T.ht]; omega)).mono ?_
    rintro e w5 ⟨p5, rfl, t5, hb5⟩
    have B5 : Hid _ := below_trans B4.out hb5
    have T5 : Hid _ := t5
    clear hb5 t5
    go_wp2_with fail
    go_ret
    have e1 := E1.out
    exact ⟨_, _, rfl, T5.out, by simp only [Rp.T.text, List.append_assoc], ⟨⟨Bo, Bn, by omega, by omega, lo, ln⟩, ⟨Bf, Bb, by omega, by omega, lf, lb⟩, by simp only [Rp.T.ht]; omega, by simp only [Rp.T.ht]; omega, by simp only [Rp.T.len]; omega, by simp only [Rp.T.len]; omega⟩, by simp only [Rp.T.ht]; omega, by simp only [Rp.T.ht]; omega, fun h h' => absurd (And.intro h h') (by simp only [Rp.T.ht]; omega), B5.out⟩
  · have hc' : i.ht ≤ o.ht := by omega
    clear hc
    go_enter Try.func44, Try.ntmps44
    go_wp2_with fail
    refine (HAl.out _ (Below.refl _ _)).mono ?_
    rintro e w' ⟨rfl, rfl⟩
    go_wp2_with fail
    refine (HBl.out _ (Below.refl _ _)).mono ?_
    rintro e w' ⟨rfl, rfl⟩
    go_wp2_with fail
    refine (parts_any _ _ _ _ C0.out C1.out).mono ?_
    rintro e w1 ⟨rfl, hb1⟩
    have B1 : Hid _ := hb1
    clear hb1
    go_wp2_with fail
    refine (HIl.out _ B1.out).mono ?_
    rintro e w' ⟨rfl, rfl⟩
    go_wp2_with fail
    refine (HOl.out _ B1.out).mono ?_
    rintro e w' ⟨rfl, rfl⟩
    go_wp2_with fail
    refine (pair_any _ _ i b _ (TI.out.mono B1.out) (TB.out.mono B1.out) (by omega) (by omega) (by omega) (by omega)).mono ?_
    rintro e w3 ⟨p3, rfl, t3, hb3⟩
    have B3 : Hid _ := below_trans B1.out hb3
    have T3 : Hid _ := t3
    clear hb3 t3
    go_wp2_with fail
    refine (pair_any _ _ o (.branch i b) _ (TO.out.mono B3.out) T3.out (by omega) (by simp only [Rp.T.len]; omega) (by omega) (by simp only [Rp.T.ht]; omega)).mono ?_
    rintro e w5 ⟨p5, rfl, t5, hb5⟩
    have B5 : Hid _ := below_trans B3.out hb5
    have T5 : Hid _ := t5
    clear hb5 t5
    go_wp2_with fail
    go_ret
    have e1 := E1.out
    exact ⟨_, _, rfl, T5.out, by simp only [Rp.T.text, List.append_assoc], ⟨Bo, ⟨Bi, Bb, by omega, by omega, li, lb⟩, by simp only [Rp.T.ht]; omega, by simp only [Rp.T.ht]; omega, by omega, by simp only [Rp.T.len]; omega⟩, by simp only [Rp.T.ht]; omega, by simp only [Rp.T.ht]; omega, fun h h' => absurd (And.intro h h') (by simp only [Rp.T.ht]; omega), B5.out⟩

set_option maxRecDepth 100000 in
set_option maxHeartbeats 1000000 in
theorem balance_right (va vb : Value) (a b : Rp.T) (w : World) (ha : IsTree w va a) (hb : IsTree w vb b) (Ba : a.Bal) (Bb : b.Bal) (la : 0 < a.len)
    (h1 : b.ht = a.ht + 2) (hs : a.len + b.len ≤ 4194304) :
    Calls Try.prog 44 #[va, vb] w fun e w' => ∃ v t, e = .returned v ∧ Joined w w' v a b t := by
  have bA := a.ht_le Ba
  have bB := b.ht_le Bb
  have pA := a.ht_pos
  cases hb with
  | leaf s => exact absurd h1 (by simp only [Rp.T.ht]; omega)
  | branch p vi vo i o c0 c1 c2 c3 hi ho =>
  obtain ⟨_, msb, mlb, esb, elb, csb, clb⟩ := face_branch c2 c3
  simp only [Rp.T.ht] at clb
  obtain ⟨ua, xa, fsa, fla, rfl, msa, mla, esa, ela, csa, cla⟩ := ha.face
  obtain ⟨ui, xi, fsi, fli, rfl, msi, mli, esi, eli, csi, cli⟩ := hi.face
  obtain ⟨uo, xo, fso, flo, rfl, mso, mlo, eso, elo, cso, clo⟩ := ho.face
  obtain ⟨Bi, Bo, g1, g2, li, lo⟩ := Bb
  simp only [Rp.T.ht, Rp.T.len] at h1 hs bB
  have bO := o.ht_le Bo
  have bI := i.ht_le Bi
  have HAl : Hid _ := cla
  have HBl : Hid _ := clb
  have HIl : Hid _ := cli
  have HOl : Hid _ := clo
  have C0 : Hid _ := c0
  have C1 : Hid _ := c1
  have TO : Hid _ := ho
  have TI : Hid _ := hi
  have TA : Hid _ := ha
  clear csa csb cla clb csi cli cso clo msa msb esa esb msi esi mso eso c0 c1 c2 c3 ho hi ha
  have E1 : Hid _ := h1
  have h1a : a.ht + 1 < 1 + max i.ht o.ht := by omega
  clear h1
  by_cases hc : o.ht < i.ht
  · have TI' := TI.out
    generalize hgi : (Value.iface ui xi) = vi at TI'
    cases TI' with
    | leaf s => exact absurd hc (by have := o.ht_pos; simp only [Rp.T.ht]; omega)
    | branch q vn vf n f d0 d1 d2 d3 hn hf =>
    have hq : ui = 97 ∧ xi = .pointer (some ⟨q, 0, none⟩) := by simpa using hgi
    obtain ⟨rfl, rfl⟩ := hq
    clear hgi
    obtain ⟨Bn, Bf, k1, k2, ln, lf⟩ := Bi
    simp only [Rp.T.ht, Rp.T.len] at *
    have bN := n.ht_le Bn
    have bF := f.ht_le Bf
    have D0 : Hid _ := d0
    have D1 : Hid _ := d1
    have TN : Hid _ := hn
    have TF : Hid _ := hf
    clear d0 d1 d2 d3 hn hf
    go_enter Try.func44, Try.ntmps44
    go_wp2_with fail
    refine (HAl.out _ (Below.refl _ _)).mono ?_
    rintro e w' ⟨rfl, rfl⟩
    go_wp2_with fail
    refine (HBl.out _ (Below.refl _ _)).mono ?_
    rintro e w' ⟨rfl, rfl⟩
    go_wp2_with fail
    refine (HBl.out _ (Below.refl _ _)).mono ?_
    rintro e w' ⟨rfl, rfl⟩
    go_wp2_with fail
    refine (HAl.out _ (Below.refl _ _)).mono ?_
    rintro e w' ⟨rfl, rfl⟩
    go_wp2_with fail
    refine (parts_any _ _ _ _ C0.out C1.out).mono ?_
    rintro e w1 ⟨rfl, hb1⟩
    have B1 : Hid _ := hb1
    clear hb1
    go_wp2_with fail
    refine (HIl.out _ B1.out).mono ?_
    rintro e w' ⟨rfl, rfl⟩
    go_wp2_with fail
    refine (HOl.out _ B1.out).mono ?_
    rintro e w' ⟨rfl, rfl⟩
    go_wp2_with fail
    refine (parts_any _ _ _ _ (below_cell B1.out D0.out) (below_cell B1.out D1.out)).mono ?_
    rintro e w2 ⟨rfl, hb2⟩
    have B2 : Hid _ := below_trans B1.out hb2
    clear hb2
    go_wp2_with fail
    refine (pair_any _ _ a n _ (TA.out.mono B2.out) (TN.out.mono B2.out) (by omega) (by omega) (by omega) (by omega)).mono ?_
    rintro e w3 ⟨p3, rfl, t3, hb3⟩
    have B3 : Hid _ := below_trans B2.out hb3
    have T3 : Hid _ := t3
    clear hb3 t3
    go_wp2_with fail
    refine (pair_any _ _ f o _ (TF.out.mono B3.out) (TO.out.mono B3.out) (by omega) (by omega) (by omega) (by omega)).mono ?_
    rintro e w4 ⟨p4, rfl, t4, hb4⟩
    have B4 : Hid _ := below_trans B3.out hb4
    have T3' : Hid _ := T3.out.mono hb4
    have T4 : Hid _ := t4
    clear hb4 t4 T3
    go_wp2_with fail
    refine (pair_any _ _ (.branch a n) (.branch f o) _ T3'.out T4.out (by simp only [Rp.T.len]; omega) (by simp only [Rp.T.len]; omega) (by simp only [Rp.T.ht]; omega) (by simp only [Rp.T.ht]; omega)).mono ?_
    rintro e w5 ⟨p5, rfl, t5, hb5⟩
    have B5 : Hid _ := below_trans B4.out hb5
    have T5 : Hid _ := t5
    clear hb5 t5
    go_wp2_with fail
    go_ret
    have e1 := E1.out
    exact ⟨_, _, rfl, T5.out, by simp only [Rp.T.text, List.append_assoc], ⟨⟨Ba, Bn, by omega, by omega, la, ln⟩, ⟨Bf, Bo, by omega, by omega, lf, lo⟩, by simp only [Rp.T.ht]; omega, by simp only [Rp.T.ht]; omega, by simp only [Rp.T.len]; omega, by simp only [Rp.T.len]; omega⟩, by simp only [Rp.T.ht]; omega, by simp only [Rp.T.ht]; omega, fun h h' => absurd (And.intro h h') (by simp only [Rp.T.ht]; omega), B5.out⟩
  · have hc' : i.ht ≤ o.ht := by omega
    clear hc
    go_enter Try.func44, Try.ntmps44
    go_wp2_with fail
    refine (HAl.out _ (Below.refl _ _)).mono ?_
    rintro e w' ⟨rfl, rfl⟩
    go_wp2_with fail
    refine (HBl.out _ (Below.refl _ _)).mono ?_
    rintro e w' ⟨rfl, rfl⟩
    go_wp2_with fail
    refine (HBl.out _ (Below.refl _ _)).mono ?_
    rintro e w' ⟨rfl, rfl⟩
    go_wp2_with fail
    refine (HAl.out _ (Below.refl _ _)).mono ?_
    rintro e w' ⟨rfl, rfl⟩
    go_wp2_with fail
    refine (parts_any _ _ _ _ C0.out C1.out).mono ?_
    rintro e w1 ⟨rfl, hb1⟩
    have B1 : Hid _ := hb1
    clear hb1
    go_wp2_with fail
    refine (HIl.out _ B1.out).mono ?_
    rintro e w' ⟨rfl, rfl⟩
    go_wp2_with fail
    refine (HOl.out _ B1.out).mono ?_
    rintro e w' ⟨rfl, rfl⟩
    go_wp2_with fail
    refine (pair_any _ _ a i _ (TA.out.mono B1.out) (TI.out.mono B1.out) (by omega) (by omega) (by omega) (by omega)).mono ?_
    rintro e w3 ⟨p3, rfl, t3, hb3⟩
    have B3 : Hid _ := below_trans B1.out hb3
    have T3 : Hid _ := t3
    clear hb3 t3
    go_wp2_with fail
    refine (pair_any _ _ (.branch a i) o _ T3.out (TO.out.mono B3.out) (by simp only [Rp.T.len]; omega) (by omega) (by simp only [Rp.T.ht]; omega) (by omega)).mono ?_
    rintro e w5 ⟨p5, rfl, t5, hb5⟩
    have B5 : Hid _ := below_trans B3.out hb5
    have T5 : Hid _ := t5
    clear hb5 t5
    go_wp2_with fail
    go_ret
    have e1 := E1.out
    exact ⟨_, _, rfl, T5.out, by simp only [Rp.T.text, List.append_assoc], ⟨⟨Ba, Bi, by omega, by omega, la, li⟩, Bo, by simp only [Rp.T.ht]; omega, by simp only [Rp.T.ht]; omega, by simp only [Rp.T.len]; omega, by omega⟩, by simp only [Rp.T.ht]; omega, by simp only [Rp.T.ht]; omega, fun h h' => absurd (And.intro h h') (by simp only [Rp.T.ht]; omega), B5.out⟩

theorem balance_any (va vb : Value) (a b : Rp.T) (w : World) (ha : IsTree w va a) (hb : IsTree w vb b) (Ba : a.Bal) (Bb : b.Bal) (la : 0 < a.len) (lb : 0 < b.len)
    (h1 : a.ht ≤ b.ht + 2) (h2 : b.ht ≤ a.ht + 2) (hs : a.len + b.len ≤ 4194304) :
    Calls Try.prog 44 #[va, vb] w fun e w' => ∃ v t, e = .returned v ∧ Joined w w' v a b t := by
  by_cases hl : a.ht = b.ht + 2
  · exact balance_left va vb a b w ha hb Ba Bb lb hl hs
  · by_cases hr : b.ht = a.ht + 2
    · exact balance_right va vb a b w ha hb Ba Bb la hr hs
    · exact balance_even va vb a b w ha hb Ba Bb la lb (by omega) (by omega) hs

end Go.Proofs.Ytnhmdbmcamfbiaa
