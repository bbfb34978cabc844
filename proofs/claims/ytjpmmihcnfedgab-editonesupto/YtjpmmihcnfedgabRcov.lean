import Derived.Test.YtjpmmihcnfedgabRapp
import Derived.Test.YtjpmmihcnfedgabRclam
namespace Go.Proofs.Ytjpmmihcnfedgab
open Go.RowKit

set_option maxRecDepth 100000 in
set_option maxHeartbeats 1000000 in
theorem rcover_bad1 (s : ByteArray) (p1 q1 p2 q2 : Int) (i1 i2 : ByteArray) (w : World) (hs : s.size ≤ 1048576) (hi : i1.size ≤ 1048576) (hok : ¬ okE s p1 q1 i1) :
    Calls Try.prog 8 #[.string s, ed p1 q1 i1, ed p2 q2 i2] w fun e w' => e = .returned (ed 0 0 ⟨#[]⟩) ∧ Below w.heap.size w w' := by
  have C0 : Hid _ := fun W : World => rapply_big s p1 q1 i1 W hs hi hok
  clear hs hi hok
  go_enter Try.func8, Try.ntmps8
  go_wp2_with fail
  refine (C0.out _).mono ?_
  rintro e' w2 ⟨rfl, hb⟩
  obtain ⟨h1, h2, h3, h4⟩ := box3 hb
  have H4 : Hid _ := h4
  obtain ⟨r0, r1, r2, rf⟩ := h3
  clear hb C0 h1 h2 h4
  go_wp2_with fail
  (try simp only [Exit.inBlock, Exit.then])
  refine bodyPost_ret (v := ed 0 0 ⟨#[]⟩) ?_ rfl ⟨rfl, ?_⟩
  · rw [results_cell1 rfl]; go_simp
  · exact bel_set3 H4.out (by omega) _ _ _

set_option maxRecDepth 100000 in
set_option maxHeartbeats 1000000 in
theorem rcover_bad2 (s : ByteArray) (p1 q1 p2 q2 : Int) (i1 i2 m : ByteArray) (w : World) (hi1 : i1.size ≤ 1048576) (hi2 : i2.size ≤ 1048576) (hm : beh s p1 q1 i1 = m) (hok : okE s p1 q1 i1) (hok2 : ¬ okE m p2 q2 i2) :
    Calls Try.prog 8 #[.string s, ed p1 q1 i1, ed p2 q2 i2] w fun e w' => e = .returned (ed 0 0 ⟨#[]⟩) ∧ Below w.heap.size w w' := by
  have hms : m.size ≤ 1048576 := by rw [← hm, beh_size]; exact hok.2
  have C0 : Hid _ := fun W : World => rapply_any s p1 q1 i1 m W hi1 hok hm
  have C1 : Hid _ := fun W : World => rapply_big m p2 q2 i2 W hms hi2 hok2
  clear hi1 hi2 hok hok2 hm hms
  go_enter Try.func8, Try.ntmps8
  go_wp2_with fail
  refine (C0.out _).mono ?_
  rintro e' w2 ⟨rfl, hb⟩
  obtain ⟨h1, h2, h3, h4⟩ := box3 hb
  have H3 : Hid _ := h3
  have H4 : Hid _ := h4
  obtain ⟨b0, b1, b2, bf⟩ := h2
  clear hb C0 h1 h3 h4
  go_wp2_with fail
  refine (C1.out _).mono ?_
  rintro e' w3 ⟨rfl, hb⟩
  obtain ⟨r0, r1, r2, rf⟩ := H3.out.up hb
  have H5 : Hid _ := below_trans H4.out hb
  clear hb C1 b0 b1 b2 bf
  go_wp2_with fail
  (try simp only [Exit.inBlock, Exit.then])
  refine bodyPost_ret (v := ed 0 0 ⟨#[]⟩) ?_ rfl ⟨rfl, ?_⟩
  · rw [results_cell1 rfl]; go_simp
  · exact bel_set3 H5.out (by omega) _ _ _

set_option maxRecDepth 100000 in
set_option maxHeartbeats 2000000 in
theorem rcover_run (s : ByteArray) (p1 q1 p2 q2 : Int) (i1 i2 m L : ByteArray) (a1 d1 a2 d2 at_ z e : Nat) (w : World)
    (C0 : Hid (∀ W : World, Calls Try.prog 14 #[.string s, ed p1 q1 i1] W fun e W' => e = .returned (.tuple #[.string m, .int .i64 0]) ∧ Below W.heap.size W W'))
    (C1 : Hid (∀ W : World, Calls Try.prog 14 #[.string m, ed p2 q2 i2] W fun e W' => e = .returned (.tuple #[.string L, .int .i64 0]) ∧ Below W.heap.size W W'))
    (CL1 : Hid (∀ W : World, Calls Try.prog 20 #[.int .i64 (s.size : Int), ed p1 q1 i1] W fun e W' => e = .returned (ed (a1 : Int) (d1 : Int) i1) ∧ Below W.heap.size W W'))
    (CL2 : Hid (∀ W : World, Calls Try.prog 20 #[.int .i64 (m.size : Int), ed p2 q2 i2] W fun e W' => e = .returned (ed (a2 : Int) (d2 : Int) i2) ∧ Below W.heap.size W W'))
    (hat : at_ = min a1 a2) (hz : z = cvz a1 d1 i1.size a2 d2) (h1 : a1 + d1 ≤ 1048576) (h2 : a2 + d2 ≤ 1048576) (h3 : i1.size ≤ 1048576) (hz1 : at_ ≤ z) (hzs : z ≤ s.size) (hs : s.size ≤ 1048576) (he : (L.size : Int) - ((s.size : Int) - (z : Int)) = (e : Int)) (hae : at_ ≤ e) (heL : e ≤ L.size) (hL : L.size ≤ 1048576) :
    Calls Try.prog 8 #[.string s, ed p1 q1 i1, ed p2 q2 i2] w fun x w' => x = .returned (ed (at_ : Int) ((z : Int) - at_) (L.extract at_ e)) ∧ Below w.heap.size w w' := by
  unfold cvz at hz
  by_cases c1 : a2 < a1
  · have e1 : at_ = a2 := by omega
    subst e1
    by_cases c2 : a1 + i1.size < at_ + d2
    · have hz2 : (at_ : Int) + (d2 : Int) - ((i1.size : Int) - (d1 : Int)) = (z : Int) := by rw [if_neg (by omega)] at hz; omega
      clear hat hz
      go_enter Try.func8, Try.ntmps8
      go_wp2_with fail
      refine (C0.out _).mono ?_
      rintro e' w1 ⟨rfl, hb⟩
      obtain ⟨h1, h2, h3, h4⟩ := box3 hb
      have Ka1 : Hid _ := h1
      have Kb1 : Hid _ := h2
      have Kr1 : Hid _ := h3
      have B1 : Hid _ := h4
      clear hb h1 h2 h3 h4 C0
      obtain ⟨b0, b1, b2, bf⟩ := Kb1.out
      go_wp2_with fail
      refine (C1.out _).mono ?_
      rintro e' w2 ⟨rfl, hb⟩
      have Ka2 : Hid _ := Ka1.out.up hb
      have Kb2 : Hid _ := Kb1.out.up hb
      have Kr2 : Hid _ := Kr1.out.up hb
      have B2 : Hid _ := below_trans B1.out hb
      clear hb Ka1 Kb1 Kr1 B1 b0 b1 b2 bf C1
      obtain ⟨a0, a1, a2, af⟩ := Ka2.out
      go_wp2_with fail
      refine (CL1.out _).mono ?_
      rintro e' w3 ⟨rfl, hb⟩
      have Ka3 : Hid _ := Ka2.out.up hb
      have Kb3 : Hid _ := Kb2.out.up hb
      have Kr3 : Hid _ := Kr2.out.up hb
      have B3 : Hid _ := below_trans B2.out hb
      clear hb Ka2 Kb2 Kr2 B2 a0 a1 a2 af CL1
      obtain ⟨b0, b1, b2, bf⟩ := (Kb3.out.up (bel_up _ (.cells #[.int .i64 (a1 : Int), .int .i64 (d1 : Int), .string i1] 23)))
      go_wp2_with fail
      refine (CL2.out _).mono ?_
      rintro e' w4 ⟨rfl, hb⟩
      have Ka4 : Hid _ := (Ka3.out.up (bel_up _ (.cells #[.int .i64 (a1 : Int), .int .i64 (d1 : Int), .string i1] 23))).up hb
      have Kb4 : Hid _ := (Kb3.out.up (bel_up _ (.cells #[.int .i64 (a1 : Int), .int .i64 (d1 : Int), .string i1] 23))).up hb
      have Kr4 : Hid _ := (Kr3.out.up (bel_up _ (.cells #[.int .i64 (a1 : Int), .int .i64 (d1 : Int), .string i1] 23))).up hb
      have Kc4 : Hid _ := box1 hb
      have B4 : Hid _ := below_trans (below_trans B3.out (bel_up _ _)) hb
      clear hb Ka3 Kb3 Kr3 B3 b0 b1 b2 bf CL2
      obtain ⟨c0, c1, c2, cf⟩ := (Kc4.out.up (bel_up _ (.cells #[.int .i64 (at_ : Int), .int .i64 (d2 : Int), .string i2] 23)))
      obtain ⟨r0, r1, r2, rf⟩ := (Kr4.out.up (bel_up _ (.cells #[.int .i64 (at_ : Int), .int .i64 (d2 : Int), .string i2] 23)))
      go_wp2_with fail
      (try simp only [Exit.inBlock, Exit.then])
      refine bodyPost_ret (v := ed (at_ : Int) ((z : Int) - at_) (L.extract at_ e)) ?_ rfl ⟨rfl, ?_⟩
      · rw [results_cell1 rfl]; go_simp
        all_goals omega
      · exact bel_set3 (below_trans B4.out (bel_up _ _)) (by omega) _ _ _
    · have hz2 : (a1 : Int) + (d1 : Int) = (z : Int) := by rw [if_pos (by omega)] at hz; omega
      clear hat hz
      go_enter Try.func8, Try.ntmps8
      go_wp2_with fail
      refine (C0.out _).mono ?_
      rintro e' w1 ⟨rfl, hb⟩
      obtain ⟨h1, h2, h3, h4⟩ := box3 hb
      have Ka1 : Hid _ := h1
      have Kb1 : Hid _ := h2
      have Kr1 : Hid _ := h3
      have B1 : Hid _ := h4
      clear hb h1 h2 h3 h4 C0
      obtain ⟨b0, b1, b2, bf⟩ := Kb1.out
      go_wp2_with fail
      refine (C1.out _).mono ?_
      rintro e' w2 ⟨rfl, hb⟩
      have Ka2 : Hid _ := Ka1.out.up hb
      have Kb2 : Hid _ := Kb1.out.up hb
      have Kr2 : Hid _ := Kr1.out.up hb
      have B2 : Hid _ := below_trans B1.out hb
      clear hb Ka1 Kb1 Kr1 B1 b0 b1 b2 bf C1
      obtain ⟨a0, a1, a2, af⟩ := Ka2.out
      go_wp2_with fail
      refine (CL1.out _).mono ?_
      rintro e' w3 ⟨rfl, hb⟩
      have Ka3 : Hid _ := Ka2.out.up hb
      have Kb3 : Hid _ := Kb2.out.up hb
      have Kr3 : Hid _ := Kr2.out.up hb
      have B3 : Hid _ := below_trans B2.out hb
      clear hb Ka2 Kb2 Kr2 B2 a0 a1 a2 af CL1
      obtain ⟨b0, b1, b2, bf⟩ := (Kb3.out.up (bel_up _ (.cells #[.int .i64 (a1 : Int), .int .i64 (d1 : Int), .string i1] 23)))
      go_wp2_with fail
      refine (CL2.out _).mono ?_
      rintro e' w4 ⟨rfl, hb⟩
      have Ka4 : Hid _ := (Ka3.out.up (bel_up _ (.cells #[.int .i64 (a1 : Int), .int .i64 (d1 : Int), .string i1] 23))).up hb
      have Kb4 : Hid _ := (Kb3.out.up (bel_up _ (.cells #[.int .i64 (a1 : Int), .int .i64 (d1 : Int), .string i1] 23))).up hb
      have Kr4 : Hid _ := (Kr3.out.up (bel_up _ (.cells #[.int .i64 (a1 : Int), .int .i64 (d1 : Int), .string i1] 23))).up hb
      have Kc4 : Hid _ := box1 hb
      have B4 : Hid _ := below_trans (below_trans B3.out (bel_up _ _)) hb
      clear hb Ka3 Kb3 Kr3 B3 b0 b1 b2 bf CL2
      obtain ⟨c0, c1, c2, cf⟩ := (Kc4.out.up (bel_up _ (.cells #[.int .i64 (at_ : Int), .int .i64 (d2 : Int), .string i2] 23)))
      obtain ⟨r0, r1, r2, rf⟩ := (Kr4.out.up (bel_up _ (.cells #[.int .i64 (at_ : Int), .int .i64 (d2 : Int), .string i2] 23)))
      go_wp2_with fail
      (try simp only [Exit.inBlock, Exit.then])
      refine bodyPost_ret (v := ed (at_ : Int) ((z : Int) - at_) (L.extract at_ e)) ?_ rfl ⟨rfl, ?_⟩
      · rw [results_cell1 rfl]; go_simp
        all_goals omega
      · exact bel_set3 (below_trans B4.out (bel_up _ _)) (by omega) _ _ _
  · have e1 : at_ = a1 := by omega
    subst e1
    by_cases c2 : at_ + i1.size < a2 + d2
    · have hz2 : (a2 : Int) + (d2 : Int) - ((i1.size : Int) - (d1 : Int)) = (z : Int) := by rw [if_neg (by omega)] at hz; omega
      clear hat hz
      go_enter Try.func8, Try.ntmps8
      go_wp2_with fail
      refine (C0.out _).mono ?_
      rintro e' w1 ⟨rfl, hb⟩
      obtain ⟨h1, h2, h3, h4⟩ := box3 hb
      have Ka1 : Hid _ := h1
      have Kb1 : Hid _ := h2
      have Kr1 : Hid _ := h3
      have B1 : Hid _ := h4
      clear hb h1 h2 h3 h4 C0
      obtain ⟨b0, b1, b2, bf⟩ := Kb1.out
      go_wp2_with fail
      refine (C1.out _).mono ?_
      rintro e' w2 ⟨rfl, hb⟩
      have Ka2 : Hid _ := Ka1.out.up hb
      have Kb2 : Hid _ := Kb1.out.up hb
      have Kr2 : Hid _ := Kr1.out.up hb
      have B2 : Hid _ := below_trans B1.out hb
      clear hb Ka1 Kb1 Kr1 B1 b0 b1 b2 bf C1
      obtain ⟨a0, a1, a2, af⟩ := Ka2.out
      go_wp2_with fail
      refine (CL1.out _).mono ?_
      rintro e' w3 ⟨rfl, hb⟩
      have Ka3 : Hid _ := Ka2.out.up hb
      have Kb3 : Hid _ := Kb2.out.up hb
      have Kr3 : Hid _ := Kr2.out.up hb
      have B3 : Hid _ := below_trans B2.out hb
      clear hb Ka2 Kb2 Kr2 B2 a0 a1 a2 af CL1
      obtain ⟨b0, b1, b2, bf⟩ := (Kb3.out.up (bel_up _ (.cells #[.int .i64 (at_ : Int), .int .i64 (d1 : Int), .string i1] 23)))
      go_wp2_with fail
      refine (CL2.out _).mono ?_
      rintro e' w4 ⟨rfl, hb⟩
      have Ka4 : Hid _ := (Ka3.out.up (bel_up _ (.cells #[.int .i64 (at_ : Int), .int .i64 (d1 : Int), .string i1] 23))).up hb
      have Kb4 : Hid _ := (Kb3.out.up (bel_up _ (.cells #[.int .i64 (at_ : Int), .int .i64 (d1 : Int), .string i1] 23))).up hb
      have Kr4 : Hid _ := (Kr3.out.up (bel_up _ (.cells #[.int .i64 (at_ : Int), .int .i64 (d1 : Int), .string i1] 23))).up hb
      have Kc4 : Hid _ := box1 hb
      have B4 : Hid _ := below_trans (below_trans B3.out (bel_up _ _)) hb
      clear hb Ka3 Kb3 Kr3 B3 b0 b1 b2 bf CL2
      obtain ⟨c0, c1, c2, cf⟩ := (Kc4.out.up (bel_up _ (.cells #[.int .i64 (a2 : Int), .int .i64 (d2 : Int), .string i2] 23)))
      obtain ⟨r0, r1, r2, rf⟩ := (Kr4.out.up (bel_up _ (.cells #[.int .i64 (a2 : Int), .int .i64 (d2 : Int), .string i2] 23)))
      go_wp2_with fail
      (try simp only [Exit.inBlock, Exit.then])
      refine bodyPost_ret (v := ed (at_ : Int) ((z : Int) - at_) (L.extract at_ e)) ?_ rfl ⟨rfl, ?_⟩
      · rw [results_cell1 rfl]; go_simp
        all_goals omega
      · exact bel_set3 (below_trans B4.out (bel_up _ _)) (by omega) _ _ _
    · have hz2 : (at_ : Int) + (d1 : Int) = (z : Int) := by rw [if_pos (by omega)] at hz; omega
      clear hat hz
      go_enter Try.func8, Try.ntmps8
      go_wp2_with fail
      refine (C0.out _).mono ?_
      rintro e' w1 ⟨rfl, hb⟩
      obtain ⟨h1, h2, h3, h4⟩ := box3 hb
      have Ka1 : Hid _ := h1
      have Kb1 : Hid _ := h2
      have Kr1 : Hid _ := h3
      have B1 : Hid _ := h4
      clear hb h1 h2 h3 h4 C0
      obtain ⟨b0, b1, b2, bf⟩ := Kb1.out
      go_wp2_with fail
      refine (C1.out _).mono ?_
      rintro e' w2 ⟨rfl, hb⟩
      have Ka2 : Hid _ := Ka1.out.up hb
      have Kb2 : Hid _ := Kb1.out.up hb
      have Kr2 : Hid _ := Kr1.out.up hb
      have B2 : Hid _ := below_trans B1.out hb
      clear hb Ka1 Kb1 Kr1 B1 b0 b1 b2 bf C1
      obtain ⟨a0, a1, a2, af⟩ := Ka2.out
      go_wp2_with fail
      refine (CL1.out _).mono ?_
      rintro e' w3 ⟨rfl, hb⟩
      have Ka3 : Hid _ := Ka2.out.up hb
      have Kb3 : Hid _ := Kb2.out.up hb
      have Kr3 : Hid _ := Kr2.out.up hb
      have B3 : Hid _ := below_trans B2.out hb
      clear hb Ka2 Kb2 Kr2 B2 a0 a1 a2 af CL1
      obtain ⟨b0, b1, b2, bf⟩ := (Kb3.out.up (bel_up _ (.cells #[.int .i64 (at_ : Int), .int .i64 (d1 : Int), .string i1] 23)))
      go_wp2_with fail
      refine (CL2.out _).mono ?_
      rintro e' w4 ⟨rfl, hb⟩
      have Ka4 : Hid _ := (Ka3.out.up (bel_up _ (.cells #[.int .i64 (at_ : Int), .int .i64 (d1 : Int), .string i1] 23))).up hb
      have Kb4 : Hid _ := (Kb3.out.up (bel_up _ (.cells #[.int .i64 (at_ : Int), .int .i64 (d1 : Int), .string i1] 23))).up hb
      have Kr4 : Hid _ := (Kr3.out.up (bel_up _ (.cells #[.int .i64 (at_ : Int), .int .i64 (d1 : Int), .string i1] 23))).up hb
      have Kc4 : Hid _ := box1 hb
      have B4 : Hid _ := below_trans (below_trans B3.out (bel_up _ _)) hb
      clear hb Ka3 Kb3 Kr3 B3 b0 b1 b2 bf CL2
      obtain ⟨c0, c1, c2, cf⟩ := (Kc4.out.up (bel_up _ (.cells #[.int .i64 (a2 : Int), .int .i64 (d2 : Int), .string i2] 23)))
      obtain ⟨r0, r1, r2, rf⟩ := (Kr4.out.up (bel_up _ (.cells #[.int .i64 (a2 : Int), .int .i64 (d2 : Int), .string i2] 23)))
      go_wp2_with fail
      (try simp only [Exit.inBlock, Exit.then])
      refine bodyPost_ret (v := ed (at_ : Int) ((z : Int) - at_) (L.extract at_ e)) ?_ rfl ⟨rfl, ?_⟩
      · rw [results_cell1 rfl]; go_simp
        all_goals omega
      · exact bel_set3 (below_trans B4.out (bel_up _ _)) (by omega) _ _ _

theorem rcover_any (s : ByteArray) (p1 q1 p2 q2 : Int) (i1 i2 m L : ByteArray) (a1 d1 a2 d2 z : Nat) (w : World) (hi1 : i1.size ≤ 1048576) (hi2 : i2.size ≤ 1048576) (hm : beh s p1 q1 i1 = m) (hL : beh m p2 q2 i2 = L) (h1 : okE s p1 q1 i1) (h2 : okE m p2 q2 i2)
    (ha1 : ca s.size p1 = a1) (hd1 : cd s.size p1 q1 = d1) (ha2 : ca m.size p2 = a2) (hd2 : cd m.size p2 q2 = d2) (hz : cvz a1 d1 i1.size a2 d2 = z) :
    Calls Try.prog 8 #[.string s, ed p1 q1 i1, ed p2 q2 i2] w fun x w' => x = .returned (ed (min a1 a2 : Nat) ((z : Int) - (min a1 a2 : Nat)) (L.extract (min a1 a2) (L.size - (s.size - z)))) ∧ Below w.heap.size w w' := by
  have c1 := cd_le s.size p1 q1
  have c2 := cd_le m.size p2 q2
  have s1 := beh_size s p1 q1 i1
  have s2 := beh_size m p2 q2 i2
  have o1 := h1.1
  have o2 := h1.2
  have o3 := h2.1
  have o4 := h2.2
  rw [hm] at s1
  rw [hL] at s2
  rw [ha1, hd1] at c1
  rw [ha2, hd2] at c2
  rw [hd1] at s1 o2
  rw [hd2] at s2 o4
  have hzz : min a1 a2 ≤ z ∧ z ≤ s.size ∧ min a1 a2 + (s.size - z) ≤ L.size := by
    rw [← hz]
    unfold cvz
    split <;> omega
  refine rcover_run s p1 q1 p2 q2 i1 i2 m L a1 d1 a2 d2 (min a1 a2) z (L.size - (s.size - z)) w (fun W => rapply_any s p1 q1 i1 m W hi1 h1 hm) (fun W => rapply_any m p2 q2 i2 L W hi2 h2 hL) ?_ ?_ rfl hz.symm (by omega) (by omega) hi1 hzz.1 hzz.2.1 o1 (by omega) (by omega) (by omega) (by omega)
  · intro W
    have := rclamp_any s.size p1 q1 i1 W o1
    rw [ha1, hd1] at this
    exact this
  · intro W
    have := rclamp_any m.size p2 q2 i2 W o3
    rw [ha2, hd2] at this
    exact this

end Go.Proofs.Ytjpmmihcnfedgab
