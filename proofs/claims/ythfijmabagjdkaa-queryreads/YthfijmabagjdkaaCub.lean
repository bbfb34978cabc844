import Derived.Test.YthfijmabagjdkaaCua
namespace Go.Proofs.Ythfijmabagjdkaa
open Go.RowKit Go.Maps

/-- Two digits of base 16 from a place on: the byte or -1, and the last place that was read. -/
def td (s : ByteArray) (k : Nat) : Int × Nat := if hxv (rd s k) = -1 then (-1, k) else if hxv (rd s (k + 1)) = -1 then (-1, k + 1) else (16 * hxv (rd s k) + hxv (rd s (k + 1)), k + 1)
/-- An escape behind its backslash. -/
def es (s : ByteArray) (k : Nat) : Int × Nat := if rd s k = 120 then td s (k + 1) else (emv (rd s k), k)
theorem hxv_lo (b : Int) : hxv b = -1 ∨ ∃ n : Nat, n < 16 ∧ hxv b = (n : Int) := by
  unfold hxv isD
  split
  · rename_i h
    simp at h
    exact .inr ⟨(b - 48).toNat, by omega, by omega⟩
  · split
    · exact .inr ⟨(b - 87).toNat, by omega, by omega⟩
    · split
      · exact .inr ⟨(b - 55).toNat, by omega, by omega⟩
      · exact .inl rfl
theorem or_all : ∀ h l : Fin 16, bits .or .i64 ((h.val : Int) * 16) (l.val : Int) = 16 * (h.val : Int) + (l.val : Int) := by decide +kernel

set_option maxRecDepth 100000 in
set_option maxHeartbeats 4000000 in
theorem two_any {B b : Nat} {vb vw : Value} {c : Cs} (k : Nat) (hk : c.p + 1 = (k : Int)) (hk2 : k ≤ 4611686018427387000) (w : World) (h : Cu B w b vb vw c) :
    Calls Try.prog 63 #[.pointer (some ⟨b, 0, none⟩)] w fun e w' => e = .returned (.int .i64 (td c.s k).1) ∧ Cu B w' b vb vw { c with p := ((td c.s k).2 : Int) } ∧ Below B w w' := by
  have HH : Hid (Cu B w b vb vw c) := h
  have HK : Hid (c.p + 1 = (k : Int)) := hk
  have HK2 : Hid (k ≤ 4611686018427387000) := hk2
  obtain ⟨x, hx⟩ : ∃ x, rd c.s k = x := ⟨_, rfl⟩
  obtain ⟨y, hy⟩ : ∃ y, rd c.s (k + 1) = y := ⟨_, rfl⟩
  have HX : Hid (rd c.s k = x) := hx
  have HY : Hid (rd c.s (k + 1) = y) := hy
  have HT : Hid (td c.s k = if hxv x = -1 then (-1, k) else if hxv y = -1 then (-1, k + 1) else (16 * hxv x + hxv y, k + 1)) := by unfold td; rw [hx, hy]; exact rfl
  clear h hk hk2 hx hy
  go_enter Try.func63, Try.ntmps63
  go_wp2_with fail
  refine (read_any k HK.out (by have := HK2.out; omega) w HH.out).mono ?_
  rintro e w1 ⟨rfl, h1, b1⟩
  rw [HX.out]
  have H1 : Hid (Cu B w1 b vb vw { c with p := (k : Int) }) := h1
  have B1 : Hid (Below B w w1) := b1
  clear h1 b1 HH
  go_wp2_with fail
  refine (base16_any x (by rw [← HX.out]; exact rd_ok _ _) w1).mono ?_
  rintro e w2 ⟨rfl, rfl⟩
  rcases hxv_lo x with h1 | ⟨m, hm, h1⟩
  · rw [h1]
    go_wp2_with fail
    go_ret
    rw [HT.out, if_pos h1]
    exact ⟨rfl, H1.out, B1.out⟩
  · rw [h1]
    have n1 : ¬ ((m : Int) = -1) := by omega
    have HN1 : Hid (hxv x = (m : Int)) := h1
    clear h1
    go_wp2_with fail
    refine (read_any (k + 1) (by simp) (by have := HK2.out; omega) w2 H1.out).mono ?_
    rintro e w3 ⟨rfl, h3, b3⟩
    have H3 : Hid (Cu B w3 b vb vw { c with p := ((k + 1 : Nat) : Int) }) := h3
    have B3 : Hid (Below B w w3) := B1.out.trans b3
    clear h3 b3 H1 B1
    have HYo := HY.out
    simp only [] at HYo ⊢
    rw [HYo]
    go_wp2_with fail
    refine (base16_any y (by rw [← HY.out]; exact rd_ok _ _) w3).mono ?_
    rintro e w4 ⟨rfl, rfl⟩
    rcases hxv_lo y with h2 | ⟨q, hq, h2⟩
    · rw [h2]
      go_wp2_with fail
      go_ret
      rw [HT.out, HN1.out, if_neg (by omega), if_pos h2]
      exact ⟨rfl, H3.out, B3.out⟩
    · rw [h2]
      have n2 : ¬ ((q : Int) = -1) := by omega
      have HO : Hid (bits .or .i64 ((m : Int) * 16) (q : Int) = 16 * (m : Int) + (q : Int)) := or_all ⟨m, hm⟩ ⟨q, hq⟩
      have hwm : IntKind.i64.wrap ((m : Int) * 16) = (m : Int) * 16 := by rw [IntKind.wrap_i64]; omega
      have HN2 : Hid (hxv y = (q : Int)) := h2
      clear h2
      go_wp2_with fail
      go_ret
      rw [HT.out, HN1.out, HN2.out, if_neg (by omega), if_neg (by omega)]
      exact ⟨ret_int HO.out, H3.out, B3.out⟩
theorem em_none {b : Int} (h : ∀ i, i < 5 → b ≠ (((⟨#[34, 92, 110, 116, 114]⟩ : ByteArray).get! i).toNat : Int)) : emv b = -1 := by
  have h0 : b ≠ 34 := h 0 (by omega)
  have h1 : b ≠ 92 := h 1 (by omega)
  have h2 : b ≠ 110 := h 2 (by omega)
  have h3 : b ≠ 116 := h 3 (by omega)
  have h4 : b ≠ 114 := h 4 (by omega)
  unfold emv
  rw [if_neg h0, if_neg h1, if_neg h2, if_neg h3, if_neg h4]
theorem em_some : ∀ i : Fin 5, emv (((⟨#[34, 92, 110, 116, 114]⟩ : ByteArray).get! i.val).toNat : Int) = (((⟨#[34, 92, 10, 9, 13]⟩ : ByteArray).get! i.val).toNat : Int) := by decide +kernel

set_option maxRecDepth 100000 in
set_option maxHeartbeats 4000000 in
theorem esc_any {B b : Nat} {vb vw : Value} {c : Cs} (k : Nat) (hk : c.p + 1 = (k : Int)) (hk2 : k ≤ 4611686018427386000) (w : World) (h : Cu B w b vb vw c) :
    Calls Try.prog 54 #[.pointer (some ⟨b, 0, none⟩)] w fun e w' => e = .returned (.int .i64 (es c.s k).1) ∧ Cu B w' b vb vw { c with p := ((es c.s k).2 : Int) } ∧ Below B w w' := by
  have HH : Hid (Cu B w b vb vw c) := h
  have HK : Hid (c.p + 1 = (k : Int)) := hk
  have HK2 : Hid (k ≤ 4611686018427386000) := hk2
  obtain ⟨x, hx⟩ : ∃ x, rd c.s k = x := ⟨_, rfl⟩
  have HX : Hid (rd c.s k = x) := hx
  have HT : Hid (es c.s k = if x = 120 then td c.s (k + 1) else (emv x, k)) := by unfold es; rw [hx]; exact rfl
  clear h hk hk2 hx
  go_enter Try.func54, Try.ntmps54
  go_wp2_with fail
  refine (read_any k HK.out (by have := HK2.out; omega) w HH.out).mono ?_
  rintro e w1 ⟨rfl, h1, b1⟩
  rw [HX.out]
  have H1 : Hid (Cu B w1 b vb vw { c with p := (k : Int) }) := h1
  have B1 : Hid (Below B w w1) := b1
  clear h1 b1 HH
  by_cases h120 : x = 120
  · have HT2 : Hid (es c.s k = td c.s (k + 1)) := by show _ = _; rw [HT.out, if_pos h120]
    clear HT
    subst h120
    go_wp2_with fail
    refine (two_any (k + 1) (by simp) (by have := HK2.out; omega) w1 H1.out).mono ?_
    rintro e w2 ⟨rfl, h2, b2⟩
    have H2 : Hid (Cu B w2 b vb vw { c with p := ((td c.s (k + 1)).2 : Int) }) := h2
    have B2 : Hid (Below B w w2) := B1.out.trans b2
    clear h2 b2
    go_wp2_with fail
    go_ret
    rw [HT2.out]
    exact ⟨rfl, H2.out, B2.out⟩
  · have HT2 : Hid (es c.s k = (emv x, k)) := by show _ = _; rw [HT.out, if_neg h120]
    clear HT
    go_wp2_with fail
    go_loopg [11] 6 (fun gm v11 wr => ∃ j : Nat, v11 = .int .i64 (j : Int) ∧ Hid (j ≤ 5 ∧ gm = 6 - j) ∧ Hid (∀ i, i < j → x ≠ (((⟨#[34, 92, 110, 116, 114]⟩ : ByteArray).get! i).toNat : Int)) ∧ wr = w1)
    case atStart => exact ⟨0, rfl, ⟨by omega, rfl⟩, (fun i hi => by omega), rfl⟩
    case round =>
      obtain ⟨j, rfl, HJ, HA, rfl⟩ := hrel
      by_cases hj : j < 5
      · have d1 : decide ((j : Int) < 5) = true := by rw [decide_eq_true_eq]; omega
        have d2 : decide (j < 5) = true := by rw [decide_eq_true_eq]; omega
        have hi1 := idx_fact ⟨#[34, 92, 110, 116, 114]⟩ j hj
        have hi2 := idx_fact ⟨#[34, 92, 10, 9, 13]⟩ j hj
        have HES : Hid (emv (((⟨#[34, 92, 110, 116, 114]⟩ : ByteArray).get! j).toNat : Int) = (((⟨#[34, 92, 10, 9, 13]⟩ : ByteArray).get! j).toNat : Int)) := em_some ⟨j, hj⟩
        have HJL : Hid (j < 5) := hj
        obtain ⟨y, hy⟩ : ∃ y, ((⟨#[34, 92, 110, 116, 114]⟩ : ByteArray).get! j) = y := ⟨_, rfl⟩
        obtain ⟨z, hz⟩ : ∃ z, ((⟨#[34, 92, 10, 9, 13]⟩ : ByteArray).get! j) = z := ⟨_, rfl⟩
        rw [hy] at hi1 HES
        rw [hz] at hi2 HES
        have HY : Hid (((⟨#[34, 92, 110, 116, 114]⟩ : ByteArray).get! j) = y) := hy
        have hy2 := UInt8.toNat_lt y
        have hz2 := UInt8.toNat_lt z
        clear hj hy hz
        by_cases hxy : x = (y.toNat : Int)
        · have d3 : (x == (y.toNat : Int)) = true := by rw [beq_iff_eq]; exact hxy
          have HXY : Hid (x = (y.toNat : Int)) := hxy
          clear hxy
          go_wp2_with fail
          go_ret
          rw [HT2.out, HXY.out, HES.out]
          exact ⟨rfl, H1.out, B1.out⟩
        · have d3 : (x == (y.toNat : Int)) = false := by rw [beq_eq_false_iff_ne]; exact hxy
          have HXY : Hid (x ≠ (y.toNat : Int)) := hxy
          have hwj := w64n j (by have := HJL.out; omega)
          clear hxy
          go_wp2_with fail
          go_roundg (6 - (j + 1))
          case measure => have := HJ.out; have := HJL.out; omega
          case rel =>
            refine ⟨j + 1, by simp, ⟨HJL.out, rfl⟩, ?_, rfl⟩
            intro i hi
            rcases Nat.lt_or_ge i j with h | h
            · exact HA.out i h
            · obtain rfl : i = j := by omega
              rw [HY.out]; exact HXY.out
      · have d1 : decide ((j : Int) < 5) = false := by rw [decide_eq_false_iff_not]; omega
        have d2 : decide (j < 5) = false := by rw [decide_eq_false_iff_not]; omega
        have HM : Hid (emv x = -1) := em_none (fun i hi => HA.out i (by have := HJ.out; omega))
        clear hj
        go_wp2_with fail
        go_ret
        rw [HT2.out, HM.out]
        exact ⟨rfl, H1.out, B1.out⟩
end Go.Proofs.Ythfijmabagjdkaa
