import Derived.Test.YtkjcnnecdclgfaaDoorEq
import Derived.Test.YtkjcnnecdclgfaaDoorWcl
namespace Go.Proofs.YtkjcnnecdclgfaaDoor
open Go.RowKit
theorem cnt_pos (m : Nat → Bool) (h : cnt m 256 = 1) : sk m true 0 < 256 := by
  rcases Nat.lt_or_ge (sk m true 0) 256 with h' | h'
  · exact h'
  · exfalso
    have h0 : ∀ k, k ≤ 256 → cnt m k = 0 := by
      intro k
      induction k with
      | zero => intro _; rfl
      | succ k ih =>
        intro hk
        have := (sk_ok m true 0).no k (by omega) (by omega)
        unfold cnt
        rw [ih (by omega)]
        cases hm : m k
        · rfl
        · exact absurd hm this
    have := h0 256 (by omega)
    omega
set_option maxRecDepth 100000 in
set_option maxHeartbeats 2000000 in
theorem wclass_any (B b : Nat) (rv : Value) (l : List UInt8) (m : Nat → Bool) (w : World) (h : IsW B b rv l w) (hl : l.length ≤ 70000000) (hB : B ≤ w.heap.size) :
    Calls Tryd.prog 39 #[.pointer (some ⟨b, 0, none⟩), CV m] w fun e w' => e = .returned (.tuple #[]) ∧ IsW B b rv (l ++ cst m) w' ∧ Fr B b w w' ∧ B ≤ w'.heap.size := by
  have HL : Hid _ := hl
  have HBL : Hid _ := h.lt
  have A : Hid _ := AtC.new w m
  have W1 : Hid (IsW B b rv l (w.alloc (.cells #[.int .u64 (wd m 0 : Nat), .int .u64 (wd m 1 : Nat), .int .u64 (wd m 2 : Nat), .int .u64 (wd m 3 : Nat)] 32))) := h.mono (bel_up _ _)
  have F1 : Hid (Fr B b w (w.alloc (.cells #[.int .u64 (wd m 0 : Nat), .int .u64 (wd m 1 : Nat), .int .u64 (wd m 2 : Nat), .int .u64 (wd m 3 : Nat)] 32))) := Fr.of (bel_up _ _) hB
  have S1 : Hid (B ≤ (w.alloc (.cells #[.int .u64 (wd m 0 : Nat), .int .u64 (wd m 1 : Nat), .int .u64 (wd m 2 : Nat), .int .u64 (wd m 3 : Nat)] 32)).heap.size) := Nat.le_trans hB (by simp)
  clear h hl hB
  obtain ⟨a0, a1, a2, a3, af⟩ := A.out.box
  go_enter Tryd.func39, Tryd.ntmps39
  go_wp2_with fail
  refine (count_any m _).mono ?_
  rintro e w1 ⟨rfl, hb1⟩
  have X : Hid _ := A.out.mono hb1
  have V : Hid _ := W1.out.mono hb1
  have R : Hid _ := F1.out.trans (Fr.of hb1 S1.out)
  have S : Hid _ := Nat.le_trans S1.out hb1.size
  clear hb1 a0 a1 a2 a3 af A W1 F1 S1
  obtain ⟨n, hn⟩ : ∃ n, n = cnt m 256 := ⟨_, rfl⟩
  rw [← hn]
  have HN : Hid _ := hn
  have hle : n ≤ 256 := by rw [hn]; exact cnt_le m 256
  have HLE : Hid _ := hle
  clear hn hle
  by_cases h1 : n = 1
  · have e1 : ((n : Int) == 1) = true := by rw [beq_iff_eq]; omega
    have hc : cst m = spl (sk m true 0) sgn := by unfold cst; rw [if_pos (by rw [← HN.out]; exact h1)]
    have HC : Hid _ := hc
    have hsk : sk m true 0 < 256 := cnt_pos m (by rw [← HN.out]; exact h1)
    have HSK : Hid _ := hsk
    clear hc hsk h1
    obtain ⟨a0, a1, a2, a3, af⟩ := X.out.box
    go_wp2_with fail
    refine (seek_any m true 0 (by omega) _).mono ?_
    rintro e w2 ⟨rfl, hb2⟩
    have V2 : Hid _ := V.out.mono hb2
    have R2 : Hid _ := R.out.trans (Fr.of hb2 S.out)
    have S2 : Hid _ := Nat.le_trans S.out hb2.size
    clear hb2 a0 a1 a2 a3 af
    go_wp2_with fail
    refine (single_any B b rv l (sk m true 0) HSK.out [92, 47, 124, 42, 43, 63, 40, 41, 91, 93, 46] _ V2.out (by have := HL.out; omega) S2.out).mono ?_
    rintro e w3 ⟨rfl, h1, h2, h3⟩
    have V3 : Hid (IsW B b rv (l ++ spl (sk m true 0) [92, 47, 124, 42, 43, 63, 40, 41, 91, 93, 46]) w3) := h1
    have R3 : Hid _ := R2.out.trans h2
    have S3 : Hid _ := h3
    clear h1 h2 h3
    go_wp2_with fail
    go_end0
    exact ⟨rfl, by rw [HC.out]; exact V3.out, R3.out, S3.out⟩
  · have e1 : ((n : Int) == 1) = false := by rw [beq_eq_false_iff_ne]; omega
    have H1 : Hid _ := h1
    clear h1
    go_wp2_with fail
    refine wp_region_noPanic ?_
    refine wp_region_held_drew (S := fun W => BoxC W w.heap.size m) (by kernel_rfl) X.out.box.drew (fun hHeld => ?_)
    refine wpAnyH_take (i := 0) (oi := { dst := _, op := _, type := _, pos := _, after := _, guard := _ }) (v := ?_) rfl (by kernel_rfl) (by kernel_rfl) (by kernel_rfl) (fun _ _ _ h => h) (Or.inl ⟨by rfl, ?_⟩) (by assumption) ?_
    rotate_left
    · intro W hSw
      (try dsimp only at hSw)
      obtain ⟨a0, a1, a2, a3, af⟩ := hSw
      go_simp
      (try with_reducible rfl)
    try simp only [Act.put, List.setIfInBounds_toArray, List.set_cons_zero, List.set_cons_succ]
    refine wpAnyH_ready (rs := [1]) (by kernel_rfl) (by simp) ?_
    refine AllReadyH.cons (o := { dst := _, op := _, type := _, pos := _, after := _, guard := _ }) rfl (fun K hK => ?_) AllReadyH.nil
    go_simp
    refine (dot_any _).mono ?_
    rintro e w2 ⟨rfl, hb2⟩
    go_wp2_with fail
    refine hK.out _ _ ?_ (fun hHeld => ?_)
    · (try dsimp only)
      exact X.out.box.drew.mono hb2
    clear hK K
    try simp only [Act.put, List.setIfInBounds_toArray, List.set_cons_zero, List.set_cons_succ]
    have hq := fun W : World => cv_eql m (fun b => !(b == 10)) W
    obtain ⟨d, hd⟩ : ∃ d, d = decide (wd m 0 = wd (fun b => !(b == 10)) 0 ∧ wd m 1 = wd (fun b => !(b == 10)) 1 ∧ wd m 2 = wd (fun b => !(b == 10)) 2 ∧ wd m 3 = wd (fun b => !(b == 10)) 3) := ⟨_, rfl⟩
    rw [← hd] at hq
    have HD : Hid _ := hd
    clear hd
    refine wpAnyH_take (i := 2) (oi := { dst := _, op := _, type := _, pos := _, after := _, guard := _ }) (v := ?_) rfl (by kernel_rfl) (by kernel_rfl) (by kernel_rfl) (fun _ _ _ h => h) (Or.inl ⟨by rfl, ?_⟩) (by assumption) ?_
    rotate_left
    · intro W hSw
      (try dsimp only at hSw)
      go_simp
      (try with_reducible rfl)
    try simp only [Act.put, List.setIfInBounds_toArray, List.set_cons_zero, List.set_cons_succ]
    refine wpAnyH_take (i := 3) (oi := { dst := _, op := _, type := _, pos := _, after := _, guard := _ }) (v := ?_) rfl (by kernel_rfl) (by kernel_rfl) (by kernel_rfl) (fun _ _ _ h => h) (Or.inl ⟨by rfl, ?_⟩) (by assumption) ?_
    rotate_left
    · intro W hSw
      (try dsimp only at hSw)
      go_simp
      (try with_reducible rfl)
    try simp only [Act.put, List.setIfInBounds_toArray, List.set_cons_zero, List.set_cons_succ]
    refine wpAnyH_done (by kernel_rfl) ?_ _
    refine NoPanic.normal ?_
    have X2 : Hid (AtC w2 w.heap.size m) := (⟨X.out.h⟩ : AtC w1.drew w.heap.size m).mono hb2
    have V2 : Hid _ := V.out.drew.mono hb2
    have R2 : Hid _ := (R.out.trans Fr.dr).trans (Fr.of hb2 S.out)
    have S2 : Hid _ := Nat.le_trans S.out hb2.size
    clear hb2 X V R S
    by_cases hdot : cnt m 256 = 255 ∧ m 10 = false
    · have hd1 : d = true := by
        rw [HD.out, decide_eq_true_eq]
        have := (dot_iff m).1 hdot
        exact ⟨this 0 (by omega), this 1 (by omega), this 2 (by omega), this 3 (by omega)⟩
      have hc : cst m = [46] := by unfold cst; rw [if_neg (by rw [← HN.out]; exact H1.out), if_pos hdot]
      have HC : Hid _ := hc
      clear hc hdot
      rw [hd1]
      clear hd1
      go_wp2_with fail
      refine (wB B b rv l 46 _ V2.out (by have := HL.out; omega) S2.out).mono ?_
      rintro e w3 ⟨rfl, h1, h2, h3⟩
      have V3 : Hid (IsW B b rv (l ++ [46]) w3) := h1
      have R3 : Hid _ := R2.out.trans h2
      have S3 : Hid _ := h3
      clear h1 h2 h3
      go_wp2_with fail
      go_end0
      exact ⟨rfl, by rw [HC.out]; exact V3.out, R3.out, S3.out⟩
    · have hd1 : d = false := by
        rw [HD.out, decide_eq_false_iff_not]
        rintro ⟨a0, a1, a2, a3⟩
        refine hdot ((dot_iff m).2 (fun i hi => ?_))
        rcases (by omega : i = 0 ∨ i = 1 ∨ i = 2 ∨ i = 3) with rfl | rfl | rfl | rfl
        · exact a0
        · exact a1
        · exact a2
        · exact a3
      rw [hd1]
      have HDOT : Hid _ := hdot
      clear hd1 hdot
      by_cases hmid : 128 < n ∧ n < 256
      · have hc : cst m = [91, 94] ++ RN (fun b => !m b) 0 ++ [93] := by
          unfold cst
          have h1 := HN.out
          rw [if_neg (by rw [← HN.out]; exact H1.out), if_neg HDOT.out, if_pos (by omega)]
        have HC : Hid _ := hc
        have e3 : decide ((128 : Int) < (n : Int)) = true := by rw [decide_eq_true_eq]; omega
        have e4 : decide ((n : Int) < 256) = true := by rw [decide_eq_true_eq]; omega
        clear hc hmid
        go_wp2_with fail
        refine (wS B b rv l [91, 94] _ V2.out (by have := HL.out; omega) (by decide) S2.out).mono ?_
        rintro e w3 ⟨⟨v, rfl⟩, h1, h2, h3⟩
        have V3 : Hid (IsW B b rv (l ++ [91, 94]) w3) := h1
        have X3 : Hid _ := X2.out.fr h2 (by have := HBL.out; omega)
        have R3 : Hid _ := R2.out.trans h2
        have S3 : Hid _ := h3
        clear h1 h2 h3
        obtain ⟨a0, a1, a2, a3, af⟩ := X3.out.box
        go_wp2_with fail
        refine (rest_any m _).mono ?_
        rintro e w4 ⟨rfl, hb4⟩
        have V4 : Hid _ := V3.out.mono hb4
        have R4 : Hid _ := R3.out.trans (Fr.of hb4 S3.out)
        have S4 : Hid _ := Nat.le_trans S3.out hb4.size
        clear hb4 a0 a1 a2 a3 af
        go_wp2_with fail
        refine (wruns_any B b rv (l ++ [91, 94]) _ _ V4.out (by simp only [List.length_append, List.length_cons, List.length_nil]; have := HL.out; omega) S4.out).mono ?_
        rintro e w5 ⟨rfl, h1, h2, h3⟩
        have V5 : Hid (IsW B b rv (l ++ [91, 94] ++ RN (fun b => !m b) 0) w5) := h1
        have R5 : Hid _ := R4.out.trans h2
        have S5 : Hid _ := h3
        clear h1 h2 h3
        go_wp2_with fail
        refine (wB B b rv (l ++ [91, 94] ++ RN (fun b => !m b) 0) 93 _ V5.out (by simp only [List.length_append, List.length_cons, List.length_nil]; have := HL.out; have := RN_len (fun b => !m b) 0; omega) S5.out).mono ?_
        rintro e w6 ⟨rfl, h1, h2, h3⟩
        have V6 : Hid (IsW B b rv (l ++ [91, 94] ++ RN (fun b => !m b) 0 ++ [93]) w6) := h1
        have R6 : Hid _ := R5.out.trans h2
        have S6 : Hid _ := h3
        clear h1 h2 h3
        go_wp2_with fail
        go_end0
        refine ⟨rfl, ?_, R6.out, S6.out⟩
        have := V6.out
        rw [HC.out]
        simp only [List.append_assoc] at this ⊢
        exact this
      · have hc : cst m = [91] ++ RN m 0 ++ [93] := by
          unfold cst
          have h1 := HN.out
          rw [if_neg (by rw [← HN.out]; exact H1.out), if_neg HDOT.out, if_neg (by omega)]
        have HC : Hid _ := hc
        clear hc
        have e34 : (decide ((128 : Int) < (n : Int)) = true ∧ decide ((n : Int) < 256) = false) ∨ decide ((128 : Int) < (n : Int)) = false := by
          by_cases h128 : 128 < n
          · left
            refine ⟨by rw [decide_eq_true_eq]; omega, by rw [decide_eq_false_iff_not]; have := HLE.out; omega⟩
          · right
            rw [decide_eq_false_iff_not]; omega
        clear hmid
        rcases e34 with ⟨e3, e4⟩ | e3
        · go_wp2_with fail
          refine (wB B b rv l 91 _ V2.out (by have := HL.out; omega) S2.out).mono ?_
          rintro e w3 ⟨rfl, h1, h2, h3⟩
          have V3 : Hid (IsW B b rv (l ++ [91]) w3) := h1
          have X3 : Hid _ := X2.out.fr h2 (by have := HBL.out; omega)
          have R3 : Hid _ := R2.out.trans h2
          have S3 : Hid _ := h3
          clear h1 h2 h3
          obtain ⟨a0, a1, a2, a3, af⟩ := X3.out.box
          go_wp2_with fail
          refine (wruns_any B b rv (l ++ [91]) m _ V3.out (by simp only [List.length_append, List.length_cons, List.length_nil]; have := HL.out; omega) S3.out).mono ?_
          rintro e w5 ⟨rfl, h1, h2, h3⟩
          have V5 : Hid (IsW B b rv (l ++ [91] ++ RN m 0) w5) := h1
          have R5 : Hid _ := R3.out.trans h2
          have S5 : Hid _ := h3
          clear h1 h2 h3 a0 a1 a2 a3 af
          go_wp2_with fail
          refine (wB B b rv (l ++ [91] ++ RN m 0) 93 _ V5.out (by simp only [List.length_append, List.length_cons, List.length_nil]; have := HL.out; have := RN_len m 0; omega) S5.out).mono ?_
          rintro e w6 ⟨rfl, h1, h2, h3⟩
          have V6 : Hid (IsW B b rv (l ++ [91] ++ RN m 0 ++ [93]) w6) := h1
          have R6 : Hid _ := R5.out.trans h2
          have S6 : Hid _ := h3
          clear h1 h2 h3
          go_wp2_with fail
          go_end0
          refine ⟨rfl, ?_, R6.out, S6.out⟩
          have := V6.out
          rw [HC.out]
          simp only [List.append_assoc] at this ⊢
          exact this
        · go_wp2_with fail
          refine (wB B b rv l 91 _ V2.out (by have := HL.out; omega) S2.out).mono ?_
          rintro e w3 ⟨rfl, h1, h2, h3⟩
          have V3 : Hid (IsW B b rv (l ++ [91]) w3) := h1
          have X3 : Hid _ := X2.out.fr h2 (by have := HBL.out; omega)
          have R3 : Hid _ := R2.out.trans h2
          have S3 : Hid _ := h3
          clear h1 h2 h3
          obtain ⟨a0, a1, a2, a3, af⟩ := X3.out.box
          go_wp2_with fail
          refine (wruns_any B b rv (l ++ [91]) m _ V3.out (by simp only [List.length_append, List.length_cons, List.length_nil]; have := HL.out; omega) S3.out).mono ?_
          rintro e w5 ⟨rfl, h1, h2, h3⟩
          have V5 : Hid (IsW B b rv (l ++ [91] ++ RN m 0) w5) := h1
          have R5 : Hid _ := R3.out.trans h2
          have S5 : Hid _ := h3
          clear h1 h2 h3 a0 a1 a2 a3 af
          go_wp2_with fail
          refine (wB B b rv (l ++ [91] ++ RN m 0) 93 _ V5.out (by simp only [List.length_append, List.length_cons, List.length_nil]; have := HL.out; have := RN_len m 0; omega) S5.out).mono ?_
          rintro e w6 ⟨rfl, h1, h2, h3⟩
          have V6 : Hid (IsW B b rv (l ++ [91] ++ RN m 0 ++ [93]) w6) := h1
          have R6 : Hid _ := R5.out.trans h2
          have S6 : Hid _ := h3
          clear h1 h2 h3
          go_wp2_with fail
          go_end0
          refine ⟨rfl, ?_, R6.out, S6.out⟩
          have := V6.out
          rw [HC.out]
          simp only [List.append_assoc] at this ⊢
          exact this
end Go.Proofs.YtkjcnnecdclgfaaDoor
