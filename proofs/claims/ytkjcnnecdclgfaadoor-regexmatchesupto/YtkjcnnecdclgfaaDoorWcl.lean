import Derived.Test.YtkjcnnecdclgfaaDoorWri
namespace Go.Proofs.YtkjcnnecdclgfaaDoor
open Go.RowKit
/-- A class in a block, with the block's kind. -/
structure AtC (W : World) (k : Nat) (m : Nat → Bool) : Prop where
  h : W.heap[k]? = some (.cells #[.int .u64 (wd m 0 : Nat), .int .u64 (wd m 1 : Nat), .int .u64 (wd m 2 : Nat), .int .u64 (wd m 3 : Nat)] 32 (0, 0))
theorem AtC.box {W : World} {k : Nat} {m : Nat → Bool} (h : AtC W k m) : BoxC W k m :=
  ⟨by rw [Lib.cell_of_heap h.h]; rfl, by rw [Lib.cell_of_heap h.h]; rfl, by rw [Lib.cell_of_heap h.h]; rfl, by rw [Lib.cell_of_heap h.h]; rfl, fun o => Lib.frozen_of_heap h.h o⟩
theorem AtC.new (w : World) (m : Nat → Bool) : AtC (w.alloc (.cells #[.int .u64 (wd m 0 : Nat), .int .u64 (wd m 1 : Nat), .int .u64 (wd m 2 : Nat), .int .u64 (wd m 3 : Nat)] 32)) w.heap.size m := by
  refine ⟨?_⟩
  unfold World.alloc
  simp
theorem AtC.mono {W W' : World} {k : Nat} {m : Nat → Bool} (h : AtC W k m) (hb : Below W.heap.size W W') : AtC W' k m := ⟨below_heap hb h.h (lt_of_heap h.h)⟩
theorem AtC.fr {B b : Nat} {W W' : World} {k : Nat} {m : Nat → Bool} (h : AtC W k m) (hf : Fr B b W W') (hk : k ≠ b) : AtC W' k m := ⟨hf.kept k _ _ _ h.h hk (by decide)⟩
theorem own_mono {B : Nat} {e : TypeId} {sz : Nat} {v : Value} {n : Nat} {xs : List Value} {w w' : World} (h : w.ownsRow B e sz v n xs) (hb : Below w.heap.size w w') : w'.ownsRow B e sz v n xs := by
  refine ⟨h.1, ?_⟩
  rcases h.2 with h2 | ⟨g, cap, cur, h1, h2, h3, h4⟩
  · exact .inl h2
  · exact .inr ⟨g, cap, cur, h1, h2, below_heap hb h3 (lt_of_heap h3), h4⟩
theorem IsWr.mono {B b : Nat} {rv : Value} {bs : List Value} {w w' : World} (h : IsWr B b rv bs w) (hb : Below w.heap.size w w') : IsWr B b rv bs w' := by
  have key : ∀ p, WrAt B b rv p bs w → WrAt B b rv p bs w' := by
    rintro p ⟨hB, v, hbk, hown, hne⟩
    refine ⟨hB, v, below_heap hb hbk (lt_of_heap hbk), ?_, hne⟩
    exact own_mono hown hb
  rcases h with h | h
  · exact .inl (key _ h)
  · exact .inr (key _ h)
theorem IsWr.lt {B b : Nat} {rv : Value} {bs : List Value} {w : World} (h : IsWr B b rv bs w) : b < w.heap.size ∧ B ≤ b := by
  rcases h with ⟨h1, v, h2, _⟩ | ⟨h1, v, h2, _⟩
  · exact ⟨lt_of_heap h2, h1⟩
  · exact ⟨lt_of_heap h2, h1⟩
theorem IsW.mono {B b : Nat} {rv : Value} {l : List UInt8} {w w' : World} (h : IsW B b rv l w) (hb : Below w.heap.size w w') : IsW B b rv l w' := ⟨h.h.mono hb⟩
theorem IsW.lt {B b : Nat} {rv : Value} {l : List UInt8} {w : World} (h : IsW B b rv l w) : b < w.heap.size ∧ B ≤ b := h.h.lt
set_option maxRecDepth 100000 in
set_option maxHeartbeats 2000000 in
theorem wruns_any (B b : Nat) (rv : Value) (l : List UInt8) (m : Nat → Bool) (w : World) (h : IsW B b rv l w) (hl : l.length ≤ 80000000) (hB : B ≤ w.heap.size) :
    Calls Tryd.prog 60 #[.pointer (some ⟨b, 0, none⟩), CV m] w fun e w' => e = .returned (.tuple #[]) ∧ IsW B b rv (l ++ RN m 0) w' ∧ Fr B b w w' ∧ B ≤ w'.heap.size := by
  have HW : Hid _ := h
  have HL : Hid _ := hl
  have HB : Hid _ := hB
  have HBL : Hid _ := h.lt
  clear h hl hB
  have A : Hid _ := AtC.new w m
  have W1 : Hid (IsW B b rv l (w.alloc (.cells #[.int .u64 (wd m 0 : Nat), .int .u64 (wd m 1 : Nat), .int .u64 (wd m 2 : Nat), .int .u64 (wd m 3 : Nat)] 32))) := HW.out.mono (bel_up _ _)
  have F1 : Hid (Fr B b w (w.alloc (.cells #[.int .u64 (wd m 0 : Nat), .int .u64 (wd m 1 : Nat), .int .u64 (wd m 2 : Nat), .int .u64 (wd m 3 : Nat)] 32))) := Fr.of (bel_up _ _) HB.out
  obtain ⟨a0, a1, a2, a3, af⟩ := A.out.box
  go_enter Tryd.func60, Tryd.ntmps60
  go_wp2_with fail
  refine (seek_any m true 0 (by omega) _).mono ?_
  rintro e w1 ⟨rfl, hb1⟩
  have A1 : Hid _ := A.out.mono hb1
  have W2 : Hid _ := W1.out.mono hb1
  have F2 : Hid _ := F1.out.trans (Fr.of hb1 (Nat.le_trans HB.out (by simp)))
  clear hb1 a0 a1 a2 a3 af A W1 F1
  go_wp2_with fail
  go_loopg [4] 256 (fun g v wr => ∃ (k f : Nat) (o : List UInt8), v = .int .i64 (f : Int) ∧ f = sk m true k ∧ k ≤ 256 ∧ g = 256 - k ∧ o ++ RN m k = RN m 0 ∧ AtC wr w.heap.size m ∧ IsW B b rv (l ++ o) wr ∧ Fr B b w wr ∧ B ≤ wr.heap.size)
  case atStart => exact ⟨0, sk m true 0, [], rfl, rfl, by omega, rfl, rfl, A1.out, by rw [List.append_nil]; exact W2.out, F2.out, Nat.le_trans HB.out F2.out.bel.size⟩
  case round =>
    clear A1 W2 F2
    obtain ⟨k, f, o, rfl, hf, hk, hg, ho, hx, hw, hfr, hBw⟩ := hrel
    have HF : Hid _ := hf
    have HK : Hid _ := hk
    have HG : Hid _ := hg
    have HO : Hid _ := ho
    have HX : Hid _ := hx
    have HWr : Hid (IsW B b rv (l ++ o) wr) := hw
    have HFr : Hid _ := hfr
    have HBw : Hid _ := hBw
    have HZ : Hid (o.length ≤ 2304) := by
      have h1 := congrArg List.length ho
      have h2 := RN_len m 0
      simp only [List.length_append] at h1
      exact (by omega : o.length ≤ 2304)
    clear hf hk hg ho hx hw hfr hBw
    by_cases h256 : f < 256
    · have hI : decide ((f : Int) < 256) = true := by rw [decide_eq_true_eq]; omega
      have H256 : Hid _ := h256
      have hm : m f = true := by rw [HF.out]; exact sk_in m k (by rw [← HF.out]; exact H256.out)
      have HM : Hid _ := hm
      have hgt : f < sk m false f := sk_more m f h256 hm
      have HGT : Hid _ := hgt
      have hle : sk m false f ≤ 256 := sk_le m false f (by omega)
      have HLE : Hid _ := hle
      have hkf : k ≤ f := by rw [HF.out]; exact sk_ge m true k
      have HKF : Hid _ := hkf
      clear h256 hm hgt hle hkf
      obtain ⟨a0, a1, a2, a3, af⟩ := HX.out.box
      go_wp2_with fail
      refine (seek_any m false f (by have := H256.out; omega) _).mono ?_
      rintro e w2 ⟨rfl, hb2⟩
      have X2 : Hid _ := HX.out.mono hb2
      have V2 : Hid (IsW B b rv (l ++ o) w2) := HWr.out.mono hb2
      have R2 : Hid _ := HFr.out.trans (Fr.of hb2 HBw.out)
      have S2 : Hid _ := Nat.le_trans HBw.out hb2.size
      clear hb2 a0 a1 a2 a3 af
      obtain ⟨t, ht⟩ : ∃ t, t = sk m false f := ⟨_, rfl⟩
      rw [← ht]
      have HT : Hid _ := ht
      clear ht
      go_wp2_with fail
      refine (single_any B b rv (l ++ o) f H256.out [92, 47, 91, 93, 45, 94] _ V2.out (by simp only [List.length_append]; have := HL.out; have := HZ.out; omega) S2.out).mono ?_
      rintro e w3 ⟨rfl, h1, h2, h3⟩
      have V3 : Hid (IsW B b rv (l ++ o ++ spl f [92, 47, 91, 93, 45, 94]) w3) := h1
      have X3 : Hid _ := X2.out.fr h2 (by have := HBL.out; omega)
      have R3 : Hid _ := R2.out.trans h2
      have S3 : Hid _ := h3
      clear h1 h2 h3
      have hs4 := spl_len f [92, 47, 91, 93, 45, 94]
      have HS4 : Hid _ := hs4
      clear hs4
      have hw1 : wrap64 ((t : Int) - 1) = ((t - 1 : Nat) : Int) := by
        have h1 := HT.out; have h2 := HGT.out; have h3 := HLE.out
        rw [← h1] at h2 h3
        unfold wrap64
        omega
      have hd1 : f < t := by rw [HT.out]; exact HGT.out
      by_cases hmore : f < t - 1
      · have hI2 : f < t - 1 := hmore
        have HMO : Hid _ := hmore
        have HD1 : Hid _ := hd1
        clear hmore hd1
        obtain ⟨u, hu⟩ : ∃ u, u = t - 1 := ⟨_, rfl⟩
        rw [← hu] at hw1 hI2
        have HU : Hid _ := hu
        clear hu
        go_wp2_with fail
        refine (wB B b rv (l ++ o ++ spl f [92, 47, 91, 93, 45, 94]) 45 _ V3.out (by simp only [List.length_append]; have := HL.out; have := HZ.out; have := HS4.out; omega) S3.out).mono ?_
        rintro e w4 ⟨rfl, h1, h2, h3⟩
        have V4 : Hid (IsW B b rv (l ++ o ++ spl f [92, 47, 91, 93, 45, 94] ++ [45]) w4) := h1
        have X4 : Hid _ := X3.out.fr h2 (by have := HBL.out; omega)
        have R4 : Hid _ := R3.out.trans h2
        have S4 : Hid _ := h3
        clear h1 h2 h3
        go_wp2_with fail
        refine (single_any B b rv (l ++ o ++ spl f [92, 47, 91, 93, 45, 94] ++ [45]) u (by have h1 := HT.out; have h3 := HLE.out; have h4 := HU.out; have h5 := HD1.out; omega) [92, 47, 91, 93, 45, 94] _ V4.out (by simp only [List.length_append, List.length_cons, List.length_nil]; have := HL.out; have := HZ.out; have := HS4.out; omega) S4.out).mono ?_
        rintro e w5 ⟨rfl, h1, h2, h3⟩
        have V5 : Hid (IsW B b rv (l ++ o ++ spl f [92, 47, 91, 93, 45, 94] ++ [45] ++ spl u [92, 47, 91, 93, 45, 94]) w5) := h1
        have X5 : Hid _ := X4.out.fr h2 (by have := HBL.out; omega)
        have R5 : Hid _ := R4.out.trans h2
        have S5 : Hid _ := h3
        clear h1 h2 h3
        obtain ⟨a0, a1, a2, a3, af⟩ := X5.out.box
        go_wp2_with fail
        refine (seek_any m true t (by rw [HT.out]; exact HLE.out) _).mono ?_
        rintro e w6 ⟨rfl, hb6⟩
        have X6 : Hid _ := X5.out.mono hb6
        have V6 : Hid _ := V5.out.mono hb6
        have R6 : Hid _ := R5.out.trans (Fr.of hb6 S5.out)
        have S6 : Hid _ := Nat.le_trans S5.out hb6.size
        clear hb6 a0 a1 a2 a3 af
        go_wp2_with fail
        go_roundg (256 - t)
        case measure => have := HG.out; have := HD1.out; have := HKF.out; have := H256.out; omega
        case rel =>
          refine ⟨t, sk m true t, o ++ spl f [92, 47, 91, 93, 45, 94] ++ [45] ++ spl u [92, 47, 91, 93, 45, 94], rfl, rfl, by rw [HT.out]; exact HLE.out, rfl, ?_, X6.out, ?_, R6.out, S6.out⟩
          · have h1 := HF.out
            have h2 := H256.out
            rw [h1] at h2
            rw [← HO.out, RN_step m k h2, ← h1, ← HT.out, if_pos (by have := HMO.out; omega), HU.out]
            simp [wth]
          · have := V6.out
            simp only [List.append_assoc] at this ⊢
            exact this
      · have hI2 : ¬ f < t - 1 := hmore
        have HMO : Hid _ := hmore
        have HD1 : Hid _ := hd1
        clear hmore hd1
        obtain ⟨u, hu⟩ : ∃ u, u = t - 1 := ⟨_, rfl⟩
        rw [← hu] at hw1 hI2
        obtain ⟨a0, a1, a2, a3, af⟩ := X3.out.box
        clear hu
        go_wp2_with fail
        refine (seek_any m true t (by rw [HT.out]; exact HLE.out) _).mono ?_
        rintro e w6 ⟨rfl, hb6⟩
        have X6 : Hid _ := X3.out.mono hb6
        have V6 : Hid _ := V3.out.mono hb6
        have R6 : Hid _ := R3.out.trans (Fr.of hb6 S3.out)
        have S6 : Hid _ := Nat.le_trans S3.out hb6.size
        clear hb6 a0 a1 a2 a3 af
        go_wp2_with fail
        go_roundg (256 - t)
        case measure => have := HG.out; have := HD1.out; have := HKF.out; have := H256.out; omega
        case rel =>
          refine ⟨t, sk m true t, o ++ spl f [92, 47, 91, 93, 45, 94], rfl, rfl, by rw [HT.out]; exact HLE.out, rfl, ?_, X6.out, ?_, R6.out, S6.out⟩
          · have h1 := HF.out
            have h2 := H256.out
            rw [h1] at h2
            rw [← HO.out, RN_step m k h2, ← h1, ← HT.out, if_neg (by have h : ¬ f < t - 1 := HMO.out; omega)]
            simp [wth]
          · have := V6.out
            simp only [List.append_assoc] at this ⊢
            exact this
    · have hI : decide ((f : Int) < 256) = false := by rw [decide_eq_false_iff_not]; omega
      have H256 : Hid _ := h256
      clear h256
      go_wp2_with fail
      (try simp only [Exit.inBlock, Exit.then])
      go_end0
      refine ⟨rfl, ?_, HFr.out, HBw.out⟩
      have e : RN m k = [] := RN_end m k (by rw [← HF.out]; exact H256.out)
      have := HO.out
      rw [e, List.append_nil] at this
      rw [← this]
      exact HWr.out
end Go.Proofs.YtkjcnnecdclgfaaDoor
