import Derived.Test.YtnhmdbmcamfbiaaRope
namespace Go.Proofs.Ytnhmdbmcamfbiaa
open Go.RowKit

/-- the bytes from f up to k -/
def seg (t : List UInt8) (f k : Nat) : List UInt8 := (t.drop f).take (k - f)
theorem seg_left (l r : List UInt8) (f k : Nat) (h : k ≤ l.length) : seg (l ++ r) f k = seg l f k := by
  unfold seg
  by_cases hf : f ≤ l.length
  · rw [List.drop_append_of_le_length hf, List.take_append_of_le_length (by rw [List.length_drop]; omega)]
  · rw [show k - f = 0 by omega]; simp
theorem seg_right (l r : List UInt8) (f k n : Nat) (hn : l.length = n) (h : n ≤ f) : seg (l ++ r) f k = seg r (f - n) (k - n) := by
  unfold seg
  rw [drop_over l r n f hn h, show k - n - (f - n) = k - f by omega]
theorem seg_both (l r : List UInt8) (f k n : Nat) (hn : l.length = n) (h : f ≤ n) (h' : n ≤ k) : seg (l ++ r) f k = seg l f n ++ seg r 0 (k - n) := by
  unfold seg
  subst hn
  rw [List.drop_append_of_le_length h, List.take_append, List.length_drop, List.drop_zero, List.take_of_length_le (l := List.drop f l) (by rw [List.length_drop]; omega), List.take_of_length_le (l := List.drop f l) (by rw [List.length_drop]; omega)]
  congr 2
  omega
theorem seg_len (t : List UInt8) (f k : Nat) : (seg t f k).length ≤ k - f := by
  unfold seg; rw [List.length_take]; omega
theorem seg_empty (t : List UInt8) (f : Nat) : seg t f f = [] := by unfold seg; simp

/-- what write does -/
structure Wrote (w0 w' : World) (b : Nat) (bs : List UInt8) : Prop where
  at_ : Lib.IsBuilder 80 5 w0.heap.size b (Lib.byteCells bs) w'
  below : Below w0.heap.size w0 w'
theorem bytes_app (a b : List UInt8) : Lib.byteCells (a ++ b) = Lib.byteCells a ++ Lib.byteCells b := by simp [Lib.byteCells]

set_option maxRecDepth 100000 in
set_option maxHeartbeats 1000000 in
theorem write_leaf (w0 W : World) (s : ByteArray) (b : Nat) (bs : List UInt8) (f k : Int) (hW : Wrote w0 W b bs) (h0 : 0 ≤ f) (h1 : f ≤ k) (h2 : k ≤ s.size) (hl : bs.length ≤ 4194304) (hs : s.size ≤ 4194304) :
    Calls Try.prog 34 #[.pointer (some ⟨b, 0, none⟩), .iface 95 (.string s), .int .i64 f, .int .i64 k] W fun e w' => e = .returned (.tuple #[]) ∧ Wrote w0 w' b (bs ++ seg s.data.toList f.toNat k.toNat) := by
  have t1 := ta_ll s
  have HW : Hid _ := hW
  clear hW
  obtain ⟨fn, rfl⟩ := Int.eq_ofNat_of_zero_le h0
  obtain ⟨kn, rfl⟩ := Int.eq_ofNat_of_zero_le (by omega : 0 ≤ k)
  simp only [Int.toNat_natCast]
  go_enter Try.func34, Try.ntmps34
  go_wp2_with fail
  refine (Try.Builder_WriteString w0.heap.size b (Lib.byteCells bs) _ _ HW.out.at_ (by rw [Lib.byteCells_length, ByteArray.size_extract]; omega) HW.out.below.size).mono ?_
  rintro e w1 ⟨rfl, h3, h4⟩
  have H3 : Hid _ := h3
  have H4 : Hid _ := h4
  clear h3 h4
  go_wp2_with fail
  go_end0
  refine ⟨rfl, Or.inr ?_, HW.out.below.trans H4.out⟩
  have h := H3.out
  rw [Lib.strCells_eq, Lib.extract_data] at h
  rw [bytes_app]
  exact h

set_option maxRecDepth 100000 in
set_option maxHeartbeats 1000000 in
theorem write_branch (w0 W : World) (v : Value) (l r : Rp.T) (b : Nat) (bs : List UInt8) (f k : Int) (hT : IsTree w0 v (.branch l r)) (hW : Wrote w0 W b bs) (h0 : 0 ≤ f) (h1 : f ≤ k) (h2 : k ≤ ((Rp.T.branch l r).len : Int)) (hs : (Rp.T.branch l r).len + bs.length ≤ 4194304)
    (ihl : ∀ (v : Value) (W : World) (bs : List UInt8) (f k : Int), IsTree w0 v l → Wrote w0 W b bs → 0 ≤ f → f ≤ k → k ≤ (l.len : Int) → l.len + bs.length ≤ 4194304 → Calls Try.prog 34 #[.pointer (some ⟨b, 0, none⟩), v, .int .i64 f, .int .i64 k] W fun e w' => e = .returned (.tuple #[]) ∧ Wrote w0 w' b (bs ++ seg l.text f.toNat k.toNat))
    (ihr : ∀ (v : Value) (W : World) (bs : List UInt8) (f k : Int), IsTree w0 v r → Wrote w0 W b bs → 0 ≤ f → f ≤ k → k ≤ (r.len : Int) → r.len + bs.length ≤ 4194304 → Calls Try.prog 34 #[.pointer (some ⟨b, 0, none⟩), v, .int .i64 f, .int .i64 k] W fun e w' => e = .returned (.tuple #[]) ∧ Wrote w0 w' b (bs ++ seg r.text f.toNat k.toNat)) :
    Calls Try.prog 34 #[.pointer (some ⟨b, 0, none⟩), v, .int .i64 f, .int .i64 k] W fun e w' => e = .returned (.tuple #[]) ∧ Wrote w0 w' b (bs ++ seg (Rp.T.branch l r).text f.toNat k.toNat) := by
  have IL : Hid _ := ihl
  have IR : Hid _ := ihr
  clear ihl ihr
  cases hT with
  | branch p vl vr _ _ c0 c1 c2 c3 hl hr =>
  obtain ⟨ul, xl, fsl, fll, rfl, msl, mll, esl, ell, csl, cll⟩ := hl.face
  have HL : Hid _ := csl
  have TL : Hid _ := hl
  have TR : Hid _ := hr
  have t1 := ta_lb ⟨p, 0, none⟩
  have t2 := ta_bb ⟨p, 0, none⟩
  simp only [Rp.T.len] at h2 hs
  have c0' := below_cell hW.below c0
  have c1' := below_cell hW.below c1
  have HW : Hid _ := hW
  have C0 : Hid _ := c0
  have C1 : Hid _ := c1
  have XL := l.text_length
  have XR := r.text_length
  clear csl cll mll ell c2 c3 hl hr hW c0 c1
  by_cases hf : f < (l.len : Int)
  · by_cases hk : k ≤ (l.len : Int)
    · go_enter Try.func34, Try.ntmps34
      go_wp2_with fail
      refine (HL.out _ HW.out.below).mono ?_
      rintro e w' ⟨rfl, rfl⟩
      go_wp2_with fail
      all_goals
        refine (IL.out _ _ bs f _ TL.out HW.out h0 (by omega) (by omega) (by omega)).mono ?_
        rintro e w1 ⟨rfl, h3⟩
        have H3 : Hid _ := h3
        clear h3
        go_wp2_with fail
        go_end0
        have h := H3.out
        refine ⟨rfl, ?_⟩
        rw [Rp.T.text, seg_left _ _ _ _ (by omega)]
        rw [show min k (l.len : Int) = k by omega] at h
        exact h
    · have hk' : (l.len : Int) < k := by omega
      clear hk
      go_enter Try.func34, Try.ntmps34
      go_wp2_with fail
      refine (HL.out _ HW.out.below).mono ?_
      rintro e w' ⟨rfl, rfl⟩
      go_wp2_with fail
      refine (IL.out _ _ bs f _ TL.out HW.out h0 (by omega) (by omega) (by omega)).mono ?_
      rintro e w1 ⟨rfl, h3⟩
      have c1'' := below_cell h3.below C1.out
      have H3 : Hid _ := h3
      clear h3
      go_wp2_with fail
      refine (IR.out _ _ _ _ _ TR.out H3.out (by omega) (by omega) (by omega) (by rw [List.length_append]; have := seg_len l.text f.toNat (min k (l.len : Int)).toNat; omega)).mono ?_
      rintro e w2 ⟨rfl, h4⟩
      have H4 : Hid _ := h4
      clear h4
      go_wp2_with fail
      go_end0
      have h := H4.out
      refine ⟨rfl, ?_⟩
      rw [Rp.T.text, seg_both _ _ _ _ l.len XL (by omega) (by omega), ← List.append_assoc]
      rw [show min k (l.len : Int) = (l.len : Int) by omega, show max (f - (l.len : Int)) 0 = 0 by omega, Int.toNat_natCast, show (k - (l.len : Int)).toNat = k.toNat - l.len by omega] at h
      exact h
  · have hf' : (l.len : Int) ≤ f := by omega
    clear hf
    by_cases hk : k ≤ (l.len : Int)
    · go_enter Try.func34, Try.ntmps34
      go_wp2_with fail
      refine (HL.out _ HW.out.below).mono ?_
      rintro e w' ⟨rfl, rfl⟩
      go_wp2_with fail
      go_end0
      refine ⟨rfl, ?_⟩
      rw [show f.toNat = k.toNat by omega, seg_empty, List.append_nil]
      exact HW.out
    · have hk' : (l.len : Int) < k := by omega
      clear hk
      go_enter Try.func34, Try.ntmps34
      go_wp2_with fail
      refine (HL.out _ HW.out.below).mono ?_
      rintro e w' ⟨rfl, rfl⟩
      go_wp2_with fail
      all_goals
        refine (IR.out _ _ bs _ _ TR.out HW.out (by omega) (by omega) (by omega) (by omega)).mono ?_
        rintro e w2 ⟨rfl, h4⟩
        have H4 : Hid _ := h4
        clear h4
        go_wp2_with fail
        go_end0
        have h := H4.out
        refine ⟨rfl, ?_⟩
        rw [Rp.T.text, seg_right _ _ _ _ l.len XL (by omega)]
        rw [show (k - (l.len : Int)).toNat = k.toNat - l.len by omega, show (max (f - (l.len : Int)) 0).toNat = f.toNat - l.len by omega] at h
        exact h

theorem write_any (w0 : World) (b : Nat) (t : Rp.T) : ∀ (v : Value) (W : World) (bs : List UInt8) (f k : Int), IsTree w0 v t → Wrote w0 W b bs → 0 ≤ f → f ≤ k → k ≤ (t.len : Int) → t.len + bs.length ≤ 4194304 →
    Calls Try.prog 34 #[.pointer (some ⟨b, 0, none⟩), v, .int .i64 f, .int .i64 k] W fun e w' => e = .returned (.tuple #[]) ∧ Wrote w0 w' b (bs ++ seg t.text f.toNat k.toNat) := by
  induction t with
  | leaf s =>
    intro v W bs f k hT hW h0 h1 h2 hs
    cases hT
    simp only [Rp.T.len] at h2 hs
    exact write_leaf w0 W s b bs f k hW h0 h1 h2 (by omega) (by omega)
  | branch l r il ir =>
    intro v W bs f k hT hW h0 h1 h2 hs
    exact write_branch w0 W v l r b bs f k hT hW h0 h1 h2 hs il ir

end Go.Proofs.Ytnhmdbmcamfbiaa
