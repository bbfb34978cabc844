import Derived.Test.YthlbajkbpceglaaTbn
import Derived.Lib.SlBytesConst
namespace Go.Proofs.Ythlbajkbpceglaa
open Go.RowKit Go.Maps

set_option maxRecDepth 100000 in
set_option maxHeartbeats 4000000 in
/-- The first count behind the head, which is a row of the text's own. -/
theorem firstCount_any {b : Nat} (n : Nat) (hn : n < 128 ^ 9) (w : World) (h0 : w.cell? ⟨b, 0, none⟩ = some (.int .u8 84)) (h1 : w.cell? ⟨b, 1, none⟩ = some (.int .u8 1)) :
    Calls Try.prog 18 #[.slice (some ⟨b, 0, none⟩) 2 2, .int .i64 (n : Int)] w fun e w' => ∃ v', e = .returned v' ∧ Byt w.heap.size w' v' ([84, 1] ++ nm n) ∧ Below w.heap.size w w' := by
  obtain ⟨i5, hi5, hx0, hx1, hx2⟩ := info_parts info5
  have HN : Hid (n < 128 ^ 9) := hn
  have HC : Hid (∀ W, Below w.heap.size w W → ∀ j u, [Value.int .u8 84, .int .u8 1][j]? = some u → W.cell? ((⟨b, 0, none⟩ : Addr).add j) = some u) := fun W hW j u hj => by
    rw [addPl]
    match j, hj with
    | 0, hj => cases hj; exact below_cell hW h0
    | 1, hj => cases hj; exact below_cell hW h1
  clear hn h0 h1
  go_enter Try.func18, Try.ntmps18
  go_wp2_with fail
  go_loopg [0, 1] n (fun gm v0 v1 wr => ∃ (k : Nat) (q : List UInt8), v1 = .int .i64 (k : Int) ∧ Hid (gm = k ∧ k < 128 ^ 9) ∧ Hid (q ++ nm k = [84, 1] ++ nm n) ∧ Hid ((v0 = .slice (some ⟨b, 0, none⟩) 2 2 ∧ q = [84, 1]) ∨ Byt w.heap.size wr v0 q) ∧ Hid (Below w.heap.size w wr))
  case atStart => exact ⟨n, [84, 1], rfl, ⟨rfl, HN.out⟩, rfl, Or.inl ⟨rfl, rfl⟩, Below.refl _ _⟩
  case round =>
    obtain ⟨k, q, rfl, HG, HP, HR, HBW⟩ := hrel
    have hll : q.length ≤ 1000009 := by
      have h1 := congrArg List.length HP.out
      have h2 := nm_len n 9 HN.out (by omega)
      rw [List.length_append, List.length_append] at h1
      simp only [List.length_cons, List.length_nil] at h1
      omega
    have HLL : Hid (q.length ≤ 1000009) := hll
    have HSB : Hid (w.heap.size ≤ wr.heap.size) := HBW.out.size
    clear hll
    rcases HR.out with ⟨rfl, rfl⟩ | hro
    · clear HR
      by_cases hk : k < 128
      · have e1 : decide ((128 : Int) ≤ (k : Int)) = false := by rw [decide_eq_false_iff_not]; omega
        have e2 : decide (128 ≤ k) = false := by rw [decide_eq_false_iff_not]; omega
        have HE : Hid (nm k = [UInt8.ofNat k]) := by unfold nm; rw [if_pos hk]; exact rfl
        have HX : Hid (((k : Int) % 256) = ((UInt8.ofNat k).toNat : Int)) := by show (k : Int) % 256 = _; simp
        clear hk
        go_wp2_with (at_builtin; refine wpList_append_grows _ rfl _ _ 41 rfl 5 i5 (.int .u8 0) 1 1 Try.underlying41 hi5 hx0 hx1 hx2 rfl (by decide) (some ⟨b, 0, none⟩) 2 2 [.int .u8 84, .int .u8 1] rfl (fun h => by cases h) rfl (fun b' e' => by cases e'; exact HC.out _ (below_trans HBW.out (bel_up _ _))) ⟨wr.heap.size, 0, none⟩ 1 1 [.int .u8 ((k : Int) % 256)] rfl rfl (cell_one_new _ _ _) (by simp [Value.oneCell']) (by decide) (by unfold maxLen; decide) (by decide) ?_; intro v5 w5 ho5 hg5; rw [HX.out] at ho5; have HO5 : Hid (Byt w.heap.size w5 v5 ([84, 1] ++ [_])) := byt_app (l := [84, 1]) (row_base ho5 (below_trans HBW.out (bel_up _ _)).size); have HB5 : Hid (Below w.heap.size w w5) := (below_trans HBW.out (bel_up _ _)).grown hg5 (by have := HSB.out; simp; omega) (fun r e' => by cases e'); obtain ⟨qa, qc, rfl⟩ := row_shape ho5; clear ho5 hg5)
        go_ret
        refine ⟨_, rfl, ?_, ?_⟩
        · have := HO5.out
          rw [← HE.out, HP.out] at this
          exact this
        · exact HB5.out
      · have e1 : decide ((128 : Int) ≤ (k : Int)) = true := by rw [decide_eq_true_eq]; omega
        have e2 : decide (128 ≤ k) = true := by rw [decide_eq_true_eq]; omega
        have HKB : Hid (128 ≤ k) := by show 128 ≤ k; omega
        have HE : Hid (nm k = UInt8.ofNat (128 + k % 128) :: nm (k / 128)) := by rw [nm, if_neg hk]; exact rfl
        have HX : Hid (((k : Int) % 128 + 128) = ((UInt8.ofNat (128 + k % 128)).toNat : Int)) := by show (k : Int) % 128 + 128 = _; simp; omega
        clear hk
        go_wp2_with (at_builtin; refine wpList_append_grows _ rfl _ _ 41 rfl 5 i5 (.int .u8 0) 1 1 Try.underlying41 hi5 hx0 hx1 hx2 rfl (by decide) (some ⟨b, 0, none⟩) 2 2 [.int .u8 84, .int .u8 1] rfl (fun h => by cases h) rfl (fun b' e' => by cases e'; exact HC.out _ (below_trans HBW.out (bel_up _ _))) ⟨wr.heap.size, 0, none⟩ 1 1 [.int .u8 ((k : Int) % 128 + 128)] rfl rfl (cell_one_new _ _ _) (by simp [Value.oneCell']) (by decide) (by unfold maxLen; decide) (by decide) ?_; intro v5 w5 ho5 hg5; rw [HX.out] at ho5; have HO5 : Hid (Byt w.heap.size w5 v5 ([84, 1] ++ [_])) := byt_app (l := [84, 1]) (row_base ho5 (below_trans HBW.out (bel_up _ _)).size); have HB5 : Hid (Below w.heap.size w w5) := (below_trans HBW.out (bel_up _ _)).grown hg5 (by have := HSB.out; simp; omega) (fun r e' => by cases e'); obtain ⟨qa, qc, rfl⟩ := row_shape ho5; clear ho5 hg5)
        go_roundg (k / 128)
        case measure => have := HG.out; have := HKB.out; omega
        case rel =>
          refine ⟨k / 128, [84, 1] ++ [UInt8.ofNat (128 + k % 128)], ?_, ⟨rfl, ?_⟩, ?_, ?_, ?_⟩
          · first | rfl | (congr 1; have hh := HG.out.2; have e9 : (128 : Nat) ^ 9 = 9223372036854775808 := (by decide); rw [e9] at hh; unfold wrap64; omega)
          · have := HG.out.2; exact Nat.lt_of_le_of_lt (Nat.div_le_self _ _) this
          · rw [List.append_assoc, List.singleton_append, ← HE.out]; exact HP.out
          · exact Or.inr HO5.out
          · exact HB5

    · have HR : Hid (Byt w.heap.size wr _ q) := hro
      obtain ⟨ra, rc, hrv⟩ := row_shape hro
      subst hrv
      clear hro
      by_cases hk : k < 128
      · have e1 : decide ((128 : Int) ≤ (k : Int)) = false := by rw [decide_eq_false_iff_not]; omega
        have e2 : decide (128 ≤ k) = false := by rw [decide_eq_false_iff_not]; omega
        have HE : Hid (nm k = [UInt8.ofNat k]) := by unfold nm; rw [if_pos hk]; exact rfl
        have HX : Hid (((k : Int) % 256) = ((UInt8.ofNat k).toNat : Int)) := by show (k : Int) % 256 = _; simp
        have HROW : Hid ((wr.alloc (.cells #[.int .u8 ((k : Int) % 256)] 5)).ownsRow w.heap.size 5 1 (.slice ra q.length rc) q.length (Lib.byteCells q)) := HR.out.alloc _
        clear hk
        go_wp2_with (at_builtin; refine wpList_append_own_at _ rfl _ _ 41 rfl w.heap.size 5 i5 (.int .u8 0) 1 1 Try.underlying41 hi5 hx0 hx1 hx2 rfl (by decide) _ _ _ rfl HROW.out ⟨wr.heap.size, 0, none⟩ 1 1 [.int .u8 ((k : Int) % 256)] rfl rfl (cell_one_new _ _ _) (by simp [Value.oneCell']) (by have := HLL.out; unfold maxLen; omega) (by have := HLL.out; omega) (by have := HSB.out; simp; omega) ?_; intro v5 w5 ho5 hg5 _ ha5; rw [HX.out] at ho5; have HO5 : Hid _ := byt_app ho5; have HB5 : Hid (Below w.heap.size w w5) := (below_trans HBW.out (bel_up _ _)).grown hg5 (by have := HSB.out; simp; omega) (fun r e' => (row_tag HR.out r e').1); obtain ⟨qa, qc, rfl⟩ := row_shape ho5; clear ho5 hg5 ha5)
        go_ret
        refine ⟨_, rfl, ?_, ?_⟩
        · have := HO5.out
          rw [← HE.out, HP.out] at this
          exact this
        · exact HB5.out
      · have e1 : decide ((128 : Int) ≤ (k : Int)) = true := by rw [decide_eq_true_eq]; omega
        have e2 : decide (128 ≤ k) = true := by rw [decide_eq_true_eq]; omega
        have HKB : Hid (128 ≤ k) := by show 128 ≤ k; omega
        have HE : Hid (nm k = UInt8.ofNat (128 + k % 128) :: nm (k / 128)) := by rw [nm, if_neg hk]; exact rfl
        have HX : Hid (((k : Int) % 128 + 128) = ((UInt8.ofNat (128 + k % 128)).toNat : Int)) := by show (k : Int) % 128 + 128 = _; simp; omega
        have HROW : Hid ((wr.alloc (.cells #[.int .u8 ((k : Int) % 128 + 128)] 5)).ownsRow w.heap.size 5 1 (.slice ra q.length rc) q.length (Lib.byteCells q)) := HR.out.alloc _
        clear hk
        go_wp2_with (at_builtin; refine wpList_append_own_at _ rfl _ _ 41 rfl w.heap.size 5 i5 (.int .u8 0) 1 1 Try.underlying41 hi5 hx0 hx1 hx2 rfl (by decide) _ _ _ rfl HROW.out ⟨wr.heap.size, 0, none⟩ 1 1 [.int .u8 ((k : Int) % 128 + 128)] rfl rfl (cell_one_new _ _ _) (by simp [Value.oneCell']) (by have := HLL.out; unfold maxLen; omega) (by have := HLL.out; omega) (by have := HSB.out; simp; omega) ?_; intro v5 w5 ho5 hg5 _ ha5; rw [HX.out] at ho5; have HO5 : Hid _ := byt_app ho5; have HB5 : Hid (Below w.heap.size w w5) := (below_trans HBW.out (bel_up _ _)).grown hg5 (by have := HSB.out; simp; omega) (fun r e' => (row_tag HR.out r e').1); obtain ⟨qa, qc, rfl⟩ := row_shape ho5; clear ho5 hg5 ha5)
        go_roundg (k / 128)
        case measure => have := HG.out; have := HKB.out; omega
        case rel =>
          refine ⟨k / 128, q ++ [UInt8.ofNat (128 + k % 128)], ?_, ⟨rfl, ?_⟩, ?_, ?_, ?_⟩
          · first | rfl | (congr 1; have hh := HG.out.2; have e9 : (128 : Nat) ^ 9 = 9223372036854775808 := (by decide); rw [e9] at hh; unfold wrap64; omega)
          · have := HG.out.2; exact Nat.lt_of_le_of_lt (Nat.div_le_self _ _) this
          · rw [List.append_assoc, List.singleton_append, ← HE.out]; exact HP.out
          · exact Or.inr HO5.out
          · exact HB5

end Go.Proofs.Ythlbajkbpceglaa
