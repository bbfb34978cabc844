import Derived.Test.YtbhlaheidlnppaaBase
namespace Go.Proofs.Ytbhlaheidlnppaa
open Go.RowKit

/-- a byte from lo to hi, and then some from 128 to 191 -/
def fol (s : ByteArray) : Nat → Nat → Nat → Nat → Bool
  | _, _, _, 0 => true
  | k, lo, hi, n + 1 => decide (k < s.size) && (decide (lo ≤ (s.get! k).toNat) && (decide ((s.get! k).toNat ≤ hi) && fol s (k + 1) 128 191 n))

set_option maxRecDepth 100000 in
set_option maxHeartbeats 1000000 in
theorem follows_any (s : ByteArray) (k lo hi n : Nat) (w : World) (hk : k ≤ 1099511627776) (hn : n ≤ 3) (hs : s.size ≤ 1099511627776) :
    Calls Try.prog 51 #[.string s, .int .i64 (k : Int), .int .u8 (lo : Int), .int .u8 (hi : Int), .int .i64 (n : Int)] w fun e w' => e = .returned (.bool (fol s k lo hi n)) ∧ w = w' := by
  have HS : Hid _ := hs
  clear hs
  obtain ⟨res, hres⟩ : ∃ res, res = fol s k lo hi n := ⟨_, rfl⟩
  rw [← hres]
  have HR : Hid _ := hres
  clear hres
  go_enter Try.func51, Try.ntmps51
  go_wp2_with fail
  go_loopg [2, 3, 11] n (fun gk l h i wr => ∃ (L Hh j : Nat), l = .int .u8 (L : Int) ∧ h = .int .u8 (Hh : Int) ∧ i = .int .i64 (j : Int) ∧ j ≤ n ∧ res = fol s (k + j) L Hh (n - j) ∧ gk = n - j ∧ wr = w)
  case atStart => exact ⟨lo, hi, 0, rfl, rfl, rfl, by omega, HR.out, by omega, rfl⟩
  case round =>
    obtain ⟨L, Hh, j, rfl, rfl, rfl, hj, hr, hg, rfl⟩ := hrel
    have HG : Hid _ := hg
    have HQ : Hid _ := hr
    clear hg hr HR
    by_cases hlt : j < n
    · by_cases hsz : k + j < s.size
      · have hix := idx_fact s (k + j) hsz
        rw [show (((k + j : Nat)) : Int) = (k : Int) + (j : Int) by omega] at hix
        obtain ⟨c, hc⟩ : ∃ c, c = (s.get! (k + j)).toNat := ⟨_, rfl⟩
        rw [← hc] at hix
        have HC : Hid _ := hc
        clear hc
        have hsi : (k : Int) + (j : Int) < (s.size : Int) := by omega
        by_cases h1 : c < L
        · have d1 : decide ((c : Int) < (L : Int)) = true := by rw [decide_eq_true_eq]; omega
          go_wp2_with fail
          go_ret
          refine ⟨?_, rfl⟩
          rw [HQ.out, show n - j = (n - j - 1) + 1 by omega, fol, ← HC.out]
          have : ¬ L ≤ c := by omega
          simp [this]
        · by_cases h2 : Hh < c
          · go_wp2_with fail
            go_ret
            refine ⟨?_, rfl⟩
            rw [HQ.out, show n - j = (n - j - 1) + 1 by omega, fol, ← HC.out]
            have : ¬ c ≤ Hh := by omega
            simp [this]
          · go_wp2_with fail
            go_roundg (n - (j + 1))
            case measure => have := HG.out; omega
            case rel =>
              refine ⟨128, 191, j + 1, rfl, rfl, by simp, by omega, ?_, rfl, rfl⟩
              rw [HQ.out, show n - j = (n - (j + 1)) + 1 by omega, fol, ← HC.out]
              have e1 : L ≤ c := by omega
              have e2 : c ≤ Hh := by omega
              simp [hsz, e1, e2, Nat.add_assoc]
      · have hsi : (s.size : Int) ≤ (k : Int) + (j : Int) := by omega
        go_wp2_with fail
        go_ret
        refine ⟨?_, rfl⟩
        rw [HQ.out, show n - j = (n - j - 1) + 1 by omega, fol]
        simp [hsz]
    · go_wp2_with fail
      go_ret
      refine ⟨?_, rfl⟩
      rw [HQ.out, show n - j = 0 by omega]
      rfl

/-- a character's bytes and units, as the table has it -/
def charS (s : ByteArray) (k : Nat) : Nat × Nat :=
  if 194 ≤ (s.get! k).toNat ∧ (s.get! k).toNat ≤ 223 ∧ fol s (k + 1) 128 191 1 = true then (2, 1)
  else if (s.get! k).toNat = 224 ∧ fol s (k + 1) 160 191 2 = true then (3, 1)
  else if (s.get! k).toNat = 237 ∧ fol s (k + 1) 128 159 2 = true then (3, 1)
  else if 225 ≤ (s.get! k).toNat ∧ (s.get! k).toNat ≤ 239 ∧ (s.get! k).toNat ≠ 237 ∧ fol s (k + 1) 128 191 2 = true then (3, 1)
  else if (s.get! k).toNat = 240 ∧ fol s (k + 1) 144 191 3 = true then (4, 2)
  else if 241 ≤ (s.get! k).toNat ∧ (s.get! k).toNat ≤ 243 ∧ fol s (k + 1) 128 191 3 = true then (4, 2)
  else if (s.get! k).toNat = 244 ∧ fol s (k + 1) 128 143 3 = true then (4, 2)
  else (1, 1)

theorem d64 (b : Nat) (h : b < 256) : (b / 64 = 2) = (128 ≤ b ∧ b ≤ 191) := by
  apply propext
  omega
/-- the decoder's answer, of bytes -/
def dec (q1 q2 q3 : Prop) [Decidable q1] [Decidable q2] [Decidable q3] (b0 b1 b2 b3 : Nat) : Nat × Nat :=
  if b0 < 128 then (b0, 1)
  else if b0 / 32 = 6 ∧ q1 ∧ b1 / 64 = 2 then (if 128 ≤ b0 % 32 * 64 + b1 % 64 then (b0 % 32 * 64 + b1 % 64, 2) else (65533, 1))
  else if (b0 / 16 = 14 ∧ q1 ∧ b1 / 64 = 2) ∧ q2 ∧ b2 / 64 = 2 then (if 2048 ≤ b0 % 16 * 4096 + b1 % 64 * 64 + b2 % 64 ∧ Utf8.valid ((b0 % 16 * 4096 + b1 % 64 * 64 + b2 % 64 : Nat) : Int) = true then (b0 % 16 * 4096 + b1 % 64 * 64 + b2 % 64, 3) else (65533, 1))
  else if ((b0 / 8 = 30 ∧ q1 ∧ b1 / 64 = 2) ∧ q2 ∧ b2 / 64 = 2) ∧ q3 ∧ b3 / 64 = 2 then (if 65536 ≤ b0 % 8 * 262144 + b1 % 64 * 4096 + b2 % 64 * 64 + b3 % 64 ∧ Utf8.valid ((b0 % 8 * 262144 + b1 % 64 * 4096 + b2 % 64 * 64 + b3 % 64 : Nat) : Int) = true then (b0 % 8 * 262144 + b1 % 64 * 4096 + b2 % 64 * 64 + b3 % 64, 4) else (65533, 1))
  else (65533, 1)
theorem dec_eq (s : ByteArray) (k : Nat) : Utf8.decode s k = dec (k + 1 < s.size) (k + 2 < s.size) (k + 3 < s.size) (s.get! k).toNat (s.get! (k + 1)).toNat (s.get! (k + 2)).toNat (s.get! (k + 3)).toNat := by
  unfold Utf8.decode dec
  simp only [Utf8.runeError, Nat.add_zero, Bool.and_eq_true, decide_eq_true_eq, beq_iff_eq, ge_iff_le]
theorem valid_iff (c : Nat) : (Utf8.valid (c : Int) = true) ↔ (c < 55296 ∨ (57344 ≤ c ∧ c ≤ 1114111)) := by
  unfold Utf8.valid
  simp only [Bool.or_eq_true, Bool.and_eq_true, decide_eq_true_eq]
  omega
theorem dec_one {q1 q2 q3 : Prop} [Decidable q1] [Decidable q2] [Decidable q3] {b0 b1 b2 b3 : Nat} (h1 : ¬ (b0 / 32 = 6 ∧ q1 ∧ b1 / 64 = 2)) (h2 : ¬ ((b0 / 16 = 14 ∧ q1 ∧ b1 / 64 = 2) ∧ q2 ∧ b2 / 64 = 2)) (h3 : ¬ (((b0 / 8 = 30 ∧ q1 ∧ b1 / 64 = 2) ∧ q2 ∧ b2 / 64 = 2) ∧ q3 ∧ b3 / 64 = 2)) :
    (dec q1 q2 q3 b0 b1 b2 b3).2 = 1 ∧ (dec q1 q2 q3 b0 b1 b2 b3).1 < 65536 := by
  unfold dec
  rw [if_neg h1, if_neg h2, if_neg h3]
  split
  · exact ⟨rfl, by show b0 < 65536; omega⟩
  · exact ⟨rfl, by show (65533 : Nat) < 65536; omega⟩
theorem dec_two {q1 q2 q3 : Prop} [Decidable q1] [Decidable q2] [Decidable q3] {b0 b1 b2 b3 : Nat} (h1 : b0 / 32 = 6 ∧ q1 ∧ b1 / 64 = 2) : dec q1 q2 q3 b0 b1 b2 b3 = (if 194 ≤ b0 then (b0 % 32 * 64 + b1 % 64, 2) else (65533, 1)) := by
  unfold dec
  obtain ⟨e1, e2, e3⟩ := h1
  have h0 : ¬ b0 < 128 := by omega
  rw [if_neg h0, if_pos ⟨e1, e2, e3⟩]
  by_cases h : 194 ≤ b0
  · rw [if_pos h, if_pos (show 128 ≤ b0 % 32 * 64 + b1 % 64 by omega)]
  · rw [if_neg h, if_neg (show ¬ 128 ≤ b0 % 32 * 64 + b1 % 64 by omega)]
theorem dec_three {q1 q2 q3 : Prop} [Decidable q1] [Decidable q2] [Decidable q3] {b0 b1 b2 b3 : Nat} (h1 : (b0 / 16 = 14 ∧ q1 ∧ b1 / 64 = 2) ∧ q2 ∧ b2 / 64 = 2) : dec q1 q2 q3 b0 b1 b2 b3 = (if (b0 = 224 → 160 ≤ b1) ∧ (b0 = 237 → b1 ≤ 159) then (b0 % 16 * 4096 + b1 % 64 * 64 + b2 % 64, 3) else (65533, 1)) := by
  unfold dec
  have H := h1
  obtain ⟨⟨e1, e2, e3⟩, e4, e5⟩ := h1
  have h0 : ¬ b0 < 128 := by omega
  have h6 : ¬ (b0 / 32 = 6 ∧ q1 ∧ b1 / 64 = 2) := by
    rintro ⟨h, _⟩
    omega
  rw [if_neg h0, if_neg h6, if_pos H]
  have hb1 : b1 % 64 = b1 - 128 := by omega
  have hb2 : b2 % 64 < 64 := by omega
  have hb0 : b0 % 16 = b0 - 224 := by omega
  have key : (2048 ≤ b0 % 16 * 4096 + b1 % 64 * 64 + b2 % 64 ∧ Utf8.valid ((b0 % 16 * 4096 + b1 % 64 * 64 + b2 % 64 : Nat) : Int) = true) ↔ ((b0 = 224 → 160 ≤ b1) ∧ (b0 = 237 → b1 ≤ 159)) := by
    rw [valid_iff, hb1, hb0]
    generalize b2 % 64 = c2 at *
    omega
  by_cases h : (b0 = 224 → 160 ≤ b1) ∧ (b0 = 237 → b1 ≤ 159)
  · rw [if_pos h, if_pos (key.2 h)]
  · rw [if_neg h, if_neg (fun x => h (key.1 x))]
theorem dec_four {q1 q2 q3 : Prop} [Decidable q1] [Decidable q2] [Decidable q3] {b0 b1 b2 b3 : Nat} (h1 : ((b0 / 8 = 30 ∧ q1 ∧ b1 / 64 = 2) ∧ q2 ∧ b2 / 64 = 2) ∧ q3 ∧ b3 / 64 = 2) : dec q1 q2 q3 b0 b1 b2 b3 = (if (b0 = 240 → 144 ≤ b1) ∧ (b0 = 244 → b1 ≤ 143) ∧ b0 ≤ 244 then (b0 % 8 * 262144 + b1 % 64 * 4096 + b2 % 64 * 64 + b3 % 64, 4) else (65533, 1)) := by
  unfold dec
  have H := h1
  obtain ⟨⟨⟨e1, e2, e3⟩, e4, e5⟩, e6, e7⟩ := h1
  have h0 : ¬ b0 < 128 := by omega
  have h6 : ¬ (b0 / 32 = 6 ∧ q1 ∧ b1 / 64 = 2) := by
    rintro ⟨h, _⟩
    omega
  have h7 : ¬ ((b0 / 16 = 14 ∧ q1 ∧ b1 / 64 = 2) ∧ q2 ∧ b2 / 64 = 2) := by
    rintro ⟨⟨h, _⟩, _⟩
    omega
  rw [if_neg h0, if_neg h6, if_neg h7, if_pos H]
  have hb1 : b1 % 64 = b1 - 128 := by omega
  have hb2 : b2 % 64 < 64 := by omega
  have hb3 : b3 % 64 < 64 := by omega
  have hb0 : b0 % 8 = b0 - 240 := by omega
  have key : (65536 ≤ b0 % 8 * 262144 + b1 % 64 * 4096 + b2 % 64 * 64 + b3 % 64 ∧ Utf8.valid ((b0 % 8 * 262144 + b1 % 64 * 4096 + b2 % 64 * 64 + b3 % 64 : Nat) : Int) = true) ↔ ((b0 = 240 → 144 ≤ b1) ∧ (b0 = 244 → b1 ≤ 143) ∧ b0 ≤ 244) := by
    rw [valid_iff, hb1, hb0]
    generalize b2 % 64 = c2 at *
    generalize b3 % 64 = c3 at *
    omega
  by_cases h : (b0 = 240 → 144 ≤ b1) ∧ (b0 = 244 → b1 ≤ 143) ∧ b0 ≤ 244
  · rw [if_pos h, if_pos (key.2 h)]
  · rw [if_neg h, if_neg (fun x => h (key.1 x))]

theorem fol1 (s : ByteArray) (k lo hi : Nat) : (fol s k lo hi 1 = true) ↔ (k < s.size ∧ lo ≤ (s.get! k).toNat ∧ (s.get! k).toNat ≤ hi) := by
  simp [fol]
theorem fol2 (s : ByteArray) (k lo hi : Nat) : (fol s k lo hi 2 = true) ↔ (k < s.size ∧ lo ≤ (s.get! k).toNat ∧ (s.get! k).toNat ≤ hi ∧ k + 1 < s.size ∧ 128 ≤ (s.get! (k + 1)).toNat ∧ (s.get! (k + 1)).toNat ≤ 191) := by
  simp [fol]
theorem fol3 (s : ByteArray) (k lo hi : Nat) : (fol s k lo hi 3 = true) ↔ (k < s.size ∧ lo ≤ (s.get! k).toNat ∧ (s.get! k).toNat ≤ hi ∧ k + 1 < s.size ∧ 128 ≤ (s.get! (k + 1)).toNat ∧ (s.get! (k + 1)).toNat ≤ 191 ∧ k + 2 < s.size ∧ 128 ≤ (s.get! (k + 2)).toNat ∧ (s.get! (k + 2)).toNat ≤ 191) := by
  simp [fol]

theorem char_eq (s : ByteArray) (k : Nat) : charS s k = (cw s k, cu s k) := by
  have hb : ∀ i, (s.get! (k + i)).toNat < 256 := fun i => (s.get! (k + i)).toNat_lt
  have h0 := hb 0; have h1 := hb 1; have h2 := hb 2; have h3 := hb 3
  unfold charS cw cu
  rw [dec_eq]
  simp only [fol1, fol2, fol3, Nat.add_assoc, Nat.reduceAdd, Nat.add_zero] at *
  generalize (s.get! k).toNat = b0 at *
  generalize (s.get! (k + 1)).toNat = b1 at *
  generalize (s.get! (k + 2)).toNat = b2 at *
  generalize (s.get! (k + 3)).toNat = b3 at *
  generalize s.size = z at *
  clear hb
  by_cases A : b0 / 32 = 6 ∧ k + 1 < z ∧ b1 / 64 = 2
  · rw [dec_two A]
    by_cases hh : 194 ≤ b0
    · rw [if_pos (by omega), if_pos hh, if_neg (by show ¬ 65536 ≤ b0 % 32 * 64 + b1 % 64; omega)]
    · rw [if_neg (by omega), if_neg (by omega), if_neg (by omega), if_neg (by omega), if_neg (by omega), if_neg (by omega), if_neg (by omega), if_neg hh]
      rfl
  · by_cases B : (b0 / 16 = 14 ∧ k + 1 < z ∧ b1 / 64 = 2) ∧ k + 2 < z ∧ b2 / 64 = 2
    · rw [dec_three B]
      by_cases hh : (b0 = 224 → 160 ≤ b1) ∧ (b0 = 237 → b1 ≤ 159)
      · have hc : ¬ 65536 ≤ (b0 % 16 * 4096 + b1 % 64 * 64 + b2 % 64, 3).1 := by
          show ¬ 65536 ≤ b0 % 16 * 4096 + b1 % 64 * 64 + b2 % 64
          omega
        rw [if_pos hh, if_neg (by omega : ¬ (194 ≤ b0 ∧ b0 ≤ 223 ∧ k + 1 < z ∧ 128 ≤ b1 ∧ b1 ≤ 191))]
        by_cases c1 : b0 = 224
        · rw [if_pos (by omega), if_neg hc]
        · rw [if_neg (by omega)]
          by_cases c2 : b0 = 237
          · rw [if_pos (by omega), if_neg hc]
          · rw [if_neg (by omega), if_pos (by omega), if_neg hc]
      · rw [if_neg hh, if_neg (by omega), if_neg (by omega), if_neg (by omega), if_neg (by omega), if_neg (by omega), if_neg (by omega), if_neg (by omega)]
        rfl
    · by_cases C : ((b0 / 8 = 30 ∧ k + 1 < z ∧ b1 / 64 = 2) ∧ k + 2 < z ∧ b2 / 64 = 2) ∧ k + 3 < z ∧ b3 / 64 = 2
      · rw [dec_four C]
        by_cases hh : (b0 = 240 → 144 ≤ b1) ∧ (b0 = 244 → b1 ≤ 143) ∧ b0 ≤ 244
        · have hc : 65536 ≤ (b0 % 8 * 262144 + b1 % 64 * 4096 + b2 % 64 * 64 + b3 % 64, 4).1 := by
            show 65536 ≤ b0 % 8 * 262144 + b1 % 64 * 4096 + b2 % 64 * 64 + b3 % 64
            omega
          rw [if_pos hh, if_neg (by omega : ¬ (194 ≤ b0 ∧ b0 ≤ 223 ∧ k + 1 < z ∧ 128 ≤ b1 ∧ b1 ≤ 191)), if_neg (by omega), if_neg (by omega), if_neg (by omega)]
          by_cases c1 : b0 = 240
          · rw [if_pos (by omega), if_pos hc]
          · rw [if_neg (by omega)]
            by_cases c2 : b0 = 244
            · rw [if_neg (by omega), if_pos (by omega), if_pos hc]
            · rw [if_pos (by omega), if_pos hc]
        · rw [if_neg hh, if_neg (by omega), if_neg (by omega), if_neg (by omega), if_neg (by omega), if_neg (by omega), if_neg (by omega), if_neg (by omega)]
          rfl
      · obtain ⟨e1, e2⟩ := dec_one A B C
        rw [e1, if_neg (by omega : ¬ 65536 ≤ (dec (k + 1 < z) (k + 2 < z) (k + 3 < z) b0 b1 b2 b3).1)]
        rw [if_neg (by omega), if_neg (by omega), if_neg (by omega), if_neg (by omega), if_neg (by omega), if_neg (by omega), if_neg (by omega)]

end Go.Proofs.Ytbhlaheidlnppaa
