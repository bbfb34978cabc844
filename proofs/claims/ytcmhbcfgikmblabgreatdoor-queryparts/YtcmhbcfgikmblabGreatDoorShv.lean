import Derived.Shelf.Small.Strs
import Derived.Shelf.LaysM
import Derived.Shelf.Strconv.Clone
import Derived.Test.YtcmhbcfgikmblabGreatDoorProg
import Derived.Test.YtcmhbcfgikmblabGreatDoorBas
namespace Go.Proofs
open Go.Shelf Go.RowKit
def Tryz.lays137_ren : Go.Shelf.Ren := ⟨fun | 137 => 81 | 217 => 91 | 266 => 95 | n => n, fun | 9 => 9 | 5 => 5 | 3 => 3 | n => n, fun | n => n⟩
theorem Tryz.lays137 : Go.Proofs.Lays.n137 Tryz.prog Tryz.lays137_ren := {
  mixed := by kernel_rfl
  f137 := Tryz.func81.trans (congrArg some (by kernel_rfl))
  f217 := Tryz.func91.trans (congrArg some (by kernel_rfl))
  f266 := Tryz.func95.trans (congrArg some (by kernel_rfl))
  t3 := Tryz.underlying3
  a3 := Tryz.isAgg3
  z3 := Tryz.sizeOf3
  v3 := Tryz.zeroValue3
  t5 := Tryz.underlying5
  a5 := Tryz.isAgg5
  z5 := Tryz.sizeOf5
  v5 := Tryz.zeroValue5
  t9 := Tryz.underlying9
  a9 := Tryz.isAgg9
  z9 := Tryz.sizeOf9
  v9 := Tryz.zeroValue9 }
theorem Tryz.strings_IndexByte (s : ByteArray) (c : Int) (w : World) :
    Calls Tryz.prog 81 #[.string s, .int .u8 c] w fun e w' => e = .returned (.int .i64 (Lib.indexByte s.data.toList c.toNat.toUInt8)) ∧ w' = w := Any.strings_IndexByte Tryz.lays137 s c w
def Tryz.laysM316_ren : Go.Shelf.Ren := ⟨fun | 316 => 90 | n => n, fun | 9 => 9 | 3 => 3 | 4 => 4 | 37 => 93 | 0 => 0 | 127 => 121 | 5 => 5 | n => n, fun | n => n⟩
theorem Tryz.laysM316 : Go.Proofs.LaysM.n316 Tryz.prog Tryz.laysM316_ren := {
  mixed := by kernel_rfl
  f316 := Tryz.func90.trans (congrArg some (by kernel_rfl))
  t0 := Tryz.underlying0
  a0 := Tryz.isAgg0
  z0 := Tryz.sizeOf0
  v0 := Tryz.zeroValue0
  t3 := Tryz.underlying3
  a3 := Tryz.isAgg3
  z3 := Tryz.sizeOf3
  v3 := Tryz.zeroValue3
  t4 := Tryz.underlying4
  a4 := Tryz.isAgg4
  z4 := Tryz.sizeOf4
  v4 := Tryz.zeroValue4
  t9 := Tryz.underlying9
  a9 := Tryz.isAgg9
  z9 := Tryz.sizeOf9
  v9 := Tryz.zeroValue9
  t37 := Tryz.underlying93
  a37 := Tryz.isAgg93
  z37 := Tryz.sizeOf93
  v37 := Tryz.zeroValue93
  t127 := Tryz.underlying121
  a127 := Tryz.isAgg121
  z127 := Tryz.sizeOf121
  v127 := Tryz.zeroValue121
  t5 := Tryz.underlying5
  a5 := Tryz.isAgg5
  z5 := Tryz.sizeOf5
  v5 := Tryz.zeroValue5
  i0 := by kernel_rfl
  i3 := by kernel_rfl
  i4 := by kernel_rfl
  i5 := by kernel_rfl
  i9 := by kernel_rfl
  i37 := by kernel_rfl
  i127 := by kernel_rfl }
theorem Tryz.stringslite_Clone (s : ByteArray) (w : World) (hlim : s.size ≤ 281474976710656) :
    Calls Tryz.prog 90 #[.string s] w fun e w' => e = .returned (.string s) ∧ Below w.heap.size w w' := Any.stringslite_Clone Tryz.laysM316 s w hlim
end Go.Proofs
namespace Go.Proofs.YtcmhbcfgikmblabGreatDoor
open Go.RowKit Go.Maps

set_option maxHeartbeats 1000000 in
theorem blank_any (b : Int) (w : World) : Calls Tryz.prog 56 #[.int .i64 b] w fun e w' => e = .returned (.bool (isB b)) ∧ w' = w := by
  unfold isB
  go_enter Tryz.func56, Tryz.ntmps56
  by_cases h1 : b = 32
  · subst h1
    go_wp2_with fail
    go_ret
    exact ⟨rfl, rfl⟩
  · by_cases h2 : b = 9
    · subst h2
      go_wp2_with fail
      go_ret
      exact ⟨rfl, rfl⟩
    · by_cases h3 : b = 13
      · subst h3
        go_wp2_with fail
        go_ret
        exact ⟨rfl, rfl⟩
      · go_wp2_with fail
        go_ret
        exact ⟨ret_bool (by simp), rfl⟩

set_option maxHeartbeats 1000000 in
theorem digit_any (b : Int) (w : World) : Calls Tryz.prog 58 #[.int .i64 b] w fun e w' => e = .returned (.bool (isD b)) ∧ w' = w := by
  unfold isD
  go_enter Tryz.func58, Tryz.ntmps58
  by_cases c0 : 48 ≤ b
  · have d0 : decide (48 ≤ b) = true := by simpa using c0
    rw [d0]
    go_wp2_with fail
    go_ret
    exact ⟨rfl, rfl⟩
  · have d0 : decide (48 ≤ b) = false := by simpa using c0
    rw [d0]
    go_wp2_with fail
    go_ret
    exact ⟨rfl, rfl⟩

set_option maxHeartbeats 2000000 in
theorem letter_any (b : Int) (w : World) : Calls Tryz.prog 57 #[.int .i64 b] w fun e w' => e = .returned (.bool (isL b)) ∧ w' = w := by
  obtain ⟨R, hR⟩ : ∃ R, isL b = R := ⟨_, rfl⟩
  rw [hR]
  unfold isL at hR
  have HR : Hid _ := hR
  clear hR
  go_enter Tryz.func57, Tryz.ntmps57
  cases d0 : decide (97 ≤ b) <;> cases d1 : decide (b ≤ 122) <;> cases d2 : decide (65 ≤ b) <;> cases d3 : decide (b ≤ 90) <;> cases d4 : (b == 95)
  all_goals
    have h := HR.out
    rw [d0, d1, d2, d3, d4] at h
    subst h
    clear HR
    go_wp2_with fail
    go_ret
    exact ⟨rfl, rfl⟩
set_option maxHeartbeats 2000000 in
theorem inname_any (b : Int) (w : World) : Calls Tryz.prog 63 #[.int .i64 b] w fun e w' => e = .returned (.bool (isN b)) ∧ w' = w := by
  unfold isN
  go_enter Tryz.func63, Tryz.ntmps63
  go_wp2_with fail
  refine (letter_any b w).mono ?_
  rintro e w' ⟨rfl, rfl⟩
  cases d0 : isL b
  · go_wp2_with fail
    refine (digit_any b w').mono ?_
    rintro e w1 ⟨rfl, rfl⟩
    go_wp2_with fail
    go_ret
    exact ⟨by rw [d0]; rfl, rfl⟩
  · go_wp2_with fail
    go_ret
    exact ⟨by rw [d0]; rfl, rfl⟩

theorem sgn_all : ∀ n : Fin 256, decide (0 ≤ Lib.indexByte [123, 125, 40, 41, 124, 42, 43, 63, 58, 59, 44, 61, 64] (Nat.toUInt8 n.val)) = isS (n.val : Int) := by decide +kernel
/-- What is read: a byte, or the end. -/
def okb (b : Int) : Prop := b = -1 ∨ ∃ n : Nat, n < 256 ∧ b = (n : Int)
set_option maxHeartbeats 2000000 in
theorem sign_any (b : Int) (hb : okb b) (w : World) : Calls Tryz.prog 59 #[.int .i64 b] w fun e w' => e = .returned (.bool (isS b)) ∧ w' = w := by
  rcases hb with rfl | ⟨n, hn, rfl⟩
  · go_enter Tryz.func59, Tryz.ntmps59
    go_wp2_with fail
    go_ret
    exact ⟨rfl, rfl⟩
  · have HA : Hid (decide (0 ≤ Lib.indexByte [123, 125, 40, 41, 124, 42, 43, 63, 58, 59, 44, 61, 64] (Nat.toUInt8 n)) = isS (n : Int)) := sgn_all ⟨n, hn⟩
    have h1 : ¬ ((n : Int) = -1) := by omega
    have h2 : IntKind.u8.wrap (n : Int) = (n : Int) := by simp [IntKind.wrap, IntKind.bits, IntKind.signed]; omega
    clear hn
    go_enter Tryz.func59, Tryz.ntmps59
    go_wp2_with fail
    refine (Tryz.strings_IndexByte _ _ w).mono ?_
    rintro e w1 ⟨rfl, rfl⟩
    go_wp2_with fail
    go_ret
    refine ⟨ret_bool ?_, rfl⟩
    rw [← HA.out]
    rfl
set_option maxHeartbeats 1000000 in
theorem stops_any (b : Int) (w : World) : Calls Tryz.prog 62 #[.int .i64 b] w fun e w' => e = .returned (.bool (b == -1 || b == 10)) ∧ w' = w := by
  go_enter Tryz.func62, Tryz.ntmps62
  by_cases h1 : b = -1
  · subst h1
    go_wp2_with fail
    go_ret
    exact ⟨rfl, rfl⟩
  · have h2 : (b == -1) = false := by simpa using h1
    rw [h2]
    go_wp2_with fail
    go_ret
    exact ⟨rfl, rfl⟩
set_option maxHeartbeats 2000000 in
theorem base16_any (b : Int) (hb : okb b) (w : World) : Calls Tryz.prog 96 #[.int .i64 b] w fun e w' => e = .returned (.int .i64 (hxv b)) ∧ w' = w := by
  have hlo : -1 ≤ b ∧ b < 256 := by rcases hb with rfl | ⟨n, hn, rfl⟩ <;> omega
  clear hb
  obtain ⟨R, hR⟩ : ∃ R, hxv b = R := ⟨_, rfl⟩
  rw [hR]
  unfold hxv at hR
  have HR : Hid _ := hR
  have HL : Hid _ := hlo
  clear hR hlo
  go_enter Tryz.func96, Tryz.ntmps96
  go_wp2_with fail
  refine (digit_any b w).mono ?_
  rintro e w1 ⟨rfl, rfl⟩
  cases d : isD b
  · have h := HR.out
    rw [d] at h
    simp only [Bool.false_eq_true, if_false] at h
    by_cases c1 : 97 ≤ b
    · by_cases c2 : b ≤ 102
      · have e1 : IntKind.i64.wrap (IntKind.i64.wrap (b - 97) + 10) = b - 87 := by rw [IntKind.wrap_i64, IntKind.wrap_i64]; omega
        go_wp2_with fail
        go_ret
        refine ⟨ret_int ?_, rfl⟩
        rw [← h]; repeat' split
        all_goals omega
      · have c3 : ¬ b ≤ 70 := by omega
        go_wp2_with fail
        go_ret
        refine ⟨ret_int ?_, rfl⟩
        rw [← h]; repeat' split
        all_goals omega
    · by_cases c2 : 65 ≤ b
      · by_cases c3 : b ≤ 70
        · go_wp2_with fail
          go_ret
          refine ⟨ret_int ?_, rfl⟩
          rw [← h]; repeat' split
          all_goals omega
        · go_wp2_with fail
          go_ret
          refine ⟨ret_int ?_, rfl⟩
          rw [← h]; repeat' split
          all_goals omega
      · go_wp2_with fail
        go_ret
        refine ⟨ret_int ?_, rfl⟩
        rw [← h]; repeat' split
        all_goals omega
  · have h := HR.out
    rw [d] at h
    simp only [if_true] at h
    have hd := d
    unfold isD at hd
    simp at hd
    go_wp2_with fail
    go_ret
    refine ⟨ret_int ?_, rfl⟩
    rw [← h]; repeat' split
    all_goals omega
end Go.Proofs.YtcmhbcfgikmblabGreatDoor
