import Derived.Shelf.Strings.Builder1
import Derived.Shelf.Small.Strs
import Derived.Shelf.Strings.Search1
import Derived.Shelf.Strings.Prefix
import Derived.Test.YtkjcnnecdclgfaaDoorProg
import Derived.Lib.IndexAny
import Derived.Deep.Strs
import Derived.Test.YtkjcnnecdclgfaaDoorCls
import Derived.Test.YtkjcnnecdclgfaaDoorTxt
namespace Go.Proofs
open Go.Shelf
def Tryd.lays137_ren : Go.Shelf.Ren := ⟨fun | 137 => 74 | 217 => 80 | 266 => 88 | n => n, fun | 9 => 9 | 5 => 5 | 3 => 3 | n => n, fun | n => n⟩
open Go.RowKit Go.Lib in
theorem Tryd.lays137 : Go.Proofs.Lays.n137 Tryd.prog Tryd.lays137_ren := {
  mixed := by kernel_rfl
  f137 := Tryd.func74.trans (congrArg some (by kernel_rfl))
  f217 := Tryd.func80.trans (congrArg some (by kernel_rfl))
  f266 := Tryd.func88.trans (congrArg some (by kernel_rfl))
  t3 := Tryd.underlying3
  a3 := Tryd.isAgg3
  z3 := Tryd.sizeOf3
  v3 := Tryd.zeroValue3
  t5 := Tryd.underlying5
  a5 := Tryd.isAgg5
  z5 := Tryd.sizeOf5
  v5 := Tryd.zeroValue5
  t9 := Tryd.underlying9
  a9 := Tryd.isAgg9
  z9 := Tryd.sizeOf9
  v9 := Tryd.zeroValue9 }
open Go.RowKit Go.Lib in
theorem Tryd.strings_IndexByte (s : ByteArray) (c : Int) (w : World) :
    Calls Tryd.prog 74 #[.string s, .int .u8 c] w fun e w' => e = .returned (.int .i64 (Lib.indexByte s.data.toList c.toNat.toUInt8)) ∧ w' = w := Any.strings_IndexByte Tryd.lays137 s c w
def Tryd.lays99_ren : Go.Shelf.Ren := ⟨fun | 99 => 83 | 206 => 89 | n => n, fun | 9 => 9 | 4 => 4 | 3 => 3 | n => n, fun | n => n⟩
open Go.RowKit Go.Lib in
theorem Tryd.lays99 : Go.Proofs.Lays.n99 Tryd.prog Tryd.lays99_ren := {
  mixed := by kernel_rfl
  f99 := Tryd.func83.trans (congrArg some (by kernel_rfl))
  f206 := Tryd.func89.trans (congrArg some (by kernel_rfl))
  t3 := Tryd.underlying3
  a3 := Tryd.isAgg3
  z3 := Tryd.sizeOf3
  v3 := Tryd.zeroValue3
  t4 := Tryd.underlying4
  a4 := Tryd.isAgg4
  z4 := Tryd.sizeOf4
  v4 := Tryd.zeroValue4
  t9 := Tryd.underlying9
  a9 := Tryd.isAgg9
  z9 := Tryd.sizeOf9
  v9 := Tryd.zeroValue9 }
open Go.RowKit Go.Lib in
theorem Tryd.strings_HasPrefix (s p : ByteArray) (w : World) :
    Calls Tryd.prog 83 #[.string s, .string p] w fun e w' => e = .returned (.bool (Lib.hasPrefix s.data.toList p.data.toList)) ∧ w' = w := Any.strings_HasPrefix Tryd.lays99 s p w
end Go.Proofs
namespace Go.Proofs.YtkjcnnecdclgfaaDoor
open Go.RowKit
/-- A string's value. -/
abbrev ST (l : List UInt8) : Value := .string ⟨l.toArray⟩
theorem st_get (l : List UInt8) (i : Nat) (h : i < l.length) : (ByteArray.mk l.toArray).get! i = l.getD i 0 := by
  unfold ByteArray.get!
  show l.toArray[i]! = _
  rw [getElem!_pos l.toArray i (by simpa using h)]
  simp [h]
theorem plain_pure (c : UInt8) (l : List UInt8) : (Lib.indexByte l c < 0) ↔ l.contains c = false := by
  have := Lib.contains_iff_indexByte l c
  rw [this]
  simp
set_option maxHeartbeats 1000000 in
theorem plain_any (c : Nat) (hc : c < 256) (l : List UInt8) (w : World) : Calls Tryd.prog 70 #[.int .u8 (c : Int), ST l] w fun e w' => e = .returned (.bool (decide (32 ≤ c) && decide (c ≤ 126) && !l.contains (UInt8.ofNat c))) ∧ w' = w := by
  have HC : Hid _ := hc
  clear hc
  go_enter Tryd.func70, Tryd.ntmps70
  by_cases h1 : 32 ≤ c
  · by_cases h2 : c ≤ 126
    · have h1' : decide ((32 : Int) ≤ (c : Int)) = true := by rw [decide_eq_true_eq]; omega
      have h2' : decide ((c : Int) ≤ (126 : Int)) = true := by rw [decide_eq_true_eq]; omega
      have H1 : Hid _ := h1
      have H2 : Hid _ := h2
      clear h1 h2
      go_wp2_with fail
      refine (Tryd.strings_IndexByte ⟨l.toArray⟩ (c : Int) _).mono ?_
      rintro e w1 ⟨rfl, rfl⟩
      have e1 : ((c : Int).toNat.toUInt8) = UInt8.ofNat c := by simp [Nat.toUInt8]
      rw [e1]
      go_wp2_with fail
      go_ret
      refine ⟨ret_bool ?_, rfl⟩
      have := plain_pure (UInt8.ofNat c) l
      have h1 := H1.out
      have h2 := H2.out
      by_cases h : l.contains (UInt8.ofNat c) = false
      · simp only [h, this.2 h, h1, h2]; rfl
      · have h' : ¬ Lib.indexByte l (UInt8.ofNat c) < 0 := fun x => h (this.1 x)
        simp only [h', h1, h2]
        simp at h
        simp [h]
    · have h1' : decide ((32 : Int) ≤ (c : Int)) = true := by rw [decide_eq_true_eq]; omega
      have h2' : decide ((c : Int) ≤ (126 : Int)) = false := by rw [decide_eq_false_iff_not]; omega
      have H2 : Hid _ := h2
      clear h1 h2
      go_wp2_with fail
      go_ret
      refine ⟨ret_bool ?_, rfl⟩
      have h2 := H2.out
      have : decide (c ≤ 126) = false := by simpa using h2
      rw [this]
      simp
  · have h1' : decide ((32 : Int) ≤ (c : Int)) = false := by rw [decide_eq_false_iff_not]; omega
    have H1 : Hid _ := h1
    clear h1
    go_wp2_with fail
    go_ret
    refine ⟨ret_bool ?_, rfl⟩
    have h1 := H1.out
    have : decide (32 ≤ c) = false := by simpa using h1
    rw [this]
    simp

set_option maxRecDepth 100000 in
set_option maxHeartbeats 1000000 in
theorem seek_any (m : Nat → Bool) (inn : Bool) (b : Nat) (hb : b ≤ 256) (w : World) : Calls Tryd.prog 58 #[CV m, .int .i64 (b : Int), .bool inn] w fun e w' => e = .returned (.int .i64 (sk m inn b : Nat)) ∧ Below w.heap.size w w' := by
  have HB0 : Hid _ := hb
  clear hb
  go_enter Tryd.func58, Tryd.ntmps58
  go_wp2_with fail
  go_loopg [1] (256 - b) (fun g v wr => ∃ k : Nat, v = .int .i64 (k : Int) ∧ b ≤ k ∧ k ≤ 256 ∧ g = 256 - k ∧ (∀ j, b ≤ j → j < k → m j ≠ inn) ∧ BoxC wr w.heap.size m ∧ Below w.heap.size w wr)
  case atStart => exact ⟨b, rfl, Nat.le_refl _, HB0.out, rfl, fun j h1 h2 => by omega, BoxC.new _ _ _, bel_up _ _⟩
  case round =>
    obtain ⟨k, rfl, hbk, hk, hg, hno, hx, hbel⟩ := hrel
    have HG : Hid _ := hg
    have HK : Hid _ := hk
    have HBK : Hid _ := hbk
    have HN : Hid _ := hno
    have HX : Hid _ := hx
    have HB : Hid _ := hbel
    obtain ⟨a0, a1, a2, a3, af⟩ := hx
    clear hg hk hno hbk hbel
    by_cases hk : k < 256
    · have hkI : decide ((k : Int) < 256) = true := by rw [decide_eq_true_eq]; omega
      have hk8 : IntKind.u8.wrap (k : Int) = (k : Int) := by rw [IntKind.wrap_u8]; omega
      have HK2 : Hid _ := hk
      clear hk
      go_wp2_with fail
      refine (has_any m k HK2.out _).mono ?_
      rintro e w1 ⟨rfl, hb1⟩
      cases hm : m k <;> cases inn
      · go_wp2_with fail
        (try simp only [Exit.inBlock, Exit.then])
        go_ret
        refine ⟨ret_int ?_, below_trans HB.out hb1⟩
        have := Sk.uniq (sk_ok m false b) (e' := k) ⟨HBK.out, HN.out, .inl HK.out, fun _ => hm⟩ HB0.out
        rw [this]
      · go_wp2_with fail
        go_roundg (256 - (k + 1))
        case measure => have := HG.out; have := HK2.out; omega
        case rel =>
          refine ⟨k + 1, by rw [w64 k (by have := HK2.out; omega)], by have := HBK.out; omega, HK2.out, rfl, ?_, HX.out.mono hb1, below_trans HB.out hb1⟩
          intro j h1 h2
          by_cases e : j = k
          · subst e; rw [hm]; decide
          · exact HN.out j h1 (by omega)
      · go_wp2_with fail
        go_roundg (256 - (k + 1))
        case measure => have := HG.out; have := HK2.out; omega
        case rel =>
          refine ⟨k + 1, by rw [w64 k (by have := HK2.out; omega)], by have := HBK.out; omega, HK2.out, rfl, ?_, HX.out.mono hb1, below_trans HB.out hb1⟩
          intro j h1 h2
          by_cases e : j = k
          · subst e; rw [hm]; decide
          · exact HN.out j h1 (by omega)
      · go_wp2_with fail
        (try simp only [Exit.inBlock, Exit.then])
        go_ret
        refine ⟨ret_int ?_, below_trans HB.out hb1⟩
        have := Sk.uniq (sk_ok m true b) (e' := k) ⟨HBK.out, HN.out, .inl HK.out, fun _ => hm⟩ HB0.out
        rw [this]
    · obtain rfl : k = 256 := by have := HK.out; omega
      clear hk
      go_wp2_with fail
      (try simp only [Exit.inBlock, Exit.then])
      go_ret
      refine ⟨ret_int ?_, HB.out⟩
      have := Sk.uniq (sk_ok m inn b) (e' := 256) ⟨HBK.out, HN.out, .inl HK.out, fun h => absurd h (by omega)⟩ HB0.out
      rw [this]
end Go.Proofs.YtkjcnnecdclgfaaDoor
