import Derived.Test.YtdchopljojlcpaaProg
import Derived.Test.YtdchopljojlcpaaShelf
import Derived.Test.YtdchopljojlcpaaBeh
namespace Go.Proofs.Ytdchopljojlcpaa
open Go.RowKit Go.Maps

/-- A test of a state. -/
def hld (s : Stt) (k n : Int) (ended : Bool) : Bool :=
  if k = 1 then decide (0 ≤ s.pen) && decide (s.top < s.pen) else if k = 2 then decide (0 ≤ s.pen) && decide (s.pen < s.top)
  else if k = 3 then decide (0 < s.que.length) else if k = 4 then decide (s.que.length = 0)
  else if k = 5 then (decide (0 ≤ n) && decide (n < 16)) && s.flg.testBit n.toNat else if k = 6 then (decide (0 ≤ n) && decide (n < 16)) && !s.flg.testBit n.toNat
  else if k = 7 then ended else if k = 8 then decide (0 < s.ind.length) else false
/-- A test as a value. -/
@[reducible] def tv (k n : Int) : Value := .agg #[.int .i64 k, .int .i64 n]
theorem u16_bit (a n : Nat) (ha : a < 65536) : bits .and .u16 ((a : Int) / 2 ^ n) 1 = if a.testBit n then 1 else 0 := by
  have e : ((a : Int) / 2 ^ n) = ((a / 2 ^ n : Nat) : Int) := by simp
  have hl : a / 2 ^ n < 65536 := Nat.lt_of_le_of_lt (Nat.div_le_self _ _) ha
  have h1 := (bits_nat .u16 16 (by decide) (fun n h0 h1 => by simp [IntKind.wrap, IntKind.bits, IntKind.signed]; omega) (a / 2 ^ n) 1 hl (by decide)).1
  rw [e, show (1 : Int) = ((1 : Nat) : Int) by rfl, h1, Nat.and_one_is_mod, Nat.testBit_eq_decide_div_mod_eq]
  by_cases h : a / 2 ^ n % 2 = 1
  · simp [h]
  · have : a / 2 ^ n % 2 = 0 := by omega
    simp [this]
end Go.Proofs.Ytdchopljojlcpaa
