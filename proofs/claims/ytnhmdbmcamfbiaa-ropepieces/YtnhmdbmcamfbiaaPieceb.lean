import Derived.Test.YtnhmdbmcamfbiaaBack
namespace Go.Proofs.Ytnhmdbmcamfbiaa
open Go.RowKit

set_option maxRecDepth 100000 in
set_option maxHeartbeats 1000000 in
theorem pieces_big (s : ByteArray) (e : Value) (a d : Int) (ins : ByteArray) (x y z : Int) (w : World) (he : e = .agg #[.int .i64 a, .int .i64 d, .string ins]) (hs : 1048576 < s.size) :
    Calls Try.prog 6 #[.string s, e, .int .i64 x, .int .i64 y, .int .i64 z] w fun e w' => e = .returned (.bool true) ∧ Below w.heap.size w w' := by
  subst he
  go_enter Try.func6, Try.ntmps6
  go_wp2_with fail
  refine (new_big s _ hs).mono ?_
  rintro e w' ⟨rfl, rfl⟩
  go_wp2_with fail
  go_ret
  exact ⟨rfl, (Below.refl _ _).alloc (Nat.le_refl _) _⟩

set_option maxRecDepth 100000 in
set_option maxHeartbeats 1000000 in
theorem pieces_no (s : ByteArray) (a d : Int) (ins : ByteArray) (x y z : Int) (w : World) (hs : s.size ≤ 1048576) (hi : ins.size ≤ 9223372036854775807)
    (hbig : 1048576 - ((s.size : Int) - cl d (s.size - cl a s.size)) < (ins.size : Int)) :
    Calls Try.prog 6 #[.string s, .agg #[.int .i64 a, .int .i64 d, .string ins], .int .i64 x, .int .i64 y, .int .i64 z] w fun e w' => e = .returned (.bool true) ∧ Below w.heap.size w w' := by
  have HB : Hid _ := hbig
  have HB' : Hid (1048576 - ((s.data.toList.length : Int) - cl d (s.data.toList.length - cl a s.data.toList.length)) < (ins.size : Int)) := by rw [← Lib.size_eq]; exact hbig
  clear hbig
  go_enter Try.func6, Try.ntmps6
  go_wp2_with fail
  refine (new_any s _ hs).mono ?_
  rintro e w1 ⟨b, rfl, hr, hb⟩
  obtain ⟨k0, k1, k2, b1⟩ := cells3 w w1 _ _ _ hb
  have HR : Hid _ := hr
  have B1 : Hid _ := b1
  clear hb hr b1
  go_wp2_with fail
  refine (splice_big b _ a d ins _ HR.out HB'.out).mono ?_
  rintro e w2 ⟨rfl, hb⟩
  have k0' := below_cell hb k0
  have k1' := below_cell hb k1
  have k2' := below_cell hb k2
  have B2 : Hid _ := below_trans B1.out hb
  clear hb k0 k1 k2
  go_wp2_with fail
  refine (cut_no s a d ins _ hs hi HB.out).mono ?_
  rintro e w3 ⟨rfl, hb⟩
  have B3 : Hid _ := below_trans B2.out hb
  clear hb
  go_wp2_with fail
  go_ret
  exact ⟨rfl, B3.out⟩
end Go.Proofs.Ytnhmdbmcamfbiaa
