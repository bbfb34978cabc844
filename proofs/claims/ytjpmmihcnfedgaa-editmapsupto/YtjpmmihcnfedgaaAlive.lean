import Derived.Test.YtjpmmihcnfedgaaApply
import Derived.Test.YtjpmmihcnfedgaaInvert
import Derived.Test.YtjpmmihcnfedgaaMaps
namespace Go.Proofs.Ytjpmmihcnfedgaa
open Go.RowKit

abbrev hello : ByteArray := ⟨#[104, 101, 108, 108, 111]⟩
theorem hello_ok : okE hello 1 3 ⟨#[105, 112, 112]⟩ := by decide +kernel
theorem hello_spl : spl hello (ca hello.size 1) (ca hello.size 1 + cd hello.size 1 3) ⟨#[105, 112, 112]⟩ = ⟨#[104, 105, 112, 112, 111]⟩ := by decide +kernel
theorem hello_ext : hello.extract (ca hello.size 1) (ca hello.size 1 + cd hello.size 1 3) = ⟨#[101, 108, 108]⟩ := by decide +kernel

set_option maxRecDepth 1000000 in
set_option maxHeartbeats 1000000 in
theorem alive_any (w : World) : Calls Try.prog 15 #[] w fun e w' => e = .returned (.bool true) ∧ Below w.heap.size w w' := by
  have C0 : Hid (∀ W : World, Calls Try.prog 16 #[.string ⟨#[104, 101, 108, 108, 111]⟩, ed 1 3 ⟨#[105, 112, 112]⟩] W fun x W' => x = .returned (.tuple #[.string ⟨#[104, 105, 112, 112, 111]⟩, .int .i64 0]) ∧ Below W.heap.size W W') := fun W => by
    have := apply_any hello 1 3 ⟨#[105, 112, 112]⟩ W hello_ok
    rw [hello_spl] at this
    exact this
  have C1 : Hid (∀ W : World, Calls Try.prog 17 #[.string ⟨#[104, 101, 108, 108, 111]⟩, ed 1 3 ⟨#[105, 112, 112]⟩] W fun x W' => x = .returned (ed 1 3 ⟨#[101, 108, 108]⟩) ∧ Below W.heap.size W W') := fun W => by
    have := invert_any hello 1 3 ⟨#[105, 112, 112]⟩ W hello_ok
    rw [hello_ext] at this
    exact this
  have C2 : Hid (∀ W : World, Calls Try.prog 10 #[.int .i64 5, ed 1 3 ⟨#[105, 112, 112, 115]⟩, .int .i64 4] W fun x W' => x = .returned (.tuple #[.int .i64 5, .bool true]) ∧ Below W.heap.size W W') := fun W => by
    have := map_any 5 1 3 ⟨#[105, 112, 112, 115]⟩ 4 W (by omega) (by decide) (by omega) (by omega)
    rw [show mvv 4 (ca 5 1) (cd 5 1 3) ((⟨#[105, 112, 112, 115]⟩ : ByteArray).size) = 5 by decide +kernel, show mvb 4 (ca 5 1) (cd 5 1 3) = true by decide +kernel] at this
    exact this
  go_enter Try.func15, Try.ntmps15
  go_wp2_with fail
  refine (C0.out _).mono ?_
  rintro e' w1 ⟨rfl, hb⟩
  have B1 : Hid _ := hb
  clear hb
  go_wp2_with fail
  refine (C1.out _).mono ?_
  rintro e' w2 ⟨rfl, hb⟩
  have B2 : Hid (Below w.heap.size w w2) := below_trans B1.out hb
  clear hb
  go_wp2_with fail
  refine (C2.out _).mono ?_
  rintro e' w3 ⟨rfl, hb⟩
  obtain ⟨r0, r1, r2, rf⟩ := box1 hb
  have B3 : Hid (Below w.heap.size w w3) := below_trans (below_trans B2.out (bel_up _ _)) hb
  clear hb
  go_wp2_with fail
  go_ret
  exact ⟨by simp, B3.out⟩

end Go.Proofs.Ytjpmmihcnfedgaa
