import Derived.Test.YtgdmoeocgflhgaaDoorDdc
namespace Go.Proofs.YtgdmoeocgflhgaaDoor
open Go.RowKit Go.Maps

set_option maxRecDepth 100000 in
set_option maxHeartbeats 16000000 in
theorem told_nil (w : World) : Calls Tryd.prog 6 #[.nilIface] w fun e w' => e = .returned (.tuple #[.int .i64 0, .int .i64 (-1)]) ∧ Below w.heap.size w w' := by
  go_enter Tryd.func6, Tryd.ntmps6
  go_wp2_with fail
  exact bodyPost_ret (v := .tuple #[.int .i64 0, .int .i64 (-1)]) (by simp [results, Tryd.results6, go_sem]) rfl ⟨rfl, Below.refl _ _⟩
set_option maxRecDepth 100000 in
set_option maxHeartbeats 16000000 in
theorem told_err {pb b : Nat} (w : World) (hb : w.heap[pb]? = some (.cells #[.int .i64 131, .int .i64 (b : Int)] 58 (0, 0))) (hg : Gt w) :
    Calls Tryd.prog 6 #[.iface 55 (.pointer (some ⟨pb, 0, none⟩))] w fun e w' => e = .returned (.tuple #[.int .i64 131, .int .i64 (b : Int)]) ∧ Below w.heap.size w w' := by
  obtain ⟨W3, hW3⟩ : ∃ W3, W3 = w.alloc (.cells #[.pointer none] 55) := ⟨_, rfl⟩
  have BB : Hid (Below w.heap.size w W3) := by rw [hW3]; exact bel_up _ _
  have X3 : Hid (W3.heap[w.heap.size]? = some (.cells #[.pointer none] 55 (0, 0))) := by rw [hW3]; exact heap_new _ _
  have HPB : Hid (W3.heap[pb]? = some (.cells #[.int .i64 131, .int .i64 (b : Int)] 58 (0, 0))) := (BB.out.block _ (lt_of_heap hb)).trans hb
  have HGT : Hid (Gt W3) := hg.up BB.out
  clear hb hg
  go_enter Tryd.func6, Tryd.ntmps6
  go_upto_region 4 with fail
  rw [← hW3]
  clear hW3
  obtain ⟨wb, hwb⟩ : ∃ x, w.heap.size = x := ⟨_, rfl⟩
  have HWB : Hid (w.heap.size ≤ wb) := by show _ ≤ _; omega
  rw [hwb] at X3 ⊢
  clear hwb
  have HAS : Hid (Calls Tryd.prog 10 #[.iface 55 (.pointer (some ⟨pb, 0, none⟩)), .iface 56 (.pointer (some ⟨wb, 0, none⟩))] W3 fun e w' => e = .returned (.bool true) ∧ ∃ V, Below W3.heap.size W3 V ∧ w' = V.setCell ⟨wb, 0, none⟩ (.pointer (some ⟨pb, 0, none⟩))) := (as_hitB ⟨pb, 0, none⟩ ⟨wb, 0, none⟩ (.pointer none) W3 HGT.out (rcell X3.out 0 _ rfl) (Lib.frozen_of_heap X3.out 0)).mono fun e w' ⟨h1, h2⟩ => ⟨h1, _, below_trans (bel_up _ _) (below_trans (bel_up _ _) (below_trans (bel_up _ _) (bel_up _ _))), h2⟩
  go_upto_region 6 with (first | (go_at_call 10; refine Calls.mono HAS.out ?_; rintro e W6 ⟨rfl, V, hv, hw6⟩; have HV : Hid (Below W3.heap.size W3 V) := hv; have XW : Hid (W6.heap[wb]? = some (.cells #[.pointer (some ⟨pb, 0, none⟩)] 55 (0, 0))) := (by rw [hw6]; show (V.setCell _ _).heap[wb]? = _; rw [blk_set _ ((hv.block _ (lt_of_heap X3.out)).trans X3.out)]; rfl); have PW : Hid (W6.heap[pb]? = some (.cells #[.int .i64 131, .int .i64 (b : Int)] 58 (0, 0))) := (by rw [hw6]; exact blk_off ((hv.block _ (lt_of_heap HPB.out)).trans HPB.out) ((hv.block _ (lt_of_heap X3.out)).trans X3.out) (by decide)); have U6 : Hid (Below w.heap.size w W6) := (by rw [hw6]; exact (below_trans BB.out hv).setCell (p := ⟨wb, 0, none⟩) HWB.out _); clear hv hw6; have t0 := rcell XW.out 0 _ rfl; have p0 := rcell PW.out 0 _ rfl; have p1 := rcell PW.out 1 _ rfl) | (go_at_call 9; refine Calls.mono (is_code pb 131 W6 (rcell PW.out 0 _ rfl)) ?_; rintro e W9 ⟨rfl, hw9⟩; rw [hw9]; clear hw9 W9))
  go_quiet (fail)
  have U7 : Hid (Below W6.heap.size W6 (W6.drewN nq)) := below_drewN (Below.refl _ _) _
  generalize W6.drewN nq = W7 at U7
  go_wp2_with fail
  exact bodyPost_ret (v := .tuple #[.int .i64 131, .int .i64 (b : Int)]) (by simp [results, Tryd.results6, go_sem]) rfl ⟨rfl, below_trans U6.out U7.out⟩
end Go.Proofs.YtgdmoeocgflhgaaDoor
