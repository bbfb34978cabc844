import Derived.Test.YtkaciochlemjiaaItm
import Derived.Test.YtkaciochlemjiaaDoo
namespace Go.Proofs.Ytkaciochlemjiaa
open Go.RowKit Go.Maps

set_option maxRecDepth 100000 in
set_option maxHeartbeats 8000000 in
theorem rfrm_any {r : Nat} {d : ByteArray} (hz : d.size ≤ 140737488355328) (W : World) (h : Rdr W r d) :
    Calls Try.prog 59 #[.pointer (some ⟨r, 0, none⟩)] W fun e W' => Itm frb okW fV (fun v => ∃ m : Int, v = .agg #[.int .i64 m, .string ⟨#[]⟩]) r d W e W' := by
  obtain ⟨W1, hW1⟩ : ∃ W1, W1 = W.alloc (.cells #[.int .i64 0, .string ⟨#[]⟩] 54) := ⟨_, rfl⟩
  have HP : Hid (W1.heap[W.heap.size]? = some (.cells #[.int .i64 0, .string ⟨#[]⟩] 54 (0, 0))) := by rw [hW1]; exact heap_new W _
  have HR1 : Hid (Rdr W1 r d) := by rw [hW1]; exact h.up (bel_up _ _)
  have HG1 : Hid (W.grownBy W1 (some r)) := by rw [hW1]; exact gb_of (bel_up _ _)
  have HRL : Hid (r < W.heap.size) := lt_of_heap h
  have HC : Hid _ := num_rd 15 (by omega) hz W1 HR1.out
  have HW : Hid (W1 = W.alloc (.cells #[.int .i64 0, .string ⟨#[]⟩] 54)) := hW1
  have HZ : Hid (d.size ≤ 140737488355328) := hz
  clear h hz hW1
  go_enter Try.func59, Try.ntmps59
  go_upto_region 1 with fail
  rw [← HW.out]
  go_wp2_with fail
  refine Calls.mono HC.out ?_
  rintro e w2 ⟨hg, hh⟩
  have HG2 : Hid (W.grownBy w2 (some r)) := gb_trans HG1.out hg
  have hp2 : w2.heap[W.heap.size]? = some (.cells #[.int .i64 0, .string ⟨#[]⟩] 54 (0, 0)) := by rw [hg.block _ (lt_of_heap HP.out) (by have := HRL.out; simp; omega)]; exact HP.out
  have HP2 : Hid _ := hp2
  clear hg
  rcases hh with ⟨n, d', hn, hd, hr, hl, rfl⟩ | ⟨hno, hr, rfl⟩
  · have HN : Hid _ := hn
    have HD : Hid _ := hd
    have HR : Hid (Rdr w2 r d') := hr
    have HL : Hid _ := hl
    have HCD : Hid _ := rdel_any (d := d') (Nat.le_trans hl HZ.out) w2 hr
    clear hn hd hr hl hp2
    go_wp2_with fail
    refine Calls.mono HCD.out ?_
    rintro e w3 ⟨hg3, d3, hr3, hl3, hh3⟩
    have HG3 : Hid (W.grownBy w3 (some r)) := gb_trans HG2.out hg3
    have hp3 : w3.heap[W.heap.size]? = some (.cells #[.int .i64 0, .string ⟨#[]⟩] 54 (0, 0)) := by rw [hg3.block _ (lt_of_heap HP2.out) (by have := HRL.out; simp; omega)]; exact HP2.out
    have z0 : w3.cell? ⟨W.heap.size, 0, none⟩ = some (.int .i64 0) := by rw [Lib.cell_of_heap hp3]; rfl
    have z1 : w3.cell? ⟨W.heap.size, 1, none⟩ = some (.string ⟨#[]⟩) := by rw [Lib.cell_of_heap hp3]; rfl
    have zf : ∀ k, w3.frozen? ⟨W.heap.size, k, none⟩ = false := fun k => Lib.frozen_of_heap hp3 k
    have HR3 : Hid (Rdr w3 r d3) := hr3
    have HL3 : Hid (d3.size ≤ d.size) := Nat.le_trans hl3 HL.out
    clear hg3 hp3 hr3 hl3
    rcases hh3 with ⟨x, hx, hd3, rfl⟩ | ⟨hno, v, rfl, rfl⟩
    · have HX : Hid _ := hx
      have HD3 : Hid _ := hd3
      clear hx hd3
      go_wp2_with fail
      (try simp only [Exit.inBlock, Exit.then])
      refine bodyPost_ret (v := .tuple #[.agg #[.int .i64 (n : Int), .string x], .int .i64 0]) ?_ rfl ?_
      · rw [results_cell_tmp rfl]; go_simp
      · refine ⟨gb_new (gb_new HG3.out (Nat.le_refl _)) (Nat.le_refl _), d3, (HR3.out.off (Nat.ne_of_lt HRL.out)).off (Nat.ne_of_lt HRL.out), HL3.out, .inl ⟨((n : Int), x), ⟨⟨by show (0 : Int) ≤ (n : Int); omega, by have := HN.out; show (n : Int) ≤ (15 : Nat); omega⟩, HX.out⟩, ?_, rfl⟩⟩
        show d.data.toList = nm ((n : Int)).toNat ++ tx x ++ d3.data.toList
        rw [Int.toNat_natCast, List.append_assoc, ← HD3.out]
        exact HD.out
    · have HX : Hid _ := hno
      clear hno
      go_wp2_with fail
      (try simp only [Exit.inBlock, Exit.then])
      refine bodyPost_ret (v := .tuple #[.agg #[.int .i64 (n : Int), .string ⟨#[]⟩], .int .i64 65]) ?_ rfl ?_
      · rw [results_cell_tmp rfl]; go_simp
      · refine ⟨gb_new (gb_new HG3.out (Nat.le_refl _)) (Nat.le_refl _), d3, (HR3.out.off (Nat.ne_of_lt HRL.out)).off (Nat.ne_of_lt HRL.out), HL3.out, .inr ⟨fun f q hf e => ?_, _, rfl, _, rfl⟩⟩
        rw [HD.out] at e
        unfold frb at e
        rw [List.append_assoc] at e
        exact HX.out f.2 q hf.2 (nm_pf e).2
  · have HN : Hid _ := hno
    have HR : Hid (Rdr w2 r d) := hr
    have z0 : w2.cell? ⟨W.heap.size, 0, none⟩ = some (.int .i64 0) := by rw [Lib.cell_of_heap hp2]; rfl
    have z1 : w2.cell? ⟨W.heap.size, 1, none⟩ = some (.string ⟨#[]⟩) := by rw [Lib.cell_of_heap hp2]; rfl
    have zf : ∀ k, w2.frozen? ⟨W.heap.size, k, none⟩ = false := fun k => Lib.frozen_of_heap hp2 k
    clear hno hr hp2
    go_wp2_with fail
    (try simp only [Exit.inBlock, Exit.then])
    refine bodyPost_ret (v := .tuple #[.agg #[.int .i64 0, .string ⟨#[]⟩], .int .i64 65]) ?_ rfl ?_
    · rw [results_cell_tmp rfl]; go_simp
    · refine ⟨gb_new (gb_new HG2.out (Nat.le_refl _)) (Nat.le_refl _), d, (HR.out.off (Nat.ne_of_lt HRL.out)).off (Nat.ne_of_lt HRL.out), Nat.le_refl _, .inr ⟨fun f q hf e => ?_, _, rfl, _, rfl⟩⟩
      unfold frb at e
      rw [List.append_assoc] at e
      exact HN.out f.1.toNat _ (by have := hf.1.1; have := hf.1.2; omega) e
end Go.Proofs.Ytkaciochlemjiaa
