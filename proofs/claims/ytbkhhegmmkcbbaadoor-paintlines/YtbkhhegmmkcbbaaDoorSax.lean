import Derived.Test.YtbkhhegmmkcbbaaDoorSaw
namespace Go.Proofs.YtbkhhegmmkcbbaaDoor
open Go.RowKit Go.Maps

theorem aw_eqSn (W : World) : (Op.equalIn 10000 50 (.agg #[.int .i64 0, .int .i64 1, .string ⟨#[120]⟩]) (.agg #[.int .i64 0, .int .i64 1, .string ⟨#[120]⟩])).run Tryd.prog W = .ok true W := by
  go_simp
set_option maxRecDepth 100000 in
set_option maxHeartbeats 8000000 in
/-- The program is awake. -/
theorem awake_any (w : World) : Calls Tryd.prog 4 #[] w fun e w' => e = .returned (.bool true) ∧ Below w.heap.size w w' := by
  have HB0 : Hid (Below w.heap.size w (w.alloc (.cells #[.string ⟨#[97]⟩, .string ⟨#[120]⟩, .string ⟨#[98]⟩, .string ⟨#[121]⟩] 27))) := bel_up _ _
  have HLA : Hid (Calls Tryd.prog 8 #[.slice (some ⟨w.heap.size, 0, none⟩) 2 2] (w.alloc (.cells #[.string ⟨#[97]⟩, .string ⟨#[120]⟩, .string ⟨#[98]⟩, .string ⟨#[121]⟩] 27)) fun e w' => ∃ v', e = .returned (.agg (lgA v')) ∧ Pl w' v' awL ∧ Below w.heap.size w w') := by
    have h2 : Pl (w.alloc (.cells #[.string ⟨#[97]⟩, .string ⟨#[120]⟩, .string ⟨#[98]⟩, .string ⟨#[121]⟩] 27)) (.slice (some ⟨w.heap.size, 0, none⟩) 2 2) awL := row_rw (World.ownsRow_lit (base := 0) (e := 27) (size := 2) w #[.string ⟨#[97]⟩, .string ⟨#[120]⟩, .string ⟨#[98]⟩, .string ⟨#[121]⟩] 2 (Nat.zero_le _) (by decide) rfl) (by decide)
    refine Calls.mono (lang_any _ h2 (by decide)) ?_
    rintro e w' ⟨v', h3, h4, h6⟩
    exact ⟨v', h3, h4, below_trans HB0.out h6⟩
  go_enter Tryd.func4, Tryd.ntmps4
  go_upto_region 2 with (go_at_call 8; refine Calls.mono HLA.out ?_; rintro e w4 ⟨v4, rfl, hp4, hb4⟩; obtain ⟨ma, mc, rfl⟩ := hp4.form; have HS4 : Hid (Pl w4 (.slice ma 2 mc) awL) := hp4; have HB4 : Hid (Below w.heap.size w w4) := hb4; clear hp4 hb4; rw [show awL.length = 2 from rfl]; unfold lgA)
  go_upto_region 3 with fail
  obtain ⟨W5, hW5⟩ : ∃ W5, W5 = w4.alloc (.cells #[.string ⟨#[]⟩, .slice none 0 0, .slice none 0 0, .slice none 0 0, .slice none 0 0, .slice none 0 0, .slice none 0 0, .slice none 0 0, .slice ma 2 mc, .slice none 0 0, .slice none 0 0, .slice none 0 0] 46) := ⟨_, rfl⟩
  rw [← hW5]
  have h5 : W5.heap[w4.heap.size]? = some (.cells #[.string ⟨#[]⟩, .slice none 0 0, .slice none 0 0, .slice none 0 0, .slice none 0 0, .slice none 0 0, .slice none 0 0, .slice none 0 0, .slice ma 2 mc, .slice none 0 0, .slice none 0 0, .slice none 0 0] 46 (0, 0)) := by rw [hW5]; exact heap_new w4 _
  have HB5 : Hid (Below w4.heap.size w4 W5) := by rw [hW5]; exact bel_up _ _
  obtain ⟨lb, hlb⟩ : ∃ lb, w4.heap.size = lb := ⟨_, rfl⟩
  rw [hlb] at h5 ⊢
  have HLC : Hid (∀ W, Below W5.heap.size W5 W → W.cell? ⟨lb, 0, none⟩ = some (.string ⟨#[]⟩) ∧ W.cell? ⟨lb, 1, none⟩ = some (.slice none 0 0) ∧ W.cell? ⟨lb, 2, none⟩ = some (.slice none 0 0) ∧ W.cell? ⟨lb, 3, none⟩ = some (.slice none 0 0) ∧ W.cell? ⟨lb, 4, none⟩ = some (.slice none 0 0) ∧ W.cell? ⟨lb, 5, none⟩ = some (.slice none 0 0) ∧ W.cell? ⟨lb, 6, none⟩ = some (.slice none 0 0) ∧ W.cell? ⟨lb, 7, none⟩ = some (.slice none 0 0) ∧ W.cell? ⟨lb, 8, none⟩ = some (.slice ma 2 mc) ∧ W.cell? ⟨lb, 9, none⟩ = some (.slice none 0 0) ∧ W.cell? ⟨lb, 10, none⟩ = some (.slice none 0 0) ∧ W.cell? ⟨lb, 11, none⟩ = some (.slice none 0 0)) := fun W hW => ⟨below_cell hW (rcell h5 0 _ rfl), below_cell hW (rcell h5 1 _ rfl), below_cell hW (rcell h5 2 _ rfl), below_cell hW (rcell h5 3 _ rfl), below_cell hW (rcell h5 4 _ rfl), below_cell hW (rcell h5 5 _ rfl), below_cell hW (rcell h5 6 _ rfl), below_cell hW (rcell h5 7 _ rfl), below_cell hW (rcell h5 8 _ rfl), below_cell hW (rcell h5 9 _ rfl), below_cell hW (rcell h5 10 _ rfl), below_cell hW (rcell h5 11 _ rfl)⟩
  have hsz : W5.heap.size = lb + 1 := by rw [hW5, World.size_alloc, hlb]
  obtain ⟨W6, hW6⟩ : ∃ W6, W6 = W5.alloc (.cells #[.string ⟨#[97]⟩, .bool true, .string ⟨#[]⟩, .int .i64 0, .int .i64 3, .int .i64 1, .int .i64 (-1), .string ⟨#[98]⟩, .bool false, .string ⟨#[]⟩, .int .i64 1, .int .i64 2, .int .i64 0, .int .i64 0] 53) := ⟨_, rfl⟩
  rw [← hW6]
  have HB6 : Hid (Below W5.heap.size W5 W6) := by rw [hW6]; exact bel_up _ _
  have HNS : Hid (Ns W6 (.slice (some ⟨lb + 1, 0, none⟩) 2 2) awT) := by
    have h9 := row_rw (World.ownsRow_lit (base := 0) (e := 53) (size := 7) W5 #[.string ⟨#[97]⟩, .bool true, .string ⟨#[]⟩, .int .i64 0, .int .i64 3, .int .i64 1, .int .i64 (-1), .string ⟨#[98]⟩, .bool false, .string ⟨#[]⟩, .int .i64 1, .int .i64 2, .int .i64 0, .int .i64 0] 2 (Nat.zero_le _) (by decide) rfl) (by decide)
    rw [← hW6, hsz] at h9
    exact h9
  clear hW5 hlb h5 hW6 hsz
  have HB46 : Hid (Below w4.heap.size w4 W6) := below_trans HB5.out HB6.out
  have HFO : Hid (Calls Tryd.prog 7 #[.agg #[.string ⟨#[]⟩, .slice none 0 0, .slice none 0 0, .slice none 0 0, .slice none 0 0, .slice none 0 0, .slice none 0 0, .slice none 0 0, .slice ma 2 mc, .slice none 0 0, .slice none 0 0, .slice none 0 0], .slice (some ⟨lb + 1, 0, none⟩) 2 2] W6 fun e w' => ∃ v, e = .returned v ∧ w'.ownsRow W6.heap.size 50 3 v 3 [.int .i64 0, .int .i64 1, .string ⟨#[120]⟩, .int .i64 1, .int .i64 2, .string ⟨#[121]⟩, .int .i64 2, .int .i64 3, .string ⟨#[120]⟩] ∧ Below W6.heap.size W6 w') := by
    have h9 := spans_any W6 (HS4.out.up HB46.out) HNS.out aw_zp aw_in
    rw [aw_spn] at h9
    exact h9
  have HC1 : Hid (∀ W, Below W6.heap.size W6 W → Calls Tryd.prog 10 #[.agg #[.string ⟨#[]⟩, .slice none 0 0, .slice none 0 0, .slice none 0 0, .slice none 0 0, .slice none 0 0, .slice none 0 0, .slice none 0 0, .slice ma 2 mc, .slice none 0 0, .slice none 0 0, .slice none 0 0], .slice (some ⟨lb + 1, 0, none⟩) 2 2, .int .i64 1] W fun e w' => e = .returned (.string ⟨#[121]⟩) ∧ Below W.heap.size W w') := fun W hW => by
    have h9 := class_any W ((HS4.out.up HB46.out).up hW) (HNS.out.up hW) aw_zp 1
    rw [aw_c1] at h9
    exact h9
  have HC2 : Hid (∀ W, Below W6.heap.size W6 W → Calls Tryd.prog 10 #[.agg #[.string ⟨#[]⟩, .slice none 0 0, .slice none 0 0, .slice none 0 0, .slice none 0 0, .slice none 0 0, .slice none 0 0, .slice none 0 0, .slice ma 2 mc, .slice none 0 0, .slice none 0 0, .slice none 0 0], .slice (some ⟨lb + 1, 0, none⟩) 2 2, .int .i64 2] W fun e w' => e = .returned (.string ⟨#[120]⟩) ∧ Below W.heap.size W w') := fun W hW => by
    have h9 := class_any W ((HS4.out.up HB46.out).up hW) (HNS.out.up hW) aw_zp 2
    rw [aw_c2] at h9
    exact h9
  obtain ⟨c0, c1, c2, c3, c4, c5, c6, c7, c8, c9, c10, c11⟩ := HLC.out W6 HB6.out
  go_upto_region 4 with (go_at_call 7; refine Calls.mono HFO.out ?_; rintro e w7 ⟨v7, rfl, ho7, hb7⟩; obtain ⟨a7, q7, rfl⟩ := row_shape ho7; have HO7 : Hid (w7.ownsRow W6.heap.size 50 3 (.slice a7 3 q7) 3 [.int .i64 0, .int .i64 1, .string ⟨#[120]⟩, .int .i64 1, .int .i64 2, .string ⟨#[121]⟩, .int .i64 2, .int .i64 3, .string ⟨#[120]⟩]) := ho7; have HB7 : Hid (Below W6.heap.size W6 w7) := hb7; clear ho7 hb7)
  clear c0 c1 c2 c3 c4 c5 c6 c7 c8 c9 c10 c11
  obtain ⟨c0, c1, c2, c3, c4, c5, c6, c7, c8, c9, c10, c11⟩ := HLC.out w7 (below_trans HB6.out HB7.out)
  obtain ⟨g7, rfl⟩ : ∃ g, a7 = some ⟨g, 0, none⟩ := by
    rcases HO7.out.2 with ⟨h1, h9⟩ | ⟨g, cap, cur, h1, -⟩
    · omega
    · exact ⟨g, (Value.slice.inj h1).1⟩
  have q1 := aw_eqSn
  go_wp2_with first | (have hx8 := HB8.out; clear hx8; go_at_call 10; refine Calls.mono (HC2.out _ (below_trans HB7.out HB8.out)) ?_; rintro e w9 ⟨rfl, hb9⟩; have HB9 : Hid (Below w8.heap.size w8 w9) := hb9; have HO9 := row_up (row_up HO7.out HB8.out) hb9; have f0 := row_at HO9 0 _ rfl; have f1 := row_at HO9 1 _ rfl; have f2 := row_at HO9 2 _ rfl; clear hb9 HO9) | (go_at_call 10; refine Calls.mono (HC1.out w7 HB7.out) ?_; rintro e w8 ⟨rfl, hb8⟩; have HB8 : Hid (Below w7.heap.size w7 w8) := hb8; obtain ⟨d0, d1, d2, d3, d4, d5, d6, d7, d8, d9, d10, d11⟩ := HLC.out w8 (below_trans HB6.out (below_trans HB7.out HB8.out)); clear hb8)
  go_ret
  exact ⟨rfl, below_trans HB4.out (below_trans HB46.out (below_trans HB7.out (below_trans HB8.out HB9.out)))⟩
end Go.Proofs.YtbkhhegmmkcbbaaDoor
