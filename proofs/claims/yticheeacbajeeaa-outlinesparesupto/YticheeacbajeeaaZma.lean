import Derived.Test.YticheeacbajeeaaOft
namespace Go.Proofs.Yticheeacbajeeaa
open Go.RowKit Go.Maps

/-- The row of a place, by the rows written out. -/
theorem rwo_is {s : ByteArray} {R : List (Nat × Nat)} (h : Pc.Rw s 0 s.size R) {t j : Nat} {r : Nat × Nat} (hj : R[j]? = some r) (h1 : r.1 ≤ t) (h2 : t ≤ r.2) (ht : t ≤ s.size) : rwo s t = j := by
  obtain ⟨q, k1, k2, k3⟩ := rwo_at ht
  have e := (rws_rw s).same h
  rw [e] at k1
  exact h.uniq k1 hj k2 k3 h1 h2
def awF : List ByteArray := [⟨#[100]⟩]
def awM : List Pa := [⟨⟨#[100]⟩, ⟨#[102]⟩⟩]
def awT : List Nd := [⟨⟨#[100]⟩, true, ⟨#[]⟩, 0, 3, 1, -1⟩, ⟨⟨#[120]⟩, false, ⟨#[102]⟩, 0, 1, 0, 0⟩]
def awS : ByteArray := ⟨#[97, 10, 98]⟩
theorem aw_0 : ∀ k, 0 ≤ k → k < 1 → awS.get! k ≠ 10 := fun k _ h => by
  have e : k = 0 := by omega
  rw [e]; decide +kernel
theorem aw_2 : ∀ k, 2 ≤ k → k < 3 → awS.get! k ≠ 10 := fun k h1 h2 => by
  have e : k = 2 := by omega
  rw [e]; decide +kernel
theorem aw_rw : Pc.Rw awS 0 awS.size [(0, 1), (2, 3)] := (Pc.Rw.one (s := awS) (a := 0) (e := 1) (by decide) (by decide +kernel) aw_0).app (Pc.Rw.one (s := awS) (a := 2) (e := 3) (by decide) (by decide +kernel) aw_2) (by decide +kernel)
theorem aw_rgt : rgt awT awS.size = true := by decide +kernel
theorem aw_syl : syl awM awT awS = [⟨⟨#[100]⟩, ⟨#[97]⟩, 0, 3, 0⟩] := by kernel_rfl
theorem aw_fl : fl awF awS awT = [(0, 1)] := by
  have e0 : rwo awS 0 = 0 := rwo_is aw_rw (j := 0) rfl (by decide) (by decide) (by decide +kernel)
  have e1 : rwo awS 2 = 1 := rwo_is aw_rw (j := 1) rfl (by decide) (by decide) (by decide +kernel)
  have ef : awT.filter (tfd awF) = [⟨⟨#[100]⟩, true, ⟨#[]⟩, 0, 3, 1, -1⟩] := by
    have t1 : tfd awF ⟨⟨#[100]⟩, true, ⟨#[]⟩, 0, 3, 1, -1⟩ = true := by decide +kernel
    have t2 : tfd awF ⟨⟨#[120]⟩, false, ⟨#[102]⟩, 0, 1, 0, 0⟩ = false := by decide +kernel
    unfold awT
    rw [List.filter_cons_of_pos t1, List.filter_cons_of_neg (by rw [t2]; decide), List.filter_nil]
  unfold fl rl
  rw [ef]
  have k0 : nfr awS ⟨⟨#[100]⟩, true, ⟨#[]⟩, 0, 3, 1, -1⟩ = 0 := e0
  have k1 : nlr awS ⟨⟨#[100]⟩, true, ⟨#[]⟩, 0, 3, 1, -1⟩ = 1 := by
    unfold nlr
    rw [if_neg (by decide)]
    exact e1
  rw [List.map_cons, List.map_nil, k0, k1]
  rfl
theorem aw_fol : fol awF awT awS = [(0, 1)] := by
  have h1 := fol_cn (F := awF) aw_rgt
  rw [aw_fl] at h1
  refine h1.uniq ⟨List.pairwise_singleton _ _, fun x => ?_⟩
  constructor
  · intro hx
    refine ⟨hx, fun y hy _ => ?_⟩
    rw [List.mem_singleton] at hx hy
    rw [hx, hy]; exact Nat.le_refl _
  · exact fun h => h.1
theorem aw_zf : Zf awF awT awS := ⟨by decide, by unfold Sm; decide, fun x hx => by rw [List.mem_singleton.1 hx]; decide, fun x hx => by
  rcases List.mem_cons.1 hx with rfl | hx
  · decide
  · rw [List.mem_singleton.1 hx]; decide, by decide⟩
theorem aw_zo : Zo awM awT awS := ⟨by decide, by unfold Sm; decide, fun x hx => by rw [List.mem_singleton.1 hx]; decide, fun x hx => by
  rcases List.mem_cons.1 hx with rfl | hx
  · decide
  · rw [List.mem_singleton.1 hx]; decide, by decide⟩
end Go.Proofs.Yticheeacbajeeaa
namespace Go.Proofs.Yticheeacbajeeaa
open Go.RowKit Go.Maps

theorem aw_eqF (W : World) : (Op.equalIn 10000 57 (.agg #[.int .i64 0, .int .i64 1]) (.agg #[.int .i64 0, .int .i64 1])).run Try.prog W = .ok true W := by
  go_simp
theorem aw_eqS (W : World) : (Op.equalIn 10000 59 (.agg #[.string ⟨#[100]⟩, .string ⟨#[97]⟩, .int .i64 0, .int .i64 3, .int .i64 0]) (.agg #[.string ⟨#[100]⟩, .string ⟨#[97]⟩, .int .i64 0, .int .i64 3, .int .i64 0])).run Try.prog W = .ok true W := by
  go_simp
set_option maxRecDepth 100000 in
set_option maxHeartbeats 8000000 in
/-- The program is awake. -/
theorem awake_any (w : World) : Calls Try.prog 14 #[] w fun e w' => e = .returned (.bool true) ∧ Below w.heap.size w w' := by
  have HB0 : Hid (Below w.heap.size w ((w.alloc (.cells #[.string ⟨#[100]⟩] 9)).alloc (.cells #[.string ⟨#[100]⟩, .string ⟨#[102]⟩] 74))) := below_trans (bel_up _ _) (bel_up _ _)
  have HLA : Hid (Calls Try.prog 10 #[.agg #[.slice (some ⟨w.heap.size, 0, none⟩) 1 1, .slice (some ⟨w.heap.size + 1, 0, none⟩) 1 1]] ((w.alloc (.cells #[.string ⟨#[100]⟩] 9)).alloc (.cells #[.string ⟨#[100]⟩, .string ⟨#[102]⟩] 74)) fun e w' => ∃ v' u', e = .returned (.agg (lgO v' u')) ∧ Ss w' v' awF ∧ Pl w' u' awM ∧ Below w.heap.size w w') := by
    have h1 : Ss (w.alloc (.cells #[.string ⟨#[100]⟩] 9)) (.slice (some ⟨w.heap.size, 0, none⟩) 1 1) awF := row_rw (World.ownsRow_lit (base := 0) (e := 9) (size := 1) w #[.string ⟨#[100]⟩] 1 (Nat.zero_le _) (by decide) rfl) (by decide)
    have h2 : Pl ((w.alloc (.cells #[.string ⟨#[100]⟩] 9)).alloc (.cells #[.string ⟨#[100]⟩, .string ⟨#[102]⟩] 74)) (.slice (some ⟨w.heap.size + 1, 0, none⟩) 1 1) awM := by
      have h9 := row_rw (World.ownsRow_lit (base := 0) (e := 74) (size := 2) (w.alloc (.cells #[.string ⟨#[100]⟩] 9)) #[.string ⟨#[100]⟩, .string ⟨#[102]⟩] 1 (Nat.zero_le _) (by decide) rfl) (by decide)
      rw [World.size_alloc] at h9
      exact h9
    refine Calls.mono (lang_any _ (h1.up (bel_up _ _)) h2 (by decide) (by decide)) ?_
    rintro e w' ⟨v', u', h3, h4, h5, h6⟩
    exact ⟨v', u', h3, h4, h5, below_trans HB0.out h6⟩
  go_enter Try.func14, Try.ntmps14
  go_upto_region 2 with (go_at_call 10; refine Calls.mono HLA.out ?_; rintro e w4 ⟨v4, u4, rfl, hs4, hp4, hb4⟩; obtain ⟨fa, fc, rfl⟩ := hs4.form; obtain ⟨ma, mc, rfl⟩ := hp4.form; have HS4 : Hid (Ss w4 (.slice fa 1 fc) awF ∧ Pl w4 (.slice ma 1 mc) awM) := ⟨hs4, hp4⟩; have HB4 : Hid (Below w.heap.size w w4) := hb4; clear hs4 hp4 hb4; rw [show awF.length = 1 from rfl, show awM.length = 1 from rfl]; unfold lgO)
  go_upto_region 3 with fail
  obtain ⟨W5, hW5⟩ : ∃ W5, W5 = w4.alloc (.cells #[.string ⟨#[]⟩, .slice none 0 0, .slice none 0 0, .slice none 0 0, .slice none 0 0, .slice none 0 0, .slice none 0 0, .slice none 0 0, .slice none 0 0, .slice fa 1 fc, .slice ma 1 mc, .slice none 0 0] 45) := ⟨_, rfl⟩
  rw [← hW5]
  have h5 : W5.heap[w4.heap.size]? = some (.cells #[.string ⟨#[]⟩, .slice none 0 0, .slice none 0 0, .slice none 0 0, .slice none 0 0, .slice none 0 0, .slice none 0 0, .slice none 0 0, .slice none 0 0, .slice fa 1 fc, .slice ma 1 mc, .slice none 0 0] 45 (0, 0)) := by rw [hW5]; exact heap_new w4 _
  have HB5 : Hid (Below w4.heap.size w4 W5) := by rw [hW5]; exact bel_up _ _
  obtain ⟨lb, hlb⟩ : ∃ lb, w4.heap.size = lb := ⟨_, rfl⟩
  rw [hlb] at h5 ⊢
  have HLC : Hid (∀ W, Below W5.heap.size W5 W → W.cell? ⟨lb, 0, none⟩ = some (.string ⟨#[]⟩) ∧ W.cell? ⟨lb, 1, none⟩ = some (.slice none 0 0) ∧ W.cell? ⟨lb, 2, none⟩ = some (.slice none 0 0) ∧ W.cell? ⟨lb, 3, none⟩ = some (.slice none 0 0) ∧ W.cell? ⟨lb, 4, none⟩ = some (.slice none 0 0) ∧ W.cell? ⟨lb, 5, none⟩ = some (.slice none 0 0) ∧ W.cell? ⟨lb, 6, none⟩ = some (.slice none 0 0) ∧ W.cell? ⟨lb, 7, none⟩ = some (.slice none 0 0) ∧ W.cell? ⟨lb, 8, none⟩ = some (.slice none 0 0) ∧ W.cell? ⟨lb, 9, none⟩ = some (.slice fa 1 fc) ∧ W.cell? ⟨lb, 10, none⟩ = some (.slice ma 1 mc) ∧ W.cell? ⟨lb, 11, none⟩ = some (.slice none 0 0)) := fun W hW => ⟨below_cell hW (rcell h5 0 _ rfl), below_cell hW (rcell h5 1 _ rfl), below_cell hW (rcell h5 2 _ rfl), below_cell hW (rcell h5 3 _ rfl), below_cell hW (rcell h5 4 _ rfl), below_cell hW (rcell h5 5 _ rfl), below_cell hW (rcell h5 6 _ rfl), below_cell hW (rcell h5 7 _ rfl), below_cell hW (rcell h5 8 _ rfl), below_cell hW (rcell h5 9 _ rfl), below_cell hW (rcell h5 10 _ rfl), below_cell hW (rcell h5 11 _ rfl)⟩
  have hsz : W5.heap.size = lb + 1 := by rw [hW5, World.size_alloc, hlb]
  obtain ⟨W6, hW6⟩ : ∃ W6, W6 = W5.alloc (.cells #[.string ⟨#[100]⟩, .bool true, .string ⟨#[]⟩, .int .i64 0, .int .i64 3, .int .i64 1, .int .i64 (-1), .string ⟨#[120]⟩, .bool false, .string ⟨#[102]⟩, .int .i64 0, .int .i64 1, .int .i64 0, .int .i64 0] 50) := ⟨_, rfl⟩
  rw [← hW6]
  have HB6 : Hid (Below W5.heap.size W5 W6) := by rw [hW6]; exact bel_up _ _
  have HNS : Hid (Ns W6 (.slice (some ⟨lb + 1, 0, none⟩) 2 2) awT) := by
    have h9 := row_rw (World.ownsRow_lit (base := 0) (e := 50) (size := 7) W5 #[.string ⟨#[100]⟩, .bool true, .string ⟨#[]⟩, .int .i64 0, .int .i64 3, .int .i64 1, .int .i64 (-1), .string ⟨#[120]⟩, .bool false, .string ⟨#[102]⟩, .int .i64 0, .int .i64 1, .int .i64 0, .int .i64 0] 2 (Nat.zero_le _) (by decide) rfl) (by decide)
    rw [← hW6, hsz] at h9
    exact h9
  clear hW5 hlb h5 hW6 hsz
  have HB46 : Hid (Below w4.heap.size w4 W6) := below_trans HB5.out HB6.out
  have HFO : Hid (Calls Try.prog 15 #[.agg #[.string ⟨#[]⟩, .slice none 0 0, .slice none 0 0, .slice none 0 0, .slice none 0 0, .slice none 0 0, .slice none 0 0, .slice none 0 0, .slice none 0 0, .slice fa 1 fc, .slice ma 1 mc, .slice none 0 0], .slice (some ⟨lb + 1, 0, none⟩) 2 2, .string ⟨#[97, 10, 98]⟩] W6 fun e w' => ∃ v, e = .returned v ∧ w'.ownsRow W6.heap.size 57 2 v 1 [.int .i64 0, .int .i64 1] ∧ Below W6.heap.size W6 w') := by
    have h9 := folds_any awS W6 (HS4.out.1.up HB46.out) (HS4.out.2.up HB46.out) HNS.out aw_zf
    rw [aw_fol] at h9
    exact h9
  have HSY : Hid (∀ W, Below W6.heap.size W6 W → Calls Try.prog 9 #[.agg #[.string ⟨#[]⟩, .slice none 0 0, .slice none 0 0, .slice none 0 0, .slice none 0 0, .slice none 0 0, .slice none 0 0, .slice none 0 0, .slice none 0 0, .slice fa 1 fc, .slice ma 1 mc, .slice none 0 0], .slice (some ⟨lb + 1, 0, none⟩) 2 2, .string ⟨#[97, 10, 98]⟩] W fun e w' => ∃ v, e = .returned v ∧ w'.ownsRow W.heap.size 59 5 v 1 [.string ⟨#[100]⟩, .string ⟨#[97]⟩, .int .i64 0, .int .i64 3, .int .i64 0] ∧ Below W.heap.size W w') := fun W hW => by
    have h9 := symbolsL_any awS W ((HS4.out.1.up HB46.out).up hW) ((HS4.out.2.up HB46.out).up hW) (HNS.out.up hW) aw_zo
    rw [aw_syl] at h9
    exact h9
  obtain ⟨c0, c1, c2, c3, c4, c5, c6, c7, c8, c9, c10, c11⟩ := HLC.out W6 HB6.out
  go_upto_region 4 with (go_at_call 15; refine Calls.mono HFO.out ?_; rintro e w7 ⟨v7, rfl, ho7, hb7⟩; obtain ⟨a7, q7, rfl⟩ := row_shape ho7; have HO7 : Hid (w7.ownsRow W6.heap.size 57 2 (.slice a7 1 q7) 1 [.int .i64 0, .int .i64 1]) := ho7; have HB7 : Hid (Below W6.heap.size W6 w7) := hb7; clear ho7 hb7)
  clear c0 c1 c2 c3 c4 c5 c6 c7 c8 c9 c10 c11
  obtain ⟨c0, c1, c2, c3, c4, c5, c6, c7, c8, c9, c10, c11⟩ := HLC.out w7 (below_trans HB6.out HB7.out)
  go_upto_region 5 with (go_at_call 9; refine Calls.mono (HSY.out w7 HB7.out) ?_; rintro e w8 ⟨v8, rfl, ho8, hb8⟩; obtain ⟨a8, q8, rfl⟩ := row_shape ho8; have HO8 : Hid (w8.ownsRow w7.heap.size 59 5 (.slice a8 1 q8) 1 [.string ⟨#[100]⟩, .string ⟨#[97]⟩, .int .i64 0, .int .i64 3, .int .i64 0]) := ho8; have HB8 : Hid (Below w7.heap.size w7 w8) := hb8; clear ho8 hb8)
  clear c0 c1 c2 c3 c4 c5 c6 c7 c8 c9 c10 c11
  have hO7 := row_up HO7.out HB8.out
  obtain ⟨g7, rfl⟩ : ∃ g, a7 = some ⟨g, 0, none⟩ := by
    rcases hO7.2 with ⟨h1, h9⟩ | ⟨g, cap, cur, h1, -⟩
    · omega
    · exact ⟨g, (Value.slice.inj h1).1⟩
  obtain ⟨g8, rfl⟩ : ∃ g, a8 = some ⟨g, 0, none⟩ := by
    rcases HO8.out.2 with ⟨h1, h9⟩ | ⟨g, cap, cur, h1, -⟩
    · omega
    · exact ⟨g, (Value.slice.inj h1).1⟩
  have f0 := row_at hO7 0 _ rfl
  have f1 := row_at hO7 1 _ rfl
  have s0 := row_at HO8.out 0 _ rfl
  have s1 := row_at HO8.out 1 _ rfl
  have s2 := row_at HO8.out 2 _ rfl
  have s3 := row_at HO8.out 3 _ rfl
  have s4 := row_at HO8.out 4 _ rfl
  have q1 := aw_eqF
  have q2 := aw_eqS
  clear hO7
  go_wp2_with fail
  go_ret
  exact ⟨rfl, below_trans HB4.out (below_trans HB46.out (below_trans HB7.out HB8.out))⟩
end Go.Proofs.Yticheeacbajeeaa
