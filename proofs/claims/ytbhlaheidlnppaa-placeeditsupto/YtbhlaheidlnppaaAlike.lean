import Derived.Test.YtbhlaheidlnppaaUnits
namespace Go.Proofs.Ytbhlaheidlnppaa
open Go.RowKit

/-- two indexes of one text have the same rows -/
theorem ix_same {w w' : World} {b b' : Nat} {s : ByteArray} {T T' : List ((Nat × Nat) × Value)} (h : Ix w b s T) (h' : Ix w' b' s T') : T.map (·.1) = T'.map (·.1) := h.rw.same h'.rw

set_option maxRecDepth 1000000 in
set_option maxHeartbeats 8000000 in
theorem alike_any (b b' : Nat) (s : ByteArray) (T T' : List ((Nat × Nat) × Value)) (n row col : Int) (w : World) (h : Ix w b s T) (h' : Ix w b' s T') :
    Calls Try.prog 24 #[.pointer (some ⟨b, 0, none⟩), .pointer (some ⟨b', 0, none⟩), .int .i64 n, .agg #[.int .i64 row, .int .i64 col]] w fun x w' => x = .returned (.bool true) ∧ Below w.heap.size w w' := by
  have hb0 := bel_up w (.cells #[.int .i64 row, .int .i64 col] 33)
  obtain ⟨k0, k1⟩ := cells2 w (.int .i64 row) (.int .i64 col) 33
  have hT := ix_same h h'
  have hlen : T.length = T'.length := by
    have := congrArg List.length hT
    simpa using this
  obtain ⟨t, j, x, q1, e1, a1, a2, a3⟩ := h.find n
  obtain ⟨y, ey, hyx⟩ := get_of_map (T := T') (i := j) (r := x.1) (by rw [← hT]; exact map_get e1)
  obtain ⟨W0, hW0⟩ : ∃ W0, W0 = w.alloc (.cells #[.int .i64 row, .int .i64 col] 33) := ⟨_, rfl⟩
  rw [← hW0] at hb0 k0 k1
  have R1 : Hid (∀ (W : World) (bb : Nat), Below W0.heap.size W0 W → (bb = b ∨ bb = b') → Calls Try.prog 12 #[.pointer (some ⟨bb, 0, none⟩)] W fun e w' => e = .returned (.int .i64 (T'.length : Int)) ∧ W = w') := fun W bb hW hbb => by
    rcases hbb with rfl | rfl
    · have := rows_any bb s T W (h.mono (below_trans hb0 hW))
      rwa [hlen] at this
    · exact rows_any bb s T' W (h'.mono (below_trans hb0 hW))
  have R2 : Hid (∀ (W : World) (bb : Nat), Below W0.heap.size W0 W → (bb = b ∨ bb = b') → Calls Try.prog 14 #[.pointer (some ⟨bb, 0, none⟩), .int .i64 n] W fun e w' => e = .returned (.agg #[.int .i64 (j : Int), .int .i64 ((t - x.1.1 : Nat) : Int)]) ∧ Below W.heap.size W w') := fun W bb hW hbb => by
    rcases hbb with rfl | rfl
    · exact pos_any bb s T n t j x W (h.mono (below_trans hb0 hW)) q1 e1 a1 a2
    · have := pos_any bb s T' n t j y W (h'.mono (below_trans hb0 hW)) q1 ey (by rw [hyx]; exact a1) (by rw [hyx]; exact a2)
      rwa [hyx] at this
  have R3 : Hid (∀ (W : World) (bb : Nat), Below W0.heap.size W0 W → (bb = b ∨ bb = b') → Calls Try.prog 19 #[.pointer (some ⟨bb, 0, none⟩), .int .i64 n] W fun e w' => e = .returned (.agg #[.int .i64 (j : Int), .int .i64 ((lastB (s.extract x.1.1 x.1.2) (winAt ((t - x.1.1 : Nat) : Int))).2 : Int)]) ∧ Below W.heap.size W w') := fun W bb hW hbb => by
    rcases hbb with rfl | rfl
    · exact wide_any bb s T n t j x W (h.mono (below_trans hb0 hW)) q1 e1 a1 a2
    · have := wide_any bb s T' n t j y W (h'.mono (below_trans hb0 hW)) q1 ey (by rw [hyx]; exact a1) (by rw [hyx]; exact a2)
      rwa [hyx] at this
  have R4 : Hid (∀ (W : World) (bb : Nat), Below W0.heap.size W0 W → (bb = b ∨ bb = b') → Calls Try.prog 16 #[.pointer (some ⟨bb, 0, none⟩), .agg #[.int .i64 row, .int .i64 col]] W fun e w' => e = .returned (.int .i64 (atS s (T'.map (·.1)) row col)) ∧ Below W.heap.size W w') := fun W bb hW hbb => by
    rcases hbb with rfl | rfl
    · have := at_any bb s T row col W (h.mono (below_trans hb0 hW))
      rwa [hT] at this
    · exact at_any bb s T' row col W (h'.mono (below_trans hb0 hW))
  have R5 : Hid (∀ (W : World) (bb : Nat), Below W0.heap.size W0 W → (bb = b ∨ bb = b') → Calls Try.prog 20 #[.pointer (some ⟨bb, 0, none⟩), .agg #[.int .i64 row, .int .i64 col]] W fun e w' => e = .returned (.int .i64 (atW s (T'.map (·.1)) row col)) ∧ Below W.heap.size W w') := fun W bb hW hbb => by
    rcases hbb with rfl | rfl
    · have := atWide_any bb s T row col W (h.mono (below_trans hb0 hW))
      rwa [hT] at this
    · exact atWide_any bb s T' row col W (h'.mono (below_trans hb0 hW))
  have R6 : Hid (∀ m : Int, ∃ (va vb : Int) (vc : Bool), ∀ (W : World) (bb : Nat), Below W0.heap.size W0 W → (bb = b ∨ bb = b') → Calls Try.prog 10 #[.pointer (some ⟨bb, 0, none⟩), .int .i64 m] W fun e w' => e = .returned (.tuple #[.agg #[.int .i64 va, .int .i64 vb], .bool vc]) ∧ Below W.heap.size W w') := fun m => by
    by_cases hm : m < 0 ∨ (T'.length : Int) ≤ m
    · refine ⟨0, 0, false, fun W bb hW hbb => ?_⟩
      rcases hbb with rfl | rfl
      · exact row_none bb s T m W (h.mono (below_trans hb0 hW)) (by rw [hlen]; exact hm)
      · exact row_none bb s T' m W (h'.mono (below_trans hb0 hW)) hm
    · obtain ⟨i, hi⟩ : ∃ i : Nat, m = i := ⟨m.toNat, by omega⟩
      subst hi
      obtain ⟨z, hz⟩ := getT (T := T) (i := i) (by omega)
      obtain ⟨z', ez, hzz⟩ := get_of_map (T := T') (i := i) (r := z.1) (by rw [← hT]; exact map_get hz)
      refine ⟨z.1.1, z.1.2, true, fun W bb hW hbb => ?_⟩
      rcases hbb with rfl | rfl
      · exact row_some bb s T i z W (h.mono (below_trans hb0 hW)) hz
      · have := row_some bb s T' i z' W (h'.mono (below_trans hb0 hW)) ez
        rwa [hzz] at this
  have hl2 : T'.length ≤ 1099511627777 := by
    have := h'.rw.len
    have := h'.size
    simp at *
    omega
  generalize T'.length = len at *
  generalize atS s (T'.map (·.1)) row col = r4 at *
  generalize atW s (T'.map (·.1)) row col = r5 at *
  generalize ((t - x.1.1 : Nat) : Int) = c2 at *
  generalize (lastB (s.extract x.1.1 x.1.2) (winAt c2)).2 = c3 at *
  have B0 : Hid _ := hb0
  have HE : Hid _ := hW0
  have HP : Hid (∀ W, Below W0.heap.size W0 W → W.cell? ⟨w.heap.size, 0, none⟩ = some (.int .i64 row) ∧ W.cell? ⟨w.heap.size, 1, none⟩ = some (.int .i64 col) ∧ Below W0.heap.size W0 W) := fun W hW => ⟨below_cell hW k0, below_cell hW k1, hW⟩
  have HB : Hid (∀ W, (W.cell? ⟨w.heap.size, 0, none⟩ = some (.int .i64 row) ∧ W.cell? ⟨w.heap.size, 1, none⟩ = some (.int .i64 col) ∧ Below W0.heap.size W0 W) → Below W0.heap.size W0 W) := fun W h => h.2.2
  clear h h' hT hlen q1 e1 a1 a2 a3 ey hyx hb0 hW0 k0 k1
  go_enter Try.func24, Try.ntmps24
  go_upto_region 1 with fail
  rw [← HE.out]
  go_cut [54] from 14 (fun v wd => v = .bool false ∧ Below W0.heap.size W0 wd)
  case first =>
    clear HE B0 R6 hl2
    go_region_held3 (fun W => W.cell? ⟨w.heap.size, 0, none⟩ = some (.int .i64 row) ∧ W.cell? ⟨w.heap.size, 1, none⟩ = some (.int .i64 col) ∧ Below W0.heap.size W0 W) (first | exact HP.out _ (Below.drew (Below.refl _ _)) | exact HP.out _ (below_trans (HB.out _ (by assumption)) hb) | assumption)
      (first
      | (go_at_call 12; refine (R1.out _ _ ?_ ?_).mono ?_; exact HB.out _ (by assumption); (first | exact Or.inl rfl | exact Or.inr rfl); rintro e w1 ⟨rfl, rfl⟩)
      | (go_at_call 14; refine (R2.out _ _ ?_ ?_).mono ?_; exact HB.out _ (by assumption); (first | exact Or.inl rfl | exact Or.inr rfl); rintro e w1 ⟨rfl, hb⟩)
      | (go_at_call 19; refine (R3.out _ _ ?_ ?_).mono ?_; exact HB.out _ (by assumption); (first | exact Or.inl rfl | exact Or.inr rfl); rintro e w1 ⟨rfl, hb⟩)
      | (go_at_call 16; refine (R4.out _ _ ?_ ?_).mono ?_; exact HB.out _ (by assumption); (first | exact Or.inl rfl | exact Or.inr rfl); rintro e w1 ⟨rfl, hb⟩)
      | (go_at_call 20; refine (R5.out _ _ ?_ ?_).mono ?_; exact HB.out _ (by assumption); (first | exact Or.inl rfl | exact Or.inr rfl); rintro e w1 ⟨rfl, hb⟩))
    all_goals
      go_wp2_with fail
      go_meet
      exact ⟨by simp, HB.out _ (by assumption)⟩
  case rest =>
    obtain ⟨rfl, hbd⟩ := hcut
    have D1 : Hid _ := hbd
    clear hbd HP HB R2 R3 R4 R5
    go_wp2_with fail
    go_loopg [9] (len + 2) (fun gk v wr => ∃ m : Int, v = .int .i64 m ∧ -1 ≤ m ∧ m ≤ (len : Int) + 1 ∧ (gk : Int) = (len : Int) + 1 - m ∧ Below W0.heap.size W0 wr)
    case atStart => exact ⟨-1, rfl, by omega, by omega, by omega, D1.out⟩
    case round =>
      obtain ⟨m, rfl, h1, h2, hgk, hbw⟩ := hrel
      obtain ⟨va, vb, vc, hrow⟩ := R6.out m
      have HR : Hid _ := hrow
      have HBW : Hid _ := hbw
      have HK : Hid _ := hgk
      have R1' : Hid _ := R1.out wr b' hbw (Or.inr rfl)
      clear hrow hbw hgk
      by_cases hm : m ≤ (len : Int)
      · go_wp2_with fail
        refine Calls.mono R1'.out ?_
        rintro z w' ⟨rfl, rfl⟩
        go_wp2_with fail
        refine (HR.out _ b HBW.out (Or.inl rfl)).mono ?_
        rintro z w2 ⟨rfl, hb⟩
        have D2 : Hid (Below W0.heap.size W0 (w2.alloc (.cells #[.int .i64 va, .int .i64 vb] 25))) := below_trans (below_trans HBW.out hb) (bel_up _ _)
        clear hb
        go_wp2_with fail
        refine (HR.out _ b' D2.out (Or.inr rfl)).mono ?_
        rintro z w3 ⟨rfl, hb⟩
        have x0 := cell_up (.cells #[.int .i64 va, .int .i64 vb] 25) (below_cell hb (cells2 w2 (.int .i64 va) (.int .i64 vb) 25).1)
        have x1 := cell_up (.cells #[.int .i64 va, .int .i64 vb] 25) (below_cell hb (cells2 w2 (.int .i64 va) (.int .i64 vb) 25).2)
        have D3 : Hid (Below W0.heap.size W0 (w3.alloc (.cells #[.int .i64 va, .int .i64 vb] 25))) := below_trans (below_trans D2.out hb) (bel_up _ _)
        have hvc : (vc == vc) = true := by simp
        clear hb
        cases vc
        · go_wp2_with fail
          go_roundg ((len + 1 - (m + 1)).toNat)
          case measure => have := HK.out; omega
          case rel => exact ⟨m + 1, rfl, by omega, by omega, by omega, D3.out⟩
        · go_wp2_with fail
          go_roundg ((len + 1 - (m + 1)).toNat)
          case measure => have := HK.out; omega
          case rel => exact ⟨m + 1, rfl, by omega, by omega, by omega, D3.out⟩
      · go_wp2_with fail
        refine Calls.mono R1'.out ?_
        rintro z w' ⟨rfl, rfl⟩
        go_wp2_with fail
        go_ret
        exact ⟨rfl, below_trans B0.out HBW.out⟩

end Go.Proofs.Ytbhlaheidlnppaa
