import Derived.Test.YtkaciochlemjiabDcz
namespace Go.Proofs.Ytkaciochlemjiab
open Go.RowKit Go.Maps

/-- The start's bytes. -/
abbrev sb : ByteArray := ⟨#[83, 0, 0, 0, 0, 0]⟩
def zs (p : Nat) : ByteArray := ⟨(List.replicate (5 - p) (0 : UInt8)).toArray⟩
theorem zs_ok : ∀ p, p < 5 → (zs p).extract 1 (zs p).size = zs (p + 1) ∧ 0 < (zs p).size ∧ (zs p).size ≤ 100 ∧ (zs p).get! 0 = 0 := by decide +kernel
theorem zs_end : zs 5 = ⟨#[]⟩ := by decide +kernel
theorem sb_ext : sb.extract 1 6 = zs 0 := by decide +kernel
/-- The start. -/
def st0 : Stt := ⟨[], -1, [], [], 0⟩
@[reducible] def stV : Value := .agg #[.slice none 0 0, .int .i64 (-1), .slice none 0 0, .slice none 0 0, .int .u16 0]
theorem st0_shp : st0.shp = true := by decide +kernel
theorem st0_stm (W : World) : Stm W (.slice none 0 0) (.slice none 0 0) (.slice none 0 0) st0 := ⟨Rw.nil W, Rw.nil W, Rw.nil W⟩
@[reducible] def zpen (p : Nat) : Int := if p ≤ 1 then 0 else -1
theorem dpart_any {B r b : Nat} (p : Nat) (hp : p < 5) (W : World) (hbr : b ≠ r) (hB1 : B ≤ b) (hB2 : B ≤ r) (hr : W.heap[r]? = some (.cells #[.string (zs p)] 56 (0, 0))) (hb : W.heap[b]? = some (.cells #[.slice none 0 0, .int .i64 (zpen p), .slice none 0 0, .slice none 0 0, .int .u16 0] 27 (0, 0))) :
    Calls Try.prog 26 #[.pointer (some ⟨r, 0, none⟩), .pointer (some ⟨b, 0, none⟩), .int .i64 (p : Int)] W fun e W' => e = .returned (.int .i64 0) ∧ Below B W W' ∧ W'.heap[r]? = some (.cells #[.string (zs (p + 1))] 56 (0, 0)) ∧ W'.heap[b]? = some (.cells #[.slice none 0 0, .int .i64 (zpen (p + 1)), .slice none 0 0, .slice none 0 0, .int .u16 0] 27 (0, 0)) := by
  obtain ⟨h1, h2, h3, h4⟩ := zs_ok p hp
  rw [← h1]
  obtain ⟨d, hd⟩ : ∃ d, zs p = d := ⟨_, rfl⟩
  rw [hd] at hr h2 h3 h4 ⊢
  clear h1
  match p, hp with
  | 0, _ =>
    have e1 : zpen 0 = 0 := by decide
    have e2 : zpen (0 + 1) = 0 := by decide
    have e3 : ((0 : Nat) : Int) = 0 := rfl
    rw [e1] at hb
    rw [e2, e3]
    exact dpart0_any W hbr hB1 hB2 h2 h3 h4 hr hb
  | 1, _ =>
    have e1 : zpen 1 = 0 := by decide
    have e2 : zpen (1 + 1) = -1 := by decide
    have e3 : ((1 : Nat) : Int) = 1 := rfl
    rw [e1] at hb
    rw [e2, e3]
    exact dpart1_any W hbr hB1 hB2 h2 h3 h4 hr hb
  | 2, _ =>
    have e1 : zpen 2 = -1 := by decide
    have e2 : zpen (2 + 1) = -1 := by decide
    have e3 : ((2 : Nat) : Int) = 2 := rfl
    rw [e1] at hb
    rw [e2, e3]
    exact dpart2_any W hbr hB1 hB2 h2 h3 h4 hr hb
  | 3, _ =>
    have e1 : zpen 3 = -1 := by decide
    have e2 : zpen (3 + 1) = -1 := by decide
    have e3 : ((3 : Nat) : Int) = 3 := rfl
    rw [e1] at hb
    rw [e2, e3]
    exact dpart3_any W hbr hB1 hB2 h2 h3 h4 hr hb
  | 4, _ =>
    have e1 : zpen 4 = -1 := by decide
    have e2 : zpen (4 + 1) = -1 := by decide
    have e3 : ((4 : Nat) : Int) = 4 := rfl
    rw [e1] at hb
    rw [e2, e3]
    exact dpart4_any W hbr hB1 hB2 h2 h3 h4 hr hb

set_option maxRecDepth 100000 in
set_option maxHeartbeats 4000000 in
theorem decode_start (w : World) : Calls Try.prog 13 #[.string sb] w fun e w' => e = .returned (.tuple #[stV, .int .i64 0]) ∧ Below w.heap.size w w' := by
  obtain ⟨W1, hW1⟩ : ∃ W1, W1 = ((w.alloc (.cells #[.slice none 0 0, .int .i64 0, .slice none 0 0, .slice none 0 0, .int .u16 0] 27)).alloc (.cells #[.slice none 0 0, .int .i64 0, .slice none 0 0, .slice none 0 0, .int .u16 0] 27)).alloc (.cells #[.string (zs 0)] 56) := ⟨_, rfl⟩
  have HZ : Hid (W1.heap[w.heap.size]? = some (.cells zrC 27 (0, 0))) := by
    rw [hW1, (bel_up _ _).block _ (by simp; omega), (bel_up _ _).block _ (by simp)]; exact heap_new w _
  have HB : Hid (W1.heap[w.heap.size + 1]? = some (.cells #[.slice none 0 0, .int .i64 (zpen 0), .slice none 0 0, .slice none 0 0, .int .u16 0] 27 (0, 0))) := by
    rw [hW1, (bel_up _ _).block _ (by simp)]
    have := heap_new (w.alloc (.cells #[.slice none 0 0, .int .i64 0, .slice none 0 0, .slice none 0 0, .int .u16 0] 27)) (.cells #[.slice none 0 0, .int .i64 0, .slice none 0 0, .slice none 0 0, .int .u16 0] 27)
    rw [World.size_alloc] at this
    exact this
  have HR : Hid (W1.heap[w.heap.size + 2]? = some (.cells #[.string (zs 0)] 56 (0, 0))) := by
    rw [hW1]
    have := heap_new ((w.alloc (.cells #[.slice none 0 0, .int .i64 0, .slice none 0 0, .slice none 0 0, .int .u16 0] 27)).alloc (.cells #[.slice none 0 0, .int .i64 0, .slice none 0 0, .slice none 0 0, .int .u16 0] 27)) (.cells #[.string (zs 0)] 56)
    rw [World.size_alloc, World.size_alloc] at this
    exact this
  have HBW : Hid (Below w.heap.size w W1) := by rw [hW1]; exact below_trans (below_trans (bel_up _ _) (bel_up _ _)) (bel_up _ _)
  have HW : Hid (W1 = ((w.alloc (.cells #[.slice none 0 0, .int .i64 0, .slice none 0 0, .slice none 0 0, .int .u16 0] 27)).alloc (.cells #[.slice none 0 0, .int .i64 0, .slice none 0 0, .slice none 0 0, .int .u16 0] 27)).alloc (.cells #[.string (zs 0)] 56)) := hW1
  have hix := idx_fact sb 0 (by decide)
  have hix2 : ∀ W : World, (Instr.index 9 (.string sb) (.int .i64 0)).run Try.prog W = .ok (.int .u8 83) W := fun W => hix W
  have hex := sb_ext
  have hem : sb.toList.isEmpty = false := toL_emp sb (by decide)
  clear hW1 hix
  go_enter Try.func13, Try.ntmps13
  go_upto_region 6 with fail
  rw [← HW.out]
  go_loopg [19] 5 (fun gm v wr => ∃ p : Nat, v = .int .i64 (p : Int) ∧ Hid (p ≤ 5 ∧ gm = 5 - p) ∧ Hid (wr.heap[w.heap.size + 2]? = some (.cells #[.string (zs p)] 56 (0, 0))) ∧ Hid (wr.heap[w.heap.size + 1]? = some (.cells #[.slice none 0 0, .int .i64 (zpen p), .slice none 0 0, .slice none 0 0, .int .u16 0] 27 (0, 0))) ∧ Hid (Below (w.heap.size + 1) W1 wr))
  case atStart => exact ⟨0, rfl, ⟨by omega, rfl⟩, HR, HB, Below.refl _ _⟩
  case round =>
    obtain ⟨p, rfl, HI, HR2, HB2, HBE⟩ := hrel
    by_cases hp : p < 5
    · have e1 : decide ((p : Int) < 5) = true := by rw [decide_eq_true_eq]; omega
      have e2 : decide (p < 5) = true := by rw [decide_eq_true_eq]; omega
      have HPL : Hid (p < 5) := hp
      have hwr := w64n p (by omega)
      clear hp
      go_wp2_with fail
      refine (dpart_any (B := w.heap.size + 1) p HPL.out wr (by omega) (by omega) (by omega) HR2.out HB2.out).mono ?_
      rintro e w5 ⟨rfl, h1, h2, h3⟩
      have H1 : Hid _ := HBE.out.trans h1
      have H2 : Hid _ := h2
      have H3 : Hid _ := h3
      clear h1 h2 h3
      go_wp2_with fail
      go_roundg (5 - (p + 1))
      case measure => have := HI.out; have := HPL.out; omega
      case rel => exact ⟨p + 1, by first | rfl | (rw [show (p : Int) + 1 = ((p + 1 : Nat) : Int) by omega]), ⟨HPL.out, rfl⟩, H2, H3, H1⟩
    · have e1 : decide ((p : Int) < 5) = false := by rw [decide_eq_false_iff_not]; omega
      have e2 : decide (p < 5) = false := by rw [decide_eq_false_iff_not]; omega
      have hp5 : p = 5 := by have := HI.out; omega
      subst hp5
      have hr := HR2.out
      rw [zs_end] at hr
      have kr : wr.cell? ⟨w.heap.size + 2, 0, none⟩ = some (.string ⟨#[]⟩) := by rw [Lib.cell_of_heap hr]; rfl
      have hb : wr.heap[w.heap.size + 1]? = some (.cells #[.slice none 0 0, .int .i64 (-1), .slice none 0 0, .slice none 0 0, .int .u16 0] 27 (0, 0)) := HB2.out
      have HK : Hid (wr.cell? ⟨w.heap.size + 1, 0, none⟩ = some (.slice none 0 0) ∧ wr.cell? ⟨w.heap.size + 1, 1, none⟩ = some (.int .i64 (-1)) ∧ wr.cell? ⟨w.heap.size + 1, 2, none⟩ = some (.slice none 0 0) ∧ wr.cell? ⟨w.heap.size + 1, 3, none⟩ = some (.slice none 0 0) ∧ wr.cell? ⟨w.heap.size + 1, 4, none⟩ = some (.int .u16 0)) := by
        refine ⟨?_, ?_, ?_, ?_, ?_⟩
        · rw [Lib.cell_of_heap hb]; rfl
        · rw [Lib.cell_of_heap hb]; rfl
        · rw [Lib.cell_of_heap hb]; rfl
        · rw [Lib.cell_of_heap hb]; rfl
        · rw [Lib.cell_of_heap hb]; rfl
      obtain ⟨k0, k1, k2, k3, k4⟩ := HK.out
      have HZZ : Hid (wr.heap[w.heap.size]? = some (.cells zrC 27 (0, 0))) := by rw [HBE.out.block _ (by omega)]; exact HZ.out
      have HBL : Hid (Below w.heap.size w wr) := HBW.out.trans (HBE.out.mono (by omega))
      have C16 : Hid (Calls Try.prog 15 #[stV] wr fun e w' => e = .returned (.bool true) ∧ Below wr.heap.size wr w') := by
        have := shaped_any (s := st0) wr (st0_stm wr)
        rw [st0_shp] at this
        exact this
      clear hp hr hb
      go_wp2_with fail
      refine Calls.mono C16.out ?_
      rintro e w6 ⟨rfl, hb6⟩
      have HB6 : Hid (Below wr.heap.size wr w6) := hb6
      have hz6 : w6.heap[w.heap.size]? = some (.cells zrC 27 (0, 0)) := by rw [hb6.block _ (lt_of_heap HZZ.out)]; exact HZZ.out
      have z0 : w6.cell? ⟨w.heap.size, 0, none⟩ = some (.slice none 0 0) := by rw [Lib.cell_of_heap hz6]; rfl
      have z1 : w6.cell? ⟨w.heap.size, 1, none⟩ = some (.int .i64 0) := by rw [Lib.cell_of_heap hz6]; rfl
      have z2 : w6.cell? ⟨w.heap.size, 2, none⟩ = some (.slice none 0 0) := by rw [Lib.cell_of_heap hz6]; rfl
      have z3 : w6.cell? ⟨w.heap.size, 3, none⟩ = some (.slice none 0 0) := by rw [Lib.cell_of_heap hz6]; rfl
      have z4 : w6.cell? ⟨w.heap.size, 4, none⟩ = some (.int .u16 0) := by rw [Lib.cell_of_heap hz6]; rfl
      have zf : ∀ k, w6.frozen? ⟨w.heap.size, k, none⟩ = false := fun k => Lib.frozen_of_heap hz6 k
      have m0 := below_cell hb6 k0
      have m1 := below_cell hb6 k1
      have m2 := below_cell hb6 k2
      have m3 := below_cell hb6 k3
      have m4 := below_cell hb6 k4
      clear hb6 hz6 k0 k1 k2 k3 k4 kr
      go_wp2_with fail
      (try simp only [Exit.inBlock, Exit.then])
      refine bodyPost_ret (v := .tuple #[stV, .int .i64 0]) ?_ rfl ⟨rfl, ?_⟩
      · rw [results_cell_tmp rfl]; go_simp
      · exact bel_five (below_trans HBL.out HB6.out) (Nat.le_refl _)
end Go.Proofs.Ytkaciochlemjiab
