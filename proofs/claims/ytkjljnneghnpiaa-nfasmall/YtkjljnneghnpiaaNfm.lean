import Derived.Test.YtkjljnneghnpiaaBase
import Derived.Test.YtkjljnneghnpiaaNfp
import Derived.ChangeKeysEq
import Derived.Laws.StructEq
namespace Go.Proofs.Ytkjljnneghnpiaa
open Go.RowKit
theorem info38 : (Try.prog.info? 38).map (fun i => (i.zero, i.size, i.bytes)) = some (some (.int .u64 0), 1, 8) := by kernel_rfl
theorem cells38 : Try.prog.cellsOf 38 = 1 := by kernel_rfl
theorem range4 : List.range 4 = [0, 1, 2, 3] := by decide
theorem eq40 (d : Nat) (x0 x1 x2 x3 y0 y1 y2 y3 : Nat) (W : World) : (Op.equalIn (d + 2) 40 (.agg #[.int .u64 (x0 : Int), .int .u64 (x1 : Int), .int .u64 (x2 : Int), .int .u64 (x3 : Int)]) (.agg #[.int .u64 (y0 : Int), .int .u64 (y1 : Int), .int .u64 (y2 : Int), .int .u64 (y3 : Int)])).run Try.prog W = .ok (decide (x0 = y0 ∧ x1 = y1 ∧ x2 = y2 ∧ x3 = y3)) W := by
  obtain ⟨i0, hi, hz0, hz1, hz2⟩ := info_parts info38
  have p : ∀ (a b c e : Value) (j : Nat) (v : Value), #[a, b, c, e][j]? = some v → ∀ W : World, (part 38 #[a, b, c, e] (j * 1)).run Try.prog W = .ok v W := by
    intro a b c e j v hj W
    simp only [part, Sem.run_bind, Try.isAgg38, Result.andThen_ok, Nat.mul_one, hj]
    rfl
  rw [run_equalIn_array W (d + 1) _ _ Try.underlying40 hi, cells38, range4]
  have q0 := fun W => p (.int .u64 (x0 : Int)) (.int .u64 (x1 : Int)) (.int .u64 (x2 : Int)) (.int .u64 (x3 : Int)) 0 (.int .u64 (x0 : Int)) rfl W
  have q1 := fun W => p (.int .u64 (x0 : Int)) (.int .u64 (x1 : Int)) (.int .u64 (x2 : Int)) (.int .u64 (x3 : Int)) 1 (.int .u64 (x1 : Int)) rfl W
  have q2 := fun W => p (.int .u64 (x0 : Int)) (.int .u64 (x1 : Int)) (.int .u64 (x2 : Int)) (.int .u64 (x3 : Int)) 2 (.int .u64 (x2 : Int)) rfl W
  have q3 := fun W => p (.int .u64 (x0 : Int)) (.int .u64 (x1 : Int)) (.int .u64 (x2 : Int)) (.int .u64 (x3 : Int)) 3 (.int .u64 (x3 : Int)) rfl W
  have r0 := fun W => p (.int .u64 (y0 : Int)) (.int .u64 (y1 : Int)) (.int .u64 (y2 : Int)) (.int .u64 (y3 : Int)) 0 (.int .u64 (y0 : Int)) rfl W
  have r1 := fun W => p (.int .u64 (y0 : Int)) (.int .u64 (y1 : Int)) (.int .u64 (y2 : Int)) (.int .u64 (y3 : Int)) 1 (.int .u64 (y1 : Int)) rfl W
  have r2 := fun W => p (.int .u64 (y0 : Int)) (.int .u64 (y1 : Int)) (.int .u64 (y2 : Int)) (.int .u64 (y3 : Int)) 2 (.int .u64 (y2 : Int)) rfl W
  have r3 := fun W => p (.int .u64 (y0 : Int)) (.int .u64 (y1 : Int)) (.int .u64 (y2 : Int)) (.int .u64 (y3 : Int)) 3 (.int .u64 (y3 : Int)) rfl W
  have e0 : ∀ (a b : Nat) (W : World), (Op.equalIn (d + 1) 38 (.int .u64 (a : Int)) (.int .u64 (b : Int))).run Try.prog W = .ok (decide (a = b)) W := by
    intro a b W
    rw [run_equalIn_int W d 38 .u64 .u64 _ _ Try.underlying38]
    have h : ((a : Int) == (b : Int)) = decide (a = b) := by
      by_cases h : a = b
      · subst h; simp
      · have h1 : ((a : Int) == (b : Int)) = false := by rw [beq_eq_false_iff_ne]; omega
        rw [h1]; simp [h]
    rw [h]
  have g : decide (x0 = y0 ∧ x1 = y1 ∧ x2 = y2 ∧ x3 = y3) = (decide (x0 = y0) && (decide (x1 = y1) && (decide (x2 = y2) && decide (x3 = y3)))) := by simp only [Bool.decide_and]
  rw [g]
  simp only [Op.eqItems, Sem.run_bind, q0, r0, e0, Result.andThen_ok]
  generalize decide (x0 = y0) = b0
  cases b0
  · simp
  simp only [Sem.run_bind, q1, r1, e0, Result.andThen_ok, Bool.not_true, Bool.false_eq_true, if_false]
  generalize decide (x1 = y1) = b1
  cases b1
  · simp
  simp only [Sem.run_bind, q2, r2, e0, Result.andThen_ok, Bool.not_true, Bool.false_eq_true, if_false]
  generalize decide (x2 = y2) = b2
  cases b2
  · simp
  simp only [Sem.run_bind, q3, r3, e0, Result.andThen_ok, Bool.not_true, Bool.false_eq_true, if_false]
  generalize decide (x3 = y3) = b3
  cases b3
  · simp
  · simp

theorem some_wd (m : Nat → Bool) : decide (wd m 0 = 0 ∧ wd m 1 = 0 ∧ wd m 2 = 0 ∧ wd m 3 = 0) = !Mc.some_ m := by
  have hz : ∀ i, wd m i = 0 ↔ ∀ j, j < 64 → m (64 * i + j) = false := fun i => by
    constructor
    · intro h j hj
      have := wd_inj m (fun _ => false) i j hj (by rw [h, wd_none])
      exact this
    · intro h
      rw [← wd_none i]
      exact wd_congr _ _ _ h
  have hs : Mc.some_ m = false ↔ ∀ k, k < 256 → m k = false := by
    simp [Mc.some_, List.any_eq_false]
  cases h : Mc.some_ m
  · have h' := hs.1 h
    simp only [Bool.not_false, decide_eq_true_eq]
    exact ⟨(hz 0).2 fun j hj => h' _ (by omega), (hz 1).2 fun j hj => h' _ (by omega), (hz 2).2 fun j hj => h' _ (by omega), (hz 3).2 fun j hj => h' _ (by omega)⟩
  · simp only [Bool.not_true, decide_eq_false_iff_not]
    rintro ⟨h0, h1, h2, h3⟩
    have : Mc.some_ m = false := hs.2 fun k hk => by
      have e : k = 64 * (k / 64) + k % 64 := by omega
      have hl : k / 64 < 4 := by omega
      have hh : wd m (k / 64) = 0 := by
        rcases hq : k / 64 with _ | _ | _ | _ | q
        · exact h0
        · exact h1
        · exact h2
        · exact h3
        · omega
      rw [e]
      exact (hz _).1 hh _ (by omega)
    rw [h] at this; cases this
theorem cv_zero : CV (fun _ => false) = .agg #[.int .u64 0, .int .u64 0, .int .u64 0, .int .u64 0] := by
  simp only [CV, wd_none]; rfl
theorem cv_neq (m : Nat → Bool) (W : World) : (binOp .neq 40 (CV m) (.agg #[.int .u64 0, .int .u64 0, .int .u64 0, .int .u64 0])).run Try.prog W = .ok (.bool (Mc.some_ m)) W := by
  have := eq40 9998 (wd m 0) (wd m 1) (wd m 2) (wd m 3) 0 0 0 0 W
  rw [some_wd] at this
  rw [show (.agg #[.int .u64 0, .int .u64 0, .int .u64 0, .int .u64 0] : Value) = .agg #[.int .u64 ((0 : Nat) : Int), .int .u64 ((0 : Nat) : Int), .int .u64 ((0 : Nat) : Int), .int .u64 ((0 : Nat) : Int)] by rfl]
  rw [run_neq_struct, this]
  simp

/-- A row of numbers in memory. -/
def Ints (B : Nat) (W : World) (v : Value) (l : List Int) : Prop :=
  ∃ a g o cap, v = .slice a l.length cap ∧ (l ≠ [] → a = some ⟨g, o, none⟩ ∧ g < B) ∧ ∀ i, i < l.length → W.cell? ⟨g, o + i, none⟩ = some (.int .i64 (l.getD i 0))
theorem Ints.mono {B B' : Nat} {W W' : World} {v : Value} {l : List Int} (h : Ints B W v l) (hb : Below B W W') (hB : B ≤ B') : Ints B' W' v l := by
  obtain ⟨a, g, o, cap, e, ha, hc⟩ := h
  refine ⟨a, g, o, cap, e, fun hl => ⟨(ha hl).1, Nat.lt_of_lt_of_le (ha hl).2 hB⟩, fun i hi => ?_⟩
  rw [hb.cell (p := ⟨g, o + i, none⟩) (ha (by rintro rfl; cases hi)).2]; exact hc i hi
theorem Ints.nil (B : Nat) (W : World) : Ints B W (.slice none 0 0) [] := ⟨none, 0, 0, 0, rfl, fun h => absurd rfl h, fun i hi => by cases hi⟩
/-- A row of classes. -/
def Clss (B : Nat) (W : World) (v : Value) (l : List (Nat → Bool)) : Prop :=
  ∃ a g o cap, v = .slice a l.length cap ∧ (l ≠ [] → a = some ⟨g, o, none⟩ ∧ g < B) ∧ ∀ i, i < l.length → ∀ k, k < 4 → W.cell? ⟨g, o + i * 4 + k, none⟩ = some (.int .u64 (wd (l.getD i (fun _ => false)) k : Nat))
theorem Clss.mono {B B' : Nat} {W W' : World} {v : Value} {l : List (Nat → Bool)} (h : Clss B W v l) (hb : Below B W W') (hB : B ≤ B') : Clss B' W' v l := by
  obtain ⟨a, g, o, cap, e, ha, hc⟩ := h
  refine ⟨a, g, o, cap, e, fun hl => ⟨(ha hl).1, Nat.lt_of_lt_of_le (ha hl).2 hB⟩, fun i hi k hk => ?_⟩
  rw [hb.cell (p := ⟨g, o + i * 4 + k, none⟩) (ha (by rintro rfl; cases hi)).2]; exact hc i hi k hk
/-- A row of rows of numbers. -/
def Rws (B : Nat) (W : World) (v : Value) (l : List (List Int)) : Prop :=
  ∃ a g o cap, v = .slice a l.length cap ∧ (l ≠ [] → a = some ⟨g, o, none⟩ ∧ g < B) ∧ ∀ i, i < l.length → ∃ u, W.cell? ⟨g, o + i, none⟩ = some u ∧ Ints B W u (l.getD i [])
theorem Rws.mono {B B' : Nat} {W W' : World} {v : Value} {l : List (List Int)} (h : Rws B W v l) (hb : Below B W W') (hB : B ≤ B') : Rws B' W' v l := by
  obtain ⟨a, g, o, cap, e, ha, hc⟩ := h
  refine ⟨a, g, o, cap, e, fun hl => ⟨(ha hl).1, Nat.lt_of_lt_of_le (ha hl).2 hB⟩, fun i hi => ?_⟩
  obtain ⟨u, h1, h2⟩ := hc i hi
  exact ⟨u, by rw [hb.cell (p := ⟨g, o + i, none⟩) (ha (by rintro rfl; cases hi)).2]; exact h1, h2.mono hb hB⟩
/-- No greater than the reach. -/
structure Small (N : Mc) : Prop where
  on : N.on.length ≤ 1048576
  tos : N.tos.length ≤ 1048576
  fr : N.free.length ≤ 1048576
  sum : (N.free.map List.length).sum ≤ 1048576
/-- The five parts of a machine. -/
structure Parts (B : Nat) (W : World) (vo vt vf : Value) (N : Mc) : Prop where
  on : Clss B W vo N.on
  tos : Ints B W vt N.tos
  fr : Rws B W vf N.free
theorem Parts.mono {B B' : Nat} {W W' : World} {vo vt vf : Value} {N : Mc} (h : Parts B W vo vt vf N) (hb : Below B W W') (hB : B ≤ B') : Parts B' W' vo vt vf N := ⟨h.on.mono hb hB, h.tos.mono hb hB, h.fr.mono hb hB⟩
/-- A machine in a block. -/
structure Mac (B : Nat) (W : World) (b : Nat) (N : Mc) : Prop where
  lt : b < B
  parts : ∃ vo vt vf, Parts B W vo vt vf N ∧ W.cell? ⟨b, 0, none⟩ = some vo ∧ W.cell? ⟨b, 1, none⟩ = some vt ∧ W.cell? ⟨b, 2, none⟩ = some vf
  st : W.cell? ⟨b, 3, none⟩ = some (.int .i64 N.start)
  en : W.cell? ⟨b, 4, none⟩ = some (.int .i64 N.fin)
theorem Mac.mono {B B' : Nat} {W W' : World} {b : Nat} {N : Mc} (h : Mac B W b N) (hb : Below B W W') (hB : B ≤ B') : Mac B' W' b N := by
  have k : ∀ o v, W.cell? ⟨b, o, none⟩ = some v → W'.cell? ⟨b, o, none⟩ = some v := fun o v hv => by rw [hb.cell (p := ⟨b, o, none⟩) h.lt]; exact hv
  obtain ⟨vo, vt, vf, hp, h0, h1, h2⟩ := h.parts
  exact ⟨Nat.lt_of_lt_of_le h.lt hB, ⟨vo, vt, vf, hp.mono hb hB, k _ _ h0, k _ _ h1, k _ _ h2⟩, k _ _ h.st, k _ _ h.en⟩

set_option maxHeartbeats 1000000 in
theorem mhas_any {B b : Nat} {N : Mc} (q : Int) (w : World) (hm : Mac B w b N) : Calls Try.prog 23 #[.pointer (some ⟨b, 0, none⟩), .int .i64 q] w fun e w' => e = .returned (.bool (N.isS q)) ∧ w' = w := by
  obtain ⟨vo, vt, vf, hp, h0, h1, h2⟩ := hm.parts
  obtain ⟨a, g, o, cap, rfl, -, -⟩ := hp.on
  unfold Mc.isS
  by_cases c0 : 0 ≤ q
  · have d0 : decide (0 ≤ q) = true := by simpa using c0
    rw [d0]
    go_enter Try.func23, Try.ntmps23
    go_wp2_with fail
    go_ret
    exact ⟨rfl, rfl⟩
  · have d0 : decide (0 ≤ q) = false := by simpa using c0
    rw [d0]
    go_enter Try.func23, Try.ntmps23
    go_wp2_with fail
    go_ret
    exact ⟨rfl, rfl⟩
end Go.Proofs.Ytkjljnneghnpiaa
