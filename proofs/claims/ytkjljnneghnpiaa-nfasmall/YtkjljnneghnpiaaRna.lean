import Derived.Test.YtkjljnneghnpiaaNop
import Derived.Test.YtkjljnneghnpiaaNra
import Derived.Test.YtkjljnneghnpiaaNft
import Derived.Deep.AppendLies
import Derived.Laws.OwnMore
import Derived.Laws.AppendOwnNone
import Derived.Maps.AppendAt
namespace Go.Proofs.Ytkjljnneghnpiaa
open Go.RowKit Go.Maps

theorem cv_same (m : Nat → Bool) (W : World) : (binOp .neq 40 (CV m) (CV m)).run Try.prog W = .ok (.bool false) W := by
  have := eq40 9998 (wd m 0) (wd m 1) (wd m 2) (wd m 3) (wd m 0) (wd m 1) (wd m 2) (wd m 3) W
  rw [run_neq_struct, this]
  simp
/-- A machine's five cells in a block. -/
structure Bx5 (W : World) (b : Nat) (vo vt vf : Value) (s e : Int) : Prop where
  c0 : W.cell? ⟨b, 0, none⟩ = some vo
  c1 : W.cell? ⟨b, 1, none⟩ = some vt
  c2 : W.cell? ⟨b, 2, none⟩ = some vf
  c3 : W.cell? ⟨b, 3, none⟩ = some (.int .i64 s)
  c4 : W.cell? ⟨b, 4, none⟩ = some (.int .i64 e)
theorem Bx5.mono {W W' : World} {b : Nat} {vo vt vf : Value} {s e : Int} (h : Bx5 W b vo vt vf s e) (hb : Below W.heap.size W W') : Bx5 W' b vo vt vf s e :=
  ⟨below_cell hb h.c0, below_cell hb h.c1, below_cell hb h.c2, below_cell hb h.c3, below_cell hb h.c4⟩
theorem Bx5.new (w : World) (vo vt vf : Value) (s e : Int) (t : TypeId) : Bx5 (w.alloc (.cells #[vo, vt, vf, .int .i64 s, .int .i64 e] t)) w.heap.size vo vt vf s e :=
  have hb := World.alloc_heap_new w (.cells #[vo, vt, vf, .int .i64 s, .int .i64 e] t)
  ⟨by rw [Lib.cell_of_heap hb]; rfl, by rw [Lib.cell_of_heap hb]; rfl, by rw [Lib.cell_of_heap hb]; rfl, by rw [Lib.cell_of_heap hb]; rfl, by rw [Lib.cell_of_heap hb]; rfl⟩
theorem Clss.at {B : Nat} {W : World} {v : Value} {l : List (Nat → Bool)} (h : Clss B W v l) (i : Nat) (hi : i < l.length) : ∃ g o cap, v = .slice (some ⟨g, o, none⟩) l.length cap ∧ W.cell? ⟨g, o + i * 4, none⟩ = some (.int .u64 (wd (l.getD i (fun _ => false)) 0 : Nat)) ∧ W.cell? ⟨g, o + i * 4 + 1, none⟩ = some (.int .u64 (wd (l.getD i (fun _ => false)) 1 : Nat)) ∧ W.cell? ⟨g, o + i * 4 + 2, none⟩ = some (.int .u64 (wd (l.getD i (fun _ => false)) 2 : Nat)) ∧ W.cell? ⟨g, o + i * 4 + 3, none⟩ = some (.int .u64 (wd (l.getD i (fun _ => false)) 3 : Nat)) := by
  obtain ⟨a, g, o, cap, e, ha, hc⟩ := h
  rw [(ha (by rintro rfl; cases hi)).1] at e
  exact ⟨g, o, cap, e, hc i hi 0 (by omega), hc i hi 1 (by omega), hc i hi 2 (by omega), hc i hi 3 (by omega)⟩
theorem Ints.at {B : Nat} {W : World} {v : Value} {l : List Int} (h : Ints B W v l) (i : Nat) (hi : i < l.length) : ∃ g o cap, v = .slice (some ⟨g, o, none⟩) l.length cap ∧ W.cell? ⟨g, o + i, none⟩ = some (.int .i64 (l.getD i 0)) := by
  obtain ⟨a, g, o, cap, e, ha, hc⟩ := h
  rw [(ha (by rintro rfl; cases hi)).1] at e
  exact ⟨g, o, cap, e, hc i hi⟩
theorem Ints.shp {B : Nat} {W : World} {v : Value} {l : List Int} (h : Ints B W v l) : ∃ a cap, v = .slice a l.length cap := by
  obtain ⟨a, g, o, cap, e, _⟩ := h; exact ⟨a, cap, e⟩
theorem Rws.at {B : Nat} {W : World} {v : Value} {l : List (List Int)} (h : Rws B W v l) (i : Nat) (hi : i < l.length) : ∃ g o cap u, v = .slice (some ⟨g, o, none⟩) l.length cap ∧ W.cell? ⟨g, o + i, none⟩ = some u ∧ Ints B W u (l.getD i []) := by
  obtain ⟨a, g, o, cap, e, ha, hc⟩ := h
  rw [(ha (by rintro rfl; cases hi)).1] at e
  obtain ⟨u, h1, h2⟩ := hc i hi
  exact ⟨g, o, cap, u, e, h1, h2⟩
theorem sum_mem (l : List (List Int)) (i : Nat) (h : i < l.length) : (l.getD i []).length ≤ (l.map List.length).sum := by
  induction l generalizing i with
  | nil => cases h
  | cons x l ih =>
    cases i with
    | zero => simp
    | succ i =>
      have := ih i (by simpa using h)
      simp only [List.getD_cons_succ, List.map_cons, List.sum_cons]
      omega
end Go.Proofs.Ytkjljnneghnpiaa
