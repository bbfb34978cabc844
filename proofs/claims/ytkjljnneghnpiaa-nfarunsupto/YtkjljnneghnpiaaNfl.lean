import Derived.Test.YtkjljnneghnpiaaNfk
import Derived.RangeFuncBox
import Derived.Laws.MakeOwn
import Derived.Deep.AppendLies
namespace Go.Proofs.Ytkjljnneghnpiaa
open Go.RowKit Go.Maps Go.Shelf

theorem info4 : (Try.prog.info? 4).map (fun i => (i.zero, i.size, i.bytes)) = some (some (.bool false), 1, 1) := by kernel_rfl
theorem mk_bools (n : Nat) (hn : n ≤ 1048576) (W : World) : (Instr.makeSlice 42 (.int .i64 (n : Int)) (.int .i64 (n : Int))).run Try.prog W = .ok (.slice (some ⟨W.heap.size, 0, none⟩) n n) (W.alloc (.cells (madeCells #[.bool false] n) 4)) := by
  obtain ⟨i0, hi, hz0, hz1, hz2⟩ := info_parts info4
  have h := run_make W 42 4 i0 (.bool false) Try.underlying42 hi hz0 .i64 .i64 (n : Int) (n : Int) (by omega) (Int.le_refl _) (by rw [hz2]; omega) (by omega)
  rw [hz1] at h
  simp only [Int.toNat_natCast, Nat.mul_one] at h
  exact h
theorem made_get (z : Value) (n i : Nat) (hi : i < n) : (madeCells #[z] n)[i]? = some z := by
  simp [madeCells, hi, Nat.mod_one]
theorem Blw.made (w : World) (n : Nat) : Blw (w.alloc (.cells (madeCells #[.bool false] n) 4)) w.heap.size n (fun _ => false) := by
  refine ⟨⟨fun i hi => ?_⟩, fun i => fr_up (Below.refl _ _) i, by simp⟩
  rw [World.cell?_alloc_at _ _ _ _ (by simp)]
  exact made_get _ _ _ hi
/-- The marks that loops over functions leave. -/
def Marks (lo : Nat) (W : World) : Nat → List Deferred → Prop
  | _, [] => True
  | hi, d :: ds => ∃ D, d = { target := .collected D, args := #[] } ∧ lo ≤ D ∧ D < hi ∧ W.heap[D]? = some (.deferred (some [])) ∧ Marks lo W D ds
theorem Marks.same {lo : Nat} {W W' : World} : ∀ {hi hi' : Nat} {ds : List Deferred}, hi ≤ hi' → (∀ D, lo ≤ D → D < hi → W.heap[D]? = some (.deferred (some [])) → W'.heap[D]? = some (.deferred (some []))) → Marks lo W hi ds → Marks lo W' hi' ds
  | _, _, [], _, _, _ => trivial
  | hi, hi', d :: ds, hh, h, ⟨D, e, h1, h2, h3, h4⟩ => ⟨D, e, h1, by omega, h D h1 h2 h3, Marks.same (Nat.le_refl _) (fun D' k1 k2 => h D' k1 (by omega)) h4⟩
theorem Marks.grown {lo hi hi' : Nat} {W W' : World} {ds : List Deferred} {row : Option Nat} (h : Marks lo W hi ds) (hh : hi ≤ hi') (hg : W.grownBy W' row) (hr : ∀ r, row = some r → r < lo ∨ hi ≤ r ∨ ∃ o, W.heap[r]? = some o ∧ o.isCells = true) : Marks lo W' hi' ds :=
  h.same hh (fun D h1 h2 h3 => (hg.block D (lt_of_heap h3) (fun e => by
    rcases hr D e.symm with k | k | ⟨o, k1, k2⟩
    · omega
    · omega
    · rw [h3] at k1; cases k1; cases k2)).trans h3)
/-- What stays when the marks are taken away. -/
structure KeptM (lo : Nat) (W W' : World) : Prop where
  bel : Below lo W W'
  cells : ∀ (k : Nat) (o : Obj), W.heap[k]? = some o → o.isCells = true → W'.heap[k]? = some o
theorem KeptM.refl (lo : Nat) (W : World) : KeptM lo W W := ⟨Below.refl _ _, fun _ _ h _ => h⟩
theorem marks_leave {n : Nat} {fn : Func} {tmps : Array Value} {R : Ending → World → Prop} {lo : Nat} : ∀ (ds : List Deferred) (hi : Nat) (W : World), Marks lo W hi ds →
    (∀ W', KeptM lo W W' → LeavesInM Fence.wide n Try.prog fn tmps R [] .returning W') → LeavesInM Fence.wide n Try.prog fn tmps R ds .returning W
  | [], _, W, _, h => h W (KeptM.refl _ _)
  | d :: ds, hi, W, ⟨D, e, h1, h2, h3, h4⟩, h => by
    subst e
    refine ⟨by simp, .inl ⟨D, _, rfl, run_takeDeferred h3, ?_⟩⟩
    have hg := grownBy_putObj' W D (.deferred none)
    refine marks_leave ds D _ (h4.same (Nat.le_refl _) fun D' k1 k2 k3 => (hg.block D' (lt_of_heap k3) (fun e => by cases e; omega)).trans k3) (fun W' hk => h W' ?_)
    exact ⟨((Below.refl lo W).grown hg (by have := lt_of_heap h3; omega) (fun k e => by cases e; exact h1)).trans hk.bel, fun k o h5 h6 => hk.cells k o ((hg.block k (lt_of_heap h5) (fun e => by cases e; rw [h3] at h5; cases h5; cases h6)).trans h5) h6⟩
end Go.Proofs.Ytkjljnneghnpiaa
