import Derived.Test.YtbhlaheidlnppaaAt
import Derived.Test.YtbhlaheidlnppaaCut
namespace Go.Proofs.Ytbhlaheidlnppaa
open Go.RowKit

/-- a function value that tells which borders are within -/
structure Win (w : World) (f : Nat) (cb : Array Value) (win : Nat → Nat → Bool) : Prop where
  eg : ∀ args W, (callFunc f args).run Try.prog W = .ok (.enter f args) W
  call : ∀ (W : World) (k u : Nat), Below w.heap.size w W → Calls Try.prog f (#[.agg #[.int .i64 (k : Int), .int .i64 (u : Int)]] ++ cb) W fun e w' => e = .returned (.bool (win k u)) ∧ Below W.heap.size W w'
theorem Win.mono {w w' : World} {f : Nat} {cb : Array Value} {win : Nat → Nat → Bool} (h : Win w f cb win) (hb : Below w.heap.size w w') : Win w' f cb win :=
  ⟨h.eg, fun W k u hW => h.call W k u (below_trans hb hW)⟩

set_option maxRecDepth 1000000 in
set_option maxHeartbeats 1000000 in
theorem last1_any (a g mb n cap i : Nat) (f : Nat) (cb : Array Value) (win : Nat → Nat → Bool) (m : Nat × Nat) (W : World) (hw : Win W f cb win) (hi : i < n)
    (k0 : W.cell? ⟨g, 0, none⟩ = some (.func (.func f) #[] cb)) (k1 : W.cell? ⟨a, 2, none⟩ = some (.slice (some ⟨mb, 0, none⟩) n cap)) (k2 : W.cell? ⟨mb, i * 2, none⟩ = some (.int .i64 (m.1 : Int))) (k3 : W.cell? ⟨mb, i * 2 + 1, none⟩ = some (.int .i64 (m.2 : Int))) :
    Calls Try.prog 46 (#[.int .i64 (i : Int)] ++ #[.pointer (some ⟨g, 0, none⟩), .pointer (some ⟨a, 0, none⟩)]) W fun e w' => e = .returned (.bool (!win m.1 m.2)) ∧ Below W.heap.size W w' := by
  have eg := hw.eg
  have HF : Hid _ := fun W' (hW : Below W.heap.size W W') => hw.call W' m.1 m.2 hW
  generalize win m.1 m.2 = b at *
  have HP : Hid (∀ W', Below W.heap.size W W' → W'.cell? ⟨g, 0, none⟩ = some (.func (.func f) #[] cb) ∧ W'.cell? ⟨a, 2, none⟩ = some (.slice (some ⟨mb, 0, none⟩) n cap) ∧ W'.cell? ⟨mb, i * 2, none⟩ = some (.int .i64 (m.1 : Int)) ∧ W'.cell? ⟨mb, i * 2 + 1, none⟩ = some (.int .i64 (m.2 : Int)) ∧ Below W.heap.size W W') := fun W' hW => ⟨below_cell hW k0, below_cell hW k1, below_cell hW k2, below_cell hW k3, hW⟩
  have HB : Hid (∀ W' : World, (W'.cell? ⟨g, 0, none⟩ = some (.func (.func f) #[] cb) ∧ W'.cell? ⟨a, 2, none⟩ = some (.slice (some ⟨mb, 0, none⟩) n cap) ∧ W'.cell? ⟨mb, i * 2, none⟩ = some (.int .i64 (m.1 : Int)) ∧ W'.cell? ⟨mb, i * 2 + 1, none⟩ = some (.int .i64 (m.2 : Int)) ∧ Below W.heap.size W W') → Below W.heap.size W W') := fun W' h => h.2.2.2.2
  clear hw
  go_enter Try.func46, Try.ntmps46
  go_wp2_with fail
  go_region_held3 (fun W' => W'.cell? ⟨g, 0, none⟩ = some (.func (.func f) #[] cb) ∧ W'.cell? ⟨a, 2, none⟩ = some (.slice (some ⟨mb, 0, none⟩) n cap) ∧ W'.cell? ⟨mb, i * 2, none⟩ = some (.int .i64 (m.1 : Int)) ∧ W'.cell? ⟨mb, i * 2 + 1, none⟩ = some (.int .i64 (m.2 : Int)) ∧ Below W.heap.size W W') (first | exact HP.out _ (Below.drew (Below.refl _ _)) | exact HP.out _ (below_trans (HB.out _ (by assumption)) hb) | assumption)
    (first
    | (go_at_fn f; refine (HF.out _ ?_).mono ?_; exact HB.out _ (by assumption); rintro e w1 ⟨rfl, hb⟩))
  all_goals
    go_wp2_with fail
    go_ret
    exact ⟨rfl, HB.out _ (by assumption)⟩
theorem enters46 : ∀ args W, (callFunc 46 args).run Try.prog W = .ok (.enter 46 args) W := enters_of Try.func46 (by kernel_rfl) rfl

/-- where 'last' stands behind its marks -/
structure Lb (w wc : World) (fr te : Nat) (mv fv : Value) (k0 u0 : Nat) : Prop where
  row : wc.heap[w.heap.size]? = some (.cells #[.int .i64 (fr : Int), .int .i64 (te : Int), mv] 58 (0, 0))
  fn : wc.heap[w.heap.size + 1]? = some (.cells #[fv] 67 (0, 0))
  res : wc.heap[w.heap.size + 2]? = some (.cells #[.int .i64 0, .int .i64 0] 65 (0, 0))
  beg : wc.heap[w.heap.size + 3]? = some (.cells #[.int .i64 (k0 : Int), .int .i64 (u0 : Int)] 65 (0, 0))
  below : Below w.heap.size w wc
theorem Lb.mono {w wc wd : World} {fr te : Nat} {mv fv : Value} {k0 u0 : Nat} (h : Lb w wc fr te mv fv k0 u0) (hb : Below wc.heap.size wc wd) : Lb w wd fr te mv fv k0 u0 :=
  ⟨by rw [hb.block _ (lt_of_heap h.row)]; exact h.row, by rw [hb.block _ (lt_of_heap h.fn)]; exact h.fn, by rw [hb.block _ (lt_of_heap h.res)]; exact h.res, by rw [hb.block _ (lt_of_heap h.beg)]; exact h.beg, below_trans h.below hb⟩
theorem row2 {w : World} {b : Nat} {x y : Value} {t : TypeId} (h : w.heap[b]? = some (.cells #[x, y] t (0, 0))) : w.cell? ⟨b, 0, none⟩ = some x ∧ w.cell? ⟨b, 1, none⟩ = some y ∧ ∀ o, w.frozen? ⟨b, o, none⟩ = false := by
  refine ⟨?_, ?_, fun o => Lib.frozen_of_heap h o⟩ <;> (rw [Lib.cell_of_heap h]; rfl)
theorem row1 {w : World} {b : Nat} {x : Value} {t : TypeId} (h : w.heap[b]? = some (.cells #[x] t (0, 0))) : w.cell? ⟨b, 0, none⟩ = some x := by
  rw [Lib.cell_of_heap h]; rfl
theorem row3 {w : World} {b : Nat} {x y z : Value} {t : TypeId} (h : w.heap[b]? = some (.cells #[x, y, z] t (0, 0))) : w.cell? ⟨b, 0, none⟩ = some x ∧ w.cell? ⟨b, 1, none⟩ = some y ∧ w.cell? ⟨b, 2, none⟩ = some z := by
  refine ⟨?_, ?_, ?_⟩ <;> (rw [Lib.cell_of_heap h]; rfl)
theorem lb_start (w : World) (fr te : Nat) (mv fv : Value) : Lb w ((((w.alloc (.cells #[.int .i64 (fr : Int), .int .i64 (te : Int), mv] 58)).alloc (.cells #[fv] 67)).alloc (.cells #[.int .i64 0, .int .i64 0] 65)).alloc (.cells #[.int .i64 0, .int .i64 0] 65)) fr te mv fv 0 0 := by
  have e1 : (w.alloc (.cells #[.int .i64 (fr : Int), .int .i64 (te : Int), mv] 58)).heap.size = w.heap.size + 1 := by simp
  have e2 : ((w.alloc (.cells #[.int .i64 (fr : Int), .int .i64 (te : Int), mv] 58)).alloc (.cells #[fv] 67)).heap.size = w.heap.size + 2 := by simp
  have e3 : (((w.alloc (.cells #[.int .i64 (fr : Int), .int .i64 (te : Int), mv] 58)).alloc (.cells #[fv] 67)).alloc (.cells #[.int .i64 0, .int .i64 0] 65)).heap.size = w.heap.size + 3 := by simp
  refine ⟨?_, ?_, ?_, ?_, ?_⟩
  · rw [heap_alloc_old _ _ (by rw [e3]; omega), heap_alloc_old _ _ (by rw [e2]; omega), heap_alloc_old _ _ (by rw [e1]; omega)]
    exact heap_alloc_new _ _
  · rw [heap_alloc_old _ _ (by rw [e3]; omega), heap_alloc_old _ _ (by rw [e2]; omega), ← e1]
    exact heap_alloc_new _ _
  · rw [heap_alloc_old _ _ (by rw [e3]; omega), ← e2]
    exact heap_alloc_new _ _
  · rw [← e3]
    exact heap_alloc_new _ _
  · exact below_trans (below_trans (below_trans (bel_up _ _) (bel_up _ _)) (bel_up _ _)) (bel_up _ _)

theorem set2 {w : World} {b : Nat} {x y x' y' : Value} {t : TypeId} (h : w.heap[b]? = some (.cells #[x, y] t (0, 0))) : ((w.setCell ⟨b, 0, none⟩ x').setCell ⟨b, 1, none⟩ y').heap[b]? = some (.cells #[x', y'] t (0, 0)) := by
  simp [World.setCell, Array.getElem?_modify, h]
theorem set2_other {w : World} {b c : Nat} {x' y' : Value} (hne : c ≠ b) : ((w.setCell ⟨b, 0, none⟩ x').setCell ⟨b, 1, none⟩ y').heap[c]? = w.heap[c]? := by
  rw [Below.heap_setCell _ _ _ _ (by exact hne), Below.heap_setCell _ _ _ _ (by exact hne)]
theorem Lb.begin {w wc : World} {fr te : Nat} {mv fv : Value} {k0 u0 : Nat} (h : Lb w wc fr te mv fv k0 u0) (k u : Nat) : Lb w ((wc.setCell ⟨w.heap.size + 3, 0, none⟩ (.int .i64 (k : Int))).setCell ⟨w.heap.size + 3, 1, none⟩ (.int .i64 (u : Int))) fr te mv fv k u :=
  ⟨by rw [set2_other (by omega)]; exact h.row, by rw [set2_other (by omega)]; exact h.fn, by rw [set2_other (by omega)]; exact h.res, set2 h.beg, (h.below.setCell (by simp) _).setCell (by simp) _⟩

theorem Mk.slice {w : World} {v : Value} {l : ByteArray} (h : Mk w v l) : ∃ (M : List (Nat × Nat)) (mp : Option Addr) (cap : Nat), v = .slice mp M.length cap ∧ M.length ≤ l.size ∧ (∀ m ∈ M, Bd l m.1 m.2) ∧
    (∀ (i : Nat) (m : Nat × Nat), M[i]? = some m → ∃ mb, mp = some ⟨mb, 0, none⟩ ∧ M.length ≤ cap ∧ w.cell? ⟨mb, i * 2, none⟩ = some (.int .i64 (m.1 : Int)) ∧ w.cell? ⟨mb, i * 2 + 1, none⟩ = some (.int .i64 (m.2 : Int))) := by
  obtain ⟨M, h1, hl, h2⟩ := h
  have hc := h2
  obtain ⟨_, h2⟩ := h2
  rcases h2 with ⟨rfl, hz⟩ | ⟨g, cap, cur, rfl, _, hh, hcap, _⟩
  · refine ⟨M, none, 0, by rw [hz], hl, h1, fun i m hm => ?_⟩
    have := (List.getElem?_eq_some_iff.1 hm).1
    omega
  · refine ⟨M, some ⟨g, 0, none⟩, cap, rfl, hl, h1, fun i m hm => ⟨g, rfl, hcap, ?_, ?_⟩⟩
    · have hi := (List.getElem?_eq_some_iff.1 hm).1
      rw [hc.cellAt _ (by omega)]
      exact (mcells_at M i m hm).1
    · have hi := (List.getElem?_eq_some_iff.1 hm).1
      rw [hc.cellAt _ (by omega)]
      exact (mcells_at M i m hm).2

def past (M : List (Nat × Nat)) (win : Nat → Nat → Bool) (i : Nat) : Bool := match M[i]? with | some m => !win m.1 m.2 | none => true

end Go.Proofs.Ytbhlaheidlnppaa
