import Derived.Test.YtjpmmihcnfedgabPure
import Derived.WalkKit
import Derived.WalkSpells
import Derived.WalkLawsBesides
import Derived.Deep.LoopGhost
import Derived.Deep.RegionWith
import Derived.Deep.Cut
import Derived.Deep.CutRange
import Derived.Deep.QuietTactic
import Derived.BigQuiet
import Derived.WalkSmall
import Derived.Laws.ResultCell
namespace Go.Proofs.Ytjpmmihcnfedgab
open Go.RowKit

theorem cell_lt {w : World} {a : Addr} {v : Value} (h : w.cell? a = some v) : a.block < w.heap.size := by
  rcases Nat.lt_or_ge a.block w.heap.size with h' | h'
  · exact h'
  · unfold World.cell? at h
    simp [Array.getElem?_eq_none h'] at h
theorem below_cell {w w' : World} (hb : Below w.heap.size w w') {a : Addr} {v : Value} (h : w.cell? a = some v) : w'.cell? a = some v := by
  rw [hb.cell (p := a) (cell_lt h)]; exact h
theorem below_trans {a b c : World} (h : Below a.heap.size a b) (k : Below b.heap.size b c) : Below a.heap.size a c :=
  h.trans (k.mono h.size)
theorem lt_of_heap {w : World} {b : Nat} {o : Obj} (h : w.heap[b]? = some o) : b < w.heap.size := (Array.getElem?_eq_some_iff.1 h).1

theorem quiet_same {P : Program} {f : FuncId} {args : Array Value} {w : World} {n : Nat} {v : Value}
    (h : Calls P f args (w.drewN n) fun e w' => e = .returned v ∧ w.drewN n = w') : Calls P f args (w.drewN n) fun e w'' => e = .returned v ∧ ∃ m, w'' = w.drewN m :=
  h.mono fun _ _ ⟨he, hm⟩ => ⟨he, n, hm.symm⟩
theorem ret_int {k : IntKind} {a b : Int} (h : a = b) : Ending.returned (.int k a) = .returned (.int k b) := by rw [h]

/-- a byte of a string -/
theorem idx_fact (s : ByteArray) (i : Nat) (hi : i < s.size) : ∀ W : World, (Instr.index 9 (.string s) (.int .i64 (i : Int))).run Try.prog W = .ok (.int .u8 ((s.get! i).toNat : Int)) W := by
  intro W
  rw [run_index_string W 9 s .i64 _ Try.underlying9, dif_pos ⟨by omega, by omega⟩]
  have e : ((i : Int)).toNat = i := by omega
  simp only [e, get_bang s i hi]

theorem results_cell1 {fn : Func} {p : Tmp} {ty : TypeId} (h : fn.results = #[.cell p ty]) (tmps : Array Value) (P : Program) (w : World) :
    (results fn tmps).run P w = ((asAddr (tmps.getD p undef)).run P w).andThen fun a w₁ => (loadVar ty a).run P w₁ := by
  simp only [results, h]
  simp [Sem.run_bind, Result.andThen]

theorem bel_up (w : World) (o : Obj) : Below w.heap.size w (w.alloc o) := (Below.refl _ _).alloc (Nat.le_refl _) _
theorem cell_up {w : World} {a : Addr} {v : Value} (o : Obj) (h : w.cell? a = some v) : (w.alloc o).cell? a = some v := below_cell (bel_up w o) h
theorem cells3 (w : World) (a b c : Value) (t : TypeId) : (w.alloc (.cells #[a, b, c] t)).cell? ⟨w.heap.size, 0, none⟩ = some a ∧ (w.alloc (.cells #[a, b, c] t)).cell? ⟨w.heap.size, 1, none⟩ = some b ∧ (w.alloc (.cells #[a, b, c] t)).cell? ⟨w.heap.size, 2, none⟩ = some c := by
  refine ⟨?_, ?_, ?_⟩ <;> (rw [World.cell?_alloc_at _ _ _ _ (by simp)]; rfl)

theorem fr_up {w W : World} {t : TypeId} {vs : Array Value} (hW : Below (w.alloc (.cells vs t)).heap.size (w.alloc (.cells vs t)) W) (o : Nat) : W.frozen? ⟨w.heap.size, o, none⟩ = false := by
  have hs : (⟨w.heap.size, o, none⟩ : Addr).block < (w.alloc (.cells vs t)).heap.size := by simp
  rw [hW.frozen (p := ⟨w.heap.size, o, none⟩) hs]
  go_simp
/-- what a boxed argument and a cell for a result hold, however the world grows -/
structure Box (w W : World) (b : Nat) (x y z : Value) : Prop where
  c0 : W.cell? ⟨b, 0, none⟩ = some x
  c1 : W.cell? ⟨b, 1, none⟩ = some y
  c2 : W.cell? ⟨b, 2, none⟩ = some z
  fr : ∀ o, W.frozen? ⟨b, o, none⟩ = false
theorem box1 {w W : World} {x y z : Value} {t : TypeId} (hW : Below (w.alloc (.cells #[x, y, z] t)).heap.size (w.alloc (.cells #[x, y, z] t)) W) : Box w W w.heap.size x y z :=
  have h := cells3 w x y z t
  ⟨below_cell hW h.1, below_cell hW h.2.1, below_cell hW h.2.2, fr_up hW⟩
theorem box2 {w W : World} {x y z x' y' z' : Value} {t t' : TypeId} (hW : Below ((w.alloc (.cells #[x, y, z] t)).alloc (.cells #[x', y', z'] t')).heap.size ((w.alloc (.cells #[x, y, z] t)).alloc (.cells #[x', y', z'] t')) W) :
    Box w W w.heap.size x y z ∧ Box w W (w.heap.size + 1) x' y' z' ∧ Below w.heap.size w W := by
  refine ⟨box1 (below_trans (bel_up _ _) hW), ?_, below_trans (below_trans (bel_up _ _) (bel_up _ _)) hW⟩
  have h := box1 hW
  have hz : (w.alloc (.cells #[x, y, z] t)).heap.size = w.heap.size + 1 := by simp
  rw [hz] at h
  exact ⟨h.c0, h.c1, h.c2, h.fr⟩

/-- what lies in a cell -/
def cof (W : World) (a : Addr) : Value := (W.cell? a).getD undef
theorem cof_eq {W : World} {a : Addr} {v : Value} (h : W.cell? a = some v) : W.cell? a = some (cof W a) := by
  unfold cof
  rw [h]
  rfl
theorem cell_set3 {W : World} {r : Nat} (x y z : Value) {a : Addr} {v : Value} (h : W.cell? a = some v) (hne : a.block ≠ r) : (((W.setCell ⟨r, 0, none⟩ x).setCell ⟨r, 1, none⟩ y).setCell ⟨r, 2, none⟩ z).cell? a = some v := by
  obtain ⟨bl, o, sp⟩ := a
  simp only at hne
  have : bl = r ↔ False := ⟨fun h => hne h, fun h => h.elim⟩
  go_simp

theorem Box.up {w W W' : World} {b : Nat} {x y z : Value} (h : Box w W b x y z) (hb : Below W.heap.size W W') : Box w W' b x y z :=
  ⟨below_cell hb h.c0, below_cell hb h.c1, below_cell hb h.c2, fun o => by have hl : b < W.heap.size := cell_lt h.c0; rw [hb.frozen (p := ⟨b, o, none⟩) hl]; exact h.fr o⟩
theorem Box.set {w W : World} {b : Nat} {x y z : Value} (h : Box w W b x y z) (x' y' z' : Value) : Box w (((W.setCell ⟨b, 0, none⟩ x').setCell ⟨b, 1, none⟩ y').setCell ⟨b, 2, none⟩ z') b x' y' z' := by
  obtain ⟨h0, h1, h2, hf⟩ := h
  exact ⟨by go_simp, by go_simp, by go_simp, fun o => by go_simp⟩
theorem Box.oth {w W : World} {b r : Nat} {x y z : Value} (h : Box w W r x y z) (hne : r ≠ b) (x' y' z' : Value) : Box w (((W.setCell ⟨b, 0, none⟩ x').setCell ⟨b, 1, none⟩ y').setCell ⟨b, 2, none⟩ z') r x y z := by
  obtain ⟨h0, h1, h2, hf⟩ := h
  exact ⟨cell_set3 _ _ _ h0 hne, cell_set3 _ _ _ h1 hne, cell_set3 _ _ _ h2 hne, fun o => by have := hf o; go_simp⟩
theorem bel_set3 {w W : World} {b n : Nat} (h : Below n w W) (hb : n ≤ b) (x' y' z' : Value) : Below n w (((W.setCell ⟨b, 0, none⟩ x').setCell ⟨b, 1, none⟩ y').setCell ⟨b, 2, none⟩ z') :=
  Below.setCell (Below.setCell (Below.setCell h hb _) hb _) hb _

/-- an edit as a value -/
abbrev ed (p q : Int) (ins : ByteArray) : Value := .agg #[.int .i64 p, .int .i64 q, .string ins]
theorem ret_ed {p q p' q' : Int} {i i' : ByteArray} (h : p = p') (k : q = q') (l : i = i') : Ending.returned (ed p q i) = .returned (ed p' q' i') := by rw [h, k, l]

end Go.Proofs.Ytjpmmihcnfedgab
