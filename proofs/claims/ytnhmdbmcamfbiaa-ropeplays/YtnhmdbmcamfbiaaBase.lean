import Derived.Test.YtnhmdbmcamfbiaaRows
import Derived.Test.YtnhmdbmcamfbiaaPure
import Derived.WalkKit
import Derived.WalkSpells
import Derived.WalkLawsBesides
namespace Go.Proofs.Ytnhmdbmcamfbiaa
open Go.RowKit

/-- The tree that a value stands for. -/
inductive IsTree (w : World) : Value → Rp.T → Prop
  | leaf (s : ByteArray) : IsTree w (.iface 95 (.string s)) (.leaf s)
  | branch (b : Nat) (vl vr : Value) (l r : Rp.T) (h0 : w.cell? ⟨b, 0, none⟩ = some vl) (h1 : w.cell? ⟨b, 1, none⟩ = some vr)
      (h2 : w.cell? ⟨b, 2, none⟩ = some (.int .i64 ((l.len + r.len : Nat) : Int))) (h3 : w.cell? ⟨b, 3, none⟩ = some (.int .i64 ((1 + max l.ht r.ht : Nat) : Int)))
      (hl : IsTree w vl l) (hr : IsTree w vr r) : IsTree w (.iface 97 (.pointer (some ⟨b, 0, none⟩))) (.branch l r)

theorem cell_lt {w : World} {a : Addr} {v : Value} (h : w.cell? a = some v) : a.block < w.heap.size := by
  rcases Nat.lt_or_ge a.block w.heap.size with h' | h'
  · exact h'
  · unfold World.cell? at h
    simp [Array.getElem?_eq_none h'] at h
theorem below_cell {w w' : World} (hb : Below w.heap.size w w') {a : Addr} {v : Value} (h : w.cell? a = some v) : w'.cell? a = some v := by
  rw [hb.cell (p := a) (cell_lt h)]; exact h
theorem IsTree.mono {w w' : World} (hb : Below w.heap.size w w') {v : Value} {t : Rp.T} (h : IsTree w v t) : IsTree w' v t := by
  induction h with
  | leaf s => exact .leaf s
  | branch b vl vr l r h0 h1 h2 h3 _ _ il ir => exact .branch b vl vr l r (below_cell hb h0) (below_cell hb h1) (below_cell hb h2) (below_cell hb h3) il ir

theorem below_trans {a b c : World} (h : Below a.heap.size a b) (k : Below b.heap.size b c) : Below a.heap.size a c :=
  h.trans (k.mono h.size)

theorem m_leaf_size (s : ByteArray) (w : World) : (method 226 95 (.string s) "trellis/rope.size").run Try.prog w = .ok (80, .string s) w := by kernel_rfl
theorem m_leaf_levels (s : ByteArray) (w : World) : (method 226 95 (.string s) "trellis/rope.levels").run Try.prog w = .ok (79, .string s) w := by kernel_rfl
theorem m_branch_size (a : Addr) (w : World) : (method 226 97 (.pointer (some a)) "trellis/rope.size").run Try.prog w = .ok (82, .pointer (some a)) w := by kernel_rfl
theorem m_branch_levels (a : Addr) (w : World) : (method 226 97 (.pointer (some a)) "trellis/rope.levels").run Try.prog w = .ok (81, .pointer (some a)) w := by kernel_rfl

set_option maxRecDepth 100000 in
theorem leaf_size_any (s : ByteArray) (w : World) : Calls Try.prog 80 #[.string s] w fun e w' => e = .returned (.int .i64 (s.size : Int)) ∧ w = w' := by
  go_enter Try.func80, Try.ntmps80
  go_wp2
  go_ret
  exact ⟨rfl, rfl⟩
set_option maxRecDepth 100000 in
theorem leaf_levels_any (s : ByteArray) (w : World) : Calls Try.prog 79 #[.string s] w fun e w' => e = .returned (.int .i64 1) ∧ w = w' := by
  go_enter Try.func79, Try.ntmps79
  go_wp2
  go_ret
  exact ⟨rfl, rfl⟩
set_option maxRecDepth 100000 in
theorem branch_size_any (b : Nat) (n : Int) (w : World) (h : w.cell? ⟨b, 2, none⟩ = some (.int .i64 n)) : Calls Try.prog 82 #[.pointer (some ⟨b, 0, none⟩)] w fun e w' => e = .returned (.int .i64 n) ∧ w = w' := by
  go_enter Try.func82, Try.ntmps82
  go_wp2
  go_ret
  exact ⟨rfl, rfl⟩
set_option maxRecDepth 100000 in
theorem branch_levels_any (b : Nat) (n : Int) (w : World) (h : w.cell? ⟨b, 3, none⟩ = some (.int .i64 n)) : Calls Try.prog 81 #[.pointer (some ⟨b, 0, none⟩)] w fun e w' => e = .returned (.int .i64 n) ∧ w = w' := by
  go_enter Try.func81, Try.ntmps81
  go_wp2
  go_ret
  exact ⟨rfl, rfl⟩

/-- How a tree's value answers to its two methods. -/
structure Face (w : World) (v : Value) (t : Rp.T) (u : TypeId) (x : Value) (fs fl : FuncId) : Prop where
  val : v = .iface u x
  ms : ∀ W : World, (method 226 u x "trellis/rope.size").run Try.prog W = .ok (fs, x) W
  ml : ∀ W : World, (method 226 u x "trellis/rope.levels").run Try.prog W = .ok (fl, x) W
  es : ∀ W : World, (callFunc fs #[x]).run Try.prog W = .ok (.enter fs #[x]) W
  el : ∀ W : World, (callFunc fl #[x]).run Try.prog W = .ok (.enter fl #[x]) W
  cs : ∀ W : World, Below w.heap.size w W → Calls Try.prog fs #[x] W fun e w' => e = .returned (.int .i64 (t.len : Int)) ∧ W = w'
  cl : ∀ W : World, Below w.heap.size w W → Calls Try.prog fl #[x] W fun e w' => e = .returned (.int .i64 (t.ht : Int)) ∧ W = w'

theorem IsTree.face {w : World} {v : Value} {t : Rp.T} (h : IsTree w v t) : ∃ u x fs fl, Face w v t u x fs fl := by
  cases h with
  | leaf s =>
    exact ⟨95, .string s, 80, 79, rfl, m_leaf_size s, m_leaf_levels s, fun W => by kernel_rfl, fun W => by kernel_rfl, fun W _ => leaf_size_any s W, fun W _ => leaf_levels_any s W⟩
  | branch b vl vr l r h0 h1 h2 h3 hl hr =>
    exact ⟨97, .pointer (some ⟨b, 0, none⟩), 82, 81, rfl, m_branch_size _, m_branch_levels _, fun W => by kernel_rfl, fun W => by kernel_rfl, fun W hb => branch_size_any b _ W (below_cell hb h2), fun W hb => branch_levels_any b _ W (below_cell hb h3)⟩

end Go.Proofs.Ytnhmdbmcamfbiaa
