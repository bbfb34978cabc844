import Derived.Test.YthfijmabagjdkaaProg
import Derived.Test.YthfijmabagjdkaaPur2
import Derived.WalkKit
import Derived.WalkSpells
import Derived.WalkLawsBesides
import Derived.Deep.LoopGhost
import Derived.Deep.RegionWith
import Derived.Deep.RegionHeld3
import Derived.Deep.AppendLies
import Derived.Deep.Cut
import Derived.Deep.CutRange
import Derived.Deep.CutBlock
import Derived.Deep.QuietTactic
import Derived.BigQuiet
import Derived.WalkSmall
import Derived.Laws.ResultCell
import Derived.Laws.BitsLemmas
import Derived.Laws.OwnMore
import Derived.Laws.AppendOwnNone
import Derived.Maps.AppendAt
import Derived.Maps.GroupsBeside
import Derived.Lib.AppendStr
import Derived.Lib.UnsafeStr
import Derived.Laws.IdiomStrings
namespace Go.Proofs.Ythfijmabagjdkaa
open Go.RowKit Go.Maps

theorem cell_lt {w : World} {a : Addr} {v : Value} (h : w.cell? a = some v) : a.block < w.heap.size := by
  rcases Nat.lt_or_ge a.block w.heap.size with h' | h'
  · exact h'
  · unfold World.cell? at h
    simp [Array.getElem?_eq_none h'] at h
theorem below_cell {w w' : World} (hb : Below w.heap.size w w') {a : Addr} {v : Value} (h : w.cell? a = some v) : w'.cell? a = some v := by
  rw [hb.cell (p := a) (cell_lt h)]; exact h
theorem below_trans {a b c : World} (h : Below a.heap.size a b) (k : Below b.heap.size b c) : Below a.heap.size a c :=
  h.trans (k.mono h.size)
theorem lt_of_heap {w : World} {b : Nat} {o : Obj} (h : w.heap[b]? = some o) : b < w.heap.size := (Array.getElem?_eq_some_iff.1 h).1
theorem ret_int {k : IntKind} {a b : Int} (h : a = b) : Ending.returned (.int k a) = .returned (.int k b) := by rw [h]
theorem ret_bool {a b : Bool} (h : a = b) : Ending.returned (.bool a) = .returned (.bool b) := by rw [h]
theorem get_bang (s : ByteArray) (i : Nat) (hi : i < s.size) : s.get! i = s[i] := by
  unfold ByteArray.get!
  show s.data[i]! = s.data[i]
  exact getElem!_pos s.data i hi
theorem idx_fact (s : ByteArray) (i : Nat) (hi : i < s.size) : ∀ W : World, (Instr.index 9 (.string s) (.int .i64 (i : Int))).run Try.prog W = .ok (.int .u8 ((s.get! i).toNat : Int)) W := by
  intro W
  rw [run_index_string W 9 s .i64 _ Try.underlying9, dif_pos ⟨by omega, by omega⟩]
  have e : ((i : Int)).toNat = i := by omega
  simp only [e, get_bang s i hi]
theorem get_list (s : ByteArray) (i : Nat) (hi : i < s.size) : s.get! i = s.data.toList[i]'(by rw [Array.length_toList]; exact hi) := by
  rw [get_bang s i hi]
  simp [ByteArray.getElem_eq_getElem_data]
theorem bel_up (w : World) (o : Obj) : Below w.heap.size w (w.alloc o) := (Below.refl _ _).alloc (Nat.le_refl _) _
theorem addPl (g o j : Nat) : (⟨g, o, none⟩ : Addr).add j = ⟨g, o + j, none⟩ := by cases j <;> simp [Addr.add]
theorem heap_new (w : World) (o : Obj) : (w.alloc o).heap[w.heap.size]? = some o := by
  show (w.heap.push o)[w.heap.size]? = _
  simp
theorem lst_siz (x : ByteArray) : x.data.toList.length = x.size := Array.length_toList
theorem drop_at (s : ByteArray) (k : Nat) (hk : k < s.size) : s.data.toList.drop k = s.get! k :: s.data.toList.drop (k + 1) := by
  rw [get_list s k hk, List.drop_eq_getElem_cons (by rw [lst_siz]; exact hk)]
theorem drop_end (s : ByteArray) (k : Nat) (hk : s.size ≤ k) : s.data.toList.drop k = [] := List.drop_eq_nil_of_le (by rw [lst_siz]; exact hk)

/-- The cells of a row of words. -/
def wC : List Wd → List Value
  | [] => []
  | f :: l => [Value.int .i64 f.k, .string ⟨f.t.toArray⟩, .int .i64 f.n, .int .i64 f.a] ++ wC l
theorem wC_app (l k : List Wd) : wC (l ++ k) = wC l ++ wC k := by
  induction l with
  | nil => rfl
  | cons m l ih => simp only [List.cons_append, wC, ih, List.nil_append]
theorem wC_len (l : List Wd) : (wC l).length = l.length * 4 := by
  induction l with
  | nil => rfl
  | cons m l ih => simp only [wC, List.length_append, ih, List.length_cons, List.length_nil]; omega
theorem wC_one (l : List Wd) : ∀ u ∈ wC l, u.oneCell' = true := by
  induction l with
  | nil => intro u hu; cases hu
  | cons m l ih =>
    intro u hu
    rcases List.mem_append.1 hu with h | h
    · simp at h
      rcases h with rfl | rfl | rfl | rfl <;> rfl
    · exact ih u h
def w0 : Wd := ⟨0, [], 0, 0⟩
theorem wC_get (l : List Wd) : ∀ i (_ : i < l.length), (wC l)[i * 4]? = some (.int .i64 (l.getD i w0).k) ∧ (wC l)[i * 4 + 1]? = some (.string ⟨(l.getD i w0).t.toArray⟩) ∧ (wC l)[i * 4 + 2]? = some (.int .i64 (l.getD i w0).n) ∧ (wC l)[i * 4 + 3]? = some (.int .i64 (l.getD i w0).a) := by
  induction l with
  | nil => intro i hi; cases hi
  | cons m l ih =>
    intro i hi
    cases i with
    | zero => exact ⟨rfl, rfl, rfl, rfl⟩
    | succ i =>
      have h := ih i (by simp at hi; omega)
      have e : ∀ d, (wC (m :: l))[(i + 1) * 4 + d]? = (wC l)[i * 4 + d]? := fun d => by
        have e1 : (i + 1) * 4 + d = (i * 4 + d) + 4 := by omega
        rw [e1]
        show ([Value.int .i64 m.k, .string ⟨m.t.toArray⟩, .int .i64 m.n, .int .i64 m.a] ++ wC l)[(i * 4 + d) + 4]? = _
        rw [List.getElem?_append_right (by simp)]
        simp
      have e0 := e 0
      rw [Nat.add_zero, Nat.add_zero] at e0
      rw [e0, e 1, e 2, e 3]
      exact h
/-- A row in memory, by its cells. -/
def Rw (W : World) (v : Value) (n : Nat) (cs : List Value) : Prop :=
  ∃ a g o cap, v = .slice a n cap ∧ n ≤ cap ∧ (a = none → n = 0 ∧ cap = 0) ∧ (0 < n → a = some ⟨g, o, none⟩) ∧ ∀ j u, cs[j]? = some u → W.cell? ⟨g, o + j, none⟩ = some u
theorem Rw.up {W W' : World} {v : Value} {n : Nat} {cs : List Value} (h : Rw W v n cs) (hb : Below W.heap.size W W') : Rw W' v n cs := by
  obtain ⟨a, g, o, cap, e, hn, h0, h1, hc⟩ := h
  exact ⟨a, g, o, cap, e, hn, h0, h1, fun j u hu => below_cell hb (hc j u hu)⟩
theorem Rw.nil (W : World) : Rw W (.slice none 0 0) 0 [] := ⟨none, 0, 0, 0, rfl, by omega, fun _ => ⟨rfl, rfl⟩, fun h => by omega, fun j u h => by simp at h⟩
theorem info5 : (Try.prog.info? 5).map (fun i => (i.zero, i.size, i.bytes)) = some (some (.int .u8 0), 1, 1) := by kernel_rfl
theorem infoW : (Try.prog.info? 41).map (fun i => (i.zero, i.size, i.bytes)) = some (some (.agg #[.int .i64 0, .string ⟨#[]⟩, .int .i64 0, .int .i64 0]), 4, 40) := by kernel_rfl
theorem row_shape {W : World} {B : Nat} {e : TypeId} {size n : Nat} {v : Value} {xs : List Value} (h : W.ownsRow B e size v n xs) : ∃ a cap, v = .slice a n cap := by
  rcases h.2 with ⟨rfl, rfl⟩ | ⟨g, cap, cur, rfl, _⟩
  · exact ⟨_, _, rfl⟩
  · exact ⟨_, _, rfl⟩
theorem row_form {W : World} {B : Nat} {e : TypeId} {size n : Nat} {v : Value} {xs : List Value} (h : W.ownsRow B e size v n xs) (hn : 0 < n) : ∃ g cap, v = .slice (some ⟨g, 0, none⟩) n cap ∧ B ≤ g ∧ n ≤ cap ∧ cap ≤ maxLen := by
  rcases h.2 with ⟨rfl, rfl⟩ | ⟨g, cap, cur, rfl, h1, h2, h3, h4, _⟩
  · omega
  · exact ⟨g, cap, rfl, h1, h3, h4⟩
theorem row_rw {W : World} {B : Nat} {e : TypeId} {size n : Nat} {v : Value} {xs : List Value} (h : W.ownsRow B e size v n xs) : Rw W v n xs := by
  obtain ⟨hl, h | ⟨g, cap, cur, rfl, h1, h2, h3, h4, h5, h6⟩⟩ := h
  · obtain ⟨rfl, rfl⟩ := h
    have : xs = [] := List.length_eq_zero_iff.1 (by omega)
    subst this
    exact Rw.nil W
  · refine ⟨_, g, 0, cap, rfl, h3, fun h => (by cases h), fun _ => rfl, fun j u hu => ?_⟩
    rw [Nat.zero_add, Lib.cell_of_heap h2]
    have hj : j < xs.length := (List.getElem?_eq_some_iff.1 hu).1
    rw [← h6, List.getElem?_take_of_lt (by omega)] at hu
    simpa using hu
theorem grown_of_below {W W' : World} (h : Below W.heap.size W W') : W.grownBy W' none := ⟨h.os, h.tape, h.output, h.size, fun k hk _ => h.block k hk⟩
theorem row_up {W W' : World} {B : Nat} {e : TypeId} {size n : Nat} {v : Value} {xs : List Value} (h : W.ownsRow B e size v n xs) (hb : Below W.heap.size W W') : W'.ownsRow B e size v n xs :=
  h.kept (grown_of_below hb) (by cases v.ownBlock <;> simp)
theorem row_tag {W : World} {B : Nat} {e : TypeId} {size n : Nat} {v : Value} {xs : List Value} (h : W.ownsRow B e size v n xs) : ∀ r, v.ownBlock = some r → B ≤ r ∧ ∃ cur, W.heap[r]? = some (.cells cur e (0, 0)) := by
  intro r e'
  rcases h.2 with ⟨rfl, _⟩ | ⟨g, cap, cur, rfl, hb, hh, _⟩
  · cases e'
  · cases e'; exact ⟨hb, cur, hh⟩
theorem tag_ne_blk {W : World} {B : Nat} {e t : TypeId} {s n bk : Nat} {v : Value} {xs : List Value} {cur : Array Value} (h : W.ownsRow B e s v n xs) (hb : W.heap[bk]? = some (.cells cur t (0, 0))) (hne : e ≠ t) : v.ownBlock ≠ some bk := fun e1 => by
  obtain ⟨_, c1, e2⟩ := row_tag h bk e1
  rw [hb] at e2; cases e2; exact hne rfl
theorem tag_ne {W : World} {B B' : Nat} {e e' : TypeId} {s s' n n' : Nat} {v v' : Value} {xs xs' : List Value} (h : W.ownsRow B e s v n xs) (h' : W.ownsRow B' e' s' v' n' xs') (hne : e ≠ e') : v.ownBlock = none ∨ v.ownBlock ≠ v'.ownBlock := by
  cases hv : v.ownBlock with
  | none => exact .inl rfl
  | some r =>
    refine .inr fun h2 => ?_
    obtain ⟨_, c1, e1⟩ := row_tag h r hv
    obtain ⟨_, c2, e2⟩ := row_tag h' r h2.symm
    rw [e1] at e2; cases e2; exact hne rfl
theorem grown_set {W : World} {b k : Nat} {v : Value} : W.grownBy (W.setCell ⟨b, k, none⟩ v) (some b) :=
  ⟨rfl, rfl, rfl, by simp, fun j _ hne => Below.heap_setCell W ⟨b, k, none⟩ v j (fun e => hne (by rw [e]))⟩
theorem blk_set {W : World} {b k : Nat} {cs : Array Value} {t : TypeId} (v : Value) (h : W.heap[b]? = some (.cells cs t (0, 0))) : (W.setCell ⟨b, k, none⟩ v).heap[b]? = some (.cells (cs.setIfInBounds k v) t (0, 0)) := by
  obtain ⟨hlt, hk⟩ := Array.getElem?_eq_some_iff.1 h
  show (W.heap.modify b _)[b]? = _
  rw [Array.getElem?_eq_getElem (by rw [Array.size_modify]; exact hlt), Array.getElem_modify_self, hk]
  rfl
theorem w64n (k : Nat) (h : k < 9223372036854775807) : IntKind.i64.wrap ((k : Int) + 1) = ((k + 1 : Nat) : Int) := by rw [IntKind.wrap_i64]; omega
/-- A row of bytes, of words, of the call's own. -/
abbrev Byt (B : Nat) (W : World) (v : Value) (l : List UInt8) : Prop := W.ownsRow B 5 1 v l.length (Lib.byteCells l)
abbrev Wow (B : Nat) (W : World) (v : Value) (l : List Wd) : Prop := W.ownsRow B 41 4 v l.length (wC l)
theorem byt_app {B : Nat} {W : World} {v : Value} {l : List UInt8} {x : UInt8} (h : W.ownsRow B 5 1 v (l.length + 1) (Lib.byteCells l ++ [.int .u8 (x.toNat : Int)])) : Byt B W v (l ++ [x]) := by
  unfold Byt
  rw [List.length_append]
  have e : Lib.byteCells (l ++ [x]) = Lib.byteCells l ++ [.int .u8 (x.toNat : Int)] := by simp [Lib.byteCells]
  rw [e]
  exact h
theorem wow_app {B : Nat} {W : World} {v : Value} {l : List Wd} {x : Wd} (h : W.ownsRow B 41 4 v (l.length + 1) (wC l ++ [.int .i64 x.k, .string ⟨x.t.toArray⟩, .int .i64 x.n, .int .i64 x.a])) : Wow B W v (l ++ [x]) := by
  unfold Wow
  rw [List.length_append, wC_app]
  exact h
end Go.Proofs.Ythfijmabagjdkaa
