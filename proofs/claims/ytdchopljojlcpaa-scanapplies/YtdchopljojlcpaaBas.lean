import Derived.WalkKit
import Derived.WalkSpells
import Derived.WalkLawsBesides
import Derived.Deep.LoopGhost
import Derived.Deep.RegionWith
import Derived.Deep.RegionHeld3
import Derived.Deep.AppendLies
import Derived.Deep.Cut
import Derived.Deep.CutRange
import Derived.Deep.CutBlock
import Derived.Deep.QuietTactic
import Derived.BigQuiet
import Derived.WalkSmall
import Derived.Laws.ResultCell
import Derived.Laws.BitsLemmas
import Derived.Laws.OwnMore
import Derived.Maps.GroupsBeside
import Derived.Test.YtdchopljojlcpaaProg
import Derived.Test.YtdchopljojlcpaaShelf
import Derived.Test.YtdchopljojlcpaaPure
namespace Go.Proofs.Ytdchopljojlcpaa
open Go.RowKit

theorem cell_lt {w : World} {a : Addr} {v : Value} (h : w.cell? a = some v) : a.block < w.heap.size := by
  rcases Nat.lt_or_ge a.block w.heap.size with h' | h'
  · exact h'
  · unfold World.cell? at h
    simp [Array.getElem?_eq_none h'] at h
theorem below_cell {w w' : World} (hb : Below w.heap.size w w') {a : Addr} {v : Value} (h : w.cell? a = some v) : w'.cell? a = some v := by
  rw [hb.cell (p := a) (cell_lt h)]; exact h
theorem below_trans {a b c : World} (h : Below a.heap.size a b) (k : Below b.heap.size b c) : Below a.heap.size a c :=
  h.trans (k.mono h.size)
theorem lt_of_heap {w : World} {b : Nat} {o : Obj} (h : w.heap[b]? = some o) : b < w.heap.size := (Array.getElem?_eq_some_iff.1 h).1
theorem ret_bool {a b : Bool} (h : a = b) : Ending.returned (.bool a) = .returned (.bool b) := by rw [h]
theorem get_bang (s : ByteArray) (i : Nat) (hi : i < s.size) : s.get! i = s[i] := by
  unfold ByteArray.get!
  show s.data[i]! = s.data[i]
  exact getElem!_pos s.data i hi
theorem idx_fact (s : ByteArray) (i : Nat) (hi : i < s.size) : ∀ W : World, (Instr.index 9 (.string s) (.int .i64 (i : Int))).run Try.prog W = .ok (.int .u8 ((s.get! i).toNat : Int)) W := by
  intro W
  rw [run_index_string W 9 s .i64 _ Try.underlying9, dif_pos ⟨by omega, by omega⟩]
  have e : ((i : Int)).toNat = i := by omega
  simp only [e, get_bang s i hi]
theorem bel_up (w : World) (o : Obj) : Below w.heap.size w (w.alloc o) := (Below.refl _ _).alloc (Nat.le_refl _) _
theorem cell_up {w : World} {a : Addr} {v : Value} (o : Obj) (h : w.cell? a = some v) : (w.alloc o).cell? a = some v := below_cell (bel_up w o) h
theorem addPl (g o j : Nat) : (⟨g, o, none⟩ : Addr).add j = ⟨g, o + j, none⟩ := by cases j <;> simp [Addr.add]
/-- The cells of a row of numbers, of texts, of frames. -/
def iC (l : List Int) : List Value := l.map (Value.int .i64)
def qC (l : List ByteArray) : List Value := l.map Value.string
def fC : List (Int × ByteArray) → List Value
  | [] => []
  | f :: l => [Value.int .i64 f.1, Value.string f.2] ++ fC l
theorem iC_get (l : List Int) (i : Nat) (h : i < l.length) : (iC l)[i]? = some (.int .i64 (l.getD i 0)) := by
  simp [iC, List.getD_eq_getElem?_getD, List.getElem?_eq_getElem h]
theorem qC_get (l : List ByteArray) (i : Nat) (h : i < l.length) : (qC l)[i]? = some (.string (l.getD i ⟨#[]⟩)) := by
  simp [qC, List.getD_eq_getElem?_getD, List.getElem?_eq_getElem h]
theorem fC_get (l : List (Int × ByteArray)) : ∀ i (_ : i < l.length), (fC l)[i * 2]? = some (.int .i64 (l.getD i (0, ⟨#[]⟩)).1) ∧ (fC l)[i * 2 + 1]? = some (.string (l.getD i (0, ⟨#[]⟩)).2) := by
  induction l with
  | nil => intro i hi; cases hi
  | cons m l ih =>
    intro i hi
    cases i with
    | zero => exact ⟨rfl, rfl⟩
    | succ i =>
      have h := ih i (by simp at hi; omega)
      have e : (i + 1) * 2 = (i * 2) + 2 := by omega
      have e' : (i + 1) * 2 + 1 = (i * 2 + 1) + 2 := by omega
      constructor
      · rw [e]
        show ([Value.int .i64 m.1, Value.string m.2] ++ fC l)[(i * 2) + 2]? = _
        rw [List.getElem?_append_right (by simp)]
        simpa using h.1
      · rw [e']
        show ([Value.int .i64 m.1, Value.string m.2] ++ fC l)[(i * 2 + 1) + 2]? = _
        rw [List.getElem?_append_right (by simp)]
        simpa using h.2
/-- A row in memory, by its cells. -/
def Rw (W : World) (v : Value) (n : Nat) (cs : List Value) : Prop :=
  ∃ a g o cap, v = .slice a n cap ∧ n ≤ cap ∧ (a = none → n = 0 ∧ cap = 0) ∧ (0 < n → a = some ⟨g, o, none⟩) ∧ ∀ j u, cs[j]? = some u → W.cell? ⟨g, o + j, none⟩ = some u
theorem Rw.up {W W' : World} {v : Value} {n : Nat} {cs : List Value} (h : Rw W v n cs) (hb : Below W.heap.size W W') : Rw W' v n cs := by
  obtain ⟨a, g, o, cap, e, hn, h0, h1, hc⟩ := h
  exact ⟨a, g, o, cap, e, hn, h0, h1, fun j u hu => below_cell hb (hc j u hu)⟩
theorem Rw.nil (W : World) : Rw W (.slice none 0 0) 0 [] := ⟨none, 0, 0, 0, rfl, by omega, fun _ => ⟨rfl, rfl⟩, fun h => by omega, fun j u h => by simp at h⟩
/-- A state in memory. -/
structure Stm (W : World) (vi vq vf : Value) (s : Stt) : Prop where
  i : Rw W vi s.ind.length (iC s.ind)
  q : Rw W vq s.que.length (qC s.que)
  f : Rw W vf s.frm.length (fC s.frm)
theorem Stm.up {W W' : World} {vi vq vf : Value} {s : Stt} (h : Stm W vi vq vf s) (hb : Below W.heap.size W W') : Stm W' vi vq vf s := ⟨h.i.up hb, h.q.up hb, h.f.up hb⟩
theorem Stm.form {W : World} {vi vq vf : Value} {s : Stt} (h : Stm W vi vq vf s) : ∃ a1 c1 a2 c2 a3 c3, vi = .slice a1 s.ind.length c1 ∧ vq = .slice a2 s.que.length c2 ∧ vf = .slice a3 s.frm.length c3 := by
  obtain ⟨a1, _, _, c1, e1, _⟩ := h.i
  obtain ⟨a2, _, _, c2, e2, _⟩ := h.q
  obtain ⟨a3, _, _, c3, e3, _⟩ := h.f
  exact ⟨a1, c1, a2, c2, a3, c3, e1, e2, e3⟩
/-- A state as a value. -/
@[reducible] def sv (vi vq vf : Value) (s : Stt) : Value := .agg #[vi, .int .i64 s.pen, vq, vf, .int .u16 (s.flg : Int)]
end Go.Proofs.Ytdchopljojlcpaa
