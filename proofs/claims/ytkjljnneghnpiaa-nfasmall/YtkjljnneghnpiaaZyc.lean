import Derived.Test.YtkjljnneghnpiaaZshp
import Derived.Maps.AppendAt
namespace Go.Proofs.Ytkjljnneghnpiaa.Rg
open Go.RowKit
theorem own_slice {w : World} {base e z : Nat} {v : Value} {n : Nat} {xs : List Value} (h : w.ownsRow base e z v n xs) : ∃ a cap, v = .slice a n cap := by
  obtain ⟨h1, h2⟩ := h
  rcases h2 with ⟨rfl, h2⟩ | ⟨g, cap, cur, rfl, hg, hh, hcap, _⟩
  · subst h2
    exact ⟨_, _, rfl⟩
  · exact ⟨_, _, rfl⟩
theorem AtN.mono {W W' : World} {k : Nat} {op : Int} {m : Nat → Bool} {x y : Int} (h : AtN W k op m x y) (hb : Below W.heap.size W W') : AtN W' k op m x y := ⟨below_heap hb h.h (lt_of_heap h.h)⟩
end Go.Proofs.Ytkjljnneghnpiaa.Rg
namespace Go.Proofs.Ytkjljnneghnpiaa.Rg
open Go.RowKit
theorem addPlain (b o i : Nat) : (⟨b, o, none⟩ : Addr).add i = ⟨b, o + i, none⟩ := by unfold Addr.add; split <;> simp_all
/-- A node's cells, a list's. -/
def nc (n : Nd) : List Value := [.int .i64 n.op, .int .u64 (wd n.m 0 : Nat), .int .u64 (wd n.m 1 : Nat), .int .u64 (wd n.m 2 : Nat), .int .u64 (wd n.m 3 : Nat), .int .i64 n.a, .int .i64 n.b]
def ncs (l : List Nd) : List Value := l.flatMap nc
theorem ncs_len (l : List Nd) : (ncs l).length = l.length * 7 := by
  induction l with
  | nil => rfl
  | cons n l ih =>
    unfold ncs at *
    rw [List.flatMap_cons, List.length_append, ih, List.length_cons]
    show 7 + _ = _
    omega
theorem ncs_app (l k : List Nd) : ncs (l ++ k) = ncs l ++ ncs k := by unfold ncs; rw [List.flatMap_append]
theorem ncs_at (p : List Nd) (n : Nd) (s : List Nd) (i : Nat) (hi : i < 7) : (ncs (p ++ n :: s))[p.length * 7 + i]? = (nc n)[i]? := by
  have e : ncs (p ++ n :: s) = ncs p ++ (nc n ++ ncs s) := by rw [ncs_app]; rfl
  rw [e, List.getElem?_append_right (by rw [ncs_len]; omega), ncs_len, show p.length * 7 + i - p.length * 7 = i by omega, List.getElem?_append_left (by show i < 7; exact hi)]
theorem NdsAt.of {W : World} {g o : Nat} {re : List Nd} (h : ∀ j u, (ncs re)[j]? = some u → W.cell? ⟨g, o + j, none⟩ = some u) : NdsAt W g o re := by
  refine ⟨fun p n s e => ?_⟩
  subst e
  have k : ∀ i u, i < 7 → (nc n)[i]? = some u → W.cell? ⟨g, o + (p.length * 7 + i), none⟩ = some u := fun i u hi hu => h _ u (by rw [ncs_at p n s i hi]; exact hu)
  refine ⟨?_, ?_, ?_, ?_, ?_, ?_, ?_⟩
  · exact k 0 _ (by omega) rfl
  · exact k 1 _ (by omega) rfl
  · exact k 2 _ (by omega) rfl
  · exact k 3 _ (by omega) rfl
  · exact k 4 _ (by omega) rfl
  · exact k 5 _ (by omega) rfl
  · exact k 6 _ (by omega) rfl
theorem info34 : (Try.prog.info? 58).map (fun i => (i.zero, i.size, i.bytes)) = some (some (.agg #[.int .i64 0, .int .u64 0, .int .u64 0, .int .u64 0, .int .u64 0, .int .i64 0, .int .i64 0]), 7, 56) := by kernel_rfl
/-- A list of nodes, as it is handed over. -/
structure Lst (w : World) (lp : Option Addr) (g o cap : Nat) (re : List Nd) : Prop where
  ptr : re ≠ [] → lp = some ⟨g, o, none⟩
  lt : re ≠ [] → g < w.heap.size
  at_ : NdsAt w g o re
theorem Lst.up {w w' : World} {lp : Option Addr} {g o cap : Nat} {re : List Nd} (h : Lst w lp g o cap re) (hb : Below w.heap.size w w') : Lst w' lp g o cap re := by
  refine ⟨h.ptr, fun hn => Nat.lt_of_lt_of_le (h.lt hn) hb.size, ?_⟩
  by_cases hn : re = []
  · subst hn
    exact ⟨fun p n s e => by cases p <;> cases e⟩
  · exact h.at_.below hb (h.lt hn)
/-- The marked nodes. -/
def mk (i : Nat) : Nd := ⟨77, fun _ => false, (i : Int), 0⟩
theorem cell_seven_new (w : World) (a b c d e f h : Value) (t : TypeId) : ∀ (j : Nat) (u : Value), [a, b, c, d, e, f, h][j]? = some u → (w.alloc (.cells #[a, b, c, d, e, f, h] t)).cell? ((⟨w.heap.size, 0, none⟩ : Addr).add j) = some u := by
  intro j u hu
  rw [addPlain, Nat.zero_add]
  have hj : j < 7 := (List.getElem?_eq_some_iff.1 hu).1
  rw [World.cell?_alloc_at _ _ _ _ rfl]
  match j, hj, hu with
  | 0, _, hu => simpa using hu
  | 1, _, hu => simpa using hu
  | 2, _, hu => simpa using hu
  | 3, _, hu => simpa using hu
  | 4, _, hu => simpa using hu
  | 5, _, hu => simpa using hu
  | 6, _, hu => simpa using hu
end Go.Proofs.Ytkjljnneghnpiaa.Rg
