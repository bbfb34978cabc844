import Derived.Test.YthfijmabagjdkaaQpu
import Derived.Test.YthfijmabagjdkaaBax
import Derived.Laws.StructEq
namespace Go.Proofs.Ythfijmabagjdkaa.Qy
open Go.RowKit Go.Maps

theorem infoP : (Try.prog.info? 46).map (fun i => (i.zero, i.size, i.bytes)) = some (some (.agg #[.string ⟨#[]⟩, .bool false, .string ⟨#[]⟩, .string ⟨#[]⟩, .int .i64 0]), 5, 64) := by kernel_rfl
theorem infoC : (Try.prog.info? 48).map (fun i => (i.zero, i.size, i.bytes)) = some (some (.agg #[.bool false, .string ⟨#[]⟩, .string ⟨#[]⟩, .string ⟨#[]⟩]), 4, 56) := by kernel_rfl
theorem grown_new {w A : World} {r b k : Nat} {v : Value} (h : w.grownBy A (some r)) (hb : w.heap.size ≤ b) : w.grownBy (A.setCell ⟨b, k, none⟩ v) (some r) :=
  ⟨h.os, h.tape, h.output, by have := h.size; simpa using this, fun j hj hne => (Below.heap_setCell A ⟨b, k, none⟩ v j (fun e => by have e' : j = b := e; omega)).trans (h.block j hj hne)⟩
theorem heap_far {W : World} {b k i : Nat} {v : Value} (h : i ≠ b) : (W.setCell ⟨b, k, none⟩ v).heap[i]? = W.heap[i]? := Below.heap_setCell W ⟨b, k, none⟩ v i (fun e => h (by rw [e]))
theorem cell_keep {W : World} {b k : Nat} {a : Addr} {v u : Value} (h : W.cell? a = some u) (hb : a.block ≠ b) : (W.setCell ⟨b, k, none⟩ v).cell? a = some u := (grown_set (W := W) (b := b) (k := k) (v := v)).cell h (fun e => hb (by injection e))
theorem grown_weak {W W' : World} {r : Nat} (h : W.grownBy W' none) : W.grownBy W' (some r) := ⟨h.os, h.tape, h.output, h.size, fun k hk _ => h.block k hk (by simp)⟩
/-- Nodes, conditions in memory. -/
def Ps (W : World) (v : Value) (l : List Pn) : Prop := Rw W v l.length (flat pf l)
def Cs (W : World) (v : Value) (l : List Cd) : Prop := Rw W v l.length (flat cf l)
theorem Ps.up {W W' : World} {v : Value} {l : List Pn} (h : Ps W v l) (hb : Below W.heap.size W W') : Ps W' v l := Rw.up h hb
theorem Cs.up {W W' : World} {v : Value} {l : List Cd} (h : Cs W v l) (hb : Below W.heap.size W W') : Cs W' v l := Rw.up h hb
theorem Ps.form {W : World} {v : Value} {l : List Pn} (h : Ps W v l) : ∃ a cap, v = .slice a l.length cap := Rw.form h
theorem Cs.form {W : World} {v : Value} {l : List Cd} (h : Cs W v l) : ∃ a cap, v = .slice a l.length cap := Rw.form h
theorem Ps.all {W : World} {a : Option Addr} {n c : Nat} {l : List Pn} (h : Ps W (.slice a n c) l) (i : Nat) (hi : i < l.length) : ∃ g o, a = some ⟨g, o, none⟩ ∧ W.cell? ⟨g, o + i * 5, none⟩ = some (.string (l.getD i pz).nm) ∧ W.cell? ⟨g, o + i * 5 + 1, none⟩ = some (.bool (l.getD i pz).lit) ∧ W.cell? ⟨g, o + i * 5 + 2, none⟩ = some (.string (l.getD i pz).fd) ∧ W.cell? ⟨g, o + i * 5 + 3, none⟩ = some (.string (l.getD i pz).cp) ∧ W.cell? ⟨g, o + i * 5 + 4, none⟩ = some (.int .i64 (l.getD i pz).kd) := by
  obtain ⟨g, o, cap, e, hc⟩ := Rw.place h (by omega)
  obtain ⟨rfl, -, -⟩ := Value.slice.inj e
  have hk : ∀ j u, (pf (l.getD i pz))[j]? = some u → W.cell? ⟨g, o + i * 5 + j, none⟩ = some u := fun j u hu => by
    rw [Nat.add_assoc]
    refine hc _ _ ?_
    rw [flat_get pf_len pz l i j hi (by have := (List.getElem?_eq_some_iff.1 hu).1; rwa [pf_len] at this)]
    exact hu
  exact ⟨g, o, rfl, hk 0 _ rfl, hk 1 _ rfl, hk 2 _ rfl, hk 3 _ rfl, hk 4 _ rfl⟩
theorem Cs.all {W : World} {a : Option Addr} {n c : Nat} {l : List Cd} (h : Cs W (.slice a n c) l) (i : Nat) (hi : i < l.length) : ∃ g o, a = some ⟨g, o, none⟩ ∧ W.cell? ⟨g, o + i * 4, none⟩ = some (.bool (l.getD i cz).nt) ∧ W.cell? ⟨g, o + i * 4 + 1, none⟩ = some (.string (l.getD i cz).a) ∧ W.cell? ⟨g, o + i * 4 + 2, none⟩ = some (.string (l.getD i cz).b) ∧ W.cell? ⟨g, o + i * 4 + 3, none⟩ = some (.string (l.getD i cz).tx) := by
  obtain ⟨g, o, cap, e, hc⟩ := Rw.place h (by omega)
  obtain ⟨rfl, -, -⟩ := Value.slice.inj e
  have hk : ∀ j u, (cf (l.getD i cz))[j]? = some u → W.cell? ⟨g, o + i * 4 + j, none⟩ = some u := fun j u hu => by
    rw [Nat.add_assoc]
    refine hc _ _ ?_
    rw [flat_get cf_len cz l i j hi (by have := (List.getElem?_eq_some_iff.1 hu).1; rwa [cf_len] at this)]
    exact hu
  exact ⟨g, o, rfl, hk 0 _ rfl, hk 1 _ rfl, hk 2 _ rfl, hk 3 _ rfl⟩
end Go.Proofs.Ythfijmabagjdkaa.Qy
