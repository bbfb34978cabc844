import Derived.Test.YtkjcnnecdclgfaaDoorRows
import Derived.Test.YtkjcnnecdclgfaaDoorRoo
import Derived.ProofKit
import Derived.OpenShut
import Derived.ShutString
import Derived.ChangeOld
import Derived.JoinedCond
import Derived.Below
import Derived.SizedLaws
import Derived.Lib.SmallJoins
import Derived.Deep.Slices
import Derived.Deep.Strs
import Derived.Laws.IdiomArrays
namespace Go.Proofs.YtkjcnnecdclgfaaDoor
open Go.ChangeShapes Go.WideShapes Go.ChangeAt Go.RowKit
open Go.ChangeMaps (open_string shut_string)
open Go.Joins Go.Deep

theorem ownE : ownKnob Tryd.prog.godebug = none := by kernel_rfl
theorem laidOutE : laidOutB Tryd.prog = true := by kernel_rfl
theorem cells34 : Tryd.prog.cellsOf 34 = 7 := by kernel_rfl
theorem cells32 : Tryd.prog.cellsOf 32 = 4 := by kernel_rfl
theorem cells3i : Tryd.prog.cellsOf 3 = 1 := by kernel_rfl
theorem cells29 : Tryd.prog.cellsOf 29 = 1 := by kernel_rfl
theorem bytes34 : Tryd.prog.bytesOf 34 = 56 := by kernel_rfl

/-- Every word below 2^64 is that of its bits. -/
theorem wd_of (w : Nat → Nat) (i : Nat) (h : w i < 18446744073709551616) : w i = wd (fun b => (w (b / 64)).testBit (b % 64)) i := by
  refine wd_ext _ _ _ h (fun j hj => ?_)
  have h1 : (64 * i + j) / 64 = i := by omega
  have h2 : (64 * i + j) % 64 = j := by omega
  simp only [h1, h2]
/-- The node that these numbers are. -/
def wrd (x0 x1 x2 x3 : Int) : Nat → Nat
  | 0 => x0.toNat
  | 1 => x1.toNat
  | 2 => x2.toNat
  | _ => x3.toNat
def ndOf (op x0 x1 x2 x3 a b : Int) : Nd := ⟨op, fun k => (wrd x0 x1 x2 x3 (k / 64)).testBit (k % 64), a, b⟩
theorem ndOf_wd (op x0 x1 x2 x3 a b : Int) (h0 : 0 ≤ x0 ∧ x0 < 18446744073709551616) (h1 : 0 ≤ x1 ∧ x1 < 18446744073709551616) (h2 : 0 ≤ x2 ∧ x2 < 18446744073709551616) (h3 : 0 ≤ x3 ∧ x3 < 18446744073709551616) :
    ((wd (ndOf op x0 x1 x2 x3 a b).m 0 : Nat) : Int) = x0 ∧ ((wd (ndOf op x0 x1 x2 x3 a b).m 1 : Nat) : Int) = x1 ∧ ((wd (ndOf op x0 x1 x2 x3 a b).m 2 : Nat) : Int) = x2 ∧ ((wd (ndOf op x0 x1 x2 x3 a b).m 3 : Nat) : Int) = x3 := by
  have k0 : x0.toNat = wd (ndOf op x0 x1 x2 x3 a b).m 0 := wd_of (wrd x0 x1 x2 x3) 0 (by show x0.toNat < _; omega)
  have k1 : x1.toNat = wd (ndOf op x0 x1 x2 x3 a b).m 1 := wd_of (wrd x0 x1 x2 x3) 1 (by show x1.toNat < _; omega)
  have k2 : x2.toNat = wd (ndOf op x0 x1 x2 x3 a b).m 2 := wd_of (wrd x0 x1 x2 x3) 2 (by show x2.toNat < _; omega)
  have k3 : x3.toNat = wd (ndOf op x0 x1 x2 x3 a b).m 3 := wd_of (wrd x0 x1 x2 x3) 3 (by show x3.toNat < _; omega)
  refine ⟨?_, ?_, ?_, ?_⟩
  · rw [← k0]; omega
  · rw [← k1]; omega
  · rw [← k2]; omega
  · rw [← k3]; omega
theorem u64_range {x : Int} (h : (Lit.int .u64 x).wf = true) : 0 ≤ x ∧ x < 18446744073709551616 := by
  simp [Lit.wf, IntKind.min, IntKind.max, IntKind.bits, IntKind.signed] at h
  omega
set_option maxRecDepth 100000 in
theorem node_cells {H : Type} {enc : TypeId × Value → H} {W : World} {n : Nat} {cs : List Value} {x : DataW H × List MemPlace} (h : DataW.trod enc Tryd.prog W 0 (fun _ => true) true n 34 cs = some x) :
    ∃ nd : Nd, cs = nc nd := by
  obtain ⟨y0, y1, y2, y3, m, rfl, hl, h0, h1, h2, h3⟩ := trod_struct4 Tryd.underlying34 h
  rw [cells34] at hl
  match cs, hl with
  | [c0, c1, c2, c3, c4, c5, c6], _ =>
    simp only [cells3i, cells29, cells32] at h0 h1 h2 h3
    obtain ⟨op, e0, _, _⟩ := DataW.trod_int Tryd.underlying29 h0
    obtain ⟨a, e2, _, _⟩ := DataW.trod_int Tryd.underlying3 h2
    obtain ⟨b, e3, _, _⟩ := DataW.trod_int Tryd.underlying3 h3
    simp at e0 e2 e3
    subst e0 e2 e3
    have h1' : DataW.trod enc Tryd.prog W 0 (fun _ => true) true m 32 [c1, c2, c3, c4] = some y1 := h1
    obtain ⟨z0, z1, z2, z3, q, _, g0, g1, g2, g3⟩ := trod_array4 Tryd.underlying32 (by kernel_rfl) h1'
    obtain ⟨x0, f0, _, r0⟩ := DataW.trod_int Tryd.underlying30 g0
    obtain ⟨x1, f1, _, r1⟩ := DataW.trod_int Tryd.underlying30 g1
    obtain ⟨x2, f2, _, r2⟩ := DataW.trod_int Tryd.underlying30 g2
    obtain ⟨x3, f3, _, r3⟩ := DataW.trod_int Tryd.underlying30 g3
    simp at f0 f1 f2 f3
    subst f0 f1 f2 f3
    obtain ⟨w0, w1, w2, w3⟩ := ndOf_wd op x0 x1 x2 x3 a b (u64_range r0) (u64_range r1) (u64_range r2) (u64_range r3)
    refine ⟨ndOf op x0 x1 x2 x3 a b, ?_⟩
    unfold nc
    rw [w0, w1, w2, w3]
    rfl
theorem pick_nodes (P : Nat → Nd → Prop) (n : Nat) (h : ∀ i, i < n → ∃ e : Nd, P i e) : ∃ E : List Nd, E.length = n ∧ ∀ p e s, E = p ++ e :: s → P p.length e := by
  induction n with
  | zero => exact ⟨[], rfl, fun p e s h => by cases p <;> cases h⟩
  | succ n ih =>
    obtain ⟨E, e1, e2⟩ := ih (fun i hi => h i (by omega))
    obtain ⟨e, p1⟩ := h n (by omega)
    refine ⟨E ++ [e], by simp [e1], fun p e' s he => ?_⟩
    rcases List.append_eq_append_iff.1 he with ⟨a', h1, h2⟩ | ⟨c', h1, h2⟩
    · cases a' with
      | nil =>
        simp at h1 h2
        rw [h1, e1, ← h2.1]
        exact p1
      | cons y a' =>
        exfalso
        simp at h2
    · cases c' with
      | nil =>
        simp at h1 h2
        rw [← h1, e1, h2.1]
        exact p1
      | cons y c' =>
        simp at h2
        exact e2 p e' c' (by rw [h1, h2.1])

set_option maxRecDepth 100000 in
/-- The nodes of a slice. -/
theorem open_nodes {H : Type} {enc : TypeId × Value → H} {W : World} {a0 : Option Addr} {len cap fuel : Nat} {x : DataW H × List MemPlace} (h : DataW.trod enc Tryd.prog W 0 (fun _ => true) true fuel 22 [.slice a0 len cap] = some x) :
    ∃ (blk off : Nat) (E : List Nd), E.length = len ∧ Lst W a0 blk off cap E ∧ (len = 0 ∨ ∃ es sp, x.1 = .slice es sp ∧ es.length = len) := by
  rcases open_slice Tryd.underlying22 h with ⟨hcs, rfl⟩ | ⟨a, len', cap', m, n, D, Pl, hcs, _, hl, hm, hmm, rfl, hel⟩
  · simp at hcs
    obtain ⟨rfl, rfl, rfl⟩ := hcs
    exact ⟨0, 0, [], rfl, ⟨fun h => absurd rfl h, fun h => absurd rfl h, ⟨fun p n s e => by cases p <;> cases e⟩⟩, Or.inl rfl⟩
  · simp at hcs
    obtain ⟨rfl, rfl, rfl⟩ := hcs
    simp at hmm
    subst hmm
    obtain ⟨blk, off, spot⟩ := a
    have key : ∀ i, i < len → ∃ e : Nd, spot = none ∧ NdAt W blk (off + i * 7) e := by
      intro i hi
      obtain ⟨cs', hc, ht⟩ := hel i (by omega)
      obtain ⟨nd, rfl⟩ := node_cells ht
      rw [cells34] at hc
      obtain ⟨_, _, hcell⟩ := World.cells?_some hc
      obtain ⟨cs0, hc0, ht0⟩ := hel 0 (by omega)
      rw [cells34] at hc0
      obtain ⟨_, _, hcell0⟩ := World.cells?_some hc0
      obtain ⟨n0, rfl⟩ := node_cells ht0
      have h0 := hcell0 0 (by show 0 < 7; omega)
      have hspot : spot = none := by simpa [Addr.add] using World.cell?_spot h0
      subst hspot
      have e0 := hcell 0 (by show 0 < 7; omega)
      have e1 := hcell 1 (by show 1 < 7; omega)
      have e2 := hcell 2 (by show 2 < 7; omega)
      have e3 := hcell 3 (by show 3 < 7; omega)
      have e4 := hcell 4 (by show 4 < 7; omega)
      have e5 := hcell 5 (by show 5 < 7; omega)
      have e6 := hcell 6 (by show 6 < 7; omega)
      simp only [addPlain] at e0 e1 e2 e3 e4 e5 e6
      exact ⟨nd, rfl, ⟨e0, e1, e2, e3, e4, e5, e6⟩⟩
    obtain ⟨E, e1, e2⟩ := pick_nodes _ len key
    refine ⟨blk, off, E, e1, ⟨fun hp => ?_, fun hp => ?_, ⟨fun p nd s e => (e2 p nd s e).2⟩⟩, Or.inr ⟨_, _, rfl, by simp⟩⟩
    · cases E with
      | nil => exact absurd rfl hp
      | cons y s =>
        have := (e2 [] y s rfl).1
        rw [this]
    · cases E with
      | nil => exact absurd rfl hp
      | cons y s =>
        have := (e2 [] y s rfl).2.c0
        exact cell_lt this
end Go.Proofs.YtkjcnnecdclgfaaDoor
