import Derived.Test.YtkjljnneghnpiaaNop
import Derived.Test.YtkjljnneghnpiaaNyg
import Derived.Laws.IdiomArrays
namespace Go.Proofs.Ytkjljnneghnpiaa
open Go.ChangeShapes Go.WideShapes Go.ChangeAt Go.RowKit
open Go.ChangeMaps (open_string shut_string)
open Go.Joins Go.Deep

theorem cells58 : Try.prog.cellsOf 58 = 7 := by kernel_rfl
theorem cells40x : Try.prog.cellsOf 40 = 4 := by kernel_rfl
theorem cells3i5 : Try.prog.cellsOf 3 = 1 := by kernel_rfl
theorem cells56 : Try.prog.cellsOf 56 = 1 := by kernel_rfl
theorem bytes58 : Try.prog.bytesOf 58 = 56 := by kernel_rfl

/-- The node that these numbers are. -/
def wrd5 (x0 x1 x2 x3 : Int) : Nat → Nat
  | 0 => x0.toNat
  | 1 => x1.toNat
  | 2 => x2.toNat
  | _ => x3.toNat
def ndOf5 (op x0 x1 x2 x3 a b : Int) : Rg.Nd := ⟨op, fun k => (wrd5 x0 x1 x2 x3 (k / 64)).testBit (k % 64), a, b⟩
theorem ndOf_wd5 (op x0 x1 x2 x3 a b : Int) (h0 : 0 ≤ x0 ∧ x0 < 18446744073709551616) (h1 : 0 ≤ x1 ∧ x1 < 18446744073709551616) (h2 : 0 ≤ x2 ∧ x2 < 18446744073709551616) (h3 : 0 ≤ x3 ∧ x3 < 18446744073709551616) :
    ((wd (ndOf5 op x0 x1 x2 x3 a b).m 0 : Nat) : Int) = x0 ∧ ((wd (ndOf5 op x0 x1 x2 x3 a b).m 1 : Nat) : Int) = x1 ∧ ((wd (ndOf5 op x0 x1 x2 x3 a b).m 2 : Nat) : Int) = x2 ∧ ((wd (ndOf5 op x0 x1 x2 x3 a b).m 3 : Nat) : Int) = x3 := by
  have k0 : x0.toNat = wd (ndOf5 op x0 x1 x2 x3 a b).m 0 := wd_of (wrd5 x0 x1 x2 x3) 0 (by show x0.toNat < _; omega)
  have k1 : x1.toNat = wd (ndOf5 op x0 x1 x2 x3 a b).m 1 := wd_of (wrd5 x0 x1 x2 x3) 1 (by show x1.toNat < _; omega)
  have k2 : x2.toNat = wd (ndOf5 op x0 x1 x2 x3 a b).m 2 := wd_of (wrd5 x0 x1 x2 x3) 2 (by show x2.toNat < _; omega)
  have k3 : x3.toNat = wd (ndOf5 op x0 x1 x2 x3 a b).m 3 := wd_of (wrd5 x0 x1 x2 x3) 3 (by show x3.toNat < _; omega)
  refine ⟨?_, ?_, ?_, ?_⟩
  · rw [← k0]; omega
  · rw [← k1]; omega
  · rw [← k2]; omega
  · rw [← k3]; omega
theorem u64_range5 {x : Int} (h : (Lit.int .u64 x).wf = true) : 0 ≤ x ∧ x < 18446744073709551616 := by
  simp [Lit.wf, IntKind.min, IntKind.max, IntKind.bits, IntKind.signed] at h
  omega
set_option maxRecDepth 100000 in
theorem node_cells5 {H : Type} {enc : TypeId × Value → H} {W : World} {n : Nat} {cs : List Value} {x : DataW H × List MemPlace} (h : DataW.trod enc Try.prog W 0 (fun _ => true) true n 58 cs = some x) :
    ∃ nd : Rg.Nd, cs = Rg.nc nd := by
  obtain ⟨y0, y1, y2, y3, m, rfl, hl, h0, h1, h2, h3⟩ := trod_struct4 Try.underlying58 h
  rw [cells58] at hl
  match cs, hl with
  | [c0, c1, c2, c3, c4, c5, c6], _ =>
    simp only [cells3i5, cells56, cells40x] at h0 h1 h2 h3
    obtain ⟨op, e0, _, _⟩ := DataW.trod_int Try.underlying56 h0
    obtain ⟨a, e2, _, _⟩ := DataW.trod_int Try.underlying3 h2
    obtain ⟨b, e3, _, _⟩ := DataW.trod_int Try.underlying3 h3
    simp at e0 e2 e3
    subst e0 e2 e3
    have h1' : DataW.trod enc Try.prog W 0 (fun _ => true) true m 40 [c1, c2, c3, c4] = some y1 := h1
    obtain ⟨z0, z1, z2, z3, q, _, g0, g1, g2, g3⟩ := trod_array4 Try.underlying40 (by kernel_rfl) h1'
    obtain ⟨x0, f0, _, r0⟩ := DataW.trod_int Try.underlying38 g0
    obtain ⟨x1, f1, _, r1⟩ := DataW.trod_int Try.underlying38 g1
    obtain ⟨x2, f2, _, r2⟩ := DataW.trod_int Try.underlying38 g2
    obtain ⟨x3, f3, _, r3⟩ := DataW.trod_int Try.underlying38 g3
    simp at f0 f1 f2 f3
    subst f0 f1 f2 f3
    obtain ⟨w0, w1, w2, w3⟩ := ndOf_wd5 op x0 x1 x2 x3 a b (u64_range5 r0) (u64_range5 r1) (u64_range5 r2) (u64_range5 r3)
    refine ⟨ndOf5 op x0 x1 x2 x3 a b, ?_⟩
    unfold Rg.nc
    rw [w0, w1, w2, w3]
    rfl
theorem pick_nodes5 (P : Nat → Rg.Nd → Prop) (n : Nat) (h : ∀ i, i < n → ∃ e : Rg.Nd, P i e) : ∃ E : List Rg.Nd, E.length = n ∧ ∀ p e s, E = p ++ e :: s → P p.length e := by
  induction n with
  | zero => exact ⟨[], rfl, fun p e s h => by cases p <;> cases h⟩
  | succ n ih =>
    obtain ⟨E, e1, e2⟩ := ih (fun i hi => h i (by omega))
    obtain ⟨e, p1⟩ := h n (by omega)
    refine ⟨E ++ [e], by simp [e1], fun p e' s he => ?_⟩
    rcases List.append_eq_append_iff.1 he with ⟨a', h1, h2⟩ | ⟨c', h1, h2⟩
    · cases a' with
      | nil =>
        simp at h1 h2
        rw [h1, e1, ← h2.1]
        exact p1
      | cons y a' =>
        exfalso
        simp at h2
    · cases c' with
      | nil =>
        simp at h1 h2
        rw [← h1, e1, h2.1]
        exact p1
      | cons y c' =>
        simp at h2
        exact e2 p e' c' (by rw [h1, h2.1])

set_option maxRecDepth 100000 in
/-- The nodes of a slice. -/
theorem open_nodes {H : Type} {enc : TypeId × Value → H} {W : World} {a0 : Option Addr} {len cap fuel : Nat} {x : DataW H × List MemPlace} (h : DataW.trod enc Try.prog W 0 (fun _ => true) true fuel 35 [.slice a0 len cap] = some x) :
    ∃ (blk off : Nat) (E : List Rg.Nd), E.length = len ∧ Rg.Lst W a0 blk off cap E ∧ (len = 0 ∨ ∃ es sp, x.1 = .slice es sp ∧ es.length = len) := by
  rcases open_slice Try.underlying35 h with ⟨hcs, rfl⟩ | ⟨a, len', cap', m, n, D, Pl, hcs, _, hl, hm, hmm, rfl, hel⟩
  · simp at hcs
    obtain ⟨rfl, rfl, rfl⟩ := hcs
    exact ⟨0, 0, [], rfl, ⟨fun h => absurd rfl h, fun h => absurd rfl h, ⟨fun p n s e => by cases p <;> cases e⟩⟩, Or.inl rfl⟩
  · simp at hcs
    obtain ⟨rfl, rfl, rfl⟩ := hcs
    simp at hmm
    subst hmm
    obtain ⟨blk, off, spot⟩ := a
    have key : ∀ i, i < len → ∃ e : Rg.Nd, spot = none ∧ Rg.NdAt W blk (off + i * 7) e := by
      intro i hi
      obtain ⟨cs', hc, ht⟩ := hel i (by omega)
      obtain ⟨nd, rfl⟩ := node_cells5 ht
      rw [cells58] at hc
      obtain ⟨_, _, hcell⟩ := World.cells?_some hc
      obtain ⟨cs0, hc0, ht0⟩ := hel 0 (by omega)
      rw [cells58] at hc0
      obtain ⟨_, _, hcell0⟩ := World.cells?_some hc0
      obtain ⟨n0, rfl⟩ := node_cells5 ht0
      have h0 := hcell0 0 (by show 0 < 7; omega)
      have hspot : spot = none := by simpa [Addr.add] using World.cell?_spot h0
      subst hspot
      have e0 := hcell 0 (by show 0 < 7; omega)
      have e1 := hcell 1 (by show 1 < 7; omega)
      have e2 := hcell 2 (by show 2 < 7; omega)
      have e3 := hcell 3 (by show 3 < 7; omega)
      have e4 := hcell 4 (by show 4 < 7; omega)
      have e5 := hcell 5 (by show 5 < 7; omega)
      have e6 := hcell 6 (by show 6 < 7; omega)
      simp only [Rg.addPlain] at e0 e1 e2 e3 e4 e5 e6
      exact ⟨nd, rfl, ⟨e0, e1, e2, e3, e4, e5, e6⟩⟩
    obtain ⟨E, e1, e2⟩ := pick_nodes5 _ len key
    refine ⟨blk, off, E, e1, ⟨fun hp => ?_, fun hp => ?_, ⟨fun p nd s e => (e2 p nd s e).2⟩⟩, Or.inr ⟨_, _, rfl, by simp⟩⟩
    · cases E with
      | nil => exact absurd rfl hp
      | cons y s =>
        have := (e2 [] y s rfl).1
        rw [this]
    · cases E with
      | nil => exact absurd rfl hp
      | cons y s =>
        have := (e2 [] y s rfl).2.c0
        exact cell_lt this
theorem bulk_pos5 {H : Type} (d : DataW H) : 1 ≤ Rows.uptoBulk d := by
  cases d with
  | lit l => cases l <;> simp [Rows.uptoBulk]
  | _ => simp [Rows.uptoBulk]
theorem bulk_len5 {H : Type} : ∀ (es : List (DataW H)), es.length ≤ Rows.uptoBulkAll es
  | [] => Nat.zero_le _
  | d :: es => by
    have h1 := bulk_pos5 d
    have h2 := bulk_len5 es
    simp only [List.length_cons, Rows.uptoBulkAll]
    omega
end Go.Proofs.Ytkjljnneghnpiaa
