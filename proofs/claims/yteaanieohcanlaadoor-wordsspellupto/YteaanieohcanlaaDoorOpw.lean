import Derived.Test.YteaanieohcanlaaDoorLbk
import Derived.Test.YteaanieohcanlaaDoorRows
import Derived.Lib.SmallJoins
import Derived.ProofKit
import Derived.OpenShut
import Derived.ChangeOld
import Derived.JoinedCond
import Derived.Deep.Slices
import Derived.Deep.Strs
namespace Go.Proofs.YteaanieohcanlaaDoor
open Go.ChangeShapes Go.WideShapes Go.ChangeAt Go.RowKit
open Go.Joins Go.Deep

theorem cellsWd : Tryd.prog.cellsOf 32 = 4 := by kernel_rfl
theorem cells3i : Tryd.prog.cellsOf 3 = 1 := by kernel_rfl
theorem cells9s : Tryd.prog.cellsOf 9 = 1 := by kernel_rfl
theorem cells30k : Tryd.prog.cellsOf 30 = 1 := by kernel_rfl
theorem pick {α : Type} (d : α) (P : Nat → α → Prop) (n : Nat) (h : ∀ i, i < n → ∃ e : α, P i e) : ∃ E : List α, E.length = n ∧ ∀ i, i < n → P i (E.getD i d) := by
  induction n with
  | zero => exact ⟨[], rfl, fun i hi => by omega⟩
  | succ n ih =>
    obtain ⟨E, e1, e2⟩ := ih (fun i hi => h i (by omega))
    obtain ⟨e, p1⟩ := h n (by omega)
    refine ⟨E ++ [e], by simp [e1], fun i hi => ?_⟩
    by_cases c : i < n
    · have : (E ++ [e]).getD i d = E.getD i d := by
        rw [List.getD_eq_getElem?_getD, List.getD_eq_getElem?_getD, List.getElem?_append_left (by omega)]
      rw [this]; exact e2 i c
    · have hi2 : i = E.length := by omega
      subst hi2
      have : (E ++ [e]).getD E.length d = e := by simp
      rw [this, e1]; exact p1
theorem bulk_app {H : Type} : ∀ l k : List (DataW H), Rows.uptoBulkAll (l ++ k) = Rows.uptoBulkAll l + Rows.uptoBulkAll k
  | [], k => by simp [Rows.uptoBulkAll]
  | d :: l, k => by have := bulk_app l k; simp only [List.cons_append, Rows.uptoBulkAll]; omega
/-- What a list of words weighs. -/
def wgt (l : List Wd) : Nat := (l.map fun x => x.t.length + 5).sum
theorem wgt_len : ∀ l : List Wd, l.length ≤ wgt l
  | [] => by simp
  | x :: l => by have := wgt_len l; simp only [wgt, List.map_cons, List.sum_cons, List.length_cons] at this ⊢; omega
theorem wgt_mem : ∀ l : List Wd, ∀ x ∈ l, x.t.length ≤ wgt l
  | [], x, h => by cases h
  | y :: l, x, h => by
    simp only [wgt, List.map_cons, List.sum_cons]
    rcases List.mem_cons.1 h with rfl | h
    · omega
    · have := wgt_mem l x h; simp only [wgt] at this; omega
theorem spl_wgt (x : Wd) : (spl x).length ≤ 4 * x.t.length + 25 := by
  unfold spl
  split
  · simp
  · rename_i hs
    have hs : snd x = true := by simpa using hs
    split
    · rename_i h4
      unfold snd at hs
      rw [h4] at hs
      simp only [show ¬ (4 : Int) = 1 by decide, show ¬ (4 : Int) = 2 by decide, show ¬ (4 : Int) = 3 by decide, if_false, if_true, Bool.and_eq_true, decide_eq_true_eq] at hs
      have := Lib.itoa_length_le x.n (by omega) (by omega)
      omega
    · split
      · simp; omega
      · split
        · unfold qt
          have := fm_len x.t
          simp only [List.length_append, List.length_cons, List.length_nil]
          omega
        · omega
theorem ln_wgt : ∀ l : List Wd, ln l ≤ 6 * wgt l
  | [] => by simp [ln]
  | x :: l => by
    have := ln_wgt l
    have := spl_wgt x
    simp only [ln, wgt, List.map_cons, List.sum_cons] at *
    omega
set_option maxRecDepth 100000 in
/-- A list of words that came in. -/
theorem open_words {H : Type} {enc : TypeId × Value → H} {W : World} {v : Value} {fuel : Nat} {x : DataW H × List MemPlace} (h : DataW.trod enc Tryd.prog W 0 (fun _ => true) true fuel 23 [v] = some x) :
    ∃ E : List Wd, Rw W v E.length (wC E) ∧ wgt E ≤ Rows.uptoBulk x.1 := by
  rcases open_slice Tryd.underlying23 h with ⟨hcs, rfl⟩ | ⟨a, len, cap, m, n, D, Pl, hcs, _, hl, hm, hmm, rfl, hel⟩
  · simp at hcs
    subst hcs
    exact ⟨[], Rw.nil W, by simp [wgt]⟩
  · simp at hcs hmm
    subst hcs
    subst hmm
    obtain ⟨blk, off, spot⟩ := a
    obtain ⟨E, e1, e2⟩ := pick w0 (fun i (f : Wd) => spot = none ∧ W.cell? ⟨blk, off + i * 4, none⟩ = some (.int .i64 f.k) ∧ W.cell? ⟨blk, off + i * 4 + 1, none⟩ = some (.string ⟨f.t.toArray⟩) ∧ W.cell? ⟨blk, off + i * 4 + 2, none⟩ = some (.int .i64 f.n) ∧ W.cell? ⟨blk, off + i * 4 + 3, none⟩ = some (.int .i64 f.a) ∧ f.t.length + 5 ≤ Rows.uptoBulk (D i)) len (fun i hi => by
      obtain ⟨cs', hc, ht⟩ := hel i (by omega)
      obtain ⟨y0, y1, y2, y3, q, hD, hl2, g0, g1, g2, g3⟩ := trod_struct4 Tryd.underlying32 ht
      rw [cellsWd] at hc hl2
      obtain ⟨_, _, hcell⟩ := World.cells?_some hc
      match cs', hl2 with
      | [z0, z1, z2, z3], _ =>
        simp only [cells3i, cells9s, cells30k] at g0 g1 g2 g3
        obtain ⟨x0, f0, u0, _⟩ := DataW.trod_int Tryd.underlying30 g0
        obtain ⟨x1, f1, u1, _⟩ := DataW.trod_string Tryd.underlying9 g1
        obtain ⟨x2, f2, u2, _⟩ := DataW.trod_int Tryd.underlying3 g2
        obtain ⟨x3, f3, u3, _⟩ := DataW.trod_int Tryd.underlying3 g3
        simp at f0 f1 f2 f3
        subst f0 f1 f2 f3 u0 u1 u2 u3
        have k0 := hcell 0 (by show 0 < 4; omega)
        have k1 := hcell 1 (by show 1 < 4; omega)
        have k2 := hcell 2 (by show 2 < 4; omega)
        have k3 := hcell 3 (by show 3 < 4; omega)
        have hspot : spot = none := by
          obtain ⟨cs0, hc0, _⟩ := hel 0 (by omega)
          rw [cellsWd] at hc0
          obtain ⟨hl0, _, hcell0⟩ := World.cells?_some hc0
          have h0 := hcell0 0 (by omega)
          rw [List.getElem?_eq_getElem (by omega)] at h0
          simpa [Addr.add] using World.cell?_spot h0
        subst hspot
        simp only [addPl] at k0 k1 k2 k3
        have hD1 : D i = _ := (Prod.mk.inj hD).1
        refine ⟨⟨x0, x1.data.toList, x2, x3⟩, rfl, k0, k1, k2, k3, ?_⟩
        rw [hD1]
        simp only [Rows.uptoBulk, Rows.uptoBulkAll]
        omega)
    have hsum : wgt E ≤ Rows.uptoBulkAll ((List.range len).map D) := by
      have : ∀ k, k ≤ len → wgt (E.take k) ≤ Rows.uptoBulkAll ((List.range k).map D) := by
        intro k
        induction k with
        | zero => intro _; simp [wgt]
        | succ k ih =>
          intro hk
          have h1 := ih (by omega)
          have h2 := (e2 k (by omega)).2.2.2.2.2
          have hkE : k < E.length := by omega
          unfold wgt at h1 ⊢
          rw [List.take_add_one, List.getElem?_eq_getElem hkE, List.map_append, List.sum_append, List.range_succ, List.map_append, bulk_app]
          rw [List.getD_eq_getElem?_getD, List.getElem?_eq_getElem hkE] at h2
          simp only [Option.toList_some, List.map_cons, List.map_nil, List.sum_cons, List.sum_nil, Rows.uptoBulkAll, Option.getD_some] at h2 ⊢
          omega
      have h3 := this len (Nat.le_refl _)
      rwa [List.take_of_length_le (by omega)] at h3
    refine ⟨E, ⟨some ⟨blk, off, spot⟩, blk, off, _, by rw [e1], by omega, fun h => (by cases h), fun hp => ?_, fun j u hu => ?_⟩, ?_⟩
    · rw [(e2 0 (by omega)).1]
    · have hj : j < E.length * 4 := by have := (List.getElem?_eq_some_iff.1 hu).1; rw [wC_len] at this; omega
      obtain ⟨_, k0, k1, k2, k3, _⟩ := e2 (j / 4) (by omega)
      obtain ⟨g0, g1, g2, g3⟩ := wC_get E (j / 4) (by omega)
      have hr : j % 4 = 0 ∨ j % 4 = 1 ∨ j % 4 = 2 ∨ j % 4 = 3 := by omega
      rcases hr with hr | hr | hr | hr
      · rw [show j / 4 * 4 = j by omega] at k0 g0
        rw [g0] at hu; cases hu; exact k0
      · rw [show j / 4 * 4 + 1 = j by omega] at g1
        rw [Nat.add_assoc, show j / 4 * 4 + 1 = j by omega] at k1
        rw [g1] at hu; cases hu; exact k1
      · rw [show j / 4 * 4 + 2 = j by omega] at g2
        rw [Nat.add_assoc, show j / 4 * 4 + 2 = j by omega] at k2
        rw [g2] at hu; cases hu; exact k2
      · rw [show j / 4 * 4 + 3 = j by omega] at g3
        rw [Nat.add_assoc, show j / 4 * 4 + 3 = j by omega] at k3
        rw [g3] at hu; cases hu; exact k3
    · simp only [Rows.uptoBulk]
      omega
end Go.Proofs.YteaanieohcanlaaDoor
