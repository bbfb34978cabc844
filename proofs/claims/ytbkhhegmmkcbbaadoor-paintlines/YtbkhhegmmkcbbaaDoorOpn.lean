import Derived.Test.YtbkhhegmmkcbbaaDoorTbe
import Derived.Test.YtbkhhegmmkcbbaaDoorRows
import Derived.ProofKit
import Derived.OpenShut
import Derived.ShutString
import Derived.ChangeOld
import Derived.JoinedCond
import Derived.Below
import Derived.SizedLaws
import Derived.Lib.SmallJoins
import Derived.Deep.Slices
import Derived.Deep.Strs
namespace Go.Proofs.YtbkhhegmmkcbbaaDoor
open Go.ChangeShapes Go.WideShapes Go.ChangeAt Go.RowKit
open Go.ChangeMaps (open_string shut_string)
open Go.Joins Go.Deep

theorem cells3o : Tryd.prog.cellsOf 3 = 1 := by kernel_rfl
theorem cells4o : Tryd.prog.cellsOf 4 = 1 := by kernel_rfl
theorem cells9o : Tryd.prog.cellsOf 9 = 1 := by kernel_rfl
theorem cellsNd : Tryd.prog.cellsOf 53 = 7 := by kernel_rfl
theorem bytesNd : Tryd.prog.bytesOf 53 = 72 := by kernel_rfl
theorem pick {α : Type} (d : α) (P : Nat → α → Prop) (n : Nat) (h : ∀ i, i < n → ∃ e : α, P i e) : ∃ E : List α, E.length = n ∧ ∀ i, i < n → P i (E.getD i d) := by
  induction n with
  | zero => exact ⟨[], rfl, fun i hi => by omega⟩
  | succ n ih =>
    obtain ⟨E, e1, e2⟩ := ih (fun i hi => h i (by omega))
    obtain ⟨e, p1⟩ := h n (by omega)
    refine ⟨E ++ [e], by simp [e1], fun i hi => ?_⟩
    by_cases c : i < n
    · have : (E ++ [e]).getD i d = E.getD i d := by simp only [List.getD_eq_getElem?_getD, List.getElem?_append_left (by omega : i < E.length)]
      rw [this]; exact e2 i c
    · have hi2 : i = E.length := by omega
      subst hi2
      have : (E ++ [e]).getD E.length d = e := by simp
      rw [this, e1]; exact p1
/-- What bounds what came in: its weights, or its bulk. -/
structure Bnd (H : Type) where
  B : TypeId → DataW H → Prop
  sl : ∀ {t e : TypeId} {es sp : List (DataW H)}, Tryd.prog.underlying t = some (.slice e) → B t (.slice es sp) → es.length * Tryd.prog.bytesOf e ≤ reachBytes ∧ ∀ d ∈ es, B e d
  ag : ∀ {t : TypeId} {fs : Array Field} {parts : List (DataW H)}, Tryd.prog.underlying t = some (.struct fs) → B t (.agg parts) → ∀ (j : Nat) (ty : TypeId) (d : DataW H), (fs.toList.map (·.type))[j]? = some ty → parts[j]? = some d → B ty d
set_option maxRecDepth 100000 in
/-- A list that came in, so many cells for each. -/
theorem open_flat {α : Type} (f : α → List Value) (n : Nat) (hn : 0 < n) (hf : ∀ x, (f x).length = n) (d : α) (P : α → Prop) {H : Type} (b : Bnd H) {enc : TypeId × Value → H} {W : World} {v : Value} {fuel : Nat} {t e : TypeId} {x : DataW H × List MemPlace} (ht : Tryd.prog.underlying t = some (.slice e)) (hc : Tryd.prog.cellsOf e = n) (hB : b.B t x.1)
    (hk : ∀ (m : Nat) (cs : List Value) (y : DataW H × List MemPlace), DataW.trod enc Tryd.prog W 0 (fun _ => true) true m e cs = some y → b.B e y.1 → ∃ a, cs = f a ∧ P a) (h : DataW.trod enc Tryd.prog W 0 (fun _ => true) true fuel t [v] = some x) :
    ∃ E : List α, Rw W v E.length (flat f E) ∧ E.length * Tryd.prog.bytesOf e ≤ reachBytes ∧ (∀ a ∈ E, P a) ∧ ((x.1 = .nil ∧ E.length = 0) ∨ ∃ es sp, x.1 = .slice es sp ∧ E.length = es.length) := by
  rcases open_slice ht h with ⟨hcs, rfl⟩ | ⟨a, len, cap, m, k, D, Pl, hcs, _, hl, hm, hmm, rfl, hel⟩
  · simp at hcs
    subst hcs
    exact ⟨[], Rw.nil W, by simp, fun a h => (by cases h), Or.inl ⟨rfl, rfl⟩⟩
  · simp at hcs hmm
    subst hcs hmm
    obtain ⟨hb1, hb2⟩ := b.sl ht hB
    rw [List.length_map, List.length_range] at hb1
    obtain ⟨blk, off, spot⟩ := a
    obtain ⟨E, e1, e2⟩ := pick d (fun i (b : α) => spot = none ∧ (∀ j u, (f b)[j]? = some u → W.cell? ⟨blk, off + (i * n + j), none⟩ = some u) ∧ P b) len (fun i hi => by
      obtain ⟨cs', hc', ht'⟩ := hel i (by omega)
      rw [hc] at hc'
      obtain ⟨b, rfl, hP⟩ := hk _ _ _ ht' (hb2 _ (List.mem_map.2 ⟨i, List.mem_range.2 hi, rfl⟩))
      obtain ⟨_, _, hcell⟩ := World.cells?_some hc'
      have hspot : spot = none := by
        obtain ⟨cs0, hc0, _⟩ := hel 0 (by omega)
        rw [hc] at hc0
        obtain ⟨hl0, _, hcell0⟩ := World.cells?_some hc0
        have h0 := hcell0 0 (by omega)
        rw [List.getElem?_eq_getElem (by omega)] at h0
        simpa [Addr.add] using World.cell?_spot h0
      subst hspot
      refine ⟨b, rfl, fun j u hu => ?_, hP⟩
      have hj : j < n := by have := (List.getElem?_eq_some_iff.1 hu).1; rw [hf] at this; exact this
      have h1 := hcell j (by first | exact hj | (rw [hf]; exact hj))
      rw [hu] at h1
      simp only [addPl] at h1
      rw [← Nat.add_assoc]
      exact h1)
    refine ⟨E, ⟨some ⟨blk, off, spot⟩, blk, off, _, by rw [e1], by omega, fun h => (by cases h), fun hp => ?_, fun j u hu => ?_⟩, by rw [e1]; exact hb1, fun b hb => ?_, Or.inr ⟨_, _, rfl, by rw [e1, List.length_map, List.length_range]⟩⟩
    · rw [(e2 0 (by omega)).1]
    · have hj : j < E.length * n := by have := (List.getElem?_eq_some_iff.1 hu).1; rw [flat_len hf] at this; exact this
      have hq : j / n < E.length := Nat.div_lt_of_lt_mul (by rw [Nat.mul_comm]; exact hj)
      have hr : j % n < n := Nat.mod_lt _ hn
      have hdm : j / n * n + j % n = j := by rw [Nat.mul_comm]; exact Nat.div_add_mod j n
      have h1 := flat_get hf d E (j / n) (j % n) hq hr
      rw [hdm, hu] at h1
      have h2 := (e2 (j / n) (by omega)).2.1 (j % n) u h1.symm
      rw [hdm] at h2
      exact h2
    · obtain ⟨j, hj⟩ := List.mem_iff_getElem?.1 hb
      have hjl : j < E.length := (List.getElem?_eq_some_iff.1 hj).1
      have h1 := (e2 j (by omega)).2.2
      rw [List.getD_eq_getElem?_getD, hj] at h1
      exact h1
section
variable {H : Type} {enc : TypeId × Value → H} {W : World} {m : Nat} {cs : List Value} {y : DataW H × List MemPlace}
theorem trod_struct7 {P : Program} {w : World} {base : Nat} {spare : Nat → Bool} {held : Bool} {t : TypeId} {f0 f1 f2 f3 f4 f5 f6 : Field} {fuel : Nat} {cs : List Value} {x : DataW H × List MemPlace} (ht : P.underlying t = some (.struct #[f0, f1, f2, f3, f4, f5, f6])) (h : DataW.trod enc P w base spare held fuel t cs = some x) :
    ∃ y0 y1 y2 y3 y4 y5 y6 n, x.1 = .agg [y0.1, y1.1, y2.1, y3.1, y4.1, y5.1, y6.1] ∧ cs.length = P.cellsOf t ∧ DataW.trod enc P w base spare held n f0.type ((cs.drop f0.offset).take (P.cellsOf f0.type)) = some y0 ∧
      DataW.trod enc P w base spare held n f1.type ((cs.drop f1.offset).take (P.cellsOf f1.type)) = some y1 ∧ DataW.trod enc P w base spare held n f2.type ((cs.drop f2.offset).take (P.cellsOf f2.type)) = some y2 ∧
      DataW.trod enc P w base spare held n f3.type ((cs.drop f3.offset).take (P.cellsOf f3.type)) = some y3 ∧ DataW.trod enc P w base spare held n f4.type ((cs.drop f4.offset).take (P.cellsOf f4.type)) = some y4 ∧ DataW.trod enc P w base spare held n f5.type ((cs.drop f5.offset).take (P.cellsOf f5.type)) = some y5 ∧ DataW.trod enc P w base spare held n f6.type ((cs.drop f6.offset).take (P.cellsOf f6.type)) = some y6 := by
  obtain ⟨xs, n, _, rfl, hl, hlen, hf⟩ := DataW.trod_struct ht h
  match xs, hlen with
  | [y0, y1, y2, y3, y4, y5, y6], _ => exact ⟨y0, y1, y2, y3, y4, y5, y6, n, by simp, hl, by simpa using hf 0 f0 rfl, by simpa using hf 1 f1 rfl, by simpa using hf 2 f2 rfl, by simpa using hf 3 f3 rfl, by simpa using hf 4 f4 rfl, by simpa using hf 5 f5 rfl, by simpa using hf 6 f6 rfl⟩
set_option maxRecDepth 100000 in
theorem k_node (h : DataW.trod enc Tryd.prog W 0 (fun _ => true) true m 53 cs = some y) : ∃ a : Nd, cs = nf a ∧ True := by
  obtain ⟨y0, y1, y2, y3, y4, y5, y6, q, _, hl, g0, g1, g2, g3, g4, g5, g6⟩ := trod_struct7 Tryd.underlying53 h
  rw [cellsNd] at hl
  match cs, hl with
  | [z0, z1, z2, z3, z4, z5, z6], _ =>
    simp only [cells9o, cells4o, cells3o] at g0 g1 g2 g3 g4 g5 g6
    obtain ⟨x0, f0, _, _⟩ := DataW.trod_string Tryd.underlying9 g0
    obtain ⟨x1, f1, _⟩ := DataW.trod_bool Tryd.underlying4 g1
    obtain ⟨x2, f2, _, _⟩ := DataW.trod_string Tryd.underlying9 g2
    obtain ⟨x3, f3, _, _⟩ := DataW.trod_int Tryd.underlying3 g3
    obtain ⟨x4, f4, _, _⟩ := DataW.trod_int Tryd.underlying3 g4
    obtain ⟨x5, f5, _, _⟩ := DataW.trod_int Tryd.underlying3 g5
    obtain ⟨x6, f6, _, _⟩ := DataW.trod_int Tryd.underlying3 g6
    simp at f0 f1 f2 f3 f4 f5 f6
    subst f0 f1 f2 f3 f4 f5 f6
    exact ⟨⟨x0, x1, x2, x3, x4, x5, x6⟩, rfl, trivial⟩
end
set_option maxRecDepth 100000 in
/-- Nodes that came in. -/
theorem open_nodes {H : Type} (b : Bnd H) {enc : TypeId × Value → H} {W : World} {base : Nat} {v : Value} {d : DataW H} {p : List MemPlace} (hB : b.B 23 d) (hv : Value.okWide Tryd.prog W .any base 23 v) (h : DataW.Trod enc Tryd.prog W 0 (fun _ => true) true 23 v d p) :
    ∃ t : List Nd, Ns W v t ∧ Sm t := by
  obtain ⟨fuel, hf⟩ := h
  obtain ⟨a, l, c, rfl⟩ := okWide_slice Tryd.underlying23 hv
  obtain ⟨E, e1, e2, _, _⟩ := open_flat nf 7 (by decide) nf_len ndd (fun _ => True) b (v := .slice a l c) Tryd.underlying23 cellsNd hB (fun m cs y hy _ => k_node hy) hf
  have r : reachBytes = 140737488351232 := rfl
  rw [bytesNd] at e2
  exact ⟨E, e1, by show E.length * 72 + 4096 ≤ _; omega⟩
end Go.Proofs.YtbkhhegmmkcbbaaDoor
