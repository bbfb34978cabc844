import Derived.Test.YtcmhbcfgikmblabGreatDoorRows
import Derived.Test.YtcmhbcfgikmblabGreatDoorBay
import Derived.Test.YtcmhbcfgikmblabGreatDoorTva
import Derived.ProofKit
import Derived.OpenShut
import Derived.ShutString
import Derived.ChangeOld
import Derived.JoinedCond
import Derived.Below
import Derived.SizedLaws
import Derived.Lib.SmallJoins
import Derived.Deep.Slices
import Derived.Deep.Strs
import Derived.Test.YtcmhbcfgikmblabGreatDoorCards
import Derived.Test.YtcmhbcfgikmblabGreatDoorTie
import Derived.Test.YtcmhbcfgikmblabGreatDoorQhl
import Derived.Deep.DeepHandedRow
import Derived.Lib.LaidTab
namespace Go.Proofs.YtcmhbcfgikmblabGreatDoor.Qy
open Go.ChangeShapes Go.WideShapes Go.ChangeAt Go.RowKit
open Go.ChangeMaps (open_string shut_string)
open Go.Joins Go.Deep

theorem cells3o : Tryz.prog.cellsOf 3 = 1 := by kernel_rfl
theorem cells4o : Tryz.prog.cellsOf 4 = 1 := by kernel_rfl
theorem cells9o : Tryz.prog.cellsOf 9 = 1 := by kernel_rfl
theorem cellsNd : Tryz.prog.cellsOf 42 = 7 := by kernel_rfl
theorem bytesNd : Tryz.prog.bytesOf 42 = 72 := by kernel_rfl
theorem cellsPn : Tryz.prog.cellsOf 46 = 5 := by kernel_rfl
theorem bytesPn : Tryz.prog.bytesOf 46 = 64 := by kernel_rfl
theorem cellsCd : Tryz.prog.cellsOf 38 = 4 := by kernel_rfl
theorem bytesCd : Tryz.prog.bytesOf 38 = 56 := by kernel_rfl
theorem cellsSP : Tryz.prog.cellsOf 22 = 1 := by kernel_rfl
theorem cellsSC : Tryz.prog.cellsOf 23 = 1 := by kernel_rfl
theorem cellsQ : Tryz.prog.cellsOf 25 = 2 := by kernel_rfl
theorem pick {α : Type} (d : α) (P : Nat → α → Prop) (n : Nat) (h : ∀ i, i < n → ∃ e : α, P i e) : ∃ E : List α, E.length = n ∧ ∀ i, i < n → P i (E.getD i d) := by
  induction n with
  | zero => exact ⟨[], rfl, fun i hi => by omega⟩
  | succ n ih =>
    obtain ⟨E, e1, e2⟩ := ih (fun i hi => h i (by omega))
    obtain ⟨e, p1⟩ := h n (by omega)
    refine ⟨E ++ [e], by simp [e1], fun i hi => ?_⟩
    by_cases c : i < n
    · have : (E ++ [e]).getD i d = E.getD i d := by simp only [List.getD_eq_getElem?_getD, List.getElem?_append_left (by omega : i < E.length)]
      rw [this]; exact e2 i c
    · have hi2 : i = E.length := by omega
      subst hi2
      have : (E ++ [e]).getD E.length d = e := by simp
      rw [this, e1]; exact p1
/-- What bounds what came in: its weights, or its bulk. -/
structure Bnd (H : Type) where
  B : TypeId → DataW H → Prop
  sl : ∀ {t e : TypeId} {es sp : List (DataW H)}, Tryz.prog.underlying t = some (.slice e) → B t (.slice es sp) → es.length * Tryz.prog.bytesOf e ≤ reachBytes ∧ ∀ d ∈ es, B e d
  ag : ∀ {t : TypeId} {fs : Array Field} {parts : List (DataW H)}, Tryz.prog.underlying t = some (.struct fs) → B t (.agg parts) → ∀ (j : Nat) (ty : TypeId) (d : DataW H), (fs.toList.map (·.type))[j]? = some ty → parts[j]? = some d → B ty d
theorem wall_mem {H : Type} {e : TypeId} {x : DataW H} {n : Nat} : ∀ {l : List (DataW H)}, x ∈ l → n ∈ x.weights Tryz.prog e → n ∈ DataW.weightsAll Tryz.prog e l
  | [], h, _ => by cases h
  | y :: l, h, hn => by
    simp only [DataW.weightsAll, List.mem_append]
    rcases List.mem_cons.1 h with rfl | h
    · exact Or.inl hn
    · exact Or.inr (wall_mem h hn)
def bndW (H : Type) : Bnd H where
  B t d := ∀ k ∈ d.weights Tryz.prog t, k ≤ reachBytes
  sl := fun {t e es sp} hu h => by
    refine ⟨?_, fun d hd k hk => h k ?_⟩
    · have := h ((es.length + sp.length) * Tryz.prog.bytesOf e) (by simp [DataW.weights, hu])
      exact Nat.le_trans (Nat.mul_le_mul_right _ (Nat.le_add_right _ _)) this
    · simp only [DataW.weights, hu, List.mem_cons, List.mem_append]
      exact Or.inr (Or.inl (wall_mem hd hk))
  ag := fun {t fs parts} hu h j ty d h1 h2 k hk => h k (by
    rw [DataW.weights, hu]
    exact DataW.weights_mem_each h1 h2 k hk)
set_option maxRecDepth 100000 in
/-- A list that came in, so many cells for each. -/
theorem open_flat {α : Type} (f : α → List Value) (n : Nat) (hn : 0 < n) (hf : ∀ x, (f x).length = n) (d : α) (P : α → Prop) {H : Type} (b : Bnd H) {enc : TypeId × Value → H} {W : World} {v : Value} {fuel : Nat} {t e : TypeId} {x : DataW H × List MemPlace} (ht : Tryz.prog.underlying t = some (.slice e)) (hc : Tryz.prog.cellsOf e = n) (hB : b.B t x.1)
    (hk : ∀ (m : Nat) (cs : List Value) (y : DataW H × List MemPlace), DataW.trod enc Tryz.prog W 0 (fun _ => true) true m e cs = some y → b.B e y.1 → ∃ a, cs = f a ∧ P a) (h : DataW.trod enc Tryz.prog W 0 (fun _ => true) true fuel t [v] = some x) :
    ∃ E : List α, Rw W v E.length (flat f E) ∧ E.length * Tryz.prog.bytesOf e ≤ reachBytes ∧ (∀ a ∈ E, P a) ∧ ((x.1 = .nil ∧ E.length = 0) ∨ ∃ es sp, x.1 = .slice es sp ∧ E.length = es.length) := by
  rcases open_slice ht h with ⟨hcs, rfl⟩ | ⟨a, len, cap, m, k, D, Pl, hcs, _, hl, hm, hmm, rfl, hel⟩
  · simp at hcs
    subst hcs
    exact ⟨[], Rw.nil W, by simp, fun a h => (by cases h), Or.inl ⟨rfl, rfl⟩⟩
  · simp at hcs hmm
    subst hcs hmm
    obtain ⟨hb1, hb2⟩ := b.sl ht hB
    rw [List.length_map, List.length_range] at hb1
    obtain ⟨blk, off, spot⟩ := a
    obtain ⟨E, e1, e2⟩ := pick d (fun i (b : α) => spot = none ∧ (∀ j u, (f b)[j]? = some u → W.cell? ⟨blk, off + (i * n + j), none⟩ = some u) ∧ P b) len (fun i hi => by
      obtain ⟨cs', hc', ht'⟩ := hel i (by omega)
      rw [hc] at hc'
      obtain ⟨b, rfl, hP⟩ := hk _ _ _ ht' (hb2 _ (List.mem_map.2 ⟨i, List.mem_range.2 hi, rfl⟩))
      obtain ⟨_, _, hcell⟩ := World.cells?_some hc'
      have hspot : spot = none := by
        obtain ⟨cs0, hc0, _⟩ := hel 0 (by omega)
        rw [hc] at hc0
        obtain ⟨hl0, _, hcell0⟩ := World.cells?_some hc0
        have h0 := hcell0 0 (by omega)
        rw [List.getElem?_eq_getElem (by omega)] at h0
        simpa [Addr.add] using World.cell?_spot h0
      subst hspot
      refine ⟨b, rfl, fun j u hu => ?_, hP⟩
      have hj : j < n := by have := (List.getElem?_eq_some_iff.1 hu).1; rw [hf] at this; exact this
      have h1 := hcell j (by first | exact hj | (rw [hf]; exact hj))
      rw [hu] at h1
      simp only [addPl] at h1
      rw [← Nat.add_assoc]
      exact h1)
    refine ⟨E, ⟨some ⟨blk, off, spot⟩, blk, off, _, by rw [e1], by omega, fun h => (by cases h), fun hp => ?_, fun j u hu => ?_⟩, by rw [e1]; exact hb1, fun b hb => ?_, Or.inr ⟨_, _, rfl, by rw [e1, List.length_map, List.length_range]⟩⟩
    · rw [(e2 0 (by omega)).1]
    · have hj : j < E.length * n := by have := (List.getElem?_eq_some_iff.1 hu).1; rw [flat_len hf] at this; exact this
      have hq : j / n < E.length := Nat.div_lt_of_lt_mul (by rw [Nat.mul_comm]; exact hj)
      have hr : j % n < n := Nat.mod_lt _ hn
      have hdm : j / n * n + j % n = j := by rw [Nat.mul_comm]; exact Nat.div_add_mod j n
      have h1 := flat_get hf d E (j / n) (j % n) hq hr
      rw [hdm, hu] at h1
      have h2 := (e2 (j / n) (by omega)).2.1 (j % n) u h1.symm
      rw [hdm] at h2
      exact h2
    · obtain ⟨j, hj⟩ := List.mem_iff_getElem?.1 hb
      have hjl : j < E.length := (List.getElem?_eq_some_iff.1 hj).1
      have h1 := (e2 j (by omega)).2.2
      rw [List.getD_eq_getElem?_getD, hj] at h1
      exact h1
section
variable {H : Type} {enc : TypeId × Value → H} {W : World} {m : Nat} {cs : List Value} {y : DataW H × List MemPlace}
theorem trod_struct7 {P : Program} {w : World} {base : Nat} {spare : Nat → Bool} {held : Bool} {t : TypeId} {f0 f1 f2 f3 f4 f5 f6 : Field} {fuel : Nat} {cs : List Value} {x : DataW H × List MemPlace} (ht : P.underlying t = some (.struct #[f0, f1, f2, f3, f4, f5, f6])) (h : DataW.trod enc P w base spare held fuel t cs = some x) :
    ∃ y0 y1 y2 y3 y4 y5 y6 n, x.1 = .agg [y0.1, y1.1, y2.1, y3.1, y4.1, y5.1, y6.1] ∧ cs.length = P.cellsOf t ∧ DataW.trod enc P w base spare held n f0.type ((cs.drop f0.offset).take (P.cellsOf f0.type)) = some y0 ∧
      DataW.trod enc P w base spare held n f1.type ((cs.drop f1.offset).take (P.cellsOf f1.type)) = some y1 ∧ DataW.trod enc P w base spare held n f2.type ((cs.drop f2.offset).take (P.cellsOf f2.type)) = some y2 ∧
      DataW.trod enc P w base spare held n f3.type ((cs.drop f3.offset).take (P.cellsOf f3.type)) = some y3 ∧ DataW.trod enc P w base spare held n f4.type ((cs.drop f4.offset).take (P.cellsOf f4.type)) = some y4 ∧ DataW.trod enc P w base spare held n f5.type ((cs.drop f5.offset).take (P.cellsOf f5.type)) = some y5 ∧ DataW.trod enc P w base spare held n f6.type ((cs.drop f6.offset).take (P.cellsOf f6.type)) = some y6 := by
  obtain ⟨xs, n, _, rfl, hl, hlen, hf⟩ := DataW.trod_struct ht h
  match xs, hlen with
  | [y0, y1, y2, y3, y4, y5, y6], _ => exact ⟨y0, y1, y2, y3, y4, y5, y6, n, by simp, hl, by simpa using hf 0 f0 rfl, by simpa using hf 1 f1 rfl, by simpa using hf 2 f2 rfl, by simpa using hf 3 f3 rfl, by simpa using hf 4 f4 rfl, by simpa using hf 5 f5 rfl, by simpa using hf 6 f6 rfl⟩
set_option maxRecDepth 100000 in
theorem k_node (h : DataW.trod enc Tryz.prog W 0 (fun _ => true) true m 42 cs = some y) : ∃ a : Tr.Nd, cs = Tr.nf a ∧ True := by
  obtain ⟨y0, y1, y2, y3, y4, y5, y6, q, _, hl, g0, g1, g2, g3, g4, g5, g6⟩ := trod_struct7 Tryz.underlying42 h
  rw [cellsNd] at hl
  match cs, hl with
  | [z0, z1, z2, z3, z4, z5, z6], _ =>
    simp only [cells9o, cells4o, cells3o] at g0 g1 g2 g3 g4 g5 g6
    obtain ⟨x0, f0, _, _⟩ := DataW.trod_string Tryz.underlying9 g0
    obtain ⟨x1, f1, _⟩ := DataW.trod_bool Tryz.underlying4 g1
    obtain ⟨x2, f2, _, _⟩ := DataW.trod_string Tryz.underlying9 g2
    obtain ⟨x3, f3, _, _⟩ := DataW.trod_int Tryz.underlying3 g3
    obtain ⟨x4, f4, _, _⟩ := DataW.trod_int Tryz.underlying3 g4
    obtain ⟨x5, f5, _, _⟩ := DataW.trod_int Tryz.underlying3 g5
    obtain ⟨x6, f6, _, _⟩ := DataW.trod_int Tryz.underlying3 g6
    simp at f0 f1 f2 f3 f4 f5 f6
    subst f0 f1 f2 f3 f4 f5 f6
    exact ⟨⟨x0, x1, x2, x3, x4, x5, x6⟩, rfl, trivial⟩
theorem slice_one {t e : TypeId} (ht : Tryz.prog.underlying t = some (.slice e)) (h : DataW.trod enc Tryz.prog W 0 (fun _ => true) true m t cs = some y) : ∃ v, cs = [v] := by
  rcases open_slice ht h with ⟨hcs, _⟩ | ⟨a, len, cap, m, k, D, Pl, hcs, _⟩
  · exact ⟨_, hcs⟩
  · exact ⟨_, hcs⟩
end
section
variable {H : Type} {enc : TypeId × Value → H} {W : World} {m : Nat} {cs : List Value} {y : DataW H × List MemPlace}
theorem trod_struct5 {P : Program} {w : World} {base : Nat} {spare : Nat → Bool} {held : Bool} {t : TypeId} {f0 f1 f2 f3 f4 : Field} {fuel : Nat} {cs : List Value} {x : DataW H × List MemPlace} (ht : P.underlying t = some (.struct #[f0, f1, f2, f3, f4])) (h : DataW.trod enc P w base spare held fuel t cs = some x) :
    ∃ y0 y1 y2 y3 y4 n, x.1 = .agg [y0.1, y1.1, y2.1, y3.1, y4.1] ∧ cs.length = P.cellsOf t ∧ DataW.trod enc P w base spare held n f0.type ((cs.drop f0.offset).take (P.cellsOf f0.type)) = some y0 ∧
      DataW.trod enc P w base spare held n f1.type ((cs.drop f1.offset).take (P.cellsOf f1.type)) = some y1 ∧ DataW.trod enc P w base spare held n f2.type ((cs.drop f2.offset).take (P.cellsOf f2.type)) = some y2 ∧
      DataW.trod enc P w base spare held n f3.type ((cs.drop f3.offset).take (P.cellsOf f3.type)) = some y3 ∧ DataW.trod enc P w base spare held n f4.type ((cs.drop f4.offset).take (P.cellsOf f4.type)) = some y4 := by
  obtain ⟨xs, n, _, rfl, hl, hlen, hf⟩ := DataW.trod_struct ht h
  match xs, hlen with
  | [y0, y1, y2, y3, y4], _ => exact ⟨y0, y1, y2, y3, y4, n, by simp, hl, by simpa using hf 0 f0 rfl, by simpa using hf 1 f1 rfl, by simpa using hf 2 f2 rfl, by simpa using hf 3 f3 rfl, by simpa using hf 4 f4 rfl⟩
theorem trod_struct4 {P : Program} {w : World} {base : Nat} {spare : Nat → Bool} {held : Bool} {t : TypeId} {f0 f1 f2 f3 : Field} {fuel : Nat} {cs : List Value} {x : DataW H × List MemPlace} (ht : P.underlying t = some (.struct #[f0, f1, f2, f3])) (h : DataW.trod enc P w base spare held fuel t cs = some x) :
    ∃ y0 y1 y2 y3 n, x.1 = .agg [y0.1, y1.1, y2.1, y3.1] ∧ cs.length = P.cellsOf t ∧ DataW.trod enc P w base spare held n f0.type ((cs.drop f0.offset).take (P.cellsOf f0.type)) = some y0 ∧
      DataW.trod enc P w base spare held n f1.type ((cs.drop f1.offset).take (P.cellsOf f1.type)) = some y1 ∧ DataW.trod enc P w base spare held n f2.type ((cs.drop f2.offset).take (P.cellsOf f2.type)) = some y2 ∧
      DataW.trod enc P w base spare held n f3.type ((cs.drop f3.offset).take (P.cellsOf f3.type)) = some y3 := by
  obtain ⟨xs, n, _, rfl, hl, hlen, hf⟩ := DataW.trod_struct ht h
  match xs, hlen with
  | [y0, y1, y2, y3], _ => exact ⟨y0, y1, y2, y3, n, by simp, hl, by simpa using hf 0 f0 rfl, by simpa using hf 1 f1 rfl, by simpa using hf 2 f2 rfl, by simpa using hf 3 f3 rfl⟩
set_option maxRecDepth 100000 in
theorem k_pn (h : DataW.trod enc Tryz.prog W 0 (fun _ => true) true m 46 cs = some y) : ∃ a : Pn, cs = pf a ∧ True := by
  obtain ⟨y0, y1, y2, y3, y4, q, _, hl, g0, g1, g2, g3, g4⟩ := trod_struct5 Tryz.underlying46 h
  rw [cellsPn] at hl
  match cs, hl with
  | [z0, z1, z2, z3, z4], _ =>
    simp only [cells9o, cells4o, cells3o] at g0 g1 g2 g3 g4
    obtain ⟨x0, f0, _, _⟩ := DataW.trod_string Tryz.underlying9 g0
    obtain ⟨x1, f1, _⟩ := DataW.trod_bool Tryz.underlying4 g1
    obtain ⟨x2, f2, _, _⟩ := DataW.trod_string Tryz.underlying9 g2
    obtain ⟨x3, f3, _, _⟩ := DataW.trod_string Tryz.underlying9 g3
    obtain ⟨x4, f4, _, _⟩ := DataW.trod_int Tryz.underlying3 g4
    simp at f0 f1 f2 f3 f4
    subst f0 f1 f2 f3 f4
    exact ⟨⟨x0, x1, x2, x3, x4⟩, rfl, trivial⟩
set_option maxRecDepth 100000 in
theorem k_cd (h : DataW.trod enc Tryz.prog W 0 (fun _ => true) true m 38 cs = some y) : ∃ a : Cd, cs = cf a ∧ True := by
  obtain ⟨y0, y1, y2, y3, q, _, hl, g0, g1, g2, g3⟩ := trod_struct4 Tryz.underlying38 h
  rw [cellsCd] at hl
  match cs, hl with
  | [z0, z1, z2, z3], _ =>
    simp only [cells9o, cells4o] at g0 g1 g2 g3
    obtain ⟨x0, f0, _⟩ := DataW.trod_bool Tryz.underlying4 g0
    obtain ⟨x1, f1, _, _⟩ := DataW.trod_string Tryz.underlying9 g1
    obtain ⟨x2, f2, _, _⟩ := DataW.trod_string Tryz.underlying9 g2
    obtain ⟨x3, f3, _, _⟩ := DataW.trod_string Tryz.underlying9 g3
    simp at f0 f1 f2 f3
    subst f0 f1 f2 f3
    exact ⟨⟨x0, x1, x2, x3⟩, rfl, trivial⟩
end
set_option maxRecDepth 100000 in
/-- Nodes that came in. -/
theorem open_nodes {H : Type} (b : Bnd H) {enc : TypeId × Value → H} {W : World} {base : Nat} {v : Value} {d : DataW H} {p : List MemPlace} (hB : b.B 26 d) (hv : Value.okWide Tryz.prog W .any base 26 v) (h : DataW.Trod enc Tryz.prog W 0 (fun _ => true) true 26 v d p) :
    ∃ t : List Tr.Nd, Tr.Ns W v t ∧ Tr.Sm t := by
  obtain ⟨fuel, hf⟩ := h
  obtain ⟨a, l, c, rfl⟩ := okWide_slice Tryz.underlying26 hv
  obtain ⟨E, e1, e2, _, _⟩ := open_flat Tr.nf 7 (by decide) Tr.nf_len Tr.ndd (fun _ => True) b (v := .slice a l c) Tryz.underlying26 cellsNd hB (fun m cs y hy _ => k_node hy) hf
  have r : reachBytes = 140737488351232 := rfl
  rw [bytesNd] at e2
  exact ⟨E, e1, by show E.length * 72 + 4096 ≤ _; omega⟩
set_option maxRecDepth 100000 in
/-- A node of a pattern that came in. -/
theorem open_pn {H : Type} {enc : TypeId × Value → H} {W : World} {base : Nat} {v : Value} {d : DataW H} {p : List MemPlace} (hv : Value.okWide Tryz.prog W .any base 46 v) (h : DataW.Trod enc Tryz.prog W 0 (fun _ => true) true 46 v d p) : ∃ a : Pn, v = pV a := by
  obtain ⟨fuel, hf⟩ := h
  obtain ⟨parts, rfl, _⟩ := okWide_struct Tryz.underlying46 hv
  obtain ⟨a, e, _⟩ := k_pn hf
  refine ⟨a, ?_⟩
  have e2 : parts.toList = pf a := e
  unfold pV
  congr 1
  exact Array.toList_inj.1 e2
end Go.Proofs.YtcmhbcfgikmblabGreatDoor.Qy
namespace Go.Proofs.YtcmhbcfgikmblabGreatDoor.Qy
open Go.ChangeShapes Go.WideShapes Go.ChangeAt Go.RowKit
open Go.ChangeMaps (open_string shut_string)
open Go.Joins Go.Deep

theorem trod_struct2w {H : Type} {enc : TypeId × Value → H} {P : Program} {w : World} {base : Nat} {spare : Nat → Bool} {held : Bool} {t : TypeId} {f0 f1 : Field} {fuel : Nat} {cs : List Value} {x : DataW H × List MemPlace} (ht : P.underlying t = some (.struct #[f0, f1])) (h : DataW.trod enc P w base spare held fuel t cs = some x) :
    ∃ y0 y1 n, x.1 = .agg [y0.1, y1.1] ∧ cs.length = P.cellsOf t ∧ DataW.trod enc P w base spare held n f0.type ((cs.drop f0.offset).take (P.cellsOf f0.type)) = some y0 ∧
      DataW.trod enc P w base spare held n f1.type ((cs.drop f1.offset).take (P.cellsOf f1.type)) = some y1 := by
  obtain ⟨xs, n, _, rfl, hl, hlen, hf⟩ := DataW.trod_struct ht h
  match xs, hlen with
  | [y0, y1], _ => exact ⟨y0, y1, n, by simp, hl, by simpa using hf 0 f0 rfl, by simpa using hf 1 f1 rfl⟩
set_option maxRecDepth 100000 in
/-- A query that came in. -/
theorem open_queryW {H : Type} {enc : TypeId × Value → H} {W : World} {base : Nat} {v : Value} {d : DataW H} {p : List MemPlace} (hB : (bndW H).B 25 d) (hv : Value.okWide Tryz.prog W .any base 25 v) (h : DataW.Trod enc Tryz.prog W 0 (fun _ => true) true 25 v d p) :
    ∃ vp vc l cs, v = .agg #[vp, vc] ∧ Ps W vp l ∧ Cs W vc cs ∧ l.length * 64 ≤ 140737488355328 ∧ cs.length * 56 ≤ 140737488355328 := by
  obtain ⟨parts, rfl, hsz⟩ := okWide_struct Tryz.underlying25 hv
  rw [cellsQ] at hsz
  obtain ⟨fuel, hf⟩ := h
  match parts, hsz with
  | ⟨[c0, c1]⟩, _ =>
    obtain ⟨y0, y1, q, hy, hl, g0, g1⟩ := trod_struct2w Tryz.underlying25 hf
    have hd : d = .agg [y0.1, y1.1] := hy
    rw [hd] at hB
    have hb0 := (bndW H).ag Tryz.underlying25 hB 0 _ y0.1 rfl rfl
    have hb1 := (bndW H).ag Tryz.underlying25 hB 1 _ y1.1 rfl rfl
    simp [cellsSP, cellsSC] at g0 g1
    obtain ⟨l, e1, e2, _, _⟩ := open_flat pf 5 (by decide) pf_len pz (fun _ => True) (bndW H) (v := c0) Tryz.underlying22 cellsPn hb0 (fun m cs y hy _ => k_pn hy) g0
    obtain ⟨cs, k1, k2, _, _⟩ := open_flat cf 4 (by decide) cf_len cz (fun _ => True) (bndW H) (v := c1) Tryz.underlying23 cellsCd hb1 (fun m cs y hy _ => k_cd hy) g1
    have r : reachBytes = 140737488351232 := rfl
    rw [bytesPn] at e2
    rw [bytesCd] at k2
    exact ⟨c0, c1, l, cs, rfl, e1, k1, by omega, by omega⟩
end Go.Proofs.YtcmhbcfgikmblabGreatDoor.Qy
namespace Go.Proofs.YtcmhbcfgikmblabGreatDoor
open Go.Proofs.YtcmhbcfgikmblabGreatDoor.Qy
open Go.ChangeShapes Go.WideShapes Go.ChangeAt Go.RowKit
open Go.ChangeMaps (open_string shut_string)
open Go.Deep

theorem ownE : ownKnob Tryz.prog.godebug = none := by kernel_rfl
theorem laidOutE : laidOutB Tryz.prog = true := by kernel_rfl
/-- A world for the witness: the settled one, the tables holding what their initialisers lay. -/
noncomputable def laidWorld (os : Os) : World :=
  { World.holding Tryz.prog os ⟨#[], #[], []⟩ with heap := ((((World.holding Tryz.prog os ⟨#[], #[], []⟩).heap.modify 2 fun
      | .cells _ t frozen => .cells #[.int .u8 0, .int .u8 1, .int .u8 28, .int .u8 2, .int .u8 29, .int .u8 14, .int .u8 24, .int .u8 3, .int .u8 30, .int .u8 22, .int .u8 20, .int .u8 15, .int .u8 25, .int .u8 17, .int .u8 4, .int .u8 8, .int .u8 31, .int .u8 27, .int .u8 13, .int .u8 23, .int .u8 21, .int .u8 19, .int .u8 16, .int .u8 7, .int .u8 26, .int .u8 12, .int .u8 18, .int .u8 6, .int .u8 11, .int .u8 5, .int .u8 10, .int .u8 9] t frozen
      | o => o).modify 3 fun
      | .cells _ t frozen => .cells #[.int .u8 0, .int .u8 1, .int .u8 56, .int .u8 2, .int .u8 57, .int .u8 49, .int .u8 28, .int .u8 3, .int .u8 61, .int .u8 58, .int .u8 42, .int .u8 50, .int .u8 38, .int .u8 29, .int .u8 17, .int .u8 4, .int .u8 62, .int .u8 47, .int .u8 59, .int .u8 36, .int .u8 45, .int .u8 43, .int .u8 51, .int .u8 22, .int .u8 53, .int .u8 39, .int .u8 33, .int .u8 30, .int .u8 24, .int .u8 18, .int .u8 12, .int .u8 5, .int .u8 63, .int .u8 55, .int .u8 48, .int .u8 27, .int .u8 60, .int .u8 41, .int .u8 37, .int .u8 16, .int .u8 46, .int .u8 35, .int .u8 44, .int .u8 21, .int .u8 52, .int .u8 32, .int .u8 23, .int .u8 11, .int .u8 54, .int .u8 26, .int .u8 40, .int .u8 15, .int .u8 34, .int .u8 20, .int .u8 31, .int .u8 10, .int .u8 25, .int .u8 14, .int .u8 19, .int .u8 9, .int .u8 13, .int .u8 8, .int .u8 7, .int .u8 6] t frozen
      | o => o).modify 1 fun
      | .cells _ t frozen => .cells #[.int .u64 1, .int .u64 10, .int .u64 100, .int .u64 1000, .int .u64 10000, .int .u64 100000, .int .u64 1000000, .int .u64 10000000, .int .u64 100000000, .int .u64 1000000000, .int .u64 10000000000, .int .u64 100000000000, .int .u64 1000000000000, .int .u64 10000000000000, .int .u64 100000000000000, .int .u64 1000000000000000, .int .u64 10000000000000000, .int .u64 100000000000000000, .int .u64 1000000000000000000, .int .u64 10000000000000000000] t frozen
      | o => o) }
theorem laid_met (os : Os) : laidMet Tryz.prog Rows.queryPartsRow.laid ((laidWorld os).forCall (fun _ _ => 0) ⟨#[], #[.agg #[.slice none 0 0, .slice none 0 0], .slice none 0 0, .string .empty], []⟩).memory :=
  laidMet_of_run' 8 (by kernel_rfl) (by kernel_rfl)
theorem reads (os : Os) {H : Type} (enc : TypeId × Value → H) : ∃ places, DataW.whole enc Tryz.prog ((laidWorld os).forCall (fun _ _ => 0) ⟨#[], #[.agg #[.slice none 0 0, .slice none 0 0], .slice none 0 0, .string .empty], []⟩).memory Tryz.f4.params.toList Rows.queryPartsSpec.vars false (#[.agg #[.slice none 0 0, .slice none 0 0], .slice none 0 0, .string .empty] : Array Value).toList 8 = some ([.agg [.nil, .nil], .nil, .lit (.string [])], [], places) :=
  ⟨[], by kernel_rfl⟩

set_option maxRecDepth 100000 in
theorem queryParts_lifted (os : Os) (started : os.Started) (H : Type) (enc : TypeId × Value → H) (F : Stop.Interp) :
    ReturnsInHanded {} Tryz.checked os 4 .any ((OpenSpec.ofChange Rows.queryPartsSpec).preRow enc Tryz.prog Tryz.f4 Rows.queryPartsRow.domain false Rows.queryPartsRow.laid) (((OpenSpec.ofChange Rows.queryPartsSpec).at F).post enc Tryz.prog Tryz.f4 false true false false) := by
  obtain ⟨places, hx⟩ := reads os enc
  refine returnsInHanded_of_row (C := Tryz.checked) (s := OpenSpec.ofChange Rows.queryPartsSpec) ownE started (by kernel_rfl) Tryz.func4
    (witness_row_at (enc := enc) (C := Tryz.checked) false (laidWorld os) #[.agg #[.slice none 0 0, .slice none 0 0], .slice none 0 0, .string .empty] rfl (by kernel_rfl) (by kernel_rfl) (by kernel_rfl)
      (OpenSpec.preRow_of_cond 8 hx (by kernel_rfl) (fun k hk => by cases hk) (by kernel_rfl) (laid_met os))) ?_
  intro W base args ds gs before hval0 hW _ _ hsz0 hL _ _
  have hsz : (DataW.weightsEach Tryz.prog (Tryz.f4.params.toList ++ Rows.queryPartsSpec.plain.varTypes Tryz.prog) (ds ++ gs)).all (· ≤ reachBytes) = true := hsz0
  clear hsz0
  have hval : ∀ (j : Nat) t v, Tryz.f4.params[j]? = some t → args[j]? = some v → Value.okWide Tryz.prog W .any base t v := hval0
  have hW' := hW
  obtain ⟨p, q, hA0, hV, rfl, _, _⟩ := hW
  have hA : DataW.TrodAll enc Tryz.prog W 0 (fun _ => true) true Tryz.f4.params.toList args.toList ds p := hA0
  rw [Tryz.params4] at hA hval hsz
  obtain ⟨v0, vs0, d0, ds0, p0, q0, hargs, rfl, rfl, h0, r0⟩ := trodAll_cons hA
  obtain ⟨v1, vs1, d1, ds1, p1, q1, rfl, rfl, rfl, h1, r1⟩ := trodAll_cons r0
  obtain ⟨v2, vs2, d2, ds2, p2, q2, rfl, rfl, rfl, h2, r2⟩ := trodAll_cons r1
  obtain ⟨rfl, rfl, rfl⟩ := trodAll_nil r2
  obtain rfl : args = #[v0, v1, v2] := by cases args; simp_all
  obtain ⟨rfl, rfl⟩ := trodVars_none hV
  have lt0 : ∀ x ∈ p0, x.block < W.heap.size := by obtain ⟨m, hm⟩ := h0; exact DataW.trod_lt m _ _ _ hm
  have k0 := h0
  have lt1 : ∀ x ∈ p1, x.block < W.heap.size := by obtain ⟨m, hm⟩ := h1; exact DataW.trod_lt m _ _ _ hm
  have k1 := h1
  have lt2 : ∀ x ∈ p2, x.block < W.heap.size := by obtain ⟨m, hm⟩ := h2; exact DataW.trod_lt m _ _ _ hm
  have k2 := h2
  have B0 : (bndW H).B 25 d0 := fun n hn => by have := List.all_eq_true.1 hsz _ (DataW.weights_mem_each (j := 0) rfl rfl n hn); simpa using this
  obtain ⟨vp0, vc0, l0, cs0, rfl, hp0, hc0, hl0, _⟩ := open_queryW B0 (hval 0 25 v0 rfl rfl) h0
  have B1 : (bndW H).B 26 d1 := fun n hn => by have := List.all_eq_true.1 hsz _ (DataW.weights_mem_each (j := 1) rfl rfl n hn); simpa using this
  obtain ⟨t1, hT1, hS1⟩ := open_nodes _ B1 (hval 1 26 v1 rfl rfl) h1
  obtain ⟨s2, rfl, rfl, rfl, _⟩ := open_string Tryz.underlying9 (hval 2 9 v2 rfl rfl) h2
  clear hA0 hval0 hL
  refine (queryParts_any s2 W hp0 hc0 hT1 hS1 hl0).mono fun e W' ⟨he, bel⟩ => ?_
  subst he
  exact ⟨_, rfl, _, _, _, [], _, [], hW', trodAll_mk1 (shut_bool Tryz.underlying4 _), (trodAll_cons_mk (Below.trod laidOutE (by kernel_rfl) (of_decide_eq_true (by kernel_rfl)) k0 bel lt0) (trodAll_cons_mk (Below.trod laidOutE (by kernel_rfl) (of_decide_eq_true (by kernel_rfl)) k1 bel lt1) (trodAll_cons_mk (Below.trod laidOutE (by kernel_rfl) (of_decide_eq_true (by kernel_rfl)) k2 bel lt2) trodAll_mk0))), rfl, bel.frame _, fun h => by cases h⟩

theorem queryParts_said : Rows.QueryPartsSaid :=
  OpenClaim.holds_of_cond 4 Tryz.f4 rfl rfl rfl rfl rfl rfl rfl ⟨rfl, rfl, rfl, rfl, rfl⟩ rfl rfl rfl rfl rfl (by kernel_rfl) Tryz.func4 (by kernel_rfl)
    (of_decide_eq_true (by kernel_rfl)) (by unfold Func.isWrapper; first | (rw [if_pos (by decide +kernel)]; kernel_rfl) | (rw [if_neg (by decide +kernel)]; exact ⟨rfl, rfl⟩))
    (fun os started H enc _ F => by rw [OpenClaim.pre_eq_preRow]; exact queryParts_lifted os started H enc F)
theorem queryParts_plain (f : FuncId) (fn : Func) (hf : Tryz.pinned.checked.prog.funcNamed "trellis/trellislaw20.QueryParts" = some f) (hfn : Tryz.pinned.checked.prog.funcs[f]? = some fn) :
    false = Tryz.pinned.checked.prog.looks [] ∧ ∀ (j : Nat) t, fn.params[j]? = some t → Tryz.pinned.checked.prog.wantsStandIn t = false := by
  obtain rfl : f = 4 := Option.some.inj ((show Tryz.prog.funcNamed "trellis/trellislaw20.QueryParts" = some 4 by kernel_rfl).symm.trans hf) |>.symm
  obtain rfl : fn = Tryz.f4 := (Option.some.inj (Tryz.func4.symm.trans hfn)).symm
  refine ⟨by kernel_rfl, fun j t ht => ?_⟩
  rw [Tryz.params4] at ht
  have hm : t ∈ [25, 26, 9] := by simpa using Array.mem_of_getElem? ht
  have hall : ∀ u ∈ [25, 26, 9], Tryz.prog.wantsStandIn u = false := by
    intro u hu
    simp only [List.mem_cons, List.not_mem_nil, or_false] at hu
    rcases hu with rfl | rfl | rfl <;> kernel_rfl
  exact hall t hm
theorem queryParts_holds : Rows.QueryPartsCardSaid :=
  Claim7.holds_tied_plain_at .later [] _ _ _ _ queryParts_said (fun _ h => by cases h) (by kernel_rfl) (fun _ h => by cases h) queryParts_row_tie rfl ⟨rfl, rfl⟩ (by kernel_rfl) rfl queryParts_plain (by kernel_rfl)
#print axioms queryParts_holds
end Go.Proofs.YtcmhbcfgikmblabGreatDoor
