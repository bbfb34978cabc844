import Derived.Test.YtcmhbcfgikmblaaGreatDoorRows
import Derived.Test.YtcmhbcfgikmblaaGreatDoorBay
import Derived.Test.YtcmhbcfgikmblaaGreatDoorTva
import Derived.ProofKit
import Derived.OpenShut
import Derived.ShutString
import Derived.ChangeOld
import Derived.JoinedCond
import Derived.Below
import Derived.SizedLaws
import Derived.Lib.SmallJoins
import Derived.Deep.Slices
import Derived.Deep.Strs
import Derived.Test.YtcmhbcfgikmblaaGreatDoorQwe
import Derived.Test.YtcmhbcfgikmblaaGreatDoorQgy
import Derived.Test.YtcmhbcfgikmblaaGreatDoorQyj
import Derived.Test.YtcmhbcfgikmblaaGreatDoorQyi
import Derived.Test.YtcmhbcfgikmblaaGreatDoorCards
import Derived.Test.YtcmhbcfgikmblaaGreatDoorTie
import Derived.Deep.DeepHandedRow
import Derived.Lib.LaidTab
namespace Go.Proofs.YtcmhbcfgikmblaaGreatDoor.Qy
open Go.ChangeShapes Go.WideShapes Go.ChangeAt Go.RowKit
open Go.ChangeMaps (open_string shut_string)
open Go.Joins Go.Deep

theorem cells3o : Tryz.prog.cellsOf 3 = 1 := by kernel_rfl
theorem cells4o : Tryz.prog.cellsOf 4 = 1 := by kernel_rfl
theorem cells9o : Tryz.prog.cellsOf 9 = 1 := by kernel_rfl
theorem cellsNd : Tryz.prog.cellsOf 43 = 7 := by kernel_rfl
theorem bytesNd : Tryz.prog.bytesOf 43 = 72 := by kernel_rfl
theorem cellsPn : Tryz.prog.cellsOf 36 = 5 := by kernel_rfl
theorem bytesPn : Tryz.prog.bytesOf 36 = 64 := by kernel_rfl
theorem cellsCd : Tryz.prog.cellsOf 61 = 4 := by kernel_rfl
theorem bytesCd : Tryz.prog.bytesOf 61 = 56 := by kernel_rfl
theorem cellsSP : Tryz.prog.cellsOf 23 = 1 := by kernel_rfl
theorem cellsSC : Tryz.prog.cellsOf 24 = 1 := by kernel_rfl
theorem cellsQ : Tryz.prog.cellsOf 26 = 2 := by kernel_rfl
theorem pick {α : Type} (d : α) (P : Nat → α → Prop) (n : Nat) (h : ∀ i, i < n → ∃ e : α, P i e) : ∃ E : List α, E.length = n ∧ ∀ i, i < n → P i (E.getD i d) := by
  induction n with
  | zero => exact ⟨[], rfl, fun i hi => by omega⟩
  | succ n ih =>
    obtain ⟨E, e1, e2⟩ := ih (fun i hi => h i (by omega))
    obtain ⟨e, p1⟩ := h n (by omega)
    refine ⟨E ++ [e], by simp [e1], fun i hi => ?_⟩
    by_cases c : i < n
    · have : (E ++ [e]).getD i d = E.getD i d := by simp only [List.getD_eq_getElem?_getD, List.getElem?_append_left (by omega : i < E.length)]
      rw [this]; exact e2 i c
    · have hi2 : i = E.length := by omega
      subst hi2
      have : (E ++ [e]).getD E.length d = e := by simp
      rw [this, e1]; exact p1
/-- What bounds what came in: its weights, or its bulk. -/
structure Bnd (H : Type) where
  B : TypeId → DataW H → Prop
  sl : ∀ {t e : TypeId} {es sp : List (DataW H)}, Tryz.prog.underlying t = some (.slice e) → B t (.slice es sp) → es.length * Tryz.prog.bytesOf e ≤ reachBytes ∧ ∀ d ∈ es, B e d
  ag : ∀ {t : TypeId} {fs : Array Field} {parts : List (DataW H)}, Tryz.prog.underlying t = some (.struct fs) → B t (.agg parts) → ∀ (j : Nat) (ty : TypeId) (d : DataW H), (fs.toList.map (·.type))[j]? = some ty → parts[j]? = some d → B ty d
theorem wall_mem {H : Type} {e : TypeId} {x : DataW H} {n : Nat} : ∀ {l : List (DataW H)}, x ∈ l → n ∈ x.weights Tryz.prog e → n ∈ DataW.weightsAll Tryz.prog e l
  | [], h, _ => by cases h
  | y :: l, h, hn => by
    simp only [DataW.weightsAll, List.mem_append]
    rcases List.mem_cons.1 h with rfl | h
    · exact Or.inl hn
    · exact Or.inr (wall_mem h hn)
def bndW (H : Type) : Bnd H where
  B t d := ∀ k ∈ d.weights Tryz.prog t, k ≤ reachBytes
  sl := fun {t e es sp} hu h => by
    refine ⟨?_, fun d hd k hk => h k ?_⟩
    · have := h ((es.length + sp.length) * Tryz.prog.bytesOf e) (by simp [DataW.weights, hu])
      exact Nat.le_trans (Nat.mul_le_mul_right _ (Nat.le_add_right _ _)) this
    · simp only [DataW.weights, hu, List.mem_cons, List.mem_append]
      exact Or.inr (Or.inl (wall_mem hd hk))
  ag := fun {t fs parts} hu h j ty d h1 h2 k hk => h k (by
    rw [DataW.weights, hu]
    exact DataW.weights_mem_each h1 h2 k hk)
set_option maxRecDepth 100000 in
/-- A list that came in, so many cells for each. -/
theorem open_flat {α : Type} (f : α → List Value) (n : Nat) (hn : 0 < n) (hf : ∀ x, (f x).length = n) (d : α) (P : α → Prop) {H : Type} (b : Bnd H) {enc : TypeId × Value → H} {W : World} {v : Value} {fuel : Nat} {t e : TypeId} {x : DataW H × List MemPlace} (ht : Tryz.prog.underlying t = some (.slice e)) (hc : Tryz.prog.cellsOf e = n) (hB : b.B t x.1)
    (hk : ∀ (m : Nat) (cs : List Value) (y : DataW H × List MemPlace), DataW.trod enc Tryz.prog W 0 (fun _ => true) true m e cs = some y → b.B e y.1 → ∃ a, cs = f a ∧ P a) (h : DataW.trod enc Tryz.prog W 0 (fun _ => true) true fuel t [v] = some x) :
    ∃ E : List α, Rw W v E.length (flat f E) ∧ E.length * Tryz.prog.bytesOf e ≤ reachBytes ∧ (∀ a ∈ E, P a) ∧ ((x.1 = .nil ∧ E.length = 0) ∨ ∃ es sp, x.1 = .slice es sp ∧ E.length = es.length) := by
  rcases open_slice ht h with ⟨hcs, rfl⟩ | ⟨a, len, cap, m, k, D, Pl, hcs, _, hl, hm, hmm, rfl, hel⟩
  · simp at hcs
    subst hcs
    exact ⟨[], Rw.nil W, by simp, fun a h => (by cases h), Or.inl ⟨rfl, rfl⟩⟩
  · simp at hcs hmm
    subst hcs hmm
    obtain ⟨hb1, hb2⟩ := b.sl ht hB
    rw [List.length_map, List.length_range] at hb1
    obtain ⟨blk, off, spot⟩ := a
    obtain ⟨E, e1, e2⟩ := pick d (fun i (b : α) => spot = none ∧ (∀ j u, (f b)[j]? = some u → W.cell? ⟨blk, off + (i * n + j), none⟩ = some u) ∧ P b) len (fun i hi => by
      obtain ⟨cs', hc', ht'⟩ := hel i (by omega)
      rw [hc] at hc'
      obtain ⟨b, rfl, hP⟩ := hk _ _ _ ht' (hb2 _ (List.mem_map.2 ⟨i, List.mem_range.2 hi, rfl⟩))
      obtain ⟨_, _, hcell⟩ := World.cells?_some hc'
      have hspot : spot = none := by
        obtain ⟨cs0, hc0, _⟩ := hel 0 (by omega)
        rw [hc] at hc0
        obtain ⟨hl0, _, hcell0⟩ := World.cells?_some hc0
        have h0 := hcell0 0 (by omega)
        rw [List.getElem?_eq_getElem (by omega)] at h0
        simpa [Addr.add] using World.cell?_spot h0
      subst hspot
      refine ⟨b, rfl, fun j u hu => ?_, hP⟩
      have hj : j < n := by have := (List.getElem?_eq_some_iff.1 hu).1; rw [hf] at this; exact this
      have h1 := hcell j (by first | exact hj | (rw [hf]; exact hj))
      rw [hu] at h1
      simp only [addPl] at h1
      rw [← Nat.add_assoc]
      exact h1)
    refine ⟨E, ⟨some ⟨blk, off, spot⟩, blk, off, _, by rw [e1], by omega, fun h => (by cases h), fun hp => ?_, fun j u hu => ?_⟩, by rw [e1]; exact hb1, fun b hb => ?_, Or.inr ⟨_, _, rfl, by rw [e1, List.length_map, List.length_range]⟩⟩
    · rw [(e2 0 (by omega)).1]
    · have hj : j < E.length * n := by have := (List.getElem?_eq_some_iff.1 hu).1; rw [flat_len hf] at this; exact this
      have hq : j / n < E.length := Nat.div_lt_of_lt_mul (by rw [Nat.mul_comm]; exact hj)
      have hr : j % n < n := Nat.mod_lt _ hn
      have hdm : j / n * n + j % n = j := by rw [Nat.mul_comm]; exact Nat.div_add_mod j n
      have h1 := flat_get hf d E (j / n) (j % n) hq hr
      rw [hdm, hu] at h1
      have h2 := (e2 (j / n) (by omega)).2.1 (j % n) u h1.symm
      rw [hdm] at h2
      exact h2
    · obtain ⟨j, hj⟩ := List.mem_iff_getElem?.1 hb
      have hjl : j < E.length := (List.getElem?_eq_some_iff.1 hj).1
      have h1 := (e2 j (by omega)).2.2
      rw [List.getD_eq_getElem?_getD, hj] at h1
      exact h1
section
variable {H : Type} {enc : TypeId × Value → H} {W : World} {m : Nat} {cs : List Value} {y : DataW H × List MemPlace}
theorem trod_struct7 {P : Program} {w : World} {base : Nat} {spare : Nat → Bool} {held : Bool} {t : TypeId} {f0 f1 f2 f3 f4 f5 f6 : Field} {fuel : Nat} {cs : List Value} {x : DataW H × List MemPlace} (ht : P.underlying t = some (.struct #[f0, f1, f2, f3, f4, f5, f6])) (h : DataW.trod enc P w base spare held fuel t cs = some x) :
    ∃ y0 y1 y2 y3 y4 y5 y6 n, x.1 = .agg [y0.1, y1.1, y2.1, y3.1, y4.1, y5.1, y6.1] ∧ cs.length = P.cellsOf t ∧ DataW.trod enc P w base spare held n f0.type ((cs.drop f0.offset).take (P.cellsOf f0.type)) = some y0 ∧
      DataW.trod enc P w base spare held n f1.type ((cs.drop f1.offset).take (P.cellsOf f1.type)) = some y1 ∧ DataW.trod enc P w base spare held n f2.type ((cs.drop f2.offset).take (P.cellsOf f2.type)) = some y2 ∧
      DataW.trod enc P w base spare held n f3.type ((cs.drop f3.offset).take (P.cellsOf f3.type)) = some y3 ∧ DataW.trod enc P w base spare held n f4.type ((cs.drop f4.offset).take (P.cellsOf f4.type)) = some y4 ∧ DataW.trod enc P w base spare held n f5.type ((cs.drop f5.offset).take (P.cellsOf f5.type)) = some y5 ∧ DataW.trod enc P w base spare held n f6.type ((cs.drop f6.offset).take (P.cellsOf f6.type)) = some y6 := by
  obtain ⟨xs, n, _, rfl, hl, hlen, hf⟩ := DataW.trod_struct ht h
  match xs, hlen with
  | [y0, y1, y2, y3, y4, y5, y6], _ => exact ⟨y0, y1, y2, y3, y4, y5, y6, n, by simp, hl, by simpa using hf 0 f0 rfl, by simpa using hf 1 f1 rfl, by simpa using hf 2 f2 rfl, by simpa using hf 3 f3 rfl, by simpa using hf 4 f4 rfl, by simpa using hf 5 f5 rfl, by simpa using hf 6 f6 rfl⟩
set_option maxRecDepth 100000 in
theorem k_node (h : DataW.trod enc Tryz.prog W 0 (fun _ => true) true m 43 cs = some y) : ∃ a : Tr.Nd, cs = Tr.nf a ∧ True := by
  obtain ⟨y0, y1, y2, y3, y4, y5, y6, q, _, hl, g0, g1, g2, g3, g4, g5, g6⟩ := trod_struct7 Tryz.underlying43 h
  rw [cellsNd] at hl
  match cs, hl with
  | [z0, z1, z2, z3, z4, z5, z6], _ =>
    simp only [cells9o, cells4o, cells3o] at g0 g1 g2 g3 g4 g5 g6
    obtain ⟨x0, f0, _, _⟩ := DataW.trod_string Tryz.underlying9 g0
    obtain ⟨x1, f1, _⟩ := DataW.trod_bool Tryz.underlying4 g1
    obtain ⟨x2, f2, _, _⟩ := DataW.trod_string Tryz.underlying9 g2
    obtain ⟨x3, f3, _, _⟩ := DataW.trod_int Tryz.underlying3 g3
    obtain ⟨x4, f4, _, _⟩ := DataW.trod_int Tryz.underlying3 g4
    obtain ⟨x5, f5, _, _⟩ := DataW.trod_int Tryz.underlying3 g5
    obtain ⟨x6, f6, _, _⟩ := DataW.trod_int Tryz.underlying3 g6
    simp at f0 f1 f2 f3 f4 f5 f6
    subst f0 f1 f2 f3 f4 f5 f6
    exact ⟨⟨x0, x1, x2, x3, x4, x5, x6⟩, rfl, trivial⟩
theorem slice_one {t e : TypeId} (ht : Tryz.prog.underlying t = some (.slice e)) (h : DataW.trod enc Tryz.prog W 0 (fun _ => true) true m t cs = some y) : ∃ v, cs = [v] := by
  rcases open_slice ht h with ⟨hcs, _⟩ | ⟨a, len, cap, m, k, D, Pl, hcs, _⟩
  · exact ⟨_, hcs⟩
  · exact ⟨_, hcs⟩
end
section
variable {H : Type} {enc : TypeId × Value → H} {W : World} {m : Nat} {cs : List Value} {y : DataW H × List MemPlace}
theorem trod_struct5 {P : Program} {w : World} {base : Nat} {spare : Nat → Bool} {held : Bool} {t : TypeId} {f0 f1 f2 f3 f4 : Field} {fuel : Nat} {cs : List Value} {x : DataW H × List MemPlace} (ht : P.underlying t = some (.struct #[f0, f1, f2, f3, f4])) (h : DataW.trod enc P w base spare held fuel t cs = some x) :
    ∃ y0 y1 y2 y3 y4 n, x.1 = .agg [y0.1, y1.1, y2.1, y3.1, y4.1] ∧ cs.length = P.cellsOf t ∧ DataW.trod enc P w base spare held n f0.type ((cs.drop f0.offset).take (P.cellsOf f0.type)) = some y0 ∧
      DataW.trod enc P w base spare held n f1.type ((cs.drop f1.offset).take (P.cellsOf f1.type)) = some y1 ∧ DataW.trod enc P w base spare held n f2.type ((cs.drop f2.offset).take (P.cellsOf f2.type)) = some y2 ∧
      DataW.trod enc P w base spare held n f3.type ((cs.drop f3.offset).take (P.cellsOf f3.type)) = some y3 ∧ DataW.trod enc P w base spare held n f4.type ((cs.drop f4.offset).take (P.cellsOf f4.type)) = some y4 := by
  obtain ⟨xs, n, _, rfl, hl, hlen, hf⟩ := DataW.trod_struct ht h
  match xs, hlen with
  | [y0, y1, y2, y3, y4], _ => exact ⟨y0, y1, y2, y3, y4, n, by simp, hl, by simpa using hf 0 f0 rfl, by simpa using hf 1 f1 rfl, by simpa using hf 2 f2 rfl, by simpa using hf 3 f3 rfl, by simpa using hf 4 f4 rfl⟩
theorem trod_struct4 {P : Program} {w : World} {base : Nat} {spare : Nat → Bool} {held : Bool} {t : TypeId} {f0 f1 f2 f3 : Field} {fuel : Nat} {cs : List Value} {x : DataW H × List MemPlace} (ht : P.underlying t = some (.struct #[f0, f1, f2, f3])) (h : DataW.trod enc P w base spare held fuel t cs = some x) :
    ∃ y0 y1 y2 y3 n, x.1 = .agg [y0.1, y1.1, y2.1, y3.1] ∧ cs.length = P.cellsOf t ∧ DataW.trod enc P w base spare held n f0.type ((cs.drop f0.offset).take (P.cellsOf f0.type)) = some y0 ∧
      DataW.trod enc P w base spare held n f1.type ((cs.drop f1.offset).take (P.cellsOf f1.type)) = some y1 ∧ DataW.trod enc P w base spare held n f2.type ((cs.drop f2.offset).take (P.cellsOf f2.type)) = some y2 ∧
      DataW.trod enc P w base spare held n f3.type ((cs.drop f3.offset).take (P.cellsOf f3.type)) = some y3 := by
  obtain ⟨xs, n, _, rfl, hl, hlen, hf⟩ := DataW.trod_struct ht h
  match xs, hlen with
  | [y0, y1, y2, y3], _ => exact ⟨y0, y1, y2, y3, n, by simp, hl, by simpa using hf 0 f0 rfl, by simpa using hf 1 f1 rfl, by simpa using hf 2 f2 rfl, by simpa using hf 3 f3 rfl⟩
set_option maxRecDepth 100000 in
theorem k_pn (h : DataW.trod enc Tryz.prog W 0 (fun _ => true) true m 36 cs = some y) : ∃ a : Pn, cs = pf a ∧ True := by
  obtain ⟨y0, y1, y2, y3, y4, q, _, hl, g0, g1, g2, g3, g4⟩ := trod_struct5 Tryz.underlying36 h
  rw [cellsPn] at hl
  match cs, hl with
  | [z0, z1, z2, z3, z4], _ =>
    simp only [cells9o, cells4o, cells3o] at g0 g1 g2 g3 g4
    obtain ⟨x0, f0, _, _⟩ := DataW.trod_string Tryz.underlying9 g0
    obtain ⟨x1, f1, _⟩ := DataW.trod_bool Tryz.underlying4 g1
    obtain ⟨x2, f2, _, _⟩ := DataW.trod_string Tryz.underlying9 g2
    obtain ⟨x3, f3, _, _⟩ := DataW.trod_string Tryz.underlying9 g3
    obtain ⟨x4, f4, _, _⟩ := DataW.trod_int Tryz.underlying3 g4
    simp at f0 f1 f2 f3 f4
    subst f0 f1 f2 f3 f4
    exact ⟨⟨x0, x1, x2, x3, x4⟩, rfl, trivial⟩
set_option maxRecDepth 100000 in
theorem k_cd (h : DataW.trod enc Tryz.prog W 0 (fun _ => true) true m 61 cs = some y) : ∃ a : Cd, cs = cf a ∧ True := by
  obtain ⟨y0, y1, y2, y3, q, _, hl, g0, g1, g2, g3⟩ := trod_struct4 Tryz.underlying61 h
  rw [cellsCd] at hl
  match cs, hl with
  | [z0, z1, z2, z3], _ =>
    simp only [cells9o, cells4o] at g0 g1 g2 g3
    obtain ⟨x0, f0, _⟩ := DataW.trod_bool Tryz.underlying4 g0
    obtain ⟨x1, f1, _, _⟩ := DataW.trod_string Tryz.underlying9 g1
    obtain ⟨x2, f2, _, _⟩ := DataW.trod_string Tryz.underlying9 g2
    obtain ⟨x3, f3, _, _⟩ := DataW.trod_string Tryz.underlying9 g3
    simp at f0 f1 f2 f3
    subst f0 f1 f2 f3
    exact ⟨⟨x0, x1, x2, x3⟩, rfl, trivial⟩
end
set_option maxRecDepth 100000 in
/-- Nodes that came in. -/
theorem open_nodes {H : Type} (b : Bnd H) {enc : TypeId × Value → H} {W : World} {base : Nat} {v : Value} {d : DataW H} {p : List MemPlace} (hB : b.B 37 d) (hv : Value.okWide Tryz.prog W .any base 37 v) (h : DataW.Trod enc Tryz.prog W 0 (fun _ => true) true 37 v d p) :
    ∃ t : List Tr.Nd, Tr.Ns W v t ∧ Tr.Sm t := by
  obtain ⟨fuel, hf⟩ := h
  obtain ⟨a, l, c, rfl⟩ := okWide_slice Tryz.underlying37 hv
  obtain ⟨E, e1, e2, _, _⟩ := open_flat Tr.nf 7 (by decide) Tr.nf_len Tr.ndd (fun _ => True) b (v := .slice a l c) Tryz.underlying37 cellsNd hB (fun m cs y hy _ => k_node hy) hf
  have r : reachBytes = 140737488351232 := rfl
  rw [bytesNd] at e2
  exact ⟨E, e1, by show E.length * 72 + 4096 ≤ _; omega⟩
set_option maxRecDepth 100000 in
/-- A node of a pattern that came in. -/
theorem open_pn {H : Type} {enc : TypeId × Value → H} {W : World} {base : Nat} {v : Value} {d : DataW H} {p : List MemPlace} (hv : Value.okWide Tryz.prog W .any base 36 v) (h : DataW.Trod enc Tryz.prog W 0 (fun _ => true) true 36 v d p) : ∃ a : Pn, v = pV a := by
  obtain ⟨fuel, hf⟩ := h
  obtain ⟨parts, rfl, _⟩ := okWide_struct Tryz.underlying36 hv
  obtain ⟨a, e, _⟩ := k_pn hf
  refine ⟨a, ?_⟩
  have e2 : parts.toList = pf a := e
  unfold pV
  congr 1
  exact Array.toList_inj.1 e2
end Go.Proofs.YtcmhbcfgikmblaaGreatDoor.Qy
namespace Go.Proofs.YtcmhbcfgikmblaaGreatDoor.Qy
open Go.ChangeShapes Go.WideShapes Go.ChangeAt Go.RowKit
open Go.ChangeMaps (open_string shut_string)
open Go.Joins Go.Deep

theorem bulk_pos {H : Type} (d : DataW H) : 1 ≤ Rows.uptoBulk d := by
  cases d with
  | lit l => cases l <;> simp [Rows.uptoBulk]
  | _ => simp [Rows.uptoBulk]
theorem bulk_len {H : Type} : ∀ l : List (DataW H), l.length ≤ Rows.uptoBulkAll l
  | [] => by simp
  | d :: l => by have := bulk_len l; have := bulk_pos d; simp only [Rows.uptoBulkAll, List.length_cons]; omega
theorem bulk_mem {H : Type} {d : DataW H} : ∀ {l : List (DataW H)}, d ∈ l → Rows.uptoBulk d ≤ Rows.uptoBulkAll l
  | [], h => by cases h
  | e :: l, h => by
    simp only [Rows.uptoBulkAll]
    rcases List.mem_cons.1 h with rfl | h
    · omega
    · have := bulk_mem h; omega
/-- What is of small bulk, of the types at hand. -/
def bndU (H : Type) : Bnd H where
  B t d := Rows.uptoBulk d ≤ 1048576 ∧ t ∈ [26, 23, 36, 24, 61, 3, 9, 4]
  sl := fun {t e es sp} hu h => by
    obtain ⟨hb, ht⟩ := h
    simp only [Rows.uptoBulk] at hb
    have h1 := bulk_len es
    simp only [List.mem_cons, List.not_mem_nil, or_false] at ht
    have key : Tryz.prog.bytesOf e ≤ 72 ∧ e ∈ [26, 23, 36, 24, 61, 3, 9, 4] := by
      rcases ht with rfl | rfl | rfl | rfl | rfl | rfl | rfl | rfl
      · rw [Tryz.underlying26] at hu; cases hu
      · rw [Tryz.underlying23] at hu; cases hu; exact ⟨by rw [bytesPn]; decide, by decide⟩
      · rw [Tryz.underlying36] at hu; cases hu
      · rw [Tryz.underlying24] at hu; cases hu; exact ⟨by rw [bytesCd]; decide, by decide⟩
      · rw [Tryz.underlying61] at hu; cases hu
      · rw [Tryz.underlying3] at hu; cases hu
      · rw [Tryz.underlying9] at hu; cases hu
      · rw [Tryz.underlying4] at hu; cases hu
    refine ⟨?_, fun d hd => ⟨?_, key.2⟩⟩
    · have h2 : es.length * Tryz.prog.bytesOf e ≤ 1048576 * 72 := Nat.mul_le_mul (by omega) key.1
      exact Nat.le_trans h2 (by decide)
    · have := bulk_mem hd; omega
  ag := fun {t fs parts} hu h j ty d h1 h2 => by
    obtain ⟨hb, ht⟩ := h
    simp only [Rows.uptoBulk] at hb
    refine ⟨by have := bulk_mem (List.mem_of_getElem? h2); omega, ?_⟩
    simp only [List.mem_cons, List.not_mem_nil, or_false] at ht
    have key : ∀ y ∈ fs.toList.map (·.type), y ∈ [26, 23, 36, 24, 61, 3, 9, 4] := by
      rcases ht with rfl | rfl | rfl | rfl | rfl | rfl | rfl | rfl
      · rw [Tryz.underlying26] at hu; cases hu; decide
      · rw [Tryz.underlying23] at hu; cases hu
      · rw [Tryz.underlying36] at hu; cases hu; decide
      · rw [Tryz.underlying24] at hu; cases hu
      · rw [Tryz.underlying61] at hu; cases hu; decide
      · rw [Tryz.underlying3] at hu; cases hu
      · rw [Tryz.underlying9] at hu; cases hu
      · rw [Tryz.underlying4] at hu; cases hu
    exact key ty (List.mem_of_getElem? h1)
theorem str_bulk {H : Type} {x : ByteArray} (h : Rows.uptoBulk (DataW.lit (.string x.data.toList) : DataW H) ≤ 1048576) : x.size ≤ 1048576 := by
  simp only [Rows.uptoBulk] at h
  have e9 : x.data.toList.length = x.size := Array.length_toList
  omega
section
variable {H : Type} {enc : TypeId × Value → H} {W : World} {m : Nat} {cs : List Value} {y : DataW H × List MemPlace}
set_option maxRecDepth 100000 in
theorem k_pnU (hB : (bndU H).B 36 y.1) (h : DataW.trod enc Tryz.prog W 0 (fun _ => true) true m 36 cs = some y) : ∃ a : Pn, cs = pf a ∧ a.nm.size ≤ 1048576 := by
  obtain ⟨y0, y1, y2, y3, y4, q, hy, hl, g0, g1, g2, g3, g4⟩ := trod_struct5 Tryz.underlying36 h
  have hb := ((bndU H).ag Tryz.underlying36 (hy ▸ hB) 0 _ _ rfl rfl).1
  rw [cellsPn] at hl
  match cs, hl with
  | [z0, z1, z2, z3, z4], _ =>
    simp only [cells9o, cells4o, cells3o] at g0 g1 g2 g3 g4
    obtain ⟨x0, f0, e0, _⟩ := DataW.trod_string Tryz.underlying9 g0
    obtain ⟨x1, f1, _⟩ := DataW.trod_bool Tryz.underlying4 g1
    obtain ⟨x2, f2, _, _⟩ := DataW.trod_string Tryz.underlying9 g2
    obtain ⟨x3, f3, _, _⟩ := DataW.trod_string Tryz.underlying9 g3
    obtain ⟨x4, f4, _, _⟩ := DataW.trod_int Tryz.underlying3 g4
    simp at f0 f1 f2 f3 f4
    subst f0 f1 f2 f3 f4
    rw [e0] at hb
    exact ⟨⟨x0, x1, x2, x3, x4⟩, rfl, str_bulk hb⟩
set_option maxRecDepth 100000 in
theorem k_cdU (hB : (bndU H).B 61 y.1) (h : DataW.trod enc Tryz.prog W 0 (fun _ => true) true m 61 cs = some y) : ∃ a : Cd, cs = cf a ∧ a.tx.size ≤ 1048576 := by
  obtain ⟨y0, y1, y2, y3, q, hy, hl, g0, g1, g2, g3⟩ := trod_struct4 Tryz.underlying61 h
  have hb := ((bndU H).ag Tryz.underlying61 (hy ▸ hB) 3 _ _ rfl rfl).1
  rw [cellsCd] at hl
  match cs, hl with
  | [z0, z1, z2, z3], _ =>
    simp only [cells9o, cells4o] at g0 g1 g2 g3
    obtain ⟨x0, f0, _⟩ := DataW.trod_bool Tryz.underlying4 g0
    obtain ⟨x1, f1, _, _⟩ := DataW.trod_string Tryz.underlying9 g1
    obtain ⟨x2, f2, _, _⟩ := DataW.trod_string Tryz.underlying9 g2
    obtain ⟨x3, f3, e3, _⟩ := DataW.trod_string Tryz.underlying9 g3
    simp at f0 f1 f2 f3
    subst f0 f1 f2 f3
    rw [e3] at hb
    exact ⟨⟨x0, x1, x2, x3⟩, rfl, str_bulk hb⟩
theorem trod_struct2 {P : Program} {w : World} {base : Nat} {spare : Nat → Bool} {held : Bool} {t : TypeId} {f0 f1 : Field} {fuel : Nat} {cs : List Value} {x : DataW H × List MemPlace} (ht : P.underlying t = some (.struct #[f0, f1])) (h : DataW.trod enc P w base spare held fuel t cs = some x) :
    ∃ y0 y1 n, x.1 = .agg [y0.1, y1.1] ∧ cs.length = P.cellsOf t ∧ DataW.trod enc P w base spare held n f0.type ((cs.drop f0.offset).take (P.cellsOf f0.type)) = some y0 ∧
      DataW.trod enc P w base spare held n f1.type ((cs.drop f1.offset).take (P.cellsOf f1.type)) = some y1 := by
  obtain ⟨xs, n, _, rfl, hl, hlen, hf⟩ := DataW.trod_struct ht h
  match xs, hlen with
  | [y0, y1], _ => exact ⟨y0, y1, n, by simp, hl, by simpa using hf 0 f0 rfl, by simpa using hf 1 f1 rfl⟩
end
set_option maxRecDepth 100000 in
/-- A query of small bulk that came in. -/
theorem open_queryU {H : Type} {enc : TypeId × Value → H} {W : World} {base : Nat} {v : Value} {d : DataW H} {p : List MemPlace} (hB : Rows.uptoBulk d ≤ 1048576) (hv : Value.okWide Tryz.prog W .any base 26 v) (h : DataW.Trod enc Tryz.prog W 0 (fun _ => true) true 26 v d p) :
    ∃ vp vc l cs, v = .agg #[vp, vc] ∧ Ps W vp l ∧ Cs W vc cs ∧ Sz l cs ∧ l.length * 64 ≤ 140737488355328 ∧ cs.length * 56 ≤ 140737488355328 := by
  have hB0 : (bndU H).B 26 d := ⟨hB, by simp⟩
  obtain ⟨parts, rfl, hsz⟩ := okWide_struct Tryz.underlying26 hv
  rw [cellsQ] at hsz
  obtain ⟨fuel, hf⟩ := h
  match parts, hsz with
  | ⟨[c0, c1]⟩, _ =>
    obtain ⟨y0, y1, q, hy, hl, g0, g1⟩ := trod_struct2 Tryz.underlying26 hf
    have hd : d = .agg [y0.1, y1.1] := hy
    rw [hd] at hB0
    have hb0 := (bndU H).ag Tryz.underlying26 hB0 0 _ y0.1 rfl rfl
    have hb1 := (bndU H).ag Tryz.underlying26 hB0 1 _ y1.1 rfl rfl
    simp [cellsSP, cellsSC] at g0 g1
    obtain ⟨l, e1, e2, e3, _⟩ := open_flat pf 5 (by decide) pf_len pz (fun a => a.nm.size ≤ 1048576) (bndU H) (v := c0) Tryz.underlying23 cellsPn hb0 (fun m cs y hy hb => k_pnU hb hy) g0
    obtain ⟨cs, k1, k2, k3, _⟩ := open_flat cf 4 (by decide) cf_len cz (fun a => a.tx.size ≤ 1048576) (bndU H) (v := c1) Tryz.underlying24 cellsCd hb1 (fun m cs y hy hb => k_cdU hb hy) g1
    have r : reachBytes = 140737488351232 := rfl
    rw [bytesPn] at e2
    rw [bytesCd] at k2
    exact ⟨c0, c1, l, cs, rfl, e1, k1, ⟨fun p hp => Nat.le_trans (e3 p hp) (by decide), fun c hc => Nat.le_trans (k3 c hc) (by decide)⟩, by omega, by omega⟩
end Go.Proofs.YtcmhbcfgikmblaaGreatDoor.Qy
namespace Go.Proofs.YtcmhbcfgikmblaaGreatDoor.Qy
open Go.RowKit Go.Maps

set_option maxRecDepth 100000 in
set_option maxHeartbeats 8000000 in
/-- QueryBack. -/
theorem queryBack_any {vp vc : Value} {l : List Pn} {cs : List Cd} (w : World) (hp : Ps w vp l) (hc : Cs w vc cs) (hz : Sz l cs) (hl : l.length * 64 ≤ 140737488355328) (hm : cs.length * 56 ≤ 140737488355328) : Calls Tryz.prog 5 #[.agg #[vp, vc]] w fun e w' => e = .returned (.bool true) ∧ Below w.heap.size w w' := by
  obtain ⟨W1, hW1⟩ : ∃ W1, W1 = w.alloc (.cells #[vp, vc] 26) := ⟨_, rfl⟩
  obtain ⟨qb, hqb⟩ : ∃ qb, w.heap.size = qb := ⟨_, rfl⟩
  have HB1 : Hid (Below w.heap.size w W1) := by rw [hW1]; exact bel_up _ _
  have hq1 : W1.heap[qb]? = some (.cells #[vp, vc] 26 (0, 0)) := by rw [hW1, ← hqb]; exact heap_new w _
  have HST : Hid _ := started_any W1
  have HPS : Hid (Ps W1 vp l) := hp.up HB1.out
  have HCS : Hid (Cs W1 vc cs) := hc.up HB1.out
  have HSZ : Hid (Sz l cs) := hz
  have HLM : Hid (l.length * 64 ≤ 140737488355328 ∧ cs.length * 56 ≤ 140737488355328) := ⟨hl, hm⟩
  obtain ⟨na, nc, hvp⟩ := hp.form
  obtain ⟨ca, cc, hvc⟩ := hc.form
  obtain ⟨n, hn⟩ : ∃ n, l.length = n := ⟨_, rfl⟩
  obtain ⟨m, hm1⟩ : ∃ m, cs.length = m := ⟨_, rfl⟩
  rw [hn] at hvp
  rw [hm1] at hvc
  have HN : Hid (l.length = n ∧ cs.length = m) := ⟨hn, hm1⟩
  subst hvp hvc
  have HQC : Hid (∀ W, Below W1.heap.size W1 W → W.cell? ⟨qb, 0, none⟩ = some (.slice na n nc) ∧ W.cell? ⟨qb, 1, none⟩ = some (.slice ca m cc)) := fun W hW => ⟨below_cell hW (rcell hq1 0 _ rfl), below_cell hW (rcell hq1 1 _ rfl)⟩
  have HBY : Hid (∀ W, Below W1.heap.size W1 W → Calls Tryz.prog 15 #[.slice na n nc] W fun e w' => ∃ b, e = .returned (.bool b) ∧ Below W.heap.size W w') := fun W hW => beyondP_any W (HPS.out.up hW) HLM.out.1
  clear hp hc hz hl hm hq1 hn hm1
  go_enter Tryz.func5, Tryz.ntmps5
  go_upto_region 1 with fail
  first | rw [← hW1, hqb] | rw [← hW1]
  clear hW1 hqb
  go_upto_region 3 with (go_at_call 6; refine Calls.mono HST.out ?_; rintro e w2 ⟨rfl, hb2⟩; have HB2 : Hid (Below W1.heap.size W1 w2) := hb2; clear hb2)
  obtain ⟨q0, q1⟩ := HQC.out w2 HB2.out
  go_upto_if 12 with (go_at_call 15; refine Calls.mono (HBY.out _ HB2.out) ?_; rintro e w3 ⟨b, rfl, hb3⟩; have HB3 : Hid (Below W1.heap.size W1 w3) := below_trans HB2.out hb3; clear hb3)
  clear q0 q1
  cases b with
  | true =>
    go_wp2_with fail
    go_ret
    exact ⟨rfl, below_trans HB1.out HB3.out⟩
  | false =>
    have HPT : Hid _ := print_any w3 (HPS.out.up HB3.out) (HCS.out.up HB3.out) HSZ.out
    obtain ⟨s2, hs2⟩ : ∃ s2, prT l cs = s2 := ⟨_, rfl⟩
    obtain ⟨c2, hc2⟩ : ∃ c2, prC l cs = c2 := ⟨_, rfl⟩
    have HS2 : Hid (prT l cs = s2 ∧ prC l cs = c2) := ⟨hs2, hc2⟩
    rw [hs2, hc2] at HPT
    obtain ⟨q0, q1⟩ := HQC.out w3 HB3.out
    clear hs2 hc2
    go_upto_region 6 with (go_at_call 8; refine Calls.mono HPT.out ?_; rintro e w4 ⟨rfl, hb4⟩; have HB4 : Hid (Below W1.heap.size W1 w4) := below_trans HB3.out hb4; clear hb4)
    clear q0 q1
    obtain ⟨q0, q1⟩ := HQC.out w4 HB4.out
    have HSD : Hid _ := shaped_any w4 (HPS.out.up HB4.out) (HCS.out.up HB4.out)
    obtain ⟨SB, hSB⟩ : ∃ SB, shp l cs = SB := ⟨_, rfl⟩
    have HSB : Hid (shp l cs = SB) := hSB
    rw [hSB] at HSD
    clear hSB
    cases SB with
    | false =>
      obtain ⟨a1, a2⟩ := HS2.out
      unfold prT at a1
      unfold prC at a2
      rw [HSB.out] at a1 a2
      have e1 : s2 = ⟨#[]⟩ := a1.symm
      have e2 : c2 = 200 := a2.symm
      subst e1 e2
      clear a1 a2
      go_wp2_with (go_at_call 9; refine Calls.mono HSD.out ?_; rintro e w5 ⟨rfl, hb5⟩; have HB5 : Hid (Below W1.heap.size W1 w5) := below_trans HB4.out hb5; clear hb5)
      go_ret
      exact ⟨rfl, below_trans HB1.out HB5.out⟩
    | true =>
      obtain ⟨b1, b2⟩ := psr_back HSB.out
      obtain ⟨a1, a2⟩ := HS2.out
      unfold prC at a2
      rw [HSB.out] at a2
      have e2 : c2 = 0 := a2.symm
      subst e2
      rw [a1] at b1 b2
      have HP2 : Hid (∀ W, Calls Tryz.prog 7 #[.string s2] W fun e w' => Psd W.heap.size W w' e (psr s2).1 (psr s2).2.1 (psr s2).2.2.1 (psr s2).2.2.2) := fun W => parse_any s2 W
      clear a1 a2
      by_cases hz : 16384 < s2.size
      · rw [b1 hz] at HP2
        have d1 : decide ((16384 : Int) < (s2.size : Int)) = true := by rw [decide_eq_true_eq]; omega
        have d2 : decide (16384 < s2.size) = true := by rw [decide_eq_true_eq]; omega
        clear b1 b2 hz
        go_wp2_with first | (go_at_call 9; refine Calls.mono HSD.out ?_; rintro e w5 ⟨rfl, hb5⟩; have HB5 : Hid (Below W1.heap.size W1 w5) := below_trans HB4.out hb5; clear hb5) | (go_at_call 7; refine Calls.mono (HP2.out _) ?_; rintro e w6 ⟨⟨vn, vc, rfl, hn6, hc6⟩, hb6⟩; obtain ⟨na6, nc6, rfl⟩ := row_shape hn6; obtain ⟨ca6, cc6, rfl⟩ := row_shape hc6; have HB6 : Hid (Below W1.heap.size W1 w6) := below_trans HB5.out hb6; clear hn6 hc6 hb6)
        go_ret
        exact ⟨rfl, below_trans HB1.out (below_trans HB6.out (bel_up _ _))⟩
      · rw [b2 (by omega)] at HP2
        have d1 : decide ((16384 : Int) < (s2.size : Int)) = false := by rw [decide_eq_false_iff_not]; omega
        have d2 : decide (16384 < s2.size) = false := by rw [decide_eq_false_iff_not]; omega
        clear b1 b2 hz
        go_upto_region 9 with first | (go_at_call 9; refine Calls.mono HSD.out ?_; rintro e w5 ⟨rfl, hb5⟩; have HB5 : Hid (Below W1.heap.size W1 w5) := below_trans HB4.out hb5; clear hb5) | (go_at_call 7; refine Calls.mono (HP2.out _) ?_; rintro e w6 ⟨⟨vn, vc, rfl, hn6, hc6⟩, hb6⟩; have HRN : Hid (Ps w6 vn l) := row_rw hn6; have HRC : Hid (Cs w6 vc cs) := row_rw hc6; simp only [HN.out.1, HN.out.2] at hn6 hc6; obtain ⟨na6, nc6, rfl⟩ := row_shape hn6; obtain ⟨ca6, cc6, rfl⟩ := row_shape hc6; have HB6 : Hid (Below W1.heap.size W1 w6) := below_trans HB5.out hb6; clear hn6 hc6 hb6)
        clear q0 q1
        obtain ⟨W7, hW7⟩ : ∃ W7, W7 = w6.alloc (.cells #[.slice na6 n nc6, .slice ca6 m cc6] 26) := ⟨_, rfl⟩
        obtain ⟨rb, hrb⟩ : ∃ rb, w6.heap.size = rb := ⟨_, rfl⟩
        have HB67 : Hid (Below w6.heap.size w6 W7) := by rw [hW7]; exact bel_up _ _
        have HB7 : Hid (Below W1.heap.size W1 W7) := below_trans HB6.out HB67.out
        have hr7 : W7.heap[rb]? = some (.cells #[.slice na6 n nc6, .slice ca6 m cc6] 26 (0, 0)) := by rw [hW7, ← hrb]; exact heap_new w6 _
        have HSA : Hid (Calls Tryz.prog 10 #[.agg #[.slice na n nc, .slice ca m cc], .agg #[.slice na6 n nc6, .slice ca6 m cc6]] W7 fun e w' => e = .returned (.bool true) ∧ Below W7.heap.size W7 w') := same_q W7 (HPS.out.up HB7.out) (HCS.out.up HB7.out) (HRN.out.up HB67.out) (HRC.out.up HB67.out) HLM.out.1 HLM.out.2
        obtain ⟨q0, q1⟩ := HQC.out W7 HB7.out
        have r0 := rcell hr7 0 _ rfl
        have r1 := rcell hr7 1 _ rfl
        first | rw [← hW7, hrb] | rw [← hW7]
        clear hW7 hrb hr7
        go_wp2_with (go_at_call 10; refine Calls.mono HSA.out ?_; rintro e w8 ⟨rfl, hb8⟩; have HB8 : Hid (Below W1.heap.size W1 w8) := below_trans HB7.out hb8; clear hb8)
        go_ret
        exact ⟨rfl, below_trans HB1.out HB8.out⟩
end Go.Proofs.YtcmhbcfgikmblaaGreatDoor.Qy
namespace Go.Proofs.YtcmhbcfgikmblaaGreatDoor
open Go.Proofs.YtcmhbcfgikmblaaGreatDoor.Qy
open Go.ChangeShapes Go.WideShapes Go.ChangeAt Go.RowKit
open Go.ChangeMaps (open_string shut_string)
open Go.Deep

theorem ownE : ownKnob Tryz.prog.godebug = none := by kernel_rfl
theorem laidOutE : laidOutB Tryz.prog = true := by kernel_rfl
/-- A world for the witness: the settled one, the tables holding what their initialisers lay. -/
noncomputable def laidWorld (os : Os) : World :=
  { World.holding Tryz.prog os ⟨#[], #[], []⟩ with heap := ((((World.holding Tryz.prog os ⟨#[], #[], []⟩).heap.modify 2 fun
      | .cells _ t frozen => .cells #[.int .u8 0, .int .u8 1, .int .u8 28, .int .u8 2, .int .u8 29, .int .u8 14, .int .u8 24, .int .u8 3, .int .u8 30, .int .u8 22, .int .u8 20, .int .u8 15, .int .u8 25, .int .u8 17, .int .u8 4, .int .u8 8, .int .u8 31, .int .u8 27, .int .u8 13, .int .u8 23, .int .u8 21, .int .u8 19, .int .u8 16, .int .u8 7, .int .u8 26, .int .u8 12, .int .u8 18, .int .u8 6, .int .u8 11, .int .u8 5, .int .u8 10, .int .u8 9] t frozen
      | o => o).modify 3 fun
      | .cells _ t frozen => .cells #[.int .u8 0, .int .u8 1, .int .u8 56, .int .u8 2, .int .u8 57, .int .u8 49, .int .u8 28, .int .u8 3, .int .u8 61, .int .u8 58, .int .u8 42, .int .u8 50, .int .u8 38, .int .u8 29, .int .u8 17, .int .u8 4, .int .u8 62, .int .u8 47, .int .u8 59, .int .u8 36, .int .u8 45, .int .u8 43, .int .u8 51, .int .u8 22, .int .u8 53, .int .u8 39, .int .u8 33, .int .u8 30, .int .u8 24, .int .u8 18, .int .u8 12, .int .u8 5, .int .u8 63, .int .u8 55, .int .u8 48, .int .u8 27, .int .u8 60, .int .u8 41, .int .u8 37, .int .u8 16, .int .u8 46, .int .u8 35, .int .u8 44, .int .u8 21, .int .u8 52, .int .u8 32, .int .u8 23, .int .u8 11, .int .u8 54, .int .u8 26, .int .u8 40, .int .u8 15, .int .u8 34, .int .u8 20, .int .u8 31, .int .u8 10, .int .u8 25, .int .u8 14, .int .u8 19, .int .u8 9, .int .u8 13, .int .u8 8, .int .u8 7, .int .u8 6] t frozen
      | o => o).modify 1 fun
      | .cells _ t frozen => .cells #[.int .u64 1, .int .u64 10, .int .u64 100, .int .u64 1000, .int .u64 10000, .int .u64 100000, .int .u64 1000000, .int .u64 10000000, .int .u64 100000000, .int .u64 1000000000, .int .u64 10000000000, .int .u64 100000000000, .int .u64 1000000000000, .int .u64 10000000000000, .int .u64 100000000000000, .int .u64 1000000000000000, .int .u64 10000000000000000, .int .u64 100000000000000000, .int .u64 1000000000000000000, .int .u64 10000000000000000000] t frozen
      | o => o) }
theorem laid_met (os : Os) : laidMet Tryz.prog Rows.queryBackUptoRow.laid ((laidWorld os).forCall (fun _ _ => 0) ⟨#[], #[.agg #[.slice none 0 0, .slice none 0 0]], []⟩).memory :=
  laidMet_of_run' 8 (by kernel_rfl) (by kernel_rfl)
theorem reads (os : Os) {H : Type} (enc : TypeId × Value → H) : ∃ places, DataW.whole enc Tryz.prog ((laidWorld os).forCall (fun _ _ => 0) ⟨#[], #[.agg #[.slice none 0 0, .slice none 0 0]], []⟩).memory Tryz.f5.params.toList Rows.queryBackSpec.vars false (#[.agg #[.slice none 0 0, .slice none 0 0]] : Array Value).toList 8 = some ([.agg [.nil, .nil]], [], places) :=
  ⟨[], by kernel_rfl⟩

set_option maxRecDepth 100000 in
theorem queryBack_lifted (os : Os) (started : os.Started) (H : Type) (enc : TypeId × Value → H) (F : Stop.Interp) :
    ReturnsInHanded {} Tryz.checked os 5 .any ((Rows.OpenSpec.upto Rows.queryBackSpec).preRow enc Tryz.prog Tryz.f5 Rows.queryBackUptoRow.domain false Rows.queryBackUptoRow.laid) (((Rows.OpenSpec.upto Rows.queryBackSpec).at F).post enc Tryz.prog Tryz.f5 false true false false) := by
  obtain ⟨places, hx⟩ := reads os enc
  refine returnsInHanded_of_row (C := Tryz.checked) (s := Rows.OpenSpec.upto Rows.queryBackSpec) ownE started (by kernel_rfl) Tryz.func5
    (witness_row_at (enc := enc) (C := Tryz.checked) false (laidWorld os) #[.agg #[.slice none 0 0, .slice none 0 0]] rfl (by kernel_rfl) (by kernel_rfl) (by kernel_rfl)
      (OpenSpec.preRow_of_cond 8 hx (by kernel_rfl) (fun k hk => by cases hk; kernel_rfl) (by kernel_rfl) (laid_met os))) ?_
  intro W base args ds gs before hval0 hW hcond0 hcond1 hsz0 hL _ _
  have hsz : (DataW.weightsEach Tryz.prog (Tryz.f5.params.toList ++ Rows.queryBackSpec.plain.varTypes Tryz.prog) (ds ++ gs)).all (· ≤ reachBytes) = true := hsz0
  clear hsz0
  have hval : ∀ (j : Nat) t v, Tryz.f5.params[j]? = some t → args[j]? = some v → Value.okWide Tryz.prog W .any base t v := hval0
  have hW' := hW
  obtain ⟨p, q, hA0, hV, rfl, _, _⟩ := hW
  have hA : DataW.TrodAll enc Tryz.prog W 0 (fun _ => true) true Tryz.f5.params.toList args.toList ds p := hA0
  rw [Tryz.params5] at hA hval hsz
  obtain ⟨v0, vs0, d0, ds0, p0, q0, hargs, rfl, rfl, h0, r0⟩ := trodAll_cons hA
  obtain ⟨rfl, rfl, rfl⟩ := trodAll_nil r0
  obtain rfl : args = #[v0] := by cases args; simp_all
  obtain ⟨rfl, rfl⟩ := trodVars_none hV
  have lt0 : ∀ x ∈ p0, x.block < W.heap.size := by obtain ⟨m, hm⟩ := h0; exact DataW.trod_lt m _ _ _ hm
  have k0 := h0
  have hb : Rows.uptoBulkAll ([d0] ++ []) ≤ 1048576 := of_decide_eq_true (hcond1 _ rfl)
  simp only [List.append_nil, Rows.uptoBulkAll] at hb
  obtain ⟨vp0, vc0, l0, cs0, rfl, hp0, hc0, hz0, hl0, hm0⟩ := open_queryU (by omega) (hval 0 26 v0 rfl rfl) h0
  clear hA0 hval0 hL hsz
  refine (queryBack_any W hp0 hc0 hz0 hl0 hm0).mono fun e W' ⟨he, bel⟩ => ?_
  subst he
  exact ⟨_, rfl, _, _, _, [], _, [], hW', trodAll_mk1 (shut_bool Tryz.underlying4 _), (trodAll_cons_mk (Below.trod laidOutE (by kernel_rfl) (of_decide_eq_true (by kernel_rfl)) k0 bel lt0) trodAll_mk0), rfl, bel.frame _, fun h => by cases h⟩

theorem queryBack_said : Rows.QueryBackUptoSaid :=
  OpenClaim.holds_of_cond 5 Tryz.f5 rfl rfl rfl rfl rfl rfl rfl ⟨rfl, rfl, rfl, rfl, rfl⟩ rfl rfl rfl rfl rfl (by kernel_rfl) Tryz.func5 (by kernel_rfl)
    (of_decide_eq_true (by kernel_rfl)) (by unfold Func.isWrapper; first | (rw [if_pos (by decide +kernel)]; kernel_rfl) | (rw [if_neg (by decide +kernel)]; exact ⟨rfl, rfl⟩))
    (fun os started H enc _ F => by rw [OpenClaim.pre_eq_preRow]; exact queryBack_lifted os started H enc F)
theorem queryBack_plain (f : FuncId) (fn : Func) (hf : Tryz.pinned.checked.prog.funcNamed "trellis/trellislaw20.QueryBack" = some f) (hfn : Tryz.pinned.checked.prog.funcs[f]? = some fn) :
    false = Tryz.pinned.checked.prog.looks [] ∧ ∀ (j : Nat) t, fn.params[j]? = some t → Tryz.pinned.checked.prog.wantsStandIn t = false := by
  obtain rfl : f = 5 := Option.some.inj ((show Tryz.prog.funcNamed "trellis/trellislaw20.QueryBack" = some 5 by kernel_rfl).symm.trans hf) |>.symm
  obtain rfl : fn = Tryz.f5 := (Option.some.inj (Tryz.func5.symm.trans hfn)).symm
  refine ⟨by kernel_rfl, fun j t ht => ?_⟩
  rw [Tryz.params5] at ht
  have hm : t ∈ [26] := by simpa using Array.mem_of_getElem? ht
  have hall : ∀ u ∈ [26], Tryz.prog.wantsStandIn u = false := by
    intro u hu
    simp only [List.mem_cons, List.not_mem_nil, or_false] at hu
    rcases hu with rfl <;> kernel_rfl
  exact hall t hm
theorem queryBack_holds : Rows.QueryBackUptoCardSaid :=
  Claim7.holds_tied_plain_at .later [] _ _ _ _ queryBack_said (fun _ h => by cases h) (by kernel_rfl) (fun _ h => by cases h) queryBackUpto_row_tie rfl ⟨rfl, rfl⟩ (by kernel_rfl) rfl queryBack_plain (by kernel_rfl)
#print axioms queryBack_holds
end Go.Proofs.YtcmhbcfgikmblaaGreatDoor
