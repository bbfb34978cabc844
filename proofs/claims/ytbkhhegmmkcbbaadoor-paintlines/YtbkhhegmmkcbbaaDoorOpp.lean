import Derived.Test.YtbkhhegmmkcbbaaDoorOpn
import Derived.Test.YtbkhhegmmkcbbaaDoorPcs
namespace Go.Proofs.YtbkhhegmmkcbbaaDoor
open Go.ChangeShapes Go.WideShapes Go.ChangeAt Go.RowKit
open Go.ChangeMaps (open_string shut_string)
open Go.Joins Go.Deep

theorem ownE : ownKnob Tryd.prog.godebug = none := by kernel_rfl
theorem laidOutE : laidOutB Tryd.prog = true := by kernel_rfl
theorem cellsPa : Tryd.prog.cellsOf 27 = 2 := by kernel_rfl
theorem bytesPa : Tryd.prog.bytesOf 27 = 32 := by kernel_rfl
theorem wall_mem {H : Type} {e : TypeId} {x : DataW H} {n : Nat} : ∀ {l : List (DataW H)}, x ∈ l → n ∈ x.weights Tryd.prog e → n ∈ DataW.weightsAll Tryd.prog e l
  | [], h, _ => by cases h
  | y :: l, h, hn => by
    simp only [DataW.weightsAll, List.mem_append]
    rcases List.mem_cons.1 h with rfl | h
    · exact Or.inl hn
    · exact Or.inr (wall_mem h hn)
def bndW (H : Type) : Bnd H where
  B t d := ∀ k ∈ d.weights Tryd.prog t, k ≤ reachBytes
  sl := fun {t e es sp} hu h => by
    refine ⟨?_, fun d hd k hk => h k ?_⟩
    · have := h ((es.length + sp.length) * Tryd.prog.bytesOf e) (by simp [DataW.weights, hu])
      exact Nat.le_trans (Nat.mul_le_mul_right _ (Nat.le_add_right _ _)) this
    · simp only [DataW.weights, hu, List.mem_cons, List.mem_append]
      exact Or.inr (Or.inl (wall_mem hd hk))
  ag := fun {t fs parts} hu h j ty d h1 h2 k hk => h k (by
    rw [DataW.weights, hu]
    exact DataW.weights_mem_each h1 h2 k hk)
section
variable {H : Type} {enc : TypeId × Value → H} {W : World} {m : Nat} {cs : List Value} {y : DataW H × List MemPlace}
theorem trod_struct2 {P : Program} {w : World} {base : Nat} {spare : Nat → Bool} {held : Bool} {t : TypeId} {f0 f1 : Field} {fuel : Nat} {cs : List Value} {x : DataW H × List MemPlace} (ht : P.underlying t = some (.struct #[f0, f1])) (h : DataW.trod enc P w base spare held fuel t cs = some x) :
    ∃ y0 y1 n, x.1 = .agg [y0.1, y1.1] ∧ cs.length = P.cellsOf t ∧ DataW.trod enc P w base spare held n f0.type ((cs.drop f0.offset).take (P.cellsOf f0.type)) = some y0 ∧
      DataW.trod enc P w base spare held n f1.type ((cs.drop f1.offset).take (P.cellsOf f1.type)) = some y1 := by
  obtain ⟨xs, n, _, rfl, hl, hlen, hf⟩ := DataW.trod_struct ht h
  match xs, hlen with
  | [y0, y1], _ => exact ⟨y0, y1, n, by simp, hl, by simpa using hf 0 f0 rfl, by simpa using hf 1 f1 rfl⟩
set_option maxRecDepth 100000 in
theorem k_paint (hB : (bndW H).B 27 y.1) (h : DataW.trod enc Tryd.prog W 0 (fun _ => true) true m 27 cs = some y) : ∃ a : Pa, cs = paf a ∧ (a.nm.size ≤ maxLen ∧ a.cl.size ≤ 140737488355328) := by
  obtain ⟨y0, y1, q, hy, hl, g0, g1⟩ := trod_struct2 Tryd.underlying27 h
  rw [cellsPa] at hl
  match cs, hl with
  | [z0, z1], _ =>
    simp only [cells9o] at g0 g1
    obtain ⟨x0, f0, _, s0⟩ := DataW.trod_string Tryd.underlying9 g0
    obtain ⟨x1, f1, e1, _⟩ := DataW.trod_string Tryd.underlying9 g1
    simp at f0 f1
    subst f0 f1
    refine ⟨⟨x0, x1⟩, rfl, s0, ?_⟩
    have h9 := (bndW H).ag Tryd.underlying27 (hy ▸ hB) 1 _ _ rfl rfl
    rw [e1] at h9
    have h8 : x1.data.toList.length ≤ reachBytes := h9 x1.data.toList.length (List.mem_singleton.2 rfl)
    have r : reachBytes = 140737488351232 := rfl
    have e9 : x1.data.toList.length = x1.size := Array.length_toList
    show x1.size ≤ _
    omega
set_option maxRecDepth 100000 in
theorem k_nodeN (h : DataW.trod enc Tryd.prog W 0 (fun _ => true) true m 53 cs = some y) : ∃ a : Nd, cs = nf a ∧ a.nm.size ≤ maxLen := by
  obtain ⟨y0, y1, y2, y3, y4, y5, y6, q, _, hl, g0, g1, g2, g3, g4, g5, g6⟩ := trod_struct7 Tryd.underlying53 h
  rw [cellsNd] at hl
  match cs, hl with
  | [z0, z1, z2, z3, z4, z5, z6], _ =>
    simp only [cells9o, cells4o, cells3o] at g0 g1 g2 g3 g4 g5 g6
    obtain ⟨x0, f0, _, s0⟩ := DataW.trod_string Tryd.underlying9 g0
    obtain ⟨x1, f1, _⟩ := DataW.trod_bool Tryd.underlying4 g1
    obtain ⟨x2, f2, _, _⟩ := DataW.trod_string Tryd.underlying9 g2
    obtain ⟨x3, f3, _, _⟩ := DataW.trod_int Tryd.underlying3 g3
    obtain ⟨x4, f4, _, _⟩ := DataW.trod_int Tryd.underlying3 g4
    obtain ⟨x5, f5, _, _⟩ := DataW.trod_int Tryd.underlying3 g5
    obtain ⟨x6, f6, _, _⟩ := DataW.trod_int Tryd.underlying3 g6
    simp at f0 f1 f2 f3 f4 f5 f6
    subst f0 f1 f2 f3 f4 f5 f6
    exact ⟨⟨x0, x1, x2, x3, x4, x5, x6⟩, rfl, s0⟩
end
set_option maxRecDepth 100000 in
theorem open_nodesN {H : Type} {enc : TypeId × Value → H} {W : World} {base : Nat} {v : Value} {d : DataW H} {p : List MemPlace} (hB : (bndW H).B 23 d) (hv : Value.okWide Tryd.prog W .any base 23 v) (h : DataW.Trod enc Tryd.prog W 0 (fun _ => true) true 23 v d p) :
    ∃ t : List Nd, Ns W v t ∧ Sm t ∧ ∀ x ∈ t, x.nm.size ≤ maxLen := by
  obtain ⟨fuel, hf⟩ := h
  obtain ⟨a, l, c, rfl⟩ := okWide_slice Tryd.underlying23 hv
  obtain ⟨E, e1, e2, e3, _⟩ := open_flat nf 7 (by decide) nf_len ndd (fun x => x.nm.size ≤ maxLen) (bndW H) (v := .slice a l c) Tryd.underlying23 cellsNd hB (fun m cs y hy _ => k_nodeN hy) hf
  have r : reachBytes = 140737488351232 := rfl
  rw [bytesNd] at e2
  exact ⟨E, e1, by show E.length * 72 + 4096 ≤ _; omega, e3⟩
set_option maxRecDepth 100000 in
theorem open_paints {H : Type} {enc : TypeId × Value → H} {W : World} {base : Nat} {v : Value} {d : DataW H} {p : List MemPlace} (hB : (bndW H).B 22 d) (hv : Value.okWide Tryd.prog W .any base 22 v) (h : DataW.Trod enc Tryd.prog W 0 (fun _ => true) true 22 v d p) :
    ∃ l : List Pa, Pl W v l ∧ l.length * 32 ≤ 140737488355328 ∧ ∀ x ∈ l, x.nm.size ≤ maxLen ∧ x.cl.size ≤ 140737488355328 := by
  obtain ⟨fuel, hf⟩ := h
  obtain ⟨a, l, c, rfl⟩ := okWide_slice Tryd.underlying22 hv
  obtain ⟨E, e1, e2, e3, _⟩ := open_flat paf 2 (by decide) paf_len paz (fun x => x.nm.size ≤ maxLen ∧ x.cl.size ≤ 140737488355328) (bndW H) (v := .slice a l c) Tryd.underlying22 cellsPa hB (fun m cs y hy hb => k_paint hb hy) hf
  have r : reachBytes = 140737488351232 := rfl
  rw [bytesPa] at e2
  exact ⟨E, e1, by omega, e3⟩
end Go.Proofs.YtbkhhegmmkcbbaaDoor
