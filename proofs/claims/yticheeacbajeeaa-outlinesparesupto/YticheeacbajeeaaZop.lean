import Derived.Test.YticheeacbajeeaaOpn
import Derived.Test.YticheeacbajeeaaOlw
namespace Go.Proofs.Yticheeacbajeeaa
open Go.ChangeShapes Go.WideShapes Go.ChangeAt Go.RowKit
open Go.ChangeMaps (open_string shut_string)
open Go.Joins Go.Deep

theorem ownE : ownKnob Try.prog.godebug = none := by kernel_rfl
theorem laidOutE : laidOutB Try.prog = true := by kernel_rfl
theorem cellsPa : Try.prog.cellsOf 74 = 2 := by kernel_rfl
theorem bytesPa : Try.prog.bytesOf 74 = 32 := by kernel_rfl
theorem wall_mem {H : Type} {e : TypeId} {x : DataW H} {n : Nat} : ∀ {l : List (DataW H)}, x ∈ l → n ∈ x.weights Try.prog e → n ∈ DataW.weightsAll Try.prog e l
  | [], h, _ => by cases h
  | y :: l, h, hn => by
    simp only [DataW.weightsAll, List.mem_append]
    rcases List.mem_cons.1 h with rfl | h
    · exact Or.inl hn
    · exact Or.inr (wall_mem h hn)
def bndW (H : Type) : Bnd H where
  B t d := ∀ k ∈ d.weights Try.prog t, k ≤ reachBytes
  sl := fun {t e es sp} hu h => by
    refine ⟨?_, fun d hd k hk => h k ?_⟩
    · have := h ((es.length + sp.length) * Try.prog.bytesOf e) (by simp [DataW.weights, hu])
      exact Nat.le_trans (Nat.mul_le_mul_right _ (Nat.le_add_right _ _)) this
    · simp only [DataW.weights, hu, List.mem_cons, List.mem_append]
      exact Or.inr (Or.inl (wall_mem hd hk))
  ag := fun {t fs parts} hu h j ty d h1 h2 k hk => h k (by
    rw [DataW.weights, hu]
    exact DataW.weights_mem_each h1 h2 k hk)
section
variable {H : Type} {enc : TypeId × Value → H} {W : World} {m : Nat} {cs : List Value} {y : DataW H × List MemPlace}
theorem trod_struct2 {P : Program} {w : World} {base : Nat} {spare : Nat → Bool} {held : Bool} {t : TypeId} {f0 f1 : Field} {fuel : Nat} {cs : List Value} {x : DataW H × List MemPlace} (ht : P.underlying t = some (.struct #[f0, f1])) (h : DataW.trod enc P w base spare held fuel t cs = some x) :
    ∃ y0 y1 n, x.1 = .agg [y0.1, y1.1] ∧ cs.length = P.cellsOf t ∧ DataW.trod enc P w base spare held n f0.type ((cs.drop f0.offset).take (P.cellsOf f0.type)) = some y0 ∧
      DataW.trod enc P w base spare held n f1.type ((cs.drop f1.offset).take (P.cellsOf f1.type)) = some y1 := by
  obtain ⟨xs, n, _, rfl, hl, hlen, hf⟩ := DataW.trod_struct ht h
  match xs, hlen with
  | [y0, y1], _ => exact ⟨y0, y1, n, by simp, hl, by simpa using hf 0 f0 rfl, by simpa using hf 1 f1 rfl⟩
set_option maxRecDepth 100000 in
theorem k_paint (hB : (bndW H).B 74 y.1) (h : DataW.trod enc Try.prog W 0 (fun _ => true) true m 74 cs = some y) : ∃ a : Pa, cs = paf a ∧ (a.nm.size ≤ maxLen ∧ a.cl.size ≤ 140737488355328) := by
  obtain ⟨y0, y1, q, hy, hl, g0, g1⟩ := trod_struct2 Try.underlying74 h
  rw [cellsPa] at hl
  match cs, hl with
  | [z0, z1], _ =>
    simp only [cells9o] at g0 g1
    obtain ⟨x0, f0, _, s0⟩ := DataW.trod_string Try.underlying9 g0
    obtain ⟨x1, f1, e1, _⟩ := DataW.trod_string Try.underlying9 g1
    simp at f0 f1
    subst f0 f1
    refine ⟨⟨x0, x1⟩, rfl, s0, ?_⟩
    have h9 := (bndW H).ag Try.underlying74 (hy ▸ hB) 1 _ _ rfl rfl
    rw [e1] at h9
    have h8 : x1.data.toList.length ≤ reachBytes := h9 x1.data.toList.length (List.mem_singleton.2 rfl)
    have r : reachBytes = 140737488351232 := rfl
    have e9 : x1.data.toList.length = x1.size := Array.length_toList
    show x1.size ≤ _
    omega
set_option maxRecDepth 100000 in
theorem k_nodeN (hB : (bndW H).B 50 y.1) (h : DataW.trod enc Try.prog W 0 (fun _ => true) true m 50 cs = some y) : ∃ a : Nd, cs = nf a ∧ a.nm.size ≤ 140737488355328 := by
  obtain ⟨y0, y1, y2, y3, y4, y5, y6, q, hy, hl, g0, g1, g2, g3, g4, g5, g6⟩ := trod_struct7 Try.underlying50 h
  rw [cellsNd] at hl
  match cs, hl with
  | [z0, z1, z2, z3, z4, z5, z6], _ =>
    simp only [cells9o, cells4o, cells3o] at g0 g1 g2 g3 g4 g5 g6
    obtain ⟨x0, f0, e0, _⟩ := DataW.trod_string Try.underlying9 g0
    obtain ⟨x1, f1, _⟩ := DataW.trod_bool Try.underlying4 g1
    obtain ⟨x2, f2, _, _⟩ := DataW.trod_string Try.underlying9 g2
    obtain ⟨x3, f3, _, _⟩ := DataW.trod_int Try.underlying3 g3
    obtain ⟨x4, f4, _, _⟩ := DataW.trod_int Try.underlying3 g4
    obtain ⟨x5, f5, _, _⟩ := DataW.trod_int Try.underlying3 g5
    obtain ⟨x6, f6, _, _⟩ := DataW.trod_int Try.underlying3 g6
    simp at f0 f1 f2 f3 f4 f5 f6
    subst f0 f1 f2 f3 f4 f5 f6
    refine ⟨⟨x0, x1, x2, x3, x4, x5, x6⟩, rfl, ?_⟩
    have h9 := (bndW H).ag Try.underlying50 (hy ▸ hB) 0 _ _ rfl rfl
    rw [e0] at h9
    have h8 : x0.data.toList.length ≤ reachBytes := h9 x0.data.toList.length (List.mem_singleton.2 rfl)
    have r : reachBytes = 140737488351232 := rfl
    have e9 : x0.data.toList.length = x0.size := Array.length_toList
    show x0.size ≤ _
    omega
end
set_option maxRecDepth 100000 in
theorem open_nodesN {H : Type} {enc : TypeId × Value → H} {W : World} {base : Nat} {v : Value} {d : DataW H} {p : List MemPlace} (hB : (bndW H).B 26 d) (hv : Value.okWide Try.prog W .any base 26 v) (h : DataW.Trod enc Try.prog W 0 (fun _ => true) true 26 v d p) :
    ∃ t : List Nd, Ns W v t ∧ Sm t ∧ ∀ x ∈ t, x.nm.size ≤ 140737488355328 := by
  obtain ⟨fuel, hf⟩ := h
  obtain ⟨a, l, c, rfl⟩ := okWide_slice Try.underlying26 hv
  obtain ⟨E, e1, e2, e3, _⟩ := open_flat nf 7 (by decide) nf_len ndd (fun x => x.nm.size ≤ 140737488355328) (bndW H) (v := .slice a l c) Try.underlying26 cellsNd hB (fun m cs y hy hb => k_nodeN hb hy) hf
  have r : reachBytes = 140737488351232 := rfl
  rw [bytesNd] at e2
  exact ⟨E, e1, by show E.length * 72 + 4096 ≤ _; omega, e3⟩
set_option maxRecDepth 100000 in
theorem open_paints {H : Type} {enc : TypeId × Value → H} {W : World} {base : Nat} {v : Value} {d : DataW H} {p : List MemPlace} (hB : (bndW H).B 23 d) (hv : Value.okWide Try.prog W .any base 23 v) (h : DataW.Trod enc Try.prog W 0 (fun _ => true) true 23 v d p) :
    ∃ l : List Pa, Pl W v l ∧ l.length * 32 ≤ 140737488355328 ∧ ∀ x ∈ l, x.nm.size ≤ maxLen ∧ x.cl.size ≤ 140737488355328 := by
  obtain ⟨fuel, hf⟩ := h
  obtain ⟨a, l, c, rfl⟩ := okWide_slice Try.underlying23 hv
  obtain ⟨E, e1, e2, e3, _⟩ := open_flat paf 2 (by decide) paf_len paz (fun x => x.nm.size ≤ maxLen ∧ x.cl.size ≤ 140737488355328) (bndW H) (v := .slice a l c) Try.underlying23 cellsPa hB (fun m cs y hy hb => k_paint hb hy) hf
  have r : reachBytes = 140737488351232 := rfl
  rw [bytesPa] at e2
  exact ⟨E, e1, by omega, e3⟩
theorem cellsSS : Try.prog.cellsOf 22 = 1 := by kernel_rfl
theorem cellsSM : Try.prog.cellsOf 23 = 1 := by kernel_rfl
theorem cellsLn : Try.prog.cellsOf 25 = 2 := by kernel_rfl
theorem bytesSt : Try.prog.bytesOf 9 = 16 := by kernel_rfl
set_option maxRecDepth 100000 in
theorem k_str {H : Type} {enc : TypeId × Value → H} {W : World} {m : Nat} {cs : List Value} {y : DataW H × List MemPlace} (hB : (bndW H).B 9 y.1) (h : DataW.trod enc Try.prog W 0 (fun _ => true) true m 9 cs = some y) : ∃ a : ByteArray, cs = sf a ∧ a.size ≤ 140737488355328 := by
  have hl : ∃ z, cs = [z] := by
    obtain ⟨x0, f0, _, _⟩ := DataW.trod_string Try.underlying9 h
    exact ⟨_, f0⟩
  obtain ⟨z, rfl⟩ := hl
  obtain ⟨x0, f0, e0, _⟩ := DataW.trod_string Try.underlying9 h
  simp at f0
  subst f0
  refine ⟨x0, rfl, ?_⟩
  rw [e0] at hB
  have h8 : x0.data.toList.length ≤ reachBytes := hB x0.data.toList.length (List.mem_singleton.2 rfl)
  have r : reachBytes = 140737488351232 := rfl
  have e9 : x0.data.toList.length = x0.size := Array.length_toList
  omega
set_option maxRecDepth 100000 in
/-- Lines that came in. -/
theorem open_lines {H : Type} {enc : TypeId × Value → H} {W : World} {base : Nat} {v : Value} {d : DataW H} {p : List MemPlace} (hB : (bndW H).B 25 d) (hv : Value.okWide Try.prog W .any base 25 v) (h : DataW.Trod enc Try.prog W 0 (fun _ => true) true 25 v d p) :
    ∃ va vb F M, v = .agg #[va, vb] ∧ Ss W va F ∧ Pl W vb M ∧ F.length * 16 ≤ 140737488355328 ∧ M.length * 32 ≤ 140737488355328 ∧ (∀ x ∈ F, x.size ≤ 140737488355328) ∧ (∀ x ∈ M, x.nm.size ≤ maxLen ∧ x.cl.size ≤ 140737488355328) := by
  obtain ⟨parts, rfl, hsz⟩ := okWide_struct Try.underlying25 hv
  rw [cellsLn] at hsz
  obtain ⟨fuel, hf⟩ := h
  match parts, hsz with
  | ⟨[c0, c1]⟩, _ =>
    obtain ⟨y0, y1, q, hy, hl, g0, g1⟩ := trod_struct2 Try.underlying25 hf
    have hd : d = .agg [y0.1, y1.1] := hy
    rw [hd] at hB
    have hb0 := (bndW H).ag Try.underlying25 hB 0 _ y0.1 rfl rfl
    have hb1 := (bndW H).ag Try.underlying25 hB 1 _ y1.1 rfl rfl
    simp [cellsSS, cellsSM] at g0 g1
    obtain ⟨l, e1, e2, e3, _⟩ := open_flat sf 1 (by decide) sf_len ⟨#[]⟩ (fun x => x.size ≤ 140737488355328) (bndW H) (v := c0) Try.underlying22 cells9o hb0 (fun m cs y hy hb => k_str hb hy) g0
    obtain ⟨k, k1, k2, k3, _⟩ := open_flat paf 2 (by decide) paf_len paz (fun x => x.nm.size ≤ maxLen ∧ x.cl.size ≤ 140737488355328) (bndW H) (v := c1) Try.underlying23 cellsPa hb1 (fun m cs y hy hb => k_paint hb hy) g1
    have r : reachBytes = 140737488351232 := rfl
    rw [bytesSt] at e2
    rw [bytesPa] at k2
    exact ⟨c0, c1, l, k, rfl, e1, k1, by omega, by omega, e3, k3⟩
theorem str_small {H : Type} {s : ByteArray} {d : DataW H} (hB : (bndW H).B 9 d) (e : d = .lit (.string s.data.toList)) : s.size ≤ 140737488355328 := by
  subst e
  have h8 : s.data.toList.length ≤ reachBytes := hB s.data.toList.length (List.mem_singleton.2 rfl)
  have r : reachBytes = 140737488351232 := rfl
  have e9 : s.data.toList.length = s.size := Array.length_toList
  omega
end Go.Proofs.Yticheeacbajeeaa
namespace Go.Proofs.Yticheeacbajeeaa
open Go.ChangeShapes Go.WideShapes Go.ChangeAt Go.RowKit
open Go.ChangeMaps (open_string shut_string)
open Go.Joins Go.Deep

theorem bulk_pos {H : Type} (d : DataW H) : 1 ≤ Rows.uptoBulk d := by
  cases d with
  | lit l => cases l <;> simp [Rows.uptoBulk]
  | _ => simp [Rows.uptoBulk]
theorem bulk_len {H : Type} : ∀ l : List (DataW H), l.length ≤ Rows.uptoBulkAll l
  | [] => by simp
  | d :: l => by have := bulk_len l; have := bulk_pos d; simp only [Rows.uptoBulkAll, List.length_cons]; omega
theorem bulk_mem {H : Type} {d : DataW H} : ∀ {l : List (DataW H)}, d ∈ l → Rows.uptoBulk d ≤ Rows.uptoBulkAll l
  | [], h => by cases h
  | e :: l, h => by
    simp only [Rows.uptoBulkAll]
    rcases List.mem_cons.1 h with rfl | h
    · omega
    · have := bulk_mem h; omega
/-- What is of small bulk, of the types at hand. -/
def bndU (H : Type) : Bnd H where
  B t d := Rows.uptoBulk d ≤ 1048576 ∧ t ∈ [25, 22, 23, 74, 26, 50, 3, 9, 4]
  sl := fun {t e es sp} hu h => by
    obtain ⟨hb, ht⟩ := h
    simp only [Rows.uptoBulk] at hb
    have h1 := bulk_len es
    simp only [List.mem_cons, List.not_mem_nil, or_false] at ht
    have key : Try.prog.bytesOf e ≤ 72 ∧ e ∈ [25, 22, 23, 74, 26, 50, 3, 9, 4] := by
      rcases ht with rfl | rfl | rfl | rfl | rfl | rfl | rfl | rfl | rfl
      · rw [Try.underlying25] at hu; cases hu
      · rw [Try.underlying22] at hu; cases hu; exact ⟨by rw [bytesSt]; decide, by decide⟩
      · rw [Try.underlying23] at hu; cases hu; exact ⟨by rw [bytesPa]; decide, by decide⟩
      · rw [Try.underlying74] at hu; cases hu
      · rw [Try.underlying26] at hu; cases hu; exact ⟨by rw [bytesNd]; decide, by decide⟩
      · rw [Try.underlying50] at hu; cases hu
      · rw [Try.underlying3] at hu; cases hu
      · rw [Try.underlying9] at hu; cases hu
      · rw [Try.underlying4] at hu; cases hu
    refine ⟨?_, fun d hd => ⟨?_, key.2⟩⟩
    · have h2 : es.length * Try.prog.bytesOf e ≤ 1048576 * 72 := Nat.mul_le_mul (by omega) key.1
      exact Nat.le_trans h2 (by decide)
    · have := bulk_mem hd; omega
  ag := fun {t fs parts} hu h j ty d h1 h2 => by
    obtain ⟨hb, ht⟩ := h
    simp only [Rows.uptoBulk] at hb
    refine ⟨by have := bulk_mem (List.mem_of_getElem? h2); omega, ?_⟩
    simp only [List.mem_cons, List.not_mem_nil, or_false] at ht
    have key : ∀ y ∈ fs.toList.map (·.type), y ∈ [25, 22, 23, 74, 26, 50, 3, 9, 4] := by
      rcases ht with rfl | rfl | rfl | rfl | rfl | rfl | rfl | rfl | rfl
      · rw [Try.underlying25] at hu; cases hu; decide
      · rw [Try.underlying22] at hu; cases hu
      · rw [Try.underlying23] at hu; cases hu
      · rw [Try.underlying74] at hu; cases hu; decide
      · rw [Try.underlying26] at hu; cases hu
      · rw [Try.underlying50] at hu; cases hu; decide
      · rw [Try.underlying3] at hu; cases hu
      · rw [Try.underlying9] at hu; cases hu
      · rw [Try.underlying4] at hu; cases hu
    exact key ty (List.mem_of_getElem? h1)
theorem str_bulk {H : Type} {x : ByteArray} (h : Rows.uptoBulk (DataW.lit (.string x.data.toList) : DataW H) ≤ 1048576) : x.size ≤ 1048576 := by
  simp only [Rows.uptoBulk] at h
  have e9 : x.data.toList.length = x.size := Array.length_toList
  omega
section
variable {H : Type} {enc : TypeId × Value → H} {W : World} {m : Nat} {cs : List Value} {y : DataW H × List MemPlace}
set_option maxRecDepth 100000 in
theorem k_paintZ (hB : (bndU H).B 74 y.1) (h : DataW.trod enc Try.prog W 0 (fun _ => true) true m 74 cs = some y) : ∃ a : Pa, cs = paf a ∧ (a.nm.size ≤ maxLen ∧ a.cl.size ≤ 140737488355328) := by
  obtain ⟨y0, y1, q, hy, hl, g0, g1⟩ := trod_struct2 Try.underlying74 h
  rw [cellsPa] at hl
  match cs, hl with
  | [z0, z1], _ =>
    simp only [cells9o] at g0 g1
    obtain ⟨x0, f0, _, s0⟩ := DataW.trod_string Try.underlying9 g0
    obtain ⟨x1, f1, e1, _⟩ := DataW.trod_string Try.underlying9 g1
    simp at f0 f1
    subst f0 f1
    refine ⟨⟨x0, x1⟩, rfl, s0, ?_⟩
    have h9 := (bndU H).ag Try.underlying74 (hy ▸ hB) 1 _ _ rfl rfl
    rw [e1] at h9
    have h8 := str_bulk h9.1
    show x1.size ≤ _
    omega
set_option maxRecDepth 100000 in
theorem k_nodeNZ (hB : (bndU H).B 50 y.1) (h : DataW.trod enc Try.prog W 0 (fun _ => true) true m 50 cs = some y) : ∃ a : Nd, cs = nf a ∧ a.nm.size ≤ 140737488355328 := by
  obtain ⟨y0, y1, y2, y3, y4, y5, y6, q, hy, hl, g0, g1, g2, g3, g4, g5, g6⟩ := trod_struct7 Try.underlying50 h
  rw [cellsNd] at hl
  match cs, hl with
  | [z0, z1, z2, z3, z4, z5, z6], _ =>
    simp only [cells9o, cells4o, cells3o] at g0 g1 g2 g3 g4 g5 g6
    obtain ⟨x0, f0, e0, _⟩ := DataW.trod_string Try.underlying9 g0
    obtain ⟨x1, f1, _⟩ := DataW.trod_bool Try.underlying4 g1
    obtain ⟨x2, f2, _, _⟩ := DataW.trod_string Try.underlying9 g2
    obtain ⟨x3, f3, _, _⟩ := DataW.trod_int Try.underlying3 g3
    obtain ⟨x4, f4, _, _⟩ := DataW.trod_int Try.underlying3 g4
    obtain ⟨x5, f5, _, _⟩ := DataW.trod_int Try.underlying3 g5
    obtain ⟨x6, f6, _, _⟩ := DataW.trod_int Try.underlying3 g6
    simp at f0 f1 f2 f3 f4 f5 f6
    subst f0 f1 f2 f3 f4 f5 f6
    refine ⟨⟨x0, x1, x2, x3, x4, x5, x6⟩, rfl, ?_⟩
    have h9 := (bndU H).ag Try.underlying50 (hy ▸ hB) 0 _ _ rfl rfl
    rw [e0] at h9
    have h8 := str_bulk h9.1
    show x0.size ≤ _
    omega
end
set_option maxRecDepth 100000 in
theorem open_nodesNZ {H : Type} {enc : TypeId × Value → H} {W : World} {base : Nat} {v : Value} {d : DataW H} {p : List MemPlace} (hB : (bndU H).B 26 d) (hv : Value.okWide Try.prog W .any base 26 v) (h : DataW.Trod enc Try.prog W 0 (fun _ => true) true 26 v d p) :
    ∃ t : List Nd, Ns W v t ∧ Sm t ∧ ∀ x ∈ t, x.nm.size ≤ 140737488355328 := by
  obtain ⟨fuel, hf⟩ := h
  obtain ⟨a, l, c, rfl⟩ := okWide_slice Try.underlying26 hv
  obtain ⟨E, e1, e2, e3, _⟩ := open_flat nf 7 (by decide) nf_len ndd (fun x => x.nm.size ≤ 140737488355328) (bndU H) (v := .slice a l c) Try.underlying26 cellsNd hB (fun m cs y hy hb => k_nodeNZ hb hy) hf
  have r : reachBytes = 140737488351232 := rfl
  rw [bytesNd] at e2
  exact ⟨E, e1, by show E.length * 72 + 4096 ≤ _; omega, e3⟩
set_option maxRecDepth 100000 in
theorem k_strZ {H : Type} {enc : TypeId × Value → H} {W : World} {m : Nat} {cs : List Value} {y : DataW H × List MemPlace} (hB : (bndU H).B 9 y.1) (h : DataW.trod enc Try.prog W 0 (fun _ => true) true m 9 cs = some y) : ∃ a : ByteArray, cs = sf a ∧ a.size ≤ 140737488355328 := by
  have hl : ∃ z, cs = [z] := by
    obtain ⟨x0, f0, _, _⟩ := DataW.trod_string Try.underlying9 h
    exact ⟨_, f0⟩
  obtain ⟨z, rfl⟩ := hl
  obtain ⟨x0, f0, e0, _⟩ := DataW.trod_string Try.underlying9 h
  simp at f0
  subst f0
  refine ⟨x0, rfl, ?_⟩
  rw [e0] at hB
  have h8 := str_bulk hB.1
  omega
set_option maxRecDepth 100000 in
/-- Lines that came in. -/
theorem open_linesZ {H : Type} {enc : TypeId × Value → H} {W : World} {base : Nat} {v : Value} {d : DataW H} {p : List MemPlace} (hB : (bndU H).B 25 d) (hv : Value.okWide Try.prog W .any base 25 v) (h : DataW.Trod enc Try.prog W 0 (fun _ => true) true 25 v d p) :
    ∃ va vb F M, v = .agg #[va, vb] ∧ Ss W va F ∧ Pl W vb M ∧ F.length * 16 ≤ 140737488355328 ∧ M.length * 32 ≤ 140737488355328 ∧ (∀ x ∈ F, x.size ≤ 140737488355328) ∧ (∀ x ∈ M, x.nm.size ≤ maxLen ∧ x.cl.size ≤ 140737488355328) := by
  obtain ⟨parts, rfl, hsz⟩ := okWide_struct Try.underlying25 hv
  rw [cellsLn] at hsz
  obtain ⟨fuel, hf⟩ := h
  match parts, hsz with
  | ⟨[c0, c1]⟩, _ =>
    obtain ⟨y0, y1, q, hy, hl, g0, g1⟩ := trod_struct2 Try.underlying25 hf
    have hd : d = .agg [y0.1, y1.1] := hy
    rw [hd] at hB
    have hb0 := (bndU H).ag Try.underlying25 hB 0 _ y0.1 rfl rfl
    have hb1 := (bndU H).ag Try.underlying25 hB 1 _ y1.1 rfl rfl
    simp [cellsSS, cellsSM] at g0 g1
    obtain ⟨l, e1, e2, e3, _⟩ := open_flat sf 1 (by decide) sf_len ⟨#[]⟩ (fun x => x.size ≤ 140737488355328) (bndU H) (v := c0) Try.underlying22 cells9o hb0 (fun m cs y hy hb => k_strZ hb hy) g0
    obtain ⟨k, k1, k2, k3, _⟩ := open_flat paf 2 (by decide) paf_len paz (fun x => x.nm.size ≤ maxLen ∧ x.cl.size ≤ 140737488355328) (bndU H) (v := c1) Try.underlying23 cellsPa hb1 (fun m cs y hy hb => k_paintZ hb hy) g1
    have r : reachBytes = 140737488351232 := rfl
    rw [bytesSt] at e2
    rw [bytesPa] at k2
    exact ⟨c0, c1, l, k, rfl, e1, k1, by omega, by omega, e3, k3⟩
end Go.Proofs.Yticheeacbajeeaa
