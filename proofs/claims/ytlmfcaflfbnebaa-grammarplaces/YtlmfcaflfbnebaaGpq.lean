import Derived.Test.YtlmfcaflfbnebaaGpp
namespace Go.Proofs.Ytlmfcaflfbnebaa
open Go.RowKit Go.Maps

/-- A row with marks: its block, its room, its list. -/
abbrev Mb := Nat × Nat × List Int
def mv (m : Mb) : Value := .slice (some ⟨m.1, 0, none⟩) m.2.2.length m.2.1
def shp (m : Mb) : Nat × Nat × Nat := (m.1, m.2.1, m.2.2.length)
def sv (s : Nat × Nat × Nat) : Value := .slice (some ⟨s.1, 0, none⟩) s.2.2 s.2.1
theorem mv_shp (M : List Mb) : M.map mv = (M.map shp).map sv := by rw [List.map_map]; rfl
theorem mv_of_shp {M M' : List Mb} (h : M'.map shp = M.map shp) : M'.map mv = M.map mv := by rw [mv_shp, mv_shp, h]
structure MR (B : Nat) (W : World) (M : List Mb) : Prop where
  r : ∀ m ∈ M, Rm B W m.1 m.2.1 m.2.2
  d : ∀ (i j : Nat) (m m' : Mb), M[i]? = some m → M[j]? = some m' → m.1 = m'.1 → i = j
section
variable {B B' : Nat} {W W' : World} {M : List Mb} {g k : Nat} {l : List Int}
theorem Rm.lt (h : Rm B W g k l) : g < W.heap.size := by obtain ⟨_, cur, hh⟩ := row_tag h g rfl; exact lt_of_heap hh
theorem Rm.ge (h : Rm B W g k l) : B ≤ g := (row_tag h g rfl).1
theorem Rm.up (h : Rm B W g k l) (hb : Below W.heap.size W W') : Rm B W' g k l := row_up h hb
theorem Rm.base (h : Rm B W g k l) (hb : B' ≤ B) : Rm B' W g k l := row_base h hb
theorem Rm.rw (h : Rm B W g k l) : Rw W (mv (g, k, l)) l.length (iC l) := by
  have c := row_cap h
  refine ⟨_, g, 0, k, rfl, by omega, fun h => (by cases h), fun _ => rfl, fun j u hu => ?_⟩
  rw [Nat.zero_add]
  exact row_at h j u (by rw [List.getElem?_append_left (List.getElem?_eq_some_iff.1 hu).1]; exact hu)
theorem MR.nil (B : Nat) (W : World) : MR B W [] := ⟨fun _ h => (by cases h), fun i j m m2 h => (by simp at h)⟩
theorem MR.up (h : MR B W M) (hb : Below W.heap.size W W') : MR B W' M := ⟨fun m hm => (h.r m hm).up hb, h.d⟩
theorem MR.snoc (h : MR B W M) (hb : Below W.heap.size W W') (hB : B ≤ W.heap.size) (hr : Rm W.heap.size W' g k l) : MR B W' (M ++ [(g, k, l)]) := by
  have hge := hr.ge
  have hlt : ∀ (i : Nat) (m : Mb), M[i]? = some m → m.1 < W.heap.size := fun i m hm => (h.r m (List.mem_of_getElem? hm)).lt
  have hcase : ∀ (i : Nat) (m : Mb), (M ++ [(g, k, l)])[i]? = some m → M[i]? = some m ∨ (i = M.length ∧ m = (g, k, l)) := fun i m hm => by
    rcases Nat.lt_or_ge i M.length with hi | hi
    · rw [List.getElem?_append_left hi] at hm; exact .inl hm
    · rw [List.getElem?_append_right hi] at hm
      rcases hd : i - M.length with _ | n
      · rw [hd] at hm; exact .inr ⟨by omega, (Option.some.inj hm).symm⟩
      · rw [hd] at hm; simp at hm
  refine ⟨fun m hm => ?_, fun i j m m' hm hm' e => ?_⟩
  · rcases List.mem_append.1 hm with hm | hm
    · exact (h.r m hm).up hb
    · obtain rfl := List.mem_singleton.1 hm; exact hr.base hB
  · rcases hcase i m hm with h1 | ⟨h1, rfl⟩
    · rcases hcase j m' hm' with h2 | ⟨h2, rfl⟩
      · exact h.d i j m m' h1 h2 e
      · have := hlt i m h1
        simp only at e
        omega
    · rcases hcase j m' hm' with h2 | ⟨h2, rfl⟩
      · have := hlt j m' h2
        simp only at e
        omega
      · omega
theorem MR.grown {v : Value} {n : Nat} {xs : List Value} (h : MR B W M) (hr : W.ownsRow B' 22 1 v n xs) (hg : W.grownBy W' v.ownBlock) : MR B W' M :=
  ⟨fun m hm => World.ownsRow.kept (h.r m hm) hg (tag_ne (h.r m hm) hr (by decide)), h.d⟩
theorem MR.box {T j : Nat} {u : Value} {cs : Array Value} (h : MR B W M) (hb : W.heap[T]? = some (.cells cs 25 (0, 0))) : MR B (W.setCell ⟨T, j, none⟩ u) M :=
  ⟨fun m hm => (row_off hb (h.r m hm) (by decide)).1, h.d⟩
theorem iC_set (l : List Int) (j : Nat) (x : Int) : iC (l.set j x) = (iC l).set j (.int .i64 x) := by unfold iC; rw [List.map_set]
theorem MR.set {i j : Nat} {x : Int} (h : MR B W M) (hi : M[i]? = some (g, k, l)) (hj : j < l.length) : MR B (W.setCell ⟨g, j, none⟩ (.int .i64 x)) (M.set i (g, k, l.set j x)) := by
  have hlen : i < M.length := (List.getElem?_eq_some_iff.1 hi).1
  have hcase : ∀ (a : Nat) (m : Mb), (M.set i (g, k, l.set j x))[a]? = some m → (a = i ∧ m = (g, k, l.set j x)) ∨ (a ≠ i ∧ M[a]? = some m) := fun a m hm => by
    by_cases ha : i = a
    · subst ha
      rw [List.getElem?_set_self hlen] at hm
      exact .inl ⟨rfl, (Option.some.inj hm).symm⟩
    · rw [List.getElem?_set_ne ha] at hm
      exact .inr ⟨fun e => ha e.symm, hm⟩
  refine ⟨fun m hm => ?_, fun a b m m' hm hm' e => ?_⟩
  · obtain ⟨a, ha⟩ := List.mem_iff_getElem?.1 hm
    rcases hcase a m ha with ⟨rfl, rfl⟩ | ⟨hne, ha⟩
    · have h1 := row_set (h.r _ (List.mem_of_getElem? hi)) j (.int .i64 x)
      simp only at h1
      unfold Rm
      rw [iC_set, List.length_set, ← List.set_append_left _ _ (by rw [iC_len]; omega)]
      exact h1
    · have h2 := h.r m (List.mem_of_getElem? ha)
      refine World.ownsRow.kept h2 grown_set (.inr fun e => ?_)
      have e1 : m.1 = g := by simpa [Value.ownBlock] using e
      exact hne (h.d a i m _ ha hi e1)
  · rcases hcase a m hm with ⟨rfl, rfl⟩ | ⟨h1, h2⟩
    · rcases hcase b m' hm' with ⟨rfl, rfl⟩ | ⟨h3, h4⟩
      · rfl
      · exact h.d a b _ m' hi h4 e
    · rcases hcase b m' hm' with ⟨rfl, rfl⟩ | ⟨h3, h4⟩
      · exact h.d a b m _ h2 hi e
      · exact h.d a b m m' h2 h4 e
end
/-- The spots that the rows are. -/
theorem MR.sp {B : Nat} {W : World} {M : List Mb} {u : Nat → Value} {vn : Value} (h : MR B W M) (hu : ∀ k, k < 8 → (M.map mv)[k]? = some (u k)) {n : Nat} (hn : M.length = 8 + n) (hr : W.ownsRow B 22 1 vn n ((M.drop 8).map mv)) :
    Sp W u vn (fun k => (M.getD k (0, 0, [])).2.2) ((M.drop 8).map (·.2.2)) ((M.drop 8).map mv) := by
  have hl : ((M.drop 8).map (·.2.2)).length = n := by rw [List.length_map, List.length_drop]; omega
  refine ⟨fun k hk => ?_, ?_, by rw [List.length_map, List.length_map], fun j x l hx hl => ?_⟩
  · have hk2 : k < M.length := by omega
    have e := hu k hk
    rw [List.getElem?_map, List.getElem?_eq_getElem hk2] at e
    rw [← Option.some.inj e]
    show Rw W (mv M[k]) (M.getD k (0, 0, [])).2.2.length (iC (M.getD k (0, 0, [])).2.2)
    rw [List.getD_eq_getElem?_getD, List.getElem?_eq_getElem hk2]
    exact (h.r _ (List.getElem_mem hk2)).rw
  · rw [hl]; exact row_rw hr (by decide)
  · rw [List.getElem?_map] at hx hl
    obtain ⟨m, hm, rfl⟩ := Option.map_eq_some_iff.1 hx
    rw [hm] at hl
    obtain rfl := Option.some.inj hl
    exact (h.r m (List.mem_of_mem_drop (List.mem_of_getElem? hm))).rw
theorem own_new {W : World} {B H n : Nat} {cs : Array Value} {e : TypeId} (h : W.heap[H]? = some (.cells cs e (0, 0))) (hB : B ≤ H) (hn : cs.size = n) (hm : n ≤ maxLen) : W.ownsRow B e 1 (.slice (some ⟨H, 0, none⟩) n n) n cs.toList :=
  ⟨by rw [Array.length_toList]; omega, .inr ⟨H, n, cs, rfl, hB, h, Nat.le_refl _, hm, by omega, by rw [List.take_of_length_le (by rw [Array.length_toList]; omega)]⟩⟩
theorem info22 : (Try.prog.info? 22).map (fun i => (i.zero, i.size, i.bytes)) = some (some (.slice none 0 0), 1, 24) := by kernel_rfl
theorem cell_one_new (w : World) (x : Value) (t : TypeId) : ∀ j q, [x][j]? = some q → (w.alloc (.cells #[x] t)).cell? ((⟨w.heap.size, 0, none⟩ : Addr).add j) = some q := by
  intro j u hj
  rw [addPl, Nat.zero_add, Lib.cell_of_heap (heap_new w _)]
  simpa using hj
end Go.Proofs.Ytlmfcaflfbnebaa
