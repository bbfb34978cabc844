import Derived.Test.YtcfmpmhdjkchjaaTsi
import Derived.Test.YtcfmpmhdjkchjaaTsj
import Derived.Test.YtcfmpmhdjkchjaaTsk
import Derived.Test.YtcfmpmhdjkchjaaTlw
namespace Go.Proofs.Ytcfmpmhdjkchjaa
open Go.RowKit Go.Maps

theorem krt_fst (t : List Nd) : krt (kns t) = fst0 t := by
  unfold krt fst0
  cases h : rt (kds t) with
  | none => simp [kns, h]
  | some k =>
    rw [kns_len ⟨k, h⟩]
    have h1 := rt_le _ _ h
    rw [kds_len] at h1
    cases k with
    | zero =>
      have h2 : t.length = 0 := by
        rcases Nat.eq_zero_or_pos t.length with h2 | h2
        · exact h2
        · have := rt_pos h (by rw [kds_len]; exact h2); omega
      rw [if_pos h2]
    | succ k => rw [if_neg (by omega)]
theorem pos_fst (t : List Nd) : Pos t (fst0 t) := by
  unfold fst0
  cases h : rt (kds t) with
  | none => exact Or.inl ⟨by simp [kns, h], rfl⟩
  | some k =>
    have h1 := rt_le _ _ h
    rw [kds_len] at h1
    cases k with
    | zero =>
      have h2 : t.length = 0 := by
        rcases Nat.eq_zero_or_pos t.length with h2 | h2
        · exact h2
        · have := rt_pos h (by rw [kds_len]; exact h2); omega
      exact Or.inl ⟨List.length_eq_zero_iff.1 (by rw [kns_len ⟨0, h⟩]; exact h2), rfl⟩
    | succ k => exact Or.inr ⟨⟨_, h⟩, 0, rfl, by omega⟩
/-- A block that stood ahead of the cursor's forest is written into. -/
theorem Md.off {B : Nat} {w0 W W' : World} {t : List Nd} {m g : Nat} {x : Int} (h : Md B w0 W t m x) (hg : W.grownBy W' (some g)) (hlt : g < B) : ∃ w0', Md B w0' W' t m x := by
  obtain ⟨h1, h2, h3, ad, k, cp, h4, h5⟩ := h
  have hgl : g < W'.heap.size := by have := hg.size; have := h3.size; omega
  refine ⟨{ w0 with heap := w0.heap.setIfInBounds g (W'.heap[g]'hgl) }, by simpa using h1, by simpa using h2, ⟨by rw [hg.os, h3.os], by rw [hg.tape, h3.tape], by rw [hg.output, h3.output], by have := hg.size; have := h3.size; simp; omega, fun j hj => ?_⟩, ad, k, cp, ?_, ?_⟩
  · have hj' : j < w0.heap.size := by simpa using hj
    by_cases e : g = j
    · subst e
      rw [Array.getElem?_setIfInBounds_self_of_lt hj', Array.getElem?_eq_getElem hgl]
    · rw [Array.getElem?_setIfInBounds_ne e, hg.block j (by have := h3.size; omega) (fun e' => e (Option.some.inj e').symm), h3.block j hj']
  · rw [hg.block m (lt_of_heap h4) (fun e => by cases e; omega)]; exact h4
  · rcases h5 with ⟨q1, q2⟩ | q
    · refine Or.inl ⟨q1, q2.keep (by simp) fun b hb hbl => ⟨?_, hb⟩⟩
      rw [Array.getElem?_setIfInBounds_ne (by omega)]
    · exact Or.inr q
def mm1 : Nd := ⟨⟨#[]⟩, false, ⟨#[]⟩, 0, 0, -1, 0⟩
theorem nfs_set (x : Nd) : ∀ (L : List Nd) (k : Nat), k < L.length → (((((((flat nf L).set (k * 7) (.string x.nm)).set (k * 7 + 1) (.bool x.nd)).set (k * 7 + 2) (.string x.fd)).set (k * 7 + 3) (.int .i64 x.fr)).set (k * 7 + 4) (.int .i64 x.tt)).set (k * 7 + 5) (.int .i64 x.kd)).set (k * 7 + 6) (.int .i64 x.lf) = flat nf (L.set k x)
  | [], _, h => by cases h
  | y :: L, 0, _ => rfl
  | y :: L, k + 1, h => by
    have ih := nfs_set x L k (by simpa using h)
    have e1 : flat nf (y :: L) = nf y ++ flat nf L := rfl
    have e2 : flat nf ((y :: L).set (k + 1) x) = nf y ++ flat nf (L.set k x) := rfl
    rw [e1, e2, ← ih]
    have hl : (nf y).length = 7 := rfl
    simp only [show (k + 1) * 7 = 7 + k * 7 by omega, Nat.add_assoc]
    rw [List.set_append_right _ _ (by omega), List.set_append_right _ _ (by omega), List.set_append_right _ _ (by omega), List.set_append_right _ _ (by omega), List.set_append_right _ _ (by omega), List.set_append_right _ _ (by omega), List.set_append_right _ _ (by omega), hl]
    simp only [show ∀ z, 7 + z - 7 = z from fun z => by omega]
def put7 (W : World) (g k : Nat) (x : Nd) : World :=
  ((((((W.setCell ⟨g, k * 7, none⟩ (.string x.nm)).setCell ⟨g, k * 7 + 1, none⟩ (.bool x.nd)).setCell ⟨g, k * 7 + 2, none⟩ (.string x.fd)).setCell ⟨g, k * 7 + 3, none⟩ (.int .i64 x.fr)).setCell ⟨g, k * 7 + 4, none⟩ (.int .i64 x.tt)).setCell ⟨g, k * 7 + 5, none⟩ (.int .i64 x.kd)).setCell ⟨g, k * 7 + 6, none⟩ (.int .i64 x.lf)
theorem put7_grown (W : World) (g k : Nat) (x : Nd) : W.grownBy (put7 W g k x) (some g) := by
  unfold put7
  exact (((((grown_set.trans grown_set).trans grown_set).trans grown_set).trans grown_set).trans grown_set).trans grown_set
theorem own_put {W : World} {B g n cap k : Nat} {L : List Nd} (h : W.ownsRow B 33 7 (.slice (some ⟨g, 0, none⟩) n cap) n (flat nf L)) (hk : k < L.length) (x : Nd) : (put7 W g k x).ownsRow B 33 7 (.slice (some ⟨g, 0, none⟩) n cap) n (flat nf (L.set k x)) := by
  have h1 := row_set (row_set (row_set (row_set (row_set (row_set (row_set h (k * 7) (.string x.nm)) (k * 7 + 1) (.bool x.nd)) (k * 7 + 2) (.string x.fd)) (k * 7 + 3) (.int .i64 x.fr)) (k * 7 + 4) (.int .i64 x.tt)) (k * 7 + 5) (.int .i64 x.kd)) (k * 7 + 6) (.int .i64 x.lf)
  rw [nfs_set x L k hk] at h1
  exact h1
/-- Nodes with room behind: the first of them. -/
theorem own_ns {W : World} {B g n cap : Nat} {L : List Nd} (h : W.ownsRow B 33 7 (.slice (some ⟨g, 0, none⟩) (n + 2) cap) (n + 2) (flat nf L)) (hl : L.length = n + 2) : Ns W (.slice (some ⟨g, 0, none⟩) n cap) (L.take n) ∧ (L.take n).length = n := by
  obtain ⟨a, g', o, cap', e, h3, h4, h5, h6⟩ := row_rw h (by decide)
  obtain ⟨rfl, -, rfl⟩ := Value.slice.inj e
  have hn : (L.take n).length = n := by rw [List.length_take]; omega
  refine ⟨?_, hn⟩
  unfold Ns
  rw [hn]
  refine ⟨_, g', o, cap, rfl, by omega, fun h => (by cases h), fun _ => h5 (by omega), fun j u hu => h6 j u ?_⟩
  rw [← List.take_append_drop n L, flat_app, List.getElem?_append_left (List.getElem?_eq_some_iff.1 hu).1]
  exact hu
theorem own_cells {W : World} {B g n cap : Nat} {L : List Nd} (h : W.ownsRow B 33 7 (.slice (some ⟨g, 0, none⟩) (n + 2) cap) (n + 2) (flat nf L)) (hl : L.length = n + 2) (i : Nat) (hi : i < n) : ∀ j, j < 7 → ∃ u, W.cell? ⟨g, i * 7 + j, none⟩ = some u := fun j hj => by
  have h1 := flat_get nf_len ndd L i j (by omega) hj
  obtain ⟨u, hu⟩ : ∃ u, (nf (L.getD i ndd))[j]? = some u := ⟨_, List.getElem?_eq_getElem (by rw [nf_len]; exact hj)⟩
  rw [hu] at h1
  exact ⟨u, row_at h _ _ h1⟩
theorem Rw.int {W : World} {a : Option Addr} {n cap : Nat} {l : List Int} (h : Rw W (.slice a n cap) n (iC l)) (i : Nat) (hi : i < l.length) (hn : 0 < n) : ∃ g o, a = some ⟨g, o, none⟩ ∧ ∀ W', Below W.heap.size W W' → W'.cell? ⟨g, o + i, none⟩ = some (.int .i64 (l.getD i 0)) := by
  obtain ⟨g, o, c, e, hc⟩ := h.place hn
  obtain ⟨rfl, -, -⟩ := Value.slice.inj e
  exact ⟨g, o, rfl, fun W' hW => below_cell hW (hc i _ (iC_get l i hi))⟩
end Go.Proofs.Ytcfmpmhdjkchjaa
