import Derived.Test.YtcfmpmhdjkchjabTsd
namespace Go.Proofs.Ytcfmpmhdjkchjab
open Go.RowKit Go.Maps

/-- Trees in a row: k trees from the place a on. -/
def FrM (P : Nat → Prop) (W : World) (t : List Nd) (v : Value) (a k : Nat) : Prop :=
  ∃ fs : List (Nat × Value), fs.map Prod.fst = pls (kds t) a k ∧ RwP P W v k (flat (tf t) fs) ∧ ∀ z ∈ fs, TrM P W t z.1 z.2
theorem FrM.len {t : List Nd} {a k : Nat} {fs : List (Nat × Value)} (h : fs.map Prod.fst = pls (kds t) a k) : fs.length = k := by
  have := congrArg List.length h
  rwa [List.length_map, pls_len] at this
theorem FrM.keep {P Q : Nat → Prop} {W W' : World} {t : List Nd} {v : Value} {a k : Nat} (h : FrM P W t v a k) (hs : W.heap.size ≤ W'.heap.size) (hk : ∀ g, P g → g < W.heap.size → W'.heap[g]? = W.heap[g]? ∧ Q g) : FrM Q W' t v a k := by
  obtain ⟨fs, h1, h2, h3⟩ := h
  exact ⟨fs, h1, h2.keep (by rw [flat_len (tf_len t), FrM.len h1]) hs hk, fun z hz => (h3 z hz).keep hs hk⟩
theorem FrM.form {P : Nat → Prop} {W : World} {t : List Nd} {v : Value} {a k : Nat} (h : FrM P W t v a k) : ∃ ad cp, v = .slice ad k cp := by
  obtain ⟨fs, _, h2, _⟩ := h
  exact Rw.form h2.rw
/-- What find answers: the node, its children's row, its place, its parent, whether it is there. -/
def Fnd (P : Nat → Prop) (W : World) (t : List Nd) (a k : Nat) (x p : Int) (y : Nd) (vy : Value) (c pp : Int) (bb : Bool) : Prop :=
  (bb = true ∧ ∃ c' i : Nat, i < k ∧ wA (kds t) a i = c' ∧ x = (c' : Int) ∧ c = (c' : Int) ∧ y = t.getD c' ndd ∧ TrM P W t c' vy ∧ pp = p)
  ∨ (bb = true ∧ ∃ c' : Nat, a ≤ c' ∧ c' < wA (kds t) a k ∧ (∀ i, i < k → wA (kds t) a i ≠ c') ∧ x = (c' : Int) ∧ c = (c' : Int) ∧ y = t.getD c' ndd ∧ TrM P W t c' vy ∧ pp = pl (kds t) c')
  ∨ (bb = false ∧ (x < (a : Int) ∨ (wA (kds t) a k : Int) ≤ x) ∧ y = ndd ∧ vy = .slice none 0 0 ∧ c = 0 ∧ pp = -1)
/-- Found in a tree of the row. -/
theorem Fnd.up {P : Nat → Prop} {W : World} {t : List Nd} {a k i : Nat} {x p : Int} {y : Nd} {vy : Value} {c pp : Int} (hf : Fo (kds t)) (ha : a ≤ (kds t).length) (hk : k ≤ rA (kds t) a) (hi : i < k) (h : Fnd P W t (wA (kds t) a i + 1) (kA (kds t) (wA (kds t) a i)) x (wA (kds t) a i : Nat) y vy c pp true) : Fnd P W t a k x p y vy c pp true := by
  have hb := hf.lt a i ha (by omega)
  have he := hf.eq _ hb
  have hn := hf.next a i (by omega)
  have hm := hf.mono a (i + 1) k ha (by omega) hk
  have hin : ∀ c', wA (kds t) a i < c' → c' < eA (kds t) (wA (kds t) a i) → a ≤ c' ∧ c' < wA (kds t) a k ∧ ∀ j, j < k → wA (kds t) a j ≠ c' := fun c' h1 h2 => by
    have h3 := (hf.end a i ha (by omega)).2.2
    refine ⟨by omega, by omega, fun j hj e => ?_⟩
    rcases Nat.lt_or_ge i j with h4 | h4
    · have := hf.mono a (i + 1) j ha (by omega) (by omega); omega
    · have := hf.mono a j i ha h4 (by omega); omega
  rcases h with ⟨-, c', j, hj, e1, e2, e3, e4, e5, e6⟩ | ⟨-, c', h1, h2, h3, e2, e3, e4, e5, e6⟩ | ⟨h, -⟩
  · have hc : Ch (kds t) (wA (kds t) a i) j c' := ⟨hb, hj, e1⟩
    have hi' := hc.in hf
    obtain ⟨k1, k2, k3⟩ := hin c' hi'.1 hi'.2.2.2.1
    exact Or.inr (Or.inl ⟨rfl, c', k1, k2, k3, e2, e3, e4, e5, by rw [e6, pl_ch hf hc]⟩)
  · rw [← he] at h2
    obtain ⟨k1, k2, k3⟩ := hin c' (by omega) h2
    exact Or.inr (Or.inl ⟨rfl, c', k1, k2, k3, e2, e3, e4, e5, e6⟩)
  · cases h
/-- Not found in a tree of the row. -/
theorem Fnd.out {P : Nat → Prop} {W : World} {t : List Nd} {a k i : Nat} {x p : Int} {y : Nd} {vy : Value} {c pp : Int} (hf : Fo (kds t)) (ha : a ≤ (kds t).length) (hk : k ≤ rA (kds t) a) (hi : i < k) (hx : x < (a : Int) ∨ (wA (kds t) a i : Int) ≤ x) (hne : ¬((wA (kds t) a i : Int) = x)) (h : Fnd P W t (wA (kds t) a i + 1) (kA (kds t) (wA (kds t) a i)) x p y vy c pp false) : x < (a : Int) ∨ (wA (kds t) a (i + 1) : Int) ≤ x := by
  have hb := hf.lt a i ha (by omega)
  have he := hf.eq _ hb
  have hn := hf.next a i (by omega)
  rcases h with ⟨h, -⟩ | ⟨h, -⟩ | ⟨-, h, -⟩
  · cases h
  · cases h
  · rw [← he, ← hn] at h
    omega
end Go.Proofs.Ytcfmpmhdjkchjab
