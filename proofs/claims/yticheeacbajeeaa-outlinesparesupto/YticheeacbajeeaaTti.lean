import Derived.Test.YticheeacbajeeaaTkd
namespace Go.Proofs.Yticheeacbajeeaa
open Go.RowKit Go.Maps

/-- A knot: parent, behind. -/
def kf (x : Int × Int) : List Value := [.int .i64 x.1, .int .i64 x.2]
def knd : Int × Int := (0, 0)
theorem kf_len (x : Int × Int) : (kf x).length = 2 := rfl
theorem flat_set {α : Type} {f : α → List Value} (l : List α) (i : Nat) (x : α) (n j : Nat) (v : Value) (hf : ∀ x, (f x).length = n) (hi : i < l.length) (d : α) (hj : j < n) (hx : (f (l.getD i d)).set j v = f x) : (flat f l).set (i * n + j) v = flat f (l.set i x) := by
  induction l generalizing i with
  | nil => simp at hi
  | cons y l ih =>
    cases i with
    | zero =>
      show (f y ++ flat f l).set _ _ = f x ++ flat f l
      rw [Nat.zero_mul, Nat.zero_add, List.set_append_left _ _ (by rw [hf]; exact hj)]
      congr 1
    | succ i =>
      show (f y ++ flat f l).set _ _ = f y ++ flat f (l.set i x)
      rw [List.set_append_right _ _ (by rw [hf, Nat.succ_mul]; omega), hf, show (i + 1) * n + j - n = i * n + j by rw [Nat.succ_mul]; omega, ih i (by simpa using hi) hx]
/-- The knots of a list. -/
def kns (t : List Nd) : List (Int × Int) := match rt (kds t) with
  | none => []
  | some _ => (List.range t.length).map fun c => (pl (kds t) c, ((eA (kds t) c : Nat) : Int))
/-- And when of that node some children are tied. -/
def pm (l : List Int) (p x c : Nat) : Int := if (p : Int) < pl l c then pl l c else if pl l c = (p : Int) ∧ c < x then (p : Int) else -1
theorem pm_at {l : List Int} (h : Fo l) {p i k : Nat} (hk : Ch l p i k) : pm l p (eA l k) k = (p : Int) := by
  unfold pm
  rw [pl_ch h hk, if_neg (by omega), if_pos ⟨rfl, (hk.in h).2.2.2.2.1⟩]
theorem pm_step {l : List Int} (h : Fo l) {p i k c : Nat} (hk : Ch l p i k) (hc : c < l.length) (hne : c ≠ k) : pm l p (eA l k) c = pm l p k c := by
  unfold pm
  by_cases h1 : (p : Int) < pl l c
  · rw [if_pos h1, if_pos h1]
  · rw [if_neg h1, if_neg h1]
    by_cases h2 : pl l c = (p : Int)
    · rcases pl_is h c hc with ⟨h3, _⟩ | ⟨q, j, h3, _, h4⟩
      · omega
      · have : q = p := by omega
        subst this
        obtain ⟨hq, hj, hw⟩ := h4
        obtain ⟨_, hi, hw2⟩ := hk
        have s := (h.step q hq).2.2.1
        have hn := h.next (q + 1) i (by omega)
        rw [hw2] at hn
        rcases Nat.lt_trichotomy j i with hl | hl | hl
        · have := h.mono (q + 1) j i (by omega) (by omega) (by omega)
          have := h.mono (q + 1) j (i + 1) (by omega) (by omega) (by omega)
          rw [if_pos ⟨h2, by omega⟩, if_pos ⟨h2, by omega⟩]
        · subst hl; omega
        · have := h.mono (q + 1) (i + 1) j (by omega) (by omega) (by omega)
          have := h.mono (q + 1) i j (by omega) (by omega) (by omega)
          rw [if_neg (by omega), if_neg (by omega)]
    · rw [if_neg (fun e => h2 e.1), if_neg (fun e => h2 e.1)]
theorem set_getD {α : Type} (l : List α) (i j : Nat) (x d : α) (hi : i < l.length) : (l.set i x).getD j d = if j = i then x else l.getD j d := by
  rw [List.getD_eq_getElem?_getD, List.getD_eq_getElem?_getD, List.getElem?_set]
  by_cases h : i = j
  · subst h; simp [hi]
  · rw [if_neg h, if_neg (fun e => h e.symm)]
/-- The knots while they are tied. -/
structure Kt (l : List Int) (K : List (Int × Int)) (n : Nat) (lo : Nat) (f : Nat → Int) : Prop where
  len : K.length = n
  at_ : ∀ c, lo ≤ c → c < n → K.getD c knd = (f c, ((eA l c : Nat) : Int))
theorem Kt.kid {l : List Int} {K : List (Int × Int)} {n p i k : Nat} (h : Fo l) (hl : l.length = n) (hK : Kt l K n (p + 1) (pm l p k)) (hk : Ch l p i k) : Kt l (K.set k ((p : Int), ((eA l k : Nat) : Int))) n (p + 1) (pm l p (eA l k)) := by
  have hkn := (hk.in h).2.1
  refine ⟨by rw [List.length_set]; exact hK.len, fun c hc hcn => ?_⟩
  rw [set_getD _ _ _ _ _ (by rw [hK.len]; omega)]
  by_cases e : c = k
  · rw [if_pos e, e, pm_at h hk]
  · rw [if_neg e, hK.at_ c hc hcn, pm_step h hk (by omega) e]
theorem kf_get (l : List (Int × Int)) (i : Nat) (h : i < l.length) : (flat kf l)[i * 2]? = some (.int .i64 (l.getD i knd).1) ∧ (flat kf l)[i * 2 + 1]? = some (.int .i64 (l.getD i knd).2) :=
  ⟨flat_get kf_len knd l i 0 h (by decide), flat_get kf_len knd l i 1 h (by decide)⟩
/-- Knots of the call's own. -/
abbrev Ok (B : Nat) (W : World) (g n : Nat) (K : List (Int × Int)) : Prop := W.ownsRow B 0 2 (.slice (some ⟨g, 0, none⟩) n n) n (flat kf K)
theorem row_froz {W : World} {B : Nat} {e : TypeId} {size n m g cap : Nat} {xs : List Value} (h : W.ownsRow B e size (.slice (some ⟨g, 0, none⟩) n cap) m xs) (k : Nat) : W.frozen? ⟨g, k, none⟩ = false := by
  obtain ⟨_, cur, hh⟩ := row_tag h g rfl
  exact Lib.frozen_of_heap hh k
theorem Ok.par {B : Nat} {W : World} {g n : Nat} {K : List (Int × Int)} (h : Ok B W g n K) (hK : K.length = n) (c : Nat) (hc : c < n) (z : Int) : Ok B (W.setCell ⟨g, c * 2, none⟩ (.int .i64 z)) g n (K.set c (z, (K.getD c knd).2)) := by
  have := row_set h (c * 2) (.int .i64 z)
  unfold Ok
  rw [← flat_set (f := kf) K c (z, (K.getD c knd).2) 2 0 (.int .i64 z) kf_len (by omega) knd (by decide) rfl]
  exact this
theorem Ok.put {B : Nat} {W : World} {g n : Nat} {K : List (Int × Int)} (h : Ok B W g n K) (hK : K.length = n) (c : Nat) (hc : c < n) (z y : Int) : Ok B ((W.setCell ⟨g, c * 2, none⟩ (.int .i64 z)).setCell ⟨g, c * 2 + 1, none⟩ (.int .i64 y)) g n (K.set c (z, y)) := by
  have h1 := h.par hK c hc z
  have := row_set h1 (c * 2 + 1) (.int .i64 y)
  have e : (K.set c (z, (K.getD c knd).2)).set c (z, y) = K.set c (z, y) := by rw [List.set_set]
  unfold Ok
  rw [← e, ← flat_set (f := kf) (K.set c (z, (K.getD c knd).2)) c (z, y) 2 1 (.int .i64 y) kf_len (by rw [List.length_set]; omega) knd (by decide) (by rw [set_getD _ _ _ _ _ (by omega), if_pos rfl]; rfl)]
  exact this
end Go.Proofs.Yticheeacbajeeaa
