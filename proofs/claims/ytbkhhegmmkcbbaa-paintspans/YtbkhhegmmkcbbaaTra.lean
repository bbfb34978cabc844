import Derived.Test.YtbkhhegmmkcbbaaTtx
namespace Go.Proofs.Ytbkhhegmmkcbbaa
open Go.RowKit Go.Maps

/-- How many nodes the first k trees have, if they are whole. -/
def stx : List Int → Nat → Option Nat
  | _, 0 => some 0
  | [], _ + 1 => none
  | x :: l, k + 1 => if 0 ≤ x then (stx l (k + x.toNat)).map (1 + ·) else none
theorem stx_zero (l : List Int) : stx l 0 = some 0 := by cases l <;> rfl
theorem stx_cons (x : Int) (l : List Int) (k : Nat) : stx (x :: l) (k + 1) = if 0 ≤ x then (stx l (k + x.toNat)).map (1 + ·) else none := rfl
theorem stx_sk : ∀ (l : List Int) (k d : Nat), stx l k = some d → sk l k = d ∧ d ≤ l.length ∧ k ≤ d
  | l, 0, d, h => by rw [stx_zero] at h; cases h; rw [sk_zero]; exact ⟨rfl, Nat.zero_le _, Nat.le_refl _⟩
  | [], k + 1, d, h => by cases h
  | x :: l, k + 1, d, h => by
    rw [stx_cons] at h
    split at h
    · cases hq : stx l (k + x.toNat) with
      | none => rw [hq] at h; cases h
      | some q =>
        rw [hq] at h
        have hd : 1 + q = d := by simpa using h
        obtain ⟨h1, h2, h3⟩ := stx_sk l (k + x.toNat) q hq
        rw [sk_eq, h1, List.length_cons]
        exact ⟨hd, by omega, by omega⟩
    · cases h
theorem stx_add : ∀ (l : List Int) (a b : Nat), stx l (a + b) = (stx l a).bind fun d => (stx (l.drop d) b).map (d + ·)
  | l, 0, b => by
    rw [stx_zero, Nat.zero_add, Option.bind_some, List.drop_zero]
    cases stx l b with
    | none => rfl
    | some d => show some d = some (0 + d); rw [Nat.zero_add]
  | [], a + 1, b => by
    rw [show a + 1 + b = (a + b) + 1 by omega]; rfl
  | x :: l, a + 1, b => by
    rw [show a + 1 + b = (a + b) + 1 by omega, stx_cons, stx_cons]
    by_cases hx : 0 ≤ x
    · rw [if_pos hx, if_pos hx, show a + b + x.toNat = (a + x.toNat) + b by omega, stx_add l (a + x.toNat) b]
      cases stx l (a + x.toNat) with
      | none => rfl
      | some d =>
        show ((stx (l.drop d) b).map (d + ·)).map (1 + ·) = (stx ((x :: l).drop (1 + d)) b).map ((1 + d) + ·)
        rw [Nat.add_comm 1 d, List.drop_succ_cons]
        cases stx (l.drop d) b with
        | none => rfl
        | some e => show some (1 + (d + e)) = some (d + 1 + e); congr 1; omega
    · rw [if_neg hx, if_neg hx]; rfl
theorem stx_big : ∀ (l : List Int) (k : Nat), l.length < k → stx l k = none := fun l k h => by
  cases hq : stx l k with
  | none => rfl
  | some d => obtain ⟨_, h1, h2⟩ := stx_sk l k d hq; omega
theorem stx_some_le {l : List Int} {a b : Nat} (h : stx l a = none) (hab : a ≤ b) : stx l b = none := by
  obtain ⟨c, rfl⟩ : ∃ c, b = a + c := ⟨b - a, by omega⟩
  rw [stx_add, h]; rfl
/-- A forest is all trees. -/
theorem stx_rt : ∀ (l : List Int) (r : Nat), rt l = some r → ∀ k, k ≤ r → stx l k = some (sk l k)
  | l, r, h, 0, hk => by rw [stx_zero, sk_zero]
  | [], r, h, k + 1, hk => by cases h; omega
  | x :: l, r, h, k + 1, hk => by
    obtain ⟨q, hq, h0, h1, rfl⟩ := rt_cons h
    rw [stx_cons, if_pos h0, stx_rt l q hq (k + x.toNat) (by omega), sk_eq]; rfl
/-- A tree's nodes in a row: the node, its children's slice, its place. -/
def tf (t : List Nd) (x : Nat × Value) : List Value := nf (t.getD x.1 ndd) ++ [x.2, .int .i64 (x.1 : Int)]
theorem tf_len (t : List Nd) (x : Nat × Value) : (tf t x).length = 9 := rfl
/-- The places of k trees from a place on. -/
def pls (l : List Int) (a k : Nat) : List Nat := (List.range k).map (wA l a)
theorem pls_succ (l : List Int) (a k : Nat) : pls l a (k + 1) = pls l a k ++ [wA l a k] := by unfold pls; rw [List.range_succ, List.map_append]; rfl
theorem pls_len (l : List Int) (a k : Nat) : (pls l a k).length = k := by unfold pls; simp
/-- A row in blocks of a kind. -/
def RwP (P : Nat → Prop) (W : World) (v : Value) (n : Nat) (cs : List Value) : Prop :=
  ∃ a g o cap, v = .slice a n cap ∧ n ≤ cap ∧ (a = none → n = 0 ∧ cap = 0) ∧ (0 < n → a = some ⟨g, o, none⟩ ∧ P g ∧ g < W.heap.size) ∧ ∀ j u, cs[j]? = some u → W.cell? ⟨g, o + j, none⟩ = some u
theorem RwP.rw {P : Nat → Prop} {W : World} {v : Value} {n : Nat} {cs : List Value} (h : RwP P W v n cs) : Rw W v n cs := by
  obtain ⟨a, g, o, cap, e, h1, h2, h3, h4⟩ := h
  exact ⟨a, g, o, cap, e, h1, h2, fun h => (h3 h).1, h4⟩
theorem RwP.keep {P Q : Nat → Prop} {W W' : World} {v : Value} {n s : Nat} {cs : List Value} (h : RwP P W v n cs) (hl : cs.length = n * s) (hs : W.heap.size ≤ W'.heap.size) (hk : ∀ g, P g → g < W.heap.size → W'.heap[g]? = W.heap[g]? ∧ Q g) : RwP Q W' v n cs := by
  obtain ⟨a, g, o, cap, e, h1, h2, h3, h4⟩ := h
  refine ⟨a, g, o, cap, e, h1, h2, fun hn => ⟨(h3 hn).1, (hk g (h3 hn).2.1 (h3 hn).2.2).2, Nat.lt_of_lt_of_le (h3 hn).2.2 hs⟩, fun j u hu => ?_⟩
  have hn : 0 < n := by
    have := (List.getElem?_eq_some_iff.1 hu).1
    rcases Nat.eq_zero_or_pos n with h | h
    · subst h; omega
    · exact h
  have h5 := h4 j u hu
  have h6 := (hk g (h3 hn).2.1 (h3 hn).2.2).1
  unfold World.cell? at h5 ⊢
  rw [h6]; exact h5
/-- A tree in memory: the slice of its children; its rows lie in blocks of a kind. -/
inductive TrM (P : Nat → Prop) (W : World) (t : List Nd) : Nat → Value → Prop
  | mk (a : Nat) (v : Value) (fs : List (Nat × Value)) (h1 : fs.map Prod.fst = pls (kds t) (a + 1) (kA (kds t) a)) (h2 : RwP P W v fs.length (flat (tf t) fs)) (h3 : ∀ x, x ∈ fs → TrM P W t x.1 x.2) : TrM P W t a v
theorem TrM.keep {P Q : Nat → Prop} {W W' : World} {t : List Nd} {a : Nat} {v : Value} (h : TrM P W t a v) (hs : W.heap.size ≤ W'.heap.size) (hk : ∀ g, P g → g < W.heap.size → W'.heap[g]? = W.heap[g]? ∧ Q g) : TrM Q W' t a v := by
  induction h with
  | mk a v fs h1 h2 h3 ih => exact TrM.mk a v fs h1 (h2.keep (flat_len (tf_len t) fs) hs hk) ih
theorem TrM.up {P : Nat → Prop} {W W' : World} {t : List Nd} {a : Nat} {v : Value} (h : TrM P W t a v) (hb : Below W.heap.size W W') : TrM P W' t a v :=
  h.keep hb.size fun g hp hg => ⟨hb.block g hg, hp⟩
theorem TrM.form {P : Nat → Prop} {W : World} {t : List Nd} {a : Nat} {v : Value} (h : TrM P W t a v) : ∃ ad n cp, v = .slice ad n cp := by
  cases h with
  | mk a v fs h1 h2 h3 => obtain ⟨ad, g, o, cap, e, _⟩ := h2; exact ⟨ad, _, cap, e⟩
theorem infoTr : (Try.prog.info? 112).map (fun i => (i.zero, i.size, i.bytes)) = some (some (.agg #[.string ⟨#[]⟩, .bool false, .string ⟨#[]⟩, .int .i64 0, .int .i64 0, .int .i64 0, .int .i64 0, .slice none 0 0, .int .i64 0]), 9, 104) := by kernel_rfl
def tA (x : Nd) (v : Value) (a : Int) : Array Value := #[.string x.nm, .bool x.nd, .string x.fd, .int .i64 x.fr, .int .i64 x.tt, .int .i64 x.kd, .int .i64 x.lf, v, .int .i64 a]
/-- What take answers. -/
def Tkr (B : Nat) (W : World) (t : List Nd) (a : Nat) (r : Value) : Prop := match stx ((kds t).drop a) 1 with
  | some d => ∃ v, r = .tuple #[.agg (tA (t.getD a ndd) v (a : Int)), .int .i64 ((a + d : Nat) : Int), .bool true] ∧ TrM (fun g => B ≤ g) W t a v
  | none => r = .tuple #[.agg (tA ndd (.slice none 0 0) 0), .int .i64 (a : Int), .bool false]
end Go.Proofs.Ytbkhhegmmkcbbaa
