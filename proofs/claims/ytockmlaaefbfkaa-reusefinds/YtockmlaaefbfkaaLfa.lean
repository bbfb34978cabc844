import Derived.Test.YtockmlaaefbfkaaRle
namespace Go.Proofs.Ytockmlaaefbfkaa
open Go.RowKit Go.Maps

theorem flat_setg {α : Type} {f : α → List Value} {n : Nat} (hf : ∀ x, (f x).length = n) (d : α) (j : Nat) (hj : j < n) (u : Value) (y : α) : ∀ (L : List α) (i : Nat), i < L.length → f y = (f (L.getD i d)).set j u → (flat f L).set (i * n + j) u = flat f (L.set i y)
  | [], i, hi, _ => by cases hi
  | x :: L, 0, _, h => by
    show (f x ++ flat f L).set (0 * n + j) u = f y ++ flat f L
    rw [Nat.zero_mul, Nat.zero_add, List.set_append_left _ _ (by rw [hf]; exact hj)]
    have h' : f y = (f x).set j u := h
    rw [h']
  | x :: L, i + 1, hi, h => by
    show (f x ++ flat f L).set ((i + 1) * n + j) u = f x ++ flat f (L.set i y)
    have e : (i + 1) * n + j = n + (i * n + j) := by rw [Nat.add_mul, Nat.one_mul]; omega
    rw [e, List.set_append_right _ _ (by rw [hf]; omega), hf, Nat.add_sub_cancel_left, flat_setg hf d j hj u y L i (by simpa using hi) h]
theorem set_getD {α : Type} (L : List α) (i : Nat) (x d : α) (h : i < L.length) : (L.set i x).getD i d = x := by
  rw [List.getD_eq_getElem?_getD, List.getElem?_set_self h]; rfl
/-- The six cells of a leaf written over. -/
def p6 (W : World) (g i : Nat) (y : Lf) : World := (((((W.setCell ⟨g, i * 6, none⟩ (.int .i64 y.t)).setCell ⟨g, i * 6 + 1, none⟩ (.int .i64 y.p)).setCell ⟨g, i * 6 + 2, none⟩ (.int .i64 y.l)).setCell ⟨g, i * 6 + 3, none⟩ (.int .i64 y.k)).setCell ⟨g, i * 6 + 4, none⟩ (.int .u64 y.v)).setCell ⟨g, i * 6 + 5, none⟩ (.string y.a)
theorem p6_grown (W : World) (g i : Nat) (y : Lf) : W.grownBy (p6 W g i y) (some g) := by
  unfold p6
  exact ((((grown_set.trans grown_set).trans grown_set).trans grown_set).trans grown_set).trans grown_set
theorem flat6 (L : List Lf) (i : Nat) (hi : i < L.length) (y : Lf) : ((((((flat lf L).set (i * 6) (.int .i64 y.t)).set (i * 6 + 1) (.int .i64 y.p)).set (i * 6 + 2) (.int .i64 y.l)).set (i * 6 + 3) (.int .i64 y.k)).set (i * 6 + 4) (.int .u64 y.v)).set (i * 6 + 5) (.string y.a) = flat lf (L.set i y) := by
  obtain ⟨x, hx⟩ : ∃ x, L.getD i lfd = x := ⟨_, rfl⟩
  have h0 := flat_setg lf_len lfd 0 (by decide) (.int .i64 y.t) ⟨y.t, x.p, x.l, x.k, x.v, x.a⟩ L i hi (by rw [hx]; rfl)
  have h1 := flat_setg lf_len lfd 1 (by decide) (.int .i64 y.p) ⟨y.t, y.p, x.l, x.k, x.v, x.a⟩ (L.set i ⟨y.t, x.p, x.l, x.k, x.v, x.a⟩) i (by rw [List.length_set]; exact hi) (by rw [set_getD _ _ _ _ hi]; rfl)
  have h2 := flat_setg lf_len lfd 2 (by decide) (.int .i64 y.l) ⟨y.t, y.p, y.l, x.k, x.v, x.a⟩ ((L.set i ⟨y.t, x.p, x.l, x.k, x.v, x.a⟩).set i ⟨y.t, y.p, x.l, x.k, x.v, x.a⟩) i (by rw [List.length_set, List.length_set]; exact hi) (by rw [set_getD _ _ _ _ (by rw [List.length_set]; exact hi)]; rfl)
  have h3 := flat_setg lf_len lfd 3 (by decide) (.int .i64 y.k) ⟨y.t, y.p, y.l, y.k, x.v, x.a⟩ (L.set i ⟨y.t, y.p, y.l, x.k, x.v, x.a⟩) i (by rw [List.length_set]; exact hi) (by rw [set_getD _ _ _ _ hi]; rfl)
  have h4 := flat_setg lf_len lfd 4 (by decide) (.int .u64 y.v) ⟨y.t, y.p, y.l, y.k, y.v, x.a⟩ (L.set i ⟨y.t, y.p, y.l, y.k, x.v, x.a⟩) i (by rw [List.length_set]; exact hi) (by rw [set_getD _ _ _ _ hi]; rfl)
  have h5 := flat_setg lf_len lfd 5 (by decide) (.string y.a) y (L.set i ⟨y.t, y.p, y.l, y.k, y.v, x.a⟩) i (by rw [List.length_set]; exact hi) (by rw [set_getD _ _ _ _ hi]; rfl)
  rw [List.set_set] at h5 h4 h3
  rw [List.set_set, List.set_set] at h2
  rw [Nat.add_zero] at h0
  rw [List.set_set] at h1
  rw [h0, h1, h2, h3, h4, h5]
theorem Ln.put {B : Nat} {W : World} {g cap : Nat} {L : List Lf} (h : Ln B W g cap L) (i : Nat) (hi : i < L.length) (y : Lf) : Ln B (p6 W g i y) g cap (L.set i y) := by
  have h1 := row_set (row_set (row_set (row_set (row_set (row_set h.r (i * 6) (.int .i64 y.t)) (i * 6 + 1) (.int .i64 y.p)) (i * 6 + 2) (.int .i64 y.l)) (i * 6 + 3) (.int .i64 y.k)) (i * 6 + 4) (.int .u64 y.v)) (i * 6 + 5) (.string y.a)
  rw [flat6 _ _ (by rw [List.length_append]; omega)] at h1
  refine ⟨?_⟩
  rw [List.length_set]
  rw [List.set_append_left _ _ hi] at h1
  exact h1
theorem Ln.at {B : Nat} {W : World} {g cap : Nat} {L : List Lf} (h : Ln B W g cap L) (i : Nat) (hi : i < L.length) : Lc g (i * 6) (L.getD i lfd) W := by
  have hb : i < (L ++ mks 20).length := by rw [List.length_append]; omega
  have e : (L ++ mks 20).getD i lfd = L.getD i lfd := by rw [List.getD_eq_getElem?_getD, List.getElem?_append_left hi, List.getD_eq_getElem?_getD]
  have f : ∀ j, j < 6 → (flat lf (L ++ mks 20))[i * 6 + j]? = (lf (L.getD i lfd))[j]? := fun j hj => by rw [flat_get lf_len lfd _ _ _ hb hj, e]
  exact ⟨row_at h.r _ _ (f 0 (by decide)), row_at h.r _ _ (f 1 (by decide)), row_at h.r _ _ (f 2 (by decide)), row_at h.r _ _ (f 3 (by decide)), row_at h.r _ _ (f 4 (by decide)), row_at h.r _ _ (f 5 (by decide))⟩
theorem Ln.froz {B : Nat} {W : World} {g cap : Nat} {L : List Lf} (h : Ln B W g cap L) (k : Nat) : W.frozen? ⟨g, k, none⟩ = false := by
  obtain ⟨_, cs, hc⟩ := h.blk
  exact Lib.frozen_of_heap hc k
theorem Mo.off {B p g : Nat} {W W' : World} {v : Value} {L : List Lf} {A D I : Int} (h : Mo B W p v L A D I) (hb : g < B) (hw : W.grownBy W' (some g)) : Mo B W' p v L A D I := by
  refine ⟨(hw.block p (lt_of_heap h.h) (fun e => ?_)).trans h.h, h.r.kept hw ?_, h.pb⟩
  · have := h.pb
    have := Option.some.inj e
    omega
  · cases hv : v.ownBlock with
    | none => exact .inl rfl
    | some r =>
      refine .inr fun e => ?_
      have h1 := (row_tag h.r r hv).1
      have := Option.some.inj e
      omega
/-- A question. -/
abbrev Ak := Int × ByteArray × Int
def af (x : Ak) : List Value := [.int .i64 x.1, .string x.2.1, .int .u64 x.2.2]
theorem af_len (x : Ak) : (af x).length = 3 := rfl
def akd : Ak := (0, ⟨#[]⟩, 0)
def Ac (g o : Nat) (x : Ak) (V : World) : Prop := V.cell? ⟨g, o, none⟩ = some (.int .i64 x.1) ∧ V.cell? ⟨g, o + 1, none⟩ = some (.string x.2.1) ∧ V.cell? ⟨g, o + 2, none⟩ = some (.int .u64 x.2.2)
theorem Rw.ask {W : World} {a : Option Addr} {n cap : Nat} {l : List Ak} (h : Rw W (.slice a n cap) n (flat af l)) (hn : l.length = n) (i : Nat) (hi : i < n) : ∃ g o, a = some ⟨g, o, none⟩ ∧ ∀ W', Below W.heap.size W W' → Ac g (o + i * 3) (l.getD i akd) W' := by
  obtain ⟨g, o, c, e, hc⟩ := h.place (by omega)
  obtain ⟨rfl, -, -⟩ := Value.slice.inj e
  have hi' : i < l.length := by omega
  refine ⟨g, o, rfl, fun W' hW => ⟨?_, ?_, ?_⟩⟩
  · exact below_cell hW (hc _ _ (flat_get af_len akd l i 0 hi' (by decide)))
  · rw [Nat.add_assoc]; exact below_cell hW (hc _ _ (flat_get af_len akd l i 1 hi' (by decide)))
  · rw [Nat.add_assoc]; exact below_cell hW (hc _ _ (flat_get af_len akd l i 2 hi' (by decide)))
end Go.Proofs.Ytockmlaaefbfkaa
