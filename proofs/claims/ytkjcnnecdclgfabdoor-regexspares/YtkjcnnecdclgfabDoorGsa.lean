import Derived.Test.YtkjcnnecdclgfabDoorGpi
import Derived.OwnWalk
import Derived.ArgAppend
namespace Go.Proofs.YtkjcnnecdclgfabDoor
open Go.RowKit Go.Shelf

/-! The rows that RegexSpares spoils. -/
theorem own_form' {w : World} {base e z : Nat} {v : Value} {n : Nat} {xs : List Value} (h : w.ownsRow base e z v n xs) (hn : 0 < n) :
    ∃ g cap, v = .slice (some ⟨g, 0, none⟩) n cap ∧ base ≤ g ∧ g < w.heap.size := by
  obtain ⟨g, cap, e, _, h1, h2⟩ := own_form h hn
  exact ⟨g, cap, e, h1, h2⟩
theorem ownsRow_le' {w : World} {base base' size n : Nat} {e : TypeId} {v : Value} {xs : List Value} (h : w.ownsRow base e size v n xs) (hb : base' ≤ base) : w.ownsRow base' e size v n xs := by
  obtain ⟨h1, h2⟩ := h
  refine ⟨h1, ?_⟩
  rcases h2 with h2 | ⟨g, cap, cur, e1, e2, e3⟩
  · exact .inl h2
  · exact .inr ⟨g, cap, cur, e1, Nat.le_trans hb e2, e3⟩
/-- An append, told in its two ways: in the row's own block, or in a new one and nothing old has turned. -/
theorem wpList_append_two {P : Program} (w : World) {ops : Array Oper} {rest : List Oper} {o : Oper} {a : Act} {Q : Exit → Act → World → Prop} (hgd : o.guard = none) (s x : Operand) (t : TypeId)
    (ho : o.op = .call { callee := .builtin .append, args := #[s, x], argTypes := #[t, t] })
    (base : Nat) (e : TypeId) (i : TypeInfo) (z : Value) (size bytes : Nat) (ht : P.underlying t = some (.slice e)) (hi : P.info? e = some i) (hz : i.zero = some z)
    (hsize : i.size = size) (hby : i.bytes = bytes) (hzs : z.cells.size = size) (hsz : 0 < size)
    (v : Value) (n : Nat) (xs : List Value) (hs : a.eval s = v) (hown : w.ownsRow base e size v n xs)
    (ad : Addr) (m c : Nat) (news : List Value) (hx : a.eval x = .slice (some ad) m c) (hm : 0 < m) (hl : news.length = m * size) (hnews : ∀ j u, news[j]? = some u → w.cell? (ad.add j) = some u) (h1 : ∀ u ∈ news, u.oneCell' = true)
    (h63 : n + m ≤ maxLen) (hbytes : (n + m) * bytes ≤ 140737488355328) (hbase : base ≤ w.heap.size)
    (h : ∀ v' w', w'.ownsRow base e size v' (n + m) (xs ++ news) → ((∃ g, v.ownBlock = some g ∧ v'.ownBlock = some g ∧ w.grownBy w' (some g)) ∨ (∃ g, v'.ownBlock = some g ∧ w.heap.size ≤ g ∧ w.grownBy w' none)) → wpList P ops Q rest (a.put o.dst v') w') :
    wpList P ops Q (o :: rest) a w := by
  have hg : ∀ (ao : Option Addr) (cap : Nat), v = .slice ao n cap → cap < n + m → (ao = none → n = 0 ∧ cap = 0) → (∀ b, ao = some b → ∀ j u, xs[j]? = some u → w.cell? (b.add j) = some u) → wpList P ops Q (o :: rest) a w := by
    intro ao cap hv hf hnn hol
    refine wpList_append_grows w hgd s x t ho e i z size bytes ht hi hz hsize hby hzs hsz ao n cap xs (hs.trans hv) hnn hown.1 hol ad m c news hx hl hnews h1 hf h63 hbytes (fun v' w' r1 r2 => ?_)
    obtain ⟨g, cap', e1, e2, e3⟩ := own_form' r1 (by omega)
    refine h v' w' (ownsRow_le' r1 hbase) (Or.inr ⟨g, by rw [e1]; rfl, e2, r2⟩)
  rcases hown.2 with ⟨hv, hn0⟩ | ⟨g, cap, cur, hv, hb, hgc, hcap, hmx, hcs, htk⟩
  · subst hn0
    exact hg none 0 hv (by omega) (fun _ => ⟨rfl, rfl⟩) (fun b hb => by cases hb)
  · by_cases hr : n + m ≤ cap
    · rw [hv] at hown hs
      refine wpList_append_fits w hgd s x t ho base e i size ht hi hsize g n cap xs hs hown ad m c news hx hl hnews h1 hr (fun w' r1 r2 => ?_)
      exact h _ w' r1 (Or.inl ⟨g, by rw [hv]; rfl, rfl, r2⟩)
    · refine hg (some ⟨g, 0, none⟩) cap hv (by omega) (fun h => by cases h) (fun b hb j u hu => ?_)
      cases hb
      rw [hv] at hown
      exact hown.cells (g := g) rfl j u hu

theorem blk_set {W : World} {g k : Nat} {cur : Array Value} {e : TypeId} (x : Value) (h : W.heap[g]? = some (.cells cur e (0, 0))) : (W.setCell ⟨g, k, none⟩ x).heap[g]? = some (.cells (cur.setIfInBounds k x) e (0, 0)) := by
  obtain ⟨hlt, hk⟩ := Array.getElem?_eq_some_iff.1 h
  show (W.heap.modify g _)[g]? = _
  rw [Array.getElem?_eq_getElem (by rw [Array.size_modify]; exact hlt), Array.getElem_modify_self, hk]
  rfl
theorem row_set {W : World} {B g n cap : Nat} {e : TypeId} {s : Nat} {xs : List Value} (h : W.ownsRow B e s (.slice (some ⟨g, 0, none⟩) n cap) n xs) (k : Nat) (x : Value) : (W.setCell ⟨g, k, none⟩ x).ownsRow B e s (.slice (some ⟨g, 0, none⟩) n cap) n (xs.set k x) := by
  obtain ⟨hl, h1 | ⟨g', cap', cur, e, h1, h2, h3, h4, h5, h6⟩⟩ := h
  · cases h1.1
  · injection e with e1 e2 e3
    injection e1 with e1
    injection e1 with e1
    subst e1 e3
    refine ⟨by rw [List.length_set]; exact hl, .inr ⟨g, cap, _, rfl, h1, blk_set x h2, h3, h4, ?_, ?_⟩⟩
    · simpa using h5
    · rw [← h6, Array.toList_setIfInBounds, List.take_set]
/-- A node with no class and no second number. -/
def pn (op a : Int) : Nd := ⟨op, fun _ => false, a, 0⟩
theorem nc_pn (op a : Int) : nc (pn op a) = [.int .i64 op, .int .u64 0, .int .u64 0, .int .u64 0, .int .u64 0, .int .i64 a, .int .i64 0] := by
  unfold nc pn
  rw [wd_none, wd_none, wd_none, wd_none]
  rfl
def put7 (W : World) (g k : Nat) (op a : Int) : World :=
  ((((((W.setCell ⟨g, k * 7, none⟩ (.int .i64 op)).setCell ⟨g, k * 7 + 1, none⟩ (.int .u64 0)).setCell ⟨g, k * 7 + 2, none⟩ (.int .u64 0)).setCell ⟨g, k * 7 + 3, none⟩ (.int .u64 0)).setCell ⟨g, k * 7 + 4, none⟩ (.int .u64 0)).setCell ⟨g, k * 7 + 5, none⟩ (.int .i64 a)).setCell ⟨g, k * 7 + 6, none⟩ (.int .i64 0)
theorem put7_grown (W : World) (g k : Nat) (op a : Int) : W.grownBy (put7 W g k op a) (some g) := by
  unfold put7
  exact grown_trans (grown_trans (grown_trans (grown_trans (grown_trans (grown_trans (grown_set _ _ _ _) (grown_set _ _ _ _)) (grown_set _ _ _ _)) (grown_set _ _ _ _)) (grown_set _ _ _ _)) (grown_set _ _ _ _)) (grown_set _ _ _ _)
theorem ncs_set (op a : Int) : ∀ (L : List Nd) (k : Nat), k < L.length → (((((((ncs L).set (k * 7) (.int .i64 op)).set (k * 7 + 1) (.int .u64 0)).set (k * 7 + 2) (.int .u64 0)).set (k * 7 + 3) (.int .u64 0)).set (k * 7 + 4) (.int .u64 0)).set (k * 7 + 5) (.int .i64 a)).set (k * 7 + 6) (.int .i64 0) = ncs (L.set k (pn op a))
  | [], _, h => by cases h
  | y :: L, 0, _ => by
    have e1 : ncs (y :: L) = nc y ++ ncs L := rfl
    have e2 : ncs ((y :: L).set 0 (pn op a)) = nc (pn op a) ++ ncs L := rfl
    rw [e2, nc_pn, e1]
    rfl
  | y :: L, k + 1, h => by
    have ih := ncs_set op a L k (by simpa using h)
    have e1 : ncs (y :: L) = nc y ++ ncs L := rfl
    have e2 : ncs ((y :: L).set (k + 1) (pn op a)) = nc y ++ ncs (L.set k (pn op a)) := rfl
    rw [e1, e2, ← ih]
    have hs : ∀ (X : List Value) (i : Nat) (u : Value), (nc y ++ X).set ((k + 1) * 7 + i) u = nc y ++ X.set (k * 7 + i) u := fun X i u => by
      have : (nc y).length = 7 := rfl
      rw [List.set_append_right _ _ (by omega), this, show (k + 1) * 7 + i - 7 = k * 7 + i by omega]
    have hs0 : ∀ (X : List Value) (u : Value), (nc y ++ X).set ((k + 1) * 7) u = nc y ++ X.set (k * 7) u := fun X u => hs X 0 u
    rw [hs0, hs, hs, hs, hs, hs, hs]
theorem own_put {W : World} {B g n cap k : Nat} {L : List Nd} (h : W.ownsRow B 38 7 (.slice (some ⟨g, 0, none⟩) n cap) n (ncs L)) (hk : k < L.length) (op a : Int) : (put7 W g k op a).ownsRow B 38 7 (.slice (some ⟨g, 0, none⟩) n cap) n (ncs (L.set k (pn op a))) := by
  have h1 := row_set (row_set (row_set (row_set (row_set (row_set (row_set h (k * 7) (.int .i64 op)) (k * 7 + 1) (.int .u64 0)) (k * 7 + 2) (.int .u64 0)) (k * 7 + 3) (.int .u64 0)) (k * 7 + 4) (.int .u64 0)) (k * 7 + 5) (.int .i64 a)) (k * 7 + 6) (.int .i64 0)
  rw [ncs_set op a L k hk] at h1
  exact h1
theorem take_put {α : Type} (l : List α) (k : Nat) (e : α) (h : k < l.length) : (l.set k e).take (k + 1) = l.take k ++ [e] := by
  rw [List.take_set, List.take_add_one, List.getElem?_eq_getElem h]
  rw [List.set_append_right _ _ (by rw [List.length_take]; omega)]
  rw [List.length_take, Nat.min_eq_left (by omega)]
  simp
def spn (j : Nat) : Nd := pn 9 ((1000 + j : Nat) : Int)
def apn (j : Nat) : Nd := pn 8 ((5000 + j : Nat) : Int)
theorem ne_own {W : World} {B B' n n' z z' e e' : Nat} {v v' : Value} {xs xs' : List Value} (h : W.ownsRow B e z v n xs) (h' : W.ownsRow B' e' z' v' n' xs') (he : e ≠ e') : v.ownBlock = none ∨ v.ownBlock ≠ v'.ownBlock := by
  rcases h'.2 with ⟨rfl, _⟩ | ⟨g, cap, cur, rfl, _, hg, _⟩
  · cases hv : v.ownBlock with
    | none => exact Or.inl rfl
    | some q => exact Or.inr (fun e => by cases e)
  · exact Or.inr (own_ne h hg (Ne.symm he))
/-- The four lists, while they are written over. -/
structure Sp (w W : World) (gL : Nat) (v : Nat → Value) (n : Nat → Nat) (re : List Nd) (lq : Option Addr) (gq cq : Nat) (L : Nat → List Nd) : Prop where
  row : ∀ j, j < 4 → W.ownsRow w.heap.size 38 7 (v j) (n j) (ncs (L j))
  len : ∀ j, j < 4 → (L j).length = n j
  ap : ∀ i j, i < 4 → j < 4 → i ≠ j → (v i).ownBlock = none ∨ (v i).ownBlock ≠ (v j).ownBlock
  lst : W.heap[gL]? = some (.cells #[v 0, v 1, v 2, v 3] 23 (0, 0))
  was : Lst W lq gq 0 cq re
  off : ∀ j, j < 4 → re ≠ [] → (v j).ownBlock ≠ some gq
  bel : Below w.heap.size w W
theorem Lst.grown {W W' : World} {lq : Option Addr} {gq cq : Nat} {re : List Nd} {r : Option Nat} (h : Lst W lq gq 0 cq re) (hg : W.grownBy W' r) (ho : re ≠ [] → r ≠ some gq) : Lst W' lq gq 0 cq re := by
  refine ⟨h.ptr, fun hn => Nat.lt_of_lt_of_le (h.lt hn) hg.size, ?_⟩
  by_cases hn : re = []
  · subst hn
    exact ⟨fun p n s e => by cases p <;> cases e⟩
  · refine NdsAt.of (fun j u hu => ?_)
    exact hg.cell (h.at_.row j u hu) (fun e => ho hn e.symm)
theorem Sp.put {w W : World} {gL : Nat} {v : Nat → Value} {n : Nat → Nat} {re : List Nd} {lq : Option Addr} {gq cq : Nat} {L : Nat → List Nd} (h : Sp w W gL v n re lq gq cq L) {i g cap k : Nat} (hi : i < 4) (hv : v i = .slice (some ⟨g, 0, none⟩) (n i) cap) (hk : k < n i) (op a : Int) :
    Sp w (put7 W g k op a) gL v n re lq gq cq (fun j => if j = i then (L i).set k (pn op a) else L j) := by
  have hb : (v i).ownBlock = some g := by rw [hv]; rfl
  have hG := put7_grown W g k op a
  have hr := h.row i hi
  have hgB : w.heap.size ≤ g := ((h.row i hi).lt g hb).1
  refine ⟨fun j hj => ?_, fun j hj => ?_, h.ap, ?_, h.was.grown hG (fun hn => by rw [← hb]; exact h.off i hi hn), h.off, ?_⟩
  · by_cases hji : j = i
    · subst hji
      rw [if_pos rfl]
      rw [hv] at hr ⊢
      exact own_put hr (by rw [h.len j hj]; exact hk) op a
    · rw [if_neg hji]
      refine (h.row j hj).kept hG ?_
      rw [← hb]
      exact h.ap j i hj hi hji
  · by_cases hji : j = i
    · subst hji
      rw [if_pos rfl, List.length_set]
      exact h.len j hj
    · rw [if_neg hji]
      exact h.len j hj
  · rw [hG.block gL (lt_of_heap h.lst) (fun e => own_ne hr h.lst (by decide) (by rw [hb, e]))]
    exact h.lst
  · exact h.bel.grown hG h.bel.size (fun k e => by cases e; exact hgB)
end Go.Proofs.YtkjcnnecdclgfabDoor
