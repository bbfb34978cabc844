import Derived.Test.YtkjljnneghnpiaaNca
import Derived.Test.YtkjljnneghnpiaaRna
import Derived.Test.YtkjljnneghnpiaaNcb
namespace Go.Proofs.Ytkjljnneghnpiaa
open Go.RowKit Go.Maps

/-- A row of the call's own, of which the first n are shown. -/
def Sh (B : Nat) (W : World) (e : TypeId) (s : Nat) (v : Value) (n len : Nat) (cs : List Value) : Prop :=
  ∃ a cap, v = .slice a n cap ∧ n ≤ len ∧ W.ownsRow B e s (.slice a len cap) len cs
theorem ob_slice (a : Option Addr) (n m cap : Nat) : Value.ownBlock (.slice a n cap) = Value.ownBlock (.slice a m cap) := by cases a <;> rfl
theorem Sh.kept {B : Nat} {W W' : World} {e : TypeId} {s : Nat} {v : Value} {n len : Nat} {cs : List Value} {row : Option Nat} (h : Sh B W e s v n len cs) (hg : W.grownBy W' row) (hr : v.ownBlock = none ∨ v.ownBlock ≠ row) : Sh B W' e s v n len cs := by
  obtain ⟨a, cap, rfl, hn, h⟩ := h
  exact ⟨a, cap, rfl, hn, h.kept hg (by rw [ob_slice a len n cap]; exact hr)⟩
theorem Sh.tag {B : Nat} {W : World} {e : TypeId} {s : Nat} {v : Value} {n len : Nat} {cs : List Value} (h : Sh B W e s v n len cs) : ∀ r, v.ownBlock = some r → B ≤ r ∧ ∃ cur, W.heap[r]? = some (.cells cur e (0, 0)) := by
  obtain ⟨a, cap, rfl, hn, h⟩ := h
  intro r hr
  exact row_tag h r (by rw [ob_slice a len n cap]; exact hr)
theorem Sh.ne {B B' : Nat} {W : World} {e e' : TypeId} {s s' : Nat} {v v' : Value} {n n' len len' : Nat} {cs cs' : List Value} (h : Sh B W e s v n len cs) (h' : Sh B' W e' s' v' n' len' cs') (hne : e ≠ e') : v.ownBlock = none ∨ v.ownBlock ≠ v'.ownBlock := by
  cases hv : v.ownBlock with
  | none => exact .inl rfl
  | some r =>
    refine .inr fun h2 => ?_
    obtain ⟨_, c1, e1⟩ := h.tag r hv
    obtain ⟨_, c2, e2⟩ := h'.tag r h2.symm
    rw [e1] at e2; cases e2; exact hne rfl
theorem Sh.neb {B : Nat} {W : World} {e t : TypeId} {s n len bk : Nat} {v : Value} {cs : List Value} {cur : Array Value} (h : Sh B W e s v n len cs) (hb : W.heap[bk]? = some (.cells cur t (0, 0))) (hne : e ≠ t) : v.ownBlock ≠ some bk := fun e1 => by
  obtain ⟨_, c1, e2⟩ := h.tag bk e1
  rw [hb] at e2; cases e2; exact hne rfl
theorem Sh.full {B : Nat} {W : World} {e : TypeId} {s : Nat} {v : Value} {n : Nat} {cs : List Value} (h : W.ownsRow B e s v n cs) : Sh B W e s v n n cs := by
  rcases h.2 with ⟨rfl, h2⟩ | ⟨g, cap, cur, rfl, _⟩
  · exact ⟨none, 0, by rw [h2], Nat.le_refl _, by subst h2; exact h⟩
  · exact ⟨_, _, rfl, Nat.le_refl _, h⟩
theorem Sh.row {B : Nat} {W : World} {e : TypeId} {s : Nat} {v : Value} {n : Nat} {cs : List Value} (h : Sh B W e s v n n cs) : W.ownsRow B e s v n cs := by
  obtain ⟨a, cap, rfl, _, h⟩ := h; exact h
/-- Two rows in blocks of their own. -/
def dj (a b : Value) : Prop := a.ownBlock = none ∨ b.ownBlock = none ∨ a.ownBlock ≠ b.ownBlock
theorem dj.symm {a b : Value} (h : dj a b) : dj b a := by
  rcases h with h | h | h
  · exact .inr (.inl h)
  · exact .inl h
  · exact .inr (.inr fun e => h e.symm)
theorem dj.k {a b : Value} (h : dj a b) : a.ownBlock = none ∨ a.ownBlock ≠ b.ownBlock := by
  rcases h with h | h | h
  · exact .inl h
  · cases ha : a.ownBlock with
    | none => exact .inl rfl
    | some r => rw [h]; exact .inr (by simp)
  · exact .inr h
abbrev iC (l : List Int) : List Value := l.map (Value.int .i64)
/-- A machine's rows. -/
structure Tr (B : Nat) (W : World) (on : List (Nat → Bool)) (tos : List Int) (fvs : List Value) (frs : List (List Int)) (ns : List Nat) (vo : Value) (no : Nat) (vt : Value) (nt : Nat) (vf : Value) (nf : Nat) : Prop where
  on : Sh B W 40 4 vo no on.length (onC on)
  tos : Sh B W 3 1 vt nt tos.length (iC tos)
  fr : Sh B W 23 1 vf nf fvs.length fvs
  len : fvs.length = frs.length
  lns : fvs.length = ns.length
  el : ∀ i, i < fvs.length → Sh B W 3 1 (fvs.getD i undef) (ns.getD i 0) (frs.getD i []).length (iC (frs.getD i []))
  ap : ∀ i j, i < fvs.length → j < fvs.length → i ≠ j → dj (fvs.getD i undef) (fvs.getD j undef)
  ato : ∀ i, i < fvs.length → dj (fvs.getD i undef) vt
  lB : B ≤ W.heap.size
section
variable {B : Nat} {W W' W2 : World} {on : List (Nat → Bool)} {tos : List Int} {fvs : List Value} {frs : List (List Int)} {ns : List Nat} {vo vt vf : Value} {no nt nf : Nat}
theorem Tr.keep (h : Tr B W on tos fvs frs ns vo no vt nt vf nf) {row : Option Nat} (hg : W.grownBy W' row) (h1 : vo.ownBlock = none ∨ vo.ownBlock ≠ row) (h2 : vt.ownBlock = none ∨ vt.ownBlock ≠ row) (h3 : vf.ownBlock = none ∨ vf.ownBlock ≠ row) (h4 : ∀ i, i < fvs.length → (fvs.getD i undef).ownBlock = none ∨ (fvs.getD i undef).ownBlock ≠ row) : Tr B W' on tos fvs frs ns vo no vt nt vf nf :=
  ⟨h.on.kept hg h1, h.tos.kept hg h2, h.fr.kept hg h3, h.len, h.lns, fun i hi => (h.el i hi).kept hg (h4 i hi), h.ap, h.ato, Nat.le_trans h.lB hg.size⟩
theorem Tr.grown (h : Tr B W on tos fvs frs ns vo no vt nt vf nf) (hg : W.grownBy W' none) : Tr B W' on tos fvs frs ns vo no vt nt vf nf :=
  h.keep hg (by cases vo.ownBlock <;> simp) (by cases vt.ownBlock <;> simp) (by cases vf.ownBlock <;> simp) (fun i _ => by cases (fvs.getD i undef).ownBlock <;> simp)
theorem Tr.below (h : Tr B W on tos fvs frs ns vo no vt nt vf nf) (hb : Below W.heap.size W W') : Tr B W' on tos fvs frs ns vo no vt nt vf nf := h.grown (grown_of_below hb)
theorem Tr.blk (h : Tr B W on tos fvs frs ns vo no vt nt vf nf) {bk : Nat} {cur : Array Value} (hb : W.heap[bk]? = some (.cells cur 26 (0, 0))) (hg : W.grownBy W' (some bk)) : Tr B W' on tos fvs frs ns vo no vt nt vf nf :=
  h.keep hg (.inr (h.on.neb hb (by decide))) (.inr (h.tos.neb hb (by decide))) (.inr (h.fr.neb hb (by decide))) (fun i hi => .inr ((h.el i hi).neb hb (by decide)))
theorem Tr.cell (h : Tr B W on tos fvs frs ns vo no vt nt vf nf) {bk : Nat} {cur : Array Value} (hb : W.heap[bk]? = some (.cells cur 26 (0, 0))) (hg : W.grownBy W' vo.ownBlock ∨ W.grownBy W' vt.ownBlock ∨ W.grownBy W' vf.ownBlock) : W'.heap[bk]? = some (.cells cur 26 (0, 0)) := by
  rcases hg with hg | hg | hg
  · exact (hg.block bk (lt_of_heap hb) (fun e => h.on.neb hb (by decide) e.symm)).trans hb
  · exact (hg.block bk (lt_of_heap hb) (fun e => h.tos.neb hb (by decide) e.symm)).trans hb
  · exact (hg.block bk (lt_of_heap hb) (fun e => h.fr.neb hb (by decide) e.symm)).trans hb
theorem Tr.putOn (h : Tr B W on tos fvs frs ns vo no vt nt vf nf) {on' : List (Nat → Bool)} {vo' : Value} {no' : Nat} (hg : W.grownBy W2 vo.ownBlock) (hr : Sh B W2 40 4 vo' no' on'.length (onC on')) : Tr B W2 on' tos fvs frs ns vo' no' vt nt vf nf :=
  ⟨hr, h.tos.kept hg (h.tos.ne h.on (by decide)), h.fr.kept hg (h.fr.ne h.on (by decide)), h.len, h.lns, fun i hi => (h.el i hi).kept hg ((h.el i hi).ne h.on (by decide)), h.ap, h.ato, Nat.le_trans h.lB hg.size⟩
theorem Tr.putTo (h : Tr B W on tos fvs frs ns vo no vt nt vf nf) {tos' : List Int} {vt' : Value} {nt' : Nat} (hg : W.grownBy W2 vt.ownBlock) (hr : Sh B W2 3 1 vt' nt' tos'.length (iC tos')) (hl : vt'.ownBlock = vt.ownBlock ∨ ∃ r, vt'.ownBlock = some r ∧ W.heap.size ≤ r) : Tr B W2 on tos' fvs frs ns vo no vt' nt' vf nf := by
  refine ⟨h.on.kept hg (h.on.ne h.tos (by decide)), hr, h.fr.kept hg (h.fr.ne h.tos (by decide)), h.len, h.lns, fun i hi => (h.el i hi).kept hg (h.ato i hi).k, h.ap, fun i hi => ?_, Nat.le_trans h.lB hg.size⟩
  rcases hl with e | ⟨r, e, hr⟩
  · have := h.ato i hi
    unfold dj at this ⊢
    rw [e]; exact this
  · cases hv : (fvs.getD i undef).ownBlock with
    | none => exact .inl hv
    | some q =>
      refine .inr (.inr ?_)
      rw [hv, e]
      intro e2
      cases e2
      obtain ⟨_, c, hc⟩ := (h.el i hi).tag _ hv
      have := lt_of_heap hc
      omega
theorem getD_app_lt {α : Type} (l : List α) (x d : α) (i : Nat) (h : i < l.length) : (l ++ [x]).getD i d = l.getD i d := by simp only [List.getD_eq_getElem?_getD, List.getElem?_append_left h]
theorem getD_app_eq {α : Type} (l : List α) (x d : α) : (l ++ [x]).getD l.length d = x := by simp
theorem Tr.putFr (h : Tr B W on tos fvs frs ns vo no vt nt vf nf) {v vf' : Value} {l : List Int} {n nf' : Nat} (hg : W.grownBy W2 vf.ownBlock) (hr : Sh B W2 23 1 vf' nf' (fvs ++ [v]).length (fvs ++ [v])) (hv : Sh B W 3 1 v n l.length (iC l)) (hd : ∀ i, i < fvs.length → dj (fvs.getD i undef) v) (ht : dj v vt) : Tr B W2 on tos (fvs ++ [v]) (frs ++ [l]) (ns ++ [n]) vo no vt nt vf' nf' := by
  have hlen := h.len
  have hlns := h.lns
  have key : ∀ i, i < (fvs ++ [v]).length → (i < fvs.length ∧ (fvs ++ [v]).getD i undef = fvs.getD i undef ∧ (frs ++ [l]).getD i [] = frs.getD i [] ∧ (ns ++ [n]).getD i 0 = ns.getD i 0) ∨ (i = fvs.length ∧ (fvs ++ [v]).getD i undef = v ∧ (frs ++ [l]).getD i [] = l ∧ (ns ++ [n]).getD i 0 = n) := fun i hi => by
    by_cases e : i < fvs.length
    · exact .inl ⟨e, getD_app_lt _ _ _ _ e, getD_app_lt _ _ _ _ (by omega), getD_app_lt _ _ _ _ (by omega)⟩
    · have e0 : i = fvs.length := by simp at hi; omega
      refine .inr ⟨e0, by rw [e0]; exact getD_app_eq _ _ _, by rw [e0, hlen]; exact getD_app_eq _ _ _, by rw [e0, hlns]; exact getD_app_eq _ _ _⟩
  refine ⟨h.on.kept hg (h.on.ne h.fr (by decide)), h.tos.kept hg (h.tos.ne h.fr (by decide)), hr, by simp [hlen], by simp [hlns], fun i hi => ?_, fun i j hi hj hne => ?_, fun i hi => ?_, Nat.le_trans h.lB hg.size⟩
  · rcases key i hi with ⟨e, e1, e2, e3⟩ | ⟨e, e1, e2, e3⟩
    · rw [e1, e2, e3]; exact (h.el i e).kept hg ((h.el i e).ne h.fr (by decide))
    · rw [e1, e2, e3]; exact hv.kept hg (hv.ne h.fr (by decide))
  · rcases key i hi with ⟨e, e1, _⟩ | ⟨e, e1, _⟩ <;> rcases key j hj with ⟨f, f1, _⟩ | ⟨f, f1, _⟩ <;> rw [e1, f1]
    · exact h.ap i j e f hne
    · exact hd i e
    · exact (hd j f).symm
    · omega
  · rcases key i hi with ⟨e, e1, _⟩ | ⟨e, e1, _⟩ <;> rw [e1]
    · exact h.ato i e
    · exact ht
end
end Go.Proofs.Ytkjljnneghnpiaa
namespace Go.Proofs.Ytkjljnneghnpiaa
open Go.RowKit Go.Maps

theorem cell_one_new (w : World) (x : Value) (t : TypeId) : ∀ j v, [x][j]? = some v → (w.alloc (.cells #[x] t)).cell? ((⟨w.heap.size, 0, none⟩ : Addr).add j) = some v := by
  intro j u hj
  rw [addPl, Nat.zero_add, Lib.cell_of_heap (World.alloc_heap_new w _)]
  simpa using hj
/-- The twin under way. -/
structure Tk (w W : World) (vo vt vf : Value) (N : Mc) (on : List (Nat → Bool)) (tos : List Int) (fvs : List Value) (frs : List (List Int)) (ns : List Nat) (xo : Value) (no : Nat) (xt : Value) (nt : Nat) (xf : Value) (nf : Nat) : Prop where
  bel : Below w.heap.size w W
  b0 : W.heap[w.heap.size]? = some (.cells #[vo, vt, vf, .int .i64 N.start, .int .i64 N.fin] 26 (0, 0))
  b1 : W.heap[w.heap.size + 1]? = some (.cells #[.slice none 0 0, .slice none 0 0, .slice none 0 0, .int .i64 0, .int .i64 0] 26 (0, 0))
  b2 : W.heap[w.heap.size + 2]? = some (.cells #[xo, xt, xf, .int .i64 N.start, .int .i64 N.fin] 26 (0, 0))
  tr : Tr w.heap.size W on tos fvs frs ns xo no xt nt xf nf
section
variable {w W W2 : World} {vo vt vf : Value} {N : Mc} {on : List (Nat → Bool)} {tos : List Int} {fvs : List Value} {frs : List (List Int)} {ns : List Nat} {xo xt xf : Value} {no nt nf : Nat}
theorem Tk.below (h : Tk w W vo vt vf N on tos fvs frs ns xo no xt nt xf nf) (hb : Below W.heap.size W W2) : Tk w W2 vo vt vf N on tos fvs frs ns xo no xt nt xf nf :=
  ⟨below_trans h.bel hb, (hb.block _ (lt_of_heap h.b0)).trans h.b0, (hb.block _ (lt_of_heap h.b1)).trans h.b1, (hb.block _ (lt_of_heap h.b2)).trans h.b2, h.tr.below hb⟩
theorem heap_other {W : World} {b k i : Nat} {v : Value} (h : i ≠ b) : (W.setCell ⟨b, k, none⟩ v).heap[i]? = W.heap[i]? := Below.heap_setCell W ⟨b, k, none⟩ v i (fun e => h (by rw [e]))
theorem Tk.mid (h : Tk w W vo vt vf N on tos fvs frs ns xo no xt nt xf nf) (hg : W.grownBy W2 xo.ownBlock ∨ W.grownBy W2 xt.ownBlock ∨ W.grownBy W2 xf.ownBlock) : Below w.heap.size w W2 ∧ W2.heap[w.heap.size]? = some (.cells #[vo, vt, vf, .int .i64 N.start, .int .i64 N.fin] 26 (0, 0)) ∧ W2.heap[w.heap.size + 1]? = some (.cells #[.slice none 0 0, .slice none 0 0, .slice none 0 0, .int .i64 0, .int .i64 0] 26 (0, 0)) ∧ W2.heap[w.heap.size + 2]? = some (.cells #[xo, xt, xf, .int .i64 N.start, .int .i64 N.fin] 26 (0, 0)) := by
  refine ⟨?_, h.tr.cell h.b0 hg, h.tr.cell h.b1 hg, h.tr.cell h.b2 hg⟩
  rcases hg with hg | hg | hg
  · exact h.bel.trans ((Below.refl _ _).grown hg h.bel.size (fun k e => (h.tr.on.tag k e).1))
  · exact h.bel.trans ((Below.refl _ _).grown hg h.bel.size (fun k e => (h.tr.tos.tag k e).1))
  · exact h.bel.trans ((Below.refl _ _).grown hg h.bel.size (fun k e => (h.tr.fr.tag k e).1))
theorem Tk.fin (hb : Below w.heap.size w W2) (h0 : W2.heap[w.heap.size]? = some (.cells #[vo, vt, vf, .int .i64 N.start, .int .i64 N.fin] 26 (0, 0))) (h1 : W2.heap[w.heap.size + 1]? = some (.cells #[.slice none 0 0, .slice none 0 0, .slice none 0 0, .int .i64 0, .int .i64 0] 26 (0, 0))) {cur : Array Value} (h2 : W2.heap[w.heap.size + 2]? = some (.cells cur 26 (0, 0))) (ht : Tr w.heap.size W2 on tos fvs frs ns xo no xt nt xf nf) (k : Nat) (v : Value) (hc : cur.setIfInBounds k v = #[xo, xt, xf, .int .i64 N.start, .int .i64 N.fin]) :
    Tk w (W2.setCell ⟨w.heap.size + 2, k, none⟩ v) vo vt vf N on tos fvs frs ns xo no xt nt xf nf :=
  ⟨hb.setCell (p := ⟨w.heap.size + 2, k, none⟩) (by show w.heap.size ≤ w.heap.size + 2; omega) _, by rw [heap_other (by omega)]; exact h0, by rw [heap_other (by omega)]; exact h1, by rw [blk_set _ h2, hc], ht.blk h2 grown_set⟩
theorem Tk.on_ (h : Tk w W vo vt vf N on tos fvs frs ns xo no xt nt xf nf) {on' : List (Nat → Bool)} {vo' : Value} {no' : Nat} (hg : W.grownBy W2 xo.ownBlock) (hr : Sh w.heap.size W2 40 4 vo' no' on'.length (onC on')) : Tk w (W2.setCell ⟨w.heap.size + 2, 0, none⟩ vo') vo vt vf N on' tos fvs frs ns vo' no' xt nt xf nf := by
  obtain ⟨m1, m2, m3, m4⟩ := h.mid (.inl hg)
  exact Tk.fin m1 m2 m3 m4 (h.tr.putOn hg hr) 0 vo' rfl
theorem Tk.to_ (h : Tk w W vo vt vf N on tos fvs frs ns xo no xt nt xf nf) {tos' : List Int} {vt' : Value} {nt' : Nat} (hg : W.grownBy W2 xt.ownBlock) (hr : Sh w.heap.size W2 3 1 vt' nt' tos'.length (iC tos')) (hl : vt'.ownBlock = xt.ownBlock ∨ ∃ r, vt'.ownBlock = some r ∧ W.heap.size ≤ r) : Tk w (W2.setCell ⟨w.heap.size + 2, 1, none⟩ vt') vo vt vf N on tos' fvs frs ns xo no vt' nt' xf nf := by
  obtain ⟨m1, m2, m3, m4⟩ := h.mid (.inr (.inl hg))
  exact Tk.fin m1 m2 m3 m4 (h.tr.putTo hg hr hl) 1 vt' rfl
theorem Tk.fr_ (h : Tk w W vo vt vf N on tos fvs frs ns xo no xt nt xf nf) {v vf' : Value} {l : List Int} {n nf' : Nat} (hg : W.grownBy W2 xf.ownBlock) (hr : Sh w.heap.size W2 23 1 vf' nf' (fvs ++ [v]).length (fvs ++ [v])) (hv : Sh w.heap.size W 3 1 v n l.length (iC l)) (hd : ∀ i, i < fvs.length → dj (fvs.getD i undef) v) (ht : dj v xt) : Tk w (W2.setCell ⟨w.heap.size + 2, 2, none⟩ vf') vo vt vf N on tos (fvs ++ [v]) (frs ++ [l]) (ns ++ [n]) xo no xt nt vf' nf' := by
  obtain ⟨m1, m2, m3, m4⟩ := h.mid (.inr (.inr hg))
  exact Tk.fin m1 m2 m3 m4 (h.tr.putFr hg hr hv hd ht) 2 vf' rfl
end
theorem take_snoc {α : Type} (l : List α) (d : α) (i : Nat) (hi : i < l.length) : l.take (i + 1) = l.take i ++ [l.getD i d] := by
  rw [List.take_add_one, List.getD_eq_getElem?_getD, List.getElem?_eq_getElem hi]
  rfl
theorem onC_one {B : Nat} {W : World} {g cap n : Nat} {on : List (Nat → Bool)} {m : Nat → Bool} (hn : on.length = n) (h : W.ownsRow B 40 4 (.slice (some ⟨g, 0, none⟩) (n + 1) cap) (n + 1) (onC on ++ oc m)) : W.ownsRow B 40 4 (.slice (some ⟨g, 0, none⟩) (n + 1) cap) (on ++ [m]).length (onC (on ++ [m])) := by
  rw [onC_app, List.length_append, hn]; simp only [onC, List.append_nil, List.length_cons, List.length_nil, Nat.zero_add]; exact h
end Go.Proofs.Ytkjljnneghnpiaa
