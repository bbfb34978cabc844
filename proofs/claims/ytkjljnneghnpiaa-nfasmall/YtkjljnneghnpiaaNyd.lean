import Derived.Test.YtkjljnneghnpiaaNye
import Derived.Test.YtkjljnneghnpiaaRnq
import Derived.OwnWalk
import Derived.ArgAppend
import Derived.Test.YtkjljnneghnpiaaNcf
namespace Go.Proofs.Ytkjljnneghnpiaa
open Go.RowKit Go.Maps

/-! Machines in memory of their own. -/
theorem own_form' {w : World} {base e z : Nat} {v : Value} {n : Nat} {xs : List Value} (h : w.ownsRow base e z v n xs) (hn : 0 < n) :
    ∃ g cap, v = .slice (some ⟨g, 0, none⟩) n cap ∧ base ≤ g ∧ g < w.heap.size := by
  rcases h.2 with ⟨_, h0⟩ | ⟨g, cap, cur, e, h1, h2, _⟩
  · omega
  · exact ⟨g, cap, e, h1, lt_of_heap h2⟩
theorem ownsRow_le' {w : World} {base base' size n : Nat} {e : TypeId} {v : Value} {xs : List Value} (h : w.ownsRow base e size v n xs) (hb : base' ≤ base) : w.ownsRow base' e size v n xs := by
  obtain ⟨h1, h2⟩ := h
  refine ⟨h1, ?_⟩
  rcases h2 with h2 | ⟨g, cap, cur, e1, e2, e3⟩
  · exact .inl h2
  · exact .inr ⟨g, cap, cur, e1, Nat.le_trans hb e2, e3⟩
/-- An append, told in its two ways: in the row's own block, or in a new one and nothing old has turned. -/
theorem wpList_append_two {P : Program} (w : World) {ops : Array Oper} {rest : List Oper} {o : Oper} {a : Act} {Q : Exit → Act → World → Prop} (hgd : o.guard = none) (s x : Operand) (t : TypeId)
    (ho : o.op = .call { callee := .builtin .append, args := #[s, x], argTypes := #[t, t] })
    (base : Nat) (e : TypeId) (i : TypeInfo) (z : Value) (size bytes : Nat) (ht : P.underlying t = some (.slice e)) (hi : P.info? e = some i) (hz : i.zero = some z)
    (hsize : i.size = size) (hby : i.bytes = bytes) (hzs : z.cells.size = size) (hsz : 0 < size)
    (v : Value) (n : Nat) (xs : List Value) (hs : a.eval s = v) (hown : w.ownsRow base e size v n xs)
    (ad : Addr) (m c : Nat) (news : List Value) (hx : a.eval x = .slice (some ad) m c) (hm : 0 < m) (hl : news.length = m * size) (hnews : ∀ j u, news[j]? = some u → w.cell? (ad.add j) = some u) (h1 : ∀ u ∈ news, u.oneCell' = true)
    (h63 : n + m ≤ maxLen) (hbytes : (n + m) * bytes ≤ 140737488355328) (hbase : base ≤ w.heap.size)
    (h : ∀ v' w', w'.ownsRow base e size v' (n + m) (xs ++ news) → ((∃ g cap, v = .slice (some ⟨g, 0, none⟩) n cap ∧ v' = .slice (some ⟨g, 0, none⟩) (n + m) cap ∧ w.grownBy w' (some g)) ∨ (∃ g, v'.ownBlock = some g ∧ w.heap.size ≤ g ∧ w.grownBy w' none)) → wpList P ops Q rest (a.put o.dst v') w') :
    wpList P ops Q (o :: rest) a w := by
  have hg : ∀ (ao : Option Addr) (cap : Nat), v = .slice ao n cap → cap < n + m → (ao = none → n = 0 ∧ cap = 0) → (∀ b, ao = some b → ∀ j u, xs[j]? = some u → w.cell? (b.add j) = some u) → wpList P ops Q (o :: rest) a w := by
    intro ao cap hv hf hnn hol
    refine wpList_append_grows w hgd s x t ho e i z size bytes ht hi hz hsize hby hzs hsz ao n cap xs (hs.trans hv) hnn hown.1 hol ad m c news hx hl hnews h1 hf h63 hbytes (fun v' w' r1 r2 => ?_)
    obtain ⟨g, cap', e1, e2, e3⟩ := own_form' r1 (by omega)
    refine h v' w' (ownsRow_le' r1 hbase) (Or.inr ⟨g, by rw [e1]; rfl, e2, r2⟩)
  rcases hown.2 with ⟨hv, hn0⟩ | ⟨g, cap, cur, hv, hb, hgc, hcap, hmx, hcs, htk⟩
  · subst hn0
    exact hg none 0 hv (by omega) (fun _ => ⟨rfl, rfl⟩) (fun b hb => by cases hb)
  · by_cases hr : n + m ≤ cap
    · rw [hv] at hown hs
      refine wpList_append_fits w hgd s x t ho base e i size ht hi hsize g n cap xs hs hown ad m c news hx hl hnews h1 hr (fun w' r1 r2 => ?_)
      exact h _ w' r1 (Or.inl ⟨g, cap, hv, rfl, r2⟩)
    · refine hg (some ⟨g, 0, none⟩) cap hv (by omega) (fun h => by cases h) (fun b hb j u hu => ?_)
      cases hb
      rw [hv] at hown
      exact hown.cells (g := g) rfl j u hu

theorem row_same {W W' : World} {B : Nat} {e : TypeId} {z n : Nat} {v : Value} {xs : List Value} (h : W.ownsRow B e z v n xs) (k : ∀ g, B ≤ g → g < W.heap.size → W'.heap[g]? = W.heap[g]?) : W'.ownsRow B e z v n xs := by
  obtain ⟨h1, h2⟩ := h
  refine ⟨h1, ?_⟩
  rcases h2 with h2 | ⟨g, cap, cur, e1, e2, e3, e4⟩
  · exact .inl h2
  · exact .inr ⟨g, cap, cur, e1, e2, (k g e2 (lt_of_heap e3)).trans e3, e4⟩
/-- A machine's lists, each the call's own. -/
structure Mo (B : Nat) (W : World) (vo vt vf : Value) (fvs : List Value) (N : Mc) : Prop where
  on : W.ownsRow B 40 4 vo N.on.length (onC N.on)
  tos : W.ownsRow B 3 1 vt N.tos.length (N.tos.map (Value.int .i64))
  fr : W.ownsRow B 23 1 vf fvs.length fvs
  len : fvs.length = N.free.length
  el : ∀ i, i < fvs.length → FrE B W vt (fvs.getD i undef) (N.free.getD i [])
theorem Mo.parts {B : Nat} {W : World} {vo vt vf : Value} {fvs : List Value} {N : Mc} (h : Mo B W vo vt vf fvs N) : Parts W.heap.size W vo vt vf N := by
  obtain ⟨on, tos, frs, s, e⟩ := N
  have ad : ∀ g k : Nat, (⟨g, 0, none⟩ : Addr).add k = ⟨g, k, none⟩ := fun g k => by cases k <;> simp [Addr.add]
  refine ⟨?_, ?_, ?_⟩
  · show Clss _ _ _ on
    rcases h.on.2 with ⟨rfl, h0⟩ | ⟨g, cap, cur, rfl, _, hh, _⟩
    · have : on = [] := List.length_eq_zero_iff.1 h0
      subst this
      exact ⟨none, 0, 0, 0, rfl, fun hl => absurd rfl hl, fun i hi => by cases hi⟩
    · refine ⟨some ⟨g, 0, none⟩, g, 0, cap, rfl, fun _ => ⟨rfl, lt_of_heap hh⟩, fun i hi k hk => ?_⟩
      have := h.on.cells (g := g) rfl (i * 4 + k) _ (onC_get on i hi k hk)
      rw [ad] at this
      rw [Nat.zero_add]; exact this
  · show Ints _ _ _ tos
    rcases h.tos.2 with ⟨rfl, h0⟩ | ⟨g, cap, cur, rfl, _, hh, _⟩
    · have : tos = [] := List.length_eq_zero_iff.1 h0
      subst this
      exact Ints.nil _ _
    · refine ⟨some ⟨g, 0, none⟩, g, 0, cap, rfl, fun _ => ⟨rfl, lt_of_heap hh⟩, fun i hi => ?_⟩
      have := h.tos.cells (g := g) rfl i (.int .i64 (tos.getD i 0)) (by rw [List.getElem?_map, List.getElem?_eq_getElem hi, List.getD_eq_getElem?_getD, List.getElem?_eq_getElem hi]; rfl)
      rw [ad] at this
      rw [Nat.zero_add]; exact this
  · show Rws _ _ _ frs
    rcases h.fr.2 with ⟨rfl, h0⟩ | ⟨g, cap, cur, rfl, _, hh, _⟩
    · have : frs = [] := List.length_eq_zero_iff.1 (by rw [← h.len]; exact h0)
      subst this
      exact ⟨none, 0, 0, 0, rfl, fun hl => absurd rfl hl, fun i hi => by cases hi⟩
    · refine ⟨some ⟨g, 0, none⟩, g, 0, cap, by rw [h.len], fun _ => ⟨rfl, lt_of_heap hh⟩, fun i hi => ?_⟩
      have hi' : i < fvs.length := by rw [h.len]; exact hi
      have hc := h.fr.cells (g := g) rfl i (fvs.getD i undef) (by rw [List.getD_eq_getElem?_getD, List.getElem?_eq_getElem hi']; rfl)
      rw [ad] at hc
      refine ⟨fvs.getD i undef, by rw [Nat.zero_add]; exact hc, ?_⟩
      rcases h.el i hi' with ⟨e1, e2⟩ | ⟨g2, e1, e0, e2, e3, e4⟩
      · rw [e1, e2]; exact Ints.nil _ _
      · rw [e1]
        refine ⟨some ⟨g2, 0, none⟩, g2, 0, _, rfl, fun _ => ⟨rfl, lt_of_heap e4⟩, fun j hj => ?_⟩
        rw [Lib.cell_of_heap e4, Nat.zero_add]
        show ((frs.getD i []).map (Value.int .i64)).toArray[j]? = _
        rw [List.getElem?_toArray, List.getElem?_map, List.getElem?_eq_getElem hj]
        simp only [Option.map_some]
        conv => rhs; rw [List.getD_eq_getElem?_getD, List.getElem?_eq_getElem hj]
        rfl
theorem FrE.same {B : Nat} {W W' : World} {vt v : Value} {l : List Int} (h : FrE B W vt v l) (k : ∀ g, B ≤ g → g < W.heap.size → W'.heap[g]? = W.heap[g]?) : FrE B W' vt v l := by
  rcases h with h | ⟨g, e1, e2, e3, e4, e5⟩
  · exact .inl h
  · exact .inr ⟨g, e1, e2, e3, e4, (k g e3 (lt_of_heap e5)).trans e5⟩
theorem FrE.low {B B' : Nat} {W : World} {vt v : Value} {l : List Int} (h : FrE B W vt v l) (hB : B' ≤ B) : FrE B' W vt v l := by
  rcases h with h | ⟨g, e1, e2, e3, e4, e5⟩
  · exact .inl h
  · exact .inr ⟨g, e1, e2, Nat.le_trans hB e3, e4, e5⟩
theorem Mo.same {B : Nat} {W W' : World} {vo vt vf : Value} {fvs : List Value} {N : Mc} (h : Mo B W vo vt vf fvs N) (k : ∀ g, B ≤ g → g < W.heap.size → W'.heap[g]? = W.heap[g]?) : Mo B W' vo vt vf fvs N :=
  ⟨row_same h.on k, row_same h.tos k, row_same h.fr k, h.len, fun i hi => (h.el i hi).same k⟩
/-- Only blocks outside of S may turn. -/
structure Ks (S : Nat → Prop) (W W' : World) : Prop where
  os : W'.os = W.os
  tape : W'.tape = W.tape
  output : W'.output = W.output
  size : W.heap.size ≤ W'.heap.size
  block : ∀ b, S b → b < W.heap.size → W'.heap[b]? = W.heap[b]?
theorem Ks.refl (S : Nat → Prop) (W : World) : Ks S W W := ⟨rfl, rfl, rfl, Nat.le_refl _, fun _ _ _ => rfl⟩
theorem Ks.trans {S : Nat → Prop} {A B C : World} (h : Ks S A B) (k : Ks S B C) : Ks S A C :=
  ⟨k.os.trans h.os, k.tape.trans h.tape, k.output.trans h.output, Nat.le_trans h.size k.size, fun b hb hl => (k.block b hb (Nat.lt_of_lt_of_le hl h.size)).trans (h.block b hb hl)⟩
theorem Ks.bel {S : Nat → Prop} {A B : World} (h : Below A.heap.size A B) : Ks S A B := ⟨h.os, h.tape, h.output, h.size, fun b _ hl => h.block b hl⟩
theorem Ks.below {S : Nat → Prop} {A B : World} {n : Nat} (h : Ks S A B) (hS : ∀ b, b < n → S b) (hn : n ≤ A.heap.size) : Below n A B := ⟨h.os, h.tape, h.output, h.size, fun b hb => h.block b (hS b hb) (Nat.lt_of_lt_of_le hb hn)⟩
/-- A machine that stays while the blocks of S do. -/
def Hold (S : Nat → Prop) (W : World) (vo vt vf : Value) (N : Mc) : Prop := ∀ W', Ks S W W' → Parts W'.heap.size W' vo vt vf N
theorem Hold.keep {S : Nat → Prop} {W W' : World} {vo vt vf : Value} {N : Mc} (h : Hold S W vo vt vf N) (k : Ks S W W') : Hold S W' vo vt vf N := fun _ k' => h _ (k.trans k')
theorem Hold.parts {S : Nat → Prop} {W : World} {vo vt vf : Value} {N : Mc} (h : Hold S W vo vt vf N) : Parts W.heap.size W vo vt vf N := h W (Ks.refl _ _)
theorem Mo.hold {B : Nat} {S : Nat → Prop} {W : World} {vo vt vf : Value} {fvs : List Value} {N : Mc} (h : Mo B W vo vt vf fvs N) (hS : ∀ b, B ≤ b → S b) : Hold S W vo vt vf N :=
  fun _ k => (h.same (fun b hb hl => k.block b (hS b hb) hl)).parts
theorem Sh.same {B : Nat} {W W' : World} {e : TypeId} {s : Nat} {v : Value} {n len : Nat} {cs : List Value} (h : Sh B W e s v n len cs) (k : ∀ g, B ≤ g → g < W.heap.size → W'.heap[g]? = W.heap[g]?) : Sh B W' e s v n len cs := by
  obtain ⟨a, cap, e, hn, h⟩ := h
  exact ⟨a, cap, e, hn, row_same h k⟩
theorem Tr.hold {B : Nat} {S : Nat → Prop} {W : World} {N : Mc} {fvs : List Value} {xo xt xf : Value} (h : Tr B W N.on N.tos fvs N.free (N.free.map List.length) xo N.on.length xt N.tos.length xf N.free.length) (hS : ∀ b, B ≤ b → S b) : Hold S W xo xt xf N := fun W' k => by
  have kk : ∀ g, B ≤ g → g < W.heap.size → W'.heap[g]? = W.heap[g]? := fun b hb hl => k.block b (hS b hb) hl
  have h' : Tr B W' N.on N.tos fvs N.free (N.free.map List.length) xo N.on.length xt N.tos.length xf N.free.length := ⟨h.on.same kk, h.tos.same kk, h.fr.same kk, h.len, h.lns, fun i hi => (h.el i hi).same kk, h.ap, h.ato, Nat.le_trans h.lB k.size⟩
  exact h'.parts
/-- Blocks stay blocks: as long, of the same kind; those of rows (23) whole. -/
def Tw (W W' : World) : Prop := ∀ (b : Nat) (cur : Array Value) (tag : Nat), W.heap[b]? = some (.cells cur tag (0, 0)) → ∃ cur', W'.heap[b]? = some (.cells cur' tag (0, 0)) ∧ cur.size = cur'.size ∧ (tag = 23 → cur' = cur)
theorem Tw.refl (W : World) : Tw W W := fun _ cur _ h => ⟨cur, h, rfl, fun _ => rfl⟩
theorem Tw.trans {A B C : World} (h : Tw A B) (k : Tw B C) : Tw A C := fun b cur tag e => by
  obtain ⟨c1, e1, e2, e3⟩ := h b cur tag e
  obtain ⟨c2, f1, f2, f3⟩ := k b c1 tag e1
  exact ⟨c2, f1, e2.trans f2, fun ht => (f3 ht).trans (e3 ht)⟩
theorem Tw.bel {A B : World} (h : Below A.heap.size A B) : Tw A B := fun b cur _ e => ⟨cur, (h.block b (lt_of_heap e)).trans e, rfl, fun _ => rfl⟩
theorem Tw.set {W : World} {g k tag : Nat} {cur : Array Value} (h : W.heap[g]? = some (.cells cur tag (0, 0))) (ht : tag ≠ 23) (x : Value) : Tw W (W.setCell ⟨g, k, none⟩ x) := fun b c t e => by
  by_cases hb : b = g
  · subst hb
    rw [h] at e
    injection e with e
    injection e with e1 e2 e3
    subst e1 e2
    exact ⟨_, blk_set x h, by simp, fun e => absurd e ht⟩
  · exact ⟨c, (Below.heap_setCell _ _ _ _ hb).trans e, rfl, fun _ => rfl⟩
/-- Only blocks from B0 up to B1 may turn, and they stay blocks. -/
structure Gw (B0 B1 : Nat) (W W' : World) : Prop where
  ks : Ks (fun b => b < B0 ∨ B1 ≤ b) W W'
  tw : Tw W W'
theorem Gw.refl (B0 B1 : Nat) (W : World) : Gw B0 B1 W W := ⟨Ks.refl _ _, Tw.refl _⟩
theorem Gw.trans {B0 B1 : Nat} {A B C : World} (h : Gw B0 B1 A B) (k : Gw B0 B1 B C) : Gw B0 B1 A C := ⟨h.ks.trans k.ks, h.tw.trans k.tw⟩
theorem Gw.bel {B0 B1 : Nat} {A B : World} (h : Below A.heap.size A B) : Gw B0 B1 A B := ⟨Ks.bel h, Tw.bel h⟩
theorem Gw.set {B0 B1 : Nat} {W : World} {g k tag : Nat} {cur : Array Value} (h : W.heap[g]? = some (.cells cur tag (0, 0))) (ht : tag ≠ 23) (h0 : B0 ≤ g) (h1 : g < B1) (x : Value) : Gw B0 B1 W (W.setCell ⟨g, k, none⟩ x) :=
  ⟨⟨rfl, rfl, rfl, by simp [World.setCell], fun b hb _ => Below.heap_setCell _ _ _ _ (by intro e; have e' : b = g := e; omega)⟩, Tw.set h ht x⟩
/-- A list that may be written over. -/
def Sl (B0 B1 : Nat) (W : World) (v : Value) (tag n k : Nat) : Prop := ∃ a c, v = .slice a n c ∧ (n = 0 ∨ ∃ g cur, a = some ⟨g, 0, none⟩ ∧ B0 ≤ g ∧ g < B1 ∧ W.heap[g]? = some (.cells cur tag (0, 0)) ∧ k ≤ cur.size)
theorem Sl.keep {B0 B1 : Nat} {W W' : World} {v : Value} {tag n k : Nat} (h : Sl B0 B1 W v tag n k) (t : Tw W W') : Sl B0 B1 W' v tag n k := by
  obtain ⟨a, c, e, h⟩ := h
  refine ⟨a, c, e, ?_⟩
  rcases h with h | ⟨g, cur, e1, e2, e3, e4, e5⟩
  · exact .inl h
  · obtain ⟨cur', f1, f2, _⟩ := t g cur tag e4
    exact .inr ⟨g, cur', e1, e2, e3, f1, by omega⟩
theorem Sl.of {B0 B1 B size tag n : Nat} {W : World} {v : Value} {xs : List Value} (h : W.ownsRow B tag size v n xs) (hB : B0 ≤ B) (h1 : W.heap.size ≤ B1) : Sl B0 B1 W v tag n (n * size) := by
  rcases h.2 with ⟨rfl, h0⟩ | ⟨g, cap, cur, e1, e2, e3, e4, _, e6, _⟩
  · exact ⟨none, 0, by rw [h0], .inl h0⟩
  · exact ⟨_, cap, e1, .inr ⟨g, cur, rfl, by omega, by have := lt_of_heap e3; omega, e3, by rw [e6]; exact Nat.mul_le_mul_right _ e4⟩⟩
/-- A machine's lists that may be written over. -/
structure Wn (B0 B1 : Nat) (W : World) (vo vt vf : Value) (fvs : List Value) (no nt : Nat) : Prop where
  on : Sl B0 B1 W vo 40 no (no * 4)
  tos : Sl B0 B1 W vt 3 nt nt
  fr : ∃ a c, vf = .slice a fvs.length c ∧ (fvs = [] ∨ ∃ g cur, a = some ⟨g, 0, none⟩ ∧ W.heap[g]? = some (.cells cur 23 (0, 0)) ∧ ∀ i, i < fvs.length → cur[i]? = some (fvs.getD i undef))
  el : ∀ i, i < fvs.length → ∃ l, Sl B0 B1 W (fvs.getD i undef) 3 l l
theorem Wn.keep {B0 B1 : Nat} {W W' : World} {vo vt vf : Value} {fvs : List Value} {no nt : Nat} (h : Wn B0 B1 W vo vt vf fvs no nt) (t : Tw W W') : Wn B0 B1 W' vo vt vf fvs no nt := by
  refine ⟨h.on.keep t, h.tos.keep t, ?_, fun i hi => by obtain ⟨l, hl⟩ := h.el i hi; exact ⟨l, hl.keep t⟩⟩
  obtain ⟨a, c, e, hf⟩ := h.fr
  refine ⟨a, c, e, ?_⟩
  rcases hf with hf | ⟨g, cur, e1, e2, e3⟩
  · exact .inl hf
  · obtain ⟨cur', f1, _, f3⟩ := t g cur 23 e2
    rw [f3 rfl] at f1
    exact .inr ⟨g, cur, e1, f1, e3⟩
theorem Mo.wn {B0 B1 B : Nat} {W : World} {vo vt vf : Value} {fvs : List Value} {N : Mc} (h : Mo B W vo vt vf fvs N) (hB : B0 ≤ B) (h1 : W.heap.size ≤ B1) : Wn B0 B1 W vo vt vf fvs N.on.length N.tos.length := by
  refine ⟨Sl.of h.on hB h1, by have := Sl.of h.tos hB h1; rwa [Nat.mul_one] at this, ?_, fun i hi => ?_⟩
  · rcases h.fr.2 with ⟨rfl, h0⟩ | ⟨g, cap, cur, e1, e2, e3, e4, _, e6, e7⟩
    · exact ⟨none, 0, by rw [h0], .inl (List.length_eq_zero_iff.1 h0)⟩
    · refine ⟨_, cap, e1, .inr ⟨g, cur, rfl, e3, fun i hi => ?_⟩⟩
      have := congrArg (·[i]?) e7
      simp only [List.getElem?_take] at this
      rw [if_pos (by omega), Array.getElem?_toList] at this
      rw [this, List.getD_eq_getElem?_getD, List.getElem?_eq_getElem hi]
      rfl
  · rcases h.el i hi with ⟨e1, _⟩ | ⟨g, e1, e2, e3, _, e5⟩
    · exact ⟨0, none, 0, e1, .inl rfl⟩
    · exact ⟨_, _, _, e1, .inr ⟨g, _, rfl, by omega, by have := lt_of_heap e5; omega, e5, by simp⟩⟩
end Go.Proofs.Ytkjljnneghnpiaa
namespace Go.Proofs.Ytkjljnneghnpiaa
open Go.RowKit Go.Maps

theorem part_all {B bk gr oo cap : Nat} {re : List Rg.Nd} {z : List Nat} (hgr : gr < B) (h : Rg.szs re [] = some z) : ∀ i, i < re.length → PartOk B bk gr oo cap re z i := by
  intro i
  induction i using Nat.strongRecOn with
  | ind i ih =>
    intro hi
    obtain ⟨p, ⟨op, m, na, nb⟩, s, hre, hp, _⟩ := Rg.split_at re i hi
    have hk := Rg.kind_of p ⟨op, m, na, nb⟩ s z (by rw [← hre]; exact h)
    rw [hp] at hk
    have hn : ∃ p s, re = p ++ (⟨op, m, na, nb⟩ : Rg.Nd) :: s ∧ p.length = i := ⟨p, s, hre, hp⟩
    have hle := fun j (hj : j < re.length) => prt_le h j hj
    cases hk with
    | leaf h1 _ _ _ hz =>
      rcases h1 with h1 | h1
      · have h1' : op = 1 := h1
        subst h1'
        exact part_class hn
      · have h1' : op = 2 := h1
        subst h1'
        exact part_empty hgr hn
    | un h1 _ h2 ha _ hz =>
      have ha' : na = ((i - 1 : Nat) : Int) := ha
      subst ha'
      have k := ih (i - 1) (by omega) (by omega)
      rcases h1 with h1 | h1 | h1
      · have h1' : op = 5 := h1
        subst h1'
        exact part_ring5 hgr hn (by omega) (by omega) k
      · have h1' : op = 6 := h1
        subst h1'
        exact part_ring6 hgr hn (by omega) (by omega) k
      · have h1' : op = 7 := h1
        subst h1'
        exact part_opt hgr hn (by omega) (by omega) (fun f bh M hf => hle _ (by omega) f bh M hf) k
    | bin h1 _ a hi2 h3 ha hb hz =>
      have ha' : na = (a : Int) := ha
      have hb' : nb = ((i - 1 : Nat) : Int) := hb
      subst ha' hb'
      have ka := ih a (by omega) (by omega)
      have kb := ih (i - 1) (by omega) (by omega)
      rcases h1 with h1 | h1
      · have h1' : op = 3 := h1
        subst h1'
        exact part_cat hgr hn (by omega) (by omega) (by omega) (fun f bh M hf => hle _ (by omega) f bh M hf) ka kb
      · have h1' : op = 4 := h1
        subst h1'
        exact part_alt hgr hn (by omega) (by omega) (by omega) (fun f bh M hf => hle _ (by omega) f bh M hf) (fun f bh M hf => hle _ (by omega) f bh M hf) ka kb
set_option maxRecDepth 100000 in
set_option maxHeartbeats 4000000 in
theorem compile_mo {gr oo cap : Nat} {re : List Rg.Nd} {z : List Nat} (hne : re ≠ []) (hl : re.length ≤ 128) (hsh : Rg.Sh re = true) (hz : z.getD (re.length - 1) 0 ≤ 500) (W : World) (hN : Rg.NdsAt W gr oo re) (hg : gr < W.heap.size)
    (hP : ∀ B bk, gr < B → PartOk B bk gr oo cap re z (re.length - 1)) :
    Calls Try.prog 16 #[.slice (some ⟨gr, oo, none⟩) re.length cap] W fun e w' => (∃ fvs vo vt vf, e = .returned (nfV vo vt vf (mcOf re)) ∧ Mo W.heap.size w' vo vt vf fvs (mcOf re)) ∧ Below W.heap.size W w' := by
  have hpos : 0 < re.length := List.length_pos_iff.2 hne
  have HN : Hid (Rg.NdsAt W gr oo re) := hN
  have HG : Hid (gr < W.heap.size) := hg
  have HP : Hid (∀ B bk, gr < B → PartOk B bk gr oo cap re z (re.length - 1)) := hP
  have HS : Hid (Rg.Sh re = true) := hsh
  have HL : Hid (re.length ≤ 128) := hl
  have HZ : Hid (z.getD (re.length - 1) 0 ≤ 500) := hz
  have HPO : Hid (0 < re.length) := hpos
  have HNE : Hid (re ≠ []) := hne
  clear hN hg hP hsh hz hne
  have hW1 : (W.alloc (.cells #[.slice none 0 0, .slice none 0 0, .slice none 0 0, .int .i64 0, .int .i64 0] 26)).heap[W.heap.size]? = some (.cells #[.slice none 0 0, .slice none 0 0, .slice none 0 0, .int .i64 0, .int .i64 0] 26 (0, 0)) := World.alloc_heap_new W _
  have HW1 : Hid _ := hW1
  clear hW1
  go_enter Try.func16, Try.ntmps16
  go_wp2_with fail
  refine (Rg.shaped_any re (some ⟨gr, oo, none⟩) gr oo cap _ (fun _ => rfl) (HN.out.below (bel_up _ _) HG.out) (fun _ => by have := HG.out; simp; omega) (by have := HL.out; omega)).mono ?_
  rintro e w2 ⟨rfl, hb2⟩
  rw [HS.out]
  have HB2 : Hid (Below W.heap.size W w2) := below_trans (bel_up _ _) hb2
  have HR2 : Hid (w2.heap[W.heap.size]? = some (.cells #[.slice none 0 0, .slice none 0 0, .slice none 0 0, .int .i64 0, .int .i64 0] 26 (0, 0))) := (hb2.block _ (by simp)).trans HW1.out
  have HN2 : Hid (Rg.NdsAt w2 gr oo re) := HN.out.below (HB2.out) HG.out
  clear hb2
  go_wp2_with fail
  refine (newMaker_any (some ⟨gr, oo, none⟩) re.length cap HL.out w2).mono ?_
  rintro e w3 ⟨bk, rfl, hm3, hb3⟩
  have HB3 : Hid (Below w2.heap.size w2 w3) := hb3
  have HGB : Hid (gr < w2.heap.size) := by have := HB2.out.size; have := HG.out; show gr < _; omega
  have hst := state_m (l := []) nob (-1) w3 hm3 (.inl ⟨rfl, rfl⟩) (by simp)
  rw [show CV nob = _ from cv_zero] at hst
  have HST : Hid _ := hst
  clear hb3 hm3 hst
  go_wp2_with fail
  refine Calls.mono HST.out ?_
  rintro e w4 ⟨rfl, hb4, hk4, hm4⟩
  have hm4' : MkM w2.heap.size w4 bk ⟨[nob], [-1], [[]]⟩ 0 0 (.slice (some ⟨gr, oo, none⟩) re.length cap) := hm4
  obtain ⟨j3, j4, jf3, jf4⟩ := hm4'.five
  obtain ⟨hm5, hb5⟩ := hm4'.setEn (en' := 0)
  have j5 := hm5.five.2.1
  have HM5 : Hid (MkM w2.heap.size (w4.setCell ⟨bk, 4, none⟩ (.int .i64 0)) bk ⟨[nob], [-1], [[]]⟩ 0 0 (.slice (some ⟨gr, oo, none⟩) re.length cap)) := hm5
  have HB5 : Hid (Below w2.heap.size w2 (w4.setCell ⟨bk, 4, none⟩ (.int .i64 0))) := HB3.out.trans (hb4.trans hb5)
  clear hb4 hk4 hm4 hm4' hm5 hb5 HST
  obtain ⟨rl, hrl⟩ : ∃ rl, re.length - 1 = rl := ⟨_, rfl⟩
  have HRL : Hid (re.length - 1 = rl) := hrl
  have hlen1 : re.length = rl + 1 := by have := HPO.out; omega
  have HLEN : Hid (re.length = rl + 1) := hlen1
  have hwr4 : wrap64 (rl : Int) = (rl : Int) := w64n rl (by have := HL.out; omega)
  have hwr3 : (re.length : Int) - 1 = (rl : Int) := by rw [hlen1]; omega
  have HPP : Hid (PartOk w2.heap.size bk gr oo cap re z rl) := hrl ▸ HP.out _ _ HGB.out
  have HZ2 : Hid (z.getD rl 0 ≤ 500) := hrl ▸ HZ.out
  clear hrl hlen1 hl hpos
  go_wp2_with fail
  refine (HPP.out re.length (by have := HLEN.out; omega) _ 0 ⟨[nob], [-1], [[]]⟩ 0 0 HM5.out (HN2.out.below HB5.out HGB.out) (by have := HZ2.out; show 1 + _ ≤ _; omega)).mono ?_
  rintro e w6 ⟨rfl, hb6, hk6, hm6⟩
  obtain ⟨l3, l4, lf3, lf4⟩ := hm6.five
  obtain ⟨hm7, hb7⟩ := hm6.setSt (st' := (prt re re.length rl 0 ⟨[nob], [-1], [[]]⟩).2)
  obtain ⟨W7, hW7⟩ : ∃ W7, W7 = w6.setCell ⟨bk, 3, none⟩ (.int .i64 (prt re re.length rl 0 ⟨[nob], [-1], [[]]⟩).2) := ⟨_, rfl⟩
  have HW7 : Hid _ := hW7
  rw [← hW7] at hm7 hb7
  have hB7 : Below w2.heap.size w2 W7 := HB5.out.trans (hb6.trans hb7)
  obtain ⟨fvs, vo, vt, vf, hv, _⟩ := hm7
  obtain ⟨a1, n1, c1, a2, n2, c2, a3, n3, c3, rfl, rfl, rfl⟩ := hv.shape
  have m0 := hv.cell 0 _ rfl
  have m1 := hv.cell 1 _ rfl
  have m2 := hv.cell 2 _ rfl
  have m3 := hv.cell 3 _ rfl
  have m4 := hv.cell 4 _ rfl
  have HV : Hid (MkV w2.heap.size W7 bk _ _ fvs _ _ _ _ (.slice a1 n1 c1) (.slice a2 n2 c2) (.slice a3 n3 c3)) := hv
  have hr7 : W7.heap[W.heap.size]? = some (.cells #[.slice none 0 0, .slice none 0 0, .slice none 0 0, .int .i64 0, .int .i64 0] 26 (0, 0)) := (hB7.block _ (lt_of_heap HR2.out)).trans HR2.out
  have r0 : W7.cell? ⟨W.heap.size, 0, none⟩ = some (.slice none 0 0) := by rw [Lib.cell_of_heap hr7]; rfl
  have r1 : W7.cell? ⟨W.heap.size, 1, none⟩ = some (.slice none 0 0) := by rw [Lib.cell_of_heap hr7]; rfl
  have r2 : W7.cell? ⟨W.heap.size, 2, none⟩ = some (.slice none 0 0) := by rw [Lib.cell_of_heap hr7]; rfl
  have r3 : W7.cell? ⟨W.heap.size, 3, none⟩ = some (.int .i64 0) := by rw [Lib.cell_of_heap hr7]; rfl
  have r4 : W7.cell? ⟨W.heap.size, 4, none⟩ = some (.int .i64 0) := by rw [Lib.cell_of_heap hr7]; rfl
  have rf := fun o => Lib.frozen_of_heap hr7 o
  have HR7 : Hid (W7.heap[W.heap.size]? = some (.cells #[.slice none 0 0, .slice none 0 0, .slice none 0 0, .int .i64 0, .int .i64 0] 26 (0, 0))) := hr7
  have HB7 : Hid (Below W.heap.size W W7) := below_trans HB2.out hB7
  clear hb6 hk6 hm6 hb7 hB7 hv hW7 hr7
  go_upto_region 6 with fail
  rw [← HW7.out]
  go_wp2_with fail
  obtain ⟨Wf, hWf⟩ : ∃ Wf, Wf = ((((W7.setCell ⟨W.heap.size, 0, none⟩ (.slice a1 n1 c1)).setCell ⟨W.heap.size, 1, none⟩ (.slice a2 n2 c2)).setCell ⟨W.heap.size, 2, none⟩ (.slice a3 n3 c3)).setCell ⟨W.heap.size, 3, none⟩ (.int .i64 (prt re re.length rl 0 ⟨[nob], [-1], [[]]⟩).2)).setCell ⟨W.heap.size, 4, none⟩ (.int .i64 0) := ⟨_, rfl⟩
  have hgf : W7.grownBy Wf (some W.heap.size) := by
    rw [hWf]
    have e : ∀ A B' C : World, A.grownBy B' (some W.heap.size) → B'.grownBy C (some W.heap.size) → A.grownBy C (some W.heap.size) := fun A B' C k1 k2 => grown_up k1 k2 (fun r e => by cases e; exact .inl rfl)
    exact e _ _ _ (e _ _ _ (e _ _ _ (e _ _ _ grown_set grown_set) grown_set) grown_set) grown_set
  have hhf : Wf.heap[W.heap.size]? = some (.cells #[.slice a1 n1 c1, .slice a2 n2 c2, .slice a3 n3 c3, .int .i64 (prt re re.length rl 0 ⟨[nob], [-1], [[]]⟩).2, .int .i64 0] 26 (0, 0)) := by
    rw [hWf, blk_set _ (blk_set _ (blk_set _ (blk_set _ (blk_set _ HR7.out))))]
    rfl
  rw [← hWf]
  have q0 : Wf.cell? ⟨W.heap.size, 0, none⟩ = some (.slice a1 n1 c1) := by rw [Lib.cell_of_heap hhf]; rfl
  have q1 : Wf.cell? ⟨W.heap.size, 1, none⟩ = some (.slice a2 n2 c2) := by rw [Lib.cell_of_heap hhf]; rfl
  have q2 : Wf.cell? ⟨W.heap.size, 2, none⟩ = some (.slice a3 n3 c3) := by rw [Lib.cell_of_heap hhf]; rfl
  have q3 : Wf.cell? ⟨W.heap.size, 3, none⟩ = some (.int .i64 (prt re re.length rl 0 ⟨[nob], [-1], [[]]⟩).2) := by rw [Lib.cell_of_heap hhf]; rfl
  have q4 : Wf.cell? ⟨W.heap.size, 4, none⟩ = some (.int .i64 0) := by rw [Lib.cell_of_heap hhf]; rfl
  have hlow : W.heap.size < w2.heap.size := lt_of_heap HR2.out
  have hv7 := HV.out.low hgf hlow
  have hle : W.heap.size ≤ w2.heap.size := Nat.le_of_lt hlow
  have hpf : Mo W.heap.size Wf (.slice a1 n1 c1) (.slice a2 n2 c2) (.slice a3 n3 c3) fvs ⟨(prt re re.length rl 0 ⟨[nob], [-1], [[]]⟩).1.on, (prt re re.length rl 0 ⟨[nob], [-1], [[]]⟩).1.tos, (prt re re.length rl 0 ⟨[nob], [-1], [[]]⟩).1.frs, (prt re re.length rl 0 ⟨[nob], [-1], [[]]⟩).2, 0⟩ := ⟨ownsRow_le' hv7.on hle, ownsRow_le' hv7.tos hle, ownsRow_le' hv7.fr hle, hv7.len, fun i hi => (hv7.el i hi).low hle⟩
  clear hv7 hle
  have hmc : mcOf re = ⟨(prt re re.length rl 0 ⟨[nob], [-1], [[]]⟩).1.on, (prt re re.length rl 0 ⟨[nob], [-1], [[]]⟩).1.tos, (prt re re.length rl 0 ⟨[nob], [-1], [[]]⟩).1.frs, (prt re re.length rl 0 ⟨[nob], [-1], [[]]⟩).2, 0⟩ := by unfold mcOf; rw [HRL.out]
  rw [hmc]
  refine bodyPost_ret (v := .agg #[.slice a1 n1 c1, .slice a2 n2 c2, .slice a3 n3 c3, .int .i64 (prt re re.length rl 0 ⟨[nob], [-1], [[]]⟩).2, .int .i64 0]) ?_ rfl ⟨⟨fvs, _, _, _, rfl, hpf⟩, HB7.out.grown hgf HB7.out.size (fun k e => by cases e; exact Nat.le_refl _)⟩
  rw [results_cell1 rfl]
  clear hpf hmc hgf hhf hWf
  go_simp

/-- The machine of a list. -/
def cmp (re : List Rg.Nd) : Mc := if Rg.Sh re = true then mcOf re else ⟨[], [], [], 0, 0⟩
theorem cmp_len (re : List Rg.Nd) : (cmp re).on.length ≤ 2 * re.length ∧ (cmp re).on.length ≤ 129 := by
  unfold cmp
  split
  · rename_i h
    obtain ⟨z, h1, h2, h3, h4⟩ := Rg.Sh_parts h
    have := prt_le h1 (re.length - 1) (by omega) re.length 0 ⟨[nob], [-1], [[]]⟩ (by omega)
    rw [h4] at this
    have e : (mcOf re).on.length ≤ 1 + re.length := this
    omega
  · simp
theorem prt_lens (re : List Rg.Nd) : ∀ f i b M, M.tos.length = M.on.length → M.frs.length = M.on.length → (prt re f i b M).1.tos.length = (prt re f i b M).1.on.length ∧ (prt re f i b M).1.frs.length = (prt re f i b M).1.on.length := by
  intro f
  induction f with
  | zero => intro i b M h1 h2; exact ⟨h1, h2⟩
  | succ f ih =>
    intro i b M h1 h2
    rw [prt]
    split
    · exact ⟨h1, h2⟩
    · have add : ∀ (M : Ms) m x l, M.tos.length = M.on.length → M.frs.length = M.on.length → (M.add m x l).tos.length = (M.add m x l).on.length ∧ (M.add m x l).frs.length = (M.add m x l).on.length := fun M m x l h1 h2 => by simp [Ms.add, h1, h2]
      have set : ∀ (M : Ms) k l, M.tos.length = M.on.length → M.frs.length = M.on.length → (M.setF k l).tos.length = (M.setF k l).on.length ∧ (M.setF k l).frs.length = (M.setF k l).on.length := fun M k l h1 h2 => by simp [Ms.setF, h1, h2]
      split
      · exact add _ _ _ _ h1 h2
      split
      · have := ih (Rg.Nd.b ‹_›).toNat b M h1 h2
        exact ih _ _ _ this.1 this.2
      split
      · have k1 := ih (Rg.Nd.a ‹_›).toNat b M h1 h2
        have k2 := ih (Rg.Nd.b ‹_›).toNat b _ k1.1 k1.2
        exact add _ _ _ _ k2.1 k2.2
      split
      · have k1 := ih (Rg.Nd.a ‹_›).toNat b M h1 h2
        exact add _ _ _ _ k1.1 k1.2
      split
      · have a1 := add M nob (-1) [] h1 h2
        have k1 := ih (Rg.Nd.a ‹_›).toNat (M.on.length : Int) _ a1.1 a1.2
        exact set _ _ _ k1.1 k1.2
      split
      · have a1 := add M nob (-1) [] h1 h2
        have k1 := ih (Rg.Nd.a ‹_›).toNat (M.on.length : Int) _ a1.1 a1.2
        exact set _ _ _ k1.1 k1.2
      · exact ⟨h1, h2⟩
theorem cmp_lens (re : List Rg.Nd) : (cmp re).tos.length = (cmp re).on.length ∧ (cmp re).free.length = (cmp re).on.length := by
  unfold cmp
  split
  · exact prt_lens re _ _ _ _ rfl rfl
  · exact ⟨rfl, rfl⟩
set_option maxRecDepth 100000 in
set_option maxHeartbeats 4000000 in
theorem compile_not {gr oo cap : Nat} {ao : Option Addr} {re : List Rg.Nd} (hao : re ≠ [] → ao = some ⟨gr, oo, none⟩) (hsh : Rg.Sh re = false) (hl : re.length < 10000000000000) (W : World) (hN : Rg.NdsAt W gr oo re) (hg : re ≠ [] → gr < W.heap.size) :
    Calls Try.prog 16 #[.slice ao re.length cap] W fun e w' => e = .returned (nfV (.slice none 0 0) (.slice none 0 0) (.slice none 0 0) ⟨[], [], [], 0, 0⟩) ∧ Below W.heap.size W w' := by
  have hW1 : (W.alloc (.cells #[.slice none 0 0, .slice none 0 0, .slice none 0 0, .int .i64 0, .int .i64 0] 26)).heap[W.heap.size]? = some (.cells #[.slice none 0 0, .slice none 0 0, .slice none 0 0, .int .i64 0, .int .i64 0] 26 (0, 0)) := World.alloc_heap_new W _
  have HW1 : Hid _ := hW1
  have SH := Rg.shaped_any re ao gr oo cap (W.alloc (.cells #[.slice none 0 0, .slice none 0 0, .slice none 0 0, .int .i64 0, .int .i64 0] 26)) hao (by
    by_cases hne : re = []
    · subst hne; exact ⟨fun p n s e => by cases p <;> cases e⟩
    · exact hN.below (bel_up _ _) (hg hne)) (fun hne => by have := hg hne; simp; omega) (by omega)
  rw [hsh] at SH
  clear hW1 hao hsh hl hN hg
  go_enter Try.func16, Try.ntmps16
  go_wp2_with fail
  refine SH.mono ?_
  clear SH
  rintro e w2 ⟨rfl, hb2⟩
  have HB2 : Hid (Below W.heap.size W w2) := below_trans (bel_up _ _) hb2
  have hr := (hb2.block _ (by simp)).trans HW1.out
  have r0 : w2.cell? ⟨W.heap.size, 0, none⟩ = some (.slice none 0 0) := by rw [Lib.cell_of_heap hr]; rfl
  have r1 : w2.cell? ⟨W.heap.size, 1, none⟩ = some (.slice none 0 0) := by rw [Lib.cell_of_heap hr]; rfl
  have r2 : w2.cell? ⟨W.heap.size, 2, none⟩ = some (.slice none 0 0) := by rw [Lib.cell_of_heap hr]; rfl
  have r3 : w2.cell? ⟨W.heap.size, 3, none⟩ = some (.int .i64 0) := by rw [Lib.cell_of_heap hr]; rfl
  have r4 : w2.cell? ⟨W.heap.size, 4, none⟩ = some (.int .i64 0) := by rw [Lib.cell_of_heap hr]; rfl
  have rf := fun o => Lib.frozen_of_heap hr o
  clear hb2 hr
  go_wp2_with fail
  (try simp only [Exit.inBlock, Exit.then])
  refine bodyPost_ret (v := .agg #[.slice none 0 0, .slice none 0 0, .slice none 0 0, .int .i64 0, .int .i64 0]) ?_ rfl ⟨rfl, ?_⟩
  · rw [results_cell1 rfl]
    go_simp
  · exact ((((HB2.out.setCell (p := ⟨W.heap.size, 0, none⟩) (Nat.le_refl _) _).setCell (p := ⟨W.heap.size, 1, none⟩) (Nat.le_refl _) _).setCell (p := ⟨W.heap.size, 2, none⟩) (Nat.le_refl _) _).setCell (p := ⟨W.heap.size, 3, none⟩) (Nat.le_refl _) _).setCell (p := ⟨W.heap.size, 4, none⟩) (Nat.le_refl _) _
/-- **COMPILE.** -/
theorem compile_any (re : List Rg.Nd) (lp : Option Addr) (g o cap : Nat) (W : World) (h : Rg.Lst W lp g o cap re) (hl : re.length * 56 ≤ 140737488355328) :
    Calls Try.prog 16 #[.slice lp re.length cap] W fun e w' => ∃ fvs vo vt vf, e = .returned (nfV vo vt vf (cmp re)) ∧ Mo W.heap.size w' vo vt vf fvs (cmp re) ∧ Below W.heap.size W w' := by
  cases hsh : Rg.Sh re
  · refine (compile_not h.ptr hsh (by omega) W h.at_ h.lt).mono ?_
    rintro e w' ⟨rfl, hb⟩
    have e : cmp re = ⟨[], [], [], 0, 0⟩ := by unfold cmp; rw [if_neg (by rw [hsh]; simp)]
    refine ⟨[], _, _, _, by rw [e], ?_, hb⟩
    rw [e]
    exact ⟨⟨rfl, .inl ⟨rfl, rfl⟩⟩, ⟨rfl, .inl ⟨rfl, rfl⟩⟩, ⟨rfl, .inl ⟨rfl, rfl⟩⟩, rfl, fun i hi => absurd hi (Nat.not_lt_zero _)⟩
  · obtain ⟨z, h1, h2, h3, h4⟩ := Rg.Sh_parts hsh
    have hne : re ≠ [] := by intro e; rw [e] at h2; exact h2 rfl
    have e : cmp re = mcOf re := by unfold cmp; rw [if_pos hsh]
    rw [h.ptr hne, e]
    refine (compile_mo (z := z) hne h3 hsh (by rw [h4]; omega) W h.at_ (h.lt hne) (fun B bk hg => part_all hg h1 _ (by omega))).mono ?_
    rintro e' w' ⟨⟨fvs, vo, vt, vf, rfl, hm⟩, hb⟩
    exact ⟨fvs, vo, vt, vf, rfl, hm, hb⟩
end Go.Proofs.Ytkjljnneghnpiaa
namespace Go.Proofs.Ytkjljnneghnpiaa
open Go.RowKit Go.Maps

theorem prt_two (re : List Rg.Nd) : ∀ f i b M, (∀ l ∈ M.frs, l.length ≤ 2) → ∀ l ∈ (prt re f i b M).1.frs, l.length ≤ 2 := by
  intro f
  induction f with
  | zero => intro i b M h; exact h
  | succ f ih =>
    intro i b M h
    rw [prt]
    split
    · exact h
    · have add : ∀ (M : Ms) m x (l : List Int), l.length ≤ 2 → (∀ l ∈ M.frs, l.length ≤ 2) → ∀ l' ∈ (M.add m x l).frs, l'.length ≤ 2 := fun M m x l hl h l' hl' => by
        simp only [Ms.add, List.mem_append, List.mem_singleton] at hl'
        rcases hl' with h1 | rfl
        · exact h l' h1
        · exact hl
      have set : ∀ (M : Ms) k (l : List Int), l.length ≤ 2 → (∀ l ∈ M.frs, l.length ≤ 2) → ∀ l' ∈ (M.setF k l).frs, l'.length ≤ 2 := fun M k l hl h l' hl' => by
        rcases List.mem_or_eq_of_mem_set hl' with h1 | rfl
        · exact h l' h1
        · exact hl
      split
      · exact add _ _ _ _ (by simp) h
      split
      · exact ih _ _ _ (ih _ _ _ h)
      split
      · exact add _ _ _ _ (by simp) (ih _ _ _ (ih _ _ _ h))
      split
      · exact add _ _ _ _ (by simp) (ih _ _ _ h)
      split
      · exact set _ _ _ (by simp) (ih _ _ _ (add _ _ _ _ (by simp) h))
      split
      · exact set _ _ _ (by simp) (ih _ _ _ (add _ _ _ _ (by simp) h))
      · exact h
theorem sum_two : ∀ (L : List (List Int)), (∀ l ∈ L, l.length ≤ 2) → (L.map List.length).sum ≤ 2 * L.length
  | [], _ => by simp
  | x :: L, h => by
    have h1 := h x (by simp)
    have h2 := sum_two L (fun l hl => h l (by simp [hl]))
    simp only [List.map_cons, List.sum_cons, List.length_cons]
    omega
theorem cmp_small (re : List Rg.Nd) : Small (cmp re) := by
  have h1 := (cmp_len re).2
  have h2 := cmp_lens re
  refine ⟨by omega, by omega, by omega, ?_⟩
  have : ∀ l ∈ (cmp re).free, l.length ≤ 2 := by
    unfold cmp
    split
    · exact prt_two re _ _ _ _ (by simp)
    · intro l hl; cases hl
  have := sum_two _ this
  omega
/-- The class that is written over. -/
def cc : Nat → Bool := fun b => b == 48 || b == 65 || b == 66
theorem cc0 : wd cc 0 = 281474976710656 := by kernel_rfl
theorem cc1 : wd cc 1 = 6 := by kernel_rfl
theorem cc2 : wd cc 2 = 0 := by kernel_rfl
theorem cc3 : wd cc 3 = 0 := by kernel_rfl
def upn (n : Rg.Nd) : Rg.Nd := if Mc.some_ n.m = true then ⟨n.op, cc, n.a, n.b⟩ else n
theorem own_lst5 {w : World} {B : Nat} {v : Value} {l : List Rg.Nd} (h : w.ownsRow B 58 7 v l.length (Rg.ncs l)) : ∃ lp g cap, v = .slice lp l.length cap ∧ Rg.Lst w lp g 0 cap l ∧ (l ≠ [] → B ≤ g ∧ ∀ o, w.frozen? ⟨g, o, none⟩ = false) := by
  rcases h.2 with ⟨rfl, h0⟩ | ⟨g, cap, cur, e1, e2, e3, _⟩
  · have : l = [] := List.length_eq_zero_iff.1 h0
    subst this
    exact ⟨none, 0, 0, rfl, ⟨fun h => absurd rfl h, fun h => absurd rfl h, ⟨fun p n s e => by cases p <;> cases e⟩⟩, fun h => absurd rfl h⟩
  · refine ⟨_, g, cap, e1, ⟨fun _ => rfl, fun _ => lt_of_heap e3, Rg.NdsAt.of (fun j u hu => ?_)⟩, fun _ => ⟨e2, fun o => Lib.frozen_of_heap e3 o⟩⟩
    have := h.cells (g := g) (by rw [e1]; rfl) j u hu
    rw [Rg.addPlain] at this
    exact this
/-- Nodes that are written over. -/
structure Kat (W : World) (g n : Nat) (F : Nat → Rg.Nd) : Prop where
  c : ∀ j, j < n → Rg.NdAt W g (j * 7) (F j)
  fr : 0 < n → ∀ o, W.frozen? ⟨g, o, none⟩ = false
theorem NdAt_same {W W' : World} {g o : Nat} {n : Rg.Nd} (h : Rg.NdAt W g o n) (e : W'.heap[g]? = W.heap[g]?) : Rg.NdAt W' g o n := by
  obtain ⟨x0, x1, x2, x3, x4, x5, x6⟩ := h
  have k : ∀ o v, W.cell? ⟨g, o, none⟩ = some v → W'.cell? ⟨g, o, none⟩ = some v := fun o v hv => by rw [World.cell?_of_block (a := ⟨g, o, none⟩) e]; exact hv
  exact ⟨k _ _ x0, k _ _ x1, k _ _ x2, k _ _ x3, k _ _ x4, k _ _ x5, k _ _ x6⟩
theorem Kat.same {W W' : World} {g n : Nat} {F : Nat → Rg.Nd} (h : Kat W g n F) (e : W'.heap[g]? = W.heap[g]?) : Kat W' g n F :=
  ⟨fun j hj => NdAt_same (h.c j hj) e, fun hn o => by rw [World.frozen?_of_block (a := ⟨g, o, none⟩) e]; exact h.fr hn o⟩
theorem set_ne5 {W : World} {g a b : Nat} {v : Value} (h : a ≠ b) : (W.setCell ⟨g, a, none⟩ v).cell? ⟨g, b, none⟩ = W.cell? ⟨g, b, none⟩ := World.cell?_setCell_other _ _ _ _ (fun e => h (by injection e))
theorem set_eq5 {W : World} {g a : Nat} {u v : Value} (h : W.cell? ⟨g, a, none⟩ = some u) : (W.setCell ⟨g, a, none⟩ v).cell? ⟨g, a, none⟩ = some v := World.cell?_setCell_same _ _ _ h
def put4 (W : World) (g i : Nat) (m : Nat → Bool) : World :=
  (((W.setCell ⟨g, i, none⟩ (.int .u64 (wd m 0 : Nat))).setCell ⟨g, i + 1, none⟩ (.int .u64 (wd m 1 : Nat))).setCell ⟨g, i + 2, none⟩ (.int .u64 (wd m 2 : Nat))).setCell ⟨g, i + 3, none⟩ (.int .u64 (wd m 3 : Nat))
theorem put4_off {W : World} {g i : Nat} {m : Nat → Bool} {j : Nat} (h : j < i ∨ i + 3 < j) : (put4 W g i m).cell? ⟨g, j, none⟩ = W.cell? ⟨g, j, none⟩ := by
  unfold put4
  rw [set_ne5 (by omega), set_ne5 (by omega), set_ne5 (by omega), set_ne5 (by omega)]
theorem put4_at {W : World} {g i : Nat} {m : Nat → Bool} {u0 u1 u2 u3 : Value} (h0 : W.cell? ⟨g, i, none⟩ = some u0) (h1 : W.cell? ⟨g, i + 1, none⟩ = some u1) (h2 : W.cell? ⟨g, i + 2, none⟩ = some u2) (h3 : W.cell? ⟨g, i + 3, none⟩ = some u3) : ∀ k, k < 4 → (put4 W g i m).cell? ⟨g, i + k, none⟩ = some (.int .u64 (wd m k : Nat)) := by
  intro k hk
  unfold put4
  match k, hk with
  | 0, _ => rw [set_ne5 (by omega), set_ne5 (by omega), set_ne5 (by omega)]; exact set_eq5 h0
  | 1, _ => rw [set_ne5 (by omega), set_ne5 (by omega)]; exact set_eq5 (by rw [set_ne5 (by omega)]; exact h1)
  | 2, _ => rw [set_ne5 (by omega)]; exact set_eq5 (by rw [set_ne5 (by omega), set_ne5 (by omega)]; exact h2)
  | 3, _ => exact set_eq5 (by rw [set_ne5 (by omega), set_ne5 (by omega), set_ne5 (by omega)]; exact h3)
theorem put4_frz (W : World) (g i : Nat) (m : Nat → Bool) (a : Addr) : (put4 W g i m).frozen? a = W.frozen? a := by
  unfold put4
  rw [World.frozen?_setCell, World.frozen?_setCell, World.frozen?_setCell, World.frozen?_setCell]
theorem put4_ks {S : Nat → Prop} (W : World) {g : Nat} (i : Nat) (m : Nat → Bool) (h : ¬ S g) : Ks S W (put4 W g i m) :=
  ⟨rfl, rfl, rfl, by simp [put4, World.setCell], fun b hb _ => by
    have hne : b ≠ g := fun e => h (e ▸ hb)
    unfold put4
    rw [Below.heap_setCell _ _ _ _ hne, Below.heap_setCell _ _ _ _ hne, Below.heap_setCell _ _ _ _ hne, Below.heap_setCell _ _ _ _ hne]⟩
theorem put4_size (W : World) (g i : Nat) (m : Nat → Bool) : (put4 W g i m).heap.size = W.heap.size := by simp [put4, World.setCell]
theorem Kat.put {W : World} {g n k : Nat} {F : Nat → Rg.Nd} (h : Kat W g n F) (hk : k < n) (m : Nat → Bool) : Kat (put4 W g (k * 7 + 1) m) g n (fun j => if j = k then ⟨(F k).op, m, (F k).a, (F k).b⟩ else F j) := by
  obtain ⟨x0, x1, x2, x3, x4, x5, x6⟩ := h.c k hk
  refine ⟨fun j hj => ?_, fun hn o => by rw [put4_frz]; exact h.fr hn o⟩
  by_cases hjk : j = k
  · subst hjk
    rw [if_pos rfl]
    have p := put4_at (m := m) x1 x2 x3 x4
    exact ⟨by rw [put4_off (by omega)]; exact x0, p 0 (by omega), p 1 (by omega), p 2 (by omega), p 3 (by omega), by rw [put4_off (by omega)]; exact x5, by rw [put4_off (by omega)]; exact x6⟩
  · rw [if_neg hjk]
    obtain ⟨y0, y1, y2, y3, y4, y5, y6⟩ := h.c j hj
    exact ⟨by rw [put4_off (by omega)]; exact y0, by rw [put4_off (by omega)]; exact y1, by rw [put4_off (by omega)]; exact y2, by rw [put4_off (by omega)]; exact y3, by rw [put4_off (by omega)]; exact y4, by rw [put4_off (by omega)]; exact y5, by rw [put4_off (by omega)]; exact y6⟩
theorem Kat.of {W : World} {lp : Option Addr} {g cap : Nat} {l : List Rg.Nd} (h : Rg.Lst W lp g 0 cap l) (d : Rg.Nd) (hf : l ≠ [] → ∀ o, W.frozen? ⟨g, o, none⟩ = false) : Kat W g l.length (fun j => l.getD j d) := by
  refine ⟨fun j hj => ?_, fun hn => hf (by intro e; rw [e] at hn; simp at hn)⟩
  obtain ⟨p, nd, s, hre, hp, _⟩ := Rg.split_at l j hj
  have := h.at_.nd p nd s hre
  rw [Nat.zero_add, hp] at this
  have e : l.getD j d = nd := by rw [hre, ← hp]; simp
  show Rg.NdAt W g (j * 7) (l.getD j d)
  rw [e]; exact this
theorem Kat.lst {W : World} {lp : Option Addr} {g cap n : Nat} {F : Nat → Rg.Nd} (h : Kat W g n F) (l : List Rg.Nd) (hl : l.length = n) (d : Rg.Nd) (hF : ∀ j, j < n → F j = l.getD j d) (hp : l ≠ [] → lp = some ⟨g, 0, none⟩) (hg : l ≠ [] → g < W.heap.size) : Rg.Lst W lp g 0 cap l := by
  refine ⟨hp, hg, ⟨fun p nd s e => ?_⟩⟩
  have hpl : p.length < n := by rw [← hl, e]; simp
  have := h.c p.length hpl
  rw [hF _ hpl, e] at this
  rw [Nat.zero_add]
  simpa using this
/-- Classes that are written over. -/
structure Kon (W : World) (vo : Value) (n : Nat) (F : Nat → (Nat → Bool)) : Prop where
  sh : ∃ a cap g, vo = .slice a n cap ∧ (0 < n → a = some ⟨g, 0, none⟩ ∧ g < W.heap.size ∧ (∃ cur, W.heap[g]? = some (.cells cur 40 (0, 0))) ∧ ∀ i, i < n → ∀ k, k < 4 → W.cell? ⟨g, i * 4 + k, none⟩ = some (.int .u64 (wd (F i) k : Nat)))
theorem Kon.of {W : World} {B : Nat} {vo : Value} {on : List (Nat → Bool)} (h : W.ownsRow B 40 4 vo on.length (onC on)) : Kon W vo on.length (fun i => on.getD i (fun _ => false)) := by
  rcases h.2 with ⟨rfl, h0⟩ | ⟨g, cap, cur, e1, _, e3, _⟩
  · exact ⟨none, 0, 0, by rw [h0], fun hn => by omega⟩
  · refine ⟨_, cap, g, e1, fun _ => ⟨rfl, lt_of_heap e3, ⟨cur, e3⟩, fun i hi k hk => ?_⟩⟩
    have := h.cells (g := g) (by rw [e1]; rfl) (i * 4 + k) _ (onC_get on i hi k hk)
    rw [Rg.addPlain, Nat.zero_add] at this
    exact this
theorem Kon.clss {W : World} {vo : Value} {n : Nat} {F : Nat → (Nat → Bool)} (h : Kon W vo n F) : Clss W.heap.size W vo ((List.range n).map F) := by
  obtain ⟨a, cap, g, e, h1⟩ := h.sh
  refine ⟨a, g, 0, cap, by rw [List.length_map, List.length_range]; exact e, fun hl => ?_, fun i hi k hk => ?_⟩
  · have hn : 0 < n := by
      rcases Nat.eq_zero_or_pos n with h0 | h0
      · subst h0; exact absurd rfl hl
      · exact h0
    exact ⟨(h1 hn).1, (h1 hn).2.1⟩
  · rw [List.length_map, List.length_range] at hi
    have := (h1 (by omega)).2.2.2 i hi k hk
    rw [Nat.zero_add, this]
    simp [List.getD_eq_getElem?_getD, hi]
/-- All but the classes. -/
theorem Mo.others {B : Nat} {W W' : World} {vo vt vf : Value} {fvs : List Value} {N : Mc} (h : Mo B W vo vt vf fvs N) (k : ∀ (b : Nat) (cur : Array Value) (tag : Nat), W.heap[b]? = some (.cells cur tag (0, 0)) → tag ≠ 40 → W'.heap[b]? = W.heap[b]?) : Mo B W' (.slice none 0 0) vt vf fvs ⟨[], N.tos, N.free, N.start, N.fin⟩ := by
  have row : ∀ {e : TypeId} {z n : Nat} {v : Value} {xs : List Value}, e ≠ 40 → W.ownsRow B e z v n xs → W'.ownsRow B e z v n xs := fun he hr => by
    obtain ⟨h1, h2⟩ := hr
    refine ⟨h1, ?_⟩
    rcases h2 with h2 | ⟨g, cap, cur, e1, e2, e3, e4⟩
    · exact .inl h2
    · exact .inr ⟨g, cap, cur, e1, e2, (k g cur _ e3 he).trans e3, e4⟩
  refine ⟨World.ownsRow_nil _ _ _ _, row (by decide) h.tos, row (by decide) h.fr, h.len, fun i hi => ?_⟩
  rcases h.el i hi with h1 | ⟨g, e1, e2, e3, e4, e5⟩
  · exact .inl h1
  · exact .inr ⟨g, e1, e2, e3, e4, (k g _ _ e5 (by decide)).trans e5⟩
theorem Ks.grown {S : Nat → Prop} {A B C : World} {row : Option Nat} (h : Ks S A B) (hg : B.grownBy C row) (hr : ∀ r, row = some r → A.heap.size ≤ r) : Ks S A C :=
  ⟨hg.os.trans h.os, hg.tape.trans h.tape, hg.output.trans h.output, Nat.le_trans h.size hg.size, fun b hb hl => (hg.block b (Nat.lt_of_lt_of_le hl h.size) (fun e => by have := hr b e.symm; omega)).trans (h.block b hb hl)⟩
theorem Kon.put {W : World} {a : Option Addr} {cap n k g : Nat} {F : Nat → (Nat → Bool)} (h : Kon W (.slice a n cap) n F) (hk : k < n) (ha : a = some ⟨g, 0, none⟩) (m : Nat → Bool) : Kon (put4 W g (k * 4) m) (.slice a n cap) n (fun j => if j = k then m else F j) := by
  obtain ⟨a', cap', g', e, h1⟩ := h.sh
  injection e with e1 e2 e3
  subst e1 e3
  obtain ⟨k1, k2, ⟨cur, k3⟩, k4⟩ := h1 (by omega)
  rw [ha] at k1
  injection k1 with k1
  injection k1 with k1
  subst k1
  have p := put4_at (m := m) (k4 k hk 0 (by omega)) (k4 k hk 1 (by omega)) (k4 k hk 2 (by omega)) (k4 k hk 3 (by omega))
  refine ⟨a, cap, g, rfl, fun _ => ⟨ha, by rw [put4_size]; exact k2, ?_, fun i hi q hq => ?_⟩⟩
  · unfold put4
    exact ⟨_, blk_set _ (blk_set _ (blk_set _ (blk_set _ k3)))⟩
  · by_cases hik : i = k
    · subst hik; rw [if_pos rfl]; exact p q hq
    · rw [if_neg hik, put4_off (by omega)]; exact k4 i hi q hq
end Go.Proofs.Ytkjljnneghnpiaa
