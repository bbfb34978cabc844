import Derived.Test.YtbkhhegmmkcbbaaSax
import Derived.Test.YtbkhhegmmkcbbaaTap
namespace Go.Proofs.Ytbkhhegmmkcbbaa
open Go.RowKit Go.Maps

/-- One more in a row of the call's own: the row as it was still lies there. -/
theorem wpList_append_still {P : Program} (w : World) {ops : Array Oper} {rest : List Oper} {o : Oper} {a : Act} {Q : Exit → Act → World → Prop} (hgd : o.guard = none) (s x : Operand) (t : TypeId)
    (ho : o.op = .call { callee := .builtin .append, args := #[s, x], argTypes := #[t, t] })
    (base : Nat) (e : TypeId) (i : TypeInfo) (z : Value) (size bytes : Nat) (ht : P.underlying t = some (.slice e)) (hi : P.info? e = some i) (hz : i.zero = some z)
    (hsize : i.size = size) (hby : i.bytes = bytes) (hzs : z.cells.size = size)
    (v : Value) (n : Nat) (xs : List Value) (hs : a.eval s = v) (hown : w.ownsRow base e size v n xs)
    (ad : Addr) (c : Nat) (news : List Value) (hx : a.eval x = .slice (some ad) 1 c) (hl : news.length = size) (hnews : ∀ j u, news[j]? = some u → w.cell? (ad.add j) = some u) (h1 : ∀ u ∈ news, u.oneCell' = true)
    (h63 : n + 1 ≤ maxLen) (hfit : Builtin.nextslicecap (n + 1) n * bytes ≤ 281474976710656) (hbase : base ≤ w.heap.size)
    (h : ∀ v' w', w'.ownsRow base e size v' (n + 1) (xs ++ news) → w.grownBy w' v.ownBlock → (v'.ownBlock = v.ownBlock ∨ v'.ownBlock = some w.heap.size) → w'.ownsRow base e size v n xs → wpList P ops Q rest (a.put o.dst v') w') :
    wpList P ops Q (o :: rest) a w := by
  have hmx : (n + 1 : Nat) ≤ 9223372036854775807 := by unfold maxLen at h63; omega
  have hg : ∀ (row : Option Nat) (k : Array Value), w.grownBy (w.drew.alloc (.cells k e)) row := fun row k => ⟨rfl, rfl, rfl, by simp, fun j hj _ => Below.heap_alloc w.drew _ j hj⟩
  have hxl := hown.1
  have hlen : xs.length + news.length = (n + 1) * size := by rw [hxl, hl, Nat.add_mul, Nat.one_mul]
  have hn1 : news.length = 1 * i.size := by rw [hl, hsize, Nat.one_mul]
  have hnn : v.ownBlock = none ∨ v.ownBlock ≠ none := by cases v.ownBlock with | none => exact .inl rfl | some r => exact .inr (fun h => by cases h)
  have hkeep : ∀ k, (w.drew.alloc (.cells k e)).ownsRow base e size v n xs := fun k => hown.kept (hg none k) hnn
  rcases hown.2 with ⟨hv, hn⟩ | ⟨g, cap, cur, hv, hb, hgc, hcap, hmxc, hcs, htk⟩
  · subst hn
    have hx0 : xs = [] := List.eq_nil_of_length_eq_zero (by simpa using hxl)
    subst hx0
    have hf : 1 * i.bytes ≤ 281474976710656 := by
      rw [nextslicecap_zero (by omega), ← hby] at hfit
      exact hfit
    have hr := run_append_nil (P := P) w t o.type e i z ht hi hz ad 1 c news hn1 hnews (by omega) (by omega) hf
    refine Lib.wpList_append_run w hgd s x t t ho _ _ (hs.trans hv) hx _ _ hr (h _ _ ?_ (hg _ _) (Or.inr rfl) (hkeep _))
    have h9 := own_big w (e := e) (xs := []) (k := 0 + 1) (cap := grownCap w 1 0 e) hbase hlen hzs (grownCap_ge w 1 0 e) (grownCap_le_maxLen w 1 0 e (by exact h63))
    simpa using h9
  · by_cases hr : n + 1 ≤ cap
    · rw [hv] at hown hs h
      refine wpList_append_fits w hgd s x t ho base e i size ht hi hsize g n cap xs hs hown ad 1 c news hx (by rw [hl, Nat.one_mul]) hnews h1 hr (fun w' r1 r2 => ?_)
      refine h _ w' r1 r2 (Or.inl rfl) ?_
      have h7 := row_low r1 (n := n) (by omega)
      rw [List.take_append_of_le_length (by rw [hxl]; exact Nat.le_refl _), List.take_of_length_le (by rw [hxl]; exact Nat.le_refl _)] at h7
      exact h7
    · have hcn : cap = n := by omega
      subst hcn
      rw [hv] at hown hs h hkeep
      have hrun := run_append_grow (P := P) w t o.type e i z ht hi hz ⟨g, 0, none⟩ cap cap xs (by rw [hsize]; exact hxl) (hown.cells (g := g) rfl) ad 1 c news hn1 hnews (by omega) (by omega) (by rw [hby]; exact hfit)
      refine Lib.wpList_append_run w hgd s x t t ho _ _ hs hx _ _ hrun (h _ _ ?_ (hg _ _) (Or.inr rfl) (hkeep _))
      exact own_big w hbase hlen hzs (grownCap_ge w _ _ e) (grownCap_le_maxLen w _ _ e h63)
/-- A row that begins another of the same block, or lies elsewhere, while the other grows. -/
theorem row_still {B e s n m : Nat} {W W' : World} {v u : Value} {xs ys : List Value} (hs : 0 < s) (hv : W.ownsRow B e s v n xs) (hu : W.ownsRow B e s u m (xs ++ ys)) (hu' : W'.ownsRow B e s u m (xs ++ ys)) (hg : W.grownBy W' u.ownBlock) : W'.ownsRow B e s v n xs := by
  cases hvb : v.ownBlock with
  | none => exact hv.kept hg (.inl hvb)
  | some r =>
    by_cases hne : u.ownBlock = some r
    · rcases hv.2 with ⟨rfl, _⟩ | ⟨g1, cap1, cur1, e1, _, q1, _, _, q2, _⟩
      · cases hvb
      · rcases hu.2 with ⟨rfl, _⟩ | ⟨g2, cap2, cur2, e2, _, q3, _, _, q4, _⟩
        · cases hne
        · rw [e1] at hvb
          rw [e2] at hne
          cases hvb
          cases hne
          rw [q1] at q3
          cases q3
          have hc : cap1 = cap2 := Nat.eq_of_mul_eq_mul_right hs (q2.symm.trans q4)
          subst hc
          have hlx := hv.1
          have hly := hu.1
          rw [List.length_append, hlx] at hly
          have hnm : n ≤ m := Nat.le_of_mul_le_mul_right (by omega : n * s ≤ m * s) hs
          rw [e2] at hu'
          have h7 := row_low hu' hnm
          rw [List.take_append_of_le_length (by rw [hlx]; exact Nat.le_refl _), List.take_of_length_le (by rw [hlx]; exact Nat.le_refl _)] at h7
          rw [e1]
          exact h7
    · exact hv.kept hg (.inr (by rw [hvb]; exact fun h => hne h.symm))

theorem cap_fit2 (n : Nat) (h : n ≤ 1954687338400) : Builtin.nextslicecap (n + 1) n * 104 ≤ 281474976710656 := by
  have key : Builtin.nextslicecap (n + 1) n ≤ n + (n + 768) / 4 + 1 := by
    unfold Builtin.nextslicecap
    split
    · omega
    · split
      · omega
      · rw [growBy_four]
        split
        · omega
        · split
          · omega
          · omega
  omega
/-! Lists of lists that are written over, then made longer. -/
/-- Cells written over from a place on. -/
def ovw : List Value → Nat → List Value → List Value
  | xs, _, [] => xs
  | xs, o, v :: vs => ovw (xs.set o v) (o + 1) vs
theorem row_ovw {B g n cap : Nat} {e : TypeId} {s : Nat} : ∀ (vs : List Value) (o : Nat) (W : World) (xs : List Value), W.ownsRow B e s (.slice (some ⟨g, 0, none⟩) n cap) n xs → (W.setCells g o vs).ownsRow B e s (.slice (some ⟨g, 0, none⟩) n cap) n (ovw xs o vs)
  | [], _, _, _, h => h
  | v :: vs, o, _, _, h => row_ovw vs (o + 1) _ _ (row_set h o v)
theorem grown_cells (g : Nat) : ∀ (vs : List Value) (o : Nat) (W W' : World), W.grownBy W' (some g) → W.grownBy (W'.setCells g o vs) (some g)
  | [], _, _, _, h => h
  | v :: vs, o, W, W', h => grown_cells g vs (o + 1) W _ ⟨h.os, h.tape, h.output, by simpa [World.setCell] using h.size, fun j hj hne => by
      rw [← h.block j hj hne]
      exact Below.heap_setCell _ _ _ _ (fun e => hne (by rw [e]))⟩
theorem ovw_append (xs ys : List Value) : ∀ (vs : List Value) (o : Nat), ovw (xs ++ ys) (xs.length + o) vs = xs ++ ovw ys o vs
  | [], _ => rfl
  | v :: vs, o => by
    show ovw ((xs ++ ys).set (xs.length + o) v) (xs.length + o + 1) vs = xs ++ ovw (ys.set o v) (o + 1) vs
    rw [List.set_append_right _ _ (by omega), Nat.add_sub_cancel_left, Nat.add_assoc]
    exact ovw_append xs (ys.set o v) vs (o + 1)
theorem ovw_all : ∀ (ps vs xs ys : List Value), xs.length = vs.length → ovw (ps ++ (xs ++ ys)) ps.length vs = ps ++ (vs ++ ys)
  | ps, [], xs, ys, h => by
    rw [List.length_nil] at h
    rw [List.eq_nil_of_length_eq_zero h]; rfl
  | ps, v :: vs, [], ys, h => by simp at h
  | ps, v :: vs, x :: xs, ys, h => by
    show ovw ((ps ++ (x :: xs ++ ys)).set ps.length v) (ps.length + 1) vs = _
    have e1 : (ps ++ (x :: xs ++ ys)).set ps.length v = (ps ++ [v]) ++ (xs ++ ys) := by
      rw [List.set_append_right _ _ (Nat.le_refl _), Nat.sub_self]
      simp
    have e2 : ps.length + 1 = (ps ++ [v]).length := by simp
    rw [e1, e2, ovw_all (ps ++ [v]) vs xs ys (by simpa using h)]
    simp
theorem flat_ovw {α : Type} {f : α → List Value} {z : Nat} (hf : ∀ x, (f x).length = z) (x : α) : ∀ (X : List α) (k : Nat), k < X.length → ovw (flat f X) (k * z) (f x) = flat f (X.set k x)
  | [], _, h => by cases h
  | y :: X, 0, _ => by
    have h1 := ovw_all [] (f x) (f y) (flat f X) (by rw [hf, hf])
    rw [Nat.zero_mul]
    exact h1
  | y :: X, k + 1, h => by
    have ih := flat_ovw hf x X k (by simpa using h)
    have e : (k + 1) * z = (f y).length + k * z := by rw [hf, Nat.add_mul, Nat.one_mul, Nat.add_comm]
    show ovw (f y ++ flat f X) ((k + 1) * z) (f x) = f y ++ flat f (X.set k x)
    rw [e, ovw_append, ih]
/-- Only blocks of these lists have turned. -/
structure Oth (v : Nat → Value) (W W' : World) : Prop where
  os : W'.os = W.os
  tape : W'.tape = W.tape
  output : W'.output = W.output
  size : W.heap.size ≤ W'.heap.size
  block : ∀ b, b < W.heap.size → (∀ j, j < 4 → (v j).ownBlock ≠ some b) → W'.heap[b]? = W.heap[b]?
theorem Oth.refl (v : Nat → Value) (W : World) : Oth v W W := ⟨rfl, rfl, rfl, Nat.le_refl _, fun _ _ _ => rfl⟩
theorem Oth.below {v : Nat → Value} {W W' : World} {B : Nat} (h : Oth v W W') (hB : B ≤ W.heap.size) (hv : ∀ j, j < 4 → ∀ g, (v j).ownBlock = some g → B ≤ g) : Below B W W' :=
  ⟨h.os, h.tape, h.output, h.size, fun k hk => h.block k (by omega) fun j hj e => by have := hv j hj k e; omega⟩
theorem Oth.row {v : Nat → Value} {W W' : World} {B : Nat} {e : TypeId} {s n : Nat} {u : Value} {xs : List Value} (h : Oth v W W') (hu : W.ownsRow B e s u n xs) (hne : u.ownBlock = none ∨ ∀ j, j < 4 → u.ownBlock ≠ (v j).ownBlock) : W'.ownsRow B e s u n xs := by
  refine ⟨hu.1, ?_⟩
  rcases hu.2 with h1 | ⟨g, cap, cur, e0, h1, h2, h3⟩
  · exact .inl h1
  · refine .inr ⟨g, cap, cur, e0, h1, ?_, h3⟩
    rw [h.block g (lt_of_heap h2) ?_]
    · exact h2
    · intro j hj e9
      have e8 : u.ownBlock = some g := by rw [e0]; rfl
      rcases hne with h9 | h9
      · rw [h9] at e8; cases e8
      · exact h9 j hj (by rw [e8, e9])
theorem Oth.step {v : Nat → Value} {W W1 W2 : World} {r : Option Nat} (h : Oth v W W1) (hg : W1.grownBy W2 r) (hr : ∀ b, b < W.heap.size → r = some b → ∃ j, j < 4 ∧ (v j).ownBlock = some b) : Oth v W W2 :=
  ⟨hg.os.trans h.os, hg.tape.trans h.tape, hg.output.trans h.output, Nat.le_trans h.size hg.size, fun b hb hne => by
    rw [hg.block b (Nat.lt_of_lt_of_le hb h.size) (fun e => by obtain ⟨j, hj, e1⟩ := hr b hb e.symm; exact hne j hj e1)]
    exact h.block b hb hne⟩
theorem Oth.draw {v : Nat → Value} {W W1 : World} (h : Oth v W W1) : Oth v W W1.drew := ⟨h.os, h.tape, h.output, h.size, h.block⟩
/-- Four lists of the call's own, no two in one block. -/
structure Fm {α : Type} (f : α → List Value) (e : TypeId) (z B : Nat) (W : World) (v : Nat → Value) (n : Nat → Nat) (X : Nat → List α) : Prop where
  row : ∀ j, j < 4 → W.ownsRow B e z (v j) (n j) (flat f (X j))
  len : ∀ j, j < 4 → (X j).length = n j
  ap : ∀ i j, i < 4 → j < 4 → i ≠ j → (v i).ownBlock = none ∨ (v i).ownBlock ≠ (v j).ownBlock
theorem Fm.up {α : Type} {f : α → List Value} {e : TypeId} {z B : Nat} {W W' : World} {v : Nat → Value} {n : Nat → Nat} {X : Nat → List α} (h : Fm f e z B W v n X) (hb : Below W.heap.size W W') : Fm f e z B W' v n X :=
  ⟨fun j hj => row_up (h.row j hj) hb, h.len, h.ap⟩
def upd {α : Type} (X : Nat → α) (i : Nat) (x : α) : Nat → α := fun j => if j = i then x else X j
theorem upd_self {α : Type} (X : Nat → α) (i : Nat) (x : α) : upd X i x i = x := if_pos rfl
theorem upd_ne {α : Type} (X : Nat → α) {i j : Nat} (x : α) (h : j ≠ i) : upd X i x j = X j := if_neg h
theorem Fm.put {α : Type} {f : α → List Value} {e : TypeId} {z B : Nat} {W : World} {v : Nat → Value} {n : Nat → Nat} {X : Nat → List α} (hf : ∀ x, (f x).length = z) (h : Fm f e z B W v n X) {i g cap k : Nat} (hi : i < 4) (hv : v i = .slice (some ⟨g, 0, none⟩) (n i) cap) (hk : k < n i) (x : α) :
    Fm f e z B (W.setCells g (k * z) (f x)) v n (upd X i ((X i).set k x)) ∧ W.grownBy (W.setCells g (k * z) (f x)) (v i).ownBlock := by
  have hb : (v i).ownBlock = some g := by rw [hv]; rfl
  have hG : W.grownBy (W.setCells g (k * z) (f x)) (some g) := grown_cells g _ _ W W ⟨rfl, rfl, rfl, Nat.le_refl _, fun _ _ _ => rfl⟩
  refine ⟨⟨fun j hj => ?_, fun j hj => ?_, h.ap⟩, by rw [hb]; exact hG⟩
  · by_cases hji : j = i
    · subst hji
      rw [upd_self]
      have hr := h.row j hj
      rw [hv] at hr ⊢
      have h9 := row_ovw (f x) (k * z) W _ hr
      rw [flat_ovw hf x (X j) k (by rw [h.len j hj]; exact hk)] at h9
      exact h9
    · rw [upd_ne _ _ hji]
      refine (h.row j hj).kept hG ?_
      rw [← hb]
      exact h.ap j i hj hi hji
  · by_cases hji : j = i
    · subst hji
      rw [upd_self, List.length_set]
      exact h.len j hj
    · rw [upd_ne _ _ hji]
      exact h.len j hj
/-- The same lists, and longer ones. -/
structure Fg {α : Type} (f : α → List Value) (e : TypeId) (z B N : Nat) (W : World) (v u : Nat → Value) (n m : Nat → Nat) (X Z : Nat → List α) : Prop where
  old : Fm f e z B W v n X
  row : ∀ j, j < 4 → W.ownsRow B e z (u j) (n j + m j) (flat f (X j) ++ flat f (Z j))
  len : ∀ j, j < 4 → (Z j).length = m j
  ap : ∀ i j, i < 4 → j < 4 → i ≠ j → (u i).ownBlock = none ∨ (u i).ownBlock ≠ (u j).ownBlock
  was : ∀ j, j < 4 → ∀ g, (u j).ownBlock = some g → (v j).ownBlock = some g ∨ N ≤ g
  lt : ∀ j, j < 4 → ∀ g, (v j).ownBlock = some g → g < N
theorem Fg.start {α : Type} {f : α → List Value} {e : TypeId} {z B : Nat} {W : World} {v : Nat → Value} {n : Nat → Nat} {X : Nat → List α} (h : Fm f e z B W v n X) {N : Nat} (hN : ∀ j, j < 4 → ∀ g, (v j).ownBlock = some g → g < N) : Fg f e z B N W v v n (fun _ => 0) X (fun _ => []) :=
  ⟨h, fun j hj => by
    have h9 := h.row j hj
    show W.ownsRow B e z (v j) (n j + 0) (flat f (X j) ++ [])
    rw [List.append_nil]; exact h9, fun _ _ => rfl, h.ap, fun _ _ _ hg => .inl hg, hN⟩
theorem Fg.up {α : Type} {f : α → List Value} {e : TypeId} {z B N : Nat} {W W' : World} {v u : Nat → Value} {n m : Nat → Nat} {X Z : Nat → List α} (h : Fg f e z B N W v u n m X Z) (hb : Below W.heap.size W W') : Fg f e z B N W' v u n m X Z :=
  ⟨h.old.up hb, fun j hj => row_up (h.row j hj) hb, h.len, h.ap, h.was, h.lt⟩
/-- The world has grown in a row of another kind. -/
theorem Fg.far {α : Type} {f : α → List Value} {e : TypeId} {z B N : Nat} {W W' : World} {v u : Nat → Value} {n m : Nat → Nat} {X Z : Nat → List α} (h : Fg f e z B N W v u n m X Z) {r : Option Nat} (hg : W.grownBy W' r) {B' : Nat} {e' : TypeId} {s' n' : Nat} {l : Value} {xs : List Value} (hl : W.ownsRow B' e' s' l n' xs) (hr : r = l.ownBlock) (hne : e ≠ e') : Fg f e z B N W' v u n m X Z := by
  subst hr
  exact ⟨⟨fun j hj => (h.old.row j hj).kept hg (tag_ne (h.old.row j hj) hl hne), h.old.len, h.old.ap⟩, fun j hj => (h.row j hj).kept hg (tag_ne (h.row j hj) hl hne), h.len, h.ap, h.was, h.lt⟩
/-- One more in row i. -/
theorem Fg.app {α : Type} {f : α → List Value} {e : TypeId} {z B N : Nat} {W W' : World} {v u : Nat → Value} {n m : Nat → Nat} {X Z : Nat → List α} (hz : 0 < z) (h : Fg f e z B N W v u n m X Z) (hN : N ≤ W.heap.size) {i : Nat} (hi : i < 4) {x : Value} (y : α)
    (ho : W'.ownsRow B e z x (n i + m i + 1) ((flat f (X i) ++ flat f (Z i)) ++ f y)) (hg : W.grownBy W' (u i).ownBlock) (hx : x.ownBlock = (u i).ownBlock ∨ x.ownBlock = some W.heap.size) (hs : W'.ownsRow B e z (u i) (n i + m i) (flat f (X i) ++ flat f (Z i))) :
    Fg f e z B N W' v (upd u i x) n (upd m i (m i + 1)) X (upd Z i (Z i ++ [y])) := by
  have hult : ∀ j, j < 4 → ∀ g, (u j).ownBlock = some g → g < W.heap.size := fun j hj g hg => ((h.row j hj).lt g hg).2
  have hvu : ∀ i j, i < 4 → j < 4 → i ≠ j → (v j).ownBlock = none ∨ (v j).ownBlock ≠ (u i).ownBlock := fun i j hi hj hij => by
    cases hv : (v j).ownBlock with
    | none => exact .inl rfl
    | some g =>
      refine .inr fun e9 => ?_
      rcases h.was i hi g e9.symm with h1 | h1
      · rcases h.old.ap i j hi hj hij with h2 | h2
        · rw [h2] at h1; cases h1
        · exact h2 (by rw [h1, hv])
      · have := h.lt j hj g hv; omega
  refine ⟨⟨fun j hj => ?_, h.old.len, h.old.ap⟩, fun j hj => ?_, fun j hj => ?_, fun a b ha hb hab => ?_, fun j hj g hgj => ?_, h.lt⟩
  · by_cases hji : j = i
    · subst hji
      exact row_still hz (h.old.row j hj) (h.row j hj) hs hg
    · exact (h.old.row j hj).kept hg (hvu i j hi hj (Ne.symm hji))
  · by_cases hji : j = i
    · subst hji
      rw [upd_self, upd_self, upd_self, flat_app, ← List.append_assoc, show flat f [y] = f y from List.append_nil _, ← Nat.add_assoc]
      exact ho
    · rw [upd_ne _ _ hji, upd_ne _ _ hji, upd_ne _ _ hji]
      refine (h.row j hj).kept hg ?_
      exact h.ap j i hj hi hji
  · by_cases hji : j = i
    · subst hji
      rw [upd_self, upd_self, List.length_append, h.len j hj]; rfl
    · rw [upd_ne _ _ hji, upd_ne _ _ hji]
      exact h.len j hj
  · by_cases hai : a = i
    · subst hai
      rw [upd_self, upd_ne _ _ (Ne.symm hab)]
      rcases hx with e1 | e1
      · rw [e1]; exact h.ap a b ha hb hab
      · refine .inr ?_
        rw [e1]
        intro e2
        have := hult b hb _ e2.symm
        omega
    · rw [upd_ne _ _ hai]
      by_cases hbi : b = i
      · subst hbi
        rw [upd_self]
        rcases hx with e1 | e1
        · rw [e1]; exact h.ap a b ha hb hab
        · cases hq : (u a).ownBlock with
          | none => exact .inl rfl
          | some g =>
            refine .inr ?_
            rw [e1]
            intro e2
            have := hult a ha _ hq
            injection e2 with e2
            omega
      · rw [upd_ne _ _ hbi]
        exact h.ap a b ha hb hab
  · by_cases hji : j = i
    · subst hji
      rw [upd_self] at hgj
      rcases hx with e1 | e1
      · rw [e1] at hgj; exact h.was j hj g hgj
      · rw [e1] at hgj
        injection hgj with e2
        right; omega
    · rw [upd_ne _ _ hji] at hgj
      exact h.was j hj g hgj
end Go.Proofs.Ytbkhhegmmkcbbaa
