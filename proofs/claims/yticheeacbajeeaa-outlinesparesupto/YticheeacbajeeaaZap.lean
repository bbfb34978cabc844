import Derived.Test.YticheeacbajeeaaOlg
import Derived.Test.YticheeacbajeeaaTap
import Derived.Test.YticheeacbajeeaaOfh
import Derived.Test.YticheeacbajeeaaOca
namespace Go.Proofs.Yticheeacbajeeaa
open Go.RowKit Go.Maps

/-- One more in a row of the call's own: the row as it was still lies there. -/
theorem wpList_append_still {P : Program} (w : World) {ops : Array Oper} {rest : List Oper} {o : Oper} {a : Act} {Q : Exit → Act → World → Prop} (hgd : o.guard = none) (s x : Operand) (t : TypeId)
    (ho : o.op = .call { callee := .builtin .append, args := #[s, x], argTypes := #[t, t] })
    (base : Nat) (e : TypeId) (i : TypeInfo) (z : Value) (size bytes : Nat) (ht : P.underlying t = some (.slice e)) (hi : P.info? e = some i) (hz : i.zero = some z)
    (hsize : i.size = size) (hby : i.bytes = bytes) (hzs : z.cells.size = size)
    (v : Value) (n : Nat) (xs : List Value) (hs : a.eval s = v) (hown : w.ownsRow base e size v n xs)
    (ad : Addr) (c : Nat) (news : List Value) (hx : a.eval x = .slice (some ad) 1 c) (hl : news.length = size) (hnews : ∀ j u, news[j]? = some u → w.cell? (ad.add j) = some u) (h1 : ∀ u ∈ news, u.oneCell' = true)
    (h63 : n + 1 ≤ maxLen) (hfit : Builtin.nextslicecap (n + 1) n * bytes ≤ 281474976710656) (hbase : base ≤ w.heap.size)
    (h : ∀ v' w', w'.ownsRow base e size v' (n + 1) (xs ++ news) → w.grownBy w' v.ownBlock → (v'.ownBlock = v.ownBlock ∨ v'.ownBlock = some w.heap.size) → w'.ownsRow base e size v n xs → wpList P ops Q rest (a.put o.dst v') w') :
    wpList P ops Q (o :: rest) a w := by
  have hmx : (n + 1 : Nat) ≤ 9223372036854775807 := by unfold maxLen at h63; omega
  have hg : ∀ (row : Option Nat) (k : Array Value), w.grownBy (w.drew.alloc (.cells k e)) row := fun row k => ⟨rfl, rfl, rfl, by simp, fun j hj _ => Below.heap_alloc w.drew _ j hj⟩
  have hxl := hown.1
  have hlen : xs.length + news.length = (n + 1) * size := by rw [hxl, hl, Nat.add_mul, Nat.one_mul]
  have hn1 : news.length = 1 * i.size := by rw [hl, hsize, Nat.one_mul]
  have hnn : v.ownBlock = none ∨ v.ownBlock ≠ none := by cases v.ownBlock with | none => exact .inl rfl | some r => exact .inr (fun h => by cases h)
  have hkeep : ∀ k, (w.drew.alloc (.cells k e)).ownsRow base e size v n xs := fun k => hown.kept (hg none k) hnn
  rcases hown.2 with ⟨hv, hn⟩ | ⟨g, cap, cur, hv, hb, hgc, hcap, hmxc, hcs, htk⟩
  · subst hn
    have hx0 : xs = [] := List.eq_nil_of_length_eq_zero (by simpa using hxl)
    subst hx0
    have hf : 1 * i.bytes ≤ 281474976710656 := by
      rw [nextslicecap_zero (by omega), ← hby] at hfit
      exact hfit
    have hr := run_append_nil (P := P) w t o.type e i z ht hi hz ad 1 c news hn1 hnews (by omega) (by omega) hf
    refine Lib.wpList_append_run w hgd s x t t ho _ _ (hs.trans hv) hx _ _ hr (h _ _ ?_ (hg _ _) (Or.inr rfl) (hkeep _))
    have h9 := own_big w (e := e) (xs := []) (k := 0 + 1) (cap := grownCap w 1 0 e) hbase hlen hzs (grownCap_ge w 1 0 e) (grownCap_le_maxLen w 1 0 e (by exact h63))
    simpa using h9
  · by_cases hr : n + 1 ≤ cap
    · rw [hv] at hown hs h
      refine wpList_append_fits w hgd s x t ho base e i size ht hi hsize g n cap xs hs hown ad 1 c news hx (by rw [hl, Nat.one_mul]) hnews h1 hr (fun w' r1 r2 => ?_)
      refine h _ w' r1 r2 (Or.inl rfl) ?_
      have h7 := row_low r1 (n := n) (by omega)
      rw [List.take_append_of_le_length (by rw [hxl]; exact Nat.le_refl _), List.take_of_length_le (by rw [hxl]; exact Nat.le_refl _)] at h7
      exact h7
    · have hcn : cap = n := by omega
      subst hcn
      rw [hv] at hown hs h hkeep
      have hrun := run_append_grow (P := P) w t o.type e i z ht hi hz ⟨g, 0, none⟩ cap cap xs (by rw [hsize]; exact hxl) (hown.cells (g := g) rfl) ad 1 c news hn1 hnews (by omega) (by omega) (by rw [hby]; exact hfit)
      refine Lib.wpList_append_run w hgd s x t t ho _ _ hs hx _ _ hrun (h _ _ ?_ (hg _ _) (Or.inr rfl) (hkeep _))
      exact own_big w hbase hlen hzs (grownCap_ge w _ _ e) (grownCap_le_maxLen w _ _ e h63)
/-- A row that begins another of the same block, or lies elsewhere, while the other grows. -/
theorem row_still {B e s n m : Nat} {W W' : World} {v u : Value} {xs ys : List Value} (hs : 0 < s) (hv : W.ownsRow B e s v n xs) (hu : W.ownsRow B e s u m (xs ++ ys)) (hu' : W'.ownsRow B e s u m (xs ++ ys)) (hg : W.grownBy W' u.ownBlock) : W'.ownsRow B e s v n xs := by
  cases hvb : v.ownBlock with
  | none => exact hv.kept hg (.inl hvb)
  | some r =>
    by_cases hne : u.ownBlock = some r
    · rcases hv.2 with ⟨rfl, _⟩ | ⟨g1, cap1, cur1, e1, _, q1, _, _, q2, _⟩
      · cases hvb
      · rcases hu.2 with ⟨rfl, _⟩ | ⟨g2, cap2, cur2, e2, _, q3, _, _, q4, _⟩
        · cases hne
        · rw [e1] at hvb
          rw [e2] at hne
          cases hvb
          cases hne
          rw [q1] at q3
          cases q3
          have hc : cap1 = cap2 := Nat.eq_of_mul_eq_mul_right hs (q2.symm.trans q4)
          subst hc
          have hlx := hv.1
          have hly := hu.1
          rw [List.length_append, hlx] at hly
          have hnm : n ≤ m := Nat.le_of_mul_le_mul_right (by omega : n * s ≤ m * s) hs
          rw [e2] at hu'
          have h7 := row_low hu' hnm
          rw [List.take_append_of_le_length (by rw [hlx]; exact Nat.le_refl _), List.take_of_length_le (by rw [hlx]; exact Nat.le_refl _)] at h7
          rw [e1]
          exact h7
    · exact hv.kept hg (.inr (by rw [hvb]; exact fun h => hne h.symm))

theorem cap_fit2 (n : Nat) (h : n ≤ 1954687338400) : Builtin.nextslicecap (n + 1) n * 104 ≤ 281474976710656 := by
  have key : Builtin.nextslicecap (n + 1) n ≤ n + (n + 768) / 4 + 1 := by
    unfold Builtin.nextslicecap
    split
    · omega
    · split
      · omega
      · rw [growBy_four]
        split
        · omega
        · split
          · omega
          · omega
  omega
/-! Lists of lists that are written over, then made longer. -/
/-- Cells written over from a place on. -/
def ovw : List Value → Nat → List Value → List Value
  | xs, _, [] => xs
  | xs, o, v :: vs => ovw (xs.set o v) (o + 1) vs
theorem row_ovw {B g n cap : Nat} {e : TypeId} {s : Nat} : ∀ (vs : List Value) (o : Nat) (W : World) (xs : List Value), W.ownsRow B e s (.slice (some ⟨g, 0, none⟩) n cap) n xs → (W.setCells g o vs).ownsRow B e s (.slice (some ⟨g, 0, none⟩) n cap) n (ovw xs o vs)
  | [], _, _, _, h => h
  | v :: vs, o, _, _, h => row_ovw vs (o + 1) _ _ (row_set h o v)
theorem grown_cells (g : Nat) : ∀ (vs : List Value) (o : Nat) (W W' : World), W.grownBy W' (some g) → W.grownBy (W'.setCells g o vs) (some g)
  | [], _, _, _, h => h
  | v :: vs, o, W, W', h => grown_cells g vs (o + 1) W _ ⟨h.os, h.tape, h.output, by simpa [World.setCell] using h.size, fun j hj hne => by
      rw [← h.block j hj hne]
      exact Below.heap_setCell _ _ _ _ (fun e => hne (by rw [e]))⟩
theorem ovw_append (xs ys : List Value) : ∀ (vs : List Value) (o : Nat), ovw (xs ++ ys) (xs.length + o) vs = xs ++ ovw ys o vs
  | [], _ => rfl
  | v :: vs, o => by
    show ovw ((xs ++ ys).set (xs.length + o) v) (xs.length + o + 1) vs = xs ++ ovw (ys.set o v) (o + 1) vs
    rw [List.set_append_right _ _ (by omega), Nat.add_sub_cancel_left, Nat.add_assoc]
    exact ovw_append xs (ys.set o v) vs (o + 1)
theorem ovw_all : ∀ (ps vs xs ys : List Value), xs.length = vs.length → ovw (ps ++ (xs ++ ys)) ps.length vs = ps ++ (vs ++ ys)
  | ps, [], xs, ys, h => by
    rw [List.length_nil] at h
    rw [List.eq_nil_of_length_eq_zero h]; rfl
  | ps, v :: vs, [], ys, h => by simp at h
  | ps, v :: vs, x :: xs, ys, h => by
    show ovw ((ps ++ (x :: xs ++ ys)).set ps.length v) (ps.length + 1) vs = _
    have e1 : (ps ++ (x :: xs ++ ys)).set ps.length v = (ps ++ [v]) ++ (xs ++ ys) := by
      rw [List.set_append_right _ _ (Nat.le_refl _), Nat.sub_self]
      simp
    have e2 : ps.length + 1 = (ps ++ [v]).length := by simp
    rw [e1, e2, ovw_all (ps ++ [v]) vs xs ys (by simpa using h)]
    simp
theorem flat_ovw {α : Type} {f : α → List Value} {z : Nat} (hf : ∀ x, (f x).length = z) (x : α) : ∀ (X : List α) (k : Nat), k < X.length → ovw (flat f X) (k * z) (f x) = flat f (X.set k x)
  | [], _, h => by cases h
  | y :: X, 0, _ => by
    have h1 := ovw_all [] (f x) (f y) (flat f X) (by rw [hf, hf])
    rw [Nat.zero_mul]
    exact h1
  | y :: X, k + 1, h => by
    have ih := flat_ovw hf x X k (by simpa using h)
    have e : (k + 1) * z = (f y).length + k * z := by rw [hf, Nat.add_mul, Nat.one_mul, Nat.add_comm]
    show ovw (f y ++ flat f X) ((k + 1) * z) (f x) = f y ++ flat f (X.set k x)
    rw [e, ovw_append, ih]
/-- Only blocks of these lists have turned. -/
structure Oth (v : Nat → Value) (W W' : World) : Prop where
  os : W'.os = W.os
  tape : W'.tape = W.tape
  output : W'.output = W.output
  size : W.heap.size ≤ W'.heap.size
  block : ∀ b, b < W.heap.size → (∀ j, j < 4 → (v j).ownBlock ≠ some b) → W'.heap[b]? = W.heap[b]?
theorem Oth.refl (v : Nat → Value) (W : World) : Oth v W W := ⟨rfl, rfl, rfl, Nat.le_refl _, fun _ _ _ => rfl⟩
theorem Oth.below {v : Nat → Value} {W W' : World} {B : Nat} (h : Oth v W W') (hB : B ≤ W.heap.size) (hv : ∀ j, j < 4 → ∀ g, (v j).ownBlock = some g → B ≤ g) : Below B W W' :=
  ⟨h.os, h.tape, h.output, h.size, fun k hk => h.block k (by omega) fun j hj e => by have := hv j hj k e; omega⟩
theorem Oth.row {v : Nat → Value} {W W' : World} {B : Nat} {e : TypeId} {s n : Nat} {u : Value} {xs : List Value} (h : Oth v W W') (hu : W.ownsRow B e s u n xs) (hne : u.ownBlock = none ∨ ∀ j, j < 4 → u.ownBlock ≠ (v j).ownBlock) : W'.ownsRow B e s u n xs := by
  refine ⟨hu.1, ?_⟩
  rcases hu.2 with h1 | ⟨g, cap, cur, e0, h1, h2, h3⟩
  · exact .inl h1
  · refine .inr ⟨g, cap, cur, e0, h1, ?_, h3⟩
    rw [h.block g (lt_of_heap h2) ?_]
    · exact h2
    · intro j hj e9
      have e8 : u.ownBlock = some g := by rw [e0]; rfl
      rcases hne with h9 | h9
      · rw [h9] at e8; cases e8
      · exact h9 j hj (by rw [e8, e9])
theorem Oth.step {v : Nat → Value} {W W1 W2 : World} {r : Option Nat} (h : Oth v W W1) (hg : W1.grownBy W2 r) (hr : ∀ b, b < W.heap.size → r = some b → ∃ j, j < 4 ∧ (v j).ownBlock = some b) : Oth v W W2 :=
  ⟨hg.os.trans h.os, hg.tape.trans h.tape, hg.output.trans h.output, Nat.le_trans h.size hg.size, fun b hb hne => by
    rw [hg.block b (Nat.lt_of_lt_of_le hb h.size) (fun e => by obtain ⟨j, hj, e1⟩ := hr b hb e.symm; exact hne j hj e1)]
    exact h.block b hb hne⟩
theorem Oth.draw {v : Nat → Value} {W W1 : World} (h : Oth v W W1) : Oth v W W1.drew := ⟨h.os, h.tape, h.output, h.size, h.block⟩
/-- Four lists of the call's own, no two in one block. -/
structure Fm {α : Type} (f : α → List Value) (e : TypeId) (z B : Nat) (W : World) (v : Nat → Value) (n : Nat → Nat) (X : Nat → List α) : Prop where
  row : ∀ j, j < 4 → W.ownsRow B e z (v j) (n j) (flat f (X j))
  len : ∀ j, j < 4 → (X j).length = n j
  ap : ∀ i j, i < 4 → j < 4 → i ≠ j → (v i).ownBlock = none ∨ (v i).ownBlock ≠ (v j).ownBlock
theorem Fm.up {α : Type} {f : α → List Value} {e : TypeId} {z B : Nat} {W W' : World} {v : Nat → Value} {n : Nat → Nat} {X : Nat → List α} (h : Fm f e z B W v n X) (hb : Below W.heap.size W W') : Fm f e z B W' v n X :=
  ⟨fun j hj => row_up (h.row j hj) hb, h.len, h.ap⟩
def upd {α : Type} (X : Nat → α) (i : Nat) (x : α) : Nat → α := fun j => if j = i then x else X j
theorem upd_self {α : Type} (X : Nat → α) (i : Nat) (x : α) : upd X i x i = x := if_pos rfl
theorem upd_ne {α : Type} (X : Nat → α) {i j : Nat} (x : α) (h : j ≠ i) : upd X i x j = X j := if_neg h
theorem Fm.put {α : Type} {f : α → List Value} {e : TypeId} {z B : Nat} {W : World} {v : Nat → Value} {n : Nat → Nat} {X : Nat → List α} (hf : ∀ x, (f x).length = z) (h : Fm f e z B W v n X) {i g cap k : Nat} (hi : i < 4) (hv : v i = .slice (some ⟨g, 0, none⟩) (n i) cap) (hk : k < n i) (x : α) :
    Fm f e z B (W.setCells g (k * z) (f x)) v n (upd X i ((X i).set k x)) ∧ W.grownBy (W.setCells g (k * z) (f x)) (v i).ownBlock := by
  have hb : (v i).ownBlock = some g := by rw [hv]; rfl
  have hG : W.grownBy (W.setCells g (k * z) (f x)) (some g) := grown_cells g _ _ W W ⟨rfl, rfl, rfl, Nat.le_refl _, fun _ _ _ => rfl⟩
  refine ⟨⟨fun j hj => ?_, fun j hj => ?_, h.ap⟩, by rw [hb]; exact hG⟩
  · by_cases hji : j = i
    · subst hji
      rw [upd_self]
      have hr := h.row j hj
      rw [hv] at hr ⊢
      have h9 := row_ovw (f x) (k * z) W _ hr
      rw [flat_ovw hf x (X j) k (by rw [h.len j hj]; exact hk)] at h9
      exact h9
    · rw [upd_ne _ _ hji]
      refine (h.row j hj).kept hG ?_
      rw [← hb]
      exact h.ap j i hj hi hji
  · by_cases hji : j = i
    · subst hji
      rw [upd_self, List.length_set]
      exact h.len j hj
    · rw [upd_ne _ _ hji]
      exact h.len j hj
/-- The same lists, and longer ones. -/
structure Fg {α : Type} (f : α → List Value) (e : TypeId) (z B N : Nat) (W : World) (v u : Nat → Value) (n m : Nat → Nat) (X Z : Nat → List α) : Prop where
  old : Fm f e z B W v n X
  row : ∀ j, j < 4 → W.ownsRow B e z (u j) (n j + m j) (flat f (X j) ++ flat f (Z j))
  len : ∀ j, j < 4 → (Z j).length = m j
  ap : ∀ i j, i < 4 → j < 4 → i ≠ j → (u i).ownBlock = none ∨ (u i).ownBlock ≠ (u j).ownBlock
  was : ∀ j, j < 4 → ∀ g, (u j).ownBlock = some g → (v j).ownBlock = some g ∨ N ≤ g
  lt : ∀ j, j < 4 → ∀ g, (v j).ownBlock = some g → g < N
theorem Fg.start {α : Type} {f : α → List Value} {e : TypeId} {z B : Nat} {W : World} {v : Nat → Value} {n : Nat → Nat} {X : Nat → List α} (h : Fm f e z B W v n X) {N : Nat} (hN : ∀ j, j < 4 → ∀ g, (v j).ownBlock = some g → g < N) : Fg f e z B N W v v n (fun _ => 0) X (fun _ => []) :=
  ⟨h, fun j hj => by
    have h9 := h.row j hj
    show W.ownsRow B e z (v j) (n j + 0) (flat f (X j) ++ [])
    rw [List.append_nil]; exact h9, fun _ _ => rfl, h.ap, fun _ _ _ hg => .inl hg, hN⟩
theorem Fg.up {α : Type} {f : α → List Value} {e : TypeId} {z B N : Nat} {W W' : World} {v u : Nat → Value} {n m : Nat → Nat} {X Z : Nat → List α} (h : Fg f e z B N W v u n m X Z) (hb : Below W.heap.size W W') : Fg f e z B N W' v u n m X Z :=
  ⟨h.old.up hb, fun j hj => row_up (h.row j hj) hb, h.len, h.ap, h.was, h.lt⟩
/-- The world has grown in a row of another kind. -/
theorem Fg.far {α : Type} {f : α → List Value} {e : TypeId} {z B N : Nat} {W W' : World} {v u : Nat → Value} {n m : Nat → Nat} {X Z : Nat → List α} (h : Fg f e z B N W v u n m X Z) {r : Option Nat} (hg : W.grownBy W' r) {B' : Nat} {e' : TypeId} {s' n' : Nat} {l : Value} {xs : List Value} (hl : W.ownsRow B' e' s' l n' xs) (hr : r = l.ownBlock) (hne : e ≠ e') : Fg f e z B N W' v u n m X Z := by
  subst hr
  exact ⟨⟨fun j hj => (h.old.row j hj).kept hg (tag_ne (h.old.row j hj) hl hne), h.old.len, h.old.ap⟩, fun j hj => (h.row j hj).kept hg (tag_ne (h.row j hj) hl hne), h.len, h.ap, h.was, h.lt⟩
/-- One more in row i. -/
theorem Fg.app {α : Type} {f : α → List Value} {e : TypeId} {z B N : Nat} {W W' : World} {v u : Nat → Value} {n m : Nat → Nat} {X Z : Nat → List α} (hz : 0 < z) (h : Fg f e z B N W v u n m X Z) (hN : N ≤ W.heap.size) {i : Nat} (hi : i < 4) {x : Value} (y : α)
    (ho : W'.ownsRow B e z x (n i + m i + 1) ((flat f (X i) ++ flat f (Z i)) ++ f y)) (hg : W.grownBy W' (u i).ownBlock) (hx : x.ownBlock = (u i).ownBlock ∨ x.ownBlock = some W.heap.size) (hs : W'.ownsRow B e z (u i) (n i + m i) (flat f (X i) ++ flat f (Z i))) :
    Fg f e z B N W' v (upd u i x) n (upd m i (m i + 1)) X (upd Z i (Z i ++ [y])) := by
  have hult : ∀ j, j < 4 → ∀ g, (u j).ownBlock = some g → g < W.heap.size := fun j hj g hg => ((h.row j hj).lt g hg).2
  have hvu : ∀ i j, i < 4 → j < 4 → i ≠ j → (v j).ownBlock = none ∨ (v j).ownBlock ≠ (u i).ownBlock := fun i j hi hj hij => by
    cases hv : (v j).ownBlock with
    | none => exact .inl rfl
    | some g =>
      refine .inr fun e9 => ?_
      rcases h.was i hi g e9.symm with h1 | h1
      · rcases h.old.ap i j hi hj hij with h2 | h2
        · rw [h2] at h1; cases h1
        · exact h2 (by rw [h1, hv])
      · have := h.lt j hj g hv; omega
  refine ⟨⟨fun j hj => ?_, h.old.len, h.old.ap⟩, fun j hj => ?_, fun j hj => ?_, fun a b ha hb hab => ?_, fun j hj g hgj => ?_, h.lt⟩
  · by_cases hji : j = i
    · subst hji
      exact row_still hz (h.old.row j hj) (h.row j hj) hs hg
    · exact (h.old.row j hj).kept hg (hvu i j hi hj (Ne.symm hji))
  · by_cases hji : j = i
    · subst hji
      rw [upd_self, upd_self, upd_self, flat_app, ← List.append_assoc, show flat f [y] = f y from List.append_nil _, ← Nat.add_assoc]
      exact ho
    · rw [upd_ne _ _ hji, upd_ne _ _ hji, upd_ne _ _ hji]
      refine (h.row j hj).kept hg ?_
      exact h.ap j i hj hi hji
  · by_cases hji : j = i
    · subst hji
      rw [upd_self, upd_self, List.length_append, h.len j hj]; rfl
    · rw [upd_ne _ _ hji, upd_ne _ _ hji]
      exact h.len j hj
  · by_cases hai : a = i
    · subst hai
      rw [upd_self, upd_ne _ _ (Ne.symm hab)]
      rcases hx with e1 | e1
      · rw [e1]; exact h.ap a b ha hb hab
      · refine .inr ?_
        rw [e1]
        intro e2
        have := hult b hb _ e2.symm
        omega
    · rw [upd_ne _ _ hai]
      by_cases hbi : b = i
      · subst hbi
        rw [upd_self]
        rcases hx with e1 | e1
        · rw [e1]; exact h.ap a b ha hb hab
        · cases hq : (u a).ownBlock with
          | none => exact .inl rfl
          | some g =>
            refine .inr ?_
            rw [e1]
            intro e2
            have := hult a ha _ hq
            injection e2 with e2
            omega
      · rw [upd_ne _ _ hbi]
        exact h.ap a b ha hb hab
  · by_cases hji : j = i
    · subst hji
      rw [upd_self] at hgj
      rcases hx with e1 | e1
      · rw [e1] at hgj; exact h.was j hj g hgj
      · rw [e1] at hgj
        injection hgj with e2
        right; omega
    · rw [upd_ne _ _ hji] at hgj
      exact h.was j hj g hgj
end Go.Proofs.Yticheeacbajeeaa
namespace Go.Proofs.Yticheeacbajeeaa
open Go.RowKit Go.Maps

/-- A fold, of any numbers. -/
def fdi (x : Int × Int) : List Value := [.int .i64 x.1, .int .i64 x.2]
theorem fdi_len (x : Int × Int) : (fdi x).length = 2 := rfl
theorem fdi_one (x : Int × Int) : ∀ u ∈ fdi x, u.oneCell' = true := fun u hu => by
  simp only [fdi, List.mem_cons, List.not_mem_nil, or_false] at hu
  rcases hu with rfl | rfl <;> rfl
def spF (i : Nat) : Int × Int := (-9, 1000 + (i : Int))
def apF (i : Nat) : Int × Int := (-8, 500000 + (i : Int))
def zzF : Int × Int := (0, 0)
theorem eq_spF (i : Nat) (W : World) : (Op.equalIn 10000 57 (.agg #[.int .i64 (-9), .int .i64 (1000 + (i : Int))]) (.agg #[.int .i64 (-9), .int .i64 (1000 + (i : Int))])).run Try.prog W = .ok true W := by
  go_simp
theorem eq_apF (i : Nat) (W : World) : (Op.equalIn 10000 57 (.agg #[.int .i64 (-8), .int .i64 (500000 + (i : Int))]) (.agg #[.int .i64 (-8), .int .i64 (500000 + (i : Int))])).run Try.prog W = .ok true W := by
  go_simp
theorem infoRF : (Try.prog.info? 53).map (fun i => (i.zero, i.size, i.bytes)) = some (some (.slice none 0 0), 1, 24) := by kernel_rfl
theorem szF : (Try.prog.info? 57).map (·.size) = some 2 := by kernel_rfl
theorem row_thereF {W : World} {B g n cap k : Nat} {s : List (Int × Int)} (h : W.ownsRow B 57 2 (.slice (some ⟨g, 0, none⟩) n cap) n (flat fdi s)) (hi : k < s.length) : W.there g (k * 2) 2 := fun j hj => by
  obtain ⟨_, cur, hgh⟩ := row_tag h g rfl
  refine ⟨?_, Lib.frozen_of_heap hgh _⟩
  have hl : k * 2 + j < (flat fdi s).length := by rw [flat_len fdi_len]; omega
  rw [row_at h (k * 2 + j) _ (List.getElem?_eq_getElem hl)]
  rfl
def vsl (a : Nat → Option Addr) (n c : Nat → Nat) : Nat → Value := fun j => .slice (a j) (n j) (c j)
theorem Fm.congrF {B : Nat} {W : World} {v : Nat → Value} {n : Nat → Nat} {X Y : Nat → List (Int × Int)} (h : Fm fdi 57 2 B W v n X) (he : ∀ j, j < 4 → X j = Y j) : Fm fdi 57 2 B W v n Y :=
  ⟨fun j hj => by rw [← he j hj]; exact h.row j hj, fun j hj => by rw [← he j hj]; exact h.len j hj, h.ap⟩
theorem take_put' {α : Type} (l : List α) (k : Nat) (e : α) (h : k < l.length) : (l.set k e).take (k + 1) = l.take k ++ [e] := by
  rw [List.take_set, List.take_add_one, List.getElem?_eq_getElem h]
  rw [List.set_append_right _ _ (by rw [List.length_take]; omega)]
  rw [List.length_take, Nat.min_eq_left (by omega)]
  simp
theorem list4F {W : World} {lb : Nat} {a : Nat → Option Addr} {n c : Nat → Nat} (h : W.heap[lb]? = some (.cells #[vsl a n c 0, vsl a n c 1, vsl a n c 2, vsl a n c 3] 53 (0, 0))) (i : Nat) (hi : i < 4) : W.cell? ⟨lb, i, none⟩ = some (.slice (a i) (n i) (c i)) := by
  rcases (by omega : i = 0 ∨ i = 1 ∨ i = 2 ∨ i = 3) with rfl | rfl | rfl | rfl
  · exact rcell h 0 _ rfl
  · exact rcell h 1 _ rfl
  · exact rcell h 2 _ rfl
  · exact rcell h 3 _ rfl
set_option maxRecDepth 100000 in
set_option maxHeartbeats 16000000 in
theorem foldsApart_any (w : World) (B lb : Nat) (a : Nat → Option Addr) (n c : Nat → Nat) (X : Nat → List (Int × Int)) (h : Fm fdi 57 2 B w (vsl a n c) n X) (hl : w.heap[lb]? = some (.cells #[vsl a n c 0, vsl a n c 1, vsl a n c 2, vsl a n c 3] 53 (0, 0))) (hn : ∀ j, j < 4 → n j ≤ 1954687338212) (hB : B ≤ w.heap.size) : Calls Try.prog 18 #[.slice (some ⟨lb, 0, none⟩) 4 4] w fun e w' => e = .returned (.bool true) ∧ Oth (vsl a n c) w w' := by
  obtain ⟨iF, hiF, hx0, hx1, hx2⟩ := info_parts infoF
  obtain ⟨iR, hiR, hy0, hy1, hy2⟩ := info_parts infoRF
  have HFM : Hid (Fm fdi 57 2 B w (vsl a n c) n X) := h
  have HL : Hid (w.heap[lb]? = some (.cells #[vsl a n c 0, vsl a n c 1, vsl a n c 2, vsl a n c 3] 53 (0, 0))) := hl
  have HN : Hid (∀ j, j < 4 → n j ≤ 1954687338212) := hn
  have HBB : Hid (B ≤ w.heap.size) := hB
  clear h hl hn hB
  go_enter Try.func18, Try.ntmps18
  go_upto_region 2 with fail
  go_loopg [3] 4 (fun gm v3 wr => ∃ (i : Nat) (X' : Nat → List (Int × Int)), v3 = .int .i64 (i : Int) ∧ Hid (i ≤ 4 ∧ gm = 4 - i) ∧ Hid (Fm fdi 57 2 B wr (vsl a n c) n X') ∧ Hid (∀ j, j < i → X' j = List.replicate (n j) (spF j)) ∧ Hid (Oth (vsl a n c) w wr) ∧ Hid (wr.heap[lb]? = some (.cells #[vsl a n c 0, vsl a n c 1, vsl a n c 2, vsl a n c 3] 53 (0, 0))))
  case atStart => exact ⟨0, X, rfl, ⟨Nat.zero_le _, rfl⟩, HFM, fun j hj => absurd hj (Nat.not_lt_zero _), Oth.refl _ _, HL⟩
  case round =>
    obtain ⟨i, X1, rfl, HI, HX, HS, HO, HLB⟩ := hrel
    obtain ⟨wa, hwa⟩ : ∃ wa, wa = wr := ⟨_, rfl⟩
    rw [← hwa] at HX HO HLB ⊢
    clear hwa
    by_cases hi : i < 4
    · have e1 : decide ((i : Int) < 4) = true := by rw [decide_eq_true_eq]; omega
      have b1 : (i : Int) < 4 := by omega
      have b2 : i < 4 := hi
      have b3 : (0 : Int) ≤ (i : Int) := by omega
      have HIL : Hid (i < 4) := hi
      have hwi := w64n i (by omega)
      clear hi
      go_upto_region 5 with fail
      go_loopg [4] (n i) (fun gm v4 wr => ∃ (k : Nat) (X' : Nat → List (Int × Int)), v4 = .int .i64 (k : Int) ∧ Hid (k ≤ n i ∧ gm = n i - k) ∧ Hid (Fm fdi 57 2 B wr (vsl a n c) n X') ∧ Hid (∀ j, j < i → X' j = List.replicate (n j) (spF j)) ∧ Hid ((X' i).take k = List.replicate k (spF i)) ∧ Hid (Oth (vsl a n c) w wr) ∧ Hid (wr.heap[lb]? = some (.cells #[vsl a n c 0, vsl a n c 1, vsl a n c 2, vsl a n c 3] 53 (0, 0))))
      case atStart => exact ⟨0, X1, rfl, ⟨Nat.zero_le _, rfl⟩, HX, HS, rfl, HO, HLB⟩
      case round =>
        clear HX HS HO HLB
        obtain ⟨k, X2, rfl, HK, HX, HS, HT, HO, HLB⟩ := hrel
        obtain ⟨wb, hwb⟩ : ∃ wb, wb = wr := ⟨_, rfl⟩
        rw [← hwb] at HX HO HLB ⊢
        clear hwb
        have hc := list4F HLB.out i b2
        have hwk := w64n k (by have := HN.out i b2; have := HK.out; omega)
        by_cases hk : k < n i
        · have d1 : decide ((k : Int) < (n i : Int)) = true := by rw [decide_eq_true_eq]; omega
          have d2 : decide (k < n i) = true := decide_eq_true hk
          have b4 : (k : Int) < (n i : Int) := by omega
          have b5 : (0 : Int) ≤ (k : Int) := by omega
          have HKL : Hid (k < n i) := hk
          have hw1 : IntKind.i64.wrap (1000 + (i : Int)) = 1000 + (i : Int) := by rw [IntKind.wrap_i64]; omega
          obtain ⟨g, hag⟩ : ∃ g, a i = some ⟨g, 0, none⟩ := by
            obtain ⟨g, cap, e0, -⟩ := row_form (HX.out.row i b2) (by omega)
            exact ⟨g, (Value.slice.inj e0).1⟩
          rw [hag] at hc
          have HPUT : Hid _ := HX.out.put fdi_len b2 (by show Value.slice _ _ _ = _; rw [hag]) hk (spF i)
          have HTH : Hid (wb.there g (k * 2) 2) := by
            have hr : wb.ownsRow B 57 2 (.slice (a i) (n i) (c i)) (n i) (flat fdi (X2 i)) := HX.out.row i b2
            rw [hag] at hr
            exact row_thereF hr (by rw [HX.out.len i b2]; exact hk)
          clear hk
          go_wp2_with (refine wpList_store_mid rfl 57 _ _ rfl g (k * 2) #[.int .i64 (-9), .int .i64 (1000 + (i : Int))] rfl rfl HTH.out szF (all_oneCell_toArray (fdi_one (spF i))) ?_; obtain ⟨wc, hwc⟩ : ∃ wc, wb.setCells g (k * 2) (fdi (spF i)) = wc := ⟨_, rfl⟩; have HP : Hid (Fm fdi 57 2 B wc (vsl a n c) n (upd X2 i ((X2 i).set k (spF i))) ∧ wb.grownBy wc (vsl a n c i).ownBlock) := (by have h7 := HPUT.out; rw [hwc] at h7; exact h7); refine (show wpList _ _ _ _ _ (wb.setCells g (k * 2) (fdi (spF i))) from ?_); rw [hwc]; clear hwc HPUT HTH)
          go_roundg (n i - (k + 1))
          case measure => have := HK.out; have := HKL.out; omega
          case rel =>
            have hbi : (vsl a n c i).ownBlock = some g := by show (Value.slice _ _ _).ownBlock = _; rw [hag]; rfl
            have hlb : g ≠ lb := fun e9 => by
              obtain ⟨_, cur, h9⟩ := row_tag (HX.out.row i b2) g hbi
              rw [e9, HLB.out] at h9
              cases h9
            refine ⟨k + 1, _, by simp, ⟨HKL.out, rfl⟩, HP.out.1, fun j hj => ?_, ?_, HO.out.step HP.out.2 (fun b _ hb => ⟨i, b2, hb⟩), ?_⟩
            · show upd X2 i _ j = _
              rw [upd_ne _ _ (by omega)]
              exact HS.out j hj
            · show List.take (k + 1) (upd X2 i _ i) = _
              rw [upd_self, take_put' _ _ _ (by rw [HX.out.len i b2]; exact HKL.out), HT.out, List.replicate_succ']
            · show wc.heap[lb]? = _
              rw [HP.out.2.block lb (lt_of_heap HLB.out) (by rw [hbi]; exact fun e9 => hlb (Option.some.inj e9).symm)]
              exact HLB.out
        · have d1 : decide ((k : Int) < (n i : Int)) = false := by rw [decide_eq_false_iff_not]; omega
          have d2 : decide (k < n i) = false := decide_eq_false hk
          have hkn : k = n i := by have := HK.out; omega
          clear hk
          go_wp2_with fail
          go_roundg (4 - (i + 1))
          case measure => have := HI.out; have := HIL.out; omega
          case rel =>
            refine ⟨i + 1, X2, by simp, ⟨HIL.out, rfl⟩, HX, fun j hj => ?_, HO, HLB⟩
            rcases Nat.lt_succ_iff_lt_or_eq.1 hj with h1 | rfl
            · exact HS.out j h1
            · have h9 := HT.out
              rw [hkn, List.take_of_length_le (by rw [HX.out.len j b2]; exact Nat.le_refl _)] at h9
              exact h9
    · have e1 : decide ((i : Int) < 4) = false := by rw [decide_eq_false_iff_not]; omega
      have hi4 : i = 4 := by have := HI.out; omega
      subst hi4
      clear hi
      have HX0 : Hid (Fm fdi 57 2 B wa (vsl a n c) n (fun j => List.replicate (n j) (spF j))) := Fm.congrF HX.out HS.out
      obtain ⟨N, hNn⟩ : ∃ N, wa.heap.size = N := ⟨_, rfl⟩
      have HNN : Hid (wa.heap.size = N) := hNn
      have HWN : Hid (w.heap.size ≤ N) := by have := HO.out.size; rw [← hNn]; exact this
      have HLN : Hid (lb < N) := by rw [← hNn]; exact lt_of_heap HLB.out
      have HG0 : Hid (Fg fdi 57 2 B N wa (vsl a n c) (vsl a n c) n (fun _ => 0) (fun j => List.replicate (n j) (spF j)) (fun _ => [])) := Fg.start HX0.out (fun j hj g hg => by rw [← hNn]; exact ((HX0.out.row j hj).lt g hg).2)
      clear hNn HX HS HX0
      go_upto_region 10 with fail
      obtain ⟨X0, hX0⟩ : ∃ X0 : Nat → List (Int × Int), (fun j => List.replicate (n j) (spF j)) = X0 := ⟨_, rfl⟩
      have HX0 : Hid (∀ j, X0 j = List.replicate (n j) (spF j)) := fun j => by rw [← hX0]
      rw [hX0] at HG0
      clear hX0 HI
      go_loopg [5, 6] 4 (fun gm v5 v6 wr => ∃ (i : Nat) (u : Nat → Value) (m : Nat → Nat) (Z : Nat → List (Int × Int)), v6 = .int .i64 (i : Int) ∧ Hid (i ≤ 4 ∧ gm = 4 - i) ∧ Hid (Fg fdi 57 2 B N wr (vsl a n c) u n m X0 Z) ∧ Hid (∀ j, j < i → m j = 70 ∧ Z j = List.replicate 70 (apF j)) ∧ Hid (∀ j, i ≤ j → u j = vsl a n c j ∧ m j = 0 ∧ Z j = []) ∧ Hid (wr.ownsRow N 53 1 v5 i ((List.range i).map u)) ∧ Hid (Oth (vsl a n c) w wr ∧ N ≤ wr.heap.size ∧ wr.heap[lb]? = some (.cells #[vsl a n c 0, vsl a n c 1, vsl a n c 2, vsl a n c 3] 53 (0, 0))))
      case atStart => exact ⟨0, vsl a n c, fun _ => 0, fun _ => [], rfl, ⟨Nat.zero_le _, rfl⟩, HG0, fun j hj => absurd hj (Nat.not_lt_zero _), fun j _ => ⟨rfl, rfl, rfl⟩, World.ownsRow_nil _ _ _ _, HO.out, Nat.le_of_eq HNN.out.symm, HLB.out⟩
      case round =>
        clear HG0 HO HLB HNN e1
        obtain ⟨i, u, m, Z, rfl, HI, HG, HS, HR, HV, HO⟩ := hrel
        obtain ⟨wb, hwb⟩ : ∃ wb, wb = wr := ⟨_, rfl⟩
        rw [← hwb] at HG HV HO ⊢
        clear hwb
        obtain ⟨a5, q5, rfl⟩ := row_shape HV.out
        by_cases hi : i < 4
        · have e1 : decide ((i : Int) < 4) = true := by rw [decide_eq_true_eq]; omega
          have b1 : (i : Int) < 4 := by omega
          have b2 : i < 4 := hi
          have b3 : (0 : Int) ≤ (i : Int) := by omega
          have HIL : Hid (i < 4) := hi
          have hwi := w64n i (by omega)
          have hc := list4F HO.out.2.2 i b2
          clear hi
          have HUI : Hid (u i = .slice (a i) (n i) (c i)) := (HR.out i (Nat.le_refl _)).1
          go_upto_region 14 with fail
          clear hc
          go_loopg [7, 8] 70 (fun gm v7 v8 wr => ∃ (k : Nat) (u' : Nat → Value) (m' : Nat → Nat) (Z' : Nat → List (Int × Int)), v7 = u' i ∧ v8 = .int .i64 (k : Int) ∧ Hid (k ≤ 70 ∧ gm = 70 - k) ∧ Hid (Fg fdi 57 2 B N wr (vsl a n c) u' n m' X0 Z') ∧ Hid (∀ j, j < i → m' j = 70 ∧ Z' j = List.replicate 70 (apF j)) ∧ Hid (∀ j, i < j → u' j = vsl a n c j ∧ m' j = 0 ∧ Z' j = []) ∧ Hid (m' i = k ∧ Z' i = List.replicate k (apF i)) ∧ Hid (wr.ownsRow N 53 1 (.slice a5 i q5) i ((List.range i).map u')) ∧ Hid (Oth (vsl a n c) w wr ∧ N ≤ wr.heap.size ∧ wr.heap[lb]? = some (.cells #[vsl a n c 0, vsl a n c 1, vsl a n c 2, vsl a n c 3] 53 (0, 0))))
          case atStart => exact ⟨0, u, m, Z, HUI.out.symm, rfl, ⟨Nat.zero_le _, rfl⟩, HG, HS, fun j hj => HR.out j (Nat.le_of_lt hj), (HR.out i (Nat.le_refl _)).2, HV, HO⟩
          case round =>
            clear HG HS HR HV HO HUI
            obtain ⟨k, u', m', Z', rfl, rfl, HK, HG, HS, HR, HM, HV, HO⟩ := hrel
            obtain ⟨wc, hwc⟩ : ∃ wc, wc = wr := ⟨_, rfl⟩
            rw [← hwc] at HG HV HO ⊢
            clear hwc
            obtain ⟨ur, hur⟩ : ∃ ur, u' i = ur := ⟨_, rfl⟩
            have HUR : Hid (u' i = ur) := hur
            rw [hur]
            clear hur
            have hwk := w64n k (by have := HK.out; omega)
            by_cases hk : k < 70
            · have d1 : decide ((k : Int) < 70) = true := by rw [decide_eq_true_eq]; omega
              have b4 : (k : Int) < 70 := by omega
              have HKL : Hid (k < 70) := hk
              have hw1 : IntKind.i64.wrap (500000 + (i : Int)) = 500000 + (i : Int) := by rw [IntKind.wrap_i64]; omega
              have HRW : Hid (wc.ownsRow B 57 2 ur (n i + k) (flat fdi (X0 i) ++ flat fdi (Z' i))) := by have h9 := HG.out.row i b2; rw [HUR.out, HM.out.1] at h9; exact h9
              have HMX : Hid (n i + k + 1 ≤ maxLen ∧ Builtin.nextslicecap (n i + k + 1) (n i + k) * 16 ≤ 281474976710656) := ⟨by have := HN.out i b2; have := HK.out; unfold maxLen; omega, by have h7 := cap_fit2 (n i + k) (by have := HN.out i b2; have := HK.out; omega); omega⟩
              have HSB : Hid (B ≤ wc.heap.size + 1) := by have := HBB.out; have := HO.out.1.size; show _ ≤ _; omega
              obtain ⟨xs, hxs⟩ : ∃ xs, flat fdi (X0 i) ++ flat fdi (Z' i) = xs := ⟨_, rfl⟩
              have HXS : Hid (flat fdi (X0 i) ++ flat fdi (Z' i) = xs) := hxs
              rw [hxs] at HRW
              clear hk hxs
              go_wp2_with (at_builtin; refine wpList_append_still _ rfl _ _ 53 rfl B 57 iF _ 2 16 Try.underlying53 hiF hx0 hx1 hx2 rfl ur (n i + k) xs rfl (row_up HRW.out (bel_up _ _)) ⟨wc.heap.size, 0, none⟩ 1 [.int .i64 (-8), .int .i64 (500000 + (i : Int))] rfl rfl (World.news_of_block (heap_new _ _)) (fun u hu => fdi_one (apF i) u hu) HMX.out.1 HMX.out.2 (by have := HSB.out; simp; omega) ?_; intro v7 w7 ho7 hg7 hx7 hs7; have HAP : Hid (w7.ownsRow B 57 2 v7 (n i + k + 1) (xs ++ fdi (apF i)) ∧ (wc.alloc (.cells #[.int .i64 (-8), .int .i64 (500000 + (i : Int))] 57)).grownBy w7 ur.ownBlock ∧ (v7.ownBlock = ur.ownBlock ∨ v7.ownBlock = some (wc.heap.size + 1)) ∧ w7.ownsRow B 57 2 ur (n i + k) xs) := ⟨ho7, hg7, (by rw [World.size_alloc] at hx7; exact hx7), hs7⟩; clear ho7 hg7 hx7 hs7)
              go_roundg (70 - (k + 1))
              case measure => have := HK.out; have := HKL.out; omega
              case rel =>
                obtain ⟨p1, p2, p3, p4⟩ := HAP.out
                have hG1 := HG.out.up (bel_up wc (.cells #[.int .i64 (-8), .int .i64 (500000 + (i : Int))] 57))
                have hG2 := Fg.app (by decide) hG1 (by rw [World.size_alloc]; have := HO.out.2.1; omega) b2 (x := v7) (apF i) (by rw [HM.out.1, HXS.out]; exact p1) (by rw [HUR.out]; exact p2) (by rw [HUR.out, World.size_alloc]; exact p3) (by rw [HUR.out, HM.out.1, HXS.out]; exact p4)
                have hul := HG.out.row i b2
                rw [HUR.out] at hul
                have hul1 := row_up hul (bel_up wc (.cells #[.int .i64 (-8), .int .i64 (500000 + (i : Int))] 57))
                have hlv := row_up HV.out (bel_up wc (.cells #[.int .i64 (-8), .int .i64 (500000 + (i : Int))] 57))
                have hmap : (List.range i).map (upd u' i v7) = (List.range i).map u' := by
                  refine List.map_congr_left (fun j hj => ?_)
                  rw [List.mem_range] at hj
                  exact upd_ne _ _ (by omega)
                have hlb2 : (wc.alloc (.cells #[.int .i64 (-8), .int .i64 (500000 + (i : Int))] 57)).heap[lb]? = some (.cells #[vsl a n c 0, vsl a n c 1, vsl a n c 2, vsl a n c 3] 53 (0, 0)) := by
                  rw [(bel_up wc _).block lb (lt_of_heap HO.out.2.2)]; exact HO.out.2.2
                have hO1 : Oth (vsl a n c) w (wc.alloc (.cells #[.int .i64 (-8), .int .i64 (500000 + (i : Int))] 57)) := HO.out.1.step (grown_of_below (bel_up _ _)) (fun b _ hb => by cases hb)
                refine ⟨k + 1, upd u' i v7, upd m' i (m' i + 1), upd Z' i (Z' i ++ [apF i]), (upd_self _ _ _).symm, by simp, ⟨HKL.out, rfl⟩, hG2, fun j hj => ?_, fun j hj => ?_, ⟨?_, ?_⟩, ?_, hO1.step p2 (fun b hb e9 => ?_), ?_, ?_⟩
                · rw [upd_ne _ _ (by omega), upd_ne _ _ (by omega)]; exact HS.out j hj
                · rw [upd_ne _ _ (by omega), upd_ne _ _ (by omega), upd_ne _ _ (by omega)]; exact HR.out j hj
                · rw [upd_self, HM.out.1]
                · rw [upd_self, HM.out.2, List.replicate_succ']
                · show World.ownsRow _ _ _ _ _ _ _
                  rw [hmap]
                  exact hlv.kept p2 (tag_ne hlv hul1 (by decide))
                · rw [← HUR.out] at e9
                  rcases HG.out.was i b2 b e9 with h1 | h1
                  · exact ⟨i, b2, h1⟩
                  · have := HWN.out; omega
                · have := p2.size; rw [World.size_alloc] at this; have := HO.out.2.1; omega
                · rw [p2.block lb (lt_of_heap hlb2) (fun e9 => tag_ne_blk hul1 hlb2 (by decide) e9.symm)]
                  exact hlb2
            · have d1 : decide ((k : Int) < 70) = false := by rw [decide_eq_false_iff_not]; omega
              have hkn : k = 70 := by have := HK.out; omega
              subst hkn
              clear hk
              have HMX : Hid (i + 1 ≤ maxLen ∧ (i + 1) * 24 ≤ 140737488355328) := by show _ ∧ _; unfold maxLen; omega
              have HLT : Hid (lb < N ∧ N ≤ wc.heap.size) := ⟨HLN.out, HO.out.2.1⟩
              obtain ⟨ua, uc, hsl⟩ := row_shape (HG.out.row i b2)
              rw [HUR.out, HM.out.1] at hsl
              subst hsl
              have hz70 : IntKind.i64.wrap ((n i : Int) + 70) = (n i : Int) + 70 := by have := HN.out i b2; rw [IntKind.wrap_i64]; omega
              go_wp2_with (at_builtin; refine wpList_append_own_at _ rfl _ _ 63 rfl N 53 iR _ 1 24 Try.underlying63 hiR hy0 hy1 hy2 rfl (by decide) (.slice a5 i q5) i ((List.range i).map u') rfl (row_up HV.out (bel_up _ _)) ⟨wc.heap.size, 0, none⟩ 1 1 [.slice ua (n i + 70) uc] rfl rfl (World.news_of_block (heap_new _ _)) (fun u hu => by rw [List.mem_singleton.1 hu]; rfl) HMX.out.1 HMX.out.2 (by have := HLT.out; simp; omega) ?_; intro v8 w8 ho8 hg8 _ _; have HAP : Hid (w8.ownsRow N 53 1 v8 (i + 1) ((List.range i).map u' ++ [.slice ua (n i + 70) uc]) ∧ (wc.alloc (.cells #[.slice ua (n i + 70) uc] 53)).grownBy w8 (Value.slice a5 i q5).ownBlock) := ⟨ho8, hg8⟩; clear ho8 hg8)
              go_roundg (4 - (i + 1))
              case measure => have := HI.out; have := HIL.out; omega
              case rel =>
                obtain ⟨p1, p2⟩ := HAP.out
                have hb1 : Below wc.heap.size wc (wc.alloc (.cells #[.slice ua (n i + 70) uc] 53)) := bel_up wc _
                have hlv := row_up HV.out hb1
                have hG2 := (HG.out.up hb1).far p2 hlv rfl (by decide)
                have hO1 : Oth (vsl a n c) w (wc.alloc (.cells #[.slice ua (n i + 70) uc] 53)) := HO.out.1.step (grown_of_below hb1) (fun b _ hb => by cases hb)
                have hlb2 : (wc.alloc (.cells #[.slice ua (n i + 70) uc] 53)).heap[lb]? = some (.cells #[vsl a n c 0, vsl a n c 1, vsl a n c 2, vsl a n c 3] 53 (0, 0)) := by
                  rw [hb1.block lb (lt_of_heap HO.out.2.2)]; exact HO.out.2.2
                refine ⟨i + 1, u', m', Z', by simp, ⟨HIL.out, rfl⟩, hG2, fun j hj => ?_, fun j hj => HR.out j (by omega), ?_, hO1.step p2 (fun b hb e9 => ?_), ?_, ?_⟩
                · rcases Nat.lt_succ_iff_lt_or_eq.1 hj with h1 | rfl
                  · exact HS.out j h1
                  · exact HM.out
                · show World.ownsRow _ _ _ _ _ _ _
                  rw [List.range_succ, List.map_append, List.map_cons, List.map_nil, HUR.out]
                  exact p1
                · have h3 := (hlv.lt b e9).1
                  have := HWN.out; omega
                · have := p2.size; have := hb1.size; have := HO.out.2.1; omega
                · rw [p2.block lb (lt_of_heap hlb2) (fun e9 => by have h3 := (hlv.lt lb e9.symm).1; have := HLN.out; omega)]
                  exact hlb2
        · have e1 : decide ((i : Int) < 4) = false := by rw [decide_eq_false_iff_not]; omega
          have hi4 : i = 4 := by have := HI.out; omega
          subst hi4
          clear hi
          have HM4 : Hid (∀ j, j < 4 → m j = 70 ∧ Z j = List.replicate 70 (apF j)) := HS.out
          clear HS HR HI
          obtain ⟨gl, cl, e0, -⟩ := row_form HV.out (by decide)
          obtain ⟨rfl, -, rfl⟩ := Value.slice.inj e0
          clear e0
          have HCU : Hid (∀ j, j < 4 → ∀ W, Below wb.heap.size wb W → W.cell? ⟨gl, j, none⟩ = some (u j)) := fun j hj W hW => below_cell hW (row_at HV.out j _ (by rw [List.getElem?_map, List.getElem?_range hj]; rfl))
          have HCV : Hid (∀ j, j < 4 → ∀ W, Below wb.heap.size wb W → W.cell? ⟨lb, j, none⟩ = some (.slice (a j) (n j) (c j))) := fun j hj W hW => below_cell hW (list4F HO.out.2.2 j hj)
          go_upto_region 19 with fail
          go_loopg [9] 4 (fun gm v9 wr => ∃ i : Nat, v9 = .int .i64 (i : Int) ∧ Hid (i ≤ 4 ∧ gm = 4 - i) ∧ Hid (Below wb.heap.size wb wr))
          case atStart => exact ⟨0, rfl, ⟨Nat.zero_le _, rfl⟩, Below.refl _ _⟩
          case round =>
            clear e1
            obtain ⟨i, rfl, HI, HC⟩ := hrel
            obtain ⟨wc, hwc⟩ : ∃ wc, wc = wr := ⟨_, rfl⟩
            rw [← hwc] at HC ⊢
            clear hwc
            by_cases hi : i < 4
            · have e1 : decide ((i : Int) < 4) = true := by rw [decide_eq_true_eq]; omega
              have b1 : (i : Int) < 4 := by omega
              have b2 : i < 4 := hi
              have b3 : (0 : Int) ≤ (i : Int) := by omega
              have HIL : Hid (i < 4) := hi
              have hwi := w64n i (by omega)
              clear hi
              obtain ⟨gu, cu, hu, -⟩ := row_form (HG.out.row i b2) (by rw [(HM4.out i b2).1]; omega)
              obtain ⟨p, hp⟩ : ∃ p, n i + 70 = p := ⟨_, rfl⟩
              have HP : Hid (n i + 70 = p) := hp
              rw [(HM4.out i b2).1, hp] at hu
              have HCI : Hid (∀ W, Below wb.heap.size wb W → W.cell? ⟨gl, i, none⟩ = some (.slice (some ⟨gu, 0, none⟩) p cu)) := fun W hW => by rw [HCU.out i b2 W hW, hu]
              have HUR : Hid (wb.ownsRow B 57 2 (.slice (some ⟨gu, 0, none⟩) p cu) p (flat fdi (X0 i ++ Z i))) := by have h9 := HG.out.row i b2; rw [(HM4.out i b2).1, hp, hu, ← flat_app] at h9; exact h9
              have hwp : p < 9223372036854775807 := by have := HN.out i b2; omega
              clear hu hp
              go_upto_region 22 with fail
              go_loopg [10] p (fun gm v10 wr => ∃ k : Nat, v10 = .int .i64 (k : Int) ∧ Hid (k ≤ p ∧ gm = p - k) ∧ Hid (Below wb.heap.size wb wr))
              case atStart => exact ⟨0, rfl, ⟨Nat.zero_le _, rfl⟩, HC⟩
              case round =>
                clear HC
                obtain ⟨k, rfl, HK, HC⟩ := hrel
                obtain ⟨wd, hwd⟩ : ∃ wd, wd = wr := ⟨_, rfl⟩
                rw [← hwd] at HC ⊢
                clear hwd
                have hcg := HCI.out wd HC.out
                by_cases hk : k < p
                · have d1 : decide ((k : Int) < (p : Int)) = true := by rw [decide_eq_true_eq]; omega
                  have d2 : decide (k < p) = true := decide_eq_true hk
                  have b4 : (k : Int) < (p : Int) := by omega
                  have b5 : (0 : Int) ≤ (k : Int) := by omega
                  have b6 : k < p := hk
                  have HKL : Hid (k < p) := hk
                  have hwk := w64n k (by omega)
                  have hw1 : IntKind.i64.wrap (1000 + (i : Int)) = 1000 + (i : Int) := by rw [IntKind.wrap_i64]; omega
                  have hw2 : IntKind.i64.wrap (500000 + (i : Int)) = 500000 + (i : Int) := by rw [IntKind.wrap_i64]; omega
                  have hE1 := eq_spF i
                  have hE2 := eq_apF i
                  have HD : Hid (Below wb.heap.size wb wd.drew) := HC.out.drew
                  have HXL : Hid ((X0 i).length = n i ∧ (Z i).length = 70) := ⟨HG.out.old.len i b2, by rw [HG.out.len i b2]; exact (HM4.out i b2).1⟩
                  have HUC : Hid (∀ (x : Int × Int), (X0 i ++ Z i).getD k zzF = x → ∀ W, Below wb.heap.size wb W → ∀ j u, (fdi x)[j]? = some u → W.cell? ⟨gu, k * 2 + j, none⟩ = some u) := fun x hx W hW j u hu => below_cell hW (row_at HUR.out _ _ (by rw [flat_get fdi_len zzF _ k j (by rw [List.length_append, HXL.out.1, HXL.out.2, HP.out]; exact b6) (by have := (List.getElem?_eq_some_iff.1 hu).1; rwa [fdi_len] at this), hx]; exact hu))
                  clear hk
                  go_upto_region 24 with fail
                  clear hcg
                  by_cases hkn : k < n i
                  · have d3 : decide ((k : Int) < (n i : Int)) = true := by rw [decide_eq_true_eq]; omega
                    have d4 : decide (k < n i) = true := decide_eq_true hkn
                    have d5 : decide ((n i : Int) ≤ (k : Int)) = false := by rw [decide_eq_false_iff_not]; omega
                    have d6 : decide (n i ≤ k) = false := by rw [decide_eq_false_iff_not]; omega
                    have b7 : (k : Int) < (n i : Int) := by omega
                    obtain ⟨gv, cv, hv, -⟩ := row_form (HG.out.old.row i b2) (by omega)
                    have hv2 : a i = some ⟨gv, 0, none⟩ := (Value.slice.inj hv).1
                    have HCL : Hid (∀ W, Below wb.heap.size wb W → W.cell? ⟨lb, i, none⟩ = some (.slice (some ⟨gv, 0, none⟩) (n i) (c i))) := fun W hW => by rw [HCV.out i b2 W hW, hv2]
                    have HVR : Hid (wb.ownsRow B 57 2 (.slice (some ⟨gv, 0, none⟩) (n i) (c i)) (n i) (flat fdi (X0 i))) := by
                      have h9 : wb.ownsRow B 57 2 (.slice (a i) (n i) (c i)) (n i) (flat fdi (X0 i)) := HG.out.old.row i b2
                      rw [hv2] at h9
                      exact h9
                    have HUK0 : Hid (∀ W, Below wb.heap.size wb W → ∀ j u, (fdi (spF i))[j]? = some u → W.cell? ⟨gu, k * 2 + j, none⟩ = some u) := HUC.out (spF i) (by
                      rw [List.getD_eq_getElem?_getD, List.getElem?_append_left (by rw [HXL.out.1]; exact hkn), HX0.out i, List.getElem?_replicate_of_lt hkn]; rfl)
                    have HVK0 : Hid (∀ W, Below wb.heap.size wb W → ∀ j u, (fdi (spF i))[j]? = some u → W.cell? ⟨gv, k * 2 + j, none⟩ = some u) := fun W hW j u hu => below_cell hW (row_at HVR.out _ _ (by
                      rw [flat_get fdi_len zzF _ k j (by rw [HXL.out.1]; exact hkn) (by have := (List.getElem?_eq_some_iff.1 hu).1; rwa [fdi_len] at this), HX0.out i, List.getD_eq_getElem?_getD, List.getElem?_replicate_of_lt hkn]; exact hu))
                    have HUK : Hid (∀ W, Below wb.heap.size wb W → W.cell? ⟨gu, k * 2, none⟩ = some (.int .i64 (-9)) ∧ W.cell? ⟨gu, k * 2 + 1, none⟩ = some (.int .i64 (1000 + (i : Int)))) := fun W hW => ⟨HUK0.out W hW 0 _ rfl, HUK0.out W hW 1 _ rfl⟩
                    have HVK : Hid (∀ W, Below wb.heap.size wb W → W.cell? ⟨gv, k * 2, none⟩ = some (.int .i64 (-9)) ∧ W.cell? ⟨gv, k * 2 + 1, none⟩ = some (.int .i64 (1000 + (i : Int)))) := fun W hW => ⟨HVK0.out W hW 0 _ rfl, HVK0.out W hW 1 _ rfl⟩
                    clear hkn hv hv2
                    refine wp_region_noPanic ?_
                    refine wp_region_held_drew (S := fun W => Below wb.heap.size wb W) (by kernel_rfl) HD.out (fun hHeld => ?_)
                    refine wpAnyH_take (i := 0) (oi := { dst := _, op := _, type := _, pos := _, after := _, guard := _ }) (v := ?_) rfl (by kernel_rfl) (by kernel_rfl) (by kernel_rfl) (fun _ _ _ h => h) (Or.inl ⟨by rfl, ?_⟩) (by assumption) ?_
                    rotate_left
                    · intro W hSw
                      (try dsimp only at hSw)
                      go_simp
                      (try with_reducible rfl)
                    try simp only [Act.put, List.setIfInBounds_toArray, List.set_cons_zero, List.set_cons_succ]
                    refine wpAnyH_take (i := 1) (oi := { dst := _, op := _, type := _, pos := _, after := _, guard := _ }) (v := ?_) rfl (by kernel_rfl) (by kernel_rfl) (by kernel_rfl) (fun _ _ _ h => h) (Or.inl ⟨by rfl, ?_⟩) (by assumption) ?_
                    rotate_left
                    · intro W hSw
                      (try dsimp only at hSw)
                      go_simp
                      (try with_reducible rfl)
                    try simp only [Act.put, List.setIfInBounds_toArray, List.set_cons_zero, List.set_cons_succ]
                    refine wpAnyH_take (i := 2) (oi := { dst := _, op := _, type := _, pos := _, after := _, guard := _ }) (v := ?_) rfl (by kernel_rfl) (by kernel_rfl) (by kernel_rfl) (fun _ _ _ h => h) (Or.inl ⟨by rfl, ?_⟩) (by assumption) ?_
                    rotate_left
                    · intro W hSw
                      (try dsimp only at hSw)
                      go_simp
                      (try with_reducible rfl)
                    try simp only [Act.put, List.setIfInBounds_toArray, List.set_cons_zero, List.set_cons_succ]
                    refine wpAnyH_take (i := 3) (oi := { dst := _, op := _, type := _, pos := _, after := _, guard := _ }) (v := ?_) rfl (by kernel_rfl) (by kernel_rfl) (by kernel_rfl) (fun _ _ _ h => h) (Or.inl ⟨by rfl, ?_⟩) (by assumption) ?_
                    rotate_left
                    · intro W hSw
                      (try dsimp only at hSw)
                      go_simp
                      (try with_reducible rfl)
                    try simp only [Act.put, List.setIfInBounds_toArray, List.set_cons_zero, List.set_cons_succ]
                    refine wpAnyH_take (i := 4) (oi := { dst := _, op := _, type := _, pos := _, after := _, guard := _ }) (v := ?_) rfl (by kernel_rfl) (by kernel_rfl) (by kernel_rfl) (fun _ _ _ h => h) (Or.inl ⟨by rfl, ?_⟩) (by assumption) ?_
                    rotate_left
                    · intro W hSw
                      (try dsimp only at hSw)
                      have s0 := HCL.out W hSw
                      go_simp
                      (try with_reducible rfl)
                    try simp only [Act.put, List.setIfInBounds_toArray, List.set_cons_zero, List.set_cons_succ]
                    refine wpAnyH_take (i := 5) (oi := { dst := _, op := _, type := _, pos := _, after := _, guard := _ }) (v := ?_) rfl (by kernel_rfl) (by kernel_rfl) (by kernel_rfl) (fun _ _ _ h => h) (Or.inl ⟨by rfl, ?_⟩) (by assumption) ?_
                    rotate_left
                    · intro W hSw
                      (try dsimp only at hSw)
                      go_simp
                      (try with_reducible rfl)
                    try simp only [Act.put, List.setIfInBounds_toArray, List.set_cons_zero, List.set_cons_succ]
                    refine wpAnyH_take (i := 6) (oi := { dst := _, op := _, type := _, pos := _, after := _, guard := _ }) (v := ?_) rfl (by kernel_rfl) (by kernel_rfl) (by kernel_rfl) (fun _ _ _ h => h) (Or.inl ⟨by rfl, ?_⟩) (by assumption) ?_
                    rotate_left
                    · intro W hSw
                      (try dsimp only at hSw)
                      go_simp
                      (try with_reducible rfl)
                    try simp only [Act.put, List.setIfInBounds_toArray, List.set_cons_zero, List.set_cons_succ]
                    refine wpAnyH_take (i := 7) (oi := { dst := _, op := _, type := _, pos := _, after := _, guard := _ }) (v := ?_) rfl (by kernel_rfl) (by kernel_rfl) (by kernel_rfl) (fun _ _ _ h => h) (Or.inl ⟨by rfl, ?_⟩) (by assumption) ?_
                    rotate_left
                    · intro W hSw
                      (try dsimp only at hSw)
                      go_simp
                      (try with_reducible rfl)
                    try simp only [Act.put, List.setIfInBounds_toArray, List.set_cons_zero, List.set_cons_succ]
                    refine wpAnyH_take (i := 8) (oi := { dst := _, op := _, type := _, pos := _, after := _, guard := _ }) (v := ?_) rfl (by kernel_rfl) (by kernel_rfl) (by kernel_rfl) (fun _ _ _ h => h) (Or.inl ⟨by rfl, ?_⟩) (by assumption) ?_
                    rotate_left
                    · intro W hSw
                      (try dsimp only at hSw)
                      go_simp
                      (try with_reducible rfl)
                    try simp only [Act.put, List.setIfInBounds_toArray, List.set_cons_zero, List.set_cons_succ]
                    refine wpAnyH_take (i := 9) (oi := { dst := _, op := _, type := _, pos := _, after := _, guard := _ }) (v := ?_) rfl (by kernel_rfl) (by kernel_rfl) (by kernel_rfl) (fun _ _ _ h => h) (Or.inl ⟨by rfl, ?_⟩) (by assumption) ?_
                    rotate_left
                    · intro W hSw
                      (try dsimp only at hSw)
                      go_simp
                      (try with_reducible rfl)
                    try simp only [Act.put, List.setIfInBounds_toArray, List.set_cons_zero, List.set_cons_succ]
                    refine wpAnyH_take (i := 10) (oi := { dst := _, op := _, type := _, pos := _, after := _, guard := _ }) (v := ?_) rfl (by kernel_rfl) (by kernel_rfl) (by kernel_rfl) (fun _ _ _ h => h) (Or.inl ⟨by rfl, ?_⟩) (by assumption) ?_
                    rotate_left
                    · intro W hSw
                      (try dsimp only at hSw)
                      go_simp
                      (try with_reducible rfl)
                    try simp only [Act.put, List.setIfInBounds_toArray, List.set_cons_zero, List.set_cons_succ]
                    refine wpAnyH_take (i := 11) (oi := { dst := _, op := _, type := _, pos := _, after := _, guard := _ }) (v := ?_) rfl (by kernel_rfl) (by kernel_rfl) (by kernel_rfl) (fun _ _ _ h => h) (Or.inl ⟨by rfl, ?_⟩) (by assumption) ?_
                    rotate_left
                    · intro W hSw
                      (try dsimp only at hSw)
                      have s0 := HCL.out W hSw
                      go_simp
                      (try with_reducible rfl)
                    try simp only [Act.put, List.setIfInBounds_toArray, List.set_cons_zero, List.set_cons_succ]
                    refine wpAnyH_take (i := 12) (oi := { dst := _, op := _, type := _, pos := _, after := _, guard := _ }) (v := ?_) rfl (by kernel_rfl) (by kernel_rfl) (by kernel_rfl) (fun _ _ _ h => h) (Or.inl ⟨by rfl, ?_⟩) (by assumption) ?_
                    rotate_left
                    · intro W hSw
                      (try dsimp only at hSw)
                      go_simp
                      (try with_reducible rfl)
                    try simp only [Act.put, List.setIfInBounds_toArray, List.set_cons_zero, List.set_cons_succ]
                    refine wpAnyH_take (i := 13) (oi := { dst := _, op := _, type := _, pos := _, after := _, guard := _ }) (v := ?_) rfl (by kernel_rfl) (by kernel_rfl) (by kernel_rfl) (fun _ _ _ h => h) (Or.inl ⟨by rfl, ?_⟩) (by assumption) ?_
                    rotate_left
                    · intro W hSw
                      (try dsimp only at hSw)
                      go_simp
                      (try with_reducible rfl)
                    try simp only [Act.put, List.setIfInBounds_toArray, List.set_cons_zero, List.set_cons_succ]
                    refine wpAnyH_take (i := 14) (oi := { dst := _, op := _, type := _, pos := _, after := _, guard := _ }) (v := ?_) rfl (by kernel_rfl) (by kernel_rfl) (by kernel_rfl) (fun _ _ _ h => h) (Or.inl ⟨by rfl, ?_⟩) (by assumption) ?_
                    rotate_left
                    · intro W hSw
                      (try dsimp only at hSw)
                      obtain ⟨s0, s1⟩ := HVK.out W hSw
                      go_simp
                      (try with_reducible rfl)
                    try simp only [Act.put, List.setIfInBounds_toArray, List.set_cons_zero, List.set_cons_succ]
                    refine wpAnyH_take (i := 15) (oi := { dst := _, op := _, type := _, pos := _, after := _, guard := _ }) (v := ?_) rfl (by kernel_rfl) (by kernel_rfl) (by kernel_rfl) (fun _ _ _ h => h) (Or.inl ⟨by rfl, ?_⟩) (by assumption) ?_
                    rotate_left
                    · intro W hSw
                      (try dsimp only at hSw)
                      go_simp
                      (try with_reducible rfl)
                    try simp only [Act.put, List.setIfInBounds_toArray, List.set_cons_zero, List.set_cons_succ]
                    refine wpAnyH_take (i := 16) (oi := { dst := _, op := _, type := _, pos := _, after := _, guard := _ }) (v := ?_) rfl (by kernel_rfl) (by kernel_rfl) (by kernel_rfl) (fun _ _ _ h => h) (Or.inl ⟨by rfl, ?_⟩) (by assumption) ?_
                    rotate_left
                    · intro W hSw
                      (try dsimp only at hSw)
                      go_simp
                      (try with_reducible rfl)
                    try simp only [Act.put, List.setIfInBounds_toArray, List.set_cons_zero, List.set_cons_succ]
                    refine wpAnyH_take (i := 17) (oi := { dst := _, op := _, type := _, pos := _, after := _, guard := _ }) (v := ?_) rfl (by kernel_rfl) (by kernel_rfl) (by kernel_rfl) (fun _ _ _ h => h) (Or.inl ⟨by rfl, ?_⟩) (by assumption) ?_
                    rotate_left
                    · intro W hSw
                      (try dsimp only at hSw)
                      go_simp
                      (try with_reducible rfl)
                    try simp only [Act.put, List.setIfInBounds_toArray, List.set_cons_zero, List.set_cons_succ]
                    refine wpAnyH_take (i := 18) (oi := { dst := _, op := _, type := _, pos := _, after := _, guard := _ }) (v := ?_) rfl (by kernel_rfl) (by kernel_rfl) (by kernel_rfl) (fun _ _ _ h => h) (Or.inl ⟨by rfl, ?_⟩) (by assumption) ?_
                    rotate_left
                    · intro W hSw
                      (try dsimp only at hSw)
                      go_simp
                      (try with_reducible rfl)
                    try simp only [Act.put, List.setIfInBounds_toArray, List.set_cons_zero, List.set_cons_succ]
                    refine wpAnyH_take (i := 19) (oi := { dst := _, op := _, type := _, pos := _, after := _, guard := _ }) (v := ?_) rfl (by kernel_rfl) (by kernel_rfl) (by kernel_rfl) (fun _ _ _ h => h) (Or.inl ⟨by rfl, ?_⟩) (by assumption) ?_
                    rotate_left
                    · intro W hSw
                      (try dsimp only at hSw)
                      go_simp
                      (try with_reducible rfl)
                    try simp only [Act.put, List.setIfInBounds_toArray, List.set_cons_zero, List.set_cons_succ]
                    refine wpAnyH_take (i := 20) (oi := { dst := _, op := _, type := _, pos := _, after := _, guard := _ }) (v := ?_) rfl (by kernel_rfl) (by kernel_rfl) (by kernel_rfl) (fun _ _ _ h => h) (Or.inl ⟨by rfl, ?_⟩) (by assumption) ?_
                    rotate_left
                    · intro W hSw
                      (try dsimp only at hSw)
                      go_simp
                      (try with_reducible rfl)
                    try simp only [Act.put, List.setIfInBounds_toArray, List.set_cons_zero, List.set_cons_succ]
                    refine wpAnyH_take (i := 21) (oi := { dst := _, op := _, type := _, pos := _, after := _, guard := _ }) (v := ?_) rfl (by kernel_rfl) (by kernel_rfl) (by kernel_rfl) (fun _ _ _ h => h) (Or.inl ⟨by rfl, ?_⟩) (by assumption) ?_
                    rotate_left
                    · intro W hSw
                      (try dsimp only at hSw)
                      go_simp
                      (try with_reducible rfl)
                    try simp only [Act.put, List.setIfInBounds_toArray, List.set_cons_zero, List.set_cons_succ]
                    refine wpAnyH_take (i := 22) (oi := { dst := _, op := _, type := _, pos := _, after := _, guard := _ }) (v := ?_) rfl (by kernel_rfl) (by kernel_rfl) (by kernel_rfl) (fun _ _ _ h => h) (Or.inl ⟨by rfl, ?_⟩) (by assumption) ?_
                    rotate_left
                    · intro W hSw
                      (try dsimp only at hSw)
                      go_simp
                      (try with_reducible rfl)
                    try simp only [Act.put, List.setIfInBounds_toArray, List.set_cons_zero, List.set_cons_succ]
                    refine wpAnyH_take (i := 23) (oi := { dst := _, op := _, type := _, pos := _, after := _, guard := _ }) (v := ?_) rfl (by kernel_rfl) (by kernel_rfl) (by kernel_rfl) (fun _ _ _ h => h) (Or.inl ⟨by rfl, ?_⟩) (by assumption) ?_
                    rotate_left
                    · intro W hSw
                      (try dsimp only at hSw)
                      have s0 := HCI.out W hSw
                      go_simp
                      (try with_reducible rfl)
                    try simp only [Act.put, List.setIfInBounds_toArray, List.set_cons_zero, List.set_cons_succ]
                    refine wpAnyH_take (i := 24) (oi := { dst := _, op := _, type := _, pos := _, after := _, guard := _ }) (v := ?_) rfl (by kernel_rfl) (by kernel_rfl) (by kernel_rfl) (fun _ _ _ h => h) (Or.inl ⟨by rfl, ?_⟩) (by assumption) ?_
                    rotate_left
                    · intro W hSw
                      (try dsimp only at hSw)
                      go_simp
                      (try with_reducible rfl)
                    try simp only [Act.put, List.setIfInBounds_toArray, List.set_cons_zero, List.set_cons_succ]
                    refine wpAnyH_take (i := 25) (oi := { dst := _, op := _, type := _, pos := _, after := _, guard := _ }) (v := ?_) rfl (by kernel_rfl) (by kernel_rfl) (by kernel_rfl) (fun _ _ _ h => h) (Or.inl ⟨by rfl, ?_⟩) (by assumption) ?_
                    rotate_left
                    · intro W hSw
                      (try dsimp only at hSw)
                      go_simp
                      (try with_reducible rfl)
                    try simp only [Act.put, List.setIfInBounds_toArray, List.set_cons_zero, List.set_cons_succ]
                    refine wpAnyH_take (i := 26) (oi := { dst := _, op := _, type := _, pos := _, after := _, guard := _ }) (v := ?_) rfl (by kernel_rfl) (by kernel_rfl) (by kernel_rfl) (fun _ _ _ h => h) (Or.inl ⟨by rfl, ?_⟩) (by assumption) ?_
                    rotate_left
                    · intro W hSw
                      (try dsimp only at hSw)
                      obtain ⟨s0, s1⟩ := HUK.out W hSw
                      go_simp
                      (try with_reducible rfl)
                    try simp only [Act.put, List.setIfInBounds_toArray, List.set_cons_zero, List.set_cons_succ]
                    refine wpAnyH_take (i := 27) (oi := { dst := _, op := _, type := _, pos := _, after := _, guard := _ }) (v := ?_) rfl (by kernel_rfl) (by kernel_rfl) (by kernel_rfl) (fun _ _ _ h => h) (Or.inl ⟨by rfl, ?_⟩) (by assumption) ?_
                    rotate_left
                    · intro W hSw
                      (try dsimp only at hSw)
                      go_simp
                      (try with_reducible rfl)
                    try simp only [Act.put, List.setIfInBounds_toArray, List.set_cons_zero, List.set_cons_succ]
                    refine wpAnyH_take (i := 28) (oi := { dst := _, op := _, type := _, pos := _, after := _, guard := _ }) (v := ?_) rfl (by kernel_rfl) (by kernel_rfl) (by kernel_rfl) (fun _ _ _ h => h) (Or.inl ⟨by rfl, ?_⟩) (by assumption) ?_
                    rotate_left
                    · intro W hSw
                      (try dsimp only at hSw)
                      go_simp
                      (try with_reducible rfl)
                    try simp only [Act.put, List.setIfInBounds_toArray, List.set_cons_zero, List.set_cons_succ]
                    refine wpAnyH_take (i := 29) (oi := { dst := _, op := _, type := _, pos := _, after := _, guard := _ }) (v := ?_) rfl (by kernel_rfl) (by kernel_rfl) (by kernel_rfl) (fun _ _ _ h => h) (Or.inl ⟨by rfl, ?_⟩) (by assumption) ?_
                    rotate_left
                    · intro W hSw
                      (try dsimp only at hSw)
                      go_simp
                      (try with_reducible rfl)
                    try simp only [Act.put, List.setIfInBounds_toArray, List.set_cons_zero, List.set_cons_succ]
                    refine wpAnyH_take (i := 30) (oi := { dst := _, op := _, type := _, pos := _, after := _, guard := _ }) (v := ?_) rfl (by kernel_rfl) (by kernel_rfl) (by kernel_rfl) (fun _ _ _ h => h) (Or.inl ⟨by rfl, ?_⟩) (by assumption) ?_
                    rotate_left
                    · intro W hSw
                      (try dsimp only at hSw)
                      have s0 := HCL.out W hSw
                      go_simp
                      (try with_reducible rfl)
                    try simp only [Act.put, List.setIfInBounds_toArray, List.set_cons_zero, List.set_cons_succ]
                    refine wpAnyH_take (i := 31) (oi := { dst := _, op := _, type := _, pos := _, after := _, guard := _ }) (v := ?_) rfl (by kernel_rfl) (by kernel_rfl) (by kernel_rfl) (fun _ _ _ h => h) (Or.inl ⟨by rfl, ?_⟩) (by assumption) ?_
                    rotate_left
                    · intro W hSw
                      (try dsimp only at hSw)
                      go_simp
                      (try with_reducible rfl)
                    try simp only [Act.put, List.setIfInBounds_toArray, List.set_cons_zero, List.set_cons_succ]
                    refine wpAnyH_take (i := 32) (oi := { dst := _, op := _, type := _, pos := _, after := _, guard := _ }) (v := ?_) rfl (by kernel_rfl) (by kernel_rfl) (by kernel_rfl) (fun _ _ _ h => h) (Or.inl ⟨by rfl, ?_⟩) (by assumption) ?_
                    rotate_left
                    · intro W hSw
                      (try dsimp only at hSw)
                      go_simp
                      (try with_reducible rfl)
                    try simp only [Act.put, List.setIfInBounds_toArray, List.set_cons_zero, List.set_cons_succ]
                    refine wpAnyH_take (i := 33) (oi := { dst := _, op := _, type := _, pos := _, after := _, guard := _ }) (v := ?_) rfl (by kernel_rfl) (by kernel_rfl) (by kernel_rfl) (fun _ _ _ h => h) (Or.inl ⟨by rfl, ?_⟩) (by assumption) ?_
                    rotate_left
                    · intro W hSw
                      (try dsimp only at hSw)
                      obtain ⟨s0, s1⟩ := HVK.out W hSw
                      go_simp
                      (try with_reducible rfl)
                    try simp only [Act.put, List.setIfInBounds_toArray, List.set_cons_zero, List.set_cons_succ]
                    refine wpAnyH_take (i := 34) (oi := { dst := _, op := _, type := _, pos := _, after := _, guard := _ }) (v := ?_) rfl (by kernel_rfl) (by kernel_rfl) (by kernel_rfl) (fun _ _ _ h => h) (Or.inl ⟨by rfl, ?_⟩) (by assumption) ?_
                    rotate_left
                    · intro W hSw
                      (try dsimp only at hSw)
                      go_simp
                      (try with_reducible rfl)
                    try simp only [Act.put, List.setIfInBounds_toArray, List.set_cons_zero, List.set_cons_succ]
                    refine wpAnyH_take (i := 35) (oi := { dst := _, op := _, type := _, pos := _, after := _, guard := _ }) (v := ?_) rfl (by kernel_rfl) (by kernel_rfl) (by kernel_rfl) (fun _ _ _ h => h) (Or.inl ⟨by rfl, ?_⟩) (by assumption) ?_
                    rotate_left
                    · intro W hSw
                      (try dsimp only at hSw)
                      go_simp
                      (try with_reducible rfl)
                    try simp only [Act.put, List.setIfInBounds_toArray, List.set_cons_zero, List.set_cons_succ]
                    refine wpAnyH_take (i := 36) (oi := { dst := _, op := _, type := _, pos := _, after := _, guard := _ }) (v := ?_) rfl (by kernel_rfl) (by kernel_rfl) (by kernel_rfl) (fun _ _ _ h => h) (Or.inl ⟨by rfl, ?_⟩) (by assumption) ?_
                    rotate_left
                    · intro W hSw
                      (try dsimp only at hSw)
                      go_simp
                      (try with_reducible rfl)
                    try simp only [Act.put, List.setIfInBounds_toArray, List.set_cons_zero, List.set_cons_succ]
                    refine wpAnyH_take (i := 37) (oi := { dst := _, op := _, type := _, pos := _, after := _, guard := _ }) (v := ?_) rfl (by kernel_rfl) (by kernel_rfl) (by kernel_rfl) (fun _ _ _ h => h) (Or.inl ⟨by rfl, ?_⟩) (by assumption) ?_
                    rotate_left
                    · intro W hSw
                      (try dsimp only at hSw)
                      go_simp
                      (try with_reducible rfl)
                    try simp only [Act.put, List.setIfInBounds_toArray, List.set_cons_zero, List.set_cons_succ]
                    refine wpAnyH_take (i := 38) (oi := { dst := _, op := _, type := _, pos := _, after := _, guard := _ }) (v := ?_) rfl (by kernel_rfl) (by kernel_rfl) (by kernel_rfl) (fun _ _ _ h => h) (Or.inl ⟨by rfl, ?_⟩) (by assumption) ?_
                    rotate_left
                    · intro W hSw
                      (try dsimp only at hSw)
                      go_simp
                      (try with_reducible rfl)
                    try simp only [Act.put, List.setIfInBounds_toArray, List.set_cons_zero, List.set_cons_succ]
                    refine wpAnyH_take (i := 39) (oi := { dst := _, op := _, type := _, pos := _, after := _, guard := _ }) (v := ?_) rfl (by kernel_rfl) (by kernel_rfl) (by kernel_rfl) (fun _ _ _ h => h) (Or.inl ⟨by rfl, ?_⟩) (by assumption) ?_
                    rotate_left
                    · intro W hSw
                      (try dsimp only at hSw)
                      go_simp
                      (try with_reducible rfl)
                    try simp only [Act.put, List.setIfInBounds_toArray, List.set_cons_zero, List.set_cons_succ]
                    refine wpAnyH_take (i := 40) (oi := { dst := _, op := _, type := _, pos := _, after := _, guard := _ }) (v := ?_) rfl (by kernel_rfl) (by kernel_rfl) (by kernel_rfl) (fun _ _ _ h => h) (Or.inl ⟨by rfl, ?_⟩) (by assumption) ?_
                    rotate_left
                    · intro W hSw
                      (try dsimp only at hSw)
                      go_simp
                      (try with_reducible rfl)
                    try simp only [Act.put, List.setIfInBounds_toArray, List.set_cons_zero, List.set_cons_succ]
                    refine wpAnyH_take (i := 41) (oi := { dst := _, op := _, type := _, pos := _, after := _, guard := _ }) (v := ?_) rfl (by kernel_rfl) (by kernel_rfl) (by kernel_rfl) (fun _ _ _ h => h) (Or.inl ⟨by rfl, ?_⟩) (by assumption) ?_
                    rotate_left
                    · intro W hSw
                      (try dsimp only at hSw)
                      go_simp
                      (try with_reducible rfl)
                    try simp only [Act.put, List.setIfInBounds_toArray, List.set_cons_zero, List.set_cons_succ]
                    refine wpAnyH_take (i := 42) (oi := { dst := _, op := _, type := _, pos := _, after := _, guard := _ }) (v := ?_) rfl (by kernel_rfl) (by kernel_rfl) (by kernel_rfl) (fun _ _ _ h => h) (Or.inl ⟨by rfl, ?_⟩) (by assumption) ?_
                    rotate_left
                    · intro W hSw
                      (try dsimp only at hSw)
                      have s0 := HCL.out W hSw
                      go_simp
                      (try with_reducible rfl)
                    try simp only [Act.put, List.setIfInBounds_toArray, List.set_cons_zero, List.set_cons_succ]
                    refine wpAnyH_take (i := 43) (oi := { dst := _, op := _, type := _, pos := _, after := _, guard := _ }) (v := ?_) rfl (by kernel_rfl) (by kernel_rfl) (by kernel_rfl) (fun _ _ _ h => h) (Or.inl ⟨by rfl, ?_⟩) (by assumption) ?_
                    rotate_left
                    · intro W hSw
                      (try dsimp only at hSw)
                      go_simp
                      (try with_reducible rfl)
                    try simp only [Act.put, List.setIfInBounds_toArray, List.set_cons_zero, List.set_cons_succ]
                    refine wpAnyH_take (i := 44) (oi := { dst := _, op := _, type := _, pos := _, after := _, guard := _ }) (v := ?_) rfl (by kernel_rfl) (by kernel_rfl) (by kernel_rfl) (fun _ _ _ h => h) (Or.inl ⟨by rfl, ?_⟩) (by assumption) ?_
                    rotate_left
                    · intro W hSw
                      (try dsimp only at hSw)
                      go_simp
                      (try with_reducible rfl)
                    try simp only [Act.put, List.setIfInBounds_toArray, List.set_cons_zero, List.set_cons_succ]
                    refine wpAnyH_take (i := 45) (oi := { dst := _, op := _, type := _, pos := _, after := _, guard := _ }) (v := ?_) rfl (by kernel_rfl) (by kernel_rfl) (by kernel_rfl) (fun _ _ _ h => h) (Or.inl ⟨by rfl, ?_⟩) (by assumption) ?_
                    rotate_left
                    · intro W hSw
                      (try dsimp only at hSw)
                      go_simp
                      (try with_reducible rfl)
                    try simp only [Act.put, List.setIfInBounds_toArray, List.set_cons_zero, List.set_cons_succ]
                    refine wpAnyH_take (i := 46) (oi := { dst := _, op := _, type := _, pos := _, after := _, guard := _ }) rfl (by kernel_rfl) (by kernel_rfl) (by kernel_rfl) (fun _ _ _ h => h) (Or.inr ⟨by rfl, rfl⟩) (by assumption) ?_
                    try simp only [Act.put, List.setIfInBounds_toArray, List.set_cons_zero, List.set_cons_succ]
                    refine wpAnyH_take (i := 47) (oi := { dst := _, op := _, type := _, pos := _, after := _, guard := _ }) rfl (by kernel_rfl) (by kernel_rfl) (by kernel_rfl) (fun _ _ _ h => h) (Or.inr ⟨by rfl, rfl⟩) (by assumption) ?_
                    try simp only [Act.put, List.setIfInBounds_toArray, List.set_cons_zero, List.set_cons_succ]
                    refine wpAnyH_take (i := 48) (oi := { dst := _, op := _, type := _, pos := _, after := _, guard := _ }) rfl (by kernel_rfl) (by kernel_rfl) (by kernel_rfl) (fun _ _ _ h => h) (Or.inr ⟨by rfl, rfl⟩) (by assumption) ?_
                    try simp only [Act.put, List.setIfInBounds_toArray, List.set_cons_zero, List.set_cons_succ]
                    refine wpAnyH_take (i := 49) (oi := { dst := _, op := _, type := _, pos := _, after := _, guard := _ }) rfl (by kernel_rfl) (by kernel_rfl) (by kernel_rfl) (fun _ _ _ h => h) (Or.inr ⟨by rfl, rfl⟩) (by assumption) ?_
                    try simp only [Act.put, List.setIfInBounds_toArray, List.set_cons_zero, List.set_cons_succ]
                    refine wpAnyH_take (i := 50) (oi := { dst := _, op := _, type := _, pos := _, after := _, guard := _ }) rfl (by kernel_rfl) (by kernel_rfl) (by kernel_rfl) (fun _ _ _ h => h) (Or.inr ⟨by rfl, rfl⟩) (by assumption) ?_
                    try simp only [Act.put, List.setIfInBounds_toArray, List.set_cons_zero, List.set_cons_succ]
                    refine wpAnyH_take (i := 51) (oi := { dst := _, op := _, type := _, pos := _, after := _, guard := _ }) rfl (by kernel_rfl) (by kernel_rfl) (by kernel_rfl) (fun _ _ _ h => h) (Or.inr ⟨by rfl, rfl⟩) (by assumption) ?_
                    try simp only [Act.put, List.setIfInBounds_toArray, List.set_cons_zero, List.set_cons_succ]
                    refine wpAnyH_take (i := 52) (oi := { dst := _, op := _, type := _, pos := _, after := _, guard := _ }) rfl (by kernel_rfl) (by kernel_rfl) (by kernel_rfl) (fun _ _ _ h => h) (Or.inr ⟨by rfl, rfl⟩) (by assumption) ?_
                    try simp only [Act.put, List.setIfInBounds_toArray, List.set_cons_zero, List.set_cons_succ]
                    refine wpAnyH_take (i := 53) (oi := { dst := _, op := _, type := _, pos := _, after := _, guard := _ }) rfl (by kernel_rfl) (by kernel_rfl) (by kernel_rfl) (fun _ _ _ h => h) (Or.inr ⟨by rfl, rfl⟩) (by assumption) ?_
                    try simp only [Act.put, List.setIfInBounds_toArray, List.set_cons_zero, List.set_cons_succ]
                    refine wpAnyH_take (i := 54) (oi := { dst := _, op := _, type := _, pos := _, after := _, guard := _ }) rfl (by kernel_rfl) (by kernel_rfl) (by kernel_rfl) (fun _ _ _ h => h) (Or.inr ⟨by rfl, rfl⟩) (by assumption) ?_
                    try simp only [Act.put, List.setIfInBounds_toArray, List.set_cons_zero, List.set_cons_succ]
                    refine wpAnyH_take (i := 55) (oi := { dst := _, op := _, type := _, pos := _, after := _, guard := _ }) rfl (by kernel_rfl) (by kernel_rfl) (by kernel_rfl) (fun _ _ _ h => h) (Or.inr ⟨by rfl, rfl⟩) (by assumption) ?_
                    try simp only [Act.put, List.setIfInBounds_toArray, List.set_cons_zero, List.set_cons_succ]
                    refine wpAnyH_take (i := 56) (oi := { dst := _, op := _, type := _, pos := _, after := _, guard := _ }) rfl (by kernel_rfl) (by kernel_rfl) (by kernel_rfl) (fun _ _ _ h => h) (Or.inr ⟨by rfl, rfl⟩) (by assumption) ?_
                    try simp only [Act.put, List.setIfInBounds_toArray, List.set_cons_zero, List.set_cons_succ]
                    refine wpAnyH_take (i := 57) (oi := { dst := _, op := _, type := _, pos := _, after := _, guard := _ }) (v := ?_) rfl (by kernel_rfl) (by kernel_rfl) (by kernel_rfl) (fun _ _ _ h => h) (Or.inl ⟨by rfl, ?_⟩) (by assumption) ?_
                    rotate_left
                    · intro W hSw
                      (try dsimp only at hSw)
                      go_simp
                      (try with_reducible rfl)
                    try simp only [Act.put, List.setIfInBounds_toArray, List.set_cons_zero, List.set_cons_succ]
                    refine wpAnyH_take (i := 58) (oi := { dst := _, op := _, type := _, pos := _, after := _, guard := _ }) (v := ?_) rfl (by kernel_rfl) (by kernel_rfl) (by kernel_rfl) (fun _ _ _ h => h) (Or.inl ⟨by rfl, ?_⟩) (by assumption) ?_
                    rotate_left
                    · intro W hSw
                      (try dsimp only at hSw)
                      go_simp
                      (try with_reducible rfl)
                    try simp only [Act.put, List.setIfInBounds_toArray, List.set_cons_zero, List.set_cons_succ]
                    refine wpAnyH_done (by kernel_rfl) ?_ _
                    refine NoPanic.normal ?_
                    go_wp2_with fail
                    go_roundg (p - (k + 1))
                    case measure => have := HK.out; have := HKL.out; omega
                    case rel => exact ⟨k + 1, by simp, ⟨HKL.out, rfl⟩, HC.out.drew⟩
                  · have d3 : decide ((k : Int) < (n i : Int)) = false := by rw [decide_eq_false_iff_not]; omega
                    have d4 : decide (k < n i) = false := decide_eq_false hkn
                    have d5 : decide ((n i : Int) ≤ (k : Int)) = true := by rw [decide_eq_true_eq]; omega
                    have d6 : decide (n i ≤ k) = true := by rw [decide_eq_true_eq]; omega
                    have HCL : Hid (∀ W, Below wb.heap.size wb W → W.cell? ⟨lb, i, none⟩ = some (.slice (a i) (n i) (c i))) := fun W hW => HCV.out i b2 W hW
                    have HUK0 : Hid (∀ W, Below wb.heap.size wb W → ∀ j u, (fdi (apF i))[j]? = some u → W.cell? ⟨gu, k * 2 + j, none⟩ = some u) := HUC.out (apF i) (by
                      have hp := HP.out
                      rw [List.getD_eq_getElem?_getD, List.getElem?_append_right (by rw [HXL.out.1]; omega), (HM4.out i b2).2, List.getElem?_replicate_of_lt (by rw [HXL.out.1]; omega)]; rfl)
                    have HUK : Hid (∀ W, Below wb.heap.size wb W → W.cell? ⟨gu, k * 2, none⟩ = some (.int .i64 (-8)) ∧ W.cell? ⟨gu, k * 2 + 1, none⟩ = some (.int .i64 (500000 + (i : Int)))) := fun W hW => ⟨HUK0.out W hW 0 _ rfl, HUK0.out W hW 1 _ rfl⟩
                    clear hkn
                    refine wp_region_noPanic ?_
                    refine wp_region_held_drew (S := fun W => Below wb.heap.size wb W) (by kernel_rfl) HD.out (fun hHeld => ?_)
                    refine wpAnyH_take (i := 0) (oi := { dst := _, op := _, type := _, pos := _, after := _, guard := _ }) (v := ?_) rfl (by kernel_rfl) (by kernel_rfl) (by kernel_rfl) (fun _ _ _ h => h) (Or.inl ⟨by rfl, ?_⟩) (by assumption) ?_
                    rotate_left
                    · intro W hSw
                      (try dsimp only at hSw)
                      go_simp
                      (try with_reducible rfl)
                    try simp only [Act.put, List.setIfInBounds_toArray, List.set_cons_zero, List.set_cons_succ]
                    refine wpAnyH_take (i := 1) (oi := { dst := _, op := _, type := _, pos := _, after := _, guard := _ }) (v := ?_) rfl (by kernel_rfl) (by kernel_rfl) (by kernel_rfl) (fun _ _ _ h => h) (Or.inl ⟨by rfl, ?_⟩) (by assumption) ?_
                    rotate_left
                    · intro W hSw
                      (try dsimp only at hSw)
                      go_simp
                      (try with_reducible rfl)
                    try simp only [Act.put, List.setIfInBounds_toArray, List.set_cons_zero, List.set_cons_succ]
                    refine wpAnyH_take (i := 2) (oi := { dst := _, op := _, type := _, pos := _, after := _, guard := _ }) (v := ?_) rfl (by kernel_rfl) (by kernel_rfl) (by kernel_rfl) (fun _ _ _ h => h) (Or.inl ⟨by rfl, ?_⟩) (by assumption) ?_
                    rotate_left
                    · intro W hSw
                      (try dsimp only at hSw)
                      go_simp
                      (try with_reducible rfl)
                    try simp only [Act.put, List.setIfInBounds_toArray, List.set_cons_zero, List.set_cons_succ]
                    refine wpAnyH_take (i := 3) (oi := { dst := _, op := _, type := _, pos := _, after := _, guard := _ }) (v := ?_) rfl (by kernel_rfl) (by kernel_rfl) (by kernel_rfl) (fun _ _ _ h => h) (Or.inl ⟨by rfl, ?_⟩) (by assumption) ?_
                    rotate_left
                    · intro W hSw
                      (try dsimp only at hSw)
                      go_simp
                      (try with_reducible rfl)
                    try simp only [Act.put, List.setIfInBounds_toArray, List.set_cons_zero, List.set_cons_succ]
                    refine wpAnyH_take (i := 4) (oi := { dst := _, op := _, type := _, pos := _, after := _, guard := _ }) (v := ?_) rfl (by kernel_rfl) (by kernel_rfl) (by kernel_rfl) (fun _ _ _ h => h) (Or.inl ⟨by rfl, ?_⟩) (by assumption) ?_
                    rotate_left
                    · intro W hSw
                      (try dsimp only at hSw)
                      have s0 := HCL.out W hSw
                      go_simp
                      (try with_reducible rfl)
                    try simp only [Act.put, List.setIfInBounds_toArray, List.set_cons_zero, List.set_cons_succ]
                    refine wpAnyH_take (i := 5) (oi := { dst := _, op := _, type := _, pos := _, after := _, guard := _ }) (v := ?_) rfl (by kernel_rfl) (by kernel_rfl) (by kernel_rfl) (fun _ _ _ h => h) (Or.inl ⟨by rfl, ?_⟩) (by assumption) ?_
                    rotate_left
                    · intro W hSw
                      (try dsimp only at hSw)
                      go_simp
                      (try with_reducible rfl)
                    try simp only [Act.put, List.setIfInBounds_toArray, List.set_cons_zero, List.set_cons_succ]
                    refine wpAnyH_take (i := 6) (oi := { dst := _, op := _, type := _, pos := _, after := _, guard := _ }) (v := ?_) rfl (by kernel_rfl) (by kernel_rfl) (by kernel_rfl) (fun _ _ _ h => h) (Or.inl ⟨by rfl, ?_⟩) (by assumption) ?_
                    rotate_left
                    · intro W hSw
                      (try dsimp only at hSw)
                      go_simp
                      (try with_reducible rfl)
                    try simp only [Act.put, List.setIfInBounds_toArray, List.set_cons_zero, List.set_cons_succ]
                    refine wpAnyH_take (i := 7) (oi := { dst := _, op := _, type := _, pos := _, after := _, guard := _ }) (v := ?_) rfl (by kernel_rfl) (by kernel_rfl) (by kernel_rfl) (fun _ _ _ h => h) (Or.inl ⟨by rfl, ?_⟩) (by assumption) ?_
                    rotate_left
                    · intro W hSw
                      (try dsimp only at hSw)
                      go_simp
                      (try with_reducible rfl)
                    try simp only [Act.put, List.setIfInBounds_toArray, List.set_cons_zero, List.set_cons_succ]
                    refine wpAnyH_take (i := 8) (oi := { dst := _, op := _, type := _, pos := _, after := _, guard := _ }) rfl (by kernel_rfl) (by kernel_rfl) (by kernel_rfl) (fun _ _ _ h => h) (Or.inr ⟨by rfl, rfl⟩) (by assumption) ?_
                    try simp only [Act.put, List.setIfInBounds_toArray, List.set_cons_zero, List.set_cons_succ]
                    refine wpAnyH_take (i := 9) (oi := { dst := _, op := _, type := _, pos := _, after := _, guard := _ }) rfl (by kernel_rfl) (by kernel_rfl) (by kernel_rfl) (fun _ _ _ h => h) (Or.inr ⟨by rfl, rfl⟩) (by assumption) ?_
                    try simp only [Act.put, List.setIfInBounds_toArray, List.set_cons_zero, List.set_cons_succ]
                    refine wpAnyH_take (i := 10) (oi := { dst := _, op := _, type := _, pos := _, after := _, guard := _ }) rfl (by kernel_rfl) (by kernel_rfl) (by kernel_rfl) (fun _ _ _ h => h) (Or.inr ⟨by rfl, rfl⟩) (by assumption) ?_
                    try simp only [Act.put, List.setIfInBounds_toArray, List.set_cons_zero, List.set_cons_succ]
                    refine wpAnyH_take (i := 11) (oi := { dst := _, op := _, type := _, pos := _, after := _, guard := _ }) rfl (by kernel_rfl) (by kernel_rfl) (by kernel_rfl) (fun _ _ _ h => h) (Or.inr ⟨by rfl, rfl⟩) (by assumption) ?_
                    try simp only [Act.put, List.setIfInBounds_toArray, List.set_cons_zero, List.set_cons_succ]
                    refine wpAnyH_take (i := 12) (oi := { dst := _, op := _, type := _, pos := _, after := _, guard := _ }) rfl (by kernel_rfl) (by kernel_rfl) (by kernel_rfl) (fun _ _ _ h => h) (Or.inr ⟨by rfl, rfl⟩) (by assumption) ?_
                    try simp only [Act.put, List.setIfInBounds_toArray, List.set_cons_zero, List.set_cons_succ]
                    refine wpAnyH_take (i := 13) (oi := { dst := _, op := _, type := _, pos := _, after := _, guard := _ }) rfl (by kernel_rfl) (by kernel_rfl) (by kernel_rfl) (fun _ _ _ h => h) (Or.inr ⟨by rfl, rfl⟩) (by assumption) ?_
                    try simp only [Act.put, List.setIfInBounds_toArray, List.set_cons_zero, List.set_cons_succ]
                    refine wpAnyH_take (i := 14) (oi := { dst := _, op := _, type := _, pos := _, after := _, guard := _ }) rfl (by kernel_rfl) (by kernel_rfl) (by kernel_rfl) (fun _ _ _ h => h) (Or.inr ⟨by rfl, rfl⟩) (by assumption) ?_
                    try simp only [Act.put, List.setIfInBounds_toArray, List.set_cons_zero, List.set_cons_succ]
                    refine wpAnyH_take (i := 15) (oi := { dst := _, op := _, type := _, pos := _, after := _, guard := _ }) rfl (by kernel_rfl) (by kernel_rfl) (by kernel_rfl) (fun _ _ _ h => h) (Or.inr ⟨by rfl, rfl⟩) (by assumption) ?_
                    try simp only [Act.put, List.setIfInBounds_toArray, List.set_cons_zero, List.set_cons_succ]
                    refine wpAnyH_take (i := 16) (oi := { dst := _, op := _, type := _, pos := _, after := _, guard := _ }) rfl (by kernel_rfl) (by kernel_rfl) (by kernel_rfl) (fun _ _ _ h => h) (Or.inr ⟨by rfl, rfl⟩) (by assumption) ?_
                    try simp only [Act.put, List.setIfInBounds_toArray, List.set_cons_zero, List.set_cons_succ]
                    refine wpAnyH_take (i := 17) (oi := { dst := _, op := _, type := _, pos := _, after := _, guard := _ }) rfl (by kernel_rfl) (by kernel_rfl) (by kernel_rfl) (fun _ _ _ h => h) (Or.inr ⟨by rfl, rfl⟩) (by assumption) ?_
                    try simp only [Act.put, List.setIfInBounds_toArray, List.set_cons_zero, List.set_cons_succ]
                    refine wpAnyH_take (i := 18) (oi := { dst := _, op := _, type := _, pos := _, after := _, guard := _ }) rfl (by kernel_rfl) (by kernel_rfl) (by kernel_rfl) (fun _ _ _ h => h) (Or.inr ⟨by rfl, rfl⟩) (by assumption) ?_
                    try simp only [Act.put, List.setIfInBounds_toArray, List.set_cons_zero, List.set_cons_succ]
                    refine wpAnyH_take (i := 19) (oi := { dst := _, op := _, type := _, pos := _, after := _, guard := _ }) rfl (by kernel_rfl) (by kernel_rfl) (by kernel_rfl) (fun _ _ _ h => h) (Or.inr ⟨by rfl, rfl⟩) (by assumption) ?_
                    try simp only [Act.put, List.setIfInBounds_toArray, List.set_cons_zero, List.set_cons_succ]
                    refine wpAnyH_take (i := 20) (oi := { dst := _, op := _, type := _, pos := _, after := _, guard := _ }) rfl (by kernel_rfl) (by kernel_rfl) (by kernel_rfl) (fun _ _ _ h => h) (Or.inr ⟨by rfl, rfl⟩) (by assumption) ?_
                    try simp only [Act.put, List.setIfInBounds_toArray, List.set_cons_zero, List.set_cons_succ]
                    refine wpAnyH_take (i := 21) (oi := { dst := _, op := _, type := _, pos := _, after := _, guard := _ }) rfl (by kernel_rfl) (by kernel_rfl) (by kernel_rfl) (fun _ _ _ h => h) (Or.inr ⟨by rfl, rfl⟩) (by assumption) ?_
                    try simp only [Act.put, List.setIfInBounds_toArray, List.set_cons_zero, List.set_cons_succ]
                    refine wpAnyH_take (i := 22) (oi := { dst := _, op := _, type := _, pos := _, after := _, guard := _ }) rfl (by kernel_rfl) (by kernel_rfl) (by kernel_rfl) (fun _ _ _ h => h) (Or.inr ⟨by rfl, rfl⟩) (by assumption) ?_
                    try simp only [Act.put, List.setIfInBounds_toArray, List.set_cons_zero, List.set_cons_succ]
                    refine wpAnyH_take (i := 23) (oi := { dst := _, op := _, type := _, pos := _, after := _, guard := _ }) rfl (by kernel_rfl) (by kernel_rfl) (by kernel_rfl) (fun _ _ _ h => h) (Or.inr ⟨by rfl, rfl⟩) (by assumption) ?_
                    try simp only [Act.put, List.setIfInBounds_toArray, List.set_cons_zero, List.set_cons_succ]
                    refine wpAnyH_take (i := 24) (oi := { dst := _, op := _, type := _, pos := _, after := _, guard := _ }) rfl (by kernel_rfl) (by kernel_rfl) (by kernel_rfl) (fun _ _ _ h => h) (Or.inr ⟨by rfl, rfl⟩) (by assumption) ?_
                    try simp only [Act.put, List.setIfInBounds_toArray, List.set_cons_zero, List.set_cons_succ]
                    refine wpAnyH_take (i := 25) (oi := { dst := _, op := _, type := _, pos := _, after := _, guard := _ }) rfl (by kernel_rfl) (by kernel_rfl) (by kernel_rfl) (fun _ _ _ h => h) (Or.inr ⟨by rfl, rfl⟩) (by assumption) ?_
                    try simp only [Act.put, List.setIfInBounds_toArray, List.set_cons_zero, List.set_cons_succ]
                    refine wpAnyH_take (i := 26) (oi := { dst := _, op := _, type := _, pos := _, after := _, guard := _ }) rfl (by kernel_rfl) (by kernel_rfl) (by kernel_rfl) (fun _ _ _ h => h) (Or.inr ⟨by rfl, rfl⟩) (by assumption) ?_
                    try simp only [Act.put, List.setIfInBounds_toArray, List.set_cons_zero, List.set_cons_succ]
                    refine wpAnyH_take (i := 27) (oi := { dst := _, op := _, type := _, pos := _, after := _, guard := _ }) rfl (by kernel_rfl) (by kernel_rfl) (by kernel_rfl) (fun _ _ _ h => h) (Or.inr ⟨by rfl, rfl⟩) (by assumption) ?_
                    try simp only [Act.put, List.setIfInBounds_toArray, List.set_cons_zero, List.set_cons_succ]
                    refine wpAnyH_take (i := 28) (oi := { dst := _, op := _, type := _, pos := _, after := _, guard := _ }) rfl (by kernel_rfl) (by kernel_rfl) (by kernel_rfl) (fun _ _ _ h => h) (Or.inr ⟨by rfl, rfl⟩) (by assumption) ?_
                    try simp only [Act.put, List.setIfInBounds_toArray, List.set_cons_zero, List.set_cons_succ]
                    refine wpAnyH_take (i := 29) (oi := { dst := _, op := _, type := _, pos := _, after := _, guard := _ }) rfl (by kernel_rfl) (by kernel_rfl) (by kernel_rfl) (fun _ _ _ h => h) (Or.inr ⟨by rfl, rfl⟩) (by assumption) ?_
                    try simp only [Act.put, List.setIfInBounds_toArray, List.set_cons_zero, List.set_cons_succ]
                    refine wpAnyH_take (i := 30) (oi := { dst := _, op := _, type := _, pos := _, after := _, guard := _ }) rfl (by kernel_rfl) (by kernel_rfl) (by kernel_rfl) (fun _ _ _ h => h) (Or.inr ⟨by rfl, rfl⟩) (by assumption) ?_
                    try simp only [Act.put, List.setIfInBounds_toArray, List.set_cons_zero, List.set_cons_succ]
                    refine wpAnyH_take (i := 31) (oi := { dst := _, op := _, type := _, pos := _, after := _, guard := _ }) rfl (by kernel_rfl) (by kernel_rfl) (by kernel_rfl) (fun _ _ _ h => h) (Or.inr ⟨by rfl, rfl⟩) (by assumption) ?_
                    try simp only [Act.put, List.setIfInBounds_toArray, List.set_cons_zero, List.set_cons_succ]
                    refine wpAnyH_take (i := 32) (oi := { dst := _, op := _, type := _, pos := _, after := _, guard := _ }) rfl (by kernel_rfl) (by kernel_rfl) (by kernel_rfl) (fun _ _ _ h => h) (Or.inr ⟨by rfl, rfl⟩) (by assumption) ?_
                    try simp only [Act.put, List.setIfInBounds_toArray, List.set_cons_zero, List.set_cons_succ]
                    refine wpAnyH_take (i := 33) (oi := { dst := _, op := _, type := _, pos := _, after := _, guard := _ }) rfl (by kernel_rfl) (by kernel_rfl) (by kernel_rfl) (fun _ _ _ h => h) (Or.inr ⟨by rfl, rfl⟩) (by assumption) ?_
                    try simp only [Act.put, List.setIfInBounds_toArray, List.set_cons_zero, List.set_cons_succ]
                    refine wpAnyH_take (i := 34) (oi := { dst := _, op := _, type := _, pos := _, after := _, guard := _ }) rfl (by kernel_rfl) (by kernel_rfl) (by kernel_rfl) (fun _ _ _ h => h) (Or.inr ⟨by rfl, rfl⟩) (by assumption) ?_
                    try simp only [Act.put, List.setIfInBounds_toArray, List.set_cons_zero, List.set_cons_succ]
                    refine wpAnyH_take (i := 35) (oi := { dst := _, op := _, type := _, pos := _, after := _, guard := _ }) rfl (by kernel_rfl) (by kernel_rfl) (by kernel_rfl) (fun _ _ _ h => h) (Or.inr ⟨by rfl, rfl⟩) (by assumption) ?_
                    try simp only [Act.put, List.setIfInBounds_toArray, List.set_cons_zero, List.set_cons_succ]
                    refine wpAnyH_take (i := 36) (oi := { dst := _, op := _, type := _, pos := _, after := _, guard := _ }) (v := ?_) rfl (by kernel_rfl) (by kernel_rfl) (by kernel_rfl) (fun _ _ _ h => h) (Or.inl ⟨by rfl, ?_⟩) (by assumption) ?_
                    rotate_left
                    · intro W hSw
                      (try dsimp only at hSw)
                      go_simp
                      (try with_reducible rfl)
                    try simp only [Act.put, List.setIfInBounds_toArray, List.set_cons_zero, List.set_cons_succ]
                    refine wpAnyH_take (i := 37) (oi := { dst := _, op := _, type := _, pos := _, after := _, guard := _ }) (v := ?_) rfl (by kernel_rfl) (by kernel_rfl) (by kernel_rfl) (fun _ _ _ h => h) (Or.inl ⟨by rfl, ?_⟩) (by assumption) ?_
                    rotate_left
                    · intro W hSw
                      (try dsimp only at hSw)
                      go_simp
                      (try with_reducible rfl)
                    try simp only [Act.put, List.setIfInBounds_toArray, List.set_cons_zero, List.set_cons_succ]
                    refine wpAnyH_take (i := 38) (oi := { dst := _, op := _, type := _, pos := _, after := _, guard := _ }) (v := ?_) rfl (by kernel_rfl) (by kernel_rfl) (by kernel_rfl) (fun _ _ _ h => h) (Or.inl ⟨by rfl, ?_⟩) (by assumption) ?_
                    rotate_left
                    · intro W hSw
                      (try dsimp only at hSw)
                      go_simp
                      (try with_reducible rfl)
                    try simp only [Act.put, List.setIfInBounds_toArray, List.set_cons_zero, List.set_cons_succ]
                    refine wpAnyH_take (i := 39) (oi := { dst := _, op := _, type := _, pos := _, after := _, guard := _ }) (v := ?_) rfl (by kernel_rfl) (by kernel_rfl) (by kernel_rfl) (fun _ _ _ h => h) (Or.inl ⟨by rfl, ?_⟩) (by assumption) ?_
                    rotate_left
                    · intro W hSw
                      (try dsimp only at hSw)
                      go_simp
                      (try with_reducible rfl)
                    try simp only [Act.put, List.setIfInBounds_toArray, List.set_cons_zero, List.set_cons_succ]
                    refine wpAnyH_take (i := 40) (oi := { dst := _, op := _, type := _, pos := _, after := _, guard := _ }) (v := ?_) rfl (by kernel_rfl) (by kernel_rfl) (by kernel_rfl) (fun _ _ _ h => h) (Or.inl ⟨by rfl, ?_⟩) (by assumption) ?_
                    rotate_left
                    · intro W hSw
                      (try dsimp only at hSw)
                      go_simp
                      (try with_reducible rfl)
                    try simp only [Act.put, List.setIfInBounds_toArray, List.set_cons_zero, List.set_cons_succ]
                    refine wpAnyH_take (i := 41) (oi := { dst := _, op := _, type := _, pos := _, after := _, guard := _ }) (v := ?_) rfl (by kernel_rfl) (by kernel_rfl) (by kernel_rfl) (fun _ _ _ h => h) (Or.inl ⟨by rfl, ?_⟩) (by assumption) ?_
                    rotate_left
                    · intro W hSw
                      (try dsimp only at hSw)
                      go_simp
                      (try with_reducible rfl)
                    try simp only [Act.put, List.setIfInBounds_toArray, List.set_cons_zero, List.set_cons_succ]
                    refine wpAnyH_take (i := 42) (oi := { dst := _, op := _, type := _, pos := _, after := _, guard := _ }) (v := ?_) rfl (by kernel_rfl) (by kernel_rfl) (by kernel_rfl) (fun _ _ _ h => h) (Or.inl ⟨by rfl, ?_⟩) (by assumption) ?_
                    rotate_left
                    · intro W hSw
                      (try dsimp only at hSw)
                      have s0 := HCL.out W hSw
                      go_simp
                      (try with_reducible rfl)
                    try simp only [Act.put, List.setIfInBounds_toArray, List.set_cons_zero, List.set_cons_succ]
                    refine wpAnyH_take (i := 43) (oi := { dst := _, op := _, type := _, pos := _, after := _, guard := _ }) (v := ?_) rfl (by kernel_rfl) (by kernel_rfl) (by kernel_rfl) (fun _ _ _ h => h) (Or.inl ⟨by rfl, ?_⟩) (by assumption) ?_
                    rotate_left
                    · intro W hSw
                      (try dsimp only at hSw)
                      go_simp
                      (try with_reducible rfl)
                    try simp only [Act.put, List.setIfInBounds_toArray, List.set_cons_zero, List.set_cons_succ]
                    refine wpAnyH_take (i := 44) (oi := { dst := _, op := _, type := _, pos := _, after := _, guard := _ }) (v := ?_) rfl (by kernel_rfl) (by kernel_rfl) (by kernel_rfl) (fun _ _ _ h => h) (Or.inl ⟨by rfl, ?_⟩) (by assumption) ?_
                    rotate_left
                    · intro W hSw
                      (try dsimp only at hSw)
                      go_simp
                      (try with_reducible rfl)
                    try simp only [Act.put, List.setIfInBounds_toArray, List.set_cons_zero, List.set_cons_succ]
                    refine wpAnyH_take (i := 45) (oi := { dst := _, op := _, type := _, pos := _, after := _, guard := _ }) (v := ?_) rfl (by kernel_rfl) (by kernel_rfl) (by kernel_rfl) (fun _ _ _ h => h) (Or.inl ⟨by rfl, ?_⟩) (by assumption) ?_
                    rotate_left
                    · intro W hSw
                      (try dsimp only at hSw)
                      go_simp
                      (try with_reducible rfl)
                    try simp only [Act.put, List.setIfInBounds_toArray, List.set_cons_zero, List.set_cons_succ]
                    refine wpAnyH_take (i := 46) (oi := { dst := _, op := _, type := _, pos := _, after := _, guard := _ }) (v := ?_) rfl (by kernel_rfl) (by kernel_rfl) (by kernel_rfl) (fun _ _ _ h => h) (Or.inl ⟨by rfl, ?_⟩) (by assumption) ?_
                    rotate_left
                    · intro W hSw
                      (try dsimp only at hSw)
                      go_simp
                      (try with_reducible rfl)
                    try simp only [Act.put, List.setIfInBounds_toArray, List.set_cons_zero, List.set_cons_succ]
                    refine wpAnyH_take (i := 47) (oi := { dst := _, op := _, type := _, pos := _, after := _, guard := _ }) (v := ?_) rfl (by kernel_rfl) (by kernel_rfl) (by kernel_rfl) (fun _ _ _ h => h) (Or.inl ⟨by rfl, ?_⟩) (by assumption) ?_
                    rotate_left
                    · intro W hSw
                      (try dsimp only at hSw)
                      go_simp
                      (try with_reducible rfl)
                    try simp only [Act.put, List.setIfInBounds_toArray, List.set_cons_zero, List.set_cons_succ]
                    refine wpAnyH_take (i := 48) (oi := { dst := _, op := _, type := _, pos := _, after := _, guard := _ }) (v := ?_) rfl (by kernel_rfl) (by kernel_rfl) (by kernel_rfl) (fun _ _ _ h => h) (Or.inl ⟨by rfl, ?_⟩) (by assumption) ?_
                    rotate_left
                    · intro W hSw
                      (try dsimp only at hSw)
                      go_simp
                      (try with_reducible rfl)
                    try simp only [Act.put, List.setIfInBounds_toArray, List.set_cons_zero, List.set_cons_succ]
                    refine wpAnyH_take (i := 49) (oi := { dst := _, op := _, type := _, pos := _, after := _, guard := _ }) (v := ?_) rfl (by kernel_rfl) (by kernel_rfl) (by kernel_rfl) (fun _ _ _ h => h) (Or.inl ⟨by rfl, ?_⟩) (by assumption) ?_
                    rotate_left
                    · intro W hSw
                      (try dsimp only at hSw)
                      have s0 := HCI.out W hSw
                      go_simp
                      (try with_reducible rfl)
                    try simp only [Act.put, List.setIfInBounds_toArray, List.set_cons_zero, List.set_cons_succ]
                    refine wpAnyH_take (i := 50) (oi := { dst := _, op := _, type := _, pos := _, after := _, guard := _ }) (v := ?_) rfl (by kernel_rfl) (by kernel_rfl) (by kernel_rfl) (fun _ _ _ h => h) (Or.inl ⟨by rfl, ?_⟩) (by assumption) ?_
                    rotate_left
                    · intro W hSw
                      (try dsimp only at hSw)
                      go_simp
                      (try with_reducible rfl)
                    try simp only [Act.put, List.setIfInBounds_toArray, List.set_cons_zero, List.set_cons_succ]
                    refine wpAnyH_take (i := 51) (oi := { dst := _, op := _, type := _, pos := _, after := _, guard := _ }) (v := ?_) rfl (by kernel_rfl) (by kernel_rfl) (by kernel_rfl) (fun _ _ _ h => h) (Or.inl ⟨by rfl, ?_⟩) (by assumption) ?_
                    rotate_left
                    · intro W hSw
                      (try dsimp only at hSw)
                      go_simp
                      (try with_reducible rfl)
                    try simp only [Act.put, List.setIfInBounds_toArray, List.set_cons_zero, List.set_cons_succ]
                    refine wpAnyH_take (i := 52) (oi := { dst := _, op := _, type := _, pos := _, after := _, guard := _ }) (v := ?_) rfl (by kernel_rfl) (by kernel_rfl) (by kernel_rfl) (fun _ _ _ h => h) (Or.inl ⟨by rfl, ?_⟩) (by assumption) ?_
                    rotate_left
                    · intro W hSw
                      (try dsimp only at hSw)
                      obtain ⟨s0, s1⟩ := HUK.out W hSw
                      go_simp
                      (try with_reducible rfl)
                    try simp only [Act.put, List.setIfInBounds_toArray, List.set_cons_zero, List.set_cons_succ]
                    refine wpAnyH_take (i := 53) (oi := { dst := _, op := _, type := _, pos := _, after := _, guard := _ }) (v := ?_) rfl (by kernel_rfl) (by kernel_rfl) (by kernel_rfl) (fun _ _ _ h => h) (Or.inl ⟨by rfl, ?_⟩) (by assumption) ?_
                    rotate_left
                    · intro W hSw
                      (try dsimp only at hSw)
                      go_simp
                      (try with_reducible rfl)
                    try simp only [Act.put, List.setIfInBounds_toArray, List.set_cons_zero, List.set_cons_succ]
                    refine wpAnyH_take (i := 54) (oi := { dst := _, op := _, type := _, pos := _, after := _, guard := _ }) (v := ?_) rfl (by kernel_rfl) (by kernel_rfl) (by kernel_rfl) (fun _ _ _ h => h) (Or.inl ⟨by rfl, ?_⟩) (by assumption) ?_
                    rotate_left
                    · intro W hSw
                      (try dsimp only at hSw)
                      go_simp
                      (try with_reducible rfl)
                    try simp only [Act.put, List.setIfInBounds_toArray, List.set_cons_zero, List.set_cons_succ]
                    refine wpAnyH_take (i := 55) (oi := { dst := _, op := _, type := _, pos := _, after := _, guard := _ }) (v := ?_) rfl (by kernel_rfl) (by kernel_rfl) (by kernel_rfl) (fun _ _ _ h => h) (Or.inl ⟨by rfl, ?_⟩) (by assumption) ?_
                    rotate_left
                    · intro W hSw
                      (try dsimp only at hSw)
                      go_simp
                      (try with_reducible rfl)
                    try simp only [Act.put, List.setIfInBounds_toArray, List.set_cons_zero, List.set_cons_succ]
                    refine wpAnyH_take (i := 56) (oi := { dst := _, op := _, type := _, pos := _, after := _, guard := _ }) (v := ?_) rfl (by kernel_rfl) (by kernel_rfl) (by kernel_rfl) (fun _ _ _ h => h) (Or.inl ⟨by rfl, ?_⟩) (by assumption) ?_
                    rotate_left
                    · intro W hSw
                      (try dsimp only at hSw)
                      go_simp
                      (try with_reducible rfl)
                    try simp only [Act.put, List.setIfInBounds_toArray, List.set_cons_zero, List.set_cons_succ]
                    refine wpAnyH_take (i := 57) (oi := { dst := _, op := _, type := _, pos := _, after := _, guard := _ }) (v := ?_) rfl (by kernel_rfl) (by kernel_rfl) (by kernel_rfl) (fun _ _ _ h => h) (Or.inl ⟨by rfl, ?_⟩) (by assumption) ?_
                    rotate_left
                    · intro W hSw
                      (try dsimp only at hSw)
                      go_simp
                      (try with_reducible rfl)
                    try simp only [Act.put, List.setIfInBounds_toArray, List.set_cons_zero, List.set_cons_succ]
                    refine wpAnyH_take (i := 58) (oi := { dst := _, op := _, type := _, pos := _, after := _, guard := _ }) (v := ?_) rfl (by kernel_rfl) (by kernel_rfl) (by kernel_rfl) (fun _ _ _ h => h) (Or.inl ⟨by rfl, ?_⟩) (by assumption) ?_
                    rotate_left
                    · intro W hSw
                      (try dsimp only at hSw)
                      go_simp
                      (try with_reducible rfl)
                    try simp only [Act.put, List.setIfInBounds_toArray, List.set_cons_zero, List.set_cons_succ]
                    refine wpAnyH_done (by kernel_rfl) ?_ _
                    refine NoPanic.normal ?_
                    go_wp2_with fail
                    go_roundg (p - (k + 1))
                    case measure => have := HK.out; have := HKL.out; omega
                    case rel => exact ⟨k + 1, by simp, ⟨HKL.out, rfl⟩, HC.out.drew⟩
                · have d1 : decide ((k : Int) < (p : Int)) = false := by rw [decide_eq_false_iff_not]; omega
                  have d2 : decide (k < p) = false := decide_eq_false hk
                  clear hk
                  go_wp2_with fail
                  go_roundg (4 - (i + 1))
                  case measure => have := HI.out; have := HIL.out; omega
                  case rel => exact ⟨i + 1, by simp, ⟨HIL.out, rfl⟩, HC⟩
            · have e1 : decide ((i : Int) < 4) = false := by rw [decide_eq_false_iff_not]; omega
              clear hi
              go_wp2_with fail
              go_ret
              exact ⟨rfl, HO.out.1.step (grown_of_below HC.out) (fun b _ hb => by cases hb)⟩
end Go.Proofs.Yticheeacbajeeaa
namespace Go.Proofs.Yticheeacbajeeaa
open Go.RowKit Go.Maps

theorem syf_len' (x : Sy) : (syf x).length = 5 := rfl
theorem syf_one' (x : Sy) : ∀ u ∈ syf x, u.oneCell' = true := fun u hu => by
  simp only [syf, List.mem_cons, List.not_mem_nil, or_false] at hu
  rcases hu with rfl | rfl | rfl | rfl | rfl <;> rfl
def spS (i : Nat) : Sy := ⟨⟨#[115, 112, 111, 105, 108, 116]⟩, ⟨#[]⟩, 0, 0, 1000 + (i : Int)⟩
def apS (i : Nat) : Sy := ⟨⟨#[109, 111, 114, 101]⟩, ⟨#[]⟩, 0, 0, 500000 + (i : Int)⟩
theorem eq_spS (i : Nat) (W : World) : (Op.equalIn 10000 59 (.agg #[.string ⟨#[115, 112, 111, 105, 108, 116]⟩, .string ⟨#[]⟩, .int .i64 0, .int .i64 0, .int .i64 (1000 + (i : Int))]) (.agg #[.string ⟨#[115, 112, 111, 105, 108, 116]⟩, .string ⟨#[]⟩, .int .i64 0, .int .i64 0, .int .i64 (1000 + (i : Int))])).run Try.prog W = .ok true W := by
  go_simp
theorem eq_apS (i : Nat) (W : World) : (Op.equalIn 10000 59 (.agg #[.string ⟨#[109, 111, 114, 101]⟩, .string ⟨#[]⟩, .int .i64 0, .int .i64 0, .int .i64 (500000 + (i : Int))]) (.agg #[.string ⟨#[109, 111, 114, 101]⟩, .string ⟨#[]⟩, .int .i64 0, .int .i64 0, .int .i64 (500000 + (i : Int))])).run Try.prog W = .ok true W := by
  go_simp
theorem infoRS : (Try.prog.info? 29).map (fun i => (i.zero, i.size, i.bytes)) = some (some (.slice none 0 0), 1, 24) := by kernel_rfl
theorem szS : (Try.prog.info? 59).map (·.size) = some 5 := by kernel_rfl
theorem row_thereS {W : World} {B g n cap k : Nat} {s : List (Sy)} (h : W.ownsRow B 59 5 (.slice (some ⟨g, 0, none⟩) n cap) n (flat syf s)) (hi : k < s.length) : W.there g (k * 5) 5 := fun j hj => by
  obtain ⟨_, cur, hgh⟩ := row_tag h g rfl
  refine ⟨?_, Lib.frozen_of_heap hgh _⟩
  have hl : k * 5 + j < (flat syf s).length := by rw [flat_len syf_len']; omega
  rw [row_at h (k * 5 + j) _ (List.getElem?_eq_getElem hl)]
  rfl
theorem Fm.congrS {B : Nat} {W : World} {v : Nat → Value} {n : Nat → Nat} {X Y : Nat → List (Sy)} (h : Fm syf 59 5 B W v n X) (he : ∀ j, j < 4 → X j = Y j) : Fm syf 59 5 B W v n Y :=
  ⟨fun j hj => by rw [← he j hj]; exact h.row j hj, fun j hj => by rw [← he j hj]; exact h.len j hj, h.ap⟩
theorem list4S {W : World} {lb : Nat} {a : Nat → Option Addr} {n c : Nat → Nat} (h : W.heap[lb]? = some (.cells #[vsl a n c 0, vsl a n c 1, vsl a n c 2, vsl a n c 3] 29 (0, 0))) (i : Nat) (hi : i < 4) : W.cell? ⟨lb, i, none⟩ = some (.slice (a i) (n i) (c i)) := by
  rcases (by omega : i = 0 ∨ i = 1 ∨ i = 2 ∨ i = 3) with rfl | rfl | rfl | rfl
  · exact rcell h 0 _ rfl
  · exact rcell h 1 _ rfl
  · exact rcell h 2 _ rfl
  · exact rcell h 3 _ rfl
set_option maxRecDepth 100000 in
set_option maxHeartbeats 16000000 in
theorem symbolsApart_any (w : World) (B lb : Nat) (a : Nat → Option Addr) (n c : Nat → Nat) (X : Nat → List (Sy)) (h : Fm syf 59 5 B w (vsl a n c) n X) (hl : w.heap[lb]? = some (.cells #[vsl a n c 0, vsl a n c 1, vsl a n c 2, vsl a n c 3] 29 (0, 0))) (hn : ∀ j, j < 4 → n j ≤ 1954687338212) (hB : B ≤ w.heap.size) : Calls Try.prog 19 #[.slice (some ⟨lb, 0, none⟩) 4 4] w fun e w' => e = .returned (.bool true) ∧ Oth (vsl a n c) w w' := by
  obtain ⟨iF, hiF, hx0, hx1, hx2⟩ := info_parts infoSy
  obtain ⟨iR, hiR, hy0, hy1, hy2⟩ := info_parts infoRS
  have HFM : Hid (Fm syf 59 5 B w (vsl a n c) n X) := h
  have HL : Hid (w.heap[lb]? = some (.cells #[vsl a n c 0, vsl a n c 1, vsl a n c 2, vsl a n c 3] 29 (0, 0))) := hl
  have HN : Hid (∀ j, j < 4 → n j ≤ 1954687338212) := hn
  have HBB : Hid (B ≤ w.heap.size) := hB
  clear h hl hn hB
  go_enter Try.func19, Try.ntmps19
  go_upto_region 2 with fail
  go_loopg [3] 4 (fun gm v3 wr => ∃ (i : Nat) (X' : Nat → List (Sy)), v3 = .int .i64 (i : Int) ∧ Hid (i ≤ 4 ∧ gm = 4 - i) ∧ Hid (Fm syf 59 5 B wr (vsl a n c) n X') ∧ Hid (∀ j, j < i → X' j = List.replicate (n j) (spS j)) ∧ Hid (Oth (vsl a n c) w wr) ∧ Hid (wr.heap[lb]? = some (.cells #[vsl a n c 0, vsl a n c 1, vsl a n c 2, vsl a n c 3] 29 (0, 0))))
  case atStart => exact ⟨0, X, rfl, ⟨Nat.zero_le _, rfl⟩, HFM, fun j hj => absurd hj (Nat.not_lt_zero _), Oth.refl _ _, HL⟩
  case round =>
    obtain ⟨i, X1, rfl, HI, HX, HS, HO, HLB⟩ := hrel
    obtain ⟨wa, hwa⟩ : ∃ wa, wa = wr := ⟨_, rfl⟩
    rw [← hwa] at HX HO HLB ⊢
    clear hwa
    by_cases hi : i < 4
    · have e1 : decide ((i : Int) < 4) = true := by rw [decide_eq_true_eq]; omega
      have b1 : (i : Int) < 4 := by omega
      have b2 : i < 4 := hi
      have b3 : (0 : Int) ≤ (i : Int) := by omega
      have HIL : Hid (i < 4) := hi
      have hwi := w64n i (by omega)
      clear hi
      go_upto_region 5 with fail
      go_loopg [4] (n i) (fun gm v4 wr => ∃ (k : Nat) (X' : Nat → List (Sy)), v4 = .int .i64 (k : Int) ∧ Hid (k ≤ n i ∧ gm = n i - k) ∧ Hid (Fm syf 59 5 B wr (vsl a n c) n X') ∧ Hid (∀ j, j < i → X' j = List.replicate (n j) (spS j)) ∧ Hid ((X' i).take k = List.replicate k (spS i)) ∧ Hid (Oth (vsl a n c) w wr) ∧ Hid (wr.heap[lb]? = some (.cells #[vsl a n c 0, vsl a n c 1, vsl a n c 2, vsl a n c 3] 29 (0, 0))))
      case atStart => exact ⟨0, X1, rfl, ⟨Nat.zero_le _, rfl⟩, HX, HS, rfl, HO, HLB⟩
      case round =>
        clear HX HS HO HLB
        obtain ⟨k, X2, rfl, HK, HX, HS, HT, HO, HLB⟩ := hrel
        obtain ⟨wb, hwb⟩ : ∃ wb, wb = wr := ⟨_, rfl⟩
        rw [← hwb] at HX HO HLB ⊢
        clear hwb
        have hc := list4S HLB.out i b2
        have hwk := w64n k (by have := HN.out i b2; have := HK.out; omega)
        by_cases hk : k < n i
        · have d1 : decide ((k : Int) < (n i : Int)) = true := by rw [decide_eq_true_eq]; omega
          have d2 : decide (k < n i) = true := decide_eq_true hk
          have b4 : (k : Int) < (n i : Int) := by omega
          have b5 : (0 : Int) ≤ (k : Int) := by omega
          have HKL : Hid (k < n i) := hk
          have hw1 : IntKind.i64.wrap (1000 + (i : Int)) = 1000 + (i : Int) := by rw [IntKind.wrap_i64]; omega
          obtain ⟨g, hag⟩ : ∃ g, a i = some ⟨g, 0, none⟩ := by
            obtain ⟨g, cap, e0, -⟩ := row_form (HX.out.row i b2) (by omega)
            exact ⟨g, (Value.slice.inj e0).1⟩
          rw [hag] at hc
          have HPUT : Hid _ := HX.out.put syf_len' b2 (by show Value.slice _ _ _ = _; rw [hag]) hk (spS i)
          have HTH : Hid (wb.there g (k * 5) 5) := by
            have hr : wb.ownsRow B 59 5 (.slice (a i) (n i) (c i)) (n i) (flat syf (X2 i)) := HX.out.row i b2
            rw [hag] at hr
            exact row_thereS hr (by rw [HX.out.len i b2]; exact hk)
          clear hk
          go_wp2_with (refine wpList_store_mid rfl 59 _ _ rfl g (k * 5) #[.string ⟨#[115, 112, 111, 105, 108, 116]⟩, .string ⟨#[]⟩, .int .i64 0, .int .i64 0, .int .i64 (1000 + (i : Int))] rfl rfl HTH.out szS (all_oneCell_toArray (syf_one' (spS i))) ?_; obtain ⟨wc, hwc⟩ : ∃ wc, wb.setCells g (k * 5) (syf (spS i)) = wc := ⟨_, rfl⟩; have HP : Hid (Fm syf 59 5 B wc (vsl a n c) n (upd X2 i ((X2 i).set k (spS i))) ∧ wb.grownBy wc (vsl a n c i).ownBlock) := (by have h7 := HPUT.out; rw [hwc] at h7; exact h7); refine (show wpList _ _ _ _ _ (wb.setCells g (k * 5) (syf (spS i))) from ?_); rw [hwc]; clear hwc HPUT HTH)
          go_roundg (n i - (k + 1))
          case measure => have := HK.out; have := HKL.out; omega
          case rel =>
            have hbi : (vsl a n c i).ownBlock = some g := by show (Value.slice _ _ _).ownBlock = _; rw [hag]; rfl
            have hlb : g ≠ lb := fun e9 => by
              obtain ⟨_, cur, h9⟩ := row_tag (HX.out.row i b2) g hbi
              rw [e9, HLB.out] at h9
              cases h9
            refine ⟨k + 1, _, by simp, ⟨HKL.out, rfl⟩, HP.out.1, fun j hj => ?_, ?_, HO.out.step HP.out.2 (fun b _ hb => ⟨i, b2, hb⟩), ?_⟩
            · show upd X2 i _ j = _
              rw [upd_ne _ _ (by omega)]
              exact HS.out j hj
            · show List.take (k + 1) (upd X2 i _ i) = _
              rw [upd_self, take_put' _ _ _ (by rw [HX.out.len i b2]; exact HKL.out), HT.out, List.replicate_succ']
            · show wc.heap[lb]? = _
              rw [HP.out.2.block lb (lt_of_heap HLB.out) (by rw [hbi]; exact fun e9 => hlb (Option.some.inj e9).symm)]
              exact HLB.out
        · have d1 : decide ((k : Int) < (n i : Int)) = false := by rw [decide_eq_false_iff_not]; omega
          have d2 : decide (k < n i) = false := decide_eq_false hk
          have hkn : k = n i := by have := HK.out; omega
          clear hk
          go_wp2_with fail
          go_roundg (4 - (i + 1))
          case measure => have := HI.out; have := HIL.out; omega
          case rel =>
            refine ⟨i + 1, X2, by simp, ⟨HIL.out, rfl⟩, HX, fun j hj => ?_, HO, HLB⟩
            rcases Nat.lt_succ_iff_lt_or_eq.1 hj with h1 | rfl
            · exact HS.out j h1
            · have h9 := HT.out
              rw [hkn, List.take_of_length_le (by rw [HX.out.len j b2]; exact Nat.le_refl _)] at h9
              exact h9
    · have e1 : decide ((i : Int) < 4) = false := by rw [decide_eq_false_iff_not]; omega
      have hi4 : i = 4 := by have := HI.out; omega
      subst hi4
      clear hi
      have HX0 : Hid (Fm syf 59 5 B wa (vsl a n c) n (fun j => List.replicate (n j) (spS j))) := Fm.congrS HX.out HS.out
      obtain ⟨N, hNn⟩ : ∃ N, wa.heap.size = N := ⟨_, rfl⟩
      have HNN : Hid (wa.heap.size = N) := hNn
      have HWN : Hid (w.heap.size ≤ N) := by have := HO.out.size; rw [← hNn]; exact this
      have HLN : Hid (lb < N) := by rw [← hNn]; exact lt_of_heap HLB.out
      have HG0 : Hid (Fg syf 59 5 B N wa (vsl a n c) (vsl a n c) n (fun _ => 0) (fun j => List.replicate (n j) (spS j)) (fun _ => [])) := Fg.start HX0.out (fun j hj g hg => by rw [← hNn]; exact ((HX0.out.row j hj).lt g hg).2)
      clear hNn HX HS HX0
      go_upto_region 10 with fail
      obtain ⟨X0, hX0⟩ : ∃ X0 : Nat → List (Sy), (fun j => List.replicate (n j) (spS j)) = X0 := ⟨_, rfl⟩
      have HX0 : Hid (∀ j, X0 j = List.replicate (n j) (spS j)) := fun j => by rw [← hX0]
      rw [hX0] at HG0
      clear hX0 HI
      go_loopg [5, 6] 4 (fun gm v5 v6 wr => ∃ (i : Nat) (u : Nat → Value) (m : Nat → Nat) (Z : Nat → List (Sy)), v6 = .int .i64 (i : Int) ∧ Hid (i ≤ 4 ∧ gm = 4 - i) ∧ Hid (Fg syf 59 5 B N wr (vsl a n c) u n m X0 Z) ∧ Hid (∀ j, j < i → m j = 70 ∧ Z j = List.replicate 70 (apS j)) ∧ Hid (∀ j, i ≤ j → u j = vsl a n c j ∧ m j = 0 ∧ Z j = []) ∧ Hid (wr.ownsRow N 29 1 v5 i ((List.range i).map u)) ∧ Hid (Oth (vsl a n c) w wr ∧ N ≤ wr.heap.size ∧ wr.heap[lb]? = some (.cells #[vsl a n c 0, vsl a n c 1, vsl a n c 2, vsl a n c 3] 29 (0, 0))))
      case atStart => exact ⟨0, vsl a n c, fun _ => 0, fun _ => [], rfl, ⟨Nat.zero_le _, rfl⟩, HG0, fun j hj => absurd hj (Nat.not_lt_zero _), fun j _ => ⟨rfl, rfl, rfl⟩, World.ownsRow_nil _ _ _ _, HO.out, Nat.le_of_eq HNN.out.symm, HLB.out⟩
      case round =>
        clear HG0 HO HLB HNN e1
        obtain ⟨i, u, m, Z, rfl, HI, HG, HS, HR, HV, HO⟩ := hrel
        obtain ⟨wb, hwb⟩ : ∃ wb, wb = wr := ⟨_, rfl⟩
        rw [← hwb] at HG HV HO ⊢
        clear hwb
        obtain ⟨a5, q5, rfl⟩ := row_shape HV.out
        by_cases hi : i < 4
        · have e1 : decide ((i : Int) < 4) = true := by rw [decide_eq_true_eq]; omega
          have b1 : (i : Int) < 4 := by omega
          have b2 : i < 4 := hi
          have b3 : (0 : Int) ≤ (i : Int) := by omega
          have HIL : Hid (i < 4) := hi
          have hwi := w64n i (by omega)
          have hc := list4S HO.out.2.2 i b2
          clear hi
          have HUI : Hid (u i = .slice (a i) (n i) (c i)) := (HR.out i (Nat.le_refl _)).1
          go_upto_region 14 with fail
          clear hc
          go_loopg [7, 8] 70 (fun gm v7 v8 wr => ∃ (k : Nat) (u' : Nat → Value) (m' : Nat → Nat) (Z' : Nat → List (Sy)), v7 = u' i ∧ v8 = .int .i64 (k : Int) ∧ Hid (k ≤ 70 ∧ gm = 70 - k) ∧ Hid (Fg syf 59 5 B N wr (vsl a n c) u' n m' X0 Z') ∧ Hid (∀ j, j < i → m' j = 70 ∧ Z' j = List.replicate 70 (apS j)) ∧ Hid (∀ j, i < j → u' j = vsl a n c j ∧ m' j = 0 ∧ Z' j = []) ∧ Hid (m' i = k ∧ Z' i = List.replicate k (apS i)) ∧ Hid (wr.ownsRow N 29 1 (.slice a5 i q5) i ((List.range i).map u')) ∧ Hid (Oth (vsl a n c) w wr ∧ N ≤ wr.heap.size ∧ wr.heap[lb]? = some (.cells #[vsl a n c 0, vsl a n c 1, vsl a n c 2, vsl a n c 3] 29 (0, 0))))
          case atStart => exact ⟨0, u, m, Z, HUI.out.symm, rfl, ⟨Nat.zero_le _, rfl⟩, HG, HS, fun j hj => HR.out j (Nat.le_of_lt hj), (HR.out i (Nat.le_refl _)).2, HV, HO⟩
          case round =>
            clear HG HS HR HV HO HUI
            obtain ⟨k, u', m', Z', rfl, rfl, HK, HG, HS, HR, HM, HV, HO⟩ := hrel
            obtain ⟨wc, hwc⟩ : ∃ wc, wc = wr := ⟨_, rfl⟩
            rw [← hwc] at HG HV HO ⊢
            clear hwc
            obtain ⟨ur, hur⟩ : ∃ ur, u' i = ur := ⟨_, rfl⟩
            have HUR : Hid (u' i = ur) := hur
            rw [hur]
            clear hur
            have hwk := w64n k (by have := HK.out; omega)
            by_cases hk : k < 70
            · have d1 : decide ((k : Int) < 70) = true := by rw [decide_eq_true_eq]; omega
              have b4 : (k : Int) < 70 := by omega
              have HKL : Hid (k < 70) := hk
              have hw1 : IntKind.i64.wrap (500000 + (i : Int)) = 500000 + (i : Int) := by rw [IntKind.wrap_i64]; omega
              have HRW : Hid (wc.ownsRow B 59 5 ur (n i + k) (flat syf (X0 i) ++ flat syf (Z' i))) := by have h9 := HG.out.row i b2; rw [HUR.out, HM.out.1] at h9; exact h9
              have HMX : Hid (n i + k + 1 ≤ maxLen ∧ Builtin.nextslicecap (n i + k + 1) (n i + k) * 56 ≤ 281474976710656) := ⟨by have := HN.out i b2; have := HK.out; unfold maxLen; omega, by have h7 := cap_fit2 (n i + k) (by have := HN.out i b2; have := HK.out; omega); omega⟩
              have HSB : Hid (B ≤ wc.heap.size + 1) := by have := HBB.out; have := HO.out.1.size; show _ ≤ _; omega
              obtain ⟨xs, hxs⟩ : ∃ xs, flat syf (X0 i) ++ flat syf (Z' i) = xs := ⟨_, rfl⟩
              have HXS : Hid (flat syf (X0 i) ++ flat syf (Z' i) = xs) := hxs
              rw [hxs] at HRW
              clear hk hxs
              go_wp2_with (at_builtin; refine wpList_append_still _ rfl _ _ 29 rfl B 59 iF _ 5 56 Try.underlying29 hiF hx0 hx1 hx2 rfl ur (n i + k) xs rfl (row_up HRW.out (bel_up _ _)) ⟨wc.heap.size, 0, none⟩ 1 [.string ⟨#[109, 111, 114, 101]⟩, .string ⟨#[]⟩, .int .i64 0, .int .i64 0, .int .i64 (500000 + (i : Int))] rfl rfl (World.news_of_block (heap_new _ _)) (fun u hu => syf_one' (apS i) u hu) HMX.out.1 HMX.out.2 (by have := HSB.out; simp; omega) ?_; intro v7 w7 ho7 hg7 hx7 hs7; have HAP : Hid (w7.ownsRow B 59 5 v7 (n i + k + 1) (xs ++ syf (apS i)) ∧ (wc.alloc (.cells #[.string ⟨#[109, 111, 114, 101]⟩, .string ⟨#[]⟩, .int .i64 0, .int .i64 0, .int .i64 (500000 + (i : Int))] 59)).grownBy w7 ur.ownBlock ∧ (v7.ownBlock = ur.ownBlock ∨ v7.ownBlock = some (wc.heap.size + 1)) ∧ w7.ownsRow B 59 5 ur (n i + k) xs) := ⟨ho7, hg7, (by rw [World.size_alloc] at hx7; exact hx7), hs7⟩; clear ho7 hg7 hx7 hs7)
              go_roundg (70 - (k + 1))
              case measure => have := HK.out; have := HKL.out; omega
              case rel =>
                obtain ⟨p1, p2, p3, p4⟩ := HAP.out
                have hG1 := HG.out.up (bel_up wc (.cells #[.string ⟨#[109, 111, 114, 101]⟩, .string ⟨#[]⟩, .int .i64 0, .int .i64 0, .int .i64 (500000 + (i : Int))] 59))
                have hG2 := Fg.app (by decide) hG1 (by rw [World.size_alloc]; have := HO.out.2.1; omega) b2 (x := v7) (apS i) (by rw [HM.out.1, HXS.out]; exact p1) (by rw [HUR.out]; exact p2) (by rw [HUR.out, World.size_alloc]; exact p3) (by rw [HUR.out, HM.out.1, HXS.out]; exact p4)
                have hul := HG.out.row i b2
                rw [HUR.out] at hul
                have hul1 := row_up hul (bel_up wc (.cells #[.string ⟨#[109, 111, 114, 101]⟩, .string ⟨#[]⟩, .int .i64 0, .int .i64 0, .int .i64 (500000 + (i : Int))] 59))
                have hlv := row_up HV.out (bel_up wc (.cells #[.string ⟨#[109, 111, 114, 101]⟩, .string ⟨#[]⟩, .int .i64 0, .int .i64 0, .int .i64 (500000 + (i : Int))] 59))
                have hmap : (List.range i).map (upd u' i v7) = (List.range i).map u' := by
                  refine List.map_congr_left (fun j hj => ?_)
                  rw [List.mem_range] at hj
                  exact upd_ne _ _ (by omega)
                have hlb2 : (wc.alloc (.cells #[.string ⟨#[109, 111, 114, 101]⟩, .string ⟨#[]⟩, .int .i64 0, .int .i64 0, .int .i64 (500000 + (i : Int))] 59)).heap[lb]? = some (.cells #[vsl a n c 0, vsl a n c 1, vsl a n c 2, vsl a n c 3] 29 (0, 0)) := by
                  rw [(bel_up wc _).block lb (lt_of_heap HO.out.2.2)]; exact HO.out.2.2
                have hO1 : Oth (vsl a n c) w (wc.alloc (.cells #[.string ⟨#[109, 111, 114, 101]⟩, .string ⟨#[]⟩, .int .i64 0, .int .i64 0, .int .i64 (500000 + (i : Int))] 59)) := HO.out.1.step (grown_of_below (bel_up _ _)) (fun b _ hb => by cases hb)
                refine ⟨k + 1, upd u' i v7, upd m' i (m' i + 1), upd Z' i (Z' i ++ [apS i]), (upd_self _ _ _).symm, by simp, ⟨HKL.out, rfl⟩, hG2, fun j hj => ?_, fun j hj => ?_, ⟨?_, ?_⟩, ?_, hO1.step p2 (fun b hb e9 => ?_), ?_, ?_⟩
                · rw [upd_ne _ _ (by omega), upd_ne _ _ (by omega)]; exact HS.out j hj
                · rw [upd_ne _ _ (by omega), upd_ne _ _ (by omega), upd_ne _ _ (by omega)]; exact HR.out j hj
                · rw [upd_self, HM.out.1]
                · rw [upd_self, HM.out.2, List.replicate_succ']
                · show World.ownsRow _ _ _ _ _ _ _
                  rw [hmap]
                  exact hlv.kept p2 (tag_ne hlv hul1 (by decide))
                · rw [← HUR.out] at e9
                  rcases HG.out.was i b2 b e9 with h1 | h1
                  · exact ⟨i, b2, h1⟩
                  · have := HWN.out; omega
                · have := p2.size; rw [World.size_alloc] at this; have := HO.out.2.1; omega
                · rw [p2.block lb (lt_of_heap hlb2) (fun e9 => tag_ne_blk hul1 hlb2 (by decide) e9.symm)]
                  exact hlb2
            · have d1 : decide ((k : Int) < 70) = false := by rw [decide_eq_false_iff_not]; omega
              have hkn : k = 70 := by have := HK.out; omega
              subst hkn
              clear hk
              have HMX : Hid (i + 1 ≤ maxLen ∧ (i + 1) * 24 ≤ 140737488355328) := by show _ ∧ _; unfold maxLen; omega
              have HLT : Hid (lb < N ∧ N ≤ wc.heap.size) := ⟨HLN.out, HO.out.2.1⟩
              obtain ⟨ua, uc, hsl⟩ := row_shape (HG.out.row i b2)
              rw [HUR.out, HM.out.1] at hsl
              subst hsl
              have hz70 : IntKind.i64.wrap ((n i : Int) + 70) = (n i : Int) + 70 := by have := HN.out i b2; rw [IntKind.wrap_i64]; omega
              go_wp2_with (at_builtin; refine wpList_append_own_at _ rfl _ _ 65 rfl N 29 iR _ 1 24 Try.underlying65 hiR hy0 hy1 hy2 rfl (by decide) (.slice a5 i q5) i ((List.range i).map u') rfl (row_up HV.out (bel_up _ _)) ⟨wc.heap.size, 0, none⟩ 1 1 [.slice ua (n i + 70) uc] rfl rfl (World.news_of_block (heap_new _ _)) (fun u hu => by rw [List.mem_singleton.1 hu]; rfl) HMX.out.1 HMX.out.2 (by have := HLT.out; simp; omega) ?_; intro v8 w8 ho8 hg8 _ _; have HAP : Hid (w8.ownsRow N 29 1 v8 (i + 1) ((List.range i).map u' ++ [.slice ua (n i + 70) uc]) ∧ (wc.alloc (.cells #[.slice ua (n i + 70) uc] 29)).grownBy w8 (Value.slice a5 i q5).ownBlock) := ⟨ho8, hg8⟩; clear ho8 hg8)
              go_roundg (4 - (i + 1))
              case measure => have := HI.out; have := HIL.out; omega
              case rel =>
                obtain ⟨p1, p2⟩ := HAP.out
                have hb1 : Below wc.heap.size wc (wc.alloc (.cells #[.slice ua (n i + 70) uc] 29)) := bel_up wc _
                have hlv := row_up HV.out hb1
                have hG2 := (HG.out.up hb1).far p2 hlv rfl (by decide)
                have hO1 : Oth (vsl a n c) w (wc.alloc (.cells #[.slice ua (n i + 70) uc] 29)) := HO.out.1.step (grown_of_below hb1) (fun b _ hb => by cases hb)
                have hlb2 : (wc.alloc (.cells #[.slice ua (n i + 70) uc] 29)).heap[lb]? = some (.cells #[vsl a n c 0, vsl a n c 1, vsl a n c 2, vsl a n c 3] 29 (0, 0)) := by
                  rw [hb1.block lb (lt_of_heap HO.out.2.2)]; exact HO.out.2.2
                refine ⟨i + 1, u', m', Z', by simp, ⟨HIL.out, rfl⟩, hG2, fun j hj => ?_, fun j hj => HR.out j (by omega), ?_, hO1.step p2 (fun b hb e9 => ?_), ?_, ?_⟩
                · rcases Nat.lt_succ_iff_lt_or_eq.1 hj with h1 | rfl
                  · exact HS.out j h1
                  · exact HM.out
                · show World.ownsRow _ _ _ _ _ _ _
                  rw [List.range_succ, List.map_append, List.map_cons, List.map_nil, HUR.out]
                  exact p1
                · have h3 := (hlv.lt b e9).1
                  have := HWN.out; omega
                · have := p2.size; have := hb1.size; have := HO.out.2.1; omega
                · rw [p2.block lb (lt_of_heap hlb2) (fun e9 => by have h3 := (hlv.lt lb e9.symm).1; have := HLN.out; omega)]
                  exact hlb2
        · have e1 : decide ((i : Int) < 4) = false := by rw [decide_eq_false_iff_not]; omega
          have hi4 : i = 4 := by have := HI.out; omega
          subst hi4
          clear hi
          have HM4 : Hid (∀ j, j < 4 → m j = 70 ∧ Z j = List.replicate 70 (apS j)) := HS.out
          clear HS HR HI
          obtain ⟨gl, cl, e0, -⟩ := row_form HV.out (by decide)
          obtain ⟨rfl, -, rfl⟩ := Value.slice.inj e0
          clear e0
          have HCU : Hid (∀ j, j < 4 → ∀ W, Below wb.heap.size wb W → W.cell? ⟨gl, j, none⟩ = some (u j)) := fun j hj W hW => below_cell hW (row_at HV.out j _ (by rw [List.getElem?_map, List.getElem?_range hj]; rfl))
          have HCV : Hid (∀ j, j < 4 → ∀ W, Below wb.heap.size wb W → W.cell? ⟨lb, j, none⟩ = some (.slice (a j) (n j) (c j))) := fun j hj W hW => below_cell hW (list4S HO.out.2.2 j hj)
          go_upto_region 19 with fail
          go_loopg [9] 4 (fun gm v9 wr => ∃ i : Nat, v9 = .int .i64 (i : Int) ∧ Hid (i ≤ 4 ∧ gm = 4 - i) ∧ Hid (Below wb.heap.size wb wr))
          case atStart => exact ⟨0, rfl, ⟨Nat.zero_le _, rfl⟩, Below.refl _ _⟩
          case round =>
            clear e1
            obtain ⟨i, rfl, HI, HC⟩ := hrel
            obtain ⟨wc, hwc⟩ : ∃ wc, wc = wr := ⟨_, rfl⟩
            rw [← hwc] at HC ⊢
            clear hwc
            by_cases hi : i < 4
            · have e1 : decide ((i : Int) < 4) = true := by rw [decide_eq_true_eq]; omega
              have b1 : (i : Int) < 4 := by omega
              have b2 : i < 4 := hi
              have b3 : (0 : Int) ≤ (i : Int) := by omega
              have HIL : Hid (i < 4) := hi
              have hwi := w64n i (by omega)
              clear hi
              obtain ⟨gu, cu, hu, -⟩ := row_form (HG.out.row i b2) (by rw [(HM4.out i b2).1]; omega)
              obtain ⟨p, hp⟩ : ∃ p, n i + 70 = p := ⟨_, rfl⟩
              have HP : Hid (n i + 70 = p) := hp
              rw [(HM4.out i b2).1, hp] at hu
              have HCI : Hid (∀ W, Below wb.heap.size wb W → W.cell? ⟨gl, i, none⟩ = some (.slice (some ⟨gu, 0, none⟩) p cu)) := fun W hW => by rw [HCU.out i b2 W hW, hu]
              have HUR : Hid (wb.ownsRow B 59 5 (.slice (some ⟨gu, 0, none⟩) p cu) p (flat syf (X0 i ++ Z i))) := by have h9 := HG.out.row i b2; rw [(HM4.out i b2).1, hp, hu, ← flat_app] at h9; exact h9
              have hwp : p < 9223372036854775807 := by have := HN.out i b2; omega
              clear hu hp
              go_upto_region 22 with fail
              go_loopg [10] p (fun gm v10 wr => ∃ k : Nat, v10 = .int .i64 (k : Int) ∧ Hid (k ≤ p ∧ gm = p - k) ∧ Hid (Below wb.heap.size wb wr))
              case atStart => exact ⟨0, rfl, ⟨Nat.zero_le _, rfl⟩, HC⟩
              case round =>
                clear HC
                obtain ⟨k, rfl, HK, HC⟩ := hrel
                obtain ⟨wd, hwd⟩ : ∃ wd, wd = wr := ⟨_, rfl⟩
                rw [← hwd] at HC ⊢
                clear hwd
                have hcg := HCI.out wd HC.out
                by_cases hk : k < p
                · have d1 : decide ((k : Int) < (p : Int)) = true := by rw [decide_eq_true_eq]; omega
                  have d2 : decide (k < p) = true := decide_eq_true hk
                  have b4 : (k : Int) < (p : Int) := by omega
                  have b5 : (0 : Int) ≤ (k : Int) := by omega
                  have b6 : k < p := hk
                  have HKL : Hid (k < p) := hk
                  have hwk := w64n k (by omega)
                  have hw1 : IntKind.i64.wrap (1000 + (i : Int)) = 1000 + (i : Int) := by rw [IntKind.wrap_i64]; omega
                  have hw2 : IntKind.i64.wrap (500000 + (i : Int)) = 500000 + (i : Int) := by rw [IntKind.wrap_i64]; omega
                  have hE1 := eq_spS i
                  have hE2 := eq_apS i
                  have HD : Hid (Below wb.heap.size wb wd.drew) := HC.out.drew
                  have HXL : Hid ((X0 i).length = n i ∧ (Z i).length = 70) := ⟨HG.out.old.len i b2, by rw [HG.out.len i b2]; exact (HM4.out i b2).1⟩
                  have HUC : Hid (∀ (x : Sy), (X0 i ++ Z i).getD k syz = x → ∀ W, Below wb.heap.size wb W → ∀ j u, (syf x)[j]? = some u → W.cell? ⟨gu, k * 5 + j, none⟩ = some u) := fun x hx W hW j u hu => below_cell hW (row_at HUR.out _ _ (by rw [flat_get syf_len' syz _ k j (by rw [List.length_append, HXL.out.1, HXL.out.2, HP.out]; exact b6) (by have := (List.getElem?_eq_some_iff.1 hu).1; rwa [syf_len'] at this), hx]; exact hu))
                  clear hk
                  go_upto_region 24 with fail
                  clear hcg
                  by_cases hkn : k < n i
                  · have d3 : decide ((k : Int) < (n i : Int)) = true := by rw [decide_eq_true_eq]; omega
                    have d4 : decide (k < n i) = true := decide_eq_true hkn
                    have d5 : decide ((n i : Int) ≤ (k : Int)) = false := by rw [decide_eq_false_iff_not]; omega
                    have d6 : decide (n i ≤ k) = false := by rw [decide_eq_false_iff_not]; omega
                    have b7 : (k : Int) < (n i : Int) := by omega
                    obtain ⟨gv, cv, hv, -⟩ := row_form (HG.out.old.row i b2) (by omega)
                    have hv2 : a i = some ⟨gv, 0, none⟩ := (Value.slice.inj hv).1
                    have HCL : Hid (∀ W, Below wb.heap.size wb W → W.cell? ⟨lb, i, none⟩ = some (.slice (some ⟨gv, 0, none⟩) (n i) (c i))) := fun W hW => by rw [HCV.out i b2 W hW, hv2]
                    have HVR : Hid (wb.ownsRow B 59 5 (.slice (some ⟨gv, 0, none⟩) (n i) (c i)) (n i) (flat syf (X0 i))) := by
                      have h9 : wb.ownsRow B 59 5 (.slice (a i) (n i) (c i)) (n i) (flat syf (X0 i)) := HG.out.old.row i b2
                      rw [hv2] at h9
                      exact h9
                    have HUK0 : Hid (∀ W, Below wb.heap.size wb W → ∀ j u, (syf (spS i))[j]? = some u → W.cell? ⟨gu, k * 5 + j, none⟩ = some u) := HUC.out (spS i) (by
                      rw [List.getD_eq_getElem?_getD, List.getElem?_append_left (by rw [HXL.out.1]; exact hkn), HX0.out i, List.getElem?_replicate_of_lt hkn]; rfl)
                    have HVK0 : Hid (∀ W, Below wb.heap.size wb W → ∀ j u, (syf (spS i))[j]? = some u → W.cell? ⟨gv, k * 5 + j, none⟩ = some u) := fun W hW j u hu => below_cell hW (row_at HVR.out _ _ (by
                      rw [flat_get syf_len' syz _ k j (by rw [HXL.out.1]; exact hkn) (by have := (List.getElem?_eq_some_iff.1 hu).1; rwa [syf_len'] at this), HX0.out i, List.getD_eq_getElem?_getD, List.getElem?_replicate_of_lt hkn]; exact hu))
                    have HUK : Hid (∀ W, Below wb.heap.size wb W → W.cell? ⟨gu, k * 5, none⟩ = some (.string ⟨#[115, 112, 111, 105, 108, 116]⟩) ∧ W.cell? ⟨gu, k * 5 + 1, none⟩ = some (.string ⟨#[]⟩) ∧ W.cell? ⟨gu, k * 5 + 2, none⟩ = some (.int .i64 0) ∧ W.cell? ⟨gu, k * 5 + 3, none⟩ = some (.int .i64 0) ∧ W.cell? ⟨gu, k * 5 + 4, none⟩ = some (.int .i64 (1000 + (i : Int)))) := fun W hW => ⟨HUK0.out W hW 0 _ rfl, HUK0.out W hW 1 _ rfl, HUK0.out W hW 2 _ rfl, HUK0.out W hW 3 _ rfl, HUK0.out W hW 4 _ rfl⟩
                    have HVK : Hid (∀ W, Below wb.heap.size wb W → W.cell? ⟨gv, k * 5, none⟩ = some (.string ⟨#[115, 112, 111, 105, 108, 116]⟩) ∧ W.cell? ⟨gv, k * 5 + 1, none⟩ = some (.string ⟨#[]⟩) ∧ W.cell? ⟨gv, k * 5 + 2, none⟩ = some (.int .i64 0) ∧ W.cell? ⟨gv, k * 5 + 3, none⟩ = some (.int .i64 0) ∧ W.cell? ⟨gv, k * 5 + 4, none⟩ = some (.int .i64 (1000 + (i : Int)))) := fun W hW => ⟨HVK0.out W hW 0 _ rfl, HVK0.out W hW 1 _ rfl, HVK0.out W hW 2 _ rfl, HVK0.out W hW 3 _ rfl, HVK0.out W hW 4 _ rfl⟩
                    clear hkn hv hv2
                    refine wp_region_noPanic ?_
                    refine wp_region_held_drew (S := fun W => Below wb.heap.size wb W) (by kernel_rfl) HD.out (fun hHeld => ?_)
                    refine wpAnyH_take (i := 0) (oi := { dst := _, op := _, type := _, pos := _, after := _, guard := _ }) (v := ?_) rfl (by kernel_rfl) (by kernel_rfl) (by kernel_rfl) (fun _ _ _ h => h) (Or.inl ⟨by rfl, ?_⟩) (by assumption) ?_
                    rotate_left
                    · intro W hSw
                      (try dsimp only at hSw)
                      go_simp
                      (try with_reducible rfl)
                    try simp only [Act.put, List.setIfInBounds_toArray, List.set_cons_zero, List.set_cons_succ]
                    refine wpAnyH_take (i := 1) (oi := { dst := _, op := _, type := _, pos := _, after := _, guard := _ }) (v := ?_) rfl (by kernel_rfl) (by kernel_rfl) (by kernel_rfl) (fun _ _ _ h => h) (Or.inl ⟨by rfl, ?_⟩) (by assumption) ?_
                    rotate_left
                    · intro W hSw
                      (try dsimp only at hSw)
                      go_simp
                      (try with_reducible rfl)
                    try simp only [Act.put, List.setIfInBounds_toArray, List.set_cons_zero, List.set_cons_succ]
                    refine wpAnyH_take (i := 2) (oi := { dst := _, op := _, type := _, pos := _, after := _, guard := _ }) (v := ?_) rfl (by kernel_rfl) (by kernel_rfl) (by kernel_rfl) (fun _ _ _ h => h) (Or.inl ⟨by rfl, ?_⟩) (by assumption) ?_
                    rotate_left
                    · intro W hSw
                      (try dsimp only at hSw)
                      go_simp
                      (try with_reducible rfl)
                    try simp only [Act.put, List.setIfInBounds_toArray, List.set_cons_zero, List.set_cons_succ]
                    refine wpAnyH_take (i := 3) (oi := { dst := _, op := _, type := _, pos := _, after := _, guard := _ }) (v := ?_) rfl (by kernel_rfl) (by kernel_rfl) (by kernel_rfl) (fun _ _ _ h => h) (Or.inl ⟨by rfl, ?_⟩) (by assumption) ?_
                    rotate_left
                    · intro W hSw
                      (try dsimp only at hSw)
                      go_simp
                      (try with_reducible rfl)
                    try simp only [Act.put, List.setIfInBounds_toArray, List.set_cons_zero, List.set_cons_succ]
                    refine wpAnyH_take (i := 4) (oi := { dst := _, op := _, type := _, pos := _, after := _, guard := _ }) (v := ?_) rfl (by kernel_rfl) (by kernel_rfl) (by kernel_rfl) (fun _ _ _ h => h) (Or.inl ⟨by rfl, ?_⟩) (by assumption) ?_
                    rotate_left
                    · intro W hSw
                      (try dsimp only at hSw)
                      have s0 := HCL.out W hSw
                      go_simp
                      (try with_reducible rfl)
                    try simp only [Act.put, List.setIfInBounds_toArray, List.set_cons_zero, List.set_cons_succ]
                    refine wpAnyH_take (i := 5) (oi := { dst := _, op := _, type := _, pos := _, after := _, guard := _ }) (v := ?_) rfl (by kernel_rfl) (by kernel_rfl) (by kernel_rfl) (fun _ _ _ h => h) (Or.inl ⟨by rfl, ?_⟩) (by assumption) ?_
                    rotate_left
                    · intro W hSw
                      (try dsimp only at hSw)
                      go_simp
                      (try with_reducible rfl)
                    try simp only [Act.put, List.setIfInBounds_toArray, List.set_cons_zero, List.set_cons_succ]
                    refine wpAnyH_take (i := 6) (oi := { dst := _, op := _, type := _, pos := _, after := _, guard := _ }) (v := ?_) rfl (by kernel_rfl) (by kernel_rfl) (by kernel_rfl) (fun _ _ _ h => h) (Or.inl ⟨by rfl, ?_⟩) (by assumption) ?_
                    rotate_left
                    · intro W hSw
                      (try dsimp only at hSw)
                      go_simp
                      (try with_reducible rfl)
                    try simp only [Act.put, List.setIfInBounds_toArray, List.set_cons_zero, List.set_cons_succ]
                    refine wpAnyH_take (i := 7) (oi := { dst := _, op := _, type := _, pos := _, after := _, guard := _ }) (v := ?_) rfl (by kernel_rfl) (by kernel_rfl) (by kernel_rfl) (fun _ _ _ h => h) (Or.inl ⟨by rfl, ?_⟩) (by assumption) ?_
                    rotate_left
                    · intro W hSw
                      (try dsimp only at hSw)
                      go_simp
                      (try with_reducible rfl)
                    try simp only [Act.put, List.setIfInBounds_toArray, List.set_cons_zero, List.set_cons_succ]
                    refine wpAnyH_take (i := 8) (oi := { dst := _, op := _, type := _, pos := _, after := _, guard := _ }) (v := ?_) rfl (by kernel_rfl) (by kernel_rfl) (by kernel_rfl) (fun _ _ _ h => h) (Or.inl ⟨by rfl, ?_⟩) (by assumption) ?_
                    rotate_left
                    · intro W hSw
                      (try dsimp only at hSw)
                      go_simp
                      (try with_reducible rfl)
                    try simp only [Act.put, List.setIfInBounds_toArray, List.set_cons_zero, List.set_cons_succ]
                    refine wpAnyH_take (i := 9) (oi := { dst := _, op := _, type := _, pos := _, after := _, guard := _ }) (v := ?_) rfl (by kernel_rfl) (by kernel_rfl) (by kernel_rfl) (fun _ _ _ h => h) (Or.inl ⟨by rfl, ?_⟩) (by assumption) ?_
                    rotate_left
                    · intro W hSw
                      (try dsimp only at hSw)
                      go_simp
                      (try with_reducible rfl)
                    try simp only [Act.put, List.setIfInBounds_toArray, List.set_cons_zero, List.set_cons_succ]
                    refine wpAnyH_take (i := 10) (oi := { dst := _, op := _, type := _, pos := _, after := _, guard := _ }) (v := ?_) rfl (by kernel_rfl) (by kernel_rfl) (by kernel_rfl) (fun _ _ _ h => h) (Or.inl ⟨by rfl, ?_⟩) (by assumption) ?_
                    rotate_left
                    · intro W hSw
                      (try dsimp only at hSw)
                      go_simp
                      (try with_reducible rfl)
                    try simp only [Act.put, List.setIfInBounds_toArray, List.set_cons_zero, List.set_cons_succ]
                    refine wpAnyH_take (i := 11) (oi := { dst := _, op := _, type := _, pos := _, after := _, guard := _ }) (v := ?_) rfl (by kernel_rfl) (by kernel_rfl) (by kernel_rfl) (fun _ _ _ h => h) (Or.inl ⟨by rfl, ?_⟩) (by assumption) ?_
                    rotate_left
                    · intro W hSw
                      (try dsimp only at hSw)
                      have s0 := HCL.out W hSw
                      go_simp
                      (try with_reducible rfl)
                    try simp only [Act.put, List.setIfInBounds_toArray, List.set_cons_zero, List.set_cons_succ]
                    refine wpAnyH_take (i := 12) (oi := { dst := _, op := _, type := _, pos := _, after := _, guard := _ }) (v := ?_) rfl (by kernel_rfl) (by kernel_rfl) (by kernel_rfl) (fun _ _ _ h => h) (Or.inl ⟨by rfl, ?_⟩) (by assumption) ?_
                    rotate_left
                    · intro W hSw
                      (try dsimp only at hSw)
                      go_simp
                      (try with_reducible rfl)
                    try simp only [Act.put, List.setIfInBounds_toArray, List.set_cons_zero, List.set_cons_succ]
                    refine wpAnyH_take (i := 13) (oi := { dst := _, op := _, type := _, pos := _, after := _, guard := _ }) (v := ?_) rfl (by kernel_rfl) (by kernel_rfl) (by kernel_rfl) (fun _ _ _ h => h) (Or.inl ⟨by rfl, ?_⟩) (by assumption) ?_
                    rotate_left
                    · intro W hSw
                      (try dsimp only at hSw)
                      go_simp
                      (try with_reducible rfl)
                    try simp only [Act.put, List.setIfInBounds_toArray, List.set_cons_zero, List.set_cons_succ]
                    refine wpAnyH_take (i := 14) (oi := { dst := _, op := _, type := _, pos := _, after := _, guard := _ }) (v := ?_) rfl (by kernel_rfl) (by kernel_rfl) (by kernel_rfl) (fun _ _ _ h => h) (Or.inl ⟨by rfl, ?_⟩) (by assumption) ?_
                    rotate_left
                    · intro W hSw
                      (try dsimp only at hSw)
                      obtain ⟨s0, s1, s2, s3, s4⟩ := HVK.out W hSw
                      go_simp
                      (try with_reducible rfl)
                    try simp only [Act.put, List.setIfInBounds_toArray, List.set_cons_zero, List.set_cons_succ]
                    refine wpAnyH_take (i := 15) (oi := { dst := _, op := _, type := _, pos := _, after := _, guard := _ }) (v := ?_) rfl (by kernel_rfl) (by kernel_rfl) (by kernel_rfl) (fun _ _ _ h => h) (Or.inl ⟨by rfl, ?_⟩) (by assumption) ?_
                    rotate_left
                    · intro W hSw
                      (try dsimp only at hSw)
                      go_simp
                      (try with_reducible rfl)
                    try simp only [Act.put, List.setIfInBounds_toArray, List.set_cons_zero, List.set_cons_succ]
                    refine wpAnyH_take (i := 16) (oi := { dst := _, op := _, type := _, pos := _, after := _, guard := _ }) (v := ?_) rfl (by kernel_rfl) (by kernel_rfl) (by kernel_rfl) (fun _ _ _ h => h) (Or.inl ⟨by rfl, ?_⟩) (by assumption) ?_
                    rotate_left
                    · intro W hSw
                      (try dsimp only at hSw)
                      go_simp
                      (try with_reducible rfl)
                    try simp only [Act.put, List.setIfInBounds_toArray, List.set_cons_zero, List.set_cons_succ]
                    refine wpAnyH_take (i := 17) (oi := { dst := _, op := _, type := _, pos := _, after := _, guard := _ }) (v := ?_) rfl (by kernel_rfl) (by kernel_rfl) (by kernel_rfl) (fun _ _ _ h => h) (Or.inl ⟨by rfl, ?_⟩) (by assumption) ?_
                    rotate_left
                    · intro W hSw
                      (try dsimp only at hSw)
                      go_simp
                      (try with_reducible rfl)
                    try simp only [Act.put, List.setIfInBounds_toArray, List.set_cons_zero, List.set_cons_succ]
                    refine wpAnyH_take (i := 18) (oi := { dst := _, op := _, type := _, pos := _, after := _, guard := _ }) (v := ?_) rfl (by kernel_rfl) (by kernel_rfl) (by kernel_rfl) (fun _ _ _ h => h) (Or.inl ⟨by rfl, ?_⟩) (by assumption) ?_
                    rotate_left
                    · intro W hSw
                      (try dsimp only at hSw)
                      go_simp
                      (try with_reducible rfl)
                    try simp only [Act.put, List.setIfInBounds_toArray, List.set_cons_zero, List.set_cons_succ]
                    refine wpAnyH_take (i := 19) (oi := { dst := _, op := _, type := _, pos := _, after := _, guard := _ }) (v := ?_) rfl (by kernel_rfl) (by kernel_rfl) (by kernel_rfl) (fun _ _ _ h => h) (Or.inl ⟨by rfl, ?_⟩) (by assumption) ?_
                    rotate_left
                    · intro W hSw
                      (try dsimp only at hSw)
                      go_simp
                      (try with_reducible rfl)
                    try simp only [Act.put, List.setIfInBounds_toArray, List.set_cons_zero, List.set_cons_succ]
                    refine wpAnyH_take (i := 20) (oi := { dst := _, op := _, type := _, pos := _, after := _, guard := _ }) (v := ?_) rfl (by kernel_rfl) (by kernel_rfl) (by kernel_rfl) (fun _ _ _ h => h) (Or.inl ⟨by rfl, ?_⟩) (by assumption) ?_
                    rotate_left
                    · intro W hSw
                      (try dsimp only at hSw)
                      go_simp
                      (try with_reducible rfl)
                    try simp only [Act.put, List.setIfInBounds_toArray, List.set_cons_zero, List.set_cons_succ]
                    refine wpAnyH_take (i := 21) (oi := { dst := _, op := _, type := _, pos := _, after := _, guard := _ }) (v := ?_) rfl (by kernel_rfl) (by kernel_rfl) (by kernel_rfl) (fun _ _ _ h => h) (Or.inl ⟨by rfl, ?_⟩) (by assumption) ?_
                    rotate_left
                    · intro W hSw
                      (try dsimp only at hSw)
                      go_simp
                      (try with_reducible rfl)
                    try simp only [Act.put, List.setIfInBounds_toArray, List.set_cons_zero, List.set_cons_succ]
                    refine wpAnyH_take (i := 22) (oi := { dst := _, op := _, type := _, pos := _, after := _, guard := _ }) (v := ?_) rfl (by kernel_rfl) (by kernel_rfl) (by kernel_rfl) (fun _ _ _ h => h) (Or.inl ⟨by rfl, ?_⟩) (by assumption) ?_
                    rotate_left
                    · intro W hSw
                      (try dsimp only at hSw)
                      go_simp
                      (try with_reducible rfl)
                    try simp only [Act.put, List.setIfInBounds_toArray, List.set_cons_zero, List.set_cons_succ]
                    refine wpAnyH_take (i := 23) (oi := { dst := _, op := _, type := _, pos := _, after := _, guard := _ }) (v := ?_) rfl (by kernel_rfl) (by kernel_rfl) (by kernel_rfl) (fun _ _ _ h => h) (Or.inl ⟨by rfl, ?_⟩) (by assumption) ?_
                    rotate_left
                    · intro W hSw
                      (try dsimp only at hSw)
                      have s0 := HCI.out W hSw
                      go_simp
                      (try with_reducible rfl)
                    try simp only [Act.put, List.setIfInBounds_toArray, List.set_cons_zero, List.set_cons_succ]
                    refine wpAnyH_take (i := 24) (oi := { dst := _, op := _, type := _, pos := _, after := _, guard := _ }) (v := ?_) rfl (by kernel_rfl) (by kernel_rfl) (by kernel_rfl) (fun _ _ _ h => h) (Or.inl ⟨by rfl, ?_⟩) (by assumption) ?_
                    rotate_left
                    · intro W hSw
                      (try dsimp only at hSw)
                      go_simp
                      (try with_reducible rfl)
                    try simp only [Act.put, List.setIfInBounds_toArray, List.set_cons_zero, List.set_cons_succ]
                    refine wpAnyH_take (i := 25) (oi := { dst := _, op := _, type := _, pos := _, after := _, guard := _ }) (v := ?_) rfl (by kernel_rfl) (by kernel_rfl) (by kernel_rfl) (fun _ _ _ h => h) (Or.inl ⟨by rfl, ?_⟩) (by assumption) ?_
                    rotate_left
                    · intro W hSw
                      (try dsimp only at hSw)
                      go_simp
                      (try with_reducible rfl)
                    try simp only [Act.put, List.setIfInBounds_toArray, List.set_cons_zero, List.set_cons_succ]
                    refine wpAnyH_take (i := 26) (oi := { dst := _, op := _, type := _, pos := _, after := _, guard := _ }) (v := ?_) rfl (by kernel_rfl) (by kernel_rfl) (by kernel_rfl) (fun _ _ _ h => h) (Or.inl ⟨by rfl, ?_⟩) (by assumption) ?_
                    rotate_left
                    · intro W hSw
                      (try dsimp only at hSw)
                      obtain ⟨s0, s1, s2, s3, s4⟩ := HUK.out W hSw
                      go_simp
                      (try with_reducible rfl)
                    try simp only [Act.put, List.setIfInBounds_toArray, List.set_cons_zero, List.set_cons_succ]
                    refine wpAnyH_take (i := 27) (oi := { dst := _, op := _, type := _, pos := _, after := _, guard := _ }) (v := ?_) rfl (by kernel_rfl) (by kernel_rfl) (by kernel_rfl) (fun _ _ _ h => h) (Or.inl ⟨by rfl, ?_⟩) (by assumption) ?_
                    rotate_left
                    · intro W hSw
                      (try dsimp only at hSw)
                      go_simp
                      (try with_reducible rfl)
                    try simp only [Act.put, List.setIfInBounds_toArray, List.set_cons_zero, List.set_cons_succ]
                    refine wpAnyH_take (i := 28) (oi := { dst := _, op := _, type := _, pos := _, after := _, guard := _ }) (v := ?_) rfl (by kernel_rfl) (by kernel_rfl) (by kernel_rfl) (fun _ _ _ h => h) (Or.inl ⟨by rfl, ?_⟩) (by assumption) ?_
                    rotate_left
                    · intro W hSw
                      (try dsimp only at hSw)
                      go_simp
                      (try with_reducible rfl)
                    try simp only [Act.put, List.setIfInBounds_toArray, List.set_cons_zero, List.set_cons_succ]
                    refine wpAnyH_take (i := 29) (oi := { dst := _, op := _, type := _, pos := _, after := _, guard := _ }) (v := ?_) rfl (by kernel_rfl) (by kernel_rfl) (by kernel_rfl) (fun _ _ _ h => h) (Or.inl ⟨by rfl, ?_⟩) (by assumption) ?_
                    rotate_left
                    · intro W hSw
                      (try dsimp only at hSw)
                      go_simp
                      (try with_reducible rfl)
                    try simp only [Act.put, List.setIfInBounds_toArray, List.set_cons_zero, List.set_cons_succ]
                    refine wpAnyH_take (i := 30) (oi := { dst := _, op := _, type := _, pos := _, after := _, guard := _ }) (v := ?_) rfl (by kernel_rfl) (by kernel_rfl) (by kernel_rfl) (fun _ _ _ h => h) (Or.inl ⟨by rfl, ?_⟩) (by assumption) ?_
                    rotate_left
                    · intro W hSw
                      (try dsimp only at hSw)
                      have s0 := HCL.out W hSw
                      go_simp
                      (try with_reducible rfl)
                    try simp only [Act.put, List.setIfInBounds_toArray, List.set_cons_zero, List.set_cons_succ]
                    refine wpAnyH_take (i := 31) (oi := { dst := _, op := _, type := _, pos := _, after := _, guard := _ }) (v := ?_) rfl (by kernel_rfl) (by kernel_rfl) (by kernel_rfl) (fun _ _ _ h => h) (Or.inl ⟨by rfl, ?_⟩) (by assumption) ?_
                    rotate_left
                    · intro W hSw
                      (try dsimp only at hSw)
                      go_simp
                      (try with_reducible rfl)
                    try simp only [Act.put, List.setIfInBounds_toArray, List.set_cons_zero, List.set_cons_succ]
                    refine wpAnyH_take (i := 32) (oi := { dst := _, op := _, type := _, pos := _, after := _, guard := _ }) (v := ?_) rfl (by kernel_rfl) (by kernel_rfl) (by kernel_rfl) (fun _ _ _ h => h) (Or.inl ⟨by rfl, ?_⟩) (by assumption) ?_
                    rotate_left
                    · intro W hSw
                      (try dsimp only at hSw)
                      go_simp
                      (try with_reducible rfl)
                    try simp only [Act.put, List.setIfInBounds_toArray, List.set_cons_zero, List.set_cons_succ]
                    refine wpAnyH_take (i := 33) (oi := { dst := _, op := _, type := _, pos := _, after := _, guard := _ }) (v := ?_) rfl (by kernel_rfl) (by kernel_rfl) (by kernel_rfl) (fun _ _ _ h => h) (Or.inl ⟨by rfl, ?_⟩) (by assumption) ?_
                    rotate_left
                    · intro W hSw
                      (try dsimp only at hSw)
                      obtain ⟨s0, s1, s2, s3, s4⟩ := HVK.out W hSw
                      go_simp
                      (try with_reducible rfl)
                    try simp only [Act.put, List.setIfInBounds_toArray, List.set_cons_zero, List.set_cons_succ]
                    refine wpAnyH_take (i := 34) (oi := { dst := _, op := _, type := _, pos := _, after := _, guard := _ }) (v := ?_) rfl (by kernel_rfl) (by kernel_rfl) (by kernel_rfl) (fun _ _ _ h => h) (Or.inl ⟨by rfl, ?_⟩) (by assumption) ?_
                    rotate_left
                    · intro W hSw
                      (try dsimp only at hSw)
                      go_simp
                      (try with_reducible rfl)
                    try simp only [Act.put, List.setIfInBounds_toArray, List.set_cons_zero, List.set_cons_succ]
                    refine wpAnyH_take (i := 35) (oi := { dst := _, op := _, type := _, pos := _, after := _, guard := _ }) (v := ?_) rfl (by kernel_rfl) (by kernel_rfl) (by kernel_rfl) (fun _ _ _ h => h) (Or.inl ⟨by rfl, ?_⟩) (by assumption) ?_
                    rotate_left
                    · intro W hSw
                      (try dsimp only at hSw)
                      go_simp
                      (try with_reducible rfl)
                    try simp only [Act.put, List.setIfInBounds_toArray, List.set_cons_zero, List.set_cons_succ]
                    refine wpAnyH_take (i := 36) (oi := { dst := _, op := _, type := _, pos := _, after := _, guard := _ }) (v := ?_) rfl (by kernel_rfl) (by kernel_rfl) (by kernel_rfl) (fun _ _ _ h => h) (Or.inl ⟨by rfl, ?_⟩) (by assumption) ?_
                    rotate_left
                    · intro W hSw
                      (try dsimp only at hSw)
                      go_simp
                      (try with_reducible rfl)
                    try simp only [Act.put, List.setIfInBounds_toArray, List.set_cons_zero, List.set_cons_succ]
                    refine wpAnyH_take (i := 37) (oi := { dst := _, op := _, type := _, pos := _, after := _, guard := _ }) (v := ?_) rfl (by kernel_rfl) (by kernel_rfl) (by kernel_rfl) (fun _ _ _ h => h) (Or.inl ⟨by rfl, ?_⟩) (by assumption) ?_
                    rotate_left
                    · intro W hSw
                      (try dsimp only at hSw)
                      go_simp
                      (try with_reducible rfl)
                    try simp only [Act.put, List.setIfInBounds_toArray, List.set_cons_zero, List.set_cons_succ]
                    refine wpAnyH_take (i := 38) (oi := { dst := _, op := _, type := _, pos := _, after := _, guard := _ }) (v := ?_) rfl (by kernel_rfl) (by kernel_rfl) (by kernel_rfl) (fun _ _ _ h => h) (Or.inl ⟨by rfl, ?_⟩) (by assumption) ?_
                    rotate_left
                    · intro W hSw
                      (try dsimp only at hSw)
                      go_simp
                      (try with_reducible rfl)
                    try simp only [Act.put, List.setIfInBounds_toArray, List.set_cons_zero, List.set_cons_succ]
                    refine wpAnyH_take (i := 39) (oi := { dst := _, op := _, type := _, pos := _, after := _, guard := _ }) (v := ?_) rfl (by kernel_rfl) (by kernel_rfl) (by kernel_rfl) (fun _ _ _ h => h) (Or.inl ⟨by rfl, ?_⟩) (by assumption) ?_
                    rotate_left
                    · intro W hSw
                      (try dsimp only at hSw)
                      go_simp
                      (try with_reducible rfl)
                    try simp only [Act.put, List.setIfInBounds_toArray, List.set_cons_zero, List.set_cons_succ]
                    refine wpAnyH_take (i := 40) (oi := { dst := _, op := _, type := _, pos := _, after := _, guard := _ }) (v := ?_) rfl (by kernel_rfl) (by kernel_rfl) (by kernel_rfl) (fun _ _ _ h => h) (Or.inl ⟨by rfl, ?_⟩) (by assumption) ?_
                    rotate_left
                    · intro W hSw
                      (try dsimp only at hSw)
                      go_simp
                      (try with_reducible rfl)
                    try simp only [Act.put, List.setIfInBounds_toArray, List.set_cons_zero, List.set_cons_succ]
                    refine wpAnyH_take (i := 41) (oi := { dst := _, op := _, type := _, pos := _, after := _, guard := _ }) (v := ?_) rfl (by kernel_rfl) (by kernel_rfl) (by kernel_rfl) (fun _ _ _ h => h) (Or.inl ⟨by rfl, ?_⟩) (by assumption) ?_
                    rotate_left
                    · intro W hSw
                      (try dsimp only at hSw)
                      go_simp
                      (try with_reducible rfl)
                    try simp only [Act.put, List.setIfInBounds_toArray, List.set_cons_zero, List.set_cons_succ]
                    refine wpAnyH_take (i := 42) (oi := { dst := _, op := _, type := _, pos := _, after := _, guard := _ }) (v := ?_) rfl (by kernel_rfl) (by kernel_rfl) (by kernel_rfl) (fun _ _ _ h => h) (Or.inl ⟨by rfl, ?_⟩) (by assumption) ?_
                    rotate_left
                    · intro W hSw
                      (try dsimp only at hSw)
                      have s0 := HCL.out W hSw
                      go_simp
                      (try with_reducible rfl)
                    try simp only [Act.put, List.setIfInBounds_toArray, List.set_cons_zero, List.set_cons_succ]
                    refine wpAnyH_take (i := 43) (oi := { dst := _, op := _, type := _, pos := _, after := _, guard := _ }) (v := ?_) rfl (by kernel_rfl) (by kernel_rfl) (by kernel_rfl) (fun _ _ _ h => h) (Or.inl ⟨by rfl, ?_⟩) (by assumption) ?_
                    rotate_left
                    · intro W hSw
                      (try dsimp only at hSw)
                      go_simp
                      (try with_reducible rfl)
                    try simp only [Act.put, List.setIfInBounds_toArray, List.set_cons_zero, List.set_cons_succ]
                    refine wpAnyH_take (i := 44) (oi := { dst := _, op := _, type := _, pos := _, after := _, guard := _ }) (v := ?_) rfl (by kernel_rfl) (by kernel_rfl) (by kernel_rfl) (fun _ _ _ h => h) (Or.inl ⟨by rfl, ?_⟩) (by assumption) ?_
                    rotate_left
                    · intro W hSw
                      (try dsimp only at hSw)
                      go_simp
                      (try with_reducible rfl)
                    try simp only [Act.put, List.setIfInBounds_toArray, List.set_cons_zero, List.set_cons_succ]
                    refine wpAnyH_take (i := 45) (oi := { dst := _, op := _, type := _, pos := _, after := _, guard := _ }) (v := ?_) rfl (by kernel_rfl) (by kernel_rfl) (by kernel_rfl) (fun _ _ _ h => h) (Or.inl ⟨by rfl, ?_⟩) (by assumption) ?_
                    rotate_left
                    · intro W hSw
                      (try dsimp only at hSw)
                      go_simp
                      (try with_reducible rfl)
                    try simp only [Act.put, List.setIfInBounds_toArray, List.set_cons_zero, List.set_cons_succ]
                    refine wpAnyH_take (i := 46) (oi := { dst := _, op := _, type := _, pos := _, after := _, guard := _ }) rfl (by kernel_rfl) (by kernel_rfl) (by kernel_rfl) (fun _ _ _ h => h) (Or.inr ⟨by rfl, rfl⟩) (by assumption) ?_
                    try simp only [Act.put, List.setIfInBounds_toArray, List.set_cons_zero, List.set_cons_succ]
                    refine wpAnyH_take (i := 47) (oi := { dst := _, op := _, type := _, pos := _, after := _, guard := _ }) rfl (by kernel_rfl) (by kernel_rfl) (by kernel_rfl) (fun _ _ _ h => h) (Or.inr ⟨by rfl, rfl⟩) (by assumption) ?_
                    try simp only [Act.put, List.setIfInBounds_toArray, List.set_cons_zero, List.set_cons_succ]
                    refine wpAnyH_take (i := 48) (oi := { dst := _, op := _, type := _, pos := _, after := _, guard := _ }) rfl (by kernel_rfl) (by kernel_rfl) (by kernel_rfl) (fun _ _ _ h => h) (Or.inr ⟨by rfl, rfl⟩) (by assumption) ?_
                    try simp only [Act.put, List.setIfInBounds_toArray, List.set_cons_zero, List.set_cons_succ]
                    refine wpAnyH_take (i := 49) (oi := { dst := _, op := _, type := _, pos := _, after := _, guard := _ }) rfl (by kernel_rfl) (by kernel_rfl) (by kernel_rfl) (fun _ _ _ h => h) (Or.inr ⟨by rfl, rfl⟩) (by assumption) ?_
                    try simp only [Act.put, List.setIfInBounds_toArray, List.set_cons_zero, List.set_cons_succ]
                    refine wpAnyH_take (i := 50) (oi := { dst := _, op := _, type := _, pos := _, after := _, guard := _ }) rfl (by kernel_rfl) (by kernel_rfl) (by kernel_rfl) (fun _ _ _ h => h) (Or.inr ⟨by rfl, rfl⟩) (by assumption) ?_
                    try simp only [Act.put, List.setIfInBounds_toArray, List.set_cons_zero, List.set_cons_succ]
                    refine wpAnyH_take (i := 51) (oi := { dst := _, op := _, type := _, pos := _, after := _, guard := _ }) rfl (by kernel_rfl) (by kernel_rfl) (by kernel_rfl) (fun _ _ _ h => h) (Or.inr ⟨by rfl, rfl⟩) (by assumption) ?_
                    try simp only [Act.put, List.setIfInBounds_toArray, List.set_cons_zero, List.set_cons_succ]
                    refine wpAnyH_take (i := 52) (oi := { dst := _, op := _, type := _, pos := _, after := _, guard := _ }) rfl (by kernel_rfl) (by kernel_rfl) (by kernel_rfl) (fun _ _ _ h => h) (Or.inr ⟨by rfl, rfl⟩) (by assumption) ?_
                    try simp only [Act.put, List.setIfInBounds_toArray, List.set_cons_zero, List.set_cons_succ]
                    refine wpAnyH_take (i := 53) (oi := { dst := _, op := _, type := _, pos := _, after := _, guard := _ }) rfl (by kernel_rfl) (by kernel_rfl) (by kernel_rfl) (fun _ _ _ h => h) (Or.inr ⟨by rfl, rfl⟩) (by assumption) ?_
                    try simp only [Act.put, List.setIfInBounds_toArray, List.set_cons_zero, List.set_cons_succ]
                    refine wpAnyH_take (i := 54) (oi := { dst := _, op := _, type := _, pos := _, after := _, guard := _ }) rfl (by kernel_rfl) (by kernel_rfl) (by kernel_rfl) (fun _ _ _ h => h) (Or.inr ⟨by rfl, rfl⟩) (by assumption) ?_
                    try simp only [Act.put, List.setIfInBounds_toArray, List.set_cons_zero, List.set_cons_succ]
                    refine wpAnyH_take (i := 55) (oi := { dst := _, op := _, type := _, pos := _, after := _, guard := _ }) rfl (by kernel_rfl) (by kernel_rfl) (by kernel_rfl) (fun _ _ _ h => h) (Or.inr ⟨by rfl, rfl⟩) (by assumption) ?_
                    try simp only [Act.put, List.setIfInBounds_toArray, List.set_cons_zero, List.set_cons_succ]
                    refine wpAnyH_take (i := 56) (oi := { dst := _, op := _, type := _, pos := _, after := _, guard := _ }) rfl (by kernel_rfl) (by kernel_rfl) (by kernel_rfl) (fun _ _ _ h => h) (Or.inr ⟨by rfl, rfl⟩) (by assumption) ?_
                    try simp only [Act.put, List.setIfInBounds_toArray, List.set_cons_zero, List.set_cons_succ]
                    refine wpAnyH_take (i := 57) (oi := { dst := _, op := _, type := _, pos := _, after := _, guard := _ }) (v := ?_) rfl (by kernel_rfl) (by kernel_rfl) (by kernel_rfl) (fun _ _ _ h => h) (Or.inl ⟨by rfl, ?_⟩) (by assumption) ?_
                    rotate_left
                    · intro W hSw
                      (try dsimp only at hSw)
                      go_simp
                      (try with_reducible rfl)
                    try simp only [Act.put, List.setIfInBounds_toArray, List.set_cons_zero, List.set_cons_succ]
                    refine wpAnyH_take (i := 58) (oi := { dst := _, op := _, type := _, pos := _, after := _, guard := _ }) (v := ?_) rfl (by kernel_rfl) (by kernel_rfl) (by kernel_rfl) (fun _ _ _ h => h) (Or.inl ⟨by rfl, ?_⟩) (by assumption) ?_
                    rotate_left
                    · intro W hSw
                      (try dsimp only at hSw)
                      go_simp
                      (try with_reducible rfl)
                    try simp only [Act.put, List.setIfInBounds_toArray, List.set_cons_zero, List.set_cons_succ]
                    refine wpAnyH_done (by kernel_rfl) ?_ _
                    refine NoPanic.normal ?_
                    go_wp2_with fail
                    go_roundg (p - (k + 1))
                    case measure => have := HK.out; have := HKL.out; omega
                    case rel => exact ⟨k + 1, by simp, ⟨HKL.out, rfl⟩, HC.out.drew⟩
                  · have d3 : decide ((k : Int) < (n i : Int)) = false := by rw [decide_eq_false_iff_not]; omega
                    have d4 : decide (k < n i) = false := decide_eq_false hkn
                    have d5 : decide ((n i : Int) ≤ (k : Int)) = true := by rw [decide_eq_true_eq]; omega
                    have d6 : decide (n i ≤ k) = true := by rw [decide_eq_true_eq]; omega
                    have HCL : Hid (∀ W, Below wb.heap.size wb W → W.cell? ⟨lb, i, none⟩ = some (.slice (a i) (n i) (c i))) := fun W hW => HCV.out i b2 W hW
                    have HUK0 : Hid (∀ W, Below wb.heap.size wb W → ∀ j u, (syf (apS i))[j]? = some u → W.cell? ⟨gu, k * 5 + j, none⟩ = some u) := HUC.out (apS i) (by
                      have hp := HP.out
                      rw [List.getD_eq_getElem?_getD, List.getElem?_append_right (by rw [HXL.out.1]; omega), (HM4.out i b2).2, List.getElem?_replicate_of_lt (by rw [HXL.out.1]; omega)]; rfl)
                    have HUK : Hid (∀ W, Below wb.heap.size wb W → W.cell? ⟨gu, k * 5, none⟩ = some (.string ⟨#[109, 111, 114, 101]⟩) ∧ W.cell? ⟨gu, k * 5 + 1, none⟩ = some (.string ⟨#[]⟩) ∧ W.cell? ⟨gu, k * 5 + 2, none⟩ = some (.int .i64 0) ∧ W.cell? ⟨gu, k * 5 + 3, none⟩ = some (.int .i64 0) ∧ W.cell? ⟨gu, k * 5 + 4, none⟩ = some (.int .i64 (500000 + (i : Int)))) := fun W hW => ⟨HUK0.out W hW 0 _ rfl, HUK0.out W hW 1 _ rfl, HUK0.out W hW 2 _ rfl, HUK0.out W hW 3 _ rfl, HUK0.out W hW 4 _ rfl⟩
                    clear hkn
                    refine wp_region_noPanic ?_
                    refine wp_region_held_drew (S := fun W => Below wb.heap.size wb W) (by kernel_rfl) HD.out (fun hHeld => ?_)
                    refine wpAnyH_take (i := 0) (oi := { dst := _, op := _, type := _, pos := _, after := _, guard := _ }) (v := ?_) rfl (by kernel_rfl) (by kernel_rfl) (by kernel_rfl) (fun _ _ _ h => h) (Or.inl ⟨by rfl, ?_⟩) (by assumption) ?_
                    rotate_left
                    · intro W hSw
                      (try dsimp only at hSw)
                      go_simp
                      (try with_reducible rfl)
                    try simp only [Act.put, List.setIfInBounds_toArray, List.set_cons_zero, List.set_cons_succ]
                    refine wpAnyH_take (i := 1) (oi := { dst := _, op := _, type := _, pos := _, after := _, guard := _ }) (v := ?_) rfl (by kernel_rfl) (by kernel_rfl) (by kernel_rfl) (fun _ _ _ h => h) (Or.inl ⟨by rfl, ?_⟩) (by assumption) ?_
                    rotate_left
                    · intro W hSw
                      (try dsimp only at hSw)
                      go_simp
                      (try with_reducible rfl)
                    try simp only [Act.put, List.setIfInBounds_toArray, List.set_cons_zero, List.set_cons_succ]
                    refine wpAnyH_take (i := 2) (oi := { dst := _, op := _, type := _, pos := _, after := _, guard := _ }) (v := ?_) rfl (by kernel_rfl) (by kernel_rfl) (by kernel_rfl) (fun _ _ _ h => h) (Or.inl ⟨by rfl, ?_⟩) (by assumption) ?_
                    rotate_left
                    · intro W hSw
                      (try dsimp only at hSw)
                      go_simp
                      (try with_reducible rfl)
                    try simp only [Act.put, List.setIfInBounds_toArray, List.set_cons_zero, List.set_cons_succ]
                    refine wpAnyH_take (i := 3) (oi := { dst := _, op := _, type := _, pos := _, after := _, guard := _ }) (v := ?_) rfl (by kernel_rfl) (by kernel_rfl) (by kernel_rfl) (fun _ _ _ h => h) (Or.inl ⟨by rfl, ?_⟩) (by assumption) ?_
                    rotate_left
                    · intro W hSw
                      (try dsimp only at hSw)
                      go_simp
                      (try with_reducible rfl)
                    try simp only [Act.put, List.setIfInBounds_toArray, List.set_cons_zero, List.set_cons_succ]
                    refine wpAnyH_take (i := 4) (oi := { dst := _, op := _, type := _, pos := _, after := _, guard := _ }) (v := ?_) rfl (by kernel_rfl) (by kernel_rfl) (by kernel_rfl) (fun _ _ _ h => h) (Or.inl ⟨by rfl, ?_⟩) (by assumption) ?_
                    rotate_left
                    · intro W hSw
                      (try dsimp only at hSw)
                      have s0 := HCL.out W hSw
                      go_simp
                      (try with_reducible rfl)
                    try simp only [Act.put, List.setIfInBounds_toArray, List.set_cons_zero, List.set_cons_succ]
                    refine wpAnyH_take (i := 5) (oi := { dst := _, op := _, type := _, pos := _, after := _, guard := _ }) (v := ?_) rfl (by kernel_rfl) (by kernel_rfl) (by kernel_rfl) (fun _ _ _ h => h) (Or.inl ⟨by rfl, ?_⟩) (by assumption) ?_
                    rotate_left
                    · intro W hSw
                      (try dsimp only at hSw)
                      go_simp
                      (try with_reducible rfl)
                    try simp only [Act.put, List.setIfInBounds_toArray, List.set_cons_zero, List.set_cons_succ]
                    refine wpAnyH_take (i := 6) (oi := { dst := _, op := _, type := _, pos := _, after := _, guard := _ }) (v := ?_) rfl (by kernel_rfl) (by kernel_rfl) (by kernel_rfl) (fun _ _ _ h => h) (Or.inl ⟨by rfl, ?_⟩) (by assumption) ?_
                    rotate_left
                    · intro W hSw
                      (try dsimp only at hSw)
                      go_simp
                      (try with_reducible rfl)
                    try simp only [Act.put, List.setIfInBounds_toArray, List.set_cons_zero, List.set_cons_succ]
                    refine wpAnyH_take (i := 7) (oi := { dst := _, op := _, type := _, pos := _, after := _, guard := _ }) (v := ?_) rfl (by kernel_rfl) (by kernel_rfl) (by kernel_rfl) (fun _ _ _ h => h) (Or.inl ⟨by rfl, ?_⟩) (by assumption) ?_
                    rotate_left
                    · intro W hSw
                      (try dsimp only at hSw)
                      go_simp
                      (try with_reducible rfl)
                    try simp only [Act.put, List.setIfInBounds_toArray, List.set_cons_zero, List.set_cons_succ]
                    refine wpAnyH_take (i := 8) (oi := { dst := _, op := _, type := _, pos := _, after := _, guard := _ }) rfl (by kernel_rfl) (by kernel_rfl) (by kernel_rfl) (fun _ _ _ h => h) (Or.inr ⟨by rfl, rfl⟩) (by assumption) ?_
                    try simp only [Act.put, List.setIfInBounds_toArray, List.set_cons_zero, List.set_cons_succ]
                    refine wpAnyH_take (i := 9) (oi := { dst := _, op := _, type := _, pos := _, after := _, guard := _ }) rfl (by kernel_rfl) (by kernel_rfl) (by kernel_rfl) (fun _ _ _ h => h) (Or.inr ⟨by rfl, rfl⟩) (by assumption) ?_
                    try simp only [Act.put, List.setIfInBounds_toArray, List.set_cons_zero, List.set_cons_succ]
                    refine wpAnyH_take (i := 10) (oi := { dst := _, op := _, type := _, pos := _, after := _, guard := _ }) rfl (by kernel_rfl) (by kernel_rfl) (by kernel_rfl) (fun _ _ _ h => h) (Or.inr ⟨by rfl, rfl⟩) (by assumption) ?_
                    try simp only [Act.put, List.setIfInBounds_toArray, List.set_cons_zero, List.set_cons_succ]
                    refine wpAnyH_take (i := 11) (oi := { dst := _, op := _, type := _, pos := _, after := _, guard := _ }) rfl (by kernel_rfl) (by kernel_rfl) (by kernel_rfl) (fun _ _ _ h => h) (Or.inr ⟨by rfl, rfl⟩) (by assumption) ?_
                    try simp only [Act.put, List.setIfInBounds_toArray, List.set_cons_zero, List.set_cons_succ]
                    refine wpAnyH_take (i := 12) (oi := { dst := _, op := _, type := _, pos := _, after := _, guard := _ }) rfl (by kernel_rfl) (by kernel_rfl) (by kernel_rfl) (fun _ _ _ h => h) (Or.inr ⟨by rfl, rfl⟩) (by assumption) ?_
                    try simp only [Act.put, List.setIfInBounds_toArray, List.set_cons_zero, List.set_cons_succ]
                    refine wpAnyH_take (i := 13) (oi := { dst := _, op := _, type := _, pos := _, after := _, guard := _ }) rfl (by kernel_rfl) (by kernel_rfl) (by kernel_rfl) (fun _ _ _ h => h) (Or.inr ⟨by rfl, rfl⟩) (by assumption) ?_
                    try simp only [Act.put, List.setIfInBounds_toArray, List.set_cons_zero, List.set_cons_succ]
                    refine wpAnyH_take (i := 14) (oi := { dst := _, op := _, type := _, pos := _, after := _, guard := _ }) rfl (by kernel_rfl) (by kernel_rfl) (by kernel_rfl) (fun _ _ _ h => h) (Or.inr ⟨by rfl, rfl⟩) (by assumption) ?_
                    try simp only [Act.put, List.setIfInBounds_toArray, List.set_cons_zero, List.set_cons_succ]
                    refine wpAnyH_take (i := 15) (oi := { dst := _, op := _, type := _, pos := _, after := _, guard := _ }) rfl (by kernel_rfl) (by kernel_rfl) (by kernel_rfl) (fun _ _ _ h => h) (Or.inr ⟨by rfl, rfl⟩) (by assumption) ?_
                    try simp only [Act.put, List.setIfInBounds_toArray, List.set_cons_zero, List.set_cons_succ]
                    refine wpAnyH_take (i := 16) (oi := { dst := _, op := _, type := _, pos := _, after := _, guard := _ }) rfl (by kernel_rfl) (by kernel_rfl) (by kernel_rfl) (fun _ _ _ h => h) (Or.inr ⟨by rfl, rfl⟩) (by assumption) ?_
                    try simp only [Act.put, List.setIfInBounds_toArray, List.set_cons_zero, List.set_cons_succ]
                    refine wpAnyH_take (i := 17) (oi := { dst := _, op := _, type := _, pos := _, after := _, guard := _ }) rfl (by kernel_rfl) (by kernel_rfl) (by kernel_rfl) (fun _ _ _ h => h) (Or.inr ⟨by rfl, rfl⟩) (by assumption) ?_
                    try simp only [Act.put, List.setIfInBounds_toArray, List.set_cons_zero, List.set_cons_succ]
                    refine wpAnyH_take (i := 18) (oi := { dst := _, op := _, type := _, pos := _, after := _, guard := _ }) rfl (by kernel_rfl) (by kernel_rfl) (by kernel_rfl) (fun _ _ _ h => h) (Or.inr ⟨by rfl, rfl⟩) (by assumption) ?_
                    try simp only [Act.put, List.setIfInBounds_toArray, List.set_cons_zero, List.set_cons_succ]
                    refine wpAnyH_take (i := 19) (oi := { dst := _, op := _, type := _, pos := _, after := _, guard := _ }) rfl (by kernel_rfl) (by kernel_rfl) (by kernel_rfl) (fun _ _ _ h => h) (Or.inr ⟨by rfl, rfl⟩) (by assumption) ?_
                    try simp only [Act.put, List.setIfInBounds_toArray, List.set_cons_zero, List.set_cons_succ]
                    refine wpAnyH_take (i := 20) (oi := { dst := _, op := _, type := _, pos := _, after := _, guard := _ }) rfl (by kernel_rfl) (by kernel_rfl) (by kernel_rfl) (fun _ _ _ h => h) (Or.inr ⟨by rfl, rfl⟩) (by assumption) ?_
                    try simp only [Act.put, List.setIfInBounds_toArray, List.set_cons_zero, List.set_cons_succ]
                    refine wpAnyH_take (i := 21) (oi := { dst := _, op := _, type := _, pos := _, after := _, guard := _ }) rfl (by kernel_rfl) (by kernel_rfl) (by kernel_rfl) (fun _ _ _ h => h) (Or.inr ⟨by rfl, rfl⟩) (by assumption) ?_
                    try simp only [Act.put, List.setIfInBounds_toArray, List.set_cons_zero, List.set_cons_succ]
                    refine wpAnyH_take (i := 22) (oi := { dst := _, op := _, type := _, pos := _, after := _, guard := _ }) rfl (by kernel_rfl) (by kernel_rfl) (by kernel_rfl) (fun _ _ _ h => h) (Or.inr ⟨by rfl, rfl⟩) (by assumption) ?_
                    try simp only [Act.put, List.setIfInBounds_toArray, List.set_cons_zero, List.set_cons_succ]
                    refine wpAnyH_take (i := 23) (oi := { dst := _, op := _, type := _, pos := _, after := _, guard := _ }) rfl (by kernel_rfl) (by kernel_rfl) (by kernel_rfl) (fun _ _ _ h => h) (Or.inr ⟨by rfl, rfl⟩) (by assumption) ?_
                    try simp only [Act.put, List.setIfInBounds_toArray, List.set_cons_zero, List.set_cons_succ]
                    refine wpAnyH_take (i := 24) (oi := { dst := _, op := _, type := _, pos := _, after := _, guard := _ }) rfl (by kernel_rfl) (by kernel_rfl) (by kernel_rfl) (fun _ _ _ h => h) (Or.inr ⟨by rfl, rfl⟩) (by assumption) ?_
                    try simp only [Act.put, List.setIfInBounds_toArray, List.set_cons_zero, List.set_cons_succ]
                    refine wpAnyH_take (i := 25) (oi := { dst := _, op := _, type := _, pos := _, after := _, guard := _ }) rfl (by kernel_rfl) (by kernel_rfl) (by kernel_rfl) (fun _ _ _ h => h) (Or.inr ⟨by rfl, rfl⟩) (by assumption) ?_
                    try simp only [Act.put, List.setIfInBounds_toArray, List.set_cons_zero, List.set_cons_succ]
                    refine wpAnyH_take (i := 26) (oi := { dst := _, op := _, type := _, pos := _, after := _, guard := _ }) rfl (by kernel_rfl) (by kernel_rfl) (by kernel_rfl) (fun _ _ _ h => h) (Or.inr ⟨by rfl, rfl⟩) (by assumption) ?_
                    try simp only [Act.put, List.setIfInBounds_toArray, List.set_cons_zero, List.set_cons_succ]
                    refine wpAnyH_take (i := 27) (oi := { dst := _, op := _, type := _, pos := _, after := _, guard := _ }) rfl (by kernel_rfl) (by kernel_rfl) (by kernel_rfl) (fun _ _ _ h => h) (Or.inr ⟨by rfl, rfl⟩) (by assumption) ?_
                    try simp only [Act.put, List.setIfInBounds_toArray, List.set_cons_zero, List.set_cons_succ]
                    refine wpAnyH_take (i := 28) (oi := { dst := _, op := _, type := _, pos := _, after := _, guard := _ }) rfl (by kernel_rfl) (by kernel_rfl) (by kernel_rfl) (fun _ _ _ h => h) (Or.inr ⟨by rfl, rfl⟩) (by assumption) ?_
                    try simp only [Act.put, List.setIfInBounds_toArray, List.set_cons_zero, List.set_cons_succ]
                    refine wpAnyH_take (i := 29) (oi := { dst := _, op := _, type := _, pos := _, after := _, guard := _ }) rfl (by kernel_rfl) (by kernel_rfl) (by kernel_rfl) (fun _ _ _ h => h) (Or.inr ⟨by rfl, rfl⟩) (by assumption) ?_
                    try simp only [Act.put, List.setIfInBounds_toArray, List.set_cons_zero, List.set_cons_succ]
                    refine wpAnyH_take (i := 30) (oi := { dst := _, op := _, type := _, pos := _, after := _, guard := _ }) rfl (by kernel_rfl) (by kernel_rfl) (by kernel_rfl) (fun _ _ _ h => h) (Or.inr ⟨by rfl, rfl⟩) (by assumption) ?_
                    try simp only [Act.put, List.setIfInBounds_toArray, List.set_cons_zero, List.set_cons_succ]
                    refine wpAnyH_take (i := 31) (oi := { dst := _, op := _, type := _, pos := _, after := _, guard := _ }) rfl (by kernel_rfl) (by kernel_rfl) (by kernel_rfl) (fun _ _ _ h => h) (Or.inr ⟨by rfl, rfl⟩) (by assumption) ?_
                    try simp only [Act.put, List.setIfInBounds_toArray, List.set_cons_zero, List.set_cons_succ]
                    refine wpAnyH_take (i := 32) (oi := { dst := _, op := _, type := _, pos := _, after := _, guard := _ }) rfl (by kernel_rfl) (by kernel_rfl) (by kernel_rfl) (fun _ _ _ h => h) (Or.inr ⟨by rfl, rfl⟩) (by assumption) ?_
                    try simp only [Act.put, List.setIfInBounds_toArray, List.set_cons_zero, List.set_cons_succ]
                    refine wpAnyH_take (i := 33) (oi := { dst := _, op := _, type := _, pos := _, after := _, guard := _ }) rfl (by kernel_rfl) (by kernel_rfl) (by kernel_rfl) (fun _ _ _ h => h) (Or.inr ⟨by rfl, rfl⟩) (by assumption) ?_
                    try simp only [Act.put, List.setIfInBounds_toArray, List.set_cons_zero, List.set_cons_succ]
                    refine wpAnyH_take (i := 34) (oi := { dst := _, op := _, type := _, pos := _, after := _, guard := _ }) rfl (by kernel_rfl) (by kernel_rfl) (by kernel_rfl) (fun _ _ _ h => h) (Or.inr ⟨by rfl, rfl⟩) (by assumption) ?_
                    try simp only [Act.put, List.setIfInBounds_toArray, List.set_cons_zero, List.set_cons_succ]
                    refine wpAnyH_take (i := 35) (oi := { dst := _, op := _, type := _, pos := _, after := _, guard := _ }) rfl (by kernel_rfl) (by kernel_rfl) (by kernel_rfl) (fun _ _ _ h => h) (Or.inr ⟨by rfl, rfl⟩) (by assumption) ?_
                    try simp only [Act.put, List.setIfInBounds_toArray, List.set_cons_zero, List.set_cons_succ]
                    refine wpAnyH_take (i := 36) (oi := { dst := _, op := _, type := _, pos := _, after := _, guard := _ }) (v := ?_) rfl (by kernel_rfl) (by kernel_rfl) (by kernel_rfl) (fun _ _ _ h => h) (Or.inl ⟨by rfl, ?_⟩) (by assumption) ?_
                    rotate_left
                    · intro W hSw
                      (try dsimp only at hSw)
                      go_simp
                      (try with_reducible rfl)
                    try simp only [Act.put, List.setIfInBounds_toArray, List.set_cons_zero, List.set_cons_succ]
                    refine wpAnyH_take (i := 37) (oi := { dst := _, op := _, type := _, pos := _, after := _, guard := _ }) (v := ?_) rfl (by kernel_rfl) (by kernel_rfl) (by kernel_rfl) (fun _ _ _ h => h) (Or.inl ⟨by rfl, ?_⟩) (by assumption) ?_
                    rotate_left
                    · intro W hSw
                      (try dsimp only at hSw)
                      go_simp
                      (try with_reducible rfl)
                    try simp only [Act.put, List.setIfInBounds_toArray, List.set_cons_zero, List.set_cons_succ]
                    refine wpAnyH_take (i := 38) (oi := { dst := _, op := _, type := _, pos := _, after := _, guard := _ }) (v := ?_) rfl (by kernel_rfl) (by kernel_rfl) (by kernel_rfl) (fun _ _ _ h => h) (Or.inl ⟨by rfl, ?_⟩) (by assumption) ?_
                    rotate_left
                    · intro W hSw
                      (try dsimp only at hSw)
                      go_simp
                      (try with_reducible rfl)
                    try simp only [Act.put, List.setIfInBounds_toArray, List.set_cons_zero, List.set_cons_succ]
                    refine wpAnyH_take (i := 39) (oi := { dst := _, op := _, type := _, pos := _, after := _, guard := _ }) (v := ?_) rfl (by kernel_rfl) (by kernel_rfl) (by kernel_rfl) (fun _ _ _ h => h) (Or.inl ⟨by rfl, ?_⟩) (by assumption) ?_
                    rotate_left
                    · intro W hSw
                      (try dsimp only at hSw)
                      go_simp
                      (try with_reducible rfl)
                    try simp only [Act.put, List.setIfInBounds_toArray, List.set_cons_zero, List.set_cons_succ]
                    refine wpAnyH_take (i := 40) (oi := { dst := _, op := _, type := _, pos := _, after := _, guard := _ }) (v := ?_) rfl (by kernel_rfl) (by kernel_rfl) (by kernel_rfl) (fun _ _ _ h => h) (Or.inl ⟨by rfl, ?_⟩) (by assumption) ?_
                    rotate_left
                    · intro W hSw
                      (try dsimp only at hSw)
                      go_simp
                      (try with_reducible rfl)
                    try simp only [Act.put, List.setIfInBounds_toArray, List.set_cons_zero, List.set_cons_succ]
                    refine wpAnyH_take (i := 41) (oi := { dst := _, op := _, type := _, pos := _, after := _, guard := _ }) (v := ?_) rfl (by kernel_rfl) (by kernel_rfl) (by kernel_rfl) (fun _ _ _ h => h) (Or.inl ⟨by rfl, ?_⟩) (by assumption) ?_
                    rotate_left
                    · intro W hSw
                      (try dsimp only at hSw)
                      go_simp
                      (try with_reducible rfl)
                    try simp only [Act.put, List.setIfInBounds_toArray, List.set_cons_zero, List.set_cons_succ]
                    refine wpAnyH_take (i := 42) (oi := { dst := _, op := _, type := _, pos := _, after := _, guard := _ }) (v := ?_) rfl (by kernel_rfl) (by kernel_rfl) (by kernel_rfl) (fun _ _ _ h => h) (Or.inl ⟨by rfl, ?_⟩) (by assumption) ?_
                    rotate_left
                    · intro W hSw
                      (try dsimp only at hSw)
                      have s0 := HCL.out W hSw
                      go_simp
                      (try with_reducible rfl)
                    try simp only [Act.put, List.setIfInBounds_toArray, List.set_cons_zero, List.set_cons_succ]
                    refine wpAnyH_take (i := 43) (oi := { dst := _, op := _, type := _, pos := _, after := _, guard := _ }) (v := ?_) rfl (by kernel_rfl) (by kernel_rfl) (by kernel_rfl) (fun _ _ _ h => h) (Or.inl ⟨by rfl, ?_⟩) (by assumption) ?_
                    rotate_left
                    · intro W hSw
                      (try dsimp only at hSw)
                      go_simp
                      (try with_reducible rfl)
                    try simp only [Act.put, List.setIfInBounds_toArray, List.set_cons_zero, List.set_cons_succ]
                    refine wpAnyH_take (i := 44) (oi := { dst := _, op := _, type := _, pos := _, after := _, guard := _ }) (v := ?_) rfl (by kernel_rfl) (by kernel_rfl) (by kernel_rfl) (fun _ _ _ h => h) (Or.inl ⟨by rfl, ?_⟩) (by assumption) ?_
                    rotate_left
                    · intro W hSw
                      (try dsimp only at hSw)
                      go_simp
                      (try with_reducible rfl)
                    try simp only [Act.put, List.setIfInBounds_toArray, List.set_cons_zero, List.set_cons_succ]
                    refine wpAnyH_take (i := 45) (oi := { dst := _, op := _, type := _, pos := _, after := _, guard := _ }) (v := ?_) rfl (by kernel_rfl) (by kernel_rfl) (by kernel_rfl) (fun _ _ _ h => h) (Or.inl ⟨by rfl, ?_⟩) (by assumption) ?_
                    rotate_left
                    · intro W hSw
                      (try dsimp only at hSw)
                      go_simp
                      (try with_reducible rfl)
                    try simp only [Act.put, List.setIfInBounds_toArray, List.set_cons_zero, List.set_cons_succ]
                    refine wpAnyH_take (i := 46) (oi := { dst := _, op := _, type := _, pos := _, after := _, guard := _ }) (v := ?_) rfl (by kernel_rfl) (by kernel_rfl) (by kernel_rfl) (fun _ _ _ h => h) (Or.inl ⟨by rfl, ?_⟩) (by assumption) ?_
                    rotate_left
                    · intro W hSw
                      (try dsimp only at hSw)
                      go_simp
                      (try with_reducible rfl)
                    try simp only [Act.put, List.setIfInBounds_toArray, List.set_cons_zero, List.set_cons_succ]
                    refine wpAnyH_take (i := 47) (oi := { dst := _, op := _, type := _, pos := _, after := _, guard := _ }) (v := ?_) rfl (by kernel_rfl) (by kernel_rfl) (by kernel_rfl) (fun _ _ _ h => h) (Or.inl ⟨by rfl, ?_⟩) (by assumption) ?_
                    rotate_left
                    · intro W hSw
                      (try dsimp only at hSw)
                      go_simp
                      (try with_reducible rfl)
                    try simp only [Act.put, List.setIfInBounds_toArray, List.set_cons_zero, List.set_cons_succ]
                    refine wpAnyH_take (i := 48) (oi := { dst := _, op := _, type := _, pos := _, after := _, guard := _ }) (v := ?_) rfl (by kernel_rfl) (by kernel_rfl) (by kernel_rfl) (fun _ _ _ h => h) (Or.inl ⟨by rfl, ?_⟩) (by assumption) ?_
                    rotate_left
                    · intro W hSw
                      (try dsimp only at hSw)
                      go_simp
                      (try with_reducible rfl)
                    try simp only [Act.put, List.setIfInBounds_toArray, List.set_cons_zero, List.set_cons_succ]
                    refine wpAnyH_take (i := 49) (oi := { dst := _, op := _, type := _, pos := _, after := _, guard := _ }) (v := ?_) rfl (by kernel_rfl) (by kernel_rfl) (by kernel_rfl) (fun _ _ _ h => h) (Or.inl ⟨by rfl, ?_⟩) (by assumption) ?_
                    rotate_left
                    · intro W hSw
                      (try dsimp only at hSw)
                      have s0 := HCI.out W hSw
                      go_simp
                      (try with_reducible rfl)
                    try simp only [Act.put, List.setIfInBounds_toArray, List.set_cons_zero, List.set_cons_succ]
                    refine wpAnyH_take (i := 50) (oi := { dst := _, op := _, type := _, pos := _, after := _, guard := _ }) (v := ?_) rfl (by kernel_rfl) (by kernel_rfl) (by kernel_rfl) (fun _ _ _ h => h) (Or.inl ⟨by rfl, ?_⟩) (by assumption) ?_
                    rotate_left
                    · intro W hSw
                      (try dsimp only at hSw)
                      go_simp
                      (try with_reducible rfl)
                    try simp only [Act.put, List.setIfInBounds_toArray, List.set_cons_zero, List.set_cons_succ]
                    refine wpAnyH_take (i := 51) (oi := { dst := _, op := _, type := _, pos := _, after := _, guard := _ }) (v := ?_) rfl (by kernel_rfl) (by kernel_rfl) (by kernel_rfl) (fun _ _ _ h => h) (Or.inl ⟨by rfl, ?_⟩) (by assumption) ?_
                    rotate_left
                    · intro W hSw
                      (try dsimp only at hSw)
                      go_simp
                      (try with_reducible rfl)
                    try simp only [Act.put, List.setIfInBounds_toArray, List.set_cons_zero, List.set_cons_succ]
                    refine wpAnyH_take (i := 52) (oi := { dst := _, op := _, type := _, pos := _, after := _, guard := _ }) (v := ?_) rfl (by kernel_rfl) (by kernel_rfl) (by kernel_rfl) (fun _ _ _ h => h) (Or.inl ⟨by rfl, ?_⟩) (by assumption) ?_
                    rotate_left
                    · intro W hSw
                      (try dsimp only at hSw)
                      obtain ⟨s0, s1, s2, s3, s4⟩ := HUK.out W hSw
                      go_simp
                      (try with_reducible rfl)
                    try simp only [Act.put, List.setIfInBounds_toArray, List.set_cons_zero, List.set_cons_succ]
                    refine wpAnyH_take (i := 53) (oi := { dst := _, op := _, type := _, pos := _, after := _, guard := _ }) (v := ?_) rfl (by kernel_rfl) (by kernel_rfl) (by kernel_rfl) (fun _ _ _ h => h) (Or.inl ⟨by rfl, ?_⟩) (by assumption) ?_
                    rotate_left
                    · intro W hSw
                      (try dsimp only at hSw)
                      go_simp
                      (try with_reducible rfl)
                    try simp only [Act.put, List.setIfInBounds_toArray, List.set_cons_zero, List.set_cons_succ]
                    refine wpAnyH_take (i := 54) (oi := { dst := _, op := _, type := _, pos := _, after := _, guard := _ }) (v := ?_) rfl (by kernel_rfl) (by kernel_rfl) (by kernel_rfl) (fun _ _ _ h => h) (Or.inl ⟨by rfl, ?_⟩) (by assumption) ?_
                    rotate_left
                    · intro W hSw
                      (try dsimp only at hSw)
                      go_simp
                      (try with_reducible rfl)
                    try simp only [Act.put, List.setIfInBounds_toArray, List.set_cons_zero, List.set_cons_succ]
                    refine wpAnyH_take (i := 55) (oi := { dst := _, op := _, type := _, pos := _, after := _, guard := _ }) (v := ?_) rfl (by kernel_rfl) (by kernel_rfl) (by kernel_rfl) (fun _ _ _ h => h) (Or.inl ⟨by rfl, ?_⟩) (by assumption) ?_
                    rotate_left
                    · intro W hSw
                      (try dsimp only at hSw)
                      go_simp
                      (try with_reducible rfl)
                    try simp only [Act.put, List.setIfInBounds_toArray, List.set_cons_zero, List.set_cons_succ]
                    refine wpAnyH_take (i := 56) (oi := { dst := _, op := _, type := _, pos := _, after := _, guard := _ }) (v := ?_) rfl (by kernel_rfl) (by kernel_rfl) (by kernel_rfl) (fun _ _ _ h => h) (Or.inl ⟨by rfl, ?_⟩) (by assumption) ?_
                    rotate_left
                    · intro W hSw
                      (try dsimp only at hSw)
                      go_simp
                      (try with_reducible rfl)
                    try simp only [Act.put, List.setIfInBounds_toArray, List.set_cons_zero, List.set_cons_succ]
                    refine wpAnyH_take (i := 57) (oi := { dst := _, op := _, type := _, pos := _, after := _, guard := _ }) (v := ?_) rfl (by kernel_rfl) (by kernel_rfl) (by kernel_rfl) (fun _ _ _ h => h) (Or.inl ⟨by rfl, ?_⟩) (by assumption) ?_
                    rotate_left
                    · intro W hSw
                      (try dsimp only at hSw)
                      go_simp
                      (try with_reducible rfl)
                    try simp only [Act.put, List.setIfInBounds_toArray, List.set_cons_zero, List.set_cons_succ]
                    refine wpAnyH_take (i := 58) (oi := { dst := _, op := _, type := _, pos := _, after := _, guard := _ }) (v := ?_) rfl (by kernel_rfl) (by kernel_rfl) (by kernel_rfl) (fun _ _ _ h => h) (Or.inl ⟨by rfl, ?_⟩) (by assumption) ?_
                    rotate_left
                    · intro W hSw
                      (try dsimp only at hSw)
                      go_simp
                      (try with_reducible rfl)
                    try simp only [Act.put, List.setIfInBounds_toArray, List.set_cons_zero, List.set_cons_succ]
                    refine wpAnyH_done (by kernel_rfl) ?_ _
                    refine NoPanic.normal ?_
                    go_wp2_with fail
                    go_roundg (p - (k + 1))
                    case measure => have := HK.out; have := HKL.out; omega
                    case rel => exact ⟨k + 1, by simp, ⟨HKL.out, rfl⟩, HC.out.drew⟩
                · have d1 : decide ((k : Int) < (p : Int)) = false := by rw [decide_eq_false_iff_not]; omega
                  have d2 : decide (k < p) = false := decide_eq_false hk
                  clear hk
                  go_wp2_with fail
                  go_roundg (4 - (i + 1))
                  case measure => have := HI.out; have := HIL.out; omega
                  case rel => exact ⟨i + 1, by simp, ⟨HIL.out, rfl⟩, HC⟩
            · have e1 : decide ((i : Int) < 4) = false := by rw [decide_eq_false_iff_not]; omega
              clear hi
              go_wp2_with fail
              go_ret
              exact ⟨rfl, HO.out.1.step (grown_of_below HC.out) (fun b _ hb => by cases hb)⟩
end Go.Proofs.Yticheeacbajeeaa
