import Derived.Test.YtkjcnnecdclgfabDoorGsa
namespace Go.Proofs.YtkjcnnecdclgfabDoor
open Go.RowKit Go.Shelf

/-- A row with its tail. -/
def tl (n m j : Nat) : List Nd := List.replicate n (spn j) ++ List.replicate m (apn j)
theorem tl_len (n m j : Nat) : (tl n m j).length = n + m := by unfold tl; simp
theorem tl_succ (n m j : Nat) : ncs (tl n (m + 1) j) = ncs (tl n m j) ++ nc (apn j) := by
  unfold tl
  rw [List.replicate_succ', ← List.append_assoc, ncs_app]
  congr 1
/-- The four lists, while they grow. -/
structure Sq (w W : World) (gL H : Nat) (v : Nat → Value) (n : Nat → Nat) (re : List Nd) (lq : Option Addr) (gq cq : Nat) (lv : Value) (il : Nat) (u : Nat → Value) (m : Nat → Nat) : Prop where
  row : ∀ j, j < 4 → W.ownsRow w.heap.size 38 7 (u j) (n j + m j) (ncs (tl (n j) (m j) j))
  shp : ∀ j, j < 4 → ∃ a cap, v j = .slice a (n j) cap
  nds : ∀ j, j < 4 → n j ≠ 0 → ∃ g cap, v j = .slice (some ⟨g, 0, none⟩) (n j) cap ∧ NdsAt W g 0 (List.replicate (n j) (spn j))
  vlt : ∀ j, j < 4 → ∀ g, (v j).ownBlock = some g → g < H
  ap : ∀ i j, i < 4 → j < 4 → i ≠ j → (u i).ownBlock = none ∨ ((u i).ownBlock ≠ (u j).ownBlock ∧ (u i).ownBlock ≠ (v j).ownBlock)
  sam : ∀ j, j < 4 → ∀ g, (u j).ownBlock = some g → g < H → (u j).ownBlock = (v j).ownBlock
  lst : W.heap[gL]? = some (.cells #[v 0, v 1, v 2, v 3] 23 (0, 0))
  was : Lst W lq gq 0 cq re
  wlt : re ≠ [] → gq < H
  off : ∀ j, j < 4 → re ≠ [] → (u j).ownBlock ≠ some gq
  glt : gL < H
  bel : Below w.heap.size w W
  hH : H ≤ W.heap.size
  wH : w.heap.size ≤ H
  lng : W.ownsRow H 23 1 lv il ((List.range il).map u)
theorem Sq.start {w W : World} {gL : Nat} {v : Nat → Value} {n : Nat → Nat} {re : List Nd} {lq : Option Addr} {gq cq : Nat} {L : Nat → List Nd} (h : Sp w W gL v n re lq gq cq L) (hL : ∀ j, j < 4 → L j = List.replicate (n j) (spn j)) :
    Sq w W gL W.heap.size v n re lq gq cq (.slice none 0 0) 0 v (fun _ => 0) := by
  refine ⟨fun j hj => ?_, fun j hj => own_slice (h.row j hj), fun j hj hn => ?_, fun j hj g hg => ((h.row j hj).lt g hg).2, fun i j hi hj hij => ?_, fun _ _ _ _ _ => rfl, h.lst, h.was, h.was.lt, h.off, lt_of_heap h.lst, h.bel, Nat.le_refl _, h.bel.size, World.ownsRow_nil _ _ _ _⟩
  · have hr := h.row j hj
    rw [hL j hj] at hr
    unfold tl
    simpa using hr
  · have hr := h.row j hj
    rw [hL j hj] at hr
    obtain ⟨g, cap, e, _, _⟩ := own_form' hr (by omega)
    rw [e] at hr
    exact ⟨g, cap, e, own_nds hr (by simp)⟩
  · rcases h.ap i j hi hj hij with e | e
    · exact Or.inl e
    · exact Or.inr ⟨e, e⟩
theorem NdsAt.grown {W W' : World} {g : Nat} {re : List Nd} {r : Option Nat} (h : NdsAt W g 0 re) (hg : W.grownBy W' r) (ho : r ≠ some g) : NdsAt W' g 0 re :=
  NdsAt.of (fun j u hu => hg.cell (h.row j u hu) (fun e => ho e.symm))
theorem NdsAt.pre' {W : World} {g : Nat} {a b : List Nd} (h : NdsAt W g 0 (a ++ b)) : NdsAt W g 0 a := ⟨fun p n s e => h.nd p n (s ++ b) (by rw [e]; simp)⟩
/-- The world has grown by blocks above, or in a row that is none of these. -/
theorem Sq.grown {w W W' : World} {gL H : Nat} {v : Nat → Value} {n : Nat → Nat} {re : List Nd} {lq : Option Addr} {gq cq : Nat} {lv lv' : Value} {il il' : Nat} {u : Nat → Value} {m : Nat → Nat} (h : Sq w W gL H v n re lq gq cq lv il u m) {r : Option Nat} (hg : W.grownBy W' r) (hr : ∀ q, r = some q → H ≤ q) (hu : ∀ j, j < 4 → (u j).ownBlock = none ∨ (u j).ownBlock ≠ r) (hl : W'.ownsRow H 23 1 lv' il' ((List.range il').map u)) :
    Sq w W' gL H v n re lq gq cq lv' il' u m := by
  have hne : ∀ q, q < H → r ≠ some q := fun q hq e => by have := hr q e; omega
  refine ⟨fun j hj => (h.row j hj).kept hg (hu j hj), h.shp, fun j hj hn => ?_, h.vlt, h.ap, h.sam, ?_, h.was.grown hg (fun hn => hne _ (h.wlt hn)), h.wlt, h.off, h.glt, h.bel.grown hg h.bel.size (fun k e => Nat.le_trans h.wH (hr k e)), Nat.le_trans h.hH hg.size, h.wH, hl⟩
  · obtain ⟨g, cap, e, hn⟩ := h.nds j hj hn
    exact ⟨g, cap, e, hn.grown hg (hne g (h.vlt j hj g (by rw [e]; rfl)))⟩
  · rw [hg.block gL (lt_of_heap h.lst) (fun e => hne gL h.glt e.symm)]
    exact h.lst
/-- One more in row i. -/
theorem Sq.app {w W W' : World} {gL H : Nat} {v : Nat → Value} {n : Nat → Nat} {re : List Nd} {lq : Option Addr} {gq cq : Nat} {lv : Value} {il : Nat} {u : Nat → Value} {m : Nat → Nat} (h : Sq w W gL H v n re lq gq cq lv il u m) {i : Nat} (hi : i < 4) (hil : il ≤ i) {x : Value}
    (ho : W'.ownsRow w.heap.size 38 7 x (n i + m i + 1) (ncs (tl (n i) (m i) i) ++ nc (apn i)))
    (hc : (∃ g, (u i).ownBlock = some g ∧ x.ownBlock = some g ∧ W.grownBy W' (some g)) ∨ (∃ g, x.ownBlock = some g ∧ W.heap.size ≤ g ∧ W.grownBy W' none)) :
    Sq w W' gL H v n re lq gq cq lv il (fun j => if j = i then x else u j) (fun j => if j = i then m i + 1 else m j) := by
  have hrow : W'.ownsRow w.heap.size 38 7 x (n i + (m i + 1)) (ncs (tl (n i) (m i + 1) i)) := by
    rw [tl_succ]
    exact ho
  have hmap : (List.range il).map (fun j => if j = i then x else u j) = (List.range il).map u := by
    refine List.map_congr_left (fun j hj => ?_)
    rw [List.mem_range] at hj
    rw [if_neg (by omega)]
  have hul := fun j (hj : j < 4) g hg => ((h.row j hj).lt g hg).2
  obtain ⟨r, hg, hr, hx⟩ : ∃ r, W.grownBy W' r ∧ (r = none ∨ r = (u i).ownBlock) ∧ ((∃ g, r = some g ∧ x.ownBlock = some g) ∨ (r = none ∧ ∃ g, x.ownBlock = some g ∧ W.heap.size ≤ g)) := by
    rcases hc with ⟨g, e1, e2, e3⟩ | ⟨g, e1, e2, e3⟩
    · exact ⟨some g, e3, Or.inr e1.symm, Or.inl ⟨g, rfl, e2⟩⟩
    · exact ⟨none, e3, Or.inl rfl, Or.inr ⟨rfl, g, e1, e2⟩⟩
  have hrq : ∀ q, r = some q → w.heap.size ≤ q := fun q e => by
    rcases hr with hr | hr
    · rw [hr] at e; cases e
    · exact ((h.row i hi).lt q (by rw [← hr]; exact e)).1
  have hoth : ∀ j, j < 4 → j ≠ i → (u j).ownBlock = none ∨ (u j).ownBlock ≠ r := fun j hj hji => by
    rcases hr with hr | hr
    · cases hq : (u j).ownBlock with
      | none => exact Or.inl rfl
      | some q => exact Or.inr (by rw [hr]; intro e; cases e)
    · rw [hr]
      rcases h.ap j i hj hi hji with e | e
      · exact Or.inl e
      · exact Or.inr e.1
  have hxne : ∀ q, q < W.heap.size → (∀ g, (u i).ownBlock = some g → q ≠ g) → x.ownBlock ≠ some q := fun q hq hne e => by
    rcases hx with ⟨g, e1, e2⟩ | ⟨_, g, e2, e3⟩
    · rw [e2] at e
      cases e
      rcases hr with hr | hr
      · rw [hr] at e1; cases e1
      · exact hne _ (by rw [← hr, e1]) rfl
    · rw [e2] at e
      cases e
      omega
  refine ⟨fun j hj => ?_, h.shp, fun j hj hn => ?_, h.vlt, fun a b ha hb hab => ?_, fun j hj g hg' hgH => ?_, ?_, h.was.grown hg (fun hn => ?_), h.wlt, fun j hj hn => ?_, h.glt, h.bel.grown hg h.bel.size hrq, Nat.le_trans h.hH hg.size, h.wH, ?_⟩
  · by_cases hji : j = i
    · subst hji
      simp only [if_pos]
      exact hrow
    · simp only [if_neg hji]
      exact (h.row j hj).kept hg (hoth j hj hji)
  · obtain ⟨g, cap, e, hN⟩ := h.nds j hj hn
    refine ⟨g, cap, e, ?_⟩
    by_cases hrg : r = some g
    · have hui : (u i).ownBlock = some g := by
        rcases hr with hr | hr
        · rw [hr] at hrg; cases hrg
        · rw [← hr]; exact hrg
      have hji : j = i := by
        by_cases hji : j = i
        · exact hji
        · rcases h.ap i j hi hj (Ne.symm hji) with e' | e'
          · rw [e'] at hui; cases hui
          · exact absurd (by rw [hui, e]; rfl) e'.2
      subst hji
      obtain ⟨g', cap', ex, _, _⟩ := own_form' hrow (by omega)
      have hgg : g' = g := by
        rcases hx with ⟨q, e1, e2⟩ | ⟨e1, _⟩
        · rw [hrg] at e1
          cases e1
          rw [ex] at e2
          injection e2
        · rw [e1] at hrg; cases hrg
      subst hgg
      rw [ex] at hrow
      have := own_nds hrow (by rw [tl_len])
      unfold tl at this
      exact this.pre'
    · exact hN.grown hg hrg
  · by_cases hai : a = i
    · subst hai
      rw [if_pos rfl, if_neg (Ne.symm hab)]
      refine Or.inr ⟨fun e => ?_, fun e => ?_⟩
      · cases hq : (u b).ownBlock with
        | none =>
          rw [hq] at e
          rcases hx with ⟨g, _, e2⟩ | ⟨_, g, e2, _⟩ <;> rw [e2] at e <;> cases e
        | some q =>
          rw [hq] at e
          refine hxne q (hul b hb q hq) (fun g hg' hqg => ?_) e
          rcases h.ap a b ha hb hab with e' | e'
          · rw [e'] at hg'; cases hg'
          · exact e'.1 (by rw [hg', hq, hqg])
      · cases hq : (v b).ownBlock with
        | none =>
          rw [hq] at e
          rcases hx with ⟨g, _, e2⟩ | ⟨_, g, e2, _⟩ <;> rw [e2] at e <;> cases e
        | some q =>
          rw [hq] at e
          refine hxne q (Nat.lt_of_lt_of_le (h.vlt b hb q hq) h.hH) (fun g hg' hqg => ?_) e
          rcases h.ap a b ha hb hab with e' | e'
          · rw [e'] at hg'; cases hg'
          · exact e'.2 (by rw [hg', hq, hqg])
    · rw [if_neg hai]
      by_cases hbi : b = i
      · subst hbi
        rw [if_pos rfl]
        rcases h.ap a b ha hb hab with e' | e'
        · exact Or.inl e'
        · refine Or.inr ⟨fun e => ?_, e'.2⟩
          cases hq : (u a).ownBlock with
          | none =>
            rw [hq] at e
            rcases hx with ⟨g, _, e2⟩ | ⟨_, g, e2, _⟩ <;> rw [e2] at e <;> cases e
          | some q =>
            rw [hq] at e
            refine hxne q (hul a ha q hq) (fun g hg' hqg => ?_) e.symm
            exact e'.1 (by rw [hg', hq, hqg])
      · rw [if_neg hbi]
        exact h.ap a b ha hb hab
  · by_cases hji : j = i
    · subst hji
      simp only [if_pos] at hg' ⊢
      rcases hx with ⟨q, e1, e2⟩ | ⟨_, q, e2, e3⟩
      · rw [e2] at hg'
        cases hg'
        rcases hr with hr | hr
        · rw [hr] at e1; cases e1
        · rw [e2, ← h.sam j hj _ (by rw [← hr, e1]) hgH, ← hr, e1]
      · rw [e2] at hg'
        cases hg'
        have := h.hH
        omega
    · simp only [if_neg hji] at hg' ⊢
      exact h.sam j hj g hg' hgH
  · rw [hg.block gL (lt_of_heap h.lst) (fun e => ?_)]
    · exact h.lst
    · rcases hr with hr | hr
      · rw [hr] at e; cases e
      · exact own_ne (h.row i hi) h.lst (by decide) (by rw [← hr, e])
  · rcases hr with hr | hr
    · rw [hr]; intro e; cases e
    · rw [hr]; exact h.off i hi hn
  · by_cases hji : j = i
    · subst hji
      simp only [if_pos]
      refine hxne gq (Nat.lt_of_lt_of_le (h.wlt hn) h.hH) (fun g hg' hqg => ?_)
      exact h.off j hj hn (by rw [hg', hqg])
    · simp only [if_neg hji]
      exact h.off j hj hn
  · rw [hmap]
    refine h.lng.kept hg ?_
    rcases hr with hr | hr
    · rw [hr]
      cases hq : lv.ownBlock with
      | none => exact Or.inl rfl
      | some q => exact Or.inr (fun e => by cases e)
    · rw [hr]
      exact ne_own h.lng (h.row i hi) (by decide)
theorem ne_none (x : Option Nat) : x = none ∨ x ≠ none := by
  cases x with
  | none => exact Or.inl rfl
  | some q => exact Or.inr (fun e => by cases e)
theorem Sq.al {w W : World} {gL H : Nat} {v : Nat → Value} {n : Nat → Nat} {re : List Nd} {lq : Option Addr} {gq cq : Nat} {lv : Value} {il : Nat} {u : Nat → Value} {m : Nat → Nat} (h : Sq w W gL H v n re lq gq cq lv il u m) (o : Obj) : Sq w (W.alloc o) gL H v n re lq gq cq lv il u m :=
  h.grown (World.grownBy_alloc W o none) (fun q e => by cases e) (fun j hj => ne_none _) (h.lng.alloc o)
theorem Sq.drew {w W : World} {gL H : Nat} {v : Nat → Value} {n : Nat → Nat} {re : List Nd} {lq : Option Addr} {gq cq : Nat} {lv : Value} {il : Nat} {u : Nat → Value} {m : Nat → Nat} (h : Sq w W gL H v n re lq gq cq lv il u m) : Sq w W.drew gL H v n re lq gq cq lv il u m :=
  h.grown (grown_drew W none) (fun q e => by cases e) (fun j hj => ne_none _) h.lng
/-- A finished row is put behind the others. -/
theorem Sq.next {w W W' : World} {gL H : Nat} {v : Nat → Value} {n : Nat → Nat} {re : List Nd} {lq : Option Addr} {gq cq : Nat} {lv lv' x : Value} {il : Nat} {u : Nat → Value} {m : Nat → Nat} (h : Sq w W gL H v n re lq gq cq lv il u m) (hg : W.grownBy W' lv.ownBlock) (ho : W'.ownsRow H 23 1 lv' (il + 1) ((List.range il).map u ++ [x])) (hx : u il = x) : Sq w W' gL H v n re lq gq cq lv' (il + 1) u m := by
  refine h.grown hg (fun q e => (h.lng.lt q e).1) (fun j hj => ne_own (h.row j hj) h.lng (by decide)) ?_
  rw [List.range_succ, List.map_append, List.map_cons, List.map_nil, hx]
  exact ho
theorem nc_apn (i : Nat) : nc (apn i) = [.int .i64 8, .int .u64 0, .int .u64 0, .int .u64 0, .int .u64 0, .int .i64 (5000 + (i : Int)), .int .i64 0] := by
  unfold apn
  rw [nc_pn, show ((5000 + i : Nat) : Int) = 5000 + (i : Int) by omega]
theorem nc_spn (i : Nat) : nc (spn i) = [.int .i64 9, .int .u64 0, .int .u64 0, .int .u64 0, .int .u64 0, .int .i64 (1000 + (i : Int)), .int .i64 0] := by
  unfold spn
  rw [nc_pn, show ((1000 + i : Nat) : Int) = 1000 + (i : Int) by omega]
theorem info23 : (Tryd.prog.info? 23).map (fun i => (i.zero, i.size, i.bytes)) = some (some (.slice none 0 0), 1, 24) := by kernel_rfl
end Go.Proofs.YtkjcnnecdclgfabDoor
