import Derived.Test.YtkjljnneghnpiaaNsf
import Derived.Test.YtkjljnneghnpiaaNyb
namespace Go.Proofs.Ytkjljnneghnpiaa
open Go.RowKit Go.Maps

theorem row_lt5 {W : World} {B : Nat} {e : TypeId} {z n : Nat} {v : Value} {xs : List Value} (h : W.ownsRow B e z v n xs) : ∀ g, v.ownBlock = some g → B ≤ g ∧ g < W.heap.size := fun g e => by
  obtain ⟨h1, cur, h2⟩ := row_tag h g e
  exact ⟨h1, lt_of_heap h2⟩
theorem cmp_two (re : List Rg.Nd) : ∀ l ∈ (cmp re).free, l.length ≤ 2 := by
  unfold cmp
  split
  · exact prt_two re _ _ _ _ (by simp)
  · intro l hl; cases hl
/-- A row of another kind stays. -/
theorem row_beside {W W' : World} {B B' s s' n n' m : Nat} {e e' : TypeId} {v v' u : Value} {xs xs' : List Value} (h : W.ownsRow B e s v n xs) (h' : W.ownsRow B' e' s' u n' xs') (hne : e ≠ e')
    (hd : (∃ g cap, u = .slice (some ⟨g, 0, none⟩) n' cap ∧ v' = .slice (some ⟨g, 0, none⟩) (n' + m) cap ∧ W.grownBy W' (some g)) ∨ (∃ g, v'.ownBlock = some g ∧ W.heap.size ≤ g ∧ W.grownBy W' none)) : W'.ownsRow B e s v n xs := by
  rcases hd with ⟨g, cap, rfl, _, hg⟩ | ⟨g, _, _, hg⟩
  · exact h.kept hg (tag_ne h h' hne)
  · refine h.kept hg ?_
    cases v.ownBlock with
    | none => exact .inl rfl
    | some r => exact .inr (by simp)
/-- An append to a row that may be written over. -/
theorem Gw.app {B0 B1 B size n m : Nat} {e : TypeId} {W W' : World} {v v' : Value} {xs ys : List Value} (h : W.ownsRow B e size v n xs) (hB : B0 ≤ B) (hlt : ∀ g, v.ownBlock = some g → g < B1) (he : e ≠ 23) (ho : W'.ownsRow B e size v' (n + m) ys)
    (hd : (∃ g cap, v = .slice (some ⟨g, 0, none⟩) n cap ∧ v' = .slice (some ⟨g, 0, none⟩) (n + m) cap ∧ W.grownBy W' (some g)) ∨ (∃ g, v'.ownBlock = some g ∧ W.heap.size ≤ g ∧ W.grownBy W' none)) : Gw B0 B1 W W' := by
  rcases hd with ⟨g, cap, rfl, rfl, hg⟩ | ⟨g, _, _, hg⟩
  · rcases h.2 with ⟨h1, _⟩ | ⟨g1, cap1, cur1, e1, e2, e3, _, _, e6, _⟩
    · cases h1
    · injection e1 with e1 _ e1'
      injection e1 with e1
      injection e1 with e1
      subst e1 e1'
      rcases ho.2 with ⟨h1, _⟩ | ⟨g2, cap2, cur2, f1, _, f3, _, _, f6, _⟩
      · cases h1
      · injection f1 with f1 _ f1'
        injection f1 with f1
        injection f1 with f1
        subst f1 f1'
        refine ⟨⟨hg.os, hg.tape, hg.output, hg.size, fun b hb hl => hg.block b hl (fun e => by injection e with e; have := hlt g rfl; omega)⟩, fun b cur tag hb => ?_⟩
        by_cases hbg : b = g
        · subst hbg
          rw [e3] at hb
          injection hb with hb
          injection hb with hb1 hb2
          subst hb1 hb2
          exact ⟨cur2, f3, by rw [e6, f6], fun e => absurd e he⟩
        · exact ⟨cur, (hg.block b (lt_of_heap hb) (fun e => by injection e with e; exact hbg e)).trans hb, rfl, fun _ => rfl⟩
  · refine ⟨⟨hg.os, hg.tape, hg.output, hg.size, fun b _ hl => hg.block b hl (fun e => by cases e)⟩, fun b cur tag hb => ⟨cur, (hg.block b (lt_of_heap hb) (fun e => by cases e)).trans hb, rfl, fun _ => rfl⟩⟩
theorem Gw.set4 {B0 B1 : Nat} {W : World} {g k tag : Nat} {cur : Array Value} (h : W.heap[g]? = some (.cells cur tag (0, 0))) (ht : tag ≠ 23) (h0 : B0 ≤ g) (h1 : g < B1) (x0 x1 x2 x3 : Value) : Gw B0 B1 W ((((W.setCell ⟨g, k, none⟩ x0).setCell ⟨g, k + 1, none⟩ x1).setCell ⟨g, k + 2, none⟩ x2).setCell ⟨g, k + 3, none⟩ x3) := by
  have b1 := blk_set (k := k) x0 h
  have b2 := blk_set (k := k + 1) x1 b1
  have b3 := blk_set (k := k + 2) x2 b2
  exact ((Gw.set h ht h0 h1 x0).trans (Gw.set b1 ht h0 h1 x1)).trans ((Gw.set b2 ht h0 h1 x2).trans (Gw.set b3 ht h0 h1 x3))
theorem cells_of {W : World} {g tag i : Nat} {cur : Array Value} (h : W.heap[g]? = some (.cells cur tag (0, 0))) (hi : i < cur.size) : ∃ v, W.cell? ⟨g, i, none⟩ = some v := by
  rw [Lib.cell_of_heap h]
  exact ⟨_, Array.getElem?_eq_getElem hi⟩
/-- A row of free steps that may be written over. -/
def Fl (B0 B1 : Nat) (W : World) (v : Value) (l : Nat) : Prop := (v = .slice none 0 0 ∧ l = 0) ∨ ∃ g cur, v = .slice (some ⟨g, 0, none⟩) l l ∧ B0 ≤ g ∧ g < B1 ∧ W.heap[g]? = some (.cells cur 3 (0, 0)) ∧ cur.size = l
theorem Fl.keep {B0 B1 : Nat} {W W' : World} {v : Value} {l : Nat} (h : Fl B0 B1 W v l) (t : Tw W W') : Fl B0 B1 W' v l := by
  rcases h with h | ⟨g, cur, e1, e2, e3, e4, e5⟩
  · exact .inl h
  · obtain ⟨cur', f1, f2, _⟩ := t g cur 3 e4
    exact .inr ⟨g, cur', e1, e2, e3, f1, by omega⟩
theorem Fl.form {B0 B1 : Nat} {W : World} {v : Value} {l : Nat} (h : Fl B0 B1 W v l) : ∃ af, v = .slice af l l := by
  rcases h with ⟨rfl, rfl⟩ | ⟨g, cur, e, _⟩
  · exact ⟨none, rfl⟩
  · exact ⟨_, e⟩
theorem Fl.at_ {B0 B1 : Nat} {W : World} {af : Option Addr} {l : Nat} (h : Fl B0 B1 W (.slice af l l) l) (hl : 0 < l) : ∃ g cur, af = some ⟨g, 0, none⟩ ∧ B0 ≤ g ∧ g < B1 ∧ W.heap[g]? = some (.cells cur 3 (0, 0)) ∧ cur.size = l := by
  rcases h with ⟨_, h0⟩ | ⟨g, cur, e, h1⟩
  · omega
  · injection e with e
    exact ⟨g, cur, e, h1⟩
theorem Fl.row {B0 B1 : Nat} {W : World} {v : Value} {l : Nat} (h : Fl B0 B1 W v l) (hl : l ≤ 1000) : ∃ xs, W.ownsRow B0 3 1 v l xs ∧ ∀ g, v.ownBlock = some g → g < B1 := by
  rcases h with ⟨rfl, rfl⟩ | ⟨g, cur, rfl, e2, e3, e4, e5⟩
  · exact ⟨[], World.ownsRow_nil _ _ _ _, fun g e => by cases e⟩
  · refine ⟨cur.toList, ⟨by simp [e5], .inr ⟨g, l, cur, rfl, e2, e4, Nat.le_refl _, by unfold maxLen; omega, by omega, ?_⟩⟩, fun g' e => ?_⟩
    · rw [List.take_of_length_le (by simp; omega)]
    · have e' : some g = some g' := e
      injection e' with e'; omega
theorem Mo.fl {B0 B1 B : Nat} {W : World} {vo vt vf : Value} {fvs : List Value} {N : Mc} (h : Mo B W vo vt vf fvs N) (hB : B0 ≤ B) (h1 : W.heap.size ≤ B1) : ∀ i, i < fvs.length → Fl B0 B1 W (fvs.getD i undef) (N.free.getD i []).length := fun i hi => by
  rcases h.el i hi with ⟨e1, e2⟩ | ⟨g, e1, e2, e3, _, e5⟩
  · exact .inl ⟨e1, by rw [e2]; rfl⟩
  · exact .inr ⟨g, _, e1, by omega, by have := lt_of_heap e5; omega, e5, by simp⟩
theorem mem_two {re : List Rg.Nd} (i : Nat) : ((cmp re).free.getD i []).length ≤ 2 := by
  rw [List.getD_eq_getElem?_getD]
  cases h : (cmp re).free[i]? with
  | none => simp
  | some l => exact cmp_two re l (List.mem_of_getElem? h)
set_option maxRecDepth 100000 in
set_option maxHeartbeats 4000000 in
theorem deeper_any {B k : Nat} {v : Value} {D : List Int} (m x : Int) (w : World) (hr : w.ownsRow B 3 1 v k (D.map (Value.int .i64))) (hD : D.length = k) (hk : k ≤ 10000000000000) :
    Calls Try.prog 29 #[.int .i64 m, v, .int .i64 x, .int .i64 (k : Int)] w fun e w' => (∃ y, e = .returned (.int .i64 y)) ∧ Below w.heap.size w w' := by
  by_cases hx : 0 ≤ x ∧ x < (k : Int)
  · obtain ⟨p, rfl⟩ : ∃ p : Nat, x = (p : Int) := ⟨x.toNat, by omega⟩
    have hp : p < k := by omega
    obtain ⟨g, cap, rfl, _⟩ := own_form' hr (by omega)
    have hc := hr.cellAt p (by omega)
    rw [List.getElem?_map, List.getElem?_eq_getElem (by omega)] at hc
    obtain ⟨y, hy⟩ : ∃ y, D[p]'(by omega) = y := ⟨_, rfl⟩
    rw [hy] at hc
    have hc' : w.cell? ⟨g, p, none⟩ = some (.int .i64 y) := by simpa using hc
    have hpI : (p : Int) < (k : Int) := by omega
    clear hc hr hy hx
    by_cases hgt : m < y
    · go_enter Try.func29, Try.ntmps29
      go_wp2_with fail
      go_ret
      exact ⟨⟨_, rfl⟩, Below.refl _ _⟩
    · go_enter Try.func29, Try.ntmps29
      go_wp2_with fail
      go_ret
      exact ⟨⟨_, rfl⟩, Below.refl _ _⟩
  · by_cases h0 : 0 ≤ x
    · have h1 : ¬ x < (k : Int) := fun h => hx ⟨h0, h⟩
      clear hx hr hD
      go_enter Try.func29, Try.ntmps29
      go_wp2_with fail
      go_ret
      exact ⟨⟨_, rfl⟩, Below.refl _ _⟩
    · clear hx hr hD
      go_enter Try.func29, Try.ntmps29
      go_wp2_with fail
      go_ret
      exact ⟨⟨_, rfl⟩, Below.refl _ _⟩

set_option maxRecDepth 100000 in
set_option maxHeartbeats 8000000 in
theorem beyond_any5 (re : List Rg.Nd) (lp : Option Addr) (g o cap : Nat) (w : World) (h : Rg.Lst w lp g o cap re) (hl : re.length ≤ 10000000000000) :
    Calls Try.prog 15 #[.slice lp re.length cap] w fun e w' => (∃ b, e = .returned (.bool b)) ∧ Below w.heap.size w w' := by
  obtain ⟨i3, hi3, hy0, hy1, hy2⟩ := info_parts info3
  have HI : Hid (Try.prog.info? 3 = some i3 ∧ i3.zero = some (.int .i64 0) ∧ i3.size = 1 ∧ i3.bytes = 8) := ⟨hi3, hy0, hy1, hy2⟩
  clear hi3 hy0 hy1 hy2
  obtain ⟨n, hn⟩ : ∃ n, re.length = n := ⟨_, rfl⟩
  have HN : Hid (re.length = n) := hn
  rw [hn] at hl ⊢
  have H : Hid (Rg.Lst w lp g o cap re) := h
  clear h hn
  go_enter Try.func15, Try.ntmps15
  go_wp2_with fail
  go_loopg [3, 4] n (fun gh v3 v4 wr => ∃ (k : Nat) (D : List Int), v4 = .int .i64 (k : Int) ∧ k ≤ n ∧ gh = n - k ∧ Hid (wr.ownsRow w.heap.size 3 1 v3 k (D.map (Value.int .i64)) ∧ D.length = k ∧ Below w.heap.size w wr))
  case atStart => exact ⟨0, [], rfl, Nat.zero_le _, rfl, ⟨World.ownsRow_nil _ _ _ _, rfl, Below.refl _ _⟩⟩
  case round =>
    obtain ⟨k, D, rfl, hk, hg, HR⟩ := hrel
    have HG : Hid (gk = n - k) := hg
    clear hg
    by_cases hkn : k < n
    · have HKK : Hid (k ≤ 10000000000000) := by show k ≤ _; omega
      have hne : re ≠ [] := by intro e; have := HN.out; rw [e] at this; simp at this; omega
      have e1 := H.out.ptr hne
      subst e1
      obtain ⟨p, nd, s, hre, hp, _⟩ := Rg.split_at re k (by rw [HN.out]; exact hkn)
      have a := ((H.out.up HR.out.2.2).at_).nd p nd s hre
      rw [hp] at a
      obtain ⟨op, m, x, y⟩ := nd
      obtain ⟨c0, c1, c2, c3, c4, c5, c6⟩ := a
      dsimp only at c0 c1 c2 c3 c4 c5 c6
      obtain ⟨av, cv, hv3⟩ : ∃ av cv, u3 = .slice av k cv := by
        rcases HR.out.1.2 with ⟨e, h0⟩ | ⟨g', cap', _, e, _⟩
        · exact ⟨none, 0, by rw [e, h0]⟩
        · exact ⟨_, cap', e⟩
      subst hv3
      clear hne hre hp
      by_cases hop : 3 ≤ op
      · rcases Nat.eq_zero_or_pos k with hk0 | hk0
        · have hkI : ¬ (0 : Int) < (k : Int) := by omega
          clear hk0
          go_wp2_with fail
          refine (deeper_any _ _ wr HR.out.1 HR.out.2.1 HKK.out).mono ?_
          rintro e W1 ⟨⟨y1, rfl⟩, hb1⟩
          have HB1 : Hid (Below wr.heap.size wr W1) := hb1
          have a5 := below_cell hb1 c5
          have a6 := below_cell hb1 c6
          clear hb1
          go_wp2_with fail
          refine (deeper_any _ _ W1 (row_same HR.out.1 (fun g _ hg => HB1.out.block g hg)) HR.out.2.1 HKK.out).mono ?_
          rintro e W2 ⟨⟨y2, rfl⟩, hb2⟩
          have HB2 : Hid (Below wr.heap.size wr W2) := below_trans HB1.out hb2
          have HRW : Hid (W2.ownsRow w.heap.size 3 1 (Value.slice av k cv) k (D.map (Value.int .i64))) := row_same HR.out.1 (fun g _ hg => HB2.out.block g hg)
          have HBW : Hid (Below w.heap.size w W2) := HR.out.2.2.trans (HB2.out.mono HR.out.2.2.size)
          clear hb2 a5 a6
          by_cases hbig : 65536 ≤ y2
          · go_wp2_with fail
            go_ret
            exact ⟨⟨_, rfl⟩, HBW.out⟩
          · have HAPP : Hid (∀ (z : Int) (v9 : Value) (w9 : World), w9.ownsRow w.heap.size 3 1 v9 (k + 1) (D.map (Value.int .i64) ++ [.int .i64 z]) → (W2.alloc (.cells #[.int .i64 z] 3)).grownBy w9 (Value.slice av k cv).ownBlock → Hid (w9.ownsRow w.heap.size 3 1 v9 (k + 1) ((D ++ [z]).map (Value.int .i64)) ∧ (D ++ [z]).length = k + 1 ∧ Below w.heap.size w w9)) := fun z v9 w9 h1 h2 => ⟨by rw [List.map_append]; exact h1, by have := HR.out.2.1; simp; omega, Below.grown (HBW.out.trans ((bel_up _ _).mono HBW.out.size)) h2 (by have := HBW.out.size; simp; omega) (fun r e => (row_tag HRW.out r e).1)⟩
            have O2 : Hid (∀ z : Int, (W2.alloc (.cells #[.int .i64 z] 3)).ownsRow w.heap.size 3 1 (Value.slice av k cv) k (D.map (Value.int .i64))) := fun z => World.ownsRow.alloc (w := W2) HRW.out _
            have LB : Hid (∀ z : Int, w.heap.size ≤ (W2.alloc (.cells #[.int .i64 z] 3)).heap.size) := fun z => by have := HBW.out.size; simp; omega
            go_wp2_with (at_builtin; refine wpList_append_own_at _ rfl _ _ 23 rfl w.heap.size 3 i3 (.int .i64 0) 1 8 Try.underlying23 HI.out.1 HI.out.2.1 HI.out.2.2.1 HI.out.2.2.2 rfl (by decide) _ _ _ rfl (O2.out _) ⟨W2.heap.size, 0, none⟩ 1 1 [.int .i64 _] rfl rfl (cell_one_new _ _ _) (by intro y hy; simp at hy; subst hy; rfl) (by unfold maxLen; have := HKK.out; omega) (by have := HKK.out; omega) (LB.out _) ?_; intro v9 w9 ho9 hg9 _ ha9; have HN9 := HAPP.out _ v9 w9 ho9 hg9; clear ho9 hg9 ha9)
            go_roundg (n - (k + 1))
            case measure => have := HG.out; omega
            case rel => exact ⟨k + 1, _, by first | rfl | (rw [w64 k (by have := HKK.out; omega)]), by omega, rfl, HN9⟩
        · have hkI : (0 : Int) < (k : Int) := by omega
          obtain ⟨g3, cap3, e3, _⟩ := own_form' HR.out.1 (by omega)
          injection e3 with e3 _ e3'
          subst e3 e3'
          have hc := HR.out.1.cellAt (k - 1) (by omega)
          rw [List.getElem?_map, List.getElem?_eq_getElem (by have := HR.out.2.1; omega)] at hc
          obtain ⟨y0, hy0⟩ : ∃ y, D[k - 1]'(by have := HR.out.2.1; omega) = y := ⟨_, rfl⟩
          rw [hy0] at hc
          have hc' : wr.cell? ⟨g3, k - 1, none⟩ = some (.int .i64 y0) := by simpa using hc
          clear hc hy0 hk0
          go_wp2_with fail
          refine (deeper_any _ _ wr HR.out.1 HR.out.2.1 HKK.out).mono ?_
          rintro e W1 ⟨⟨y1, rfl⟩, hb1⟩
          have HB1 : Hid (Below wr.heap.size wr W1) := hb1
          have a5 := below_cell hb1 c5
          have a6 := below_cell hb1 c6
          clear hb1
          go_wp2_with fail
          refine (deeper_any _ _ W1 (row_same HR.out.1 (fun g _ hg => HB1.out.block g hg)) HR.out.2.1 HKK.out).mono ?_
          rintro e W2 ⟨⟨y2, rfl⟩, hb2⟩
          have HB2 : Hid (Below wr.heap.size wr W2) := below_trans HB1.out hb2
          have HRW : Hid (W2.ownsRow w.heap.size 3 1 (Value.slice (some ⟨g3, 0, none⟩) k cv) k (D.map (Value.int .i64))) := row_same HR.out.1 (fun g _ hg => HB2.out.block g hg)
          have HBW : Hid (Below w.heap.size w W2) := HR.out.2.2.trans (HB2.out.mono HR.out.2.2.size)
          clear hb2 a5 a6
          by_cases hbig : 65536 ≤ y2
          · go_wp2_with fail
            go_ret
            exact ⟨⟨_, rfl⟩, HBW.out⟩
          · have HAPP : Hid (∀ (z : Int) (v9 : Value) (w9 : World), w9.ownsRow w.heap.size 3 1 v9 (k + 1) (D.map (Value.int .i64) ++ [.int .i64 z]) → (W2.alloc (.cells #[.int .i64 z] 3)).grownBy w9 (Value.slice (some ⟨g3, 0, none⟩) k cv).ownBlock → Hid (w9.ownsRow w.heap.size 3 1 v9 (k + 1) ((D ++ [z]).map (Value.int .i64)) ∧ (D ++ [z]).length = k + 1 ∧ Below w.heap.size w w9)) := fun z v9 w9 h1 h2 => ⟨by rw [List.map_append]; exact h1, by have := HR.out.2.1; simp; omega, Below.grown (HBW.out.trans ((bel_up _ _).mono HBW.out.size)) h2 (by have := HBW.out.size; simp; omega) (fun r e => (row_tag HRW.out r e).1)⟩
            have O2 : Hid (∀ z : Int, (W2.alloc (.cells #[.int .i64 z] 3)).ownsRow w.heap.size 3 1 (Value.slice (some ⟨g3, 0, none⟩) k cv) k (D.map (Value.int .i64))) := fun z => World.ownsRow.alloc (w := W2) HRW.out _
            have LB : Hid (∀ z : Int, w.heap.size ≤ (W2.alloc (.cells #[.int .i64 z] 3)).heap.size) := fun z => by have := HBW.out.size; simp; omega
            go_wp2_with (at_builtin; refine wpList_append_own_at _ rfl _ _ 23 rfl w.heap.size 3 i3 (.int .i64 0) 1 8 Try.underlying23 HI.out.1 HI.out.2.1 HI.out.2.2.1 HI.out.2.2.2 rfl (by decide) _ _ _ rfl (O2.out _) ⟨W2.heap.size, 0, none⟩ 1 1 [.int .i64 _] rfl rfl (cell_one_new _ _ _) (by intro y hy; simp at hy; subst hy; rfl) (by unfold maxLen; have := HKK.out; omega) (by have := HKK.out; omega) (LB.out _) ?_; intro v9 w9 ho9 hg9 _ ha9; have HN9 := HAPP.out _ v9 w9 ho9 hg9; clear ho9 hg9 ha9)
            go_roundg (n - (k + 1))
            case measure => have := HG.out; omega
            case rel => exact ⟨k + 1, _, by first | rfl | (rw [w64 k (by have := HKK.out; omega)]), by omega, rfl, HN9⟩
      · have hopF : decide (3 ≤ op) = false := decide_eq_false hop
        go_wp2_with fail
        refine (deeper_any _ _ wr HR.out.1 HR.out.2.1 HKK.out).mono ?_
        rintro e W1 ⟨⟨y1, rfl⟩, hb1⟩
        have HB1 : Hid (Below wr.heap.size wr W1) := hb1
        have a5 := below_cell hb1 c5
        have a6 := below_cell hb1 c6
        clear hb1
        go_wp2_with fail
        refine (deeper_any _ _ W1 (row_same HR.out.1 (fun g _ hg => HB1.out.block g hg)) HR.out.2.1 HKK.out).mono ?_
        rintro e W2 ⟨⟨y2, rfl⟩, hb2⟩
        have HB2 : Hid (Below wr.heap.size wr W2) := below_trans HB1.out hb2
        have HRW : Hid (W2.ownsRow w.heap.size 3 1 (Value.slice av k cv) k (D.map (Value.int .i64))) := row_same HR.out.1 (fun g _ hg => HB2.out.block g hg)
        have HBW : Hid (Below w.heap.size w W2) := HR.out.2.2.trans (HB2.out.mono HR.out.2.2.size)
        clear hb2 a5 a6
        by_cases hbig : 65536 ≤ y2
        · go_wp2_with fail
          go_ret
          exact ⟨⟨_, rfl⟩, HBW.out⟩
        · have HAPP : Hid (∀ (z : Int) (v9 : Value) (w9 : World), w9.ownsRow w.heap.size 3 1 v9 (k + 1) (D.map (Value.int .i64) ++ [.int .i64 z]) → (W2.alloc (.cells #[.int .i64 z] 3)).grownBy w9 (Value.slice av k cv).ownBlock → Hid (w9.ownsRow w.heap.size 3 1 v9 (k + 1) ((D ++ [z]).map (Value.int .i64)) ∧ (D ++ [z]).length = k + 1 ∧ Below w.heap.size w w9)) := fun z v9 w9 h1 h2 => ⟨by rw [List.map_append]; exact h1, by have := HR.out.2.1; simp; omega, Below.grown (HBW.out.trans ((bel_up _ _).mono HBW.out.size)) h2 (by have := HBW.out.size; simp; omega) (fun r e => (row_tag HRW.out r e).1)⟩
          have O2 : Hid (∀ z : Int, (W2.alloc (.cells #[.int .i64 z] 3)).ownsRow w.heap.size 3 1 (Value.slice av k cv) k (D.map (Value.int .i64))) := fun z => World.ownsRow.alloc (w := W2) HRW.out _
          have LB : Hid (∀ z : Int, w.heap.size ≤ (W2.alloc (.cells #[.int .i64 z] 3)).heap.size) := fun z => by have := HBW.out.size; simp; omega
          go_wp2_with (at_builtin; refine wpList_append_own_at _ rfl _ _ 23 rfl w.heap.size 3 i3 (.int .i64 0) 1 8 Try.underlying23 HI.out.1 HI.out.2.1 HI.out.2.2.1 HI.out.2.2.2 rfl (by decide) _ _ _ rfl (O2.out _) ⟨W2.heap.size, 0, none⟩ 1 1 [.int .i64 _] rfl rfl (cell_one_new _ _ _) (by intro y hy; simp at hy; subst hy; rfl) (by unfold maxLen; have := HKK.out; omega) (by have := HKK.out; omega) (LB.out _) ?_; intro v9 w9 ho9 hg9 _ ha9; have HN9 := HAPP.out _ v9 w9 ho9 hg9; clear ho9 hg9 ha9)
          go_roundg (n - (k + 1))
          case measure => have := HG.out; omega
          case rel => exact ⟨k + 1, _, by first | rfl | (rw [w64 k (by have := HKK.out; omega)]), by omega, rfl, HN9⟩
    · go_wp2_with fail
      go_ret
      exact ⟨⟨_, rfl⟩, HR.out.2.2⟩
end Go.Proofs.Ytkjljnneghnpiaa
namespace Go.Proofs.Ytkjljnneghnpiaa
open Go.RowKit Go.Maps

theorem cell_eight_new (w : World) (a b c d e f g h : Value) (t : TypeId) : ∀ (j : Nat) (u : Value), [a, b, c, d, e, f, g, h][j]? = some u → (w.alloc (.cells #[a, b, c, d, e, f, g, h] t)).cell? ((⟨w.heap.size, 0, none⟩ : Addr).add j) = some u := by
  intro j u hu
  rw [Rg.addPlain, Nat.zero_add]
  rw [World.cell?_alloc_at _ _ _ _ rfl]
  rw [← hu]
  exact List.getElem?_toArray
theorem cell_three_new (w : World) (a b c : Value) (t : TypeId) : ∀ (j : Nat) (u : Value), [a, b, c][j]? = some u → (w.alloc (.cells #[a, b, c] t)).cell? ((⟨w.heap.size, 0, none⟩ : Addr).add j) = some u := by
  intro j u hu
  rw [Rg.addPlain, Nat.zero_add]
  rw [World.cell?_alloc_at _ _ _ _ rfl]
  rw [← hu]
  exact List.getElem?_toArray

set_option maxRecDepth 100000 in
set_option maxHeartbeats 16000000 in
theorem nfaSmall_any (re : List Rg.Nd) (t : ByteArray) (lp : Option Addr) (g o cap : Nat) (w : World) (h : Rg.Lst w lp g o cap re) (hl : re.length * 56 ≤ 140737488355328) (ht : t.size ≤ 140737488355328) :
    Calls Try.prog 6 #[.slice lp re.length cap, .string t] w fun e w' => e = .returned (.bool true) ∧ Below w.heap.size w w' := by
  obtain ⟨i3, hi3, hy0, hy1, hy2⟩ := info_parts info3
  have HI3 : Hid (Try.prog.info? 3 = some i3 ∧ i3.zero = some (.int .i64 0) ∧ i3.size = 1 ∧ i3.bytes = 8) := ⟨hi3, hy0, hy1, hy2⟩
  clear hi3 hy0 hy1 hy2
  obtain ⟨i40, hi3, hy0, hy1, hy2⟩ := info_parts info40
  have HI40 : Hid (Try.prog.info? 40 = some i40 ∧ i40.zero = some (.agg #[.int .u64 0, .int .u64 0, .int .u64 0, .int .u64 0]) ∧ i40.size = 4 ∧ i40.bytes = 32) := ⟨hi3, hy0, hy1, hy2⟩
  clear hi3 hy0 hy1 hy2
  have FR := fun (W : World) (hW : Below w.heap.size w W) => fresh_any re t lp g o cap W (h.up hW) hl ht
  have BY := fun (W : World) (hW : Below w.heap.size w W) => beyond_any5 re lp g o cap W (h.up hW) (by omega)
  have CO := fun (W : World) (hW : Below w.heap.size w W) => compile_any re lp g o cap W (h.up hW) hl
  obtain ⟨N, hN⟩ : ∃ N, cmp re = N := ⟨_, rfl⟩
  have HSM : Hid (Small N) := by rw [← hN]; exact cmp_small re
  have HTW : Hid (∀ i, (N.free.getD i []).length ≤ 2) := fun i => by rw [← hN]; exact mem_two i
  have hlen := (cmp_len re).1
  have hlen2 := (cmp_len re).2
  rw [hN] at hlen hlen2
  simp only [hN] at CO
  obtain ⟨n, hn⟩ : ∃ n, re.length = n := ⟨_, rfl⟩
  rw [hn] at hl hlen ⊢
  simp only [hn] at FR BY CO
  have HFR : Hid (∀ (W : World), Below w.heap.size w W → Calls Try.prog 18 #[.slice lp n cap, .string t] W fun e w' => e = .returned (.bool true) ∧ Below W.heap.size W w') := FR
  have HBY : Hid (∀ (W : World), Below w.heap.size w W → Calls Try.prog 15 #[.slice lp n cap] W fun e w' => (∃ b, e = .returned (.bool b)) ∧ Below W.heap.size W w') := BY
  have HCO : Hid (∀ (W : World), Below w.heap.size w W → Calls Try.prog 16 #[.slice lp n cap] W fun e w' => ∃ fvs vo vt vf, e = .returned (nfV vo vt vf N) ∧ Mo W.heap.size w' vo vt vf fvs N ∧ Below W.heap.size W w') := CO
  have HT : Hid (t.size ≤ 140737488355328) := ht
  have HLN : Hid (N.on.length ≤ 2 * n ∧ n ≤ 10000000000000 ∧ N.on.length ≤ 129) := ⟨hlen, by omega, hlen2⟩
  have HL2 : Hid (N.tos.length ≤ 1048576) := HSM.out.tos
  clear FR BY CO h hn hN ht hlen hlen2 hl
  go_enter Try.func6, Try.ntmps6
  go_wp2_with fail
  refine (started_any w).mono ?_
  rintro e w1 ⟨rfl, hb1⟩
  have H1 : Hid (Below w.heap.size w w1) := hb1
  clear hb1
  go_wp2_with fail
  refine (HBY.out w1 H1.out).mono ?_
  rintro e w1b ⟨⟨b, rfl⟩, hb1⟩
  have H1b : Hid (Below w.heap.size w w1b) := below_trans H1.out hb1
  clear hb1
  cases b
  rotate_left
  · go_wp2_with fail
    go_ret
    exact ⟨rfl, H1b.out⟩
  go_wp2_with fail
  refine Calls.mono (HCO.out w1b H1b.out) ?_
  rintro e w2 ⟨fvs, vo, vt, vf, rfl, mo, hb2⟩
  obtain ⟨a1, c1, a2, c2, a3, c3, rfl, rfl, rfl⟩ := mo.parts.shape
  have MO : Hid (Mo w1b.heap.size w2 (.slice a1 N.on.length c1) (.slice a2 N.tos.length c2) (.slice a3 N.free.length c3) fvs N) := mo
  have HB2 : Hid (Below w1b.heap.size w1b w2) := hb2
  clear mo hb2
  go_upto_region 6 with fail
  obtain ⟨W3, hW3⟩ : ∃ W3, W3 = w2.alloc (.cells #[.slice a1 N.on.length c1, .slice a2 N.tos.length c2, .slice a3 N.free.length c3, .int .i64 N.start, .int .i64 N.fin] 26) := ⟨_, rfl⟩
  obtain ⟨B1, hB1⟩ : ∃ B1, w2.heap.size = B1 := ⟨_, rfl⟩
  obtain ⟨B0, hB0⟩ : ∃ B0, w1b.heap.size = B0 := ⟨_, rfl⟩
  have HB0 : Hid (w.heap.size ≤ B0 ∧ B0 ≤ B1) := by rw [← hB0, ← hB1]; exact ⟨H1b.out.size, HB2.out.size⟩
  have YN3 : Hid (W3.heap[B1]? = some (.cells #[.slice a1 N.on.length c1, .slice a2 N.tos.length c2, .slice a3 N.free.length c3, .int .i64 N.start, .int .i64 N.fin] 26 (0, 0))) := by rw [hW3, ← hB1]; exact World.alloc_heap_new w2 _
  have U3 : Hid (Below w2.heap.size w2 W3) := by rw [hW3]; exact bel_up _ _
  have H3 : Hid (Below w.heap.size w W3) := H1b.out.trans ((below_trans HB2.out U3.out).mono H1b.out.size)
  have Z3 : Hid (W3.heap.size = B1 + 1) := by rw [hW3, ← hB1]; simp [Hid]
  have MO3 : Hid (Mo B0 W3 (.slice a1 N.on.length c1) (.slice a2 N.tos.length c2) (.slice a3 N.free.length c3) fvs N) := by rw [← hB0]; exact MO.out.same (fun b _ hb => U3.out.block b hb)
  have FL2 : Hid (∀ i, i < fvs.length → Fl B0 B1 W3 (fvs.getD i undef) (N.free.getD i []).length) := fun i hi => (MO.out.fl (B0 := B0) (B1 := B1) (by omega) (by omega) i hi).keep (Tw.bel U3.out)
  have WN3 : Hid (Wn B0 B1 W3 (.slice a1 N.on.length c1) (.slice a2 N.tos.length c2) (.slice a3 N.free.length c3) fvs N.on.length N.tos.length) := (MO.out.wn (B0 := B0) (B1 := B1) (by omega) (by omega)).keep (Tw.bel U3.out)
  have OWN3 : Hid ((∀ g, (Value.slice a1 N.on.length c1).ownBlock = some g → g < B1) ∧ ∀ g, (Value.slice a2 N.tos.length c2).ownBlock = some g → g < B1) := ⟨fun g e => by rw [← hB1]; exact (row_lt5 MO.out.on g e).2, fun g e => by rw [← hB1]; exact (row_lt5 MO.out.tos g e).2⟩
  rw [hB1, ← hW3]
  clear hW3 hB1 hB0 U3 MO HB2
  go_wp2_with fail
  refine Calls.mono (HCO.out W3 H3.out) ?_
  rintro e w4 ⟨fvs4, vo, vt, vf, rfl, mo, hb4⟩
  obtain ⟨b1, d1, b2, d2, b3, d3, rfl, rfl, rfl⟩ := mo.parts.shape
  have MM4 : Hid (Hold (fun b => b < B0 ∨ B1 ≤ b) w4 (.slice b1 N.on.length d1) (.slice b2 N.tos.length d2) (.slice b3 N.free.length d3) N) := mo.hold (fun b hb => .inr (by have := Z3.out; omega))
  have HB4 : Hid (Below W3.heap.size W3 w4) := hb4
  clear mo hb4
  go_upto_region 7 with fail
  obtain ⟨W5, hW5⟩ : ∃ W5, W5 = w4.alloc (.cells #[.slice b1 N.on.length d1, .slice b2 N.tos.length d2, .slice b3 N.free.length d3, .int .i64 N.start, .int .i64 N.fin] 26) := ⟨_, rfl⟩
  obtain ⟨mb, hmb⟩ : ∃ mb, w4.heap.size = mb := ⟨_, rfl⟩
  have HMB : Hid (B1 ≤ mb) := by rw [← hmb]; have := HB4.out.size; have := Z3.out; show _ ≤ _; omega
  have U5 : Hid (Below w4.heap.size w4 W5) := by rw [hW5]; exact bel_up _ _
  have YM5 : Hid (W5.heap[mb]? = some (.cells #[.slice b1 N.on.length d1, .slice b2 N.tos.length d2, .slice b3 N.free.length d3, .int .i64 N.start, .int .i64 N.fin] 26 (0, 0))) := by rw [hW5, ← hmb]; exact World.alloc_heap_new w4 _
  have MM5 : Hid (Hold (fun b => b < B0 ∨ B1 ≤ b) W5 (.slice b1 N.on.length d1) (.slice b2 N.tos.length d2) (.slice b3 N.free.length d3) N) := MM4.out.keep (Ks.bel U5.out)
  have G5 : Hid (Below W3.heap.size W3 W5) := below_trans HB4.out U5.out
  rw [hmb, ← hW5]
  clear hW5 hmb U5 MM4 HB4
  have YN5 : Hid (W5.heap[B1]? = some (.cells #[.slice a1 N.on.length c1, .slice a2 N.tos.length c2, .slice a3 N.free.length c3, .int .i64 N.start, .int .i64 N.fin] 26 (0, 0))) := (G5.out.block _ (lt_of_heap YN3.out)).trans YN3.out
  obtain ⟨x0, x1, x2, x3, x4⟩ := box5 YN5.out
  obtain ⟨y0, y1, y2, y3, y4⟩ := box5 YM5.out
  have hcmp : ¬ (2 * (n : Int) < (N.on.length : Int)) := by have := HLN.out.1; omega
  have hwr2 : wrap64 (2 * (n : Int)) = 2 * (n : Int) := by have := HLN.out.2.1; unfold wrap64; omega
  have hn6 : n ≤ 10000000000000 := HLN.out.2.1
  go_wp2_with fail
  refine (accepts_any HSM.out t HT.out W5 MM5.out.parts).mono ?_
  rintro e W6 ⟨⟨dw, rfl, hdw⟩, hb6⟩
  have HDW : Hid (dw = true ↔ N.Tk (bts t)) := hdw
  have G6 : Hid (Below W3.heap.size W3 W6) := below_trans G5.out hb6
  have MM6 : Hid (Hold (fun b => b < B0 ∨ B1 ≤ b) W6 (.slice b1 N.on.length d1) (.slice b2 N.tos.length d2) (.slice b3 N.free.length d3) N) := MM5.out.keep (Ks.bel hb6)
  have YM6 : Hid (W6.heap[mb]? = some (.cells #[.slice b1 N.on.length d1, .slice b2 N.tos.length d2, .slice b3 N.free.length d3, .int .i64 N.start, .int .i64 N.fin] 26 (0, 0))) := (hb6.block _ (lt_of_heap YM5.out)).trans YM5.out
  clear hdw hb6 x0 x1 x2 x3 x4 y0 y1 y2 y3 y4 hcmp hwr2 hn6 G5 MM5 YM5 YN5
  obtain ⟨y0, y1, y2, y3, y4⟩ := box5 YM6.out
  go_wp2_with fail
  refine (twin_any HSM.out W6 MM6.out.parts).mono ?_
  rintro e W7 ⟨fvs7, xo, xt, xf, rfl, tr, hb7⟩
  obtain ⟨e1, f1, e2, f2, e3, f3, rfl, rfl, rfl⟩ := tr.parts.shape
  have KK7 : Hid (Hold (fun b => b < B0 ∨ B1 ≤ b) W7 (.slice e1 N.on.length f1) (.slice e2 N.tos.length f2) (.slice e3 N.free.length f3) N) := tr.hold (fun b hb => .inr (by have := G6.out.size; have := Z3.out; omega))
  have G7 : Hid (Below W6.heap.size W6 W7) := hb7
  clear tr hb7 y0 y1 y2 y3 y4
  go_upto_region 11 with fail
  obtain ⟨W8, hW8⟩ : ∃ W8, W8 = W7.alloc (.cells #[.slice e1 N.on.length f1, .slice e2 N.tos.length f2, .slice e3 N.free.length f3, .int .i64 N.start, .int .i64 N.fin] 26) := ⟨_, rfl⟩
  obtain ⟨kb, hkb⟩ : ∃ kb, W7.heap.size = kb := ⟨_, rfl⟩
  have U8 : Hid (Below W7.heap.size W7 W8) := by rw [hW8]; exact bel_up _ _
  have G8 : Hid (Below W3.heap.size W3 W8) := below_trans (below_trans G6.out G7.out) U8.out
  have YK8 : Hid (W8.heap[kb]? = some (.cells #[.slice e1 N.on.length f1, .slice e2 N.tos.length f2, .slice e3 N.free.length f3, .int .i64 N.start, .int .i64 N.fin] 26 (0, 0))) := by rw [hW8, ← hkb]; exact World.alloc_heap_new W7 _
  have YM8 : Hid (W8.heap[mb]? = some (.cells #[.slice b1 N.on.length d1, .slice b2 N.tos.length d2, .slice b3 N.free.length d3, .int .i64 N.start, .int .i64 N.fin] 26 (0, 0))) := ((below_trans G7.out U8.out).block _ (lt_of_heap YM6.out)).trans YM6.out
  have YN8 : Hid (W8.heap[B1]? = some (.cells #[.slice a1 N.on.length c1, .slice a2 N.tos.length c2, .slice a3 N.free.length c3, .int .i64 N.start, .int .i64 N.fin] 26 (0, 0))) := (G8.out.block _ (lt_of_heap YN3.out)).trans YN3.out
  have HKB : Hid (B1 ≤ kb) := by rw [← hkb]; have := G6.out.size; have := G7.out.size; have := Z3.out; show _ ≤ _; omega
  have MM8 : Hid (Hold (fun b => b < B0 ∨ B1 ≤ b) W8 (.slice b1 N.on.length d1) (.slice b2 N.tos.length d2) (.slice b3 N.free.length d3) N) := MM6.out.keep (Ks.bel (below_trans G7.out U8.out))
  have KK8 : Hid (Hold (fun b => b < B0 ∨ B1 ≤ b) W8 (.slice e1 N.on.length f1) (.slice e2 N.tos.length f2) (.slice e3 N.free.length f3) N) := KK7.out.keep (Ks.bel U8.out)
  have MN8 : Hid (Mo B0 W8 (.slice a1 N.on.length c1) (.slice a2 N.tos.length c2) (.slice a3 N.free.length c3) fvs N) := MO3.out.same (fun b _ hb => G8.out.block b hb)
  have WN8 : Hid (Wn B0 B1 W8 (.slice a1 N.on.length c1) (.slice a2 N.tos.length c2) (.slice a3 N.free.length c3) fvs N.on.length N.tos.length) := WN3.out.keep (Tw.bel G8.out)
  have FL8 : Hid (∀ i, i < fvs.length → Fl B0 B1 W8 (fvs.getD i undef) (N.free.getD i []).length) := fun i hi => (FL2.out i hi).keep (Tw.bel G8.out)
  have H8 : Hid (Below w.heap.size w W8) := H3.out.trans (G8.out.mono H3.out.size)
  have Z8 : Hid (B1 + 1 ≤ W8.heap.size) := by have := G8.out.size; have := Z3.out; show _ ≤ _; omega
  rw [hkb, ← hW8]
  clear hW8 hkb U8 G7 G6 MM6 YM6 KK7 MO3 WN3 FL2 YN3
  obtain ⟨x0, x1, x2, x3, x4⟩ := box5 YN8.out
  -- long
  have O2 : Hid ((W8.alloc (.cells #[.int .u64 0, .int .u64 0, .int .u64 0, .int .u64 0, .int .u64 1, .int .u64 1, .int .u64 1, .int .u64 1] 40)).ownsRow B0 40 4 (.slice a1 N.on.length c1) N.on.length (onC N.on)) := World.ownsRow.alloc (w := W8) MN8.out.on _
  have LB : Hid (B0 ≤ (W8.alloc (.cells #[.int .u64 0, .int .u64 0, .int .u64 0, .int .u64 0, .int .u64 1, .int .u64 1, .int .u64 1, .int .u64 1] 40)).heap.size) := by have := Z8.out; have := HB0.out; show _ ≤ _; simp; omega
  have hl129 : N.on.length ≤ 129 := HLN.out.2.2
  go_upto_region 12 with (at_builtin; refine wpList_append_two _ rfl _ _ 22 rfl B0 40 i40 _ 4 32 Try.underlying22 HI40.out.1 HI40.out.2.1 HI40.out.2.2.1 HI40.out.2.2.2 rfl (by decide) _ _ _ rfl O2.out ⟨W8.heap.size, 0, none⟩ 2 2 [.int .u64 0, .int .u64 0, .int .u64 0, .int .u64 0, .int .u64 1, .int .u64 1, .int .u64 1, .int .u64 1] rfl (by decide) rfl (cell_eight_new _ _ _ _ _ _ _ _ _ _) (by intro y hy; simp at hy; rcases hy with rfl | rfl <;> rfl) (by unfold maxLen; omega) (by omega) LB.out ?_; intro v9 w9 ho9 hg9; have GW9 : Hid (Gw B0 B1 W8 w9) := (Gw.bel (bel_up _ _)).trans (Gw.app O2.out (Nat.le_refl _) OWN3.out.1 (by decide) ho9 hg9); have MT9 : Hid (w9.ownsRow B0 3 1 (.slice a2 N.tos.length c2) N.tos.length (N.tos.map (Value.int .i64))) := row_beside (World.ownsRow.alloc (w := W8) MN8.out.tos _) O2.out (by decide) hg9; obtain ⟨gl, cl, rfl, _⟩ := own_form' ho9 (by omega); clear ho9 hg9)
  have YN9 : Hid (w9.heap[B1]? = some (.cells #[.slice a1 N.on.length c1, .slice a2 N.tos.length c2, .slice a3 N.free.length c3, .int .i64 N.start, .int .i64 N.fin] 26 (0, 0))) := (GW9.out.ks.block B1 (.inr (Nat.le_refl _)) (lt_of_heap YN8.out)).trans YN8.out
  clear x0 x1 x2 x3 x4 O2 LB
  obtain ⟨x0, x1, x2, x3, x4⟩ := box5 YN9.out
  have O3 : Hid ((w9.alloc (.cells #[.int .i64 0, .int .i64 1, .int .i64 2] 3)).ownsRow B0 3 1 (.slice a2 N.tos.length c2) N.tos.length (N.tos.map (Value.int .i64))) := World.ownsRow.alloc (w := w9) MT9.out _
  have LB : Hid (B0 ≤ (w9.alloc (.cells #[.int .i64 0, .int .i64 1, .int .i64 2] 3)).heap.size) := by have := Z8.out; have := HB0.out; have := GW9.out.ks.size; show _ ≤ _; simp; omega
  have hl2 : N.tos.length ≤ 1048576 := HL2.out
  go_upto_region 13 with (at_builtin; refine wpList_append_two _ rfl _ _ 23 rfl B0 3 i3 (.int .i64 0) 1 8 Try.underlying23 HI3.out.1 HI3.out.2.1 HI3.out.2.2.1 HI3.out.2.2.2 rfl (by decide) _ _ _ rfl O3.out ⟨w9.heap.size, 0, none⟩ 3 3 [.int .i64 0, .int .i64 1, .int .i64 2] rfl (by decide) rfl (cell_three_new _ _ _ _ _) (by intro y hy; simp at hy; rcases hy with rfl | rfl | rfl <;> rfl) (by unfold maxLen; omega) (by omega) LB.out ?_; intro v10 w10 ho9 hg9; have GW10 : Hid (Gw B0 B1 W8 w10) := GW9.out.trans ((Gw.bel (bel_up _ _)).trans (Gw.app O3.out (Nat.le_refl _) OWN3.out.2 (by decide) ho9 hg9)); obtain ⟨gm, cm, rfl, _⟩ := own_form' ho9 (by omega); clear ho9 hg9)
  clear x0 x1 x2 x3 x4 O3 LB MT9 YN9 GW9 hl2 hl129
  have YNG : Hid (∀ W, Gw B0 B1 W8 W → W.heap[B1]? = some (.cells #[.slice a1 N.on.length c1, .slice a2 N.tos.length c2, .slice a3 N.free.length c3, .int .i64 N.start, .int .i64 N.fin] 26 (0, 0))) := fun W hW => (hW.ks.block B1 (.inr (Nat.le_refl _)) (lt_of_heap YN8.out)).trans YN8.out
  go_wp2_with fail
  go_loopg [11] N.on.length (fun gh v11 wr => ∃ k : Nat, v11 = .int .i64 (k : Int) ∧ k ≤ N.on.length ∧ gh = N.on.length - k ∧ Hid (Gw B0 B1 W8 wr))
  case atStart => exact ⟨0, rfl, Nat.zero_le _, rfl, GW10⟩
  case round =>
    obtain ⟨k, rfl, hk, hg, HG⟩ := hrel
    have HGM : Hid (gk = N.on.length - k) := hg
    clear hg
    obtain ⟨x0, x1, x2, x3, x4⟩ := box5 (YNG.out wr HG.out)
    by_cases hkn : k < N.on.length
    · have hkI : (k : Int) < (N.on.length : Int) := by omega
      obtain ⟨a', c', e', h0 | ⟨ga, cur, ea, q1, q2, q3, q4⟩⟩ := (WN8.out.keep HG.out.tw).on
      · omega
      injection e' with e' en ec
      clear en ec
      rw [← e'] at ea
      rw [ea] at x0
      obtain ⟨z0, hz0⟩ := cells_of (i := k * 4) q3 (by omega)
      obtain ⟨z1, hz1⟩ := cells_of (i := k * 4 + 1) q3 (by omega)
      obtain ⟨z2, hz2⟩ := cells_of (i := k * 4 + 2) q3 (by omega)
      obtain ⟨z3, hz3⟩ := cells_of (i := k * 4 + 3) q3 (by omega)
      have zf := fun o => Lib.frozen_of_heap q3 o
      have GN : Hid _ := HG.out.trans (Gw.set4 (k := k * 4) q3 (by decide) q1 q2 (.int .u64 7) (.int .u64 7) (.int .u64 7) (.int .u64 7))
      have HK : Hid (k < 3000000) := by have := HLN.out.2.2; show k < _; omega
      clear e' ea q1 q2 q3 q4
      go_wp2_with fail
      go_roundg (N.on.length - (k + 1))
      case measure => have := HGM.out; omega
      case rel => exact ⟨k + 1, by first | rfl | (rw [w64 k (by have := HK.out; omega)]), by omega, rfl, GN⟩
    · have hkI : ¬ (k : Int) < (N.on.length : Int) := by omega
      obtain ⟨W11, rfl⟩ : ∃ W11, W11 = wr := ⟨_, rfl⟩
      have GW11 : Hid (Gw B0 B1 W8 W11) := HG
      clear HG HGM hk hkn
      go_wp2_with fail
      clear x0 x1 x2 x3 x4 hkI
      go_loopg [12] N.tos.length (fun gh v12 wr => ∃ k : Nat, v12 = .int .i64 (k : Int) ∧ k ≤ N.tos.length ∧ gh = N.tos.length - k ∧ Hid (Gw B0 B1 W8 wr))
      case atStart => exact ⟨0, rfl, Nat.zero_le _, rfl, GW11⟩
      case round =>
        obtain ⟨k, rfl, hk, hg, HG⟩ := hrel
        have HGM : Hid (gk = N.tos.length - k) := hg
        clear hg
        obtain ⟨x0, x1, x2, x3, x4⟩ := box5 (YNG.out wr HG.out)
        by_cases hkn : k < N.tos.length
        · have hkI : (k : Int) < (N.tos.length : Int) := by omega
          obtain ⟨a', c', e', h0 | ⟨ga, cur, ea, q1, q2, q3, q4⟩⟩ := (WN8.out.keep HG.out.tw).tos
          · omega
          injection e' with e' en ec
          clear en ec
          rw [← e'] at ea
          rw [ea] at x1
          obtain ⟨z0, hz0⟩ := cells_of (i := k) q3 (by omega)
          have zf := fun o => Lib.frozen_of_heap q3 o
          have GN : Hid _ := HG.out.trans (Gw.set (k := k) q3 (by decide) q1 q2 (.int .i64 0))
          have HK : Hid (k < 3000000) := by have := HL2.out; show k < _; omega
          clear e' ea q1 q2 q3 q4
          go_wp2_with fail
          go_roundg (N.tos.length - (k + 1))
          case measure => have := HGM.out; omega
          case rel => exact ⟨k + 1, by first | rfl | (rw [w64 k (by have := HK.out; omega)]), by omega, rfl, GN⟩
        · have hkI : ¬ (k : Int) < (N.tos.length : Int) := by omega
          obtain ⟨W12, rfl⟩ : ∃ W12, W12 = wr := ⟨_, rfl⟩
          have GW12 : Hid (Gw B0 B1 W8 W12) := HG
          clear HG HGM hk hkn
          go_wp2_with fail
          clear x0 x1 x2 x3 x4 hkI
          have HLF : Hid (fvs.length = N.free.length ∧ N.free.length ≤ 1048576) := ⟨MN8.out.len, HSM.out.fr⟩
          go_loopg [13] N.free.length (fun gh v13 wr => ∃ k : Nat, v13 = .int .i64 (k : Int) ∧ k ≤ N.free.length ∧ gh = N.free.length - k ∧ Hid (Gw B0 B1 W8 wr))
          case atStart => exact ⟨0, rfl, Nat.zero_le _, rfl, GW12⟩
          case round =>
            obtain ⟨k, rfl, hk, hg, HG⟩ := hrel
            have HGM : Hid (gk = N.free.length - k) := hg
            clear hg
            obtain ⟨x0, x1, x2, x3, x4⟩ := box5 (YNG.out wr HG.out)
            by_cases hkn : k < N.free.length
            · have hkI : (k : Int) < (N.free.length : Int) := by omega
              have HKN : Hid (k < fvs.length) := by have := HLF.out.1; show k < _; omega
              have FRG : Hid (∃ gf, a3 = some ⟨gf, 0, none⟩ ∧ ∀ W, Gw B0 B1 W8 W → W.cell? ⟨gf, k, none⟩ = some (fvs.getD k undef)) := by
                obtain ⟨a', c', e', h0 | ⟨gf, cur, ea, q3, q4⟩⟩ := WN8.out.fr
                · have := HKN.out; rw [h0] at this; cases this
                · injection e' with e' _ _
                  refine ⟨gf, by rw [e']; exact ea, fun W hW => ?_⟩
                  obtain ⟨cur', f1, _, f3⟩ := hW.tw gf cur 23 q3
                  rw [f3 rfl] at f1
                  rw [Lib.cell_of_heap f1]
                  exact q4 k HKN.out
              obtain ⟨gf, ea, hcf⟩ := FRG.out
              have HCF : Hid (∀ W, Gw B0 B1 W8 W → W.cell? ⟨gf, k, none⟩ = some (fvs.getD k undef)) := hcf
              clear hcf FRG
              subst ea
              obtain ⟨l, hl⟩ : ∃ l, (N.free.getD k []).length = l := ⟨_, rfl⟩
              have HLL : Hid (l ≤ 2) := by rw [← hl]; exact HTW.out k
              obtain ⟨fv, hfv⟩ : ∃ fv, fvs.getD k undef = fv := ⟨_, rfl⟩
              have FLG : Hid (∀ W, Gw B0 B1 W8 W → Fl B0 B1 W fv l) := fun W hW => by have := (FL8.out k HKN.out).keep hW.tw; rw [hl, hfv] at this; exact this
              rw [hfv] at HCF
              clear hl hfv
              obtain ⟨af, rfl⟩ := (FLG.out W8 (Gw.refl _ _ _)).form
              have c0 := HCF.out wr HG.out
              obtain ⟨xs, orow, hown⟩ := (FLG.out wr HG.out).row (by have := HLL.out; omega)
              have O4 : Hid ((wr.alloc (.cells #[.int .i64 99, .int .i64 99, .int .i64 99] 3)).ownsRow B0 3 1 (.slice af l l) l xs) := World.ownsRow.alloc (w := wr) orow _
              have HOW : Hid (∀ g, (Value.slice af l l).ownBlock = some g → g < B1) := hown
              have LB : Hid (B0 ≤ (wr.alloc (.cells #[.int .i64 99, .int .i64 99, .int .i64 99] 3)).heap.size) := by have := Z8.out; have := HB0.out; have := HG.out.ks.size; show _ ≤ _; simp; omega
              have hl2 : l ≤ 2 := HLL.out
              clear orow hown
              go_upto_region 25 with (at_builtin; refine wpList_append_two _ rfl _ _ 23 rfl B0 3 i3 (.int .i64 0) 1 8 Try.underlying23 HI3.out.1 HI3.out.2.1 HI3.out.2.2.1 HI3.out.2.2.2 rfl (by decide) _ _ _ rfl O4.out ⟨wr.heap.size, 0, none⟩ 3 3 [.int .i64 99, .int .i64 99, .int .i64 99] rfl (by decide) rfl (cell_three_new _ _ _ _ _) (by intro y hy; simp at hy; subst hy; rfl) (by unfold maxLen; omega) (by omega) LB.out ?_; intro v14 w14 ho9 hg9; have GW14 : Hid (Gw B0 B1 W8 w14) := HG.out.trans ((Gw.bel (bel_up _ _)).trans (Gw.app O4.out (Nat.le_refl _) HOW.out (by decide) ho9 hg9)); obtain ⟨gq, cq, rfl, _⟩ := own_form' ho9 (by omega); clear ho9 hg9)
              clear x0 x1 x2 x3 x4 O4 LB c0 hl2
              go_wp2_with fail
              go_loopg [15] l (fun gh v15 wr => ∃ q : Nat, v15 = .int .i64 (q : Int) ∧ q ≤ l ∧ gh = l - q ∧ Hid (Gw B0 B1 W8 wr))
              case atStart => exact ⟨0, rfl, Nat.zero_le _, rfl, GW14⟩
              case round =>
                obtain ⟨q, rfl, hq, hg, HGI⟩ := hrel
                have HGQ : Hid (gk = l - q) := hg
                clear hg
                obtain ⟨x0, x1, x2, x3, x4⟩ := box5 (YNG.out wr HGI.out)
                have c0 := HCF.out wr HGI.out
                by_cases hql : q < l
                · have hqI : (q : Int) < (l : Int) := by omega
                  obtain ⟨ga, cur, ea, q1, q2, q3, q4⟩ := (FLG.out wr HGI.out).at_ (by omega)
                  rw [ea] at c0
                  obtain ⟨z0, hz0⟩ := cells_of (i := q) q3 (by omega)
                  have zf := fun o => Lib.frozen_of_heap q3 o
                  have GN : Hid _ := HGI.out.trans (Gw.set (k := q) q3 (by decide) q1 q2 (.int .i64 0))
                  have HQ2 : Hid (q < 1000) := by have := HLL.out; show q < _; omega
                  clear ea q1 q2 q3 q4
                  go_wp2_with fail
                  go_roundg (l - (q + 1))
                  case measure => have := HGQ.out; omega
                  case rel => exact ⟨q + 1, by first | rfl | (rw [w64 q (by have := HQ2.out; omega)]), by omega, rfl, GN⟩
                · have hqI : ¬ (q : Int) < (l : Int) := by omega
                  have h31 : ¬ ((l : Int) + 3 < 3) := by omega
                  have h32 : ¬ (((l + 3 : Nat) : Int) < 3) := by omega
                  have h33 : ¬ (l + 3 < 3) := by omega
                  have HK : Hid (k < 3000000) := by have := HLF.out.2; show k < _; omega
                  go_wp2_with fail
                  go_roundg (N.free.length - (k + 1))
                  case measure => have := HGM.out; omega
                  case rel => exact ⟨k + 1, by first | rfl | (rw [w64 k (by have := HK.out; omega)]), by omega, rfl, HGI⟩
            · have hkI : ¬ (k : Int) < (N.free.length : Int) := by omega
              obtain ⟨W13, rfl⟩ : ∃ W13, W13 = wr := ⟨_, rfl⟩
              have GW13 : Hid (Gw B0 B1 W8 W13) := HG
              have h21 : ¬ ((N.on.length : Int) + 2 < 2) := by omega
              have h22 : ¬ ((N.tos.length : Int) + 3 < 3) := by omega
              have h23 : ¬ (((N.on.length + 2 : Nat) : Int) < 2) := by omega
              have h24 : ¬ (((N.tos.length + 3 : Nat) : Int) < 3) := by omega
              have H13 : Hid (Below w.heap.size w W13) := H8.out.trans (GW13.out.ks.below (fun b hb => .inl (by have := HB0.out; omega)) H8.out.size)
              clear HG HGM hk hkn
              go_wp2_with fail
              refine Calls.mono (HCO.out W13 H13.out) ?_
              rintro e W14 ⟨fvs14, vo, vt, vf, rfl, mo, hb14⟩
              obtain ⟨g1, k1, g2, k2, g3, k3, rfl, rfl, rfl⟩ := mo.parts.shape
              have PK14 : Hid (Parts W14.heap.size W14 (.slice g1 N.on.length k1) (.slice g2 N.tos.length k2) (.slice g3 N.free.length k3) N) := mo.parts
              have HB14 : Hid (Below W13.heap.size W13 W14) := hb14
              clear mo hb14 x0 x1 x2 x3 x4 hkI h21 h22 h23 h24
              go_upto_region 34 with fail
              obtain ⟨W15, hW15⟩ : ∃ W15, W15 = W14.alloc (.cells #[.slice g1 N.on.length k1, .slice g2 N.tos.length k2, .slice g3 N.free.length k3, .int .i64 N.start, .int .i64 N.fin] 26) := ⟨_, rfl⟩
              obtain ⟨jb, hjb⟩ : ∃ jb, W14.heap.size = jb := ⟨_, rfl⟩
              have U15 : Hid (Below W14.heap.size W14 W15) := by rw [hW15]; exact bel_up _ _
              have Y15 : Hid (W15.heap[jb]? = some (.cells #[.slice g1 N.on.length k1, .slice g2 N.tos.length k2, .slice g3 N.free.length k3, .int .i64 N.start, .int .i64 N.fin] 26 (0, 0))) := by rw [hW15, ← hjb]; exact World.alloc_heap_new W14 _
              have K15 : Hid (Ks (fun b => b < B0 ∨ B1 ≤ b) W8 W15) := GW13.out.ks.trans (Ks.bel (below_trans HB14.out U15.out))
              have PK15 : Hid (Parts W15.heap.size W15 (.slice g1 N.on.length k1) (.slice g2 N.tos.length k2) (.slice g3 N.free.length k3) N) := PK14.out.mono U15.out U15.out.size
              have YM15 : Hid (W15.heap[mb]? = some (.cells #[.slice b1 N.on.length d1, .slice b2 N.tos.length d2, .slice b3 N.free.length d3, .int .i64 N.start, .int .i64 N.fin] 26 (0, 0))) := (K15.out.block mb (.inr HMB.out) (lt_of_heap YM8.out)).trans YM8.out
              have YK15 : Hid (W15.heap[kb]? = some (.cells #[.slice e1 N.on.length f1, .slice e2 N.tos.length f2, .slice e3 N.free.length f3, .int .i64 N.start, .int .i64 N.fin] 26 (0, 0))) := (K15.out.block kb (.inr HKB.out) (lt_of_heap YK8.out)).trans YK8.out
              have PM15 : Hid (Parts W15.heap.size W15 (.slice b1 N.on.length d1) (.slice b2 N.tos.length d2) (.slice b3 N.free.length d3) N) := (MM8.out.keep K15.out).parts
              have PT15 : Hid (Parts W15.heap.size W15 (.slice e1 N.on.length f1) (.slice e2 N.tos.length f2) (.slice e3 N.free.length f3) N) := (KK8.out.keep K15.out).parts
              have H15 : Hid (Below w.heap.size w W15) := H13.out.trans ((below_trans HB14.out U15.out).mono H13.out.size)
              rw [hjb, ← hW15]
              clear hW15 hjb U15 PK14 HB14
              obtain ⟨x0, x1, x2, x3, x4⟩ := box5 YM15.out
              obtain ⟨y0, y1, y2, y3, y4⟩ := box5 YK15.out
              go_wp2_with fail
              refine (same_any HSM.out W15 PM15.out PT15.out).mono ?_
              rintro e W16 ⟨rfl, hb16⟩
              have YM16 : Hid (W16.heap[mb]? = some (.cells #[.slice b1 N.on.length d1, .slice b2 N.tos.length d2, .slice b3 N.free.length d3, .int .i64 N.start, .int .i64 N.fin] 26 (0, 0))) := (hb16.block _ (lt_of_heap YM15.out)).trans YM15.out
              have Y16 : Hid (W16.heap[jb]? = some (.cells #[.slice g1 N.on.length k1, .slice g2 N.tos.length k2, .slice g3 N.free.length k3, .int .i64 N.start, .int .i64 N.fin] 26 (0, 0))) := (hb16.block _ (lt_of_heap Y15.out)).trans Y15.out
              have PM16 : Hid (Parts W16.heap.size W16 (.slice b1 N.on.length d1) (.slice b2 N.tos.length d2) (.slice b3 N.free.length d3) N) := PM15.out.mono hb16 hb16.size
              have PK16 : Hid (Parts W16.heap.size W16 (.slice g1 N.on.length k1) (.slice g2 N.tos.length k2) (.slice g3 N.free.length k3) N) := PK15.out.mono hb16 hb16.size
              have H16 : Hid (Below w.heap.size w W16) := H15.out.trans (hb16.mono H15.out.size)
              clear hb16 x0 x1 x2 x3 x4 y0 y1 y2 y3 y4
              obtain ⟨x0, x1, x2, x3, x4⟩ := box5 YM16.out
              go_wp2_with fail
              refine (accepts_any HSM.out t HT.out W16 PM16.out).mono ?_
              rintro e W17 ⟨⟨d1', rfl, hd1⟩, hb17⟩
              have ed : d1' = dw := Bool.eq_iff_iff.2 (hd1.trans HDW.out.symm)
              subst ed
              have Y17 : Hid (W17.heap[jb]? = some (.cells #[.slice g1 N.on.length k1, .slice g2 N.tos.length k2, .slice g3 N.free.length k3, .int .i64 N.start, .int .i64 N.fin] 26 (0, 0))) := (hb17.block _ (lt_of_heap Y16.out)).trans Y16.out
              have PK17 : Hid (Parts W17.heap.size W17 (.slice g1 N.on.length k1) (.slice g2 N.tos.length k2) (.slice g3 N.free.length k3) N) := PK16.out.mono hb17 hb17.size
              have H17 : Hid (Below w.heap.size w W17) := H16.out.trans (hb17.mono H16.out.size)
              clear hb17 hd1 x0 x1 x2 x3 x4
              obtain ⟨x0, x1, x2, x3, x4⟩ := box5 Y17.out
              go_wp2_with fail
              refine (accepts_any HSM.out t HT.out W17 PK17.out).mono ?_
              rintro e W18 ⟨⟨d2', rfl, hd2⟩, hb18⟩
              have ed : d2' = d1' := Bool.eq_iff_iff.2 (hd2.trans HDW.out.symm)
              subst ed
              have H18 : Hid (Below w.heap.size w W18) := H17.out.trans (hb18.mono H17.out.size)
              clear hb18 hd2 x0 x1 x2 x3 x4
              go_wp2_with fail
              refine Calls.mono (HFR.out W18 H18.out) ?_
              rintro e W19 ⟨rfl, hb19⟩
              have H19 : Hid (Below w.heap.size w W19) := H18.out.trans (hb19.mono H18.out.size)
              clear hb19
              go_wp2_with fail
              go_ret
              refine ⟨?_, H19.out⟩
              first | rfl | simp
end Go.Proofs.Ytkjljnneghnpiaa
