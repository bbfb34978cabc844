import Derived.Test.YtkjljnneghnpiaaNyf
import Derived.Test.YtkjljnneghnpiaaNfw
import Derived.Maps.GroupsBeside
import Derived.Maps.OwnIn
import Derived.Maps.AppendAt
namespace Go.Proofs.Ytkjljnneghnpiaa
open Go.RowKit Go.Maps

theorem law3 : Keyed Try.prog 3 := int_keyed Try.underlying3
theorem zero23 (w : World) : (zeroValue 23).run Try.prog w = .ok (.slice none 0 0) w := by kernel_rfl
theorem info3 : (Try.prog.info? 3).map (fun i => (i.zero, i.size, i.bytes)) = some (some (.int .i64 0), 1, 8) := by kernel_rfl
/-- The numbers that a row reads as. -/
def its : DataW Unit → List Int
  | .slice es _ => es.map fun d => match d with | .lit (.int _ x) => x | _ => 0
  | _ => []
theorem its_row {w : World} {base : Nat} {v : Value} {zs : List Int} (h : w.ownsInts base 3 .i64 v zs) : its (rowDatum .i64 v zs) = zs := by
  rcases h.datum (H := Unit) with ⟨e, rfl⟩ | e
  · rw [e]; rfl
  · rw [e]
    simp only [its, ChangeShapes.lits, List.map_map]
    exact List.map_id'' (fun _ => rfl) _
theorem wf_nat {t : Nat} (h : t < 1000000000000) : (Lit.int .i64 (t : Int)).wf = true := WalkArith.wf_i64 (by omega)
/-- The map of those that wait. -/
def WMap (W : World) (base bm k : Nat) (G : Nat → List Nat) : Prop :=
  ∃ D : DataW Unit, W.ownsGroups Try.prog 3 base 3 .i64 bm k D ∧ ∀ t : Nat, t < 1000000000000 → its (D.atKey (.int .i64 (t : Int)) .nil) = (G t).map Int.ofNat
theorem WMap.kept {W W' : World} {base bm k : Nat} {G : Nat → List Nat} {row : Option Nat} (h : WMap W base bm k G) (hg : W.grownBy W' row) (hb : some bm ≠ row) (hr : ∀ j, row = some j → j < base ∨ W.Shuns bm (fun g => g = j)) : WMap W' base bm k G := by
  obtain ⟨D, h1, h2⟩ := h
  refine ⟨D, h1.kept hg hb ?_, h2⟩
  cases row with
  | none => intro es clock _ x _; cases hx : x.val.ownBlock <;> simp
  | some j =>
    rcases hr j rfl with h3 | h3
    · exact h1.rowsAbove (fun j' e => by cases e; exact h3)
    · exact h3.rowsOff (fun j' e => by cases e; rfl)
/-- The groups' rows lie in the world. -/
theorem WMap.shuns {W : World} {base bm k : Nat} {G : Nat → List Nat} (h : WMap W base bm k G) : W.Shuns bm (fun g => W.heap.size ≤ g) := by
  obtain ⟨D, h1, _⟩ := h
  have h0 : W.Shuns bm (fun _ => False) := fun _ _ _ _ _ _ _ h => h
  exact h0.reno h1 (fun g hg => .inr hg)
theorem WMap.lt {W : World} {base bm k : Nat} {G : Nat → List Nat} (h : WMap W base bm k G) : bm < W.heap.size := by
  obtain ⟨D, ⟨es, clock, hb, _⟩, _⟩ := h
  exact lt_of_heap hb
theorem WMap.base {W : World} {base bm k : Nat} {G : Nat → List Nat} (h : WMap W base bm k G) : bm < base := by
  obtain ⟨D, ⟨es, clock, hb, _, _, _, h, _⟩, _⟩ := h
  exact h
/-- A row of truths that may be written. -/
structure Blw (W : World) (g n : Nat) (L : Nat → Bool) : Prop where
  row : Bls W g n L
  fr : ∀ i, W.frozen? ⟨g, i, none⟩ = false
  lt : g < W.heap.size
theorem Blw.set {W : World} {g n p : Nat} {L : Nat → Bool} (h : Blw W g n L) (hp : p < n) : Blw (W.setCell ⟨g, p, none⟩ (.bool true)) g n (upd L p) := by
  refine ⟨⟨fun i hi => ?_⟩, fun i => by rw [World.frozen?_setCell]; exact h.fr i, by simpa using h.lt⟩
  unfold upd
  by_cases e : i = p
  · subst e
    rw [if_pos rfl]
    exact World.cell?_setCell_same' _ _ _ (by rw [h.row.c i hp]; rfl)
  · rw [if_neg e, World.cell?_setCell_other _ _ _ _ (by intro h; cases h; exact e rfl)]
    exact h.row.c i hi
theorem Blw.kept {W W' : World} {g n : Nat} {L : Nat → Bool} {row : Option Nat} (h : Blw W g n L) (hg : W.grownBy W' row) (hne : some g ≠ row) : Blw W' g n L := by
  have e := hg.block g h.lt hne
  exact ⟨⟨fun i hi => by rw [World.cell?_of_block (a := ⟨g, i, none⟩) e]; exact h.row.c i hi⟩, fun i => by rw [World.frozen?_of_block (a := ⟨g, i, none⟩) e]; exact h.fr i, Nat.lt_of_lt_of_le h.lt hg.size⟩
theorem grown_set {W : World} {g p : Nat} {v : Value} : W.grownBy (W.setCell ⟨g, p, none⟩ v) (some g) :=
  ⟨rfl, rfl, rfl, (KeepsWalks.setCell W _ v).size, fun k _ hk => Below.heap_setCell _ _ _ k (fun e => hk (by rw [e]))⟩
theorem grown_up {w A B : World} {g : Nat} {row : Option Nat} (h : w.grownBy A (some g)) (k : A.grownBy B row) (hr : ∀ r, row = some r → r = g ∨ w.heap.size ≤ r) : w.grownBy B (some g) :=
  ⟨k.os.trans h.os, k.tape.trans h.tape, k.output.trans h.output, Nat.le_trans h.size k.size, fun i hi hne => (k.block i (Nat.lt_of_lt_of_le hi h.size) (fun e => by
    rcases hr i e.symm with rfl | h'
    · exact hne rfl
    · omega)).trans (h.block i hi hne)⟩
/-- What a row of one's own reads as. -/
theorem own_shape {W : World} {base : Nat} {v : Value} {S : List Nat} (h : W.ownsRow base 3 1 v S.length (S.map fun t : Nat => Value.int .i64 (t : Int))) :
    (v = .slice none 0 0 ∧ S = []) ∨ ∃ g cap, v = .slice (some ⟨g, 0, none⟩) S.length cap ∧ base ≤ g ∧ g < W.heap.size ∧ S.length ≤ cap ∧ cap ≤ maxLen ∧ ∀ i (hi : i < S.length), W.cell? ⟨g, i, none⟩ = some (.int .i64 (S[i] : Int)) := by
  have h0 := h
  obtain ⟨h1, h2⟩ := h
  rcases h2 with ⟨rfl, h3⟩ | ⟨g, cap, cur, rfl, hb, hh, hn, hc, hs, ht⟩
  · exact .inl ⟨rfl, List.length_eq_zero_iff.1 h3⟩
  · refine .inr ⟨g, cap, rfl, hb, lt_of_heap hh, hn, hc, fun i hi => ?_⟩
    have := h0.cells (g := g) rfl i (.int .i64 (S[i] : Int)) (by simp [hi])
    have e : (⟨g, 0, none⟩ : Addr).add i = ⟨g, i, none⟩ := by cases i <;> simp [Addr.add]
    rwa [e] at this

/-- The row of a group. -/
theorem grp {W : World} {base a : Nat} {G : Nat → List Nat} {D : DataW Unit} {v : Value} {zs : List Int} (ha : a < 1000000000000) (hD : ∀ t : Nat, t < 1000000000000 → its (D.atKey (.int .i64 (t : Int)) .nil) = (G t).map Int.ofNat)
    (hat : D.atKey (.int .i64 (a : Int)) .nil = rowDatum .i64 v zs) (hoi : W.ownsInts base 3 .i64 v zs) :
    ∃ aa ga cc, v = .slice aa (G a).length cc ∧ (G a ≠ [] → aa = some ⟨ga, 0, none⟩ ∧ base ≤ ga ∧ v.ownBlock = some ga) ∧ ∀ i (hi : i < (G a).length), W.cell? ⟨ga, i, none⟩ = some (.int .i64 ((G a)[i] : Int)) := by
  have e : zs = (G a).map Int.ofNat := by rw [← hD a ha, hat, its_row hoi]
  have hr := hoi.1
  rw [e] at hr
  have hr' : W.ownsRow base 3 1 v (G a).length ((G a).map fun t : Nat => Value.int .i64 (t : Int)) := by
    simpa [List.map_map, Function.comp_def] using hr
  rcases own_shape hr' with ⟨rfl, h2⟩ | ⟨g, cap, rfl, hb, _, _, _, hc⟩
  · refine ⟨none, 0, 0, by rw [h2]; rfl, fun h => absurd h2 h, fun i hi => ?_⟩
    rw [h2] at hi; cases hi
  · exact ⟨_, g, cap, rfl, fun _ => ⟨rfl, hb, rfl⟩, hc⟩

set_option maxRecDepth 100000 in
set_option maxHeartbeats 4000000 in
theorem wake_any {n base bm k g q : Nat} {G : Nat → List Nat} {L : Nat → Bool} (hG : ∀ t p, p ∈ G t → p < n) (hGl : ∀ t, (G t).length ≤ 1000000000) (hq : q < n) (hn : n ≤ 1048576) (w : World) (hm : WMap w base bm k G) (hk : k ≤ 1000000000) (hgb : g < base) (hgm : g ≠ bm) (hbw : base ≤ w.heap.size) (hL : Blw w g n L) :
    Calls Try.prog 50 #[.int .i64 (q : Int), .slice (some ⟨g, 0, none⟩) n n, .map (some bm)] w fun e w' => (∃ v, e = .returned v) ∧ ∃ L', Woken G L q L' ∧ Blw w' g n L' ∧ w.grownBy w' (some g) := by
  obtain ⟨i0, hi, hz0, hz1, hz2⟩ := info_parts info3
  have HG : Hid (∀ t p, p ∈ G t → p < n) := hG
  have HGL : Hid (∀ t, (G t).length ≤ 1000000000) := hGl
  have HM : Hid (WMap w base bm k G) := hm
  have HL : Hid (Blw w g n L) := hL
  have hc0 := hL.row.c q hq
  have hf0 := hL.fr q
  have HBW : Hid (base ≤ w.heap.size) := hbw
  have HGB : Hid (g < base) := hgb
  have HGM : Hid (g ≠ bm) := hgm
  have HK : Hid (k ≤ 1000000000) := hk
  have HN : Hid (n ≤ 1048576) := hn
  have HQ : Hid (q < n) := hq
  clear hG hGl hm hL hbw hgb hgm hk hn
  go_enter Try.func50, Try.ntmps50
  go_wp2_with fail
  clear hc0 hf0 hq
  go_loopg [6] (2 * n + 1) (fun gm v wr => ∃ (S : List Nat) (L' : Nat → Bool), Hid (wr.ownsRow w.heap.size 3 1 v S.length (S.map fun t : Nat => Value.int .i64 (t : Int))) ∧ Hid (WSi G n L q L' S none) ∧ Hid (Blw wr g n L') ∧ Hid (w.grownBy wr (some g)) ∧ Hid (2 * dd L' n + S.length ≤ gm ∧ gm ≤ 2 * n + 1))
  case atStart =>
    refine ⟨[q], upd L q, ?_, WSi.start HQ.out, (HL.out.set HQ.out).kept (World.grownBy_alloc _ _ none) (by simp), grown_up grown_set (World.grownBy_alloc _ _ none) (fun r e => by cases e), ?_⟩
    · refine ⟨rfl, .inr ⟨w.heap.size, 1, #[.int .i64 (q : Int)], rfl, Nat.le_refl _, ?_, Nat.le_refl _, by decide, rfl, rfl⟩⟩
      have := World.alloc_heap_new (w.setCell ⟨g, q, none⟩ (.bool true)) (.cells #[.int .i64 (q : Int)] 3)
      simpa using this
    · have := dd_le (upd L q) n
      exact ⟨by simp; omega, Nat.le_refl _⟩
  case round =>
    obtain ⟨S, L', HR, HW, HB, HGr, HGM'⟩ := hrel
    rcases List.eq_nil_or_concat S with rfl | ⟨S0, a, rfl⟩
    · have hv : ∃ aa cc, u6 = .slice aa 0 cc := by
        rcases own_shape HR.out with ⟨h, _⟩ | ⟨g', cap, h, _⟩
        · exact ⟨_, _, h⟩
        · exact ⟨_, _, h⟩
      obtain ⟨aa, cc, rfl⟩ := hv
      go_wp2_with fail
      (try simp only [Exit.inBlock, Exit.then])
      go_end0
      exact ⟨⟨_, rfl⟩, L', HW.out.done, HB.out, HGr.out⟩
    · rw [List.concat_eq_append] at HR HW HGM'
      have hshape := own_shape HR.out
      rcases hshape with ⟨_, h0⟩ | ⟨gs, cap, rfl, hgs, hgw, hcap, hcm, hcell⟩
      · simp at h0
      have hlast := hcell S0.length (by simp)
      rw [List.getElem_append_right (Nat.le_refl _)] at hlast
      simp only [Nat.sub_self, List.getElem_cons_zero] at hlast
      simp only [List.length_append, List.length_cons, List.length_nil, Nat.zero_add] at hcap HGM'
      have hrow := HR.out
      simp only [List.length_append, List.length_cons, List.length_nil, Nat.zero_add, List.map_append, List.map_cons, List.map_nil] at hrow
      have HPOP : Hid (wr.ownsRow w.heap.size 3 1 (.slice (some ⟨gs, 0, none⟩) S0.length cap) S0.length (S0.map fun t : Nat => Value.int .i64 (t : Int))) := ownsRow_pop (by simp) hrow
      have HW1 : Hid (WSi G n L q L' S0 (some (a, 0))) := HW.out.pop
      have han : a < n := (HW.out.stk a (by simp)).1
      have HGS : Hid (w.heap.size ≤ gs) := hgs
      obtain ⟨sl, hsl⟩ : ∃ sl, S0.length = sl := ⟨_, rfl⟩
      have hmr : WMap wr base bm k G := HM.out.kept HGr.out (by intro e; cases e; exact HGM.out rfl) (fun j e => by cases e; exact .inl HGB.out)
      obtain ⟨D, hD, hDat⟩ := hmr
      have hkey : keyOf Try.prog 3 (.int .i64 (a : Int)) = some (.int .i64 (a : Int)) := keyOf_int_mk Try.underlying3 (wf_nat (by have := HN.out; omega))
      have hsb : sl ≤ 3000000 := by have := HGM'.out; have := HN.out; omega
      have hw1 : wrap64 ((sl : Int)) = (sl : Int) := w64n sl (by omega)
      have hw2 : wrap64 ((sl : Int) + 1 - 1) = (sl : Int) := by rw [show (sl : Int) + 1 - 1 = (sl : Int) by omega]; exact hw1
      rw [hsl] at hlast hcap
      have hlen : (S0 ++ [a]).length = sl + 1 := by simp [hsl]
      rw [hlen]
      clear hlen
      have HCAP : Hid (cap ≤ maxLen) := hcm
      have HHD : Hid (wr.ownsGroups Try.prog 3 base 3 .i64 bm k D) := hD
      have HDAT : Hid (∀ t : Nat, t < 1000000000000 → its (D.atKey (.int .i64 (t : Int)) .nil) = (G t).map Int.ofNat) := hDat
      have HSL : Hid (S0.length = sl) := hsl
      clear hD hDat hrow HR HW hcell hgs hgw hcm hsl
      go_wp2_with (first
        | (at_lookup; refine wpList_lookup_groups_shuns _ rfl _ _ 86 rfl 3 23 3 .i64 law3 Try.underlying86 (zero23 _) base bm k D rfl HHD.out (by have := HK.out; unfold maxLen; omega) _ _ rfl hkey ?_; intro v zs hat hoi hzl hback hsh; obtain ⟨aa, ga, cc, rfl, hga, hgc⟩ := grp (by have := HN.out; omega) HDAT.out hat hoi; have HGA : Hid _ := hga; have HGC : Hid _ := hgc; have HSH : Hid _ := hsh; clear hga hgc hat hoi hzl hback hsh)
        | fail)
      have HSHW : Hid (G a ≠ [] → base ≤ ga ∧ ga < w.heap.size) := fun hne => by
        obtain ⟨h1, h2, h3⟩ := HGA.out hne
        refine ⟨h2, ?_⟩
        have h4 : wr.Shuns bm (fun g => w.heap.size ≤ g) := (HM.out.shuns).kept HGr.out HM.out.lt (by intro e; cases e; exact HGM.out rfl)
        have := HSH.out _ h4 ga h3
        omega
      obtain ⟨M0, hM0⟩ : ∃ M0, M0 = gk := ⟨_, rfl⟩
      have HG1 : Hid (2 * dd L' n + S0.length + 1 ≤ M0 ∧ M0 ≤ 2 * n + 1) := ⟨by have := HGM'.out; omega, by have := HGM'.out.2; omega⟩
      have HM0 : Hid (M0 = gk) := hM0
      clear hM0
      clear hlast hw1 hw2 hcap hkey
      go_loopg [6, 33] (G a).length (fun gm v iv wr2 => ∃ (j : Nat) (S : List Nat) (L2 : Nat → Bool), iv = .int .i64 (j : Int) ∧ Hid (j ≤ (G a).length ∧ gm = (G a).length - j) ∧ Hid (wr2.ownsRow w.heap.size 3 1 v S.length (S.map fun t : Nat => Value.int .i64 (t : Int))) ∧ Hid (WSi G n L q L2 S (some (a, j))) ∧ Hid (Blw wr2 g n L2) ∧ Hid (w.grownBy wr2 (some g)) ∧ Hid (2 * dd L2 n + S.length + 1 ≤ M0) ∧ Hid (∀ i (hi : i < (G a).length), wr2.cell? ⟨ga, i, none⟩ = some (.int .i64 ((G a)[i] : Int))))
      case atStart =>
        refine ⟨0, S0, L', rfl, ⟨Nat.zero_le _, rfl⟩, ?_, HW1, HB, HGr, HG1.out.1, HGC⟩
        have := HPOP.out
        rw [← HSL.out]
        exact this
      case round =>
        obtain ⟨j, S, L2, rfl, HJ, HRo, HWi, HBl, HGr2, HDD, HC⟩ := hrel
        rcases Nat.lt_or_ge j (G a).length with hj | hj
        · obtain ⟨rfl, hga1, hga2⟩ := HGA.out (by intro e; rw [e] at hj; cases hj)
          obtain ⟨pp, hpp⟩ : ∃ pp, (G a)[j] = pp := ⟨_, rfl⟩
          have hcj := HC.out j hj
          rw [hpp] at hcj
          have hpn : pp < n := HG.out a pp (hpp ▸ List.getElem_mem hj)
          have hcl := HBl.out.row.c pp hpn
          have hfl := HBl.out.fr pp
          have HWJ : Hid (wrap64 ((j : Int) + 1) = ((j + 1 : Nat) : Int)) := w64 j (by have := HGL.out a; omega)
          have HPP : Hid ((G a)[j] = pp) := hpp
          clear hpp hga2
          cases hL2 : L2 pp
          · rw [hL2] at hcl
            have HL2 : Hid (L2 pp = false) := hL2
            clear hL2
            have hne : u6.ownBlock ≠ some g := fun e => by have := (HRo.out.lt g e).1; have := HBW.out; have := HGB.out; omega
            have HNE : Hid (u6.ownBlock ≠ some g) := hne
            have HRW : Hid (((wr.setCell ⟨g, pp, none⟩ (.bool true)).alloc (.cells #[.int .i64 (pp : Int)] 3)).ownsRow w.heap.size 3 1 u6 S.length (S.map fun t : Nat => Value.int .i64 (t : Int))) := (HRo.out.kept grown_set (.inr hne)).alloc _
            have hsz : S.length ≤ 3000000 := by have := HDD.out; have := HG1.out.2; have := HN.out; omega
            have HNEW : Hid (∀ (j : Nat) (u : Value), [Value.int .i64 (pp : Int)][j]? = some u → ((wr.setCell ⟨g, pp, none⟩ (.bool true)).alloc (.cells #[.int .i64 (pp : Int)] 3)).cell? ((⟨wr.heap.size, 0, none⟩ : Addr).add j) = some u) := by
              have h := cell_one_new (wr.setCell ⟨g, pp, none⟩ (.bool true)) (.int .i64 (pp : Int)) 3
              have e : (wr.setCell ⟨g, pp, none⟩ (.bool true)).heap.size = wr.heap.size := by simp
              rw [e] at h
              exact h
            have HBS : Hid (w.heap.size ≤ ((wr.setCell ⟨g, pp, none⟩ (.bool true)).alloc (.cells #[.int .i64 (pp : Int)] 3)).heap.size) := by have := HGr2.out.size; simp [Hid]; omega
            clear hne
            go_wp2_with (first
              | (at_builtin; refine wpList_append_own _ rfl _ _ 23 rfl w.heap.size 3 i0 (.int .i64 0) 1 8 Try.underlying23 hi hz0 hz1 hz2 rfl (by decide) _ _ _ rfl HRW.out ⟨wr.heap.size, 0, none⟩ 1 1 [.int .i64 (pp : Int)] rfl rfl HNEW.out (ints_oneCell .i64 [(pp : Int)]) (by unfold maxLen; omega) (by omega) HBS.out ?_; intro v' w1 hown' hgrow hnil; have HOWN : Hid _ := hown'; have HGROW : Hid _ := hgrow; clear hown' hgrow hnil)
              | fail)
            go_roundg ((G a).length - (j + 1))
            case measure => have := HJ.out; omega
            case rel =>
              have hgA : w.grownBy w1 (some g) := grown_up (grown_up (grown_up HGr2.out grown_set (fun r e => by cases e; exact .inl rfl)) (World.grownBy_alloc _ _ none) (fun r e => by cases e)) HGROW.out (fun r e => .inr (HRo.out.lt r e).1)
              refine ⟨j + 1, S ++ [pp], upd L2 pp, by rw [HWJ.out], ⟨hj, rfl⟩, ?_, ?_, ?_, hgA, ?_, fun i hi => ?_⟩
              · have h := HOWN.out
                rw [show S.map (fun t : Nat => Value.int .i64 (t : Int)) ++ [Value.int .i64 (pp : Int)] = (S ++ [pp]).map (fun t : Nat => Value.int .i64 (t : Int)) by simp, show S.length + 1 = (S ++ [pp]).length by simp] at h
                exact h
              · have := HWi.out.new hj (by rw [HPP.out]; exact hpn)
                rw [HPP.out] at this
                exact this
              · exact ((HBl.out.set hpn).kept (World.grownBy_alloc _ _ none) (by simp)).kept HGROW.out (fun e => HNE.out e.symm)
              · have := dd_upd hpn HL2.out
                have := HDD.out
                simp only [Hid, List.length_append, List.length_cons, List.length_nil]
                omega
              · obtain ⟨h1, h2⟩ := HSHW.out (by intro e; rw [e] at hj; cases hj)
                have h3 := HC.out i hi
                refine HGROW.out.cell (cell_up _ ?_) (fun e => ?_)
                · rw [World.cell?_setCell_other _ _ _ _ (by intro h; cases h; have := HGB.out; omega)]
                  exact h3
                · have := (HRo.out.lt ga e.symm).1
                  omega
          · rw [hL2] at hcl
            have HL2 : Hid (L2 pp = true) := hL2
            clear hL2
            go_wp2_with fail
            go_roundg ((G a).length - (j + 1))
            case measure => have := HJ.out; omega
            case rel =>
              exact ⟨j + 1, S, L2, by rw [HWJ.out], ⟨hj, rfl⟩, HRo, HWi.out.old hj (by rw [HPP.out]; exact HL2.out), HBl, HGr2, HDD, HC⟩
        · have hjl : j = (G a).length := by have := HJ.out; omega
          subst hjl
          go_wp2_with fail
          go_roundg (M0 - 1)
          case measure => have := HDD.out; have := HM0.out; omega
          case rel =>
            exact ⟨S, L2, HRo, HWi.out.over (Nat.le_refl _), HBl, HGr2, ⟨by have := HDD.out; omega, by have := HG1.out.2; omega⟩⟩
end Go.Proofs.Ytkjljnneghnpiaa
