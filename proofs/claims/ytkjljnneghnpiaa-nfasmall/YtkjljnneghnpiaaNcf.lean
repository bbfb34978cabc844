import Derived.Test.YtkjljnneghnpiaaNce
namespace Go.Proofs.Ytkjljnneghnpiaa
open Go.RowKit Go.Maps

theorem MkV.parts {B : Nat} {W : World} {bk : Nat} {on : List (Nat → Bool)} {tos : List Int} {fvs : List Value} {frs : List (List Int)} {st en : Int} {rv vo vt vf : Value} (h : MkV B W bk on tos fvs frs st en rv vo vt vf) (s e : Int) :
    Parts W.heap.size W vo vt vf ⟨on, tos, frs, s, e⟩ := by
  have ad : ∀ g k : Nat, (⟨g, 0, none⟩ : Addr).add k = ⟨g, k, none⟩ := fun g k => by cases k <;> simp [Addr.add]
  refine ⟨?_, ?_, ?_⟩
  · show Clss _ _ _ on
    rcases h.on.2 with ⟨rfl, h0⟩ | ⟨g, cap, cur, rfl, _, hh, _⟩
    · have : on = [] := List.length_eq_zero_iff.1 h0
      subst this
      exact ⟨none, 0, 0, 0, rfl, fun hl => absurd rfl hl, fun i hi => by cases hi⟩
    · refine ⟨some ⟨g, 0, none⟩, g, 0, cap, rfl, fun _ => ⟨rfl, lt_of_heap hh⟩, fun i hi k hk => ?_⟩
      have := h.on.cells (g := g) rfl (i * 4 + k) _ (onC_get on i hi k hk)
      rw [ad] at this
      rw [Nat.zero_add]; exact this
  · show Ints _ _ _ tos
    rcases h.tos.2 with ⟨rfl, h0⟩ | ⟨g, cap, cur, rfl, _, hh, _⟩
    · have : tos = [] := List.length_eq_zero_iff.1 h0
      subst this
      exact Ints.nil _ _
    · refine ⟨some ⟨g, 0, none⟩, g, 0, cap, rfl, fun _ => ⟨rfl, lt_of_heap hh⟩, fun i hi => ?_⟩
      have := h.tos.cells (g := g) rfl i (.int .i64 (tos.getD i 0)) (by rw [List.getElem?_map, List.getElem?_eq_getElem hi, List.getD_eq_getElem?_getD, List.getElem?_eq_getElem hi]; rfl)
      rw [ad] at this
      rw [Nat.zero_add]; exact this
  · show Rws _ _ _ frs
    rcases h.fr.2 with ⟨rfl, h0⟩ | ⟨g, cap, cur, rfl, _, hh, _⟩
    · have : frs = [] := List.length_eq_zero_iff.1 (by rw [← h.len]; exact h0)
      subst this
      exact ⟨none, 0, 0, 0, rfl, fun hl => absurd rfl hl, fun i hi => by cases hi⟩
    · refine ⟨some ⟨g, 0, none⟩, g, 0, cap, by rw [h.len], fun _ => ⟨rfl, lt_of_heap hh⟩, fun i hi => ?_⟩
      have hi' : i < fvs.length := by rw [h.len]; exact hi
      have hc := h.fr.cells (g := g) rfl i (fvs.getD i undef) (by rw [List.getD_eq_getElem?_getD, List.getElem?_eq_getElem hi']; rfl)
      rw [ad] at hc
      refine ⟨fvs.getD i undef, by rw [Nat.zero_add]; exact hc, ?_⟩
      rcases h.el i hi' with ⟨e1, e2⟩ | ⟨g2, e1, e0, e2, e3, e4⟩
      · rw [e1, e2]; exact Ints.nil _ _
      · rw [e1]
        refine ⟨some ⟨g2, 0, none⟩, g2, 0, _, rfl, fun _ => ⟨rfl, lt_of_heap e4⟩, fun j hj => ?_⟩
        rw [Lib.cell_of_heap e4, Nat.zero_add]
        show ((frs.getD i []).map (Value.int .i64)).toArray[j]? = _
        rw [List.getElem?_toArray, List.getElem?_map, List.getElem?_eq_getElem hj]
        simp only [Option.map_some]
        conv => rhs; rw [List.getD_eq_getElem?_getD, List.getElem?_eq_getElem hj]
        rfl
theorem MkV.shape {B : Nat} {W : World} {bk : Nat} {on : List (Nat → Bool)} {tos : List Int} {fvs : List Value} {frs : List (List Int)} {st en : Int} {rv vo vt vf : Value} (h : MkV B W bk on tos fvs frs st en rv vo vt vf) : ∃ a1 n1 c1 a2 n2 c2 a3 n3 c3, vo = .slice a1 n1 c1 ∧ vt = .slice a2 n2 c2 ∧ vf = .slice a3 n3 c3 := by
  have key : ∀ {e : TypeId} {s n : Nat} {v : Value} {xs : List Value}, W.ownsRow B e s v n xs → ∃ a n c, v = .slice a n c := fun hr => by
    rcases hr.2 with ⟨rfl, _⟩ | ⟨g, cap, cur, rfl, _⟩
    · exact ⟨_, _, _, rfl⟩
    · exact ⟨_, _, _, rfl⟩
  obtain ⟨a1, n1, c1, e1⟩ := key h.on
  obtain ⟨a2, n2, c2, e2⟩ := key h.tos
  obtain ⟨a3, n3, c3, e3⟩ := key h.fr
  exact ⟨a1, n1, c1, a2, n2, c2, a3, n3, c3, e1, e2, e3⟩
theorem MkV.low {B r : Nat} {W W' : World} {bk : Nat} {on : List (Nat → Bool)} {tos : List Int} {fvs : List Value} {frs : List (List Int)} {st en : Int} {rv vo vt vf : Value} (h : MkV B W bk on tos fvs frs st en rv vo vt vf) (hg : W.grownBy W' (some r)) (hr : r < B) : MkV B W' bk on tos fvs frs st en rv vo vt vf := by
  have ne : ∀ {e : TypeId} {s n : Nat} {v : Value} {xs : List Value}, W.ownsRow B e s v n xs → v.ownBlock = none ∨ v.ownBlock ≠ some r := fun hro => .inr fun e => by have := (row_tag hro r e).1; omega
  refine ⟨(hg.block bk (lt_of_heap h.blk) (fun e => by cases e; have := h.lo; omega)).trans h.blk, h.on.kept hg (ne h.on), h.tos.kept hg (ne h.tos), h.fr.kept hg (ne h.fr), h.len, fun i hi => ?_, h.lo, Nat.le_trans h.lB hg.size⟩
  rcases h.el i hi with h1 | ⟨g, e1, e0, e2, e3, e4⟩
  · exact .inl h1
  · exact .inr ⟨g, e1, e0, e2, e3, (hg.block g (lt_of_heap e4) (fun e => by cases e; omega)).trans e4⟩
theorem MkM.setSt {B : Nat} {W : World} {bk : Nat} {M : Ms} {st en st' : Int} {rv : Value} (h : MkM B W bk M st en rv) : MkM B (W.setCell ⟨bk, 3, none⟩ (.int .i64 st')) bk M st' en rv ∧ Below B W (W.setCell ⟨bk, 3, none⟩ (.int .i64 st')) := by
  obtain ⟨fvs, vo, vt, vf, h1, h2⟩ := h
  obtain ⟨k1, k2⟩ := h1.own (W' := W.setCell ⟨bk, 3, none⟩ (.int .i64 st')) (st' := st') (en' := en) grown_set (by rw [blk_set _ h1.blk]; rfl) h1.on h1.tos h1.fr h1.len h1.el
  exact ⟨⟨fvs, vo, vt, vf, k1, h2⟩, k2⟩
theorem MkM.setEn {B : Nat} {W : World} {bk : Nat} {M : Ms} {st en en' : Int} {rv : Value} (h : MkM B W bk M st en rv) : MkM B (W.setCell ⟨bk, 4, none⟩ (.int .i64 en')) bk M st en' rv ∧ Below B W (W.setCell ⟨bk, 4, none⟩ (.int .i64 en')) := by
  obtain ⟨fvs, vo, vt, vf, h1, h2⟩ := h
  obtain ⟨k1, k2⟩ := h1.own (W' := W.setCell ⟨bk, 4, none⟩ (.int .i64 en')) (st' := st) (en' := en') grown_set (by rw [blk_set _ h1.blk]; rfl) h1.on h1.tos h1.fr h1.len h1.el
  exact ⟨⟨fvs, vo, vt, vf, k1, h2⟩, k2⟩
theorem MkM.five {B : Nat} {W : World} {bk : Nat} {M : Ms} {st en : Int} {rv : Value} (h : MkM B W bk M st en rv) : W.cell? ⟨bk, 3, none⟩ = some (.int .i64 st) ∧ W.cell? ⟨bk, 4, none⟩ = some (.int .i64 en) ∧ W.frozen? ⟨bk, 3, none⟩ = false ∧ W.frozen? ⟨bk, 4, none⟩ = false := by
  obtain ⟨fvs, vo, vt, vf, h1, h2⟩ := h
  exact ⟨h1.cell 3 _ rfl, h1.cell 4 _ rfl, h1.frz 3, h1.frz 4⟩
/-- The machine that is made of a regex. -/
def mcOf (re : List Rg.Nd) : Mc :=
  ⟨(prt re re.length (re.length - 1) 0 ⟨[nob], [-1], [[]]⟩).1.on, (prt re re.length (re.length - 1) 0 ⟨[nob], [-1], [[]]⟩).1.tos, (prt re re.length (re.length - 1) 0 ⟨[nob], [-1], [[]]⟩).1.frs, (prt re re.length (re.length - 1) 0 ⟨[nob], [-1], [[]]⟩).2, 0⟩

set_option maxRecDepth 100000 in
set_option maxHeartbeats 4000000 in
theorem compile_ok {gr oo cap : Nat} {re : List Rg.Nd} {z : List Nat} (hne : re ≠ []) (hl : re.length ≤ 128) (hsh : Rg.Sh re = true) (hz : z.getD (re.length - 1) 0 ≤ 500) (W : World) (hN : Rg.NdsAt W gr oo re) (hg : gr < W.heap.size)
    (hP : ∀ B bk, gr < B → PartOk B bk gr oo cap re z (re.length - 1)) :
    Calls Try.prog 16 #[.slice (some ⟨gr, oo, none⟩) re.length cap] W fun e w' => (∃ vo vt vf, e = .returned (nfV vo vt vf (mcOf re)) ∧ Parts w'.heap.size w' vo vt vf (mcOf re)) ∧ Below W.heap.size W w' := by
  have hpos : 0 < re.length := List.length_pos_iff.2 hne
  have HN : Hid (Rg.NdsAt W gr oo re) := hN
  have HG : Hid (gr < W.heap.size) := hg
  have HP : Hid (∀ B bk, gr < B → PartOk B bk gr oo cap re z (re.length - 1)) := hP
  have HS : Hid (Rg.Sh re = true) := hsh
  have HL : Hid (re.length ≤ 128) := hl
  have HZ : Hid (z.getD (re.length - 1) 0 ≤ 500) := hz
  have HPO : Hid (0 < re.length) := hpos
  have HNE : Hid (re ≠ []) := hne
  clear hN hg hP hsh hz hne
  have hW1 : (W.alloc (.cells #[.slice none 0 0, .slice none 0 0, .slice none 0 0, .int .i64 0, .int .i64 0] 26)).heap[W.heap.size]? = some (.cells #[.slice none 0 0, .slice none 0 0, .slice none 0 0, .int .i64 0, .int .i64 0] 26 (0, 0)) := World.alloc_heap_new W _
  have HW1 : Hid _ := hW1
  clear hW1
  go_enter Try.func16, Try.ntmps16
  go_wp2_with fail
  refine (Rg.shaped_any re (some ⟨gr, oo, none⟩) gr oo cap _ (fun _ => rfl) (HN.out.below (bel_up _ _) HG.out) (fun _ => by have := HG.out; simp; omega) (by have := HL.out; omega)).mono ?_
  rintro e w2 ⟨rfl, hb2⟩
  rw [HS.out]
  have HB2 : Hid (Below W.heap.size W w2) := below_trans (bel_up _ _) hb2
  have HR2 : Hid (w2.heap[W.heap.size]? = some (.cells #[.slice none 0 0, .slice none 0 0, .slice none 0 0, .int .i64 0, .int .i64 0] 26 (0, 0))) := (hb2.block _ (by simp)).trans HW1.out
  have HN2 : Hid (Rg.NdsAt w2 gr oo re) := HN.out.below (HB2.out) HG.out
  clear hb2
  go_wp2_with fail
  refine (newMaker_any (some ⟨gr, oo, none⟩) re.length cap HL.out w2).mono ?_
  rintro e w3 ⟨bk, rfl, hm3, hb3⟩
  have HB3 : Hid (Below w2.heap.size w2 w3) := hb3
  have HGB : Hid (gr < w2.heap.size) := by have := HB2.out.size; have := HG.out; show gr < _; omega
  have hst := state_m (l := []) nob (-1) w3 hm3 (.inl ⟨rfl, rfl⟩) (by simp)
  rw [show CV nob = _ from cv_zero] at hst
  have HST : Hid _ := hst
  clear hb3 hm3 hst
  go_wp2_with fail
  refine Calls.mono HST.out ?_
  rintro e w4 ⟨rfl, hb4, hk4, hm4⟩
  have hm4' : MkM w2.heap.size w4 bk ⟨[nob], [-1], [[]]⟩ 0 0 (.slice (some ⟨gr, oo, none⟩) re.length cap) := hm4
  obtain ⟨j3, j4, jf3, jf4⟩ := hm4'.five
  obtain ⟨hm5, hb5⟩ := hm4'.setEn (en' := 0)
  have j5 := hm5.five.2.1
  have HM5 : Hid (MkM w2.heap.size (w4.setCell ⟨bk, 4, none⟩ (.int .i64 0)) bk ⟨[nob], [-1], [[]]⟩ 0 0 (.slice (some ⟨gr, oo, none⟩) re.length cap)) := hm5
  have HB5 : Hid (Below w2.heap.size w2 (w4.setCell ⟨bk, 4, none⟩ (.int .i64 0))) := HB3.out.trans (hb4.trans hb5)
  clear hb4 hk4 hm4 hm4' hm5 hb5 HST
  obtain ⟨rl, hrl⟩ : ∃ rl, re.length - 1 = rl := ⟨_, rfl⟩
  have HRL : Hid (re.length - 1 = rl) := hrl
  have hlen1 : re.length = rl + 1 := by have := HPO.out; omega
  have HLEN : Hid (re.length = rl + 1) := hlen1
  have hwr4 : wrap64 (rl : Int) = (rl : Int) := w64n rl (by have := HL.out; omega)
  have hwr3 : (re.length : Int) - 1 = (rl : Int) := by rw [hlen1]; omega
  have HPP : Hid (PartOk w2.heap.size bk gr oo cap re z rl) := hrl ▸ HP.out _ _ HGB.out
  have HZ2 : Hid (z.getD rl 0 ≤ 500) := hrl ▸ HZ.out
  clear hrl hlen1 hl hpos
  go_wp2_with fail
  refine (HPP.out re.length (by have := HLEN.out; omega) _ 0 ⟨[nob], [-1], [[]]⟩ 0 0 HM5.out (HN2.out.below HB5.out HGB.out) (by have := HZ2.out; show 1 + _ ≤ _; omega)).mono ?_
  rintro e w6 ⟨rfl, hb6, hk6, hm6⟩
  obtain ⟨l3, l4, lf3, lf4⟩ := hm6.five
  obtain ⟨hm7, hb7⟩ := hm6.setSt (st' := (prt re re.length rl 0 ⟨[nob], [-1], [[]]⟩).2)
  obtain ⟨W7, hW7⟩ : ∃ W7, W7 = w6.setCell ⟨bk, 3, none⟩ (.int .i64 (prt re re.length rl 0 ⟨[nob], [-1], [[]]⟩).2) := ⟨_, rfl⟩
  have HW7 : Hid _ := hW7
  rw [← hW7] at hm7 hb7
  have hB7 : Below w2.heap.size w2 W7 := HB5.out.trans (hb6.trans hb7)
  obtain ⟨fvs, vo, vt, vf, hv, _⟩ := hm7
  obtain ⟨a1, n1, c1, a2, n2, c2, a3, n3, c3, rfl, rfl, rfl⟩ := hv.shape
  have m0 := hv.cell 0 _ rfl
  have m1 := hv.cell 1 _ rfl
  have m2 := hv.cell 2 _ rfl
  have m3 := hv.cell 3 _ rfl
  have m4 := hv.cell 4 _ rfl
  have HV : Hid (MkV w2.heap.size W7 bk _ _ fvs _ _ _ _ (.slice a1 n1 c1) (.slice a2 n2 c2) (.slice a3 n3 c3)) := hv
  have hr7 : W7.heap[W.heap.size]? = some (.cells #[.slice none 0 0, .slice none 0 0, .slice none 0 0, .int .i64 0, .int .i64 0] 26 (0, 0)) := (hB7.block _ (lt_of_heap HR2.out)).trans HR2.out
  have r0 : W7.cell? ⟨W.heap.size, 0, none⟩ = some (.slice none 0 0) := by rw [Lib.cell_of_heap hr7]; rfl
  have r1 : W7.cell? ⟨W.heap.size, 1, none⟩ = some (.slice none 0 0) := by rw [Lib.cell_of_heap hr7]; rfl
  have r2 : W7.cell? ⟨W.heap.size, 2, none⟩ = some (.slice none 0 0) := by rw [Lib.cell_of_heap hr7]; rfl
  have r3 : W7.cell? ⟨W.heap.size, 3, none⟩ = some (.int .i64 0) := by rw [Lib.cell_of_heap hr7]; rfl
  have r4 : W7.cell? ⟨W.heap.size, 4, none⟩ = some (.int .i64 0) := by rw [Lib.cell_of_heap hr7]; rfl
  have rf := fun o => Lib.frozen_of_heap hr7 o
  have HR7 : Hid (W7.heap[W.heap.size]? = some (.cells #[.slice none 0 0, .slice none 0 0, .slice none 0 0, .int .i64 0, .int .i64 0] 26 (0, 0))) := hr7
  have HB7 : Hid (Below W.heap.size W W7) := below_trans HB2.out hB7
  clear hb6 hk6 hm6 hb7 hB7 hv hW7 hr7
  go_upto_region 6 with fail
  rw [← HW7.out]
  go_wp2_with fail
  obtain ⟨Wf, hWf⟩ : ∃ Wf, Wf = ((((W7.setCell ⟨W.heap.size, 0, none⟩ (.slice a1 n1 c1)).setCell ⟨W.heap.size, 1, none⟩ (.slice a2 n2 c2)).setCell ⟨W.heap.size, 2, none⟩ (.slice a3 n3 c3)).setCell ⟨W.heap.size, 3, none⟩ (.int .i64 (prt re re.length rl 0 ⟨[nob], [-1], [[]]⟩).2)).setCell ⟨W.heap.size, 4, none⟩ (.int .i64 0) := ⟨_, rfl⟩
  have hgf : W7.grownBy Wf (some W.heap.size) := by
    rw [hWf]
    have e : ∀ A B' C : World, A.grownBy B' (some W.heap.size) → B'.grownBy C (some W.heap.size) → A.grownBy C (some W.heap.size) := fun A B' C k1 k2 => grown_up k1 k2 (fun r e => by cases e; exact .inl rfl)
    exact e _ _ _ (e _ _ _ (e _ _ _ (e _ _ _ grown_set grown_set) grown_set) grown_set) grown_set
  have hhf : Wf.heap[W.heap.size]? = some (.cells #[.slice a1 n1 c1, .slice a2 n2 c2, .slice a3 n3 c3, .int .i64 (prt re re.length rl 0 ⟨[nob], [-1], [[]]⟩).2, .int .i64 0] 26 (0, 0)) := by
    rw [hWf, blk_set _ (blk_set _ (blk_set _ (blk_set _ (blk_set _ HR7.out))))]
    rfl
  rw [← hWf]
  have q0 : Wf.cell? ⟨W.heap.size, 0, none⟩ = some (.slice a1 n1 c1) := by rw [Lib.cell_of_heap hhf]; rfl
  have q1 : Wf.cell? ⟨W.heap.size, 1, none⟩ = some (.slice a2 n2 c2) := by rw [Lib.cell_of_heap hhf]; rfl
  have q2 : Wf.cell? ⟨W.heap.size, 2, none⟩ = some (.slice a3 n3 c3) := by rw [Lib.cell_of_heap hhf]; rfl
  have q3 : Wf.cell? ⟨W.heap.size, 3, none⟩ = some (.int .i64 (prt re re.length rl 0 ⟨[nob], [-1], [[]]⟩).2) := by rw [Lib.cell_of_heap hhf]; rfl
  have q4 : Wf.cell? ⟨W.heap.size, 4, none⟩ = some (.int .i64 0) := by rw [Lib.cell_of_heap hhf]; rfl
  have hlow : W.heap.size < w2.heap.size := lt_of_heap HR2.out
  have hpf := (HV.out.low hgf hlow).parts (prt re re.length rl 0 ⟨[nob], [-1], [[]]⟩).2 0
  have hmc : mcOf re = ⟨(prt re re.length rl 0 ⟨[nob], [-1], [[]]⟩).1.on, (prt re re.length rl 0 ⟨[nob], [-1], [[]]⟩).1.tos, (prt re re.length rl 0 ⟨[nob], [-1], [[]]⟩).1.frs, (prt re re.length rl 0 ⟨[nob], [-1], [[]]⟩).2, 0⟩ := by unfold mcOf; rw [HRL.out]
  rw [hmc]
  refine bodyPost_ret (v := .agg #[.slice a1 n1 c1, .slice a2 n2 c2, .slice a3 n3 c3, .int .i64 (prt re re.length rl 0 ⟨[nob], [-1], [[]]⟩).2, .int .i64 0]) ?_ rfl ⟨⟨_, _, _, rfl, hpf⟩, HB7.out.grown hgf HB7.out.size (fun k e => by cases e; exact Nat.le_refl _)⟩
  rw [results_cell1 rfl]
  clear hpf hmc hgf hhf hWf
  go_simp
end Go.Proofs.Ytkjljnneghnpiaa
