import Derived.Test.YtkjljnneghnpiaaRni
namespace Go.Proofs.Ytkjljnneghnpiaa
open Go.RowKit Go.Maps

theorem Sh.clss {B : Nat} {W : World} {v : Value} {l : List (Nat → Bool)} (h : Sh B W 40 4 v l.length l.length (onC l)) : Clss W.heap.size W v l := by
  by_cases hl : 0 < l.length
  · obtain ⟨g, cap, rfl, _, hg⟩ := h.shape2 hl
    refine ⟨_, g, 0, cap, rfl, fun _ => ⟨rfl, hg⟩, fun i hi k hk => ?_⟩
    rw [Nat.zero_add]
    exact h.cell (onC_get l i hi k hk)
  · obtain ⟨a, cap, e, _, _⟩ := h
    exact ⟨a, 0, 0, cap, e, fun hn => absurd (List.length_pos_iff.2 hn) hl, fun i hi => by omega⟩
theorem Sh.ints {B : Nat} {W : World} {v : Value} {l : List Int} (h : Sh B W 3 1 v l.length l.length (iC l)) : Ints W.heap.size W v l := by
  by_cases hl : 0 < l.length
  · obtain ⟨g, cap, rfl, _, hg⟩ := h.shape2 hl
    refine ⟨_, g, 0, cap, rfl, fun _ => ⟨rfl, hg⟩, fun i hi => ?_⟩
    rw [Nat.zero_add]
    have := iC_in l [] i hi
    rw [List.append_nil] at this
    exact h.cell this
  · obtain ⟨a, cap, e, _, _⟩ := h
    exact ⟨a, 0, 0, cap, e, fun hn => absurd (List.length_pos_iff.2 hn) hl, fun i hi => by omega⟩
theorem Tr.parts {B : Nat} {W : World} {N : Mc} {fvs : List Value} {xo xt xf : Value} (h : Tr B W N.on N.tos fvs N.free (N.free.map List.length) xo N.on.length xt N.tos.length xf N.free.length) : Parts W.heap.size W xo xt xf N := by
  refine ⟨h.on.clss, h.tos.ints, ?_⟩
  have hlf := h.len
  by_cases hl : 0 < N.free.length
  · have hf := h.fr
    obtain ⟨g, cap, e, _, hg⟩ := hf.shape2 (by omega)
    rw [e] at hf
    refine ⟨_, g, 0, cap, e, fun _ => ⟨rfl, hg⟩, fun i hi => ?_⟩
    rw [Nat.zero_add]
    have he := h.el i (by omega)
    have hn : (N.free.map List.length).getD i 0 = (N.free.getD i []).length := by
      rw [List.getD_eq_getElem?_getD, List.getElem?_map, getD_some _ [] i hi]; rfl
    rw [hn] at he
    exact ⟨_, hf.cell (getD_some fvs undef i (by omega)), he.ints⟩
  · obtain ⟨a, cap, e, _, _⟩ := h.fr
    exact ⟨a, 0, 0, cap, e, fun hn => absurd (List.length_pos_iff.2 hn) hl, fun i hi => by omega⟩
theorem runs_uniq {N : Mc} {t : ByteArray} {at_ x y x' y' : Int} (h : RunS N t at_ x y) (h' : RunS N t at_ x' y') : x = x' ∧ y = y' := by
  rcases h with ⟨h0, h1, h2⟩ | ⟨a, ha, hle, e, f, hA, hx, hy⟩ <;> rcases h' with ⟨k0, k1, k2⟩ | ⟨b, hb, hle', e', f', hA', hx', hy'⟩
  · exact ⟨by omega, by omega⟩
  · exfalso; omega
  · exfalso; omega
  · have : a = b := by omega
    subst this
    obtain ⟨e1, e2⟩ := hA.one hA'
    subst e1 e2
    exact ⟨hx.trans hx'.symm, hy.trans hy'.symm⟩
set_option maxRecDepth 100000 in
set_option maxHeartbeats 8000000 in
theorem nfaRuns_any {vo vt vf : Value} {N : Mc} (hs : Small N) (t : ByteArray) (ht : t.size ≤ 100000000000) (at_ : Int) (w : World) (hp : Parts w.heap.size w vo vt vf N) :
    Calls Try.prog 3 #[nfW vo vt vf N, .string t, .int .i64 at_] w fun e w' => e = .returned (.bool true) ∧ Below w.heap.size w w' := by
  have HS : Hid (Small N) := hs
  have HT : Hid (t.size ≤ 100000000000) := ht
  obtain ⟨W1, hW1⟩ : ∃ W1, W1 = w.alloc (.cells #[vo, vt, vf, .int .i64 N.start, .int .i64 N.fin] 26) := ⟨_, rfl⟩
  have HB1 : Hid (Below w.heap.size w W1) := by rw [hW1]; exact bel_up _ _
  have HX : Hid (∀ W, Below W1.heap.size W1 W → Bx5 W w.heap.size vo vt vf N.start N.fin) := fun W hW => Bx5.mono (by rw [hW1]; exact Bx5.new w vo vt vf N.start N.fin 26) hW
  have HP : Hid (∀ W, Below W1.heap.size W1 W → Parts W.heap.size W vo vt vf N) := fun W hW => hp.mono (below_trans HB1.out hW) (below_trans HB1.out hW).size
  obtain ⟨b1, d1, b2, d2, b3, d3, rfl, rfl, rfl⟩ := hp.shape
  have HW1 : Hid _ := hW1
  have HC1 : Hid _ := lent_any HS.out W1 (HP.out W1 (Below.refl _ _))
  clear hp hW1 hs ht
  go_enter Try.func3, Try.ntmps3
  go_upto_region 1 with fail
  rw [← HW1.out]
  clear HW1
  obtain ⟨x0, x1, x2, x3, x4⟩ := HX.out W1 (Below.refl _ _)
  go_wp2_with fail
  refine Calls.mono HC1.out ?_
  rintro e w2 ⟨fvs, xo, xt, xf, rfl, htr, hb2⟩
  obtain ⟨g1, q1, g2, q2, g3, q3, rfl, rfl, rfl, _, _⟩ := htr.lent
  have HLN : Hid (∀ W, Below w2.heap.size w2 W → Ln W N g1 q1 g2 q2 g3 q3 ∧ Parts W.heap.size W (.slice (some ⟨g1, 0, none⟩) N.on.length q1) (.slice (some ⟨g2, 0, none⟩) N.tos.length q2) (.slice (some ⟨g3, 0, none⟩) N.free.length q3) N) := fun W hW => by
    obtain ⟨h1, r1, h2, r2, h3, r3, e1, e2, e3, l1, l2⟩ := (htr.below hW).lent
    injection e1 with e1 _ f1
    injection e2 with e2 _ f2
    injection e3 with e3 _ f3
    injection e1 with e1
    injection e1 with e1
    injection e2 with e2
    injection e2 with e2
    injection e3 with e3
    injection e3 with e3
    subst e1 e2 e3 f1 f2 f3
    exact ⟨l1, l2⟩
  have HB2 : Hid (Below W1.heap.size W1 w2) := hb2
  clear htr hb2 HC1 x0 x1 x2 x3 x4
  obtain ⟨W3, hW3⟩ : ∃ W3, W3 = w2.alloc (.cells #[.slice (some ⟨g1, 0, none⟩) N.on.length q1, .slice (some ⟨g2, 0, none⟩) N.tos.length q2, .slice (some ⟨g3, 0, none⟩) N.free.length q3, .int .i64 N.start, .int .i64 N.fin] 26) := ⟨_, rfl⟩
  obtain ⟨k1, hk1⟩ : ∃ k, w2.heap.size = k := ⟨_, rfl⟩
  have HB3 : Hid (Below w2.heap.size w2 W3) := by rw [hW3]; exact bel_up _ _
  have HXI : Hid (∀ W, Below W3.heap.size W3 W → Bx5 W k1 (.slice (some ⟨g1, 0, none⟩) N.on.length q1) (.slice (some ⟨g2, 0, none⟩) N.tos.length q2) (.slice (some ⟨g3, 0, none⟩) N.free.length q3) N.start N.fin) := fun W hW => Bx5.mono (by rw [hW3, ← hk1]; exact Bx5.new w2 _ _ _ N.start N.fin 26) hW
  have HB13 : Hid (Below W1.heap.size W1 W3) := below_trans HB2.out HB3.out
  have HC2 : Hid _ := twin_any HS.out W3 (HP.out W3 HB13.out)
  have HW3 : Hid _ := hW3
  have HK1 : Hid (w2.heap.size = k1) := hk1
  clear hW3 hk1
  go_upto_region 2 with fail
  rw [← HW3.out, HK1.out]
  clear HW3 HK1
  obtain ⟨x0, x1, x2, x3, x4⟩ := HX.out W3 HB13.out
  go_wp2_with fail
  refine Calls.mono HC2.out ?_
  rintro e w4 ⟨fvs2, yo, yt, yf, rfl, htr, hb4⟩
  have HPY : Hid (∀ W, Below w4.heap.size w4 W → Parts W.heap.size W yo yt yf N) := fun W hW => htr.parts.mono hW hW.size
  obtain ⟨c1, r1, c2, r2, c3, r3, rfl, rfl, rfl⟩ := htr.parts.shape
  have HB4 : Hid (Below W3.heap.size W3 w4) := hb4
  clear htr hb4 HC2 x0 x1 x2 x3 x4
  obtain ⟨W5, hW5⟩ : ∃ W5, W5 = w4.alloc (.cells #[.slice c1 N.on.length r1, .slice c2 N.tos.length r2, .slice c3 N.free.length r3, .int .i64 N.start, .int .i64 N.fin] 26) := ⟨_, rfl⟩
  obtain ⟨k2, hk2⟩ : ∃ k, w4.heap.size = k := ⟨_, rfl⟩
  have HB5 : Hid (Below w4.heap.size w4 W5) := by rw [hW5]; exact bel_up _ _
  have HXY : Hid (∀ W, Below W5.heap.size W5 W → Bx5 W k2 (.slice c1 N.on.length r1) (.slice c2 N.tos.length r2) (.slice c3 N.free.length r3) N.start N.fin) := fun W hW => Bx5.mono (by rw [hW5, ← hk2]; exact Bx5.new w4 _ _ _ N.start N.fin 26) hW
  have HB35 : Hid (Below W3.heap.size W3 W5) := below_trans HB4.out HB5.out
  have HC3 : Hid _ := rrun_any HS.out t HT.out at_ W5 (HPY.out W5 HB5.out)
  have HW5 : Hid _ := hW5
  have HK2 : Hid (w4.heap.size = k2) := hk2
  clear hW5 hk2
  go_upto_region 3 with fail
  rw [← HW5.out, HK2.out]
  clear HW5 HK2
  obtain ⟨x0, x1, x2, x3, x4⟩ := HXY.out W5 (Below.refl _ _)
  go_wp2_with fail
  refine Calls.mono HC3.out ?_
  rintro e w6 ⟨⟨x, y, rfl, hr⟩, hb6⟩
  have HR1 : Hid (RunS N t at_ x y) := hr
  have HB6 : Hid (Below W5.heap.size W5 w6) := hb6
  have HC4 : Hid _ := raccepts_any HS.out t HT.out w6 (HPY.out w6 (below_trans HB5.out hb6))
  clear hr hb6 HC3 x0 x1 x2 x3 x4
  obtain ⟨x0, x1, x2, x3, x4⟩ := HXY.out w6 HB6.out
  go_wp2_with fail
  refine Calls.mono HC4.out ?_
  rintro e w7 ⟨⟨da, rfl, hda⟩, hb7⟩
  have HDA : Hid (da = true ↔ N.Tk (byt t)) := hda
  have HB7 : Hid (Below W5.heap.size W5 w7) := below_trans HB6.out hb7
  have HB37 : Hid (Below W3.heap.size W3 w7) := below_trans HB35.out HB7.out
  have HC5 : Hid _ := accepts_any HS.out t HT.out w7 (HLN.out w7 (below_trans HB3.out HB37.out)).2
  clear hda hb7 HC4 x0 x1 x2 x3 x4
  obtain ⟨x0, x1, x2, x3, x4⟩ := HXI.out w7 HB37.out
  go_wp2_with fail
  refine Calls.mono HC5.out ?_
  rintro e w8 ⟨⟨db, rfl, hdb⟩, hb8⟩
  have hd : db = da := by
    have h := HDA.out
    cases da <;> cases db
    · rfl
    · exact absurd (h.2 (hdb.1 rfl)) (by decide)
    · exact absurd (hdb.2 (h.1 rfl)) (by decide)
    · rfl
  subst hd
  have HB38 : Hid (Below W3.heap.size W3 w8) := below_trans HB37.out hb8
  have HC6 : Hid _ := run_any HS.out t HT.out at_ w8 (HLN.out w8 (below_trans HB3.out HB38.out)).2
  clear hdb hb8 HC5 x0 x1 x2 x3 x4 HDA
  obtain ⟨x0, x1, x2, x3, x4⟩ := HXI.out w8 HB38.out
  go_wp2_with fail
  refine Calls.mono HC6.out ?_
  rintro e w9 ⟨⟨x', y', rfl, hr'⟩, hb9⟩
  obtain ⟨h1, h2⟩ := runs_uniq hr' HR1.out
  subst h1 h2
  have HB39 : Hid (Below W3.heap.size W3 w9) := below_trans HB38.out hb9
  have HB19 : Hid (Below W1.heap.size W1 w9) := below_trans HB13.out HB39.out
  have HC7 : Hid _ := still_any HS.out w9 (fun W hW => HLN.out W (below_trans (below_trans HB3.out HB39.out) hW)) (HP.out w9 HB19.out)
  clear hr' hb9 HC6 x0 x1 x2 x3 x4 HR1
  obtain ⟨x0, x1, x2, x3, x4⟩ := HXI.out w9 HB39.out
  obtain ⟨z0, z1, z2, z3, z4⟩ := HX.out w9 HB19.out
  have hdd : (db == db) = true := by simp
  have hxx : (x' == x') = true := by simp
  have hyy : (y' == y') = true := by simp
  go_wp2_with fail
  refine Calls.mono HC7.out ?_
  rintro e w10 ⟨rfl, hb10⟩
  have HBF : Hid (Below w.heap.size w w10) := below_trans HB1.out (below_trans HB19.out hb10)
  clear hb10 HC7
  go_wp2_with fail
  go_ret
  exact ⟨rfl, HBF.out⟩
end Go.Proofs.Ytkjljnneghnpiaa
