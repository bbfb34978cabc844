import Derived.Test.YtkjcnnecdclgfaaDoorGpd
namespace Go.Proofs.YtkjcnnecdclgfaaDoor
open Go.RowKit Go.Shelf

abbrev PtV (X : Pt) : Value := .agg #[.bool X.nl, .int .u64 (wd X.fs 0 : Nat), .int .u64 (wd X.fs 1 : Nat), .int .u64 (wd X.ls 0 : Nat), .int .u64 (wd X.ls 1 : Nat)]
/-- A part in a block of its own. -/
structure Bq (W : World) (b : Nat) (X : Pt) : Prop where
  c0 : W.cell? ⟨b, 0, none⟩ = some (.bool X.nl)
  fs : Bp W b 1 X.fs
  ls : Bp W b 3 X.ls
  fr : ∀ i, W.frozen? ⟨b, i, none⟩ = false
theorem Bq.new (w : World) (X : Pt) (t : TypeId) : Bq (w.alloc (.cells #[.bool X.nl, .int .u64 (wd X.fs 0 : Nat), .int .u64 (wd X.fs 1 : Nat), .int .u64 (wd X.ls 0 : Nat), .int .u64 (wd X.ls 1 : Nat)] t)) w.heap.size X := by
  refine ⟨?_, ⟨?_, ?_⟩, ⟨?_, ?_⟩, fun i => fr_up (Below.refl _ _) i⟩
  all_goals (rw [World.cell?_alloc_at _ _ _ _ (by simp)]; rfl)
theorem Bq.lt {W : World} {b : Nat} {X : Pt} (h : Bq W b X) : b < W.heap.size := cell_lt h.c0
theorem Bq.same {W W' : World} {b : Nat} {X : Pt} (h : Bq W b X) (e : W'.heap[b]? = W.heap[b]?) : Bq W' b X :=
  ⟨by rw [World.cell?_of_block (a := ⟨b, 0, none⟩) e]; exact h.c0, h.fs.same e, h.ls.same e, fun o => by rw [World.frozen?_of_block (a := ⟨b, o, none⟩) e]; exact h.fr o⟩
theorem Bq.mono {W W' : World} {b : Nat} {X : Pt} (h : Bq W b X) (hb : Below W.heap.size W W') : Bq W' b X := h.same (hb.block b h.lt)
theorem Bq.up {W : World} {b : Nat} {X : Pt} (h : Bq W b X) (o : Obj) : Bq (W.alloc o) b X := h.mono (bel_up _ _)
theorem Bq.grown {W W' : World} {b c : Nat} {X : Pt} (h : Bq W b X) (hg : W.grownBy W' (some c)) (hne : c ≠ b) : Bq W' b X := h.same (hg.block b h.lt (by simp; exact fun e => hne e.symm))
theorem Bp.keep {W W' : World} {b o q : Nat} {m : Nat → Bool} (h : Bp W b q m) (k : Pu b o W W') (hd : q + 1 < o ∨ o + 1 < q) : Bp W' b q m :=
  ⟨by rw [k.c q (by omega) (by omega)]; exact h.c0, by rw [k.c (q + 1) (by omega) (by omega)]; exact h.c1⟩
theorem Bq.addF {W W' : World} {b : Nat} {X : Pt} {m : Nat → Bool} (h : Bq W b X) (k : Pu b 1 W W') (hm : Bp W' b 1 m) : Bq W' b ⟨X.nl, m, X.ls⟩ :=
  ⟨by rw [k.c 0 (by omega) (by omega)]; exact h.c0, hm, h.ls.keep k (.inr (by omega)), fun i => (k.f i).trans (h.fr i)⟩
theorem Bq.addL {W W' : World} {b : Nat} {X : Pt} {m : Nat → Bool} (h : Bq W b X) (k : Pu b 3 W W') (hm : Bp W' b 3 m) : Bq W' b ⟨X.nl, X.fs, m⟩ :=
  ⟨by rw [k.c 0 (by omega) (by omega)]; exact h.c0, h.fs.keep k (.inl (by omega)), hm, fun i => (k.f i).trans (h.fr i)⟩
theorem Bp.set0 {W : World} {b q : Nat} {m : Nat → Bool} (h : Bp W b q m) (hq : 0 < q) (v : Value) : Bp (W.setCell ⟨b, 0, none⟩ v) b q m :=
  ⟨by rw [World.cell?_setCell_other _ _ _ _ (by intro e; injection e; omega)]; exact h.c0, by rw [World.cell?_setCell_other _ _ _ _ (by intro e; injection e; omega)]; exact h.c1⟩
theorem Bq.set {W : World} {b : Nat} {X : Pt} (h : Bq W b X) (v : Bool) : Bq (W.setCell ⟨b, 0, none⟩ (.bool v)) b ⟨v, X.fs, X.ls⟩ :=
  ⟨World.cell?_setCell_same' _ _ _ (by rw [h.c0]; rfl), h.fs.set0 (by omega) _, h.ls.set0 (by omega) _, fun i => by rw [World.frozen?_setCell]; exact h.fr i⟩
theorem Bq.cells {W : World} {b : Nat} {X : Pt} (h : Bq W b X) : W.cell? ⟨b, 0, none⟩ = some (.bool X.nl) ∧ W.cell? ⟨b, 1, none⟩ = some (.int .u64 (wd X.fs 0 : Nat)) ∧ W.cell? ⟨b, 2, none⟩ = some (.int .u64 (wd X.fs 1 : Nat)) ∧ W.cell? ⟨b, 3, none⟩ = some (.int .u64 (wd X.ls 0 : Nat)) ∧ W.cell? ⟨b, 4, none⟩ = some (.int .u64 (wd X.ls 1 : Nat)) ∧ W.frozen? ⟨b, 0, none⟩ = false ∧ W.frozen? ⟨b, 1, none⟩ = false ∧ W.frozen? ⟨b, 2, none⟩ = false ∧ W.frozen? ⟨b, 3, none⟩ = false ∧ W.frozen? ⟨b, 4, none⟩ = false :=
  ⟨h.c0, h.fs.c0, h.fs.c1, h.ls.c0, h.ls.c1, h.fr 0, h.fr 1, h.fr 2, h.fr 3, h.fr 4⟩
theorem below_put {B : Nat} {A W W' : World} {b : Nat} (h : Below B A W) (hg : W.grownBy W' (some b)) (hB : B ≤ b) (hs : B ≤ W.heap.size) : Below B A W' :=
  h.grown hg hs (fun k e => by cases e; exact hB)
theorem below_set5 {B : Nat} {A W : World} {b : Nat} (h : Below B A W) (hB : B ≤ b) (x0 x1 x2 x3 x4 : Value) : Below B A (((((W.setCell ⟨b, 0, none⟩ x0).setCell ⟨b, 1, none⟩ x1).setCell ⟨b, 2, none⟩ x2).setCell ⟨b, 3, none⟩ x3).setCell ⟨b, 4, none⟩ x4) :=
  Below.setCell (Below.setCell (Below.setCell (Below.setCell (Below.setCell h hB _) hB _) hB _) hB _) hB _
/-- The three blocks of either and row. -/
theorem three (w : World) (A B : Pt) : ∃ W, W = ((w.alloc (.cells #[.bool A.nl, .int .u64 (wd A.fs 0 : Nat), .int .u64 (wd A.fs 1 : Nat), .int .u64 (wd A.ls 0 : Nat), .int .u64 (wd A.ls 1 : Nat)] 70)).alloc (.cells #[.bool B.nl, .int .u64 (wd B.fs 0 : Nat), .int .u64 (wd B.fs 1 : Nat), .int .u64 (wd B.ls 0 : Nat), .int .u64 (wd B.ls 1 : Nat)] 70)).alloc (.cells #[.bool false, .int .u64 0, .int .u64 0, .int .u64 0, .int .u64 0] 70) ∧ Bq W w.heap.size A ∧ Bq W (w.heap.size + 1) B ∧ Bq W (w.heap.size + 1 + 1) ptN ∧ Below w.heap.size w W := by
  refine ⟨_, rfl, ((Bq.new w A 70).up _).up _, ?_, ?_, below_trans (below_trans (bel_up _ _) (bel_up _ _)) (bel_up _ _)⟩
  · have h := Bq.new (w.alloc (.cells #[.bool A.nl, .int .u64 (wd A.fs 0 : Nat), .int .u64 (wd A.fs 1 : Nat), .int .u64 (wd A.ls 0 : Nat), .int .u64 (wd A.ls 1 : Nat)] 70)) B 70
    rw [World.size_alloc] at h
    exact h.up _
  · have h := Bq.new ((w.alloc (.cells #[.bool A.nl, .int .u64 (wd A.fs 0 : Nat), .int .u64 (wd A.fs 1 : Nat), .int .u64 (wd A.ls 0 : Nat), .int .u64 (wd A.ls 1 : Nat)] 70)).alloc (.cells #[.bool B.nl, .int .u64 (wd B.fs 0 : Nat), .int .u64 (wd B.fs 1 : Nat), .int .u64 (wd B.ls 0 : Nat), .int .u64 (wd B.ls 1 : Nat)] 70)) ptN 70
    rw [World.size_alloc, World.size_alloc] at h
    simp only [ptN, wd_none] at h
    exact h

set_option maxRecDepth 100000 in
set_option maxHeartbeats 4000000 in
theorem either_any (A B : Pt) (w : World) : Calls Tryd.prog 45 #[PtV A, PtV B] w fun e w' => e = .returned (PtV (ptOr A B)) ∧ Below w.heap.size w w' := by
  go_enter Tryd.func45, Tryd.ntmps45
  go_upto_region 1 with fail
  obtain ⟨W, hW, hA, hB, hN, hL⟩ := three w A B
  rw [← hW]
  have HA : Hid (Bq W w.heap.size A) := hA
  have HB : Hid (Bq W (w.heap.size + 1) B) := hB
  have HN : Hid (Bq W (w.heap.size + 1 + 1) ptN) := hN
  have HL : Hid (Below w.heap.size w W) := hL
  have a0 := hA.c0
  have af := hA.fr 0
  have b0 := hB.c0
  clear hW hA hB hN hL
  obtain ⟨an, han⟩ : ∃ an, A.nl = an := ⟨_, rfl⟩
  cases an
  · have HA1 : Hid (Bq (W.setCell ⟨w.heap.size, 0, none⟩ (.bool B.nl)) w.heap.size ⟨B.nl, A.fs, A.ls⟩) := HA.out.set B.nl
    have HB1 : Hid (Bq (W.setCell ⟨w.heap.size, 0, none⟩ (.bool B.nl)) (w.heap.size + 1) B) := HB.out.grown (grown_set _ _ _ _) (by omega)
    have HN1 : Hid (Bq (W.setCell ⟨w.heap.size, 0, none⟩ (.bool B.nl)) (w.heap.size + 1 + 1) ptN) := HN.out.grown (grown_set _ _ _ _) (by omega)
    have HL1 : Hid (Below w.heap.size w (W.setCell ⟨w.heap.size, 0, none⟩ (.bool B.nl))) := HL.out.setCell (Nat.le_refl _) _
    rw [han] at a0
    go_wp2_with fail
    obtain ⟨W1, hW1⟩ : ∃ W1, W1 = W.setCell ⟨w.heap.size, 0, none⟩ (.bool B.nl) := ⟨_, rfl⟩
    rw [← hW1] at HA1 HB1 HN1 HL1 ⊢
    clear hW1 a0 af b0
    refine (padd_any w.heap.size 1 (w.heap.size + 1) 1 A.fs B.fs W1 HA1.out.fs HB1.out.fs HA1.out.fr (by omega)).mono ?_
    rintro e W2 ⟨⟨v, rfl⟩, hb2, hu2⟩
    have HA2 : Hid (Bq W2 w.heap.size ⟨B.nl, fun k => A.fs k || B.fs k, A.ls⟩) := HA1.out.addF hu2 hb2
    have HB2 : Hid (Bq W2 (w.heap.size + 1) B) := HB1.out.grown hu2.gr (by omega)
    have HN2 : Hid (Bq W2 (w.heap.size + 1 + 1) ptN) := HN1.out.grown hu2.gr (by omega)
    have HL2 : Hid (Below w.heap.size w W2) := below_put HL1.out hu2.gr (Nat.le_refl _) HL1.out.size
    clear hb2 hu2
    go_wp2_with fail
    refine (padd_any w.heap.size 3 (w.heap.size + 1) 3 A.ls B.ls W2 HA2.out.ls HB2.out.ls HA2.out.fr (by omega)).mono ?_
    rintro e W3 ⟨⟨v, rfl⟩, hb3, hu3⟩
    have HA3 : Hid (Bq W3 w.heap.size ⟨B.nl, fun k => A.fs k || B.fs k, fun k => A.ls k || B.ls k⟩) := HA2.out.addL hu3 hb3
    have HN3 : Hid (Bq W3 (w.heap.size + 1 + 1) ptN) := HN2.out.grown hu3.gr (by omega)
    have HL3 : Hid (Below w.heap.size w W3) := below_put HL2.out hu3.gr (Nat.le_refl _) HL2.out.size
    clear hb3 hu3
    obtain ⟨a0, a1, a2, a3, a4, -, -, -, -, -⟩ := HA3.out.cells
    obtain ⟨n0, n1, n2, n3, n4, m0, m1, m2, m3, m4⟩ := HN3.out.cells
    go_wp2_with fail
    refine bodyPost_ret (v := PtV ⟨B.nl, fun k => A.fs k || B.fs k, fun k => A.ls k || B.ls k⟩) ?_ rfl ⟨?_, ?_⟩
    · rw [results_cell1 rfl]; go_simp
    · simp only [ptOr, han, Bool.false_or]
    · exact below_set5 HL3.out (by omega) _ _ _ _ _
  · have HA1 : Hid (Bq (W.setCell ⟨w.heap.size, 0, none⟩ (.bool true)) w.heap.size ⟨true, A.fs, A.ls⟩) := HA.out.set true
    have HB1 : Hid (Bq (W.setCell ⟨w.heap.size, 0, none⟩ (.bool true)) (w.heap.size + 1) B) := HB.out.grown (grown_set _ _ _ _) (by omega)
    have HN1 : Hid (Bq (W.setCell ⟨w.heap.size, 0, none⟩ (.bool true)) (w.heap.size + 1 + 1) ptN) := HN.out.grown (grown_set _ _ _ _) (by omega)
    have HL1 : Hid (Below w.heap.size w (W.setCell ⟨w.heap.size, 0, none⟩ (.bool true))) := HL.out.setCell (Nat.le_refl _) _
    rw [han] at a0
    go_wp2_with fail
    obtain ⟨W1, hW1⟩ : ∃ W1, W1 = W.setCell ⟨w.heap.size, 0, none⟩ (.bool true) := ⟨_, rfl⟩
    rw [← hW1] at HA1 HB1 HN1 HL1 ⊢
    clear hW1 a0 af b0
    refine (padd_any w.heap.size 1 (w.heap.size + 1) 1 A.fs B.fs W1 HA1.out.fs HB1.out.fs HA1.out.fr (by omega)).mono ?_
    rintro e W2 ⟨⟨v, rfl⟩, hb2, hu2⟩
    have HA2 : Hid (Bq W2 w.heap.size ⟨true, fun k => A.fs k || B.fs k, A.ls⟩) := HA1.out.addF hu2 hb2
    have HB2 : Hid (Bq W2 (w.heap.size + 1) B) := HB1.out.grown hu2.gr (by omega)
    have HN2 : Hid (Bq W2 (w.heap.size + 1 + 1) ptN) := HN1.out.grown hu2.gr (by omega)
    have HL2 : Hid (Below w.heap.size w W2) := below_put HL1.out hu2.gr (Nat.le_refl _) HL1.out.size
    clear hb2 hu2
    go_wp2_with fail
    refine (padd_any w.heap.size 3 (w.heap.size + 1) 3 A.ls B.ls W2 HA2.out.ls HB2.out.ls HA2.out.fr (by omega)).mono ?_
    rintro e W3 ⟨⟨v, rfl⟩, hb3, hu3⟩
    have HA3 : Hid (Bq W3 w.heap.size ⟨true, fun k => A.fs k || B.fs k, fun k => A.ls k || B.ls k⟩) := HA2.out.addL hu3 hb3
    have HN3 : Hid (Bq W3 (w.heap.size + 1 + 1) ptN) := HN2.out.grown hu3.gr (by omega)
    have HL3 : Hid (Below w.heap.size w W3) := below_put HL2.out hu3.gr (Nat.le_refl _) HL2.out.size
    clear hb3 hu3
    obtain ⟨a0, a1, a2, a3, a4, -, -, -, -, -⟩ := HA3.out.cells
    obtain ⟨n0, n1, n2, n3, n4, m0, m1, m2, m3, m4⟩ := HN3.out.cells
    go_wp2_with fail
    refine bodyPost_ret (v := PtV ⟨true, fun k => A.fs k || B.fs k, fun k => A.ls k || B.ls k⟩) ?_ rfl ⟨?_, ?_⟩
    · rw [results_cell1 rfl]; go_simp
    · simp only [ptOr, han, Bool.true_or]
    · exact below_set5 HL3.out (by omega) _ _ _ _ _
end Go.Proofs.YtkjcnnecdclgfaaDoor
