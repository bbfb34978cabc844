import Derived.Test.YtkjcnnecdclgfaaDoorGpe
namespace Go.Proofs.YtkjcnnecdclgfaaDoor
open Go.RowKit Go.Shelf

theorem grown_of {w W : World} (b : Nat) (h : Below w.heap.size w W) : w.grownBy W (some b) := ⟨h.os, h.tape, h.output, h.size, fun k hk _ => h.block k hk⟩
theorem Wm.other {W W' : World} {b c : Nat} {S : Wy} (h : Wm W b S) (hg : W.grownBy W' (some c)) (hne : c ≠ b) : Wm W' b S := h.same (hg.block b h.lt (by simp; exact fun e => hne e.symm))
theorem Dbt.grown {W W' : World} {b : Nat} (h : Dbt W) (hg : W.grownBy W' (some b)) (hb : b ≠ 0) : Dbt W' := h.same (hg.block 0 h.pos (by simp; exact fun e => hb e.symm))
theorem grown_set5 (W : World) (b : Nat) (x0 x1 x2 x3 x4 : Value) : W.grownBy (((((W.setCell ⟨b, 0, none⟩ x0).setCell ⟨b, 1, none⟩ x1).setCell ⟨b, 2, none⟩ x2).setCell ⟨b, 3, none⟩ x3).setCell ⟨b, 4, none⟩ x4) (some b) :=
  grown_trans (grown_trans (grown_trans (grown_trans (grown_set _ _ _ _) (grown_set _ _ _ _)) (grown_set _ _ _ _)) (grown_set _ _ _ _)) (grown_set _ _ _ _)

set_option maxRecDepth 100000 in
set_option maxHeartbeats 4000000 in
theorem row_any (b : Nat) (S : Wy) (A B : Pt) (w : World) (hW : Wm w b S) (hD : Dbt w) (hb0 : b ≠ 0) :
    Calls Tryd.prog 44 #[.pointer (some ⟨b, 0, none⟩), PtV A, PtV B] w fun e w' => e = .returned (PtV (ptCat A B)) ∧ Wm w' b ⟨S.pt, lnk S.bh A.ls B.fs⟩ ∧ w.grownBy w' (some b) := by
  have HW0 : Hid (Wm w b S) := hW
  have HD0 : Hid (Dbt w) := hD
  have HB0 : Hid (b ≠ 0) := hb0
  have HLT : Hid (b < w.heap.size) := hW.lt
  clear hW hD hb0
  go_enter Tryd.func44, Tryd.ntmps44
  go_upto_region 1 with fail
  obtain ⟨W, hW, hA, hB, hN, hL⟩ := three w A B
  rw [← hW]
  have HA : Hid (Bq W w.heap.size A) := hA
  have HB : Hid (Bq W (w.heap.size + 1) B) := hB
  have HN : Hid (Bq W (w.heap.size + 1 + 1) ptN) := hN
  have HL : Hid (Below w.heap.size w W) := hL
  have HW : Hid (Wm W b S) := HW0.out.same (hL.block b HLT.out)
  have HD : Hid (Dbt W) := HD0.out.up hL
  obtain ⟨-, -, -, a3, a4, -⟩ := hA.cells
  obtain ⟨-, b1, b2, -⟩ := hB.cells
  clear hW hA hB hN hL HW0 HD0
  go_wp2_with fail
  refine (link_any b S A.ls B.fs W HW.out HD.out HB0.out).mono ?_
  rintro e W1 ⟨⟨v, rfl⟩, hw1, hg1⟩
  have HA1 : Hid (Bq W1 w.heap.size A) := HA.out.grown hg1 (by have := HLT.out; omega)
  have HB1 : Hid (Bq W1 (w.heap.size + 1) B) := HB.out.grown hg1 (by have := HLT.out; omega)
  have HN1 : Hid (Bq W1 (w.heap.size + 1 + 1) ptN) := HN.out.grown hg1 (by have := HLT.out; omega)
  have HG1 : Hid (w.grownBy W1 (some b)) := grown_trans (grown_of b HL.out) hg1
  have HW1 : Hid (Wm W1 b ⟨S.pt, lnk S.bh A.ls B.fs⟩) := hw1
  clear hw1 hg1 a3 a4 b1 b2
  obtain ⟨an, han⟩ : ∃ an, A.nl = an := ⟨_, rfl⟩
  obtain ⟨bn, hbn⟩ : ∃ bn, B.nl = bn := ⟨_, rfl⟩
  cases an
  · cases bn
    · have a0 := HA1.out.c0
      have b0 := HB1.out.c0
      rw [hbn] at b0
      skip
      rw [han] at a0
      obtain ⟨-, a1, a2, -⟩ := HA1.out.cells
      obtain ⟨-, -, -, b3, b4, -⟩ := HB1.out.cells
      obtain ⟨n0, n1, n2, n3, n4, m0, m1, m2, m3, m4⟩ := HN1.out.cells
      go_wp2_with fail
      refine bodyPost_ret (v := PtV ⟨false, A.fs, B.ls⟩) ?_ rfl ⟨?_, HW1.out.other (grown_set5 _ _ _ _ _ _ _) (by have := HLT.out; omega), grown_row HG1.out (grown_set5 _ _ _ _ _ _ _) (fun r e => by cases e; omega)⟩
      · rw [results_cell1 rfl]; go_simp
      · simp [ptCat, han, hbn]
    · have a0 := HA1.out.c0
      have b0 := HB1.out.c0
      rw [hbn] at b0
      rw [han] at a0
      go_wp2_with fail
      clear b0 a0
      refine (padd_any (w.heap.size + 1) 3 w.heap.size 3 B.ls A.ls W1 HB1.out.ls HA1.out.ls HB1.out.fr (by omega)).mono ?_
      rintro e W2 ⟨⟨v, rfl⟩, hb2, hu2⟩
      have HA2 : Hid (Bq W2 w.heap.size A) := HA1.out.grown hu2.gr (by omega)
      have HB2 : Hid (Bq W2 (w.heap.size + 1) ⟨B.nl, B.fs, fun k => B.ls k || A.ls k⟩) := HB1.out.addL hu2 hb2
      have HN2 : Hid (Bq W2 (w.heap.size + 1 + 1) ptN) := HN1.out.grown hu2.gr (by omega)
      have HG2 : Hid (w.grownBy W2 (some b)) := grown_row HG1.out hu2.gr (fun r e => by cases e; omega)
      have HW2 : Hid (Wm W2 b ⟨S.pt, lnk S.bh A.ls B.fs⟩) := HW1.out.other hu2.gr (by have := HLT.out; omega)
      clear hb2 hu2
      have a0 := HA2.out.c0
      have b0 := HB2.out.c0
      dsimp only at b0
      rw [hbn] at b0
      skip
      rw [han] at a0
      obtain ⟨-, a1, a2, -⟩ := HA2.out.cells
      obtain ⟨-, -, -, b3, b4, -⟩ := HB2.out.cells
      obtain ⟨n0, n1, n2, n3, n4, m0, m1, m2, m3, m4⟩ := HN2.out.cells
      go_wp2_with fail
      refine bodyPost_ret (v := PtV ⟨false, A.fs, (fun k => B.ls k || A.ls k)⟩) ?_ rfl ⟨?_, HW2.out.other (grown_set5 _ _ _ _ _ _ _) (by have := HLT.out; omega), grown_row HG2.out (grown_set5 _ _ _ _ _ _ _) (fun r e => by cases e; omega)⟩
      · rw [results_cell1 rfl]; go_simp
      · simp [ptCat, han, hbn]
  · have a0 := HA1.out.c0
    rw [han] at a0
    go_wp2_with fail
    clear a0
    refine (padd_any w.heap.size 1 (w.heap.size + 1) 1 A.fs B.fs W1 HA1.out.fs HB1.out.fs HA1.out.fr (by omega)).mono ?_
    rintro e W2 ⟨⟨v, rfl⟩, hb2, hu2⟩
    have HA2 : Hid (Bq W2 w.heap.size ⟨A.nl, fun k => A.fs k || B.fs k, A.ls⟩) := HA1.out.addF hu2 hb2
    have HB2 : Hid (Bq W2 (w.heap.size + 1) B) := HB1.out.grown hu2.gr (by omega)
    have HN2 : Hid (Bq W2 (w.heap.size + 1 + 1) ptN) := HN1.out.grown hu2.gr (by omega)
    have HG2 : Hid (w.grownBy W2 (some b)) := grown_row HG1.out hu2.gr (fun r e => by cases e; omega)
    have HW2 : Hid (Wm W2 b ⟨S.pt, lnk S.bh A.ls B.fs⟩) := HW1.out.other hu2.gr (by have := HLT.out; omega)
    clear hb2 hu2
    cases bn
    · have a0 := HA2.out.c0
      have b0 := HB2.out.c0
      rw [hbn] at b0
      dsimp only at a0
      rw [han] at a0
      obtain ⟨-, a1, a2, -⟩ := HA2.out.cells
      obtain ⟨-, -, -, b3, b4, -⟩ := HB2.out.cells
      obtain ⟨n0, n1, n2, n3, n4, m0, m1, m2, m3, m4⟩ := HN2.out.cells
      go_wp2_with fail
      refine bodyPost_ret (v := PtV ⟨false, (fun k => A.fs k || B.fs k), B.ls⟩) ?_ rfl ⟨?_, HW2.out.other (grown_set5 _ _ _ _ _ _ _) (by have := HLT.out; omega), grown_row HG2.out (grown_set5 _ _ _ _ _ _ _) (fun r e => by cases e; omega)⟩
      · rw [results_cell1 rfl]; go_simp
      · simp [ptCat, han, hbn]
    · have a0 := HA2.out.c0
      have b0 := HB2.out.c0
      rw [hbn] at b0
      clear a0
      go_wp2_with fail
      clear b0
      refine (padd_any (w.heap.size + 1) 3 w.heap.size 3 B.ls A.ls W2 HB2.out.ls HA2.out.ls HB2.out.fr (by omega)).mono ?_
      rintro e W3 ⟨⟨v, rfl⟩, hb2, hu2⟩
      have HA3 : Hid (Bq W3 w.heap.size ⟨A.nl, fun k => A.fs k || B.fs k, A.ls⟩) := HA2.out.grown hu2.gr (by omega)
      have HB3 : Hid (Bq W3 (w.heap.size + 1) ⟨B.nl, B.fs, fun k => B.ls k || A.ls k⟩) := HB2.out.addL hu2 hb2
      have HN3 : Hid (Bq W3 (w.heap.size + 1 + 1) ptN) := HN2.out.grown hu2.gr (by omega)
      have HG3 : Hid (w.grownBy W3 (some b)) := grown_row HG2.out hu2.gr (fun r e => by cases e; omega)
      have HW3 : Hid (Wm W3 b ⟨S.pt, lnk S.bh A.ls B.fs⟩) := HW2.out.other hu2.gr (by have := HLT.out; omega)
      clear hb2 hu2
      have a0 := HA3.out.c0
      have b0 := HB3.out.c0
      dsimp only at b0
      rw [hbn] at b0
      dsimp only at a0
      rw [han] at a0
      obtain ⟨-, a1, a2, -⟩ := HA3.out.cells
      obtain ⟨-, -, -, b3, b4, -⟩ := HB3.out.cells
      obtain ⟨n0, n1, n2, n3, n4, m0, m1, m2, m3, m4⟩ := HN3.out.cells
      go_wp2_with fail
      refine bodyPost_ret (v := PtV ⟨true, (fun k => A.fs k || B.fs k), (fun k => B.ls k || A.ls k)⟩) ?_ rfl ⟨?_, HW3.out.other (grown_set5 _ _ _ _ _ _ _) (by have := HLT.out; omega), grown_row HG3.out (grown_set5 _ _ _ _ _ _ _) (fun r e => by cases e; omega)⟩
      · rw [results_cell1 rfl]; go_simp
      · simp [ptCat, han, hbn]

set_option maxRecDepth 100000 in
set_option maxHeartbeats 4000000 in
theorem again_any (b : Nat) (S : Wy) (A : Pt) (op : Int) (w : World) (hW : Wm w b S) (hD : Dbt w) (hb0 : b ≠ 0) :
    Calls Tryd.prog 46 #[.pointer (some ⟨b, 0, none⟩), PtV A, .int .i64 op] w fun e w' => e = .returned (PtV (ptAg A op)) ∧ Wm w' b ⟨S.pt, if op = 7 then S.bh else lnk S.bh A.ls A.fs⟩ ∧ w.grownBy w' (some b) := by
  have HW0 : Hid (Wm w b S) := hW
  have HD0 : Hid (Dbt w) := hD
  have HB0 : Hid (b ≠ 0) := hb0
  have HLT : Hid (b < w.heap.size) := hW.lt
  clear hW hD hb0
  go_enter Tryd.func46, Tryd.ntmps46
  go_upto_region 1 with fail
  have hA := (Bq.new w A 70).up (.cells #[.bool false, .int .u64 0, .int .u64 0, .int .u64 0, .int .u64 0] 70)
  have hN : Bq ((w.alloc (.cells #[.bool A.nl, .int .u64 (wd A.fs 0 : Nat), .int .u64 (wd A.fs 1 : Nat), .int .u64 (wd A.ls 0 : Nat), .int .u64 (wd A.ls 1 : Nat)] 70)).alloc (.cells #[.bool false, .int .u64 0, .int .u64 0, .int .u64 0, .int .u64 0] 70)) (w.heap.size + 1) ptN := by
    have h := Bq.new (w.alloc (.cells #[.bool A.nl, .int .u64 (wd A.fs 0 : Nat), .int .u64 (wd A.fs 1 : Nat), .int .u64 (wd A.ls 0 : Nat), .int .u64 (wd A.ls 1 : Nat)] 70)) ptN 70
    rw [World.size_alloc] at h
    simp only [ptN, wd_none] at h
    exact h
  have hL : Below w.heap.size w ((w.alloc (.cells #[.bool A.nl, .int .u64 (wd A.fs 0 : Nat), .int .u64 (wd A.fs 1 : Nat), .int .u64 (wd A.ls 0 : Nat), .int .u64 (wd A.ls 1 : Nat)] 70)).alloc (.cells #[.bool false, .int .u64 0, .int .u64 0, .int .u64 0, .int .u64 0] 70)) := below_trans (bel_up _ _) (bel_up _ _)
  obtain ⟨W, hW⟩ : ∃ W, W = (w.alloc (.cells #[.bool A.nl, .int .u64 (wd A.fs 0 : Nat), .int .u64 (wd A.fs 1 : Nat), .int .u64 (wd A.ls 0 : Nat), .int .u64 (wd A.ls 1 : Nat)] 70)).alloc (.cells #[.bool false, .int .u64 0, .int .u64 0, .int .u64 0, .int .u64 0] 70) := ⟨_, rfl⟩
  rw [← hW] at hA hN hL ⊢
  have HA : Hid (Bq W w.heap.size A) := hA
  have HN : Hid (Bq W (w.heap.size + 1) ptN) := hN
  have HL : Hid (Below w.heap.size w W) := hL
  have HW : Hid (Wm W b S) := HW0.out.same (hL.block b HLT.out)
  have HD : Hid (Dbt W) := HD0.out.up hL
  clear hW hA hN hL HW0 HD0
  by_cases h7 : op = 7
  · subst h7
    have f0 := HA.out.fr 0
    have c0 := HA.out.c0
    have HA1 : Hid (Bq (W.setCell ⟨w.heap.size, 0, none⟩ (.bool true)) w.heap.size ⟨true, A.fs, A.ls⟩) := HA.out.set true
    have HN1 : Hid (Bq (W.setCell ⟨w.heap.size, 0, none⟩ (.bool true)) (w.heap.size + 1) ptN) := HN.out.grown (grown_set _ _ _ _) (by omega)
    have HG1 : Hid (w.grownBy (W.setCell ⟨w.heap.size, 0, none⟩ (.bool true)) (some b)) := grown_row (grown_of b HL.out) (grown_set _ _ _ _) (fun r e => by cases e; omega)
    have HW1 : Hid (Wm (W.setCell ⟨w.heap.size, 0, none⟩ (.bool true)) b S) := HW.out.other (grown_set _ _ _ _) (by have := HLT.out; omega)
    go_upto_region 5 with fail
    obtain ⟨W1, hW1⟩ : ∃ W1, W1 = W.setCell ⟨w.heap.size, 0, none⟩ (.bool true) := ⟨_, rfl⟩
    rw [← hW1] at HA1 HN1 HG1 HW1 ⊢
    clear hW1 f0 c0
    obtain ⟨a0, a1, a2, a3, a4, -⟩ := HA1.out.cells
    obtain ⟨n0, n1, n2, n3, n4, m0, m1, m2, m3, m4⟩ := HN1.out.cells
    go_wp2_with fail
    refine bodyPost_ret (v := PtV ⟨true, A.fs, A.ls⟩) ?_ rfl ⟨?_, ?_, grown_row HG1.out (grown_set5 _ _ _ _ _ _ _) (fun r e => by cases e; omega)⟩
    · rw [results_cell1 rfl]; go_simp
    · simp [ptAg]
    · exact HW1.out.other (grown_set5 _ _ _ _ _ _ _) (by have := HLT.out; omega)
  · have e7 : (op != 7) = true := by rw [bne_iff_ne]; exact h7
    have e7' : (op == 7) = false := by rw [beq_eq_false_iff_ne]; exact h7
    have H7 : Hid (op ≠ 7) := h7
    clear h7
    obtain ⟨-, a1, a2, a3, a4, -⟩ := HA.out.cells
    by_cases h6 : op = 6
    · subst h6
      go_wp2_with fail
      refine (link_any b S A.ls A.fs W HW.out HD.out HB0.out).mono ?_
      rintro e W1 ⟨⟨v, rfl⟩, hw1, hg1⟩
      have HA1 : Hid (Bq W1 w.heap.size A) := HA.out.grown hg1 (by have := HLT.out; omega)
      have HN1 : Hid (Bq W1 (w.heap.size + 1) ptN) := HN.out.grown hg1 (by have := HLT.out; omega)
      have HG1 : Hid (w.grownBy W1 (some b)) := grown_trans (grown_of b HL.out) hg1
      have HW1 : Hid (Wm W1 b ⟨S.pt, lnk S.bh A.ls A.fs⟩) := hw1
      clear hw1 hg1 a1 a2 a3 a4
      obtain ⟨a0, a1, a2, a3, a4, -⟩ := HA1.out.cells
      obtain ⟨n0, n1, n2, n3, n4, m0, m1, m2, m3, m4⟩ := HN1.out.cells
      go_wp2_with fail
      refine bodyPost_ret (v := PtV A) ?_ rfl ⟨?_, ?_, grown_row HG1.out (grown_set5 _ _ _ _ _ _ _) (fun r e => by cases e; omega)⟩
      · rw [results_cell1 rfl]; go_simp
      · simp [ptAg]
      · exact HW1.out.other (grown_set5 _ _ _ _ _ _ _) (by have := HLT.out; omega)
    · have e6 : (op != 6) = true := by rw [bne_iff_ne]; exact h6
      have e6' : (op == 6) = false := by rw [beq_eq_false_iff_ne]; exact h6
      have H6 : Hid (op ≠ 6) := h6
      clear h6
      go_wp2_with fail
      refine (link_any b S A.ls A.fs W HW.out HD.out HB0.out).mono ?_
      rintro e W2 ⟨⟨v, rfl⟩, hw1, hg1⟩
      have HA2 : Hid (Bq W2 w.heap.size A) := HA.out.grown hg1 (by have := HLT.out; omega)
      have HN2 : Hid (Bq W2 (w.heap.size + 1) ptN) := HN.out.grown hg1 (by have := HLT.out; omega)
      have HG2 : Hid (w.grownBy W2 (some b)) := grown_trans (grown_of b HL.out) hg1
      have HW2 : Hid (Wm W2 b ⟨S.pt, lnk S.bh A.ls A.fs⟩) := hw1
      clear hw1 hg1 a1 a2 a3 a4
      have f0 := HA2.out.fr 0
      have c0 := HA2.out.c0
      have HA1 : Hid (Bq (W2.setCell ⟨w.heap.size, 0, none⟩ (.bool true)) w.heap.size ⟨true, A.fs, A.ls⟩) := HA2.out.set true
      have HN1 : Hid (Bq (W2.setCell ⟨w.heap.size, 0, none⟩ (.bool true)) (w.heap.size + 1) ptN) := HN2.out.grown (grown_set _ _ _ _) (by omega)
      have HG1 : Hid (w.grownBy (W2.setCell ⟨w.heap.size, 0, none⟩ (.bool true)) (some b)) := grown_row HG2.out (grown_set _ _ _ _) (fun r e => by cases e; omega)
      have HW1 : Hid (Wm (W2.setCell ⟨w.heap.size, 0, none⟩ (.bool true)) b ⟨S.pt, lnk S.bh A.ls A.fs⟩) := HW2.out.other (grown_set _ _ _ _) (by have := HLT.out; omega)
      go_upto_region 5 with fail
      obtain ⟨W1, hW1⟩ : ∃ W1, W1 = W2.setCell ⟨w.heap.size, 0, none⟩ (.bool true) := ⟨_, rfl⟩
      rw [← hW1] at HA1 HN1 HG1 HW1 ⊢
      clear hW1 f0 c0
      obtain ⟨a0, a1, a2, a3, a4, -⟩ := HA1.out.cells
      obtain ⟨n0, n1, n2, n3, n4, m0, m1, m2, m3, m4⟩ := HN1.out.cells
      go_wp2_with fail
      refine bodyPost_ret (v := PtV ⟨true, A.fs, A.ls⟩) ?_ rfl ⟨?_, ?_, grown_row HG1.out (grown_set5 _ _ _ _ _ _ _) (fun r e => by cases e; omega)⟩
      · rw [results_cell1 rfl]; go_simp
      · simp [ptAg, H6.out]
      · exact HW1.out.other (grown_set5 _ _ _ _ _ _ _) (by have := HLT.out; omega)
end Go.Proofs.YtkjcnnecdclgfaaDoor
