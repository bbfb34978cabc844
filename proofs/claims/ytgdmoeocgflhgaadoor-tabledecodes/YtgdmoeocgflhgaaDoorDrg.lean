import Derived.Test.YtgdmoeocgflhgaaDoorDro
namespace Go.Proofs.YtgdmoeocgflhgaaDoor
open Go.RowKit Go.Maps

set_option maxRecDepth 100000 in
set_option maxHeartbeats 16000000 in
theorem rowsG_any {r p n wd c1 c2 : Nat} {s : ByteArray} {sa : Addr} (hs : s.size ≤ 140737488355328) (hp : p ≤ s.size) (hn2 : n ≤ 2048) (hw : wd ≤ 128) (w : World) (he : Env w c1 c2 r n) (hr : Rd w r s p) (hn : Sn w sa) (h0 : r ≠ 0) :
    Calls Tryd.prog 19 #[.int .i64 (n : Int), .int .i64 (wd : Int), .func (.func 20) #[] #[.pointer (some ⟨c1, 0, none⟩), .pointer (some ⟨c2, 0, none⟩)]] w fun e w' => Rr gf 3 1 54 r s sa (rds (rds (entR n s) wd) n p) e w' ∧ Fr w w' r ∧ Sn w' sa := by
  have HS : Hid (s.size ≤ 140737488355328 ∧ r ≠ 0 ∧ r < w.heap.size) := ⟨hs, h0, lt_of_heap hr⟩
  have HNW : Hid (n ≤ 2048 ∧ wd ≤ 128) := ⟨hn2, hw⟩
  have HE : Hid (Env w c1 c2 r n) := he
  have HRD : Hid (Rd w r s p) := hr
  have HSN : Hid (Sn w sa) := hn
  have HP : Hid (p ≤ s.size) := hp
  have HENV : Hid (∀ W, Fr w W r → Env W c1 c2 r n ∧ Sn W sa) := fun W hf => ⟨he.fr hf hr, hf.cel hn (fun q => h0 q.symm)⟩
  clear hs hp hn2 hw he hr hn h0
  obtain ⟨OA, hmkO, HOA⟩ : ∃ OA : Array Value, (∀ W : World, (Instr.makeSlice 23 (.int .i64 (n : Int)) (.int .i64 (n : Int))).run Tryd.prog W = .ok (.slice (some ⟨W.heap.size, 0, none⟩) n n) (W.alloc (.cells OA 54))) ∧ Hid (OA.size = n * 1) := by
    obtain ⟨i0, hi, hz0, hz1, hz2⟩ := info_parts info54
    refine ⟨madeCells (Value.cells (.slice none 0 0)) (n * 1), fun W => ?_, size_madeCells _ _⟩
    · have h := run_make W 23 54 i0 (.slice none 0 0) Tryd.underlying23 hi hz0 .i64 .i64 (n : Int) (n : Int) (by omega) (Int.le_refl _) (by rw [hz2]; have := HNW.out; omega) (by have := HNW.out; omega)
      rw [hz1] at h
      simp only [Int.toNat_natCast] at h
      exact h
  obtain ⟨RA, hmkR, HRA⟩ : ∃ RA : Array Value, (∀ W : World, (Instr.makeSlice 54 (.int .i64 (wd : Int)) (.int .i64 (wd : Int))).run Tryd.prog W = .ok (.slice (some ⟨W.heap.size, 0, none⟩) wd wd) (W.alloc (.cells RA 3))) ∧ Hid (RA.size = wd * 1) := by
    obtain ⟨i0, hi, hz0, hz1, hz2⟩ := info_parts info3
    refine ⟨madeCells (Value.cells (.int .i64 0)) (wd * 1), fun W => ?_, size_madeCells _ _⟩
    · have h := run_make W 54 3 i0 (.int .i64 0) Tryd.underlying54 hi hz0 .i64 .i64 (wd : Int) (wd : Int) (by omega) (Int.le_refl _) (by rw [hz2]; have := HNW.out; omega) (by have := HNW.out; omega)
      rw [hz1] at h
      simp only [Int.toNat_natCast] at h
      exact h
  obtain ⟨RES, hRES⟩ : ∃ x, rds (rds (entR n s) wd) n p = x := ⟨_, rfl⟩
  have HRES : Hid (rds (rds (entR n s) wd) n p = RES) := hRES
  rw [hRES]
  clear hRES
  go_enter Tryd.func19, Tryd.ntmps19
  go_upto_region 3 with fail
  clear hmkO
  obtain ⟨W1, hW1⟩ : ∃ W1, W1 = w.alloc (.cells OA 54) := ⟨_, rfl⟩
  rw [← hW1]
  have HU1 : Hid (Below w.heap.size w W1) := by rw [hW1]; exact bel_up _ _
  have HM1 : Hid (Mk gf 3 1 54 w.heap.size W1 w.heap.size n 0 []) := by rw [hW1]; exact ⟨⟨_, own_new (Nat.le_refl _) HOA.out (by have := HNW.out; unfold maxLen; omega), rfl⟩, rfl, fun x hx => by cases hx⟩
  have HF1 : Hid (Fr w W1 r) := Fr.of_below HU1.out
  have HR1 : Hid (Rd W1 r s p) := HRD.out.up HU1.out
  clear hW1
  obtain ⟨O, hO⟩ : ∃ O, w.heap.size = O := ⟨_, rfl⟩
  have HO : Hid (w.heap.size = O) := hO
  have HM1' : Hid (Mk gf 3 1 54 w.heap.size W1 O n 0 []) := by have h9 := HM1.out; rw [← hO]; exact h9
  rw [hO]
  clear hO HM1
  go_loopg [17] n (fun gm v17 wr => ∃ i : Nat, v17 = .int .i64 (i : Int) ∧ Hid (i ≤ n ∧ gm = n - i) ∧ Hid (Fr w wr r) ∧ ∃ (q : Nat) (L : List (Value × List Int)), Hid (Rd wr r s q ∧ q ≤ s.size) ∧ Hid (rds (rds (entR n s) wd) i p = .ok (L.map Prod.snd, q)) ∧ Hid (Mk gf 3 1 54 w.heap.size wr O n i L))
  case atStart => exact ⟨0, rfl, ⟨Nat.zero_le _, rfl⟩, HF1, p, [], ⟨HR1.out, HP.out⟩, rfl, HM1'⟩
  case round =>
    clear HF1 HR1 HM1' HU1
    obtain ⟨i, rfl, HI, HFW, q, L, HRQ, HD, HM⟩ := hrel
    by_cases hi : i < n
    rotate_left
    · have e1 : decide ((i : Int) < (n : Int)) = false := by rw [decide_eq_false_iff_not]; omega
      have e2 : decide (i < n) = false := by rw [decide_eq_false_iff_not]; omega
      have HIN : Hid (i = n) := by have := HI.out; show _ = _; omega
      clear hi
      go_wp2_with fail
      go_ret2
      refine ⟨?_, HFW.out, (HENV.out _ HFW.out).2⟩
      rw [← HRES.out]
      have h9 := HD.out
      rw [HIN.out] at h9
      rw [h9]
      refine ⟨O, n, w.heap.size, L, rfl, ?_, rfl, HRQ.out.1, HRQ.out.2⟩
      have h8 := HM.out
      rw [HIN.out] at h8
      exact h8
    have e1 : decide ((i : Int) < (n : Int)) = true := by rw [decide_eq_true_eq]; omega
    have e2 : decide (i < n) = true := by rw [decide_eq_true_eq]; omega
    have e5 : (i : Int) < (n : Int) := by omega
    have e6 : i < n := hi
    have HIL : Hid (i < n) := hi
    have hwr := w64n i (by have := HNW.out; have := HIL.out; omega)
    have HMA : Hid (Mk gf 3 1 54 w.heap.size (wr.alloc (.cells RA 3)) O n i L) := HM.out.up (bel_up _ _)
    obtain ⟨⟨old, o1⟩, o2, o3⟩ := HMA.out.cell hi
    clear hi
    go_upto_region 7 with fail
    clear e1 e2 o1 o2 o3
    obtain ⟨V, hV⟩ : ∃ V, V = (wr.alloc (.cells RA 3)).setCell ⟨O, i, none⟩ (.slice (some ⟨wr.heap.size, 0, none⟩) wd wd) := ⟨_, rfl⟩
    rw [← hV]
    obtain ⟨xs, x1, x2, x3, x4⟩ := HMA.out.put (v := .slice (some ⟨wr.heap.size, 0, none⟩) wd wd) e6 (by decide)
    rw [← hV] at x1 x4
    have HOR : Hid (V.ownsRow w.heap.size 54 1 (.slice (some ⟨O, 0, none⟩) n n) n xs ∧ xs.take i = L.map Prod.fst ∧ xs[i]? = some (.slice (some ⟨wr.heap.size, 0, none⟩) wd wd)) := ⟨x1, x2, x3⟩
    have HMV : Hid (Mk gf 3 1 54 w.heap.size V O n i L) := ⟨⟨xs, x1, x2⟩, HM.out.l, x4⟩
    have HOB : Hid (O < wr.heap.size ∧ w.heap.size ≤ wr.heap.size) := by
      obtain ⟨ys, hy, -⟩ := HM.out.t
      obtain ⟨-, cu, hcu⟩ := row_tag hy O rfl
      exact ⟨lt_of_heap hcu, HFW.out.size⟩
    have HRV : Hid (V.ownsRow w.heap.size 3 1 (.slice (some ⟨wr.heap.size, 0, none⟩) wd wd) wd RA.toList) := by
      rw [hV]
      exact own_off (own_new HOB.out.2 HRA.out (by have := HNW.out; unfold maxLen; omega)) (fun q => by have q' : wr.heap.size = O := Option.some.inj q; have := HOB.out.1; omega)
    have HLB : Hid (∀ x ∈ L, ∀ g, x.1.ownBlock = some g → g < wr.heap.size) := fun x hx g hg => by
      obtain ⟨-, cu, hcu⟩ := row_tag (HM.out.r x hx) g hg
      exact lt_of_heap hcu
    have HFV : Hid (Fr w V r) := by
      rw [hV]
      refine Fr.new (HFW.out.trans (Fr.of_below (bel_up _ _))) ?_
      have := HO.out
      omega
    have HRDV : Hid (Rd V r s q) := by
      rw [hV]
      obtain ⟨-, -, cu, hcu⟩ := HMA.out.cell e6
      exact (HRQ.out.1.up (bel_up _ _)).off hcu (by decide)
    clear hV x1 x2 x3 x4 HMA
    obtain ⟨b, hb⟩ : ∃ b, wr.heap.size = b := ⟨_, rfl⟩
    rw [hb] at HOB HRV HLB ⊢
    have HCELL : Hid (V.cell? ⟨O, i, none⟩ = some (.slice (some ⟨b, 0, none⟩) wd wd)) := by
      have h9 := row_at HOR.out.1 i _ HOR.out.2.2
      rw [hb] at h9
      exact h9
    have HTK : Hid (∀ W : World, W.cell? ⟨O, i, none⟩ = some (.slice (some ⟨b, 0, none⟩) wd wd) → ∀ ys : List Value, W.ownsRow w.heap.size 54 1 (.slice (some ⟨O, 0, none⟩) n n) n ys → ys.take i = L.map Prod.fst → ys.take (i + 1) = L.map Prod.fst ++ [.slice (some ⟨b, 0, none⟩) wd wd]) := fun W hW ys hy ht => by
      have hl : i < ys.length := by rw [hy.1, Nat.mul_one]; exact e6
      have h1 := row_at hy i _ (List.getElem?_eq_getElem hl)
      rw [hW] at h1
      rw [List.take_succ_eq_append_getElem hl, ht, ← Option.some.inj h1]
    have QLE : q ≤ s.size := HRQ.out.2
    have HQL : Hid (q ≤ s.size) := QLE
    clear hb HOR HM HFW HRQ
    go_loopg [30] wd (fun gm v30 wr => ∃ j : Nat, v30 = .int .i64 (j : Int) ∧ Hid (j ≤ wd ∧ gm = wd - j) ∧ Hid (Fr w wr r) ∧ ∃ (u : Nat) (l : List Int) (ys : List Value), Hid (Rd wr r s u ∧ u ≤ s.size) ∧ Hid (rds (entR n s) j q = .ok (l, u)) ∧ Hid (Mk gf 3 1 54 w.heap.size wr O n i L) ∧ Hid (wr.cell? ⟨O, i, none⟩ = some (.slice (some ⟨b, 0, none⟩) wd wd)) ∧ Hid (wr.ownsRow w.heap.size 3 1 (.slice (some ⟨b, 0, none⟩) wd wd) wd ys ∧ ys.take (j) = flat gf l))
    case atStart => exact ⟨0, rfl, ⟨Nat.zero_le _, rfl⟩, HFV, q, [], _, ⟨HRDV.out, QLE⟩, rfl, HMV, HCELL, ⟨HRV.out, by first | rfl | simp [flat]⟩⟩
    case round =>
      clear HFV HRDV HMV HCELL HRV QLE
      obtain ⟨j, rfl, HJ, HFW, u, l, ys, HRQ, HDJ, HM, HCE, HRO⟩ := hrel
      by_cases hj : j < wd
      rotate_left
      · have t1 : decide ((j : Int) < (wd : Int)) = false := by rw [decide_eq_false_iff_not]; omega
        have t2 : decide (j < wd) = false := by rw [decide_eq_false_iff_not]; omega
        have HJW : Hid (j = wd) := by have := HJ.out; show _ = _; omega
        have HD2 : Hid (rds (rds (entR n s) wd) (i + 1) p = .ok ((L ++ [((.slice (some ⟨b, 0, none⟩) wd wd, l) : Value × List Int)]).map Prod.snd, u)) := by
          have h9 := HDJ.out
          rw [HJW.out] at h9
          have h8 := rds_snoc i p _ _ _ _ HD.out h9
          rw [List.map_append]
          exact h8
        have HM2 : Hid (Mk gf 3 1 54 w.heap.size wr O n (i + 1) (L ++ [(.slice (some ⟨b, 0, none⟩) wd wd, l)])) := by
          obtain ⟨xs, x1, x2⟩ := HM.out.t
          have hll : l.length = wd := by have h9 := HDJ.out; rw [HJW.out] at h9; exact rds_len _ _ _ _ h9
          refine ⟨⟨xs, x1, ?_⟩, ?_, fun x hx => ?_⟩
          · rw [List.map_append]; exact HTK.out wr HCE.out xs x1 x2
          · rw [List.length_append, HM.out.l]; rfl
          · rcases List.mem_append.1 hx with hx | hx
            · exact HM.out.r x hx
            · obtain rfl := List.mem_singleton.1 hx
              show wr.ownsRow _ _ _ (.slice (some ⟨b, 0, none⟩) wd wd) l.length (flat gf l)
              have hy : ys = flat gf l := by rw [← HRO.out.2, List.take_of_length_le (by rw [HRO.out.1.1, HJW.out]; omega)]
              rw [hll, ← hy]
              exact HRO.out.1
        clear hj
        go_wp2_with fail
        go_roundg (n - (i + 1))
        case measure => have := HI.out; have := HIL.out; omega
        case rel => exact ⟨i + 1, by first | rfl | (rw [show (i : Int) + 1 = ((i + 1 : Nat) : Int) by omega]), ⟨HIL.out, rfl⟩, HFW, u, _, HRQ, HD2, HM2⟩
      have t1 : decide ((j : Int) < (wd : Int)) = true := by rw [decide_eq_true_eq]; omega
      have t2 : decide (j < wd) = true := by rw [decide_eq_true_eq]; omega
      have t5 : (j : Int) < (wd : Int) := by omega
      have t6 : j < wd := hj
      have HJL : Hid (j < wd) := hj
      have hwj := w64n j (by have := HNW.out; have := HJL.out; omega)
      clear hj
      have HONE : Hid (Calls Tryd.prog 20 #[.pointer (some ⟨c1, 0, none⟩), .pointer (some ⟨c2, 0, none⟩)] wr fun e w' => Cr r s sa (fun v : Int => .int .i64 v) (.int .i64 0) (entR n s u) e w' ∧ Fr wr w' r ∧ Sn w' sa) := oneG_any HS.out.1 HRQ.out.2 HNW.out.1 wr (HENV.out _ HFW.out).1 HRQ.out.1 (HENV.out _ HFW.out).2 HS.out.2.1
      have HLU : Hid (∀ x v, entR n s u = .ok (x, v) → v ≤ s.size) := fun x v h => entR_le h HRQ.out.2
      obtain ⟨X, hX⟩ : ∃ X, entR n s u = X := ⟨_, rfl⟩
      have HX : Hid (entR n s u = X) := hX
      rw [hX] at HONE HLU
      clear hX
      cases X with
      | error bb =>
        have HBAD : Hid (RES = .error bb) := by
          show _ = _
          rw [← HRES.out]
          exact rds_bad i n p _ _ bb HD.out (rds_bad j wd q _ _ bb HDJ.out HX.out t6) HIL.out
        go_wp2_with (go_at_call 20; refine Calls.mono HONE.out ?_; rintro e W2 ⟨⟨ev, q2, rfl, her, hrd, hq⟩, hfr, hsn⟩; have H2 : Hid (Er W2 sa ev bb ∧ Rd W2 r s q2 ∧ q2 ≤ s.size ∧ Fr wr W2 r ∧ Sn W2 sa) := ⟨her, hrd, hq, hfr, hsn⟩; obtain ⟨et, evv, rfl⟩ := her.form; clear her hrd hq hfr hsn)
        go_ret2
        refine ⟨?_, ?_, ?_⟩
        · rw [HBAD.out]
          exact ⟨_, q2, rfl, H2.out.1, H2.out.2.1, H2.out.2.2.1⟩
        · exact HFW.out.trans H2.out.2.2.2.1
        · exact H2.out.2.2.2.2
      | ok y =>
        obtain ⟨x, v⟩ := y
        have HDN : Hid (rds (entR n s) (j + 1) q = .ok (l ++ [x], v)) := rds_snoc j q _ _ _ _ HDJ.out HX.out
        have HVS : Hid (v ≤ s.size) := HLU.out _ _ rfl
        have HLL : Hid (l.length = j) := rds_len _ _ _ _ HDJ.out
        have HFACT : Hid (∀ W : World, Fr wr W r → W.cell? ⟨O, i, none⟩ = some (.slice (some ⟨b, 0, none⟩) wd wd) ∧ W.ownsRow w.heap.size 3 1 (.slice (some ⟨b, 0, none⟩) wd wd) wd ys ∧ Mk gf 3 1 54 w.heap.size W O n i L) := fun W hW => ⟨hW.cel HCE.out (fun q => by
            obtain ⟨-, -, cu, hcu⟩ := HM.out.cell HIL.out
            have q' : O = r := q
            have h8 := HRQ.out.1
            unfold Rd at h8
            rw [← q', hcu] at h8
            cases h8), own_fr HRO.out.1 hW HRQ.out.1 (by decide), HM.out.fr hW HRQ.out.1 (by decide) (by decide)⟩
        have HYL : Hid (ys.length = wd * 1) := HRO.out.1.1
        go_upto_region 12 with (go_at_call 20; refine Calls.mono HONE.out ?_; rintro e W2 ⟨⟨rfl, hrd⟩, hfr, hsn⟩; have H2 : Hid (Rd W2 r s v ∧ Fr wr W2 r ∧ Sn W2 sa) := ⟨hrd, hfr, hsn⟩; clear hrd hfr hsn)
        have FD : Hid (Fr wr W2 r) := H2.out.2.1
        have HRDD : Hid (Rd W2 r s v) := H2.out.1
        obtain ⟨f1, f2, f3⟩ := HFACT.out W2 FD.out
        have HROW : Hid (W2.ownsRow w.heap.size 3 1 (.slice (some ⟨b, 0, none⟩) wd wd) wd ys) := f2
        have HMW : Hid (Mk gf 3 1 54 w.heap.size W2 O n i L) := f3
        obtain ⟨-, cu, hcu⟩ := row_tag f2 b rfl
        have HBB : Hid (W2.heap[b]? = some (.cells cu 3 (0, 0))) := hcu
        have g1 : j < ys.length := by rw [HYL.out]; omega
        have o1 := row_at f2 j _ (List.getElem?_eq_getElem g1)
        have z1 : W2.frozen? ⟨b, j, none⟩ = false := Lib.frozen_of_heap hcu _
        clear f2 f3 hcu
        have hOb : O ≠ b := by have := HOB.out.1; omega
        have hLb : ∀ x ∈ L, x.1.ownBlock ≠ some b := fun x hx q => by have := HLB.out x hx b q; omega
        have R9 : Hid ((W2.setCell ⟨b, j, none⟩ (.int .i64 x)).ownsRow w.heap.size 3 1 (.slice (some ⟨b, 0, none⟩) wd wd) wd (ys.set j (.int .i64 x)) ∧ (ys.set j (.int .i64 x)).take (j + 1) = flat gf (l ++ [x])) := ⟨row_set HROW.out _ _, take_one ys j x l HRO.out.2 (by rw [HYL.out]; have := HJL.out; omega)⟩
        have M9 : Hid (Mk gf 3 1 54 w.heap.size (W2.setCell ⟨b, j, none⟩ (.int .i64 x)) O n i L) := HMW.out.off hOb hLb
        have F9 : Hid (Fr w (W2.setCell ⟨b, j, none⟩ (.int .i64 x)) r) := Fr.new (HFW.out.trans FD.out) HOB.out.2
        have D9 : Hid (Rd (W2.setCell ⟨b, j, none⟩ (.int .i64 x)) r s v ∧ v ≤ s.size) := ⟨HRDD.out.off HBB.out (by decide), HVS.out⟩
        have C9 : Hid ((W2.setCell ⟨b, j, none⟩ (.int .i64 x)).cell? ⟨O, i, none⟩ = some (.slice (some ⟨b, 0, none⟩) wd wd)) := (grown_set (W := W2) (b := b) (k := j) (v := .int .i64 x)).cell f1 (fun q => hOb (Option.some.inj q))
        clear hOb hLb
        go_wp2_with fail
        go_roundg (wd - (j + 1))
        case measure => have := HJ.out; have := HJL.out; omega
        case rel => exact ⟨j + 1, by first | rfl | (rw [show (j : Int) + 1 = ((j + 1 : Nat) : Int) by omega]), ⟨HJL.out, rfl⟩, F9, v, _, ys.set j (.int .i64 x), D9, HDN, M9, C9, R9⟩
end Go.Proofs.YtgdmoeocgflhgaaDoor
