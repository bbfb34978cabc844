import Derived.Test.YtodncbkdlnepjaaFba
namespace Go.Proofs.Ytodncbkdlnepjaa
open Go.RowKit Go.Maps

/-- The productions as they count, in memory. -/
abbrev Qd := Nat × Value × List Nat
def qf (x : Qd) : List Value := [.int .i64 (x.1 : Int), x.2.1]
theorem qf_len (x : Qd) : (qf x).length = 2 := rfl
def qfd : Qd := (0, .slice none 0 0, [])
theorem qf_get (l : List Qd) (i : Nat) (h : i < l.length) : (flat qf l)[i * 2]? = some (.int .i64 ((l.getD i qfd).1 : Int)) ∧ (flat qf l)[i * 2 + 1]? = some (l.getD i qfd).2.1 :=
  ⟨flat_get qf_len qfd l i 0 h (by decide), flat_get qf_len qfd l i 1 h (by decide)⟩
def qp (x : Qd) : Nat × List Nat := (x.1, x.2.2)
structure Pm (W : World) (v : Value) (Q : List Qd) : Prop where
  p : Rw W v Q.length (flat qf Q)
  r : ∀ x ∈ Q, Rw W x.2.1 x.2.2.length (nC x.2.2)
  b : ∀ x ∈ Q, x.1 < 192 ∧ (∀ y ∈ x.2.2, y < 192) ∧ x.2.2.length ≤ 4611686018427387904
  n : Q.length ≤ 4611686018427387904
theorem Pm.up {W W' : World} {v : Value} {Q : List Qd} (h : Pm W v Q) (hb : Below W.heap.size W W') : Pm W' v Q :=
  ⟨h.p.up hb, fun x hx => (h.r x hx).up hb, h.b, h.n⟩
theorem take_getD {α : Type} (l : List α) (d : α) (i : Nat) (h : i < l.length) : l.take (i + 1) = l.take i ++ [l.getD i d] := by
  rw [List.take_succ_eq_append_getElem h, List.getD_eq_getElem?_getD, List.getElem?_eq_getElem h]; rfl
theorem anw_snoc (l : List (Nat × List Nat)) (p : Nat × List Nat) (S : Ss) : anw (l ++ [p]) S = stp (anw l S) p := by
  unfold anw; rw [List.foldl_append]; rfl
theorem stp_up12 (S : Ss) (x : Nat) (r : List Nat) : up2 (up1 S x ((S x).1 ||| (alg S r).1)) x ((S x).2 || (alg S r).2) = stp S (x, r) := funext fun j => by
  unfold up2 up1 stp
  by_cases h : j = x
  · subst h; simp
  · simp [h]
set_option maxRecDepth 100000 in
set_option maxHeartbeats 4000000 in
theorem anew_any {v : Value} {Q : List Qd} {S : Ss} (w : World) (h : Pm w v Q) (hS : ∀ x, (S x).1 < 2 ^ 64) :
    Calls Try.prog 43 #[.agg (sC S).toArray, v] w fun e w' => e = .returned (.agg (sC (anw (Q.map qp) S)).toArray) ∧ Below w.heap.size w w' := by
  have HP : Hid (Pm w v Q) := h
  have HS : Hid _ := hS
  obtain ⟨a, c, rfl⟩ := h.p.form
  clear h hS
  obtain ⟨n, hn⟩ : ∃ n, Q.length = n := ⟨_, rfl⟩
  have HN : Hid (Q.length = n) := hn
  rw [hn] at HP ⊢
  clear hn
  obtain ⟨W1, hW1⟩ : ∃ W1, W1 = w.alloc (.cells (sC S).toArray 65) := ⟨_, rfl⟩
  obtain ⟨W2, hW2⟩ : ∃ W2, W2 = W1.alloc (.cells (sC fun _ => (0, false)).toArray 65) := ⟨_, rfl⟩
  have B12 : Hid (Below W1.heap.size W1 W2) := by rw [hW2]; exact bel_up _ _
  have B01 : Hid (Below w.heap.size w W1) := by rw [hW1]; exact bel_up _ _
  have HO : Hid (Sb W2 w.heap.size S) := Sb.up (by show Sb W1 _ _; unfold Sb; rw [hW1]; exact heap_new _ _) B12.out
  have HR : Hid (Sb W2 W1.heap.size (fun _ => (0, false))) := by show Sb _ _ _; unfold Sb; rw [hW2]; exact heap_new _ _
  have HSZ : Hid (w.heap.size < W1.heap.size) := by show _ < _; rw [hW1]; simp
  have HW2 : Hid (Below w.heap.size w W2) := below_trans B01.out B12.out
  go_enter Try.func43, Try.ntmps43
  go_upto_region 1 with (first | (refine wpList_alloc_row rfl 65 rfl _ zero65 ?_; (try simp only [Act.put, List.setIfInBounds_toArray, List.set_cons_zero, List.set_cons_succ])) | (refine wpList_box_row rfl 65 _ rfl _ rfl ?_; (try simp only [Act.put, List.setIfInBounds_toArray, List.set_cons_zero, List.set_cons_succ])))
  rw [← hW1, ← hW2]
  clear hW1 hW2
  obtain ⟨o0, ho0⟩ : ∃ g, w.heap.size = g := ⟨_, rfl⟩
  obtain ⟨r0, hr0⟩ : ∃ g, W1.heap.size = g := ⟨_, rfl⟩
  have HGS : Hid (w.heap.size = o0) := ho0
  rw [ho0, hr0] at HSZ
  rw [hr0] at HR ⊢
  rw [ho0] at HO ⊢
  clear ho0 hr0 B01 B12
  go_upto_region 2 with fail
  go_loopg [10] n (fun gm v10 wr => ∃ i : Nat, v10 = .int .i64 (i : Int) ∧ Hid (Below w.heap.size w wr) ∧ Hid (i ≤ n ∧ gm = n - i) ∧ Hid (Sb wr r0 (fun _ => (0, false))) ∧ Hid (Sb wr o0 (anw ((Q.take i).map qp) S)))
  case atStart => exact ⟨0, rfl, HW2, ⟨Nat.zero_le _, rfl⟩, HR, HO⟩
  case round =>
    clear HW2 HR HO
    obtain ⟨i, rfl, HBW, HI, HR, HO⟩ := hrel
    by_cases hi : i < n
    · have hp := HP.out.p
      rw [HN.out] at hp
      obtain ⟨g, o, cap, e0, hc⟩ := hp.place (by omega)
      obtain ⟨rfl, -, rfl⟩ := Value.slice.inj e0
      have hil : i < Q.length := by have := HN.out; omega
      obtain ⟨q0, q1⟩ := qf_get Q i hil
      have k0 := below_cell HBW.out (hc _ _ q0)
      have k1 := below_cell HBW.out (hc _ _ q1)
      have HM : Hid (Q.getD i qfd ∈ Q) := mem_getD hil qfd
      obtain ⟨x, hx⟩ : ∃ x, Q.getD i qfd = x := ⟨_, rfl⟩
      rw [hx] at k0 k1 HM
      have HXE : Hid (Q.getD i qfd = x) := hx
      obtain ⟨xs, xv, xl⟩ := x
      dsimp only at k0 k1
      rw [← Nat.add_assoc] at k1
      have HRW : Hid (Rw w xv xl.length (nC xl)) := HP.out.r _ HM.out
      have hbb := HP.out.b _ HM.out
      dsimp only at hbb
      obtain ⟨hb1, hb2, hb3⟩ := hbb
      have HB1 : Hid _ := hb1
      have HB2 : Hid _ := hb2
      have HB3 : Hid _ := hb3
      obtain ⟨ax, cx, hxv⟩ := HRW.out.form
      rw [hxv] at k1 HRW HXE
      have e1 : decide ((i : Int) < (n : Int)) = true := by rw [decide_eq_true_eq]; omega
      have e2 : decide (i < n) = true := by rw [decide_eq_true_eq]; omega
      have e5 : (i : Int) < (n : Int) := by omega
      have e6 : i < n := hi
      have HIL : Hid (i < n) := hi
      have hwr := w64n i (by have := HP.out.n; have := HN.out; omega)
      obtain ⟨T, hT⟩ : ∃ T, anw ((Q.take i).map qp) S = T := ⟨_, rfl⟩
      have HTE : Hid (anw ((Q.take i).map qp) S = T) := hT
      rw [hT] at HO
      have HTL : Hid (∀ x, (T x).1 < 2 ^ 64) := by rw [← hT]; exact anw_lt _ _ HS.out
      clear e0 hc hx q0 q1 hil hi hxv hp HM hb1 hb2 hb3 hT
      go_upto_region 4 with fail
      obtain ⟨Y1, hY1⟩ : ∃ Y1, Y1 = wr.alloc (.cells #[.int .i64 (xs : Int), .slice ax xl.length cx] 83) := ⟨_, rfl⟩
      rw [← hY1]
      have HXR : Hid (Y1.heap[wr.heap.size]? = some (.cells #[.int .i64 (xs : Int), .slice ax xl.length cx] 83 (0, 0))) := by rw [hY1]; exact heap_new wr _
      have BY1 : Hid (Below wr.heap.size wr Y1) := by rw [hY1]; exact bel_up _ _
      have HRN : Hid _ := HRW.out.up (below_trans HBW.out BY1.out)
      have HON : Hid _ := HO.out.up BY1.out
      clear hY1 k0 k1 e1 e2 e5 e6
      have r0' := rcell HXR.out 0 (.int .i64 (xs : Int)) rfl
      have r1' := rcell HXR.out 1 (.slice ax xl.length cx) rfl
      obtain ⟨pb, hpb⟩ : ∃ pb, wr.heap.size = pb := ⟨_, rfl⟩
      have HPB : Hid (wr.heap.size = pb) := hpb
      rw [hpb] at HXR r0' r1' ⊢
      clear hpb
      go_upto_region 5 with (go_at_call 30; refine (along_any Y1 HON.out HTL.out HRN.out HB3.out HB2.out).mono ?_; rintro e w2 ⟨rfl, hb2⟩; have B2 : Hid (Below Y1.heap.size Y1 w2) := hb2; clear hb2)
      obtain ⟨m, hm⟩ : ∃ m, (alg T xl).1 = m := ⟨_, rfl⟩
      obtain ⟨vb, hvb⟩ : ∃ m, (alg T xl).2 = m := ⟨_, rfl⟩
      have HMV : Hid ((alg T xl).1 = m ∧ (alg T xl).2 = vb) := ⟨hm, hvb⟩
      have HML : Hid (m < 2 ^ 64) := by rw [← hm]; exact alg_lt T HTL.out xl
      rw [hm, hvb]
      clear hm hvb
      obtain ⟨Y2, hY2⟩ : ∃ Y2, Y2 = w2.alloc (.cells #[.int .u64 (m : Int), .bool vb] 63) := ⟨_, rfl⟩
      rw [← hY2]
      have HMR : Hid (Y2.heap[w2.heap.size]? = some (.cells #[.int .u64 (m : Int), .bool vb] 63 (0, 0))) := by rw [hY2]; exact heap_new w2 _
      have BY2 : Hid (Below Y1.heap.size Y1 Y2) := by rw [hY2]; exact below_trans B2.out (bel_up _ _)
      have BW2 : Hid (Below w.heap.size w Y2) := below_trans HBW.out (below_trans BY1.out BY2.out)
      have HR2 : Hid (Sb Y2 r0 (fun _ => (0, false))) := HR.out.up (below_trans BY1.out BY2.out)
      have HO2 : Hid (Sb Y2 o0 T) := HO.out.up (below_trans BY1.out BY2.out)
      obtain ⟨mb, hmb⟩ : ∃ mb, w2.heap.size = mb := ⟨_, rfl⟩
      have HNE : Hid (r0 < pb ∧ pb < mb ∧ o0 < pb) := by
        have h1 := lt_of_heap HR.out
        have h2 := lt_of_heap HO.out
        have h3 := lt_of_heap HXR.out
        have h4 := B2.out.size
        have := HPB.out
        show _ ∧ _ ∧ _
        omega
      have HPR : Hid (Y2.heap[pb]? = some (.cells #[.int .i64 (xs : Int), .slice ax xl.length cx] 83 (0, 0))) := by
        show Y2.heap[pb]? = _
        rw [BY2.out.block _ (lt_of_heap HXR.out)]; exact HXR.out
      rw [hmb] at HMR ⊢
      clear hY2 hmb r0' r1' HON HRN HO HR HXR B2 BY2 BY1 HBW
      have p0 := rcell HPR.out 0 (.int .i64 (xs : Int)) rfl
      have m0 := rcell HMR.out 0 (.int .u64 (m : Int)) rfl
      have m1 := rcell HMR.out 1 (.bool vb) rfl
      have hx192 : xs < 192 := HB1.out
      obtain ⟨k1, k2⟩ := HO2.out.get xs HB1.out
      have e7 : (xs : Int) < 192 := by have := HB1.out; omega
      have hor := u64_or (T xs).1 m (HTL.out xs) HML.out
      have f1 := HO2.out.fr (xs * 2)
      have n1 : ¬ o0 = pb := by have := HNE.out; omega
      have n2 : ¬ o0 = mb := by have := HNE.out; omega
      have n1' : ¬ pb = o0 := fun e => n1 e.symm
      have n2' : ¬ mb = o0 := fun e => n2 e.symm
      go_region
      obtain ⟨q, hq⟩ : ∃ q, (T xs).1 ||| m = q := ⟨_, rfl⟩
      rw [hq]
      obtain ⟨Y3, hY3⟩ : ∃ Y3, Y3 = (Y2.setCell ⟨o0, xs * 2, none⟩ (.int .u64 (q : Int))).drew := ⟨_, rfl⟩
      rw [← hY3]
      have HO3 : Hid (Sb Y3 o0 (up1 T xs q)) := by rw [hY3]; exact HO2.out.set1 xs q HB1.out
      have HR3 : Hid (Sb Y3 r0 (fun _ => (0, false))) := by
        rw [hY3]
        exact (Below.heap_setCell Y2 ⟨o0, xs * 2, none⟩ _ r0 (by have := HSZ.out; show r0 ≠ o0; omega)).trans HR2.out
      have HP3 : Hid (Y3.heap[pb]? = some (.cells #[.int .i64 (xs : Int), .slice ax xl.length cx] 83 (0, 0))) := by
        rw [hY3]
        exact (Below.heap_setCell Y2 ⟨o0, xs * 2, none⟩ _ pb (by show pb ≠ o0; exact n1')).trans HPR.out
      have HM3 : Hid (Y3.heap[mb]? = some (.cells #[.int .u64 (m : Int), .bool vb] 63 (0, 0))) := by
        rw [hY3]
        exact (Below.heap_setCell Y2 ⟨o0, xs * 2, none⟩ _ mb (by show mb ≠ o0; exact n2')).trans HMR.out
      have BW3 : Hid (Below w.heap.size w Y3) := by
        rw [hY3]
        exact (BW2.out.setCell (p := ⟨o0, xs * 2, none⟩) (by have := HGS.out; show w.heap.size ≤ o0; omega) _).drew
      have HQ : Hid ((T xs).1 ||| m = q) := hq
      clear hY3 hq hor p0 m0 m1 k1 k2 f1 HO2 HR2 HPR HMR BW2
      have p0 := rcell HP3.out 0 (.int .i64 (xs : Int)) rfl
      have m0 := rcell HM3.out 0 (.int .u64 (m : Int)) rfl
      have m1 := rcell HM3.out 1 (.bool vb) rfl
      obtain ⟨k1, k2⟩ := HO3.out.get xs HB1.out
      have f1 := HO3.out.fr (xs * 2 + 1)
      have hv : (up1 T xs q xs).2 = (T xs).2 := by unfold up1; rw [if_pos rfl]
      rw [hv] at k2
      clear k1 hv
      have HFIN : Hid (∀ Y4, Y4 = (Y3.setCell ⟨o0, xs * 2 + 1, none⟩ (.bool ((T xs).2 || vb))).drew → Below w.heap.size w Y4 ∧ Sb Y4 r0 (fun _ => (0, false)) ∧ Sb Y4 o0 (anw ((Q.take (i + 1)).map qp) S)) := fun Y4 hY4 => by
        refine ⟨?_, ?_, ?_⟩
        · rw [hY4]; exact (BW3.out.setCell (p := ⟨o0, xs * 2 + 1, none⟩) (by have := HGS.out; show w.heap.size ≤ o0; omega) _).drew
        · rw [hY4]; exact (Below.heap_setCell Y3 ⟨o0, xs * 2 + 1, none⟩ _ r0 (by have := HSZ.out; show r0 ≠ o0; omega)).trans HR3.out
        · have h1 := HO3.out.set2 xs ((T xs).2 || vb) HB1.out
          rw [← HQ.out, ← HMV.out.1, ← HMV.out.2, stp_up12] at h1
          rw [take_getD Q qfd i (by have := HN.out; have := HIL.out; omega), List.map_append, HXE.out, List.map_cons, List.map_nil, anw_snoc, HTE.out]
          rw [hY4, ← HMV.out.2]
          exact h1
      clear HO3 HR3 HP3 HM3 BW3
      cases hb : (T xs).2 with
      | true =>
        rw [hb] at k2 HFIN
        rw [Bool.true_or] at HFIN
        clear hb
        go_upto_region 6 with fail
        go_region
        obtain ⟨Y4, hY4⟩ : ∃ Y4, Y4 = (Y3.setCell ⟨o0, xs * 2 + 1, none⟩ (.bool true)).drew := ⟨_, rfl⟩
        rw [← hY4]
        have H4 : Hid _ := HFIN.out Y4 hY4
        clear hY4 p0 m0 m1 k2 f1 HFIN
        go_wp2_with fail
        go_roundg (n - (i + 1))
        case measure => have := HI.out; have := HIL.out; omega
        case rel => exact ⟨i + 1, by first | rfl | (rw [show (i : Int) + 1 = ((i + 1 : Nat) : Int) by omega]), H4.out.1, ⟨HIL.out, rfl⟩, H4.out.2.1, H4.out.2.2⟩
      | false =>
        rw [hb] at k2 HFIN
        rw [Bool.false_or] at HFIN
        clear hb
        go_upto_region 6 with fail
        go_region
        obtain ⟨Y4, hY4⟩ : ∃ Y4, Y4 = (Y3.setCell ⟨o0, xs * 2 + 1, none⟩ (.bool vb)).drew := ⟨_, rfl⟩
        rw [← hY4]
        have H4 : Hid _ := HFIN.out Y4 hY4
        clear hY4 p0 m0 m1 k2 f1 HFIN
        go_wp2_with fail
        go_roundg (n - (i + 1))
        case measure => have := HI.out; have := HIL.out; omega
        case rel => exact ⟨i + 1, by first | rfl | (rw [show (i : Int) + 1 = ((i + 1 : Nat) : Int) by omega]), H4.out.1, ⟨HIL.out, rfl⟩, H4.out.2.1, H4.out.2.2⟩
    · have e1 : decide ((i : Int) < (n : Int)) = false := by rw [decide_eq_false_iff_not]; omega
      have e2 : decide (i < n) = false := by rw [decide_eq_false_iff_not]; omega
      have HIN : Hid (i = n) := by have := HI.out; show i = n; omega
      have hO := HO.out
      rw [HIN.out, ← HN.out, List.take_length] at hO
      have HO' : Hid _ := hO
      clear hi hO
      go_wp2_with (first | (refine wpList_load_row rfl 65 _ rfl o0 _ _ _ HO'.out under65 rfl (size65 _) rfl ?_; (try simp only [Act.put, List.setIfInBounds_toArray, List.set_cons_zero, List.set_cons_succ])) | (refine wpList_store_row rfl 65 _ _ rfl r0 _ _ HR.out (size65 _) (by rw [List.size_toArray, List.size_toArray, sC_len, sC_len]) (one65 _) rfl rfl ?_; (try simp only [Act.put])))
      (try simp only [Exit.inBlock, Exit.then])
      have HRR : Hid (Sb (wr.setRow r0 (sC (anw (Q.map qp) S)).toArray) r0 (anw (Q.map qp) S)) := setRow_get HR.out
      refine bodyPost_ret (v := .agg (sC (anw (Q.map qp) S)).toArray) (ret65 rfl HRR.out _ rfl) rfl ⟨rfl, bel_setRow HBW.out (by have := HSZ.out; have := HGS.out; omega) _⟩
end Go.Proofs.Ytodncbkdlnepjaa
