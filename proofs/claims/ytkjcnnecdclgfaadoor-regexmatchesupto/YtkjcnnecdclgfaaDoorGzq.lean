import Derived.Test.YtkjcnnecdclgfaaDoorGzo
import Derived.Test.YtkjcnnecdclgfaaDoorGzp
namespace Go.Proofs.YtkjcnnecdclgfaaDoor
open Go.RowKit Go.Shelf
attribute [local go_sem] Oper.semAt_some

set_option maxRecDepth 100000 in
set_option maxHeartbeats 8000000 in
theorem rwork_st (P : Cp) (K : Ck P) (hs : (P.s.size + 2) * (P.s.size + 2) ≤ 1099511627776) {o i : Nat} {a : Rx} {oa ca : Nat} (hta : Tr P.re a oa) (hea : oa + a.sz = ca + 1) (hca : ca < i) (hWa : ∀ X, Wk P X ca) {m : Nat → Bool} {ib : Int} (ht : Tr P.re (.st a) o) (he : o + (.st a : Rx).sz = i + 1) (hnd : P.re[i]? = some ⟨5, m, (ca : Int), ib⟩) (X : Nat → Prop) : Wk P X i := by
  intro W at_ cs cm hat hX
  have HT : Hid (Tr P.re (.st a) o ∧ o + (.st a : Rx).sz = i + 1) := ⟨ht, he⟩
  have HX : Hid (∀ b, X b → P.base ≤ b ∧ b < W.heap.size) := hX
  have HK : Hid (Ck P) := K
  have HS : Hid ((P.s.size + 2) * (P.s.size + 2) ≤ 1099511627776) := hs
  have hi : i < P.re.length := (List.getElem?_eq_some_iff.1 hnd).1
  obtain ⟨x, cd, hr⟩ := cm.done i (Nat.le_refl _) hi at_ hat
  have c2 := cs.c2
  have dr := cs.dr i hi
  have fd := cs.fd i hi at_
  have hs1 : P.s.size + 2 ≤ 1099511627776 := Nat.le_trans (Nat.le_mul_of_pos_right _ (by omega)) hs
  have HCS : Hid (Cs P W) := cs
  have HCM : Hid (Cm P X i W) := cm
  have HR : Hid (x = true → Rg P X W i at_) := hr
  have hat1 : at_ < P.s.size + 1 := by omega
  obtain ⟨n, hn⟩ : ∃ n, P.s.size + 1 = n := ⟨_, rfl⟩
  have HN1 : Hid (P.s.size + 1 = n) := hn
  rw [hn] at dr hat1
  clear cs cm hr hs ht he hn
  have HCA : Hid (ca < i) := hca
  have HTA : Hid (Tr P.re a oa ∧ oa + a.sz = ca + 1) := ⟨hta, hea⟩
  have HWA : Hid (∀ X, Wk P X ca) := hWa
  clear hca hta hea hWa
  cases x
  · obtain ⟨W1, hW1⟩ : ∃ W1, W1 = W.setCell ⟨P.d i, at_, none⟩ (.bool true) := ⟨_, rfl⟩
    have fq1 : Fq P i (fun _ => False) W W1 := by rw [hW1]; exact fq_set _ (K.kd i hi) (Nat.le_refl _)
    have cs1 : Cs P W1 := HCS.out.keep K fq1 (fun _ h => h.elim)
    have c0 := cs1.c0
    have c1 := cs1.c1
    have hnA := node_at cs1 hnd
    obtain ⟨k0, k1, k2, k3, k4, k5, k6⟩ := hnA
    dsimp only at k0 k1 k2 k3 k4 k5 k6
    have hlp := cs1.lst.ptr (by intro e; rw [e] at hi; exact Nat.not_lt_zero _ hi)
    rw [hlp] at c0
    have hmk : ∀ W : World, (Instr.makeSlice 48 (.int .i64 ((P.s.size : Int) + 1)) (.int .i64 ((P.s.size : Int) + 1))).run Tryd.prog W = .ok (.slice (some ⟨W.heap.size, 0, none⟩) n n) (W.alloc (.cells ((List.range n).map fun _ => (.bool false : Value)).toArray 4)) := fun W => by
      have := makeB n (by have := HN1.out; omega) W
      rw [← HN1.out] at this ⊢
      exact this
    have HCS1 : Hid (Cs P W1) := cs1
    have HFQ1 : Hid (Fq P i (fun _ => False) W W1) := fq1
    have HCW := Cm.start K hi HCM.out hat
    rw [← hW1] at HCW
    have HCW1 : Hid (Cw P X i at_ W1) := HCW.1
    clear fq1 cs1 HCW
    rw [hW1] at c0 c1 k0 k1 k2 k3 k4 k5 k6
    go_enter Tryd.func36, Tryd.ntmps36
    go_upto_region 3 with fail
    rw [← hW1]
    rw [← hW1] at c0 c1 k0 k1 k2 k3 k4 k5 k6
    have hz : W.heap.size = W1.heap.size := by rw [hW1]; simp [World.setCell]
    rw [hz]
    clear hz hW1
    have hd := hd_make (nd := ⟨5, m, (ca : Int), ib⟩) K hi hat HCS1.out HCW1.out HFQ1.out hX
    dsimp only at hd
    rw [HN1.out] at hd
    obtain ⟨b0, hb0⟩ : ∃ b0, W1.heap.size = b0 := ⟨_, rfl⟩
    obtain ⟨V1, hV1⟩ : ∃ V1, V1 = W1.alloc (.cells #[.int .i64 5, .int .u64 (wd m 0 : Nat), .int .u64 (wd m 1 : Nat), .int .u64 (wd m 2 : Nat), .int .u64 (wd m 3 : Nat), .int .i64 (ca : Int), .int .i64 ib] 34) := ⟨_, rfl⟩
    obtain ⟨V4, hV4⟩ : ∃ V4, V4 = ((V1.alloc (.cells ((List.range n).map fun _ => (.bool false : Value)).toArray 4)).alloc (.cells ((List.range n).map fun _ => (.bool false : Value)).toArray 4)).alloc (.cells ((List.range n).map fun _ => (.bool false : Value)).toArray 4) := ⟨_, rfl⟩
    have hz1 : V1.heap.size = b0 + 1 := by rw [hV1, ← hb0]; simp
    have c1V : V1.cell? ⟨P.cb, 1, none⟩ = some (.string P.s) := by rw [hV1]; exact cell_up _ c1
    rw [← hV1, ← hV4, hb0] at hd
    rw [hb0]
    rw [← hV1]
    have bl4 : Bl V4 (b0 + 3) n (fun _ => false) := by
      rw [hV4]
      have := Bl.new ((V1.alloc (.cells ((List.range n).map fun _ => (.bool false : Value)).toArray 4)).alloc (.cells ((List.range n).map fun _ => (.bool false : Value)).toArray 4)) n
      simp only [World.size_alloc, hz1] at this
      exact this
    have HHD : Hid _ := hd
    clear hd hV1 c0 c1 k0 k1 k2 k3 k4 k5 k6 hb0
    have hb2 := fun x : Obj => cell_up x c1V
    have hb3 := fun x y : Obj => cell_up y (cell_up x c1V)
    go_upto_region 6 with fail
    rw [← hV4]
    have f4 := bl4.f at_
    have b4 := bl4.c at_ hat1
    clear hb2 hb3 hV4 c1V
    go_upto_region 7 with fail
    rw [show b0 + 1 + 1 + 1 = b0 + 3 from rfl, show b0 + 1 + 1 = b0 + 2 from rfl]
    obtain ⟨S, hS⟩ : ∃ S, S = V4.setCell ⟨b0 + 3, at_, none⟩ (.bool true) := ⟨_, rfl⟩
    rw [← hS] at HHD ⊢
    clear hS bl4 f4 b4
    have HMD : Hid (Md P (Y3 X b0) i at_ W S) := HHD.out.md hX
    have HLE : Hid (W.heap.size ≤ b0 ∧ P.base ≤ b0 ∧ S.heap.size = b0 + 4) := ⟨HHD.out.le, HHD.out.bs, HHD.out.sz⟩
    have HEN : Hid (Bl S (b0 + 1) (P.s.size + 1) (fun _ => false)) := HHD.out.en
    have HCU : Hid (Bl S (b0 + 2) (P.s.size + 1) (fun _ => false)) := HHD.out.cu
    have HST : Hid (Bl S (b0 + 3) (P.s.size + 1) (fun p => decide (p = at_))) := HHD.out.st
    have HND : Hid (AtN S b0 5 m (ca : Int) ib) := HHD.out.nd
    obtain ⟨n0, n1, n2, n3, n4, n5, n6⟩ := nd_cells HND.out
    have HI : Hid (i < P.re.length) := hi
    have HAT : Hid (at_ ≤ P.s.size) := hat
    have hn40 : n ≤ 1099511627776 := by have := HN1.out; omega
    clear HHD c2 dr fd cd hnd hlp hz1
    go_wp2_with fail
    clear n0 n1 n2 n3 n4 n5 n6
    have r1 := rmany_any P HK.out (Y3 X b0) ca (b0 + 1) (b0 + 2) at_ (fun _ => false) (fun _ => false) a oa S (by have := HCA.out; have := HI.out; omega) HTA.out.1 HTA.out.2 HWA.out HMD.out.yb (.inr (.inl rfl)) (.inr (.inr (.inl rfl))) (by omega) HAT.out HS.out HMD.out.cs (HMD.out.cw.below HCA.out) HEN.out HCU.out
    rw [HN1.out] at r1
    refine Calls.mono r1 ?_
    clear r1
    rintro e S1 ⟨⟨v1, rfl⟩, sn, vm, my, hsn⟩
    have MD1 : Hid (Md P (Y3 X b0) i at_ W S1) := HMD.out.many HK.out HI.out HCA.out my (.inr (.inl rfl)) (.inr (.inr (.inl rfl))) (by have := HLE.out; omega) (by have := HLE.out; omega)
    obtain ⟨me1, be1, ee1⟩ := my.en
    obtain ⟨mc1, bc1, ec1⟩ := my.cu
    have FE : Hid _ := fin_pl (a := a) (len_sz P.s) HAT.out hsn ee1 ec1
    have BE1 : Hid _ := be1
    have BC1 : Hid _ := bc1
    clear my hsn be1 ee1 bc1 ec1
    have p1 := BE1.out.c at_ (by have := HAT.out; omega)
    have p2 := BE1.out.f at_
    go_upto_region 28 with fail
    clear p1 p2
    obtain ⟨A, hA⟩ : ∃ A, A = S1.setCell ⟨b0 + 1, at_, none⟩ (.bool true) := ⟨_, rfl⟩
    have obA : Ob (b0 + 1) S1 A := by rw [hA]; exact (Ob.refl _ _).set _ _
    have MA : Hid (Md P (Y3 X b0) i at_ W A) := by rw [hA]; exact MD1.out.set HK.out HI.out (.inr (.inl rfl)) (by have := HLE.out; omega) _
    have BE : Bl A (b0 + 1) (P.s.size + 1) (enB (.st a) P.s.data.toList at_) := by rw [hA]; exact (BE1.out.put (m' := fun q => if q = at_ then true else me1 q) (by have := HAT.out; omega) (fun k _ => rfl)).congr FE.out.2.1
    have BK : Bl A (b0 + 2) (P.s.size + 1) (knB (.st a) P.s.data.toList at_) := (BC1.out.other obA (by omega)).congr FE.out.2.2.2
    rw [← hA]
    clear hA obA
    have TL := MA.out.tail HK.out HI.out HAT.out (.slice (some ⟨b0 + 1, 0, none⟩) n n)
    rw [HN1.out] at TL
    obtain ⟨t1, t2, t3, ⟨tv, t4⟩, t5, t6, t7, ⟨tw, t8⟩⟩ := TL
    go_wp2_with fail
    go_end0
    have FI := Md.fin (X := X) HK.out HI.out HT.out.1 HT.out.2 MA.out HAT.out HX.out (fun b hb => .inl hb) (.inr (.inl rfl)) (.inr (.inr (.inl rfl))) (by have := HLE.out; omega) (by have := HLE.out; omega) BE BK HCS.out
    rw [HN1.out] at FI
    exact ⟨⟨_, rfl⟩, FI.1, FI.2.1, FI.2.2.1, FI.2.2.2⟩
  · go_enter Tryd.func36, Tryd.ntmps36
    go_wp2_with fail
    (try simp only [Exit.inBlock, Exit.then])
    refine bodyPost_ret (results_none rfl _ _ _) rfl ?_
    exact ⟨⟨_, rfl⟩, HCS.out, HCM.out, HR.out (by first | rfl | trivial), Fq.refl _ _ _ _⟩
end Go.Proofs.YtkjcnnecdclgfaaDoor
namespace Go.Proofs.YtkjcnnecdclgfaaDoor
open Go.RowKit Go.Shelf
attribute [local go_sem] Oper.semAt_some

set_option maxRecDepth 100000 in
set_option maxHeartbeats 8000000 in
theorem rwork_pl (P : Cp) (K : Ck P) (hs : (P.s.size + 2) * (P.s.size + 2) ≤ 1099511627776) {o i : Nat} {a : Rx} {oa ca : Nat} (hta : Tr P.re a oa) (hea : oa + a.sz = ca + 1) (hca : ca < i) (hWa : ∀ X, Wk P X ca) {m : Nat → Bool} {ib : Int} (ht : Tr P.re (.pl a) o) (he : o + (.pl a : Rx).sz = i + 1) (hnd : P.re[i]? = some ⟨6, m, (ca : Int), ib⟩) (X : Nat → Prop) : Wk P X i := by
  intro W at_ cs cm hat hX
  have HT : Hid (Tr P.re (.pl a) o ∧ o + (.pl a : Rx).sz = i + 1) := ⟨ht, he⟩
  have HX : Hid (∀ b, X b → P.base ≤ b ∧ b < W.heap.size) := hX
  have HK : Hid (Ck P) := K
  have HS : Hid ((P.s.size + 2) * (P.s.size + 2) ≤ 1099511627776) := hs
  have hi : i < P.re.length := (List.getElem?_eq_some_iff.1 hnd).1
  obtain ⟨x, cd, hr⟩ := cm.done i (Nat.le_refl _) hi at_ hat
  have c2 := cs.c2
  have dr := cs.dr i hi
  have fd := cs.fd i hi at_
  have hs1 : P.s.size + 2 ≤ 1099511627776 := Nat.le_trans (Nat.le_mul_of_pos_right _ (by omega)) hs
  have HCS : Hid (Cs P W) := cs
  have HCM : Hid (Cm P X i W) := cm
  have HR : Hid (x = true → Rg P X W i at_) := hr
  have hat1 : at_ < P.s.size + 1 := by omega
  obtain ⟨n, hn⟩ : ∃ n, P.s.size + 1 = n := ⟨_, rfl⟩
  have HN1 : Hid (P.s.size + 1 = n) := hn
  rw [hn] at dr hat1
  clear cs cm hr hs ht he hn
  have HCA : Hid (ca < i) := hca
  have HTA : Hid (Tr P.re a oa ∧ oa + a.sz = ca + 1) := ⟨hta, hea⟩
  have HWA : Hid (∀ X, Wk P X ca) := hWa
  clear hca hta hea hWa
  cases x
  · obtain ⟨W1, hW1⟩ : ∃ W1, W1 = W.setCell ⟨P.d i, at_, none⟩ (.bool true) := ⟨_, rfl⟩
    have fq1 : Fq P i (fun _ => False) W W1 := by rw [hW1]; exact fq_set _ (K.kd i hi) (Nat.le_refl _)
    have cs1 : Cs P W1 := HCS.out.keep K fq1 (fun _ h => h.elim)
    have c0 := cs1.c0
    have c1 := cs1.c1
    have hnA := node_at cs1 hnd
    obtain ⟨k0, k1, k2, k3, k4, k5, k6⟩ := hnA
    dsimp only at k0 k1 k2 k3 k4 k5 k6
    have hlp := cs1.lst.ptr (by intro e; rw [e] at hi; exact Nat.not_lt_zero _ hi)
    rw [hlp] at c0
    have hmk : ∀ W : World, (Instr.makeSlice 48 (.int .i64 ((P.s.size : Int) + 1)) (.int .i64 ((P.s.size : Int) + 1))).run Tryd.prog W = .ok (.slice (some ⟨W.heap.size, 0, none⟩) n n) (W.alloc (.cells ((List.range n).map fun _ => (.bool false : Value)).toArray 4)) := fun W => by
      have := makeB n (by have := HN1.out; omega) W
      rw [← HN1.out] at this ⊢
      exact this
    have HCS1 : Hid (Cs P W1) := cs1
    have HFQ1 : Hid (Fq P i (fun _ => False) W W1) := fq1
    have HCW := Cm.start K hi HCM.out hat
    rw [← hW1] at HCW
    have HCW1 : Hid (Cw P X i at_ W1) := HCW.1
    clear fq1 cs1 HCW
    rw [hW1] at c0 c1 k0 k1 k2 k3 k4 k5 k6
    go_enter Tryd.func36, Tryd.ntmps36
    go_upto_region 3 with fail
    rw [← hW1]
    rw [← hW1] at c0 c1 k0 k1 k2 k3 k4 k5 k6
    have hz : W.heap.size = W1.heap.size := by rw [hW1]; simp [World.setCell]
    rw [hz]
    clear hz hW1
    have hd := hd_make (nd := ⟨6, m, (ca : Int), ib⟩) K hi hat HCS1.out HCW1.out HFQ1.out hX
    dsimp only at hd
    rw [HN1.out] at hd
    obtain ⟨b0, hb0⟩ : ∃ b0, W1.heap.size = b0 := ⟨_, rfl⟩
    obtain ⟨V1, hV1⟩ : ∃ V1, V1 = W1.alloc (.cells #[.int .i64 6, .int .u64 (wd m 0 : Nat), .int .u64 (wd m 1 : Nat), .int .u64 (wd m 2 : Nat), .int .u64 (wd m 3 : Nat), .int .i64 (ca : Int), .int .i64 ib] 34) := ⟨_, rfl⟩
    obtain ⟨V4, hV4⟩ : ∃ V4, V4 = ((V1.alloc (.cells ((List.range n).map fun _ => (.bool false : Value)).toArray 4)).alloc (.cells ((List.range n).map fun _ => (.bool false : Value)).toArray 4)).alloc (.cells ((List.range n).map fun _ => (.bool false : Value)).toArray 4) := ⟨_, rfl⟩
    have hz1 : V1.heap.size = b0 + 1 := by rw [hV1, ← hb0]; simp
    have c1V : V1.cell? ⟨P.cb, 1, none⟩ = some (.string P.s) := by rw [hV1]; exact cell_up _ c1
    rw [← hV1, ← hV4, hb0] at hd
    rw [hb0]
    rw [← hV1]
    have bl4 : Bl V4 (b0 + 3) n (fun _ => false) := by
      rw [hV4]
      have := Bl.new ((V1.alloc (.cells ((List.range n).map fun _ => (.bool false : Value)).toArray 4)).alloc (.cells ((List.range n).map fun _ => (.bool false : Value)).toArray 4)) n
      simp only [World.size_alloc, hz1] at this
      exact this
    have HHD : Hid _ := hd
    clear hd hV1 c0 c1 k0 k1 k2 k3 k4 k5 k6 hb0
    have hb2 := fun x : Obj => cell_up x c1V
    have hb3 := fun x y : Obj => cell_up y (cell_up x c1V)
    go_upto_region 6 with fail
    rw [← hV4]
    have f4 := bl4.f at_
    have b4 := bl4.c at_ hat1
    clear hb2 hb3 hV4 c1V
    go_upto_region 7 with fail
    rw [show b0 + 1 + 1 + 1 = b0 + 3 from rfl, show b0 + 1 + 1 = b0 + 2 from rfl]
    obtain ⟨S, hS⟩ : ∃ S, S = V4.setCell ⟨b0 + 3, at_, none⟩ (.bool true) := ⟨_, rfl⟩
    rw [← hS] at HHD ⊢
    clear hS bl4 f4 b4
    have HMD : Hid (Md P (Y3 X b0) i at_ W S) := HHD.out.md hX
    have HLE : Hid (W.heap.size ≤ b0 ∧ P.base ≤ b0 ∧ S.heap.size = b0 + 4) := ⟨HHD.out.le, HHD.out.bs, HHD.out.sz⟩
    have HEN : Hid (Bl S (b0 + 1) (P.s.size + 1) (fun _ => false)) := HHD.out.en
    have HCU : Hid (Bl S (b0 + 2) (P.s.size + 1) (fun _ => false)) := HHD.out.cu
    have HST : Hid (Bl S (b0 + 3) (P.s.size + 1) (fun p => decide (p = at_))) := HHD.out.st
    have HND : Hid (AtN S b0 6 m (ca : Int) ib) := HHD.out.nd
    obtain ⟨n0, n1, n2, n3, n4, n5, n6⟩ := nd_cells HND.out
    have HI : Hid (i < P.re.length) := hi
    have HAT : Hid (at_ ≤ P.s.size) := hat
    have hn40 : n ≤ 1099511627776 := by have := HN1.out; omega
    clear HHD c2 dr fd cd hnd hlp hz1
    go_wp2_with fail
    clear n0 n1 n2 n3 n4 n5 n6
    have r1 := rmany_any P HK.out (Y3 X b0) ca (b0 + 1) (b0 + 2) at_ (fun _ => false) (fun _ => false) a oa S (by have := HCA.out; have := HI.out; omega) HTA.out.1 HTA.out.2 HWA.out HMD.out.yb (.inr (.inl rfl)) (.inr (.inr (.inl rfl))) (by omega) HAT.out HS.out HMD.out.cs (HMD.out.cw.below HCA.out) HEN.out HCU.out
    rw [HN1.out] at r1
    refine Calls.mono r1 ?_
    clear r1
    rintro e A ⟨⟨v1, rfl⟩, sn, vm, my, hsn⟩
    have MD1 : Hid (Md P (Y3 X b0) i at_ W A) := HMD.out.many HK.out HI.out HCA.out my (.inr (.inl rfl)) (.inr (.inr (.inl rfl))) (by have := HLE.out; omega) (by have := HLE.out; omega)
    obtain ⟨me1, be1, ee1⟩ := my.en
    obtain ⟨mc1, bc1, ec1⟩ := my.cu
    have FE : Hid _ := fin_pl (a := a) (len_sz P.s) HAT.out hsn ee1 ec1
    have BE1 : Hid _ := be1
    have BC1 : Hid _ := bc1
    clear my hsn be1 ee1 bc1 ec1
    have BE := BE1.out.congr FE.out.1
    have BK := BC1.out.congr FE.out.2.2.1
    have MA : Hid _ := MD1.out
    go_upto_region 28 with fail
    have TL := MA.out.tail HK.out HI.out HAT.out (.slice (some ⟨b0 + 1, 0, none⟩) n n)
    rw [HN1.out] at TL
    obtain ⟨t1, t2, t3, ⟨tv, t4⟩, t5, t6, t7, ⟨tw, t8⟩⟩ := TL
    go_wp2_with fail
    go_end0
    have FI := Md.fin (X := X) HK.out HI.out HT.out.1 HT.out.2 MA.out HAT.out HX.out (fun b hb => .inl hb) (.inr (.inl rfl)) (.inr (.inr (.inl rfl))) (by have := HLE.out; omega) (by have := HLE.out; omega) BE BK HCS.out
    rw [HN1.out] at FI
    exact ⟨⟨_, rfl⟩, FI.1, FI.2.1, FI.2.2.1, FI.2.2.2⟩
  · go_enter Tryd.func36, Tryd.ntmps36
    go_wp2_with fail
    (try simp only [Exit.inBlock, Exit.then])
    refine bodyPost_ret (results_none rfl _ _ _) rfl ?_
    exact ⟨⟨_, rfl⟩, HCS.out, HCM.out, HR.out (by first | rfl | trivial), Fq.refl _ _ _ _⟩
end Go.Proofs.YtkjcnnecdclgfaaDoor
namespace Go.Proofs.YtkjcnnecdclgfaaDoor
open Go.RowKit Go.Shelf
attribute [local go_sem] Oper.semAt_some

set_option maxRecDepth 100000 in
set_option maxHeartbeats 8000000 in
theorem rwork_op (P : Cp) (K : Ck P) (hs : (P.s.size + 2) * (P.s.size + 2) ≤ 1099511627776) {o i : Nat} {a : Rx} {oa ca : Nat} (hta : Tr P.re a oa) (hea : oa + a.sz = ca + 1) (hca : ca < i) (hWa : ∀ X, Wk P X ca) {m : Nat → Bool} {ib : Int} (ht : Tr P.re (.op a) o) (he : o + (.op a : Rx).sz = i + 1) (hnd : P.re[i]? = some ⟨7, m, (ca : Int), ib⟩) (X : Nat → Prop) : Wk P X i := by
  intro W at_ cs cm hat hX
  have HT : Hid (Tr P.re (.op a) o ∧ o + (.op a : Rx).sz = i + 1) := ⟨ht, he⟩
  have HX : Hid (∀ b, X b → P.base ≤ b ∧ b < W.heap.size) := hX
  have HK : Hid (Ck P) := K
  have HS : Hid ((P.s.size + 2) * (P.s.size + 2) ≤ 1099511627776) := hs
  have hi : i < P.re.length := (List.getElem?_eq_some_iff.1 hnd).1
  obtain ⟨x, cd, hr⟩ := cm.done i (Nat.le_refl _) hi at_ hat
  have c2 := cs.c2
  have dr := cs.dr i hi
  have fd := cs.fd i hi at_
  have hs1 : P.s.size + 2 ≤ 1099511627776 := Nat.le_trans (Nat.le_mul_of_pos_right _ (by omega)) hs
  have HCS : Hid (Cs P W) := cs
  have HCM : Hid (Cm P X i W) := cm
  have HR : Hid (x = true → Rg P X W i at_) := hr
  have hat1 : at_ < P.s.size + 1 := by omega
  obtain ⟨n, hn⟩ : ∃ n, P.s.size + 1 = n := ⟨_, rfl⟩
  have HN1 : Hid (P.s.size + 1 = n) := hn
  rw [hn] at dr hat1
  clear cs cm hr hs ht he hn
  have HCA : Hid (ca < i) := hca
  have HTA : Hid (Tr P.re a oa ∧ oa + a.sz = ca + 1) := ⟨hta, hea⟩
  have HWA : Hid (∀ X, Wk P X ca) := hWa
  clear hca hta hea hWa
  cases x
  · obtain ⟨W1, hW1⟩ : ∃ W1, W1 = W.setCell ⟨P.d i, at_, none⟩ (.bool true) := ⟨_, rfl⟩
    have fq1 : Fq P i (fun _ => False) W W1 := by rw [hW1]; exact fq_set _ (K.kd i hi) (Nat.le_refl _)
    have cs1 : Cs P W1 := HCS.out.keep K fq1 (fun _ h => h.elim)
    have c0 := cs1.c0
    have c1 := cs1.c1
    have hnA := node_at cs1 hnd
    obtain ⟨k0, k1, k2, k3, k4, k5, k6⟩ := hnA
    dsimp only at k0 k1 k2 k3 k4 k5 k6
    have hlp := cs1.lst.ptr (by intro e; rw [e] at hi; exact Nat.not_lt_zero _ hi)
    rw [hlp] at c0
    have hmk : ∀ W : World, (Instr.makeSlice 48 (.int .i64 ((P.s.size : Int) + 1)) (.int .i64 ((P.s.size : Int) + 1))).run Tryd.prog W = .ok (.slice (some ⟨W.heap.size, 0, none⟩) n n) (W.alloc (.cells ((List.range n).map fun _ => (.bool false : Value)).toArray 4)) := fun W => by
      have := makeB n (by have := HN1.out; omega) W
      rw [← HN1.out] at this ⊢
      exact this
    have HCS1 : Hid (Cs P W1) := cs1
    have HFQ1 : Hid (Fq P i (fun _ => False) W W1) := fq1
    have HCW := Cm.start K hi HCM.out hat
    rw [← hW1] at HCW
    have HCW1 : Hid (Cw P X i at_ W1) := HCW.1
    clear fq1 cs1 HCW
    rw [hW1] at c0 c1 k0 k1 k2 k3 k4 k5 k6
    go_enter Tryd.func36, Tryd.ntmps36
    go_upto_region 3 with fail
    rw [← hW1]
    rw [← hW1] at c0 c1 k0 k1 k2 k3 k4 k5 k6
    have hz : W.heap.size = W1.heap.size := by rw [hW1]; simp [World.setCell]
    rw [hz]
    clear hz hW1
    have hd := hd_make (nd := ⟨7, m, (ca : Int), ib⟩) K hi hat HCS1.out HCW1.out HFQ1.out hX
    dsimp only at hd
    rw [HN1.out] at hd
    obtain ⟨b0, hb0⟩ : ∃ b0, W1.heap.size = b0 := ⟨_, rfl⟩
    obtain ⟨V1, hV1⟩ : ∃ V1, V1 = W1.alloc (.cells #[.int .i64 7, .int .u64 (wd m 0 : Nat), .int .u64 (wd m 1 : Nat), .int .u64 (wd m 2 : Nat), .int .u64 (wd m 3 : Nat), .int .i64 (ca : Int), .int .i64 ib] 34) := ⟨_, rfl⟩
    obtain ⟨V4, hV4⟩ : ∃ V4, V4 = ((V1.alloc (.cells ((List.range n).map fun _ => (.bool false : Value)).toArray 4)).alloc (.cells ((List.range n).map fun _ => (.bool false : Value)).toArray 4)).alloc (.cells ((List.range n).map fun _ => (.bool false : Value)).toArray 4) := ⟨_, rfl⟩
    have hz1 : V1.heap.size = b0 + 1 := by rw [hV1, ← hb0]; simp
    have c1V : V1.cell? ⟨P.cb, 1, none⟩ = some (.string P.s) := by rw [hV1]; exact cell_up _ c1
    rw [← hV1, ← hV4, hb0] at hd
    rw [hb0]
    rw [← hV1]
    have bl4 : Bl V4 (b0 + 3) n (fun _ => false) := by
      rw [hV4]
      have := Bl.new ((V1.alloc (.cells ((List.range n).map fun _ => (.bool false : Value)).toArray 4)).alloc (.cells ((List.range n).map fun _ => (.bool false : Value)).toArray 4)) n
      simp only [World.size_alloc, hz1] at this
      exact this
    have HHD : Hid _ := hd
    clear hd hV1 c0 c1 k0 k1 k2 k3 k4 k5 k6 hb0
    have hb2 := fun x : Obj => cell_up x c1V
    have hb3 := fun x y : Obj => cell_up y (cell_up x c1V)
    go_upto_region 6 with fail
    rw [← hV4]
    have f4 := bl4.f at_
    have b4 := bl4.c at_ hat1
    clear hb2 hb3 hV4 c1V
    go_upto_region 7 with fail
    rw [show b0 + 1 + 1 + 1 = b0 + 3 from rfl, show b0 + 1 + 1 = b0 + 2 from rfl]
    obtain ⟨S, hS⟩ : ∃ S, S = V4.setCell ⟨b0 + 3, at_, none⟩ (.bool true) := ⟨_, rfl⟩
    rw [← hS] at HHD ⊢
    clear hS bl4 f4 b4
    have HMD : Hid (Md P (Y3 X b0) i at_ W S) := HHD.out.md hX
    have HLE : Hid (W.heap.size ≤ b0 ∧ P.base ≤ b0 ∧ S.heap.size = b0 + 4) := ⟨HHD.out.le, HHD.out.bs, HHD.out.sz⟩
    have HEN : Hid (Bl S (b0 + 1) (P.s.size + 1) (fun _ => false)) := HHD.out.en
    have HCU : Hid (Bl S (b0 + 2) (P.s.size + 1) (fun _ => false)) := HHD.out.cu
    have HST : Hid (Bl S (b0 + 3) (P.s.size + 1) (fun p => decide (p = at_))) := HHD.out.st
    have HND : Hid (AtN S b0 7 m (ca : Int) ib) := HHD.out.nd
    obtain ⟨n0, n1, n2, n3, n4, n5, n6⟩ := nd_cells HND.out
    have HI : Hid (i < P.re.length) := hi
    have HAT : Hid (at_ ≤ P.s.size) := hat
    have hn40 : n ≤ 1099511627776 := by have := HN1.out; omega
    clear HHD c2 dr fd cd hnd hlp hz1
    go_wp2_with fail
    clear n0 n1 n2 n3 n4 n5 n6
    have r1 := ragain_any P HK.out (Y3 X b0) ca (b0 + 3) (b0 + 1) (b0 + 2) (fun p => decide (p = at_)) (fun _ => false) (fun _ => false) a oa S (by have := HCA.out; have := HI.out; omega) HTA.out.1 HTA.out.2 (HWA.out _) HMD.out.yb (.inr (.inr (.inr rfl))) (.inr (.inl rfl)) (.inr (.inr (.inl rfl))) (by omega) (by omega) (by omega) (by have := HN1.out; omega) (HMD.out.start HCA.out HST.out HEN.out HCU.out)
    rw [HN1.out] at r1
    refine Calls.mono r1 ?_
    clear r1
    rintro e S1 ⟨⟨v1, rfl⟩, ag1⟩
    have MD1 : Hid (Md P (Y3 X b0) i at_ W S1) := HMD.out.again HK.out HI.out HCA.out ag1 (.inr (.inl rfl)) (.inr (.inr (.inl rfl))) (by have := HLE.out; omega) (by have := HLE.out; omega)
    have FQ1 : Hid (Fq P ca (fun b => b = b0 + 1 ∨ b = b0 + 2) S S1) := ag1.fq
    obtain ⟨me1, be1, ee1⟩ := ag1.en
    obtain ⟨mc1, bc1, ec1⟩ := ag1.cu
    rw [← HN1.out] at ee1 ec1
    have BE1 : Hid _ := be1
    have BC1 : Hid _ := bc1
    have BF1 : Hid _ := ag1.fr
    have EE1 : Hid _ := ee1
    have EC1 : Hid _ := ec1
    clear ag1 be1 bc1 ee1 ec1
    have p1 := BE1.out.c at_ (by have := HAT.out; omega)
    have p2 := BE1.out.f at_
    go_upto_region 28 with fail
    clear p1 p2
    obtain ⟨A, hA⟩ : ∃ A, A = S1.setCell ⟨b0 + 1, at_, none⟩ (.bool true) := ⟨_, rfl⟩
    have obA : Ob (b0 + 1) S1 A := by rw [hA]; exact (Ob.refl _ _).set _ _
    have MA : Hid (Md P (Y3 X b0) i at_ W A) := by rw [hA]; exact MD1.out.set HK.out HI.out (.inr (.inl rfl)) (by have := HLE.out; omega) _
    have fe := fin_op (a := a) (len_sz P.s) HAT.out EE1.out EC1.out
    have BE : Bl A (b0 + 1) (P.s.size + 1) (enB (.op a) P.s.data.toList at_) := by rw [hA]; exact (BE1.out.put (m' := fun q => if q = at_ then true else me1 q) (by have := HAT.out; omega) (fun k _ => rfl)).congr fe.1
    have BK : Bl A (b0 + 2) (P.s.size + 1) (knB (.op a) P.s.data.toList at_) := (BC1.out.other obA (by omega)).congr fe.2
    rw [← hA]
    clear hA obA fe
    have TL := MA.out.tail HK.out HI.out HAT.out (.slice (some ⟨b0 + 1, 0, none⟩) n n)
    rw [HN1.out] at TL
    obtain ⟨t1, t2, t3, ⟨tv, t4⟩, t5, t6, t7, ⟨tw, t8⟩⟩ := TL
    go_wp2_with fail
    go_end0
    have FI := Md.fin (X := X) HK.out HI.out HT.out.1 HT.out.2 MA.out HAT.out HX.out (fun b hb => .inl hb) (.inr (.inl rfl)) (.inr (.inr (.inl rfl))) (by have := HLE.out; omega) (by have := HLE.out; omega) BE BK HCS.out
    rw [HN1.out] at FI
    exact ⟨⟨_, rfl⟩, FI.1, FI.2.1, FI.2.2.1, FI.2.2.2⟩
  · go_enter Tryd.func36, Tryd.ntmps36
    go_wp2_with fail
    (try simp only [Exit.inBlock, Exit.then])
    refine bodyPost_ret (results_none rfl _ _ _) rfl ?_
    exact ⟨⟨_, rfl⟩, HCS.out, HCM.out, HR.out (by first | rfl | trivial), Fq.refl _ _ _ _⟩
end Go.Proofs.YtkjcnnecdclgfaaDoor
namespace Go.Proofs.YtkjcnnecdclgfaaDoor
open Go.RowKit Go.Shelf

/-- **WORK.** -/
theorem rwork_any (P : Cp) (K : Ck P) (hs : (P.s.size + 2) * (P.s.size + 2) ≤ 1099511627776) {z : List Nat} (hz : szs P.re [] = some z) (t : Rx) : ∀ (o i : Nat), Tr P.re t o → o + t.sz = i + 1 → ∀ X, Wk P X i := by
  induction t with
  | cl m =>
    intro o i ht he X
    obtain ⟨⟨op, m', a, b⟩, h1, h2, h3⟩ := id ht
    have ei : o = i := by simp only [Rx.sz] at he; omega
    rw [ei] at h1
    dsimp only at h2 h3
    subst h2 h3
    exact rwork_cl P K hs ht he h1 X
  | em =>
    intro o i ht he X
    obtain ⟨⟨op, m', a, b⟩, h1, h2⟩ := id ht
    have ei : o = i := by simp only [Rx.sz] at he; omega
    rw [ei] at h1
    dsimp only at h2
    subst h2
    exact rwork_em P K hs ht he h1 X
  | cat a b iha ihb =>
    intro o i ht he X
    obtain ⟨ha, hb, ⟨op, m', x, y⟩, h1, h2, h3, h4⟩ := id ht
    have p1 := rx_pos a
    have p2 := rx_pos b
    have ei : o + a.sz + b.sz = i := by simp only [Rx.sz] at he; omega
    rw [ei] at h1
    have hp := sh_pos hz h1
    dsimp only at h2 h3 h4 hp
    have e1 := int_of (hp.1 (by omega)) h3
    have e2 := int_of (hp.2 (.inl h2)) h4
    subst h2 e1 e2
    exact rwork_cat P K hs ha (by omega) (by omega) (iha o _ ha (by omega)) hb (by omega) (by omega) (ihb _ _ hb (by omega)) ht he h1 X
  | alt a b iha ihb =>
    intro o i ht he X
    obtain ⟨ha, hb, ⟨op, m', x, y⟩, h1, h2, h3, h4⟩ := id ht
    have p1 := rx_pos a
    have p2 := rx_pos b
    have ei : o + a.sz + b.sz = i := by simp only [Rx.sz] at he; omega
    rw [ei] at h1
    have hp := sh_pos hz h1
    dsimp only at h2 h3 h4 hp
    have e1 := int_of (hp.1 (by omega)) h3
    have e2 := int_of (hp.2 (.inr h2)) h4
    subst h2 e1 e2
    exact rwork_alt P K hs ha (by omega) (by omega) (iha o _ ha (by omega)) hb (by omega) (by omega) (ihb _ _ hb (by omega)) ht he h1 X
  | st a iha =>
    intro o i ht he X
    obtain ⟨ha, ⟨op, m', x, y⟩, h1, h2, h3⟩ := id ht
    have p1 := rx_pos a
    have ei : o + a.sz = i := by simp only [Rx.sz] at he; omega
    rw [ei] at h1
    have hp := sh_pos hz h1
    dsimp only at h2 h3 hp
    have e1 := int_of (hp.1 (by omega)) h3
    subst h2 e1
    exact rwork_st P K hs ha (by omega) (by omega) (iha o _ ha (by omega)) ht he h1 X
  | pl a iha =>
    intro o i ht he X
    obtain ⟨ha, ⟨op, m', x, y⟩, h1, h2, h3⟩ := id ht
    have p1 := rx_pos a
    have ei : o + a.sz = i := by simp only [Rx.sz] at he; omega
    rw [ei] at h1
    have hp := sh_pos hz h1
    dsimp only at h2 h3 hp
    have e1 := int_of (hp.1 (by omega)) h3
    subst h2 e1
    exact rwork_pl P K hs ha (by omega) (by omega) (iha o _ ha (by omega)) ht he h1 X
  | op a iha =>
    intro o i ht he X
    obtain ⟨ha, ⟨op, m', x, y⟩, h1, h2, h3⟩ := id ht
    have p1 := rx_pos a
    have ei : o + a.sz = i := by simp only [Rx.sz] at he; omega
    rw [ei] at h1
    have hp := sh_pos hz h1
    dsimp only at h2 h3 hp
    have e1 := int_of (hp.1 (by omega)) h3
    subst h2 e1
    exact rwork_op P K hs ha (by omega) (by omega) (iha o _ ha (by omega)) ht he h1 X
end Go.Proofs.YtkjcnnecdclgfaaDoor
