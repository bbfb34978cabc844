import Derived.Test.YtkjcnnecdclgfaaDoorGzo
namespace Go.Proofs.YtkjcnnecdclgfaaDoor
open Go.RowKit Go.Shelf
attribute [local go_sem] Oper.semAt_some

set_option maxRecDepth 100000 in
set_option maxHeartbeats 8000000 in
theorem rwork_em (P : Cp) (K : Ck P) (hs : (P.s.size + 2) * (P.s.size + 2) ≤ 1099511627776) {o i : Nat} {m : Nat → Bool} {ia : Int} {ib : Int} (ht : Tr P.re (.em) o) (he : o + (.em : Rx).sz = i + 1) (hnd : P.re[i]? = some ⟨2, m, ia, ib⟩) (X : Nat → Prop) : Wk P X i := by
  intro W at_ cs cm hat hX
  have HT : Hid (Tr P.re (.em) o ∧ o + (.em : Rx).sz = i + 1) := ⟨ht, he⟩
  have HX : Hid (∀ b, X b → P.base ≤ b ∧ b < W.heap.size) := hX
  have HK : Hid (Ck P) := K
  have HS : Hid ((P.s.size + 2) * (P.s.size + 2) ≤ 1099511627776) := hs
  have hi : i < P.re.length := (List.getElem?_eq_some_iff.1 hnd).1
  obtain ⟨x, cd, hr⟩ := cm.done i (Nat.le_refl _) hi at_ hat
  have c2 := cs.c2
  have dr := cs.dr i hi
  have fd := cs.fd i hi at_
  have hs1 : P.s.size + 2 ≤ 1099511627776 := Nat.le_trans (Nat.le_mul_of_pos_right _ (by omega)) hs
  have HCS : Hid (Cs P W) := cs
  have HCM : Hid (Cm P X i W) := cm
  have HR : Hid (x = true → Rg P X W i at_) := hr
  have hat1 : at_ < P.s.size + 1 := by omega
  obtain ⟨n, hn⟩ : ∃ n, P.s.size + 1 = n := ⟨_, rfl⟩
  have HN1 : Hid (P.s.size + 1 = n) := hn
  rw [hn] at dr hat1
  clear cs cm hr hs ht he hn
  cases x
  · obtain ⟨W1, hW1⟩ : ∃ W1, W1 = W.setCell ⟨P.d i, at_, none⟩ (.bool true) := ⟨_, rfl⟩
    have fq1 : Fq P i (fun _ => False) W W1 := by rw [hW1]; exact fq_set _ (K.kd i hi) (Nat.le_refl _)
    have cs1 : Cs P W1 := HCS.out.keep K fq1 (fun _ h => h.elim)
    have c0 := cs1.c0
    have c1 := cs1.c1
    have hnA := node_at cs1 hnd
    obtain ⟨k0, k1, k2, k3, k4, k5, k6⟩ := hnA
    dsimp only at k0 k1 k2 k3 k4 k5 k6
    have hlp := cs1.lst.ptr (by intro e; rw [e] at hi; exact Nat.not_lt_zero _ hi)
    rw [hlp] at c0
    have hmk : ∀ W : World, (Instr.makeSlice 48 (.int .i64 ((P.s.size : Int) + 1)) (.int .i64 ((P.s.size : Int) + 1))).run Tryd.prog W = .ok (.slice (some ⟨W.heap.size, 0, none⟩) n n) (W.alloc (.cells ((List.range n).map fun _ => (.bool false : Value)).toArray 4)) := fun W => by
      have := makeB n (by have := HN1.out; omega) W
      rw [← HN1.out] at this ⊢
      exact this
    have HCS1 : Hid (Cs P W1) := cs1
    have HFQ1 : Hid (Fq P i (fun _ => False) W W1) := fq1
    have HCW := Cm.start K hi HCM.out hat
    rw [← hW1] at HCW
    have HCW1 : Hid (Cw P X i at_ W1) := HCW.1
    clear fq1 cs1 HCW
    rw [hW1] at c0 c1 k0 k1 k2 k3 k4 k5 k6
    go_enter Tryd.func36, Tryd.ntmps36
    go_upto_region 3 with fail
    rw [← hW1]
    rw [← hW1] at c0 c1 k0 k1 k2 k3 k4 k5 k6
    have hz : W.heap.size = W1.heap.size := by rw [hW1]; simp [World.setCell]
    rw [hz]
    clear hz hW1
    have hd := hd_make (nd := ⟨2, m, ia, ib⟩) K hi hat HCS1.out HCW1.out HFQ1.out hX
    dsimp only at hd
    rw [HN1.out] at hd
    obtain ⟨b0, hb0⟩ : ∃ b0, W1.heap.size = b0 := ⟨_, rfl⟩
    obtain ⟨V1, hV1⟩ : ∃ V1, V1 = W1.alloc (.cells #[.int .i64 2, .int .u64 (wd m 0 : Nat), .int .u64 (wd m 1 : Nat), .int .u64 (wd m 2 : Nat), .int .u64 (wd m 3 : Nat), .int .i64 ia, .int .i64 ib] 34) := ⟨_, rfl⟩
    obtain ⟨V4, hV4⟩ : ∃ V4, V4 = ((V1.alloc (.cells ((List.range n).map fun _ => (.bool false : Value)).toArray 4)).alloc (.cells ((List.range n).map fun _ => (.bool false : Value)).toArray 4)).alloc (.cells ((List.range n).map fun _ => (.bool false : Value)).toArray 4) := ⟨_, rfl⟩
    have hz1 : V1.heap.size = b0 + 1 := by rw [hV1, ← hb0]; simp
    have c1V : V1.cell? ⟨P.cb, 1, none⟩ = some (.string P.s) := by rw [hV1]; exact cell_up _ c1
    rw [← hV1, ← hV4, hb0] at hd
    rw [hb0]
    rw [← hV1]
    have bl4 : Bl V4 (b0 + 3) n (fun _ => false) := by
      rw [hV4]
      have := Bl.new ((V1.alloc (.cells ((List.range n).map fun _ => (.bool false : Value)).toArray 4)).alloc (.cells ((List.range n).map fun _ => (.bool false : Value)).toArray 4)) n
      simp only [World.size_alloc, hz1] at this
      exact this
    have HHD : Hid _ := hd
    clear hd hV1 c0 c1 k0 k1 k2 k3 k4 k5 k6 hb0
    have hb2 := fun x : Obj => cell_up x c1V
    have hb3 := fun x y : Obj => cell_up y (cell_up x c1V)
    go_upto_region 6 with fail
    rw [← hV4]
    have f4 := bl4.f at_
    have b4 := bl4.c at_ hat1
    clear hb2 hb3 hV4 c1V
    go_upto_region 7 with fail
    rw [show b0 + 1 + 1 + 1 = b0 + 3 from rfl, show b0 + 1 + 1 = b0 + 2 from rfl]
    obtain ⟨S, hS⟩ : ∃ S, S = V4.setCell ⟨b0 + 3, at_, none⟩ (.bool true) := ⟨_, rfl⟩
    rw [← hS] at HHD ⊢
    clear hS bl4 f4 b4
    have HMD : Hid (Md P (Y3 X b0) i at_ W S) := HHD.out.md hX
    have HLE : Hid (W.heap.size ≤ b0 ∧ P.base ≤ b0 ∧ S.heap.size = b0 + 4) := ⟨HHD.out.le, HHD.out.bs, HHD.out.sz⟩
    have HEN : Hid (Bl S (b0 + 1) (P.s.size + 1) (fun _ => false)) := HHD.out.en
    have HCU : Hid (Bl S (b0 + 2) (P.s.size + 1) (fun _ => false)) := HHD.out.cu
    have HST : Hid (Bl S (b0 + 3) (P.s.size + 1) (fun p => decide (p = at_))) := HHD.out.st
    have HND : Hid (AtN S b0 2 m ia ib) := HHD.out.nd
    obtain ⟨n0, n1, n2, n3, n4, n5, n6⟩ := nd_cells HND.out
    have HI : Hid (i < P.re.length) := hi
    have HAT : Hid (at_ ≤ P.s.size) := hat
    have hn40 : n ≤ 1099511627776 := by have := HN1.out; omega
    clear HHD c2 dr fd cd hnd hlp hz1
    have p1 := HEN.out.c at_ (by have := HN1.out; omega)
    have p2 := HEN.out.f at_
    go_upto_region 28 with fail
    clear n0 n1 n2 n3 n4 n5 n6 p1 p2
    obtain ⟨A, hA⟩ : ∃ A, A = S.setCell ⟨b0 + 1, at_, none⟩ (.bool true) := ⟨_, rfl⟩
    have obA : Ob (b0 + 1) S A := by rw [hA]; exact (Ob.refl _ _).set _ _
    have MA : Hid (Md P (Y3 X b0) i at_ W A) := by rw [hA]; exact HMD.out.set HK.out HI.out (.inr (.inl rfl)) (by have := HLE.out; omega) _
    have fe := fin_em (len_sz P.s) HAT.out
    have BE : Bl A (b0 + 1) (P.s.size + 1) (enB .em P.s.data.toList at_) := by rw [hA]; exact (HEN.out.put (m' := fun q => if q = at_ then true else false) (by have := HAT.out; omega) (fun k _ => rfl)).congr fe.1
    have BK : Bl A (b0 + 2) (P.s.size + 1) (knB .em P.s.data.toList at_) := (HCU.out.other obA (by omega)).congr fe.2
    rw [← hA]
    clear hA obA fe
    have TL := MA.out.tail HK.out HI.out HAT.out (.slice (some ⟨b0 + 1, 0, none⟩) n n)
    rw [HN1.out] at TL
    obtain ⟨t1, t2, t3, ⟨tv, t4⟩, t5, t6, t7, ⟨tw, t8⟩⟩ := TL
    go_wp2_with fail
    go_end0
    have FI := Md.fin (X := X) HK.out HI.out HT.out.1 HT.out.2 MA.out HAT.out HX.out (fun b hb => .inl hb) (.inr (.inl rfl)) (.inr (.inr (.inl rfl))) (by have := HLE.out; omega) (by have := HLE.out; omega) BE BK HCS.out
    rw [HN1.out] at FI
    exact ⟨⟨_, rfl⟩, FI.1, FI.2.1, FI.2.2.1, FI.2.2.2⟩
  · go_enter Tryd.func36, Tryd.ntmps36
    go_wp2_with fail
    (try simp only [Exit.inBlock, Exit.then])
    refine bodyPost_ret (results_none rfl _ _ _) rfl ?_
    exact ⟨⟨_, rfl⟩, HCS.out, HCM.out, HR.out (by first | rfl | trivial), Fq.refl _ _ _ _⟩
end Go.Proofs.YtkjcnnecdclgfaaDoor
namespace Go.Proofs.YtkjcnnecdclgfaaDoor
open Go.RowKit Go.Shelf
attribute [local go_sem] Oper.semAt_some

set_option maxRecDepth 100000 in
set_option maxHeartbeats 8000000 in
theorem rwork_cl (P : Cp) (K : Ck P) (hs : (P.s.size + 2) * (P.s.size + 2) ≤ 1099511627776) {o i : Nat} {m : Nat → Bool} {ia : Int} {ib : Int} (ht : Tr P.re (.cl m) o) (he : o + (.cl m : Rx).sz = i + 1) (hnd : P.re[i]? = some ⟨1, m, ia, ib⟩) (X : Nat → Prop) : Wk P X i := by
  intro W at_ cs cm hat hX
  have HT : Hid (Tr P.re (.cl m) o ∧ o + (.cl m : Rx).sz = i + 1) := ⟨ht, he⟩
  have HX : Hid (∀ b, X b → P.base ≤ b ∧ b < W.heap.size) := hX
  have HK : Hid (Ck P) := K
  have HS : Hid ((P.s.size + 2) * (P.s.size + 2) ≤ 1099511627776) := hs
  have hi : i < P.re.length := (List.getElem?_eq_some_iff.1 hnd).1
  obtain ⟨x, cd, hr⟩ := cm.done i (Nat.le_refl _) hi at_ hat
  have c2 := cs.c2
  have dr := cs.dr i hi
  have fd := cs.fd i hi at_
  have hs1 : P.s.size + 2 ≤ 1099511627776 := Nat.le_trans (Nat.le_mul_of_pos_right _ (by omega)) hs
  have HCS : Hid (Cs P W) := cs
  have HCM : Hid (Cm P X i W) := cm
  have HR : Hid (x = true → Rg P X W i at_) := hr
  have hat1 : at_ < P.s.size + 1 := by omega
  obtain ⟨n, hn⟩ : ∃ n, P.s.size + 1 = n := ⟨_, rfl⟩
  have HN1 : Hid (P.s.size + 1 = n) := hn
  rw [hn] at dr hat1
  clear cs cm hr hs ht he hn
  cases x
  · obtain ⟨W1, hW1⟩ : ∃ W1, W1 = W.setCell ⟨P.d i, at_, none⟩ (.bool true) := ⟨_, rfl⟩
    have fq1 : Fq P i (fun _ => False) W W1 := by rw [hW1]; exact fq_set _ (K.kd i hi) (Nat.le_refl _)
    have cs1 : Cs P W1 := HCS.out.keep K fq1 (fun _ h => h.elim)
    have c0 := cs1.c0
    have c1 := cs1.c1
    have hnA := node_at cs1 hnd
    obtain ⟨k0, k1, k2, k3, k4, k5, k6⟩ := hnA
    dsimp only at k0 k1 k2 k3 k4 k5 k6
    have hlp := cs1.lst.ptr (by intro e; rw [e] at hi; exact Nat.not_lt_zero _ hi)
    rw [hlp] at c0
    have hmk : ∀ W : World, (Instr.makeSlice 48 (.int .i64 ((P.s.size : Int) + 1)) (.int .i64 ((P.s.size : Int) + 1))).run Tryd.prog W = .ok (.slice (some ⟨W.heap.size, 0, none⟩) n n) (W.alloc (.cells ((List.range n).map fun _ => (.bool false : Value)).toArray 4)) := fun W => by
      have := makeB n (by have := HN1.out; omega) W
      rw [← HN1.out] at this ⊢
      exact this
    have HCS1 : Hid (Cs P W1) := cs1
    have HFQ1 : Hid (Fq P i (fun _ => False) W W1) := fq1
    have HCW := Cm.start K hi HCM.out hat
    rw [← hW1] at HCW
    have HCW1 : Hid (Cw P X i at_ W1) := HCW.1
    clear fq1 cs1 HCW
    rw [hW1] at c0 c1 k0 k1 k2 k3 k4 k5 k6
    go_enter Tryd.func36, Tryd.ntmps36
    go_upto_region 3 with fail
    rw [← hW1]
    rw [← hW1] at c0 c1 k0 k1 k2 k3 k4 k5 k6
    have hz : W.heap.size = W1.heap.size := by rw [hW1]; simp [World.setCell]
    rw [hz]
    clear hz hW1
    have hd := hd_make (nd := ⟨1, m, ia, ib⟩) K hi hat HCS1.out HCW1.out HFQ1.out hX
    dsimp only at hd
    rw [HN1.out] at hd
    obtain ⟨b0, hb0⟩ : ∃ b0, W1.heap.size = b0 := ⟨_, rfl⟩
    obtain ⟨V1, hV1⟩ : ∃ V1, V1 = W1.alloc (.cells #[.int .i64 1, .int .u64 (wd m 0 : Nat), .int .u64 (wd m 1 : Nat), .int .u64 (wd m 2 : Nat), .int .u64 (wd m 3 : Nat), .int .i64 ia, .int .i64 ib] 34) := ⟨_, rfl⟩
    obtain ⟨V4, hV4⟩ : ∃ V4, V4 = ((V1.alloc (.cells ((List.range n).map fun _ => (.bool false : Value)).toArray 4)).alloc (.cells ((List.range n).map fun _ => (.bool false : Value)).toArray 4)).alloc (.cells ((List.range n).map fun _ => (.bool false : Value)).toArray 4) := ⟨_, rfl⟩
    have hz1 : V1.heap.size = b0 + 1 := by rw [hV1, ← hb0]; simp
    have c1V : V1.cell? ⟨P.cb, 1, none⟩ = some (.string P.s) := by rw [hV1]; exact cell_up _ c1
    rw [← hV1, ← hV4, hb0] at hd
    rw [hb0]
    rw [← hV1]
    have bl4 : Bl V4 (b0 + 3) n (fun _ => false) := by
      rw [hV4]
      have := Bl.new ((V1.alloc (.cells ((List.range n).map fun _ => (.bool false : Value)).toArray 4)).alloc (.cells ((List.range n).map fun _ => (.bool false : Value)).toArray 4)) n
      simp only [World.size_alloc, hz1] at this
      exact this
    have HHD : Hid _ := hd
    clear hd hV1 c0 c1 k0 k1 k2 k3 k4 k5 k6 hb0
    have hb2 := fun x : Obj => cell_up x c1V
    have hb3 := fun x y : Obj => cell_up y (cell_up x c1V)
    go_upto_region 6 with fail
    rw [← hV4]
    have f4 := bl4.f at_
    have b4 := bl4.c at_ hat1
    clear hb2 hb3 hV4 c1V
    go_upto_region 7 with fail
    rw [show b0 + 1 + 1 + 1 = b0 + 3 from rfl, show b0 + 1 + 1 = b0 + 2 from rfl]
    obtain ⟨S, hS⟩ : ∃ S, S = V4.setCell ⟨b0 + 3, at_, none⟩ (.bool true) := ⟨_, rfl⟩
    rw [← hS] at HHD ⊢
    clear hS bl4 f4 b4
    have HMD : Hid (Md P (Y3 X b0) i at_ W S) := HHD.out.md hX
    have HLE : Hid (W.heap.size ≤ b0 ∧ P.base ≤ b0 ∧ S.heap.size = b0 + 4) := ⟨HHD.out.le, HHD.out.bs, HHD.out.sz⟩
    have HEN : Hid (Bl S (b0 + 1) (P.s.size + 1) (fun _ => false)) := HHD.out.en
    have HCU : Hid (Bl S (b0 + 2) (P.s.size + 1) (fun _ => false)) := HHD.out.cu
    have HST : Hid (Bl S (b0 + 3) (P.s.size + 1) (fun p => decide (p = at_))) := HHD.out.st
    have HND : Hid (AtN S b0 1 m ia ib) := HHD.out.nd
    obtain ⟨n0, n1, n2, n3, n4, n5, n6⟩ := nd_cells HND.out
    have HI : Hid (i < P.re.length) := hi
    have HAT : Hid (at_ ≤ P.s.size) := hat
    have hn40 : n ≤ 1099511627776 := by have := HN1.out; omega
    clear HHD c2 dr fd cd hnd hlp hz1
    have p1 := HCU.out.c at_ (by have := HN1.out; omega)
    have p2 := HCU.out.f at_
    go_upto_region 11 with fail
    clear n0 n1 n2 n3 n4 n5 n6 p1 p2
    obtain ⟨A1, hA1⟩ : ∃ A1, A1 = S.setCell ⟨b0 + 2, at_, none⟩ (.bool true) := ⟨_, rfl⟩
    have obA : Ob (b0 + 2) S A1 := by rw [hA1]; exact (Ob.refl _ _).set _ _
    have MA1 : Hid (Md P (Y3 X b0) i at_ W A1) := by rw [hA1]; exact HMD.out.set HK.out HI.out (.inr (.inr (.inl rfl))) (by have := HLE.out; omega) _
    have fe := fin_cl (m := m) (len_sz P.s) HAT.out
    have FE1 : Hid _ := fe.1
    have BK1 : Hid (Bl A1 (b0 + 2) (P.s.size + 1) (knB (.cl m) P.s.data.toList at_)) := by rw [hA1]; exact (HCU.out.put (m' := fun q => if q = at_ then true else false) (by have := HAT.out; omega) (fun k _ => rfl)).congr fe.2
    have BE1 : Hid (Bl A1 (b0 + 1) (P.s.size + 1) (fun _ => false)) := HEN.out.other obA (by omega)
    have ND1 : Hid (AtN A1 b0 1 m ia ib) := HND.out.same (obA.gr.block _ (by have := HLE.out; omega) (fun e => by injection e with e; omega))
    have HSZ : Hid (A1.heap.size = b0 + 4) := by rw [obA.sz]; exact HLE.out.2.2
    rw [← hA1]
    clear hA1 obA fe
    have c1 := MA1.out.cs.c1
    by_cases hlt : at_ < P.s.size
    · go_upto_region 12 with fail
      obtain ⟨WD, hWD⟩ : ∃ WD, A1.drew = WD := ⟨_, rfl⟩
      have BD : Hid (Below A1.heap.size A1 WD) := by rw [← hWD]; exact Below.drew (Below.refl _ _)
      have MWD : Hid (Md P (Y3 X b0) i at_ W WD) := MA1.out.grow HK.out HI.out BD.out
      have BEN : Hid _ := BE1.out.same (BD.out.block _ BE1.out.lt) BD.out.size
      have BKN : Hid _ := BK1.out.same (BD.out.block _ BK1.out.lt) BD.out.size
      have NDD : Hid (AtN WD b0 1 m ia ib) := ND1.out.same (BD.out.block _ (by have := HSZ.out; omega))
      have HSD : Hid (b0 + 4 ≤ WD.heap.size) := by have := BD.out.size; have := HSZ.out; show _ ≤ _; omega
      have HW1 : Hid (IntKind.i64.wrap ((at_ : Int) + 1) = (at_ : Int) + 1) := by show _ = _; rw [IntKind.wrap_i64]; have := HN1.out; omega
      have HW2 : Hid ((0 : Int) ≤ (at_ : Int) + 1 ∧ (at_ : Int) + 1 < (n : Int)) := by have := HN1.out; show _ ∧ _; omega
      have HBB : Hid ((P.s.data.toList.getD at_ 0).toNat < 256) := (P.s.data.toList.getD at_ 0).toNat_lt
      have HWR : Hid (IntKind.i64.wrap (P.s[at_].toNat : Int) = ((P.s.data.toList.getD at_ 0).toNat : Int)) := by
        have e : P.s.data.toList.getD at_ 0 = P.s[at_] := by
          rw [List.getD_eq_getElem?_getD, List.getElem?_eq_getElem (by rw [len_sz]; exact hlt)]
          rfl
        have := HBB.out
        rw [e] at this ⊢
        show _ = _
        rw [IntKind.wrap_i64]
        omega
      clear c1
      refine wp_region_noPanic ?_
      refine wp_region_held_drew (S := (fun W' => AtN W' b0 1 m ia ib ∧ W'.cell? ⟨P.cb, 1, none⟩ = some (.string P.s))) (by kernel_rfl) (by rw [hWD]; exact ⟨NDD.out, MWD.out.cs.c1⟩) (fun hHeld => ?_)
      rw [hWD] at hHeld ⊢
      clear hWD
      refine wpAnyH_take (i := 0) (oi := { dst := _, op := _, type := _, pos := _, after := _, guard := _ }) (v := ?_) rfl (by kernel_rfl) (by kernel_rfl) (by kernel_rfl) (fun _ _ _ h => h) (Or.inl ⟨by rfl, ?_⟩) (by assumption) ?_
      rotate_left
      · intro W hSw
        (try dsimp only at hSw)
        obtain ⟨hs0, hs1⟩ := hSw
        obtain ⟨n0, n1, n2, n3, n4, n5, n6⟩ := nd_cells hs0
        go_simp
        (try with_reducible rfl)
      try simp only [Act.put, List.setIfInBounds_toArray, List.set_cons_zero, List.set_cons_succ]
      refine wpAnyH_take (i := 1) (oi := { dst := _, op := _, type := _, pos := _, after := _, guard := _ }) (v := ?_) rfl (by kernel_rfl) (by kernel_rfl) (by kernel_rfl) (fun _ _ _ h => h) (Or.inl ⟨by rfl, ?_⟩) (by assumption) ?_
      rotate_left
      · intro W hSw
        (try dsimp only at hSw)
        obtain ⟨hs0, hs1⟩ := hSw
        obtain ⟨n0, n1, n2, n3, n4, n5, n6⟩ := nd_cells hs0
        go_simp
        (try with_reducible rfl)
      try simp only [Act.put, List.setIfInBounds_toArray, List.set_cons_zero, List.set_cons_succ]
      refine wpAnyH_take (i := 2) (oi := { dst := _, op := _, type := _, pos := _, after := _, guard := _ }) (v := ?_) rfl (by kernel_rfl) (by kernel_rfl) (by kernel_rfl) (fun _ _ _ h => h) (Or.inl ⟨by rfl, ?_⟩) (by assumption) ?_
      rotate_left
      · intro W hSw
        (try dsimp only at hSw)
        obtain ⟨hs0, hs1⟩ := hSw
        obtain ⟨n0, n1, n2, n3, n4, n5, n6⟩ := nd_cells hs0
        have wr1 : IntKind.i64.wrap ((at_ : Int) + 1) = (at_ : Int) + 1 := HW1.out
        go_simp
        (try with_reducible rfl)
      try simp only [Act.put, List.setIfInBounds_toArray, List.set_cons_zero, List.set_cons_succ]
      refine wpAnyH_take (i := 3) (oi := { dst := _, op := _, type := _, pos := _, after := _, guard := _ }) (v := ?_) rfl (by kernel_rfl) (by kernel_rfl) (by kernel_rfl) (fun _ _ _ h => h) (Or.inl ⟨by rfl, ?_⟩) (by assumption) ?_
      rotate_left
      · intro W hSw
        (try dsimp only at hSw)
        obtain ⟨hs0, hs1⟩ := hSw
        obtain ⟨n0, n1, n2, n3, n4, n5, n6⟩ := nd_cells hs0
        go_simp
        (try with_reducible rfl)
      try simp only [Act.put, List.setIfInBounds_toArray, List.set_cons_zero, List.set_cons_succ]
      refine wpAnyH_take (i := 4) (oi := { dst := _, op := _, type := _, pos := _, after := _, guard := _ }) (v := ?_) rfl (by kernel_rfl) (by kernel_rfl) (by kernel_rfl) (fun _ _ _ h => h) (Or.inl ⟨by rfl, ?_⟩) (by assumption) ?_
      rotate_left
      · intro W hSw
        (try dsimp only at hSw)
        obtain ⟨hs0, hs1⟩ := hSw
        obtain ⟨n0, n1, n2, n3, n4, n5, n6⟩ := nd_cells hs0
        go_simp
        (try with_reducible rfl)
      try simp only [Act.put, List.setIfInBounds_toArray, List.set_cons_zero, List.set_cons_succ]
      refine wpAnyH_take (i := 5) (oi := { dst := _, op := _, type := _, pos := _, after := _, guard := _ }) (v := ?_) rfl (by kernel_rfl) (by kernel_rfl) (by kernel_rfl) (fun _ _ _ h => h) (Or.inl ⟨by rfl, ?_⟩) (by assumption) ?_
      rotate_left
      · intro W hSw
        (try dsimp only at hSw)
        obtain ⟨hs0, hs1⟩ := hSw
        obtain ⟨n0, n1, n2, n3, n4, n5, n6⟩ := nd_cells hs0
        go_simp
        (try with_reducible rfl)
      try simp only [Act.put, List.setIfInBounds_toArray, List.set_cons_zero, List.set_cons_succ]
      refine wpAnyH_take (i := 6) (oi := { dst := _, op := _, type := _, pos := _, after := _, guard := _ }) (v := ?_) rfl (by kernel_rfl) (by kernel_rfl) (by kernel_rfl) (fun _ _ _ h => h) (Or.inl ⟨by rfl, ?_⟩) (by assumption) ?_
      rotate_left
      · intro W hSw
        (try dsimp only at hSw)
        obtain ⟨hs0, hs1⟩ := hSw
        obtain ⟨n0, n1, n2, n3, n4, n5, n6⟩ := nd_cells hs0
        go_simp
        (try with_reducible rfl)
      try simp only [Act.put, List.setIfInBounds_toArray, List.set_cons_zero, List.set_cons_succ]
      refine wpAnyH_take (i := 7) (oi := { dst := _, op := _, type := _, pos := _, after := _, guard := _ }) (v := ?_) rfl (by kernel_rfl) (by kernel_rfl) (by kernel_rfl) (fun _ _ _ h => h) (Or.inl ⟨by rfl, ?_⟩) (by assumption) ?_
      rotate_left
      · intro W hSw
        (try dsimp only at hSw)
        obtain ⟨hs0, hs1⟩ := hSw
        obtain ⟨n0, n1, n2, n3, n4, n5, n6⟩ := nd_cells hs0
        go_simp
        (try with_reducible rfl)
      try simp only [Act.put, List.setIfInBounds_toArray, List.set_cons_zero, List.set_cons_succ]
      refine wpAnyH_take (i := 8) (oi := { dst := _, op := _, type := _, pos := _, after := _, guard := _ }) (v := ?_) rfl (by kernel_rfl) (by kernel_rfl) (by kernel_rfl) (fun _ _ _ h => h) (Or.inl ⟨by rfl, ?_⟩) (by assumption) ?_
      rotate_left
      · intro W hSw
        (try dsimp only at hSw)
        obtain ⟨hs0, hs1⟩ := hSw
        obtain ⟨n0, n1, n2, n3, n4, n5, n6⟩ := nd_cells hs0
        go_simp
        (try with_reducible rfl)
      try simp only [Act.put, List.setIfInBounds_toArray, List.set_cons_zero, List.set_cons_succ]
      refine wpAnyH_take (i := 9) (oi := { dst := _, op := _, type := _, pos := _, after := _, guard := _ }) (v := ?_) rfl (by kernel_rfl) (by kernel_rfl) (by kernel_rfl) (fun _ _ _ h => h) (Or.inl ⟨by rfl, ?_⟩) (by assumption) ?_
      rotate_left
      · intro W hSw
        (try dsimp only at hSw)
        obtain ⟨hs0, hs1⟩ := hSw
        obtain ⟨n0, n1, n2, n3, n4, n5, n6⟩ := nd_cells hs0
        go_simp
        (try with_reducible rfl)
      try simp only [Act.put, List.setIfInBounds_toArray, List.set_cons_zero, List.set_cons_succ]
      refine wpAnyH_take (i := 10) (oi := { dst := _, op := _, type := _, pos := _, after := _, guard := _ }) (v := ?_) rfl (by kernel_rfl) (by kernel_rfl) (by kernel_rfl) (fun _ _ _ h => h) (Or.inl ⟨by rfl, ?_⟩) (by assumption) ?_
      rotate_left
      · intro W hSw
        (try dsimp only at hSw)
        obtain ⟨hs0, hs1⟩ := hSw
        obtain ⟨n0, n1, n2, n3, n4, n5, n6⟩ := nd_cells hs0
        go_simp
        (try with_reducible rfl)
      try simp only [Act.put, List.setIfInBounds_toArray, List.set_cons_zero, List.set_cons_succ]
      refine wpAnyH_take (i := 11) (oi := { dst := _, op := _, type := _, pos := _, after := _, guard := _ }) (v := ?_) rfl (by kernel_rfl) (by kernel_rfl) (by kernel_rfl) (fun _ _ _ h => h) (Or.inl ⟨by rfl, ?_⟩) (by assumption) ?_
      rotate_left
      · intro W hSw
        (try dsimp only at hSw)
        obtain ⟨hs0, hs1⟩ := hSw
        obtain ⟨n0, n1, n2, n3, n4, n5, n6⟩ := nd_cells hs0
        go_simp
        (try with_reducible rfl)
      try simp only [Act.put, List.setIfInBounds_toArray, List.set_cons_zero, List.set_cons_succ]
      refine wpAnyH_ready (rs := [12]) (by kernel_rfl) (by simp) ?_
      refine AllReadyH.cons (o := { dst := _, op := _, type := _, pos := _, after := _, guard := _ }) rfl (fun K hK => ?_) AllReadyH.nil
      go_simp
      rw [HWR.out]
      refine (Rr.in_any m _ HBB.out _).mono ?_
      rintro e w3 ⟨rfl, hb3⟩
      have HB3 : Hid _ := hb3
      clear hb3
      refine hK.out _ _ ?_ (fun hHeld => ?_)
      · first | exact trivial | (exact ⟨hHeld.1.same (HB3.out.block _ (by have := HSD.out; omega)), by rw [World.cell?_of_block (a := ⟨P.cb, 1, none⟩) (HB3.out.block _ (by show P.cb < WD.heap.size; have := HSD.out; have := HK.out.lcb; have := HLE.out; omega))]; exact hHeld.2⟩)
      clear hK K
      try simp only [Act.put, List.setIfInBounds_toArray, List.set_cons_zero, List.set_cons_succ]
      refine wpAnyH_take (i := 13) (oi := { dst := _, op := _, type := _, pos := _, after := _, guard := _ }) (v := ?_) rfl (by kernel_rfl) (by kernel_rfl) (by kernel_rfl) (fun _ _ _ h => h) (Or.inl ⟨by rfl, ?_⟩) (by assumption) ?_
      rotate_left
      · intro W hSw
        (try dsimp only at hSw)
        obtain ⟨hs0, hs1⟩ := hSw
        obtain ⟨n0, n1, n2, n3, n4, n5, n6⟩ := nd_cells hs0
        have q0 : (0 : Int) ≤ (at_ : Int) + 1 := HW2.out.1
        have q2 : (at_ : Int) + 1 < (n : Int) := HW2.out.2
        have q1 : ((at_ : Int) + 1).toNat = at_ + 1 := by omega
        go_simp
        (try with_reducible rfl)
      try simp only [Act.put, List.setIfInBounds_toArray, List.set_cons_zero, List.set_cons_succ]
      have MW3 : Hid (Md P (Y3 X b0) i at_ W w3) := MWD.out.grow HK.out HI.out HB3.out
      have BE3 : Hid _ := BEN.out.same (HB3.out.block _ BEN.out.lt) HB3.out.size
      have BK3 : Hid _ := BKN.out.same (HB3.out.block _ BKN.out.lt) HB3.out.size
      have p1 := BE3.out.c (at_ + 1) (by omega)
      have p2 := BE3.out.f (at_ + 1)
      refine wpAnyH_ready (rs := [14]) (by kernel_rfl) (by simp) ?_
      refine AllReadyH.cons (o := { dst := _, op := _, type := _, pos := _, after := _, guard := _ }) rfl (fun K hK => ?_) AllReadyH.nil
      go_simp
      refine hK.out _ _ ?_ (fun hHeld => ?_)
      · first | exact trivial | (exact ⟨hHeld.1.same (Below.heap_setCell _ _ _ _ (by show b0 ≠ b0 + 1; omega)), by rw [set_off (.inl (by have := HK.out.lcb; have := HLE.out; omega))]; exact hHeld.2⟩)
      clear hK K
      try simp only [Act.put, List.setIfInBounds_toArray, List.set_cons_zero, List.set_cons_succ]
      refine wpAnyH_done (by kernel_rfl) ?_ _
      refine NoPanic.normal ?_
      clear hHeld p1 p2
      go_upto_region 28 with fail
      have HGD : Hid (P.s.data.toList.getD at_ 0 = P.s.data[at_]) := by
        show _ = _
        rw [List.getD_eq_getElem?_getD, List.getElem?_eq_getElem (by rw [len_sz]; exact hlt)]
        rfl
      rw [← HGD.out]
      obtain ⟨A, hA⟩ : ∃ A, A = w3.setCell ⟨b0 + 1, at_ + 1, none⟩ (.bool (m (P.s.data.toList.getD at_ 0).toNat)) := ⟨_, rfl⟩
      have obB : Ob (b0 + 1) w3 A := by rw [hA]; exact (Ob.refl _ _).set _ _
      have MA : Hid (Md P (Y3 X b0) i at_ W A) := by rw [hA]; exact MW3.out.set HK.out HI.out (.inr (.inl rfl)) (by have := HLE.out; omega) _
      have BE : Bl A (b0 + 1) (P.s.size + 1) (enB (.cl m) P.s.data.toList at_) := by
        rw [hA]
        exact (BE3.out.put (m' := fun q => if q = at_ + 1 then m (P.s.data.toList.getD at_ 0).toNat else false) (by omega) (fun k _ => rfl)).congr (fun q hq => by rw [← FE1.out q hq, decide_eq_true hlt]; rfl)
      have BK : Bl A (b0 + 2) (P.s.size + 1) (knB (.cl m) P.s.data.toList at_) := BK3.out.other obB (by omega)
      rw [← hA]
      clear hA obB
      have TL := MA.out.tail HK.out HI.out HAT.out (.slice (some ⟨b0 + 1, 0, none⟩) n n)
      rw [HN1.out] at TL
      obtain ⟨t1, t2, t3, ⟨tv, t4⟩, t5, t6, t7, ⟨tw, t8⟩⟩ := TL
      go_wp2_with fail
      go_end0
      have FI := Md.fin (X := X) HK.out HI.out HT.out.1 HT.out.2 MA.out HAT.out HX.out (fun b hb => .inl hb) (.inr (.inl rfl)) (.inr (.inr (.inl rfl))) (by have := HLE.out; omega) (by have := HLE.out; omega) BE BK HCS.out
      rw [HN1.out] at FI
      exact ⟨⟨_, rfl⟩, FI.1, FI.2.1, FI.2.2.1, FI.2.2.2⟩
    · go_upto_region 28 with fail
      clear c1
      have BE : Bl A1 (b0 + 1) (P.s.size + 1) (enB (.cl m) P.s.data.toList at_) := BE1.out.congr (fun q hq => by
        rw [← FE1.out q hq, decide_eq_false hlt]; rfl)
      have BK := BK1.out
      have TL := MA1.out.tail HK.out HI.out HAT.out (.slice (some ⟨b0 + 1, 0, none⟩) n n)
      rw [HN1.out] at TL
      obtain ⟨t1, t2, t3, ⟨tv, t4⟩, t5, t6, t7, ⟨tw, t8⟩⟩ := TL
      go_wp2_with fail
      go_end0
      have FI := Md.fin (X := X) HK.out HI.out HT.out.1 HT.out.2 MA1.out HAT.out HX.out (fun b hb => .inl hb) (.inr (.inl rfl)) (.inr (.inr (.inl rfl))) (by have := HLE.out; omega) (by have := HLE.out; omega) BE BK HCS.out
      rw [HN1.out] at FI
      exact ⟨⟨_, rfl⟩, FI.1, FI.2.1, FI.2.2.1, FI.2.2.2⟩
  · go_enter Tryd.func36, Tryd.ntmps36
    go_wp2_with fail
    (try simp only [Exit.inBlock, Exit.then])
    refine bodyPost_ret (results_none rfl _ _ _) rfl ?_
    exact ⟨⟨_, rfl⟩, HCS.out, HCM.out, HR.out (by first | rfl | trivial), Fq.refl _ _ _ _⟩
end Go.Proofs.YtkjcnnecdclgfaaDoor
namespace Go.Proofs.YtkjcnnecdclgfaaDoor
open Go.RowKit Go.Shelf
attribute [local go_sem] Oper.semAt_some

set_option maxRecDepth 100000 in
set_option maxHeartbeats 8000000 in
theorem rwork_cat (P : Cp) (K : Ck P) (hs : (P.s.size + 2) * (P.s.size + 2) ≤ 1099511627776) {o i : Nat} {a : Rx} {oa ca : Nat} (hta : Tr P.re a oa) (hea : oa + a.sz = ca + 1) (hca : ca < i) (hWa : ∀ X, Wk P X ca) {b : Rx} {ob cb : Nat} (htb : Tr P.re b ob) (heb : ob + b.sz = cb + 1) (hcb : cb < i) (hWb : ∀ X, Wk P X cb) {m : Nat → Bool} (ht : Tr P.re (.cat a b) o) (he : o + (.cat a b : Rx).sz = i + 1) (hnd : P.re[i]? = some ⟨3, m, (ca : Int), (cb : Int)⟩) (X : Nat → Prop) : Wk P X i := by
  intro W at_ cs cm hat hX
  have HT : Hid (Tr P.re (.cat a b) o ∧ o + (.cat a b : Rx).sz = i + 1) := ⟨ht, he⟩
  have HX : Hid (∀ b, X b → P.base ≤ b ∧ b < W.heap.size) := hX
  have HK : Hid (Ck P) := K
  have HS : Hid ((P.s.size + 2) * (P.s.size + 2) ≤ 1099511627776) := hs
  have hi : i < P.re.length := (List.getElem?_eq_some_iff.1 hnd).1
  obtain ⟨x, cd, hr⟩ := cm.done i (Nat.le_refl _) hi at_ hat
  have c2 := cs.c2
  have dr := cs.dr i hi
  have fd := cs.fd i hi at_
  have hs1 : P.s.size + 2 ≤ 1099511627776 := Nat.le_trans (Nat.le_mul_of_pos_right _ (by omega)) hs
  have HCS : Hid (Cs P W) := cs
  have HCM : Hid (Cm P X i W) := cm
  have HR : Hid (x = true → Rg P X W i at_) := hr
  have hat1 : at_ < P.s.size + 1 := by omega
  obtain ⟨n, hn⟩ : ∃ n, P.s.size + 1 = n := ⟨_, rfl⟩
  have HN1 : Hid (P.s.size + 1 = n) := hn
  rw [hn] at dr hat1
  clear cs cm hr hs ht he hn
  have HCA : Hid (ca < i) := hca
  have HTA : Hid (Tr P.re a oa ∧ oa + a.sz = ca + 1) := ⟨hta, hea⟩
  have HWA : Hid (∀ X, Wk P X ca) := hWa
  clear hca hta hea hWa
  have HCB : Hid (cb < i) := hcb
  have HTB : Hid (Tr P.re b ob ∧ ob + b.sz = cb + 1) := ⟨htb, heb⟩
  have HWB : Hid (∀ X, Wk P X cb) := hWb
  clear hcb htb heb hWb
  cases x
  · obtain ⟨W1, hW1⟩ : ∃ W1, W1 = W.setCell ⟨P.d i, at_, none⟩ (.bool true) := ⟨_, rfl⟩
    have fq1 : Fq P i (fun _ => False) W W1 := by rw [hW1]; exact fq_set _ (K.kd i hi) (Nat.le_refl _)
    have cs1 : Cs P W1 := HCS.out.keep K fq1 (fun _ h => h.elim)
    have c0 := cs1.c0
    have c1 := cs1.c1
    have hnA := node_at cs1 hnd
    obtain ⟨k0, k1, k2, k3, k4, k5, k6⟩ := hnA
    dsimp only at k0 k1 k2 k3 k4 k5 k6
    have hlp := cs1.lst.ptr (by intro e; rw [e] at hi; exact Nat.not_lt_zero _ hi)
    rw [hlp] at c0
    have hmk : ∀ W : World, (Instr.makeSlice 48 (.int .i64 ((P.s.size : Int) + 1)) (.int .i64 ((P.s.size : Int) + 1))).run Tryd.prog W = .ok (.slice (some ⟨W.heap.size, 0, none⟩) n n) (W.alloc (.cells ((List.range n).map fun _ => (.bool false : Value)).toArray 4)) := fun W => by
      have := makeB n (by have := HN1.out; omega) W
      rw [← HN1.out] at this ⊢
      exact this
    have HCS1 : Hid (Cs P W1) := cs1
    have HFQ1 : Hid (Fq P i (fun _ => False) W W1) := fq1
    have HCW := Cm.start K hi HCM.out hat
    rw [← hW1] at HCW
    have HCW1 : Hid (Cw P X i at_ W1) := HCW.1
    clear fq1 cs1 HCW
    rw [hW1] at c0 c1 k0 k1 k2 k3 k4 k5 k6
    go_enter Tryd.func36, Tryd.ntmps36
    go_upto_region 3 with fail
    rw [← hW1]
    rw [← hW1] at c0 c1 k0 k1 k2 k3 k4 k5 k6
    have hz : W.heap.size = W1.heap.size := by rw [hW1]; simp [World.setCell]
    rw [hz]
    clear hz hW1
    have hd := hd_make (nd := ⟨3, m, (ca : Int), (cb : Int)⟩) K hi hat HCS1.out HCW1.out HFQ1.out hX
    dsimp only at hd
    rw [HN1.out] at hd
    obtain ⟨b0, hb0⟩ : ∃ b0, W1.heap.size = b0 := ⟨_, rfl⟩
    obtain ⟨V1, hV1⟩ : ∃ V1, V1 = W1.alloc (.cells #[.int .i64 3, .int .u64 (wd m 0 : Nat), .int .u64 (wd m 1 : Nat), .int .u64 (wd m 2 : Nat), .int .u64 (wd m 3 : Nat), .int .i64 (ca : Int), .int .i64 (cb : Int)] 34) := ⟨_, rfl⟩
    obtain ⟨V4, hV4⟩ : ∃ V4, V4 = ((V1.alloc (.cells ((List.range n).map fun _ => (.bool false : Value)).toArray 4)).alloc (.cells ((List.range n).map fun _ => (.bool false : Value)).toArray 4)).alloc (.cells ((List.range n).map fun _ => (.bool false : Value)).toArray 4) := ⟨_, rfl⟩
    have hz1 : V1.heap.size = b0 + 1 := by rw [hV1, ← hb0]; simp
    have c1V : V1.cell? ⟨P.cb, 1, none⟩ = some (.string P.s) := by rw [hV1]; exact cell_up _ c1
    rw [← hV1, ← hV4, hb0] at hd
    rw [hb0]
    rw [← hV1]
    have bl4 : Bl V4 (b0 + 3) n (fun _ => false) := by
      rw [hV4]
      have := Bl.new ((V1.alloc (.cells ((List.range n).map fun _ => (.bool false : Value)).toArray 4)).alloc (.cells ((List.range n).map fun _ => (.bool false : Value)).toArray 4)) n
      simp only [World.size_alloc, hz1] at this
      exact this
    have HHD : Hid _ := hd
    clear hd hV1 c0 c1 k0 k1 k2 k3 k4 k5 k6 hb0
    have hb2 := fun x : Obj => cell_up x c1V
    have hb3 := fun x y : Obj => cell_up y (cell_up x c1V)
    go_upto_region 6 with fail
    rw [← hV4]
    have f4 := bl4.f at_
    have b4 := bl4.c at_ hat1
    clear hb2 hb3 hV4 c1V
    go_upto_region 7 with fail
    rw [show b0 + 1 + 1 + 1 = b0 + 3 from rfl, show b0 + 1 + 1 = b0 + 2 from rfl]
    obtain ⟨S, hS⟩ : ∃ S, S = V4.setCell ⟨b0 + 3, at_, none⟩ (.bool true) := ⟨_, rfl⟩
    rw [← hS] at HHD ⊢
    clear hS bl4 f4 b4
    have HMD : Hid (Md P (Y3 X b0) i at_ W S) := HHD.out.md hX
    have HLE : Hid (W.heap.size ≤ b0 ∧ P.base ≤ b0 ∧ S.heap.size = b0 + 4) := ⟨HHD.out.le, HHD.out.bs, HHD.out.sz⟩
    have HEN : Hid (Bl S (b0 + 1) (P.s.size + 1) (fun _ => false)) := HHD.out.en
    have HCU : Hid (Bl S (b0 + 2) (P.s.size + 1) (fun _ => false)) := HHD.out.cu
    have HST : Hid (Bl S (b0 + 3) (P.s.size + 1) (fun p => decide (p = at_))) := HHD.out.st
    have HND : Hid (AtN S b0 3 m (ca : Int) (cb : Int)) := HHD.out.nd
    obtain ⟨n0, n1, n2, n3, n4, n5, n6⟩ := nd_cells HND.out
    have HI : Hid (i < P.re.length) := hi
    have HAT : Hid (at_ ≤ P.s.size) := hat
    have hn40 : n ≤ 1099511627776 := by have := HN1.out; omega
    clear HHD c2 dr fd cd hnd hlp hz1
    have c1 := HMD.out.cs.c1
    go_upto_region 15 with fail
    have hz4 := HLE.out.2.2
    rw [hz4]
    obtain ⟨T, hT⟩ : ∃ T, T = S.alloc (.cells ((List.range n).map fun _ => (.bool false : Value)).toArray 4) := ⟨_, rfl⟩
    have MT : Hid (Md P (Y4 X b0) i at_ W T) := by rw [hT]; exact HMD.out.up HK.out HI.out hz4 _
    have BM : Hid (Bl T (b0 + 4) (P.s.size + 1) (fun _ => false)) := by
      have := Bl.new S n
      rw [hz4] at this
      rw [hT, HN1.out]; exact this
    have BET : Hid _ := HEN.out.up (.cells ((List.range n).map fun _ => (.bool false : Value)).toArray 4)
    have BCT : Hid _ := HCU.out.up (.cells ((List.range n).map fun _ => (.bool false : Value)).toArray 4)
    have BST : Hid _ := HST.out.up (.cells ((List.range n).map fun _ => (.bool false : Value)).toArray 4)
    have NDT : Hid (AtN T b0 3 m (ca : Int) (cb : Int)) := by rw [hT]; exact HND.out.same ((bel_up S _).block _ (by omega))
    have HLT : Hid (T.heap.size = b0 + 5) := by rw [hT]; simp [Hid, hz4]
    rw [← hT] at BET BCT BST ⊢
    clear n0 n1 n2 n3 n4 n5 n6 hT hz4 c1
    obtain ⟨n0, n1, n2, n3, n4, n5, n6⟩ := nd_cells NDT.out
    go_wp2_with fail
    clear n0 n1 n2 n3 n4 n5 n6
    have r1 := ragain_any P HK.out (Y4 X b0) ca (b0 + 3) (b0 + 4) (b0 + 2) (fun p => decide (p = at_)) (fun _ => false) (fun _ => false) a oa T (by have := HCA.out; have := HI.out; omega) HTA.out.1 HTA.out.2 (HWA.out _) MT.out.yb (.inl (.inr (.inr (.inr rfl)))) (.inr rfl) (.inl (.inr (.inr (.inl rfl)))) (by omega) (by omega) (by omega) (by have := HN1.out; omega) (MT.out.start HCA.out BST.out BM.out BCT.out)
    rw [HN1.out] at r1
    refine Calls.mono r1 ?_
    clear r1
    rintro e S1 ⟨⟨v1, rfl⟩, ag1⟩
    have MD1 : Hid (Md P (Y4 X b0) i at_ W S1) := MT.out.again HK.out HI.out HCA.out ag1 (.inr rfl) (.inl (.inr (.inr (.inl rfl)))) (by have := HLE.out; omega) (by have := HLE.out; omega)
    have FQ1 : Hid (Fq P ca (fun b => b = b0 + 4 ∨ b = b0 + 2) T S1) := ag1.fq
    obtain ⟨me1, be1, ee1⟩ := ag1.en
    obtain ⟨mc1, bc1, ec1⟩ := ag1.cu
    rw [← HN1.out] at ee1 ec1
    have BE1 : Hid _ := be1
    have BC1 : Hid _ := bc1
    have BF1 : Hid _ := ag1.fr
    have EE1 : Hid _ := ee1
    have EC1 : Hid _ := ec1
    clear ag1 be1 bc1 ee1 ec1
    have BEN1 : Hid _ := BET.out.keep FQ1.out (HK.out.kn _ (by have := HLE.out; omega)) (by omega)
    have ND1 : Hid _ := NDT.out.same (FQ1.out.none (by have := HLT.out; omega) (HK.out.kn _ HLE.out.2.1) (by omega))
    obtain ⟨n0, n1, n2, n3, n4, n5, n6⟩ := nd_cells ND1.out
    go_wp2_with fail
    clear n0 n1 n2 n3 n4 n5 n6
    have r2 := ragain_any P HK.out (Y4 X b0) cb (b0 + 4) (b0 + 1) (b0 + 2) me1 (fun _ => false) mc1 b ob S1 (by have := HCB.out; have := HI.out; omega) HTB.out.1 HTB.out.2 (HWB.out _) MD1.out.yb (.inr rfl) (.inl (.inr (.inl rfl))) (.inl (.inr (.inr (.inl rfl)))) (by omega) (by omega) (by omega) (by have := HN1.out; omega) (MD1.out.start HCB.out BE1.out BEN1.out BC1.out)
    rw [HN1.out] at r2
    refine Calls.mono r2 ?_
    clear r2
    rintro e A ⟨⟨v2, rfl⟩, ag2⟩
    have MD2 : Hid (Md P (Y4 X b0) i at_ W A) := MD1.out.again HK.out HI.out HCB.out ag2 (.inl (.inr (.inl rfl))) (.inl (.inr (.inr (.inl rfl)))) (by have := HLE.out; omega) (by have := HLE.out; omega)
    have FQ2 : Hid (Fq P cb (fun b => b = b0 + 1 ∨ b = b0 + 2) S1 A) := ag2.fq
    obtain ⟨me2, be2, ee2⟩ := ag2.en
    obtain ⟨mc2, bc2, ec2⟩ := ag2.cu
    rw [← HN1.out] at ee2 ec2
    have BE2 : Hid _ := be2
    have BC2 : Hid _ := bc2
    have BF2 : Hid _ := ag2.fr
    have EE2 : Hid _ := ee2
    have EC2 : Hid _ := ec2
    clear ag2 be2 bc2 ee2 ec2
    have fe := fin_cat (a := a) (b := b) (len_sz P.s) HAT.out EE1.out EC1.out EE2.out EC2.out
    have BE := BE2.out.congr fe.1
    have BK := BC2.out.congr fe.2
    clear fe
    have MA : Hid _ := MD2.out
    go_upto_region 28 with fail
    have TL := MA.out.tail HK.out HI.out HAT.out (.slice (some ⟨b0 + 1, 0, none⟩) n n)
    rw [HN1.out] at TL
    obtain ⟨t1, t2, t3, ⟨tv, t4⟩, t5, t6, t7, ⟨tw, t8⟩⟩ := TL
    go_wp2_with fail
    go_end0
    have FI := Md.fin (X := X) HK.out HI.out HT.out.1 HT.out.2 MA.out HAT.out HX.out (fun b hb => .inl (.inl hb)) (.inl (.inr (.inl rfl))) (.inl (.inr (.inr (.inl rfl)))) (by have := HLE.out; omega) (by have := HLE.out; omega) BE BK HCS.out
    rw [HN1.out] at FI
    exact ⟨⟨_, rfl⟩, FI.1, FI.2.1, FI.2.2.1, FI.2.2.2⟩
  · go_enter Tryd.func36, Tryd.ntmps36
    go_wp2_with fail
    (try simp only [Exit.inBlock, Exit.then])
    refine bodyPost_ret (results_none rfl _ _ _) rfl ?_
    exact ⟨⟨_, rfl⟩, HCS.out, HCM.out, HR.out (by first | rfl | trivial), Fq.refl _ _ _ _⟩
end Go.Proofs.YtkjcnnecdclgfaaDoor
namespace Go.Proofs.YtkjcnnecdclgfaaDoor
open Go.RowKit Go.Shelf
attribute [local go_sem] Oper.semAt_some

set_option maxRecDepth 100000 in
set_option maxHeartbeats 8000000 in
theorem rwork_alt (P : Cp) (K : Ck P) (hs : (P.s.size + 2) * (P.s.size + 2) ≤ 1099511627776) {o i : Nat} {a : Rx} {oa ca : Nat} (hta : Tr P.re a oa) (hea : oa + a.sz = ca + 1) (hca : ca < i) (hWa : ∀ X, Wk P X ca) {b : Rx} {ob cb : Nat} (htb : Tr P.re b ob) (heb : ob + b.sz = cb + 1) (hcb : cb < i) (hWb : ∀ X, Wk P X cb) {m : Nat → Bool} (ht : Tr P.re (.alt a b) o) (he : o + (.alt a b : Rx).sz = i + 1) (hnd : P.re[i]? = some ⟨4, m, (ca : Int), (cb : Int)⟩) (X : Nat → Prop) : Wk P X i := by
  intro W at_ cs cm hat hX
  have HT : Hid (Tr P.re (.alt a b) o ∧ o + (.alt a b : Rx).sz = i + 1) := ⟨ht, he⟩
  have HX : Hid (∀ b, X b → P.base ≤ b ∧ b < W.heap.size) := hX
  have HK : Hid (Ck P) := K
  have HS : Hid ((P.s.size + 2) * (P.s.size + 2) ≤ 1099511627776) := hs
  have hi : i < P.re.length := (List.getElem?_eq_some_iff.1 hnd).1
  obtain ⟨x, cd, hr⟩ := cm.done i (Nat.le_refl _) hi at_ hat
  have c2 := cs.c2
  have dr := cs.dr i hi
  have fd := cs.fd i hi at_
  have hs1 : P.s.size + 2 ≤ 1099511627776 := Nat.le_trans (Nat.le_mul_of_pos_right _ (by omega)) hs
  have HCS : Hid (Cs P W) := cs
  have HCM : Hid (Cm P X i W) := cm
  have HR : Hid (x = true → Rg P X W i at_) := hr
  have hat1 : at_ < P.s.size + 1 := by omega
  obtain ⟨n, hn⟩ : ∃ n, P.s.size + 1 = n := ⟨_, rfl⟩
  have HN1 : Hid (P.s.size + 1 = n) := hn
  rw [hn] at dr hat1
  clear cs cm hr hs ht he hn
  have HCA : Hid (ca < i) := hca
  have HTA : Hid (Tr P.re a oa ∧ oa + a.sz = ca + 1) := ⟨hta, hea⟩
  have HWA : Hid (∀ X, Wk P X ca) := hWa
  clear hca hta hea hWa
  have HCB : Hid (cb < i) := hcb
  have HTB : Hid (Tr P.re b ob ∧ ob + b.sz = cb + 1) := ⟨htb, heb⟩
  have HWB : Hid (∀ X, Wk P X cb) := hWb
  clear hcb htb heb hWb
  cases x
  · obtain ⟨W1, hW1⟩ : ∃ W1, W1 = W.setCell ⟨P.d i, at_, none⟩ (.bool true) := ⟨_, rfl⟩
    have fq1 : Fq P i (fun _ => False) W W1 := by rw [hW1]; exact fq_set _ (K.kd i hi) (Nat.le_refl _)
    have cs1 : Cs P W1 := HCS.out.keep K fq1 (fun _ h => h.elim)
    have c0 := cs1.c0
    have c1 := cs1.c1
    have hnA := node_at cs1 hnd
    obtain ⟨k0, k1, k2, k3, k4, k5, k6⟩ := hnA
    dsimp only at k0 k1 k2 k3 k4 k5 k6
    have hlp := cs1.lst.ptr (by intro e; rw [e] at hi; exact Nat.not_lt_zero _ hi)
    rw [hlp] at c0
    have hmk : ∀ W : World, (Instr.makeSlice 48 (.int .i64 ((P.s.size : Int) + 1)) (.int .i64 ((P.s.size : Int) + 1))).run Tryd.prog W = .ok (.slice (some ⟨W.heap.size, 0, none⟩) n n) (W.alloc (.cells ((List.range n).map fun _ => (.bool false : Value)).toArray 4)) := fun W => by
      have := makeB n (by have := HN1.out; omega) W
      rw [← HN1.out] at this ⊢
      exact this
    have HCS1 : Hid (Cs P W1) := cs1
    have HFQ1 : Hid (Fq P i (fun _ => False) W W1) := fq1
    have HCW := Cm.start K hi HCM.out hat
    rw [← hW1] at HCW
    have HCW1 : Hid (Cw P X i at_ W1) := HCW.1
    clear fq1 cs1 HCW
    rw [hW1] at c0 c1 k0 k1 k2 k3 k4 k5 k6
    go_enter Tryd.func36, Tryd.ntmps36
    go_upto_region 3 with fail
    rw [← hW1]
    rw [← hW1] at c0 c1 k0 k1 k2 k3 k4 k5 k6
    have hz : W.heap.size = W1.heap.size := by rw [hW1]; simp [World.setCell]
    rw [hz]
    clear hz hW1
    have hd := hd_make (nd := ⟨4, m, (ca : Int), (cb : Int)⟩) K hi hat HCS1.out HCW1.out HFQ1.out hX
    dsimp only at hd
    rw [HN1.out] at hd
    obtain ⟨b0, hb0⟩ : ∃ b0, W1.heap.size = b0 := ⟨_, rfl⟩
    obtain ⟨V1, hV1⟩ : ∃ V1, V1 = W1.alloc (.cells #[.int .i64 4, .int .u64 (wd m 0 : Nat), .int .u64 (wd m 1 : Nat), .int .u64 (wd m 2 : Nat), .int .u64 (wd m 3 : Nat), .int .i64 (ca : Int), .int .i64 (cb : Int)] 34) := ⟨_, rfl⟩
    obtain ⟨V4, hV4⟩ : ∃ V4, V4 = ((V1.alloc (.cells ((List.range n).map fun _ => (.bool false : Value)).toArray 4)).alloc (.cells ((List.range n).map fun _ => (.bool false : Value)).toArray 4)).alloc (.cells ((List.range n).map fun _ => (.bool false : Value)).toArray 4) := ⟨_, rfl⟩
    have hz1 : V1.heap.size = b0 + 1 := by rw [hV1, ← hb0]; simp
    have c1V : V1.cell? ⟨P.cb, 1, none⟩ = some (.string P.s) := by rw [hV1]; exact cell_up _ c1
    rw [← hV1, ← hV4, hb0] at hd
    rw [hb0]
    rw [← hV1]
    have bl4 : Bl V4 (b0 + 3) n (fun _ => false) := by
      rw [hV4]
      have := Bl.new ((V1.alloc (.cells ((List.range n).map fun _ => (.bool false : Value)).toArray 4)).alloc (.cells ((List.range n).map fun _ => (.bool false : Value)).toArray 4)) n
      simp only [World.size_alloc, hz1] at this
      exact this
    have HHD : Hid _ := hd
    clear hd hV1 c0 c1 k0 k1 k2 k3 k4 k5 k6 hb0
    have hb2 := fun x : Obj => cell_up x c1V
    have hb3 := fun x y : Obj => cell_up y (cell_up x c1V)
    go_upto_region 6 with fail
    rw [← hV4]
    have f4 := bl4.f at_
    have b4 := bl4.c at_ hat1
    clear hb2 hb3 hV4 c1V
    go_upto_region 7 with fail
    rw [show b0 + 1 + 1 + 1 = b0 + 3 from rfl, show b0 + 1 + 1 = b0 + 2 from rfl]
    obtain ⟨S, hS⟩ : ∃ S, S = V4.setCell ⟨b0 + 3, at_, none⟩ (.bool true) := ⟨_, rfl⟩
    rw [← hS] at HHD ⊢
    clear hS bl4 f4 b4
    have HMD : Hid (Md P (Y3 X b0) i at_ W S) := HHD.out.md hX
    have HLE : Hid (W.heap.size ≤ b0 ∧ P.base ≤ b0 ∧ S.heap.size = b0 + 4) := ⟨HHD.out.le, HHD.out.bs, HHD.out.sz⟩
    have HEN : Hid (Bl S (b0 + 1) (P.s.size + 1) (fun _ => false)) := HHD.out.en
    have HCU : Hid (Bl S (b0 + 2) (P.s.size + 1) (fun _ => false)) := HHD.out.cu
    have HST : Hid (Bl S (b0 + 3) (P.s.size + 1) (fun p => decide (p = at_))) := HHD.out.st
    have HND : Hid (AtN S b0 4 m (ca : Int) (cb : Int)) := HHD.out.nd
    obtain ⟨n0, n1, n2, n3, n4, n5, n6⟩ := nd_cells HND.out
    have HI : Hid (i < P.re.length) := hi
    have HAT : Hid (at_ ≤ P.s.size) := hat
    have hn40 : n ≤ 1099511627776 := by have := HN1.out; omega
    clear HHD c2 dr fd cd hnd hlp hz1
    go_wp2_with fail
    clear n0 n1 n2 n3 n4 n5 n6
    have r1 := ragain_any P HK.out (Y3 X b0) ca (b0 + 3) (b0 + 1) (b0 + 2) (fun p => decide (p = at_)) (fun _ => false) (fun _ => false) a oa S (by have := HCA.out; have := HI.out; omega) HTA.out.1 HTA.out.2 (HWA.out _) HMD.out.yb (.inr (.inr (.inr rfl))) (.inr (.inl rfl)) (.inr (.inr (.inl rfl))) (by omega) (by omega) (by omega) (by have := HN1.out; omega) (HMD.out.start HCA.out HST.out HEN.out HCU.out)
    rw [HN1.out] at r1
    refine Calls.mono r1 ?_
    clear r1
    rintro e S1 ⟨⟨v1, rfl⟩, ag1⟩
    have MD1 : Hid (Md P (Y3 X b0) i at_ W S1) := HMD.out.again HK.out HI.out HCA.out ag1 (.inr (.inl rfl)) (.inr (.inr (.inl rfl))) (by have := HLE.out; omega) (by have := HLE.out; omega)
    have FQ1 : Hid (Fq P ca (fun b => b = b0 + 1 ∨ b = b0 + 2) S S1) := ag1.fq
    obtain ⟨me1, be1, ee1⟩ := ag1.en
    obtain ⟨mc1, bc1, ec1⟩ := ag1.cu
    rw [← HN1.out] at ee1 ec1
    have BE1 : Hid _ := be1
    have BC1 : Hid _ := bc1
    have BF1 : Hid _ := ag1.fr
    have EE1 : Hid _ := ee1
    have EC1 : Hid _ := ec1
    clear ag1 be1 bc1 ee1 ec1
    have ND1 : Hid _ := HND.out.same (FQ1.out.none (by have := HLE.out; omega) (HK.out.kn _ HLE.out.2.1) (by omega))
    obtain ⟨n0, n1, n2, n3, n4, n5, n6⟩ := nd_cells ND1.out
    go_wp2_with fail
    clear n0 n1 n2 n3 n4 n5 n6
    have r2 := ragain_any P HK.out (Y3 X b0) cb (b0 + 3) (b0 + 1) (b0 + 2) (fun p => decide (p = at_)) me1 mc1 b ob S1 (by have := HCB.out; have := HI.out; omega) HTB.out.1 HTB.out.2 (HWB.out _) MD1.out.yb (.inr (.inr (.inr rfl))) (.inr (.inl rfl)) (.inr (.inr (.inl rfl))) (by omega) (by omega) (by omega) (by have := HN1.out; omega) (MD1.out.start HCB.out BF1.out BE1.out BC1.out)
    rw [HN1.out] at r2
    refine Calls.mono r2 ?_
    clear r2
    rintro e A ⟨⟨v2, rfl⟩, ag2⟩
    have MD2 : Hid (Md P (Y3 X b0) i at_ W A) := MD1.out.again HK.out HI.out HCB.out ag2 (.inr (.inl rfl)) (.inr (.inr (.inl rfl))) (by have := HLE.out; omega) (by have := HLE.out; omega)
    have FQ2 : Hid (Fq P cb (fun b => b = b0 + 1 ∨ b = b0 + 2) S1 A) := ag2.fq
    obtain ⟨me2, be2, ee2⟩ := ag2.en
    obtain ⟨mc2, bc2, ec2⟩ := ag2.cu
    rw [← HN1.out] at ee2 ec2
    have BE2 : Hid _ := be2
    have BC2 : Hid _ := bc2
    have BF2 : Hid _ := ag2.fr
    have EE2 : Hid _ := ee2
    have EC2 : Hid _ := ec2
    clear ag2 be2 bc2 ee2 ec2
    have fe := fin_alt (a := a) (b := b) HAT.out EE1.out EC1.out EE2.out EC2.out
    have BE := BE2.out.congr fe.1
    have BK := BC2.out.congr fe.2
    clear fe
    have MA : Hid _ := MD2.out
    go_upto_region 28 with fail
    have TL := MA.out.tail HK.out HI.out HAT.out (.slice (some ⟨b0 + 1, 0, none⟩) n n)
    rw [HN1.out] at TL
    obtain ⟨t1, t2, t3, ⟨tv, t4⟩, t5, t6, t7, ⟨tw, t8⟩⟩ := TL
    go_wp2_with fail
    go_end0
    have FI := Md.fin (X := X) HK.out HI.out HT.out.1 HT.out.2 MA.out HAT.out HX.out (fun b hb => .inl hb) (.inr (.inl rfl)) (.inr (.inr (.inl rfl))) (by have := HLE.out; omega) (by have := HLE.out; omega) BE BK HCS.out
    rw [HN1.out] at FI
    exact ⟨⟨_, rfl⟩, FI.1, FI.2.1, FI.2.2.1, FI.2.2.2⟩
  · go_enter Tryd.func36, Tryd.ntmps36
    go_wp2_with fail
    (try simp only [Exit.inBlock, Exit.then])
    refine bodyPost_ret (results_none rfl _ _ _) rfl ?_
    exact ⟨⟨_, rfl⟩, HCS.out, HCM.out, HR.out (by first | rfl | trivial), Fq.refl _ _ _ _⟩
end Go.Proofs.YtkjcnnecdclgfaaDoor
