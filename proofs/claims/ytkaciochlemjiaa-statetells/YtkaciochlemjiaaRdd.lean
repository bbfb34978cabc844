import Derived.Test.YtkaciochlemjiaaRdx
import Derived.Test.YtkaciochlemjiaaRsp
import Derived.Test.YtkaciochlemjiaaRwt
namespace Go.Proofs.Ytkaciochlemjiaa
open Go.RowKit Go.Maps

theorem neq_str (x y : ByteArray) : (x.toList != y.toList) = !decide (x = y) := by rw [bne, str_eq]
theorem cel_of {W W2 : World} {B b k : Nat} {e t : TypeId} {size n : Nat} {v u : Value} {xs : List Value} {cs : Array Value} (hg : W.grownBy W2 v.ownBlock) (hb : W.heap[b]? = some (.cells cs t (0, 0))) (hr : W.ownsRow B e size v n xs) (hne : e ≠ t) (hk : cs[k]? = some u) : W2.cell? ⟨b, k, none⟩ = some u := by
  rw [Lib.cell_of_heap ((hg.block b (lt_of_heap hb) (fun e => tag_ne_blk hr hb hne e.symm)).trans hb)]; exact hk
theorem froz_of {W W2 : World} {B b k : Nat} {e t : TypeId} {size n : Nat} {v : Value} {xs : List Value} {cs : Array Value} (hg : W.grownBy W2 v.ownBlock) (hb : W.heap[b]? = some (.cells cs t (0, 0))) (hr : W.ownsRow B e size v n xs) (hne : e ≠ t) : W2.frozen? ⟨b, k, none⟩ = false :=
  Lib.frozen_of_heap ((hg.block b (lt_of_heap hb) (fun e => tag_ne_blk hr hb hne e.symm)).trans hb) k
theorem rcell {W : World} {b : Nat} {cs : Array Value} {t : TypeId} (h : W.heap[b]? = some (.cells cs t (0, 0))) (k : Nat) (v : Value) (hk : cs[k]? = some v) : W.cell? ⟨b, k, none⟩ = some v := by rw [Lib.cell_of_heap h]; exact hk
theorem own_five {W : World} {B b : Nat} {vi vq vf v0 v1 v2 v3 v4 : Value} {s : Stt} {cs : Array Value} (h : Own B W vi vq vf s) (hb : W.heap[b]? = some (.cells cs 27 (0, 0))) : Own B (five W b v0 v1 v2 v3 v4) vi vq vf s := ⟨row_five hb h.i (by decide), row_five hb h.q (by decide), row_five hb h.f (by decide)⟩
set_option maxRecDepth 100000 in
set_option maxHeartbeats 4000000 in
theorem rdecode_nil (w : World) : Calls Try.prog 14 #[.string ⟨#[]⟩] w fun e w' => Dcd ⟨#[]⟩ w e w' := by
  go_enter Try.func14, Try.ntmps14
  go_wp2_with fail
  (try simp only [Exit.inBlock, Exit.then])
  refine bodyPost_ret (v := .tuple #[.agg #[.slice none 0 0, .int .i64 0, .slice none 0 0, .slice none 0 0, .int .u16 0], .int .i64 65]) ?_ rfl ⟨?_, .inr ⟨fun s _ _ e => ?_, rfl⟩⟩
  · rw [results_cell_tmp rfl]; go_simp
  · first | exact below_trans (bel_up _ _) (bel_up _ _) | exact bel_five (below_trans (bel_up _ _) (bel_up _ _)) (Nat.le_refl _)
  · obtain ⟨l, hl⟩ := enc_head s
    rw [hl] at e
    cases e

set_option maxRecDepth 100000 in
set_option maxHeartbeats 16000000 in
theorem rdecode_any (t : ByteArray) (hm : t.size ≤ 140737488355328) (w : World) : Calls Try.prog 14 #[.string t] w fun e w' => Dcd t w e w' := by
  rcases Nat.eq_zero_or_pos t.size with h0 | h0
  · have ht : t = ⟨#[]⟩ := bytes_ext (emp_list h0)
    subst ht
    exact rdecode_nil w
  have HM : Hid (t.size ≤ 140737488355328) := hm
  have HT0 : Hid (0 < t.size) := h0
  have z0 : ((t.size : Int) == 0) = false := by rw [beq_eq_false_iff_ne]; omega
  have z1 : (t.size == 0) = false := by rw [beq_eq_false_iff_ne]; omega
  obtain ⟨W3, hW3⟩ : ∃ W3, W3 = ((w.alloc (.cells #[.slice none 0 0, .int .i64 0, .slice none 0 0, .slice none 0 0, .int .u16 0] 27)).alloc (.cells #[.string t, .int .i64 1] 66)).alloc (.cells #[.slice none 0 0, .int .i64 0, .slice none 0 0, .slice none 0 0, .int .u16 0] 27) := ⟨_, rfl⟩
  have HW3 : Hid (W3 = ((w.alloc (.cells #[.slice none 0 0, .int .i64 0, .slice none 0 0, .slice none 0 0, .int .u16 0] 27)).alloc (.cells #[.string t, .int .i64 1] 66)).alloc (.cells #[.slice none 0 0, .int .i64 0, .slice none 0 0, .slice none 0 0, .int .u16 0] 27)) := hW3
  have HD3 : Hid (Dcx w W3 t 1 (.slice none 0 0) (.slice none 0 0) (.slice none 0 0) ⟨[], 0, [], [], 0⟩) := by
    have hb1 : Below w.heap.size w W3 := by rw [hW3]; exact below_trans (below_trans (bel_up _ _) (bel_up _ _)) (bel_up _ _)
    have s1 : (w.alloc (.cells #[.slice none 0 0, .int .i64 0, .slice none 0 0, .slice none 0 0, .int .u16 0] 27)).heap.size = w.heap.size + 1 := World.size_alloc _ _
    have s2 : ((w.alloc (.cells #[.slice none 0 0, .int .i64 0, .slice none 0 0, .slice none 0 0, .int .u16 0] 27)).alloc (.cells #[.string t, .int .i64 1] 66)).heap.size = w.heap.size + 1 + 1 := by rw [World.size_alloc, s1]
    refine ⟨⟨?_, ⟨World.ownsRow_nil _ _ _ _, World.ownsRow_nil _ _ _ _, World.ownsRow_nil _ _ _ _⟩, by omega, hb1.size⟩, ?_, ?_, hb1⟩
    · have := heap_new ((w.alloc (.cells #[.slice none 0 0, .int .i64 0, .slice none 0 0, .slice none 0 0, .int .u16 0] 27)).alloc (.cells #[.string t, .int .i64 1] 66)) (.cells #[.slice none 0 0, .int .i64 0, .slice none 0 0, .slice none 0 0, .int .u16 0] 27)
      rw [s2, ← hW3] at this
      exact this
    · show W3.heap[w.heap.size + 1]? = _
      rw [hW3, (bel_up _ _).block _ (by rw [s2]; omega)]
      have := heap_new (w.alloc (.cells #[.slice none 0 0, .int .i64 0, .slice none 0 0, .slice none 0 0, .int .u16 0] 27)) (.cells #[.string t, .int .i64 1] 66)
      rw [s1] at this
      exact this
    · rw [hW3, (bel_up _ _).block _ (by rw [s2]; omega), (bel_up _ _).block _ (by rw [s1]; omega)]
      exact heap_new w _
  have HE0 : Hid (∀ S, OkS t S → t.data.toList.drop 1 = nm S.ind.length ++ S.ind.flatMap nmi ++ R1 S) := fun S hS => by
    rw [hS.2.2, enc_r]
    rfl
  obtain ⟨iE, hi3, hx0, hx1, hx2⟩ := info_parts info3
  have HI3 : Hid (Try.prog.info? 3 = some iE ∧ iE.zero = some (.int .i64 0) ∧ iE.size = 1 ∧ iE.bytes = 8) := ⟨hi3, hx0, hx1, hx2⟩
  obtain ⟨iQ, hq3, hy0, hy1, hy2⟩ := info_parts info9
  have HI9 : Hid (Try.prog.info? 9 = some iQ ∧ iQ.zero = some (.string ⟨#[]⟩) ∧ iQ.size = 1 ∧ iQ.bytes = 16) := ⟨hq3, hy0, hy1, hy2⟩
  obtain ⟨iF, hf3, hz0, hz1, hz2⟩ := info_parts info54
  have HI54 : Hid (Try.prog.info? 54 = some iF ∧ iF.zero = some (.agg #[.int .i64 0, .string ⟨#[]⟩]) ∧ iF.size = 2 ∧ iF.bytes = 24) := ⟨hf3, hz0, hz1, hz2⟩
  clear hm h0 hW3 hi3 hx0 hx1 hx2 hq3 hy0 hy1 hy2 hf3 hz0 hz1 hz2
  go_enter Try.func14, Try.ntmps14
  go_upto_region 5 with fail
  rw [← HW3.out]
  go_wp2_with fail
  refine (cfew_any HM.out (show 1 ≤ t.size from HT0.out) W3 HD3.out.cu).mono ?_
  rintro e w4 ⟨n1, k1, rfl, hk1, hs1, hn1, hr1, hc1, hg1⟩
  have HD4 : Hid _ := HD3.out.num hg1 hc1
  have HN1 : Hid (n1 + k1 ≤ t.size ∧ n1 < 2097152) := ⟨hs1, hn1⟩
  have HE1 : Hid (∀ S, OkS t S → n1 = S.ind.length ∧ t.data.toList.drop k1 = S.ind.flatMap nmi ++ R1 S) := fun S hS => few_lst nmi_pos hr1 (by have := (Lim.of hS.1 hS.2.1).i; omega) (HE0.out S hS)
  clear hk1 hs1 hn1 hr1 hc1 hg1 z0 z1
  go_wp2_with fail
  go_loopg [7] (n1 + 1) (fun gm v7 wr => ∃ (xs : List Int) (k : Nat) (vi : Value), v7 = .int .i64 (xs.length : Int) ∧ Hid (xs.length ≤ n1 ∧ gm = n1 + 1 - xs.length) ∧ Hid (k ≤ t.size) ∧ Hid (Dcx w wr t k vi (.slice none 0 0) (.slice none 0 0) ⟨xs, 0, [], [], 0⟩) ∧ Hid (∀ S, OkS t S → n1 = S.ind.length ∧ ∃ L', S.ind = xs ++ L' ∧ t.data.toList.drop k = L'.flatMap nmi ++ R1 S))
  case atStart => exact ⟨[], k1, _, rfl, ⟨Nat.zero_le _, rfl⟩, by show k1 ≤ t.size; have := HN1.out.1; omega, HD4, fun S hS => ⟨(HE1.out S hS).1, S.ind, rfl, (HE1.out S hS).2⟩⟩
  case round =>
    obtain ⟨xs, k, vi, rfl, HI, HK, HD, HE⟩ := hrel
    obtain ⟨j, hj⟩ : ∃ j, xs.length = j := ⟨_, rfl⟩
    have HJ : Hid (xs.length = j) := hj
    rw [hj] at HI
    rw [hj]
    clear hj
    have hrow := HD.out.nx.own.i
    obtain ⟨la, lc, hv⟩ := row_shape hrow
    rw [show (⟨xs, 0, [], [], 0⟩ : Stt).ind.length = j from HJ.out] at hv
    subst hv
    clear hrow
    by_cases hjn : j < n1
    · have e1 : decide ((j : Int) < (n1 : Int)) = true := by rw [decide_eq_true_eq]; omega
      have e2 : decide (j < n1) = true := by rw [decide_eq_true_eq]; exact hjn
      have HJN : Hid (j < n1) := hjn
      have hjw : wrap64 ((j : Int) + 1) = (j : Int) + 1 := by have := HN1.out.2; unfold wrap64; omega
      have HJW : Hid _ := hjw
      clear hjn hjw
      go_wp2_with fail
      refine (cnum_any HM.out HK.out wr HD.out.cu).mono ?_
      rintro e w5 ⟨x, k5, rfl, hr5, hc5, hg5⟩
      have HD5 : Hid _ := HD.out.num hg5 hc5
      have HR5 : Hid (RdC t k x k5) := hr5
      have HDA : Hid (Dcx w (w5.alloc (.cells #[.int .i64 (x : Int)] 3)) t k5 (.slice la j lc) (.slice none 0 0) (.slice none 0 0) ⟨xs, 0, [], [], 0⟩) := HD5.out.up (bel_up _ _)
      have HROW : Hid ((w5.alloc (.cells #[.int .i64 (x : Int)] 3)).ownsRow w.heap.size 3 1 (.slice la j lc) j (iC xs)) := by have := HDA.out.nx.own.i; rw [show (⟨xs, 0, [], [], 0⟩ : Stt).ind.length = j from HJ.out] at this; exact this
      obtain ⟨c0, -, -, -, -⟩ := HD5.out.nx.cells
      clear hr5 hc5 hg5
      have hfz := HDA.out.nx.frz 0
      have hjw := HJW.out
      go_wp2_with (at_builtin; refine wpList_append_own _ rfl _ _ 22 rfl w.heap.size 3 iE (.int .i64 0) 1 8 Try.underlying22 HI3.out.1 HI3.out.2.1 HI3.out.2.2.1 HI3.out.2.2.2 rfl (by decide) _ _ _ rfl HROW.out ⟨w5.heap.size, 0, none⟩ 1 1 [.int .i64 (x : Int)] rfl rfl (cell_one_new _ _ _) (by simp [Value.oneCell']) (by have := HN1.out; have := HJN.out; unfold maxLen; omega) (by have := HN1.out; have := HJN.out; omega) HDA.out.nx.lB ?_; intro v6 w6 ho6 hg6 _; have HO6 : Hid (w6.ownsRow w.heap.size 3 1 v6 (j + 1) (iC xs ++ [.int .i64 (x : Int)])) := ho6; have HG6 : Hid ((w5.alloc (.cells #[.int .i64 (x : Int)] 3)).grownBy w6 (Value.ownBlock (.slice la j lc))) := hg6; have HD6 : Hid (Dcx w (w6.setCell ⟨w.heap.size + 1 + 1, 0, none⟩ v6) t k5 v6 (.slice none 0 0) (.slice none 0 0) ⟨xs ++ [(x : Int)], 0, [], [], 0⟩) := HDA.out.ai (x := (x : Int)) hg6 (by show w6.ownsRow _ _ _ _ (xs ++ [(x : Int)]).length _; rw [List.length_append, HJ.out, iC_app]; exact ho6); have hfz6 : w6.frozen? ⟨w.heap.size + 1 + 1, 0, none⟩ = false := froz_of hg6 HDA.out.nx.blk HROW.out (by decide); have hc6 : w6.cell? ⟨w.heap.size + 1 + 1, 0, none⟩ = some (.slice la j lc) := cel_of hg6 HDA.out.nx.blk HROW.out (by decide) rfl; obtain ⟨qa, qc, rfl⟩ := row_shape ho6; clear ho6 hg6)
      go_roundg (n1 + 1 - (j + 1))
      case measure => have := HI.out; have := HJN.out; omega
      case rel =>
        have hlen : (xs ++ [(x : Int)]).length = j + 1 := by rw [List.length_append, HJ.out]; rfl
        refine ⟨xs ++ [(x : Int)], k5, _, by rw [hlen]; first | rfl | (rw [HJW.out]; rfl) | (rw [show (j : Int) + 1 = ((j + 1 : Nat) : Int) by omega]), ⟨by rw [hlen]; exact HJN.out, by rw [hlen]⟩, HR5.out.2.1, HD6, fun S hS => ?_⟩
        obtain ⟨h1, h2⟩ := HE.out S hS
        refine ⟨h1, one_more (by rw [HJ.out, ← h1]; exact HJN.out) h2 (fun y q hy e => ?_)⟩
        have hb := (Lim.of hS.1 hS.2.1).iv y hy
        obtain ⟨h3, h4⟩ := HR5.out.2.2.2 y.toNat q (by omega) e
        exact ⟨by omega, h4⟩
    · have e1 : decide ((j : Int) < (n1 : Int)) = false := by rw [decide_eq_false_iff_not]; omega
      have e2 : decide (j < n1) = false := by rw [decide_eq_false_iff_not]; omega
      have HE2 : Hid (∀ S, OkS t S → xs = S.ind ∧ t.data.toList.drop k = R1 S) := fun S hS => by
        obtain ⟨h1, h2⟩ := HE.out S hS
        exact all_read (by rw [HJ.out, ← h1]; have := HI.out; omega) h2
      clear hjn HI HE HE1
      go_wp2_with fail
      refine (cnum_any HM.out HK.out wr HD.out.cu).mono ?_
      rintro e w5 ⟨x, k5, rfl, hr5, hc5, hg5⟩
      have HX : Hid (x < 2097152 ∧ k5 ≤ t.size) := ⟨hr5.2.2.1, hr5.2.1⟩
      obtain ⟨pn, hpn⟩ : ∃ pn : Int, (x : Int) - 1 = pn := ⟨_, rfl⟩
      have hpw : wrap64 ((x : Int) - 1) = pn := by rw [← hpn]; have := HX.out.1; unfold wrap64; omega
      have HPW : Hid _ := hpw
      have HD5 : Hid (Dcx w w5 t k5 (.slice la j lc) (.slice none 0 0) (.slice none 0 0) ⟨xs, 0, [], [], 0⟩) := HD.out.num hg5 hc5
      have HD6 : Hid (Dcx w (w5.setCell ⟨w.heap.size + 1 + 1, 1, none⟩ (.int .i64 pn)) t k5 (.slice la j lc) (.slice none 0 0) (.slice none 0 0) ⟨xs, pn, [], [], 0⟩) := HD5.out.put 1 _ _ rfl ⟨HD5.out.nx.own.i, HD5.out.nx.own.q, HD5.out.nx.own.f⟩
      have HE3 : Hid (∀ S, OkS t S → xs = S.ind ∧ pn = S.pen ∧ t.data.toList.drop k5 = nm S.que.length ++ S.que.flatMap tx ++ R3 S) := fun S hS => by
        obtain ⟨h1, h2⟩ := HE2.out S hS
        have hb := Lim.of hS.1 hS.2.1
        obtain ⟨h3, h4⟩ := hr5.2.2.2 (S.pen + 1).toNat (R2 S) (by have := hb.p1; omega) h2
        exact ⟨h1, by have := hb.p0; omega, h4⟩
      have hfz := HD5.out.nx.frz 1
      have hcp := HD5.out.nx.cell 1 _ rfl
      clear hr5 hc5 hg5 hpn HE2 e1 e2
      go_upto_region 13 with fail
      first | rw [hpw] | skip
      obtain ⟨w6, hw6⟩ : ∃ w6, w6 = w5.setCell ⟨w.heap.size + 1 + 1, 1, none⟩ (.int .i64 pn) := ⟨_, rfl⟩
      rw [← hw6]
      rw [← hw6] at HD6
      clear hw6 hpw hfz HD5 hcp
      go_wp2_with fail
      refine (cfew_any HM.out HX.out.2 w6 HD6.out.cu).mono ?_
      rintro e w7 ⟨n2, k7, rfl, hk7, hs7, hn7, hr7, hc7, hg7⟩
      have HD7 : Hid _ := HD6.out.num hg7 hc7
      have HN2 : Hid (n2 + k7 ≤ t.size ∧ n2 < 2097152) := ⟨hs7, hn7⟩
      have HE4 : Hid (∀ S, OkS t S → xs = S.ind ∧ pn = S.pen ∧ n2 = S.que.length ∧ t.data.toList.drop k7 = S.que.flatMap tx ++ R3 S) := fun S hS => by
        obtain ⟨h1, h2, h3⟩ := HE3.out S hS
        obtain ⟨h4, h5⟩ := few_lst tx_pos hr7 (by have := (Lim.of hS.1 hS.2.1).q; omega) h3
        exact ⟨h1, h2, h4, h5⟩
      clear hk7 hs7 hn7 hr7 hc7 hg7 HE3
      go_wp2_with fail
      go_loopg [10] (n2 + 1) (fun gm v10 wr => ∃ (qs : List ByteArray) (k : Nat) (vq : Value), v10 = .int .i64 (qs.length : Int) ∧ Hid (qs.length ≤ n2 ∧ gm = n2 + 1 - qs.length) ∧ Hid (k ≤ t.size) ∧ Hid (∀ d ∈ qs, d.size ≤ t.size) ∧ Hid (Dcx w wr t k (.slice la j lc) vq (.slice none 0 0) ⟨xs, pn, qs, [], 0⟩) ∧ Hid (∀ S, OkS t S → xs = S.ind ∧ pn = S.pen ∧ n2 = S.que.length ∧ ∃ L', S.que = qs ++ L' ∧ t.data.toList.drop k = L'.flatMap tx ++ R3 S))
      case atStart => exact ⟨[], k7, _, rfl, ⟨Nat.zero_le _, rfl⟩, by show k7 ≤ t.size; have := HN2.out.1; omega, fun d hd => (by cases hd), HD7, fun S hS => ⟨(HE4.out S hS).1, (HE4.out S hS).2.1, (HE4.out S hS).2.2.1, S.que, rfl, (HE4.out S hS).2.2.2⟩⟩
      case round =>
        clear HK HD HD6 HD7 HE4
        obtain ⟨qs, k, vq, rfl, HI, HK, HQS, HD, HE⟩ := hrel
        obtain ⟨i, hi⟩ : ∃ i, qs.length = i := ⟨_, rfl⟩
        have HJ2 : Hid (qs.length = i) := hi
        rw [hi] at HI
        rw [hi]
        clear hi
        have hrow := HD.out.nx.own.q
        obtain ⟨ma, mc, hv⟩ := row_shape hrow
        rw [show (⟨xs, pn, qs, [], 0⟩ : Stt).que.length = i from HJ2.out] at hv
        subst hv
        clear hrow
        by_cases hjn : i < n2
        · have e1 : decide ((i : Int) < (n2 : Int)) = true := by rw [decide_eq_true_eq]; omega
          have e2 : decide (i < n2) = true := by rw [decide_eq_true_eq]; exact hjn
          have HJN : Hid (i < n2) := hjn
          have hjw : wrap64 ((i : Int) + 1) = (i : Int) + 1 := by have := HN2.out.2; unfold wrap64; omega
          have HJW : Hid _ := hjw
          clear hjn hjw
          go_wp2_with fail
          refine (ctxt_any HM.out HK.out wr HD.out.cu).mono ?_
          rintro e w8 ⟨x, k8, rfl, -, hk8, hz8, hr8, hc8, hg8⟩
          have HD8 : Hid _ := HD.out.num hg8 hc8
          have HR8 : Hid (∀ (y : ByteArray) q, y.size < 2097152 → t.data.toList.drop k = tx y ++ q → x = y ∧ t.data.toList.drop k8 = q) := hr8
          have HK8 : Hid (k8 ≤ t.size ∧ x.size ≤ t.size) := ⟨hk8, hz8⟩
          have HDA : Hid (Dcx w (w8.alloc (.cells #[.string x] 9)) t k8 (.slice la j lc) (.slice ma i mc) (.slice none 0 0) ⟨xs, pn, qs, [], 0⟩) := HD8.out.up (bel_up _ _)
          have HROW : Hid ((w8.alloc (.cells #[.string x] 9)).ownsRow w.heap.size 9 1 (.slice ma i mc) i (qC qs)) := by have := HDA.out.nx.own.q; rw [show (⟨xs, pn, qs, [], 0⟩ : Stt).que.length = i from HJ2.out] at this; exact this
          obtain ⟨-, -, c0, -, -⟩ := HD8.out.nx.cells
          clear hr8 hc8 hg8 hk8 hz8
          have hfz := HDA.out.nx.frz 2
          have hjw := HJW.out
          go_wp2_with (at_builtin; refine wpList_append_own _ rfl _ _ 23 rfl w.heap.size 9 iQ (.string ⟨#[]⟩) 1 16 Try.underlying23 HI9.out.1 HI9.out.2.1 HI9.out.2.2.1 HI9.out.2.2.2 rfl (by decide) _ _ _ rfl HROW.out ⟨w8.heap.size, 0, none⟩ 1 1 [.string x] rfl rfl (cell_one_new _ _ _) (by simp [Value.oneCell']) (by have := HN2.out; have := HJN.out; unfold maxLen; omega) (by have := HN2.out; have := HJN.out; omega) HDA.out.nx.lB ?_; intro v6 w6 ho6 hg6 _; have HD9 : Hid (Dcx w (w6.setCell ⟨w.heap.size + 1 + 1, 2, none⟩ v6) t k8 (.slice la j lc) v6 (.slice none 0 0) ⟨xs, pn, qs ++ [x], [], 0⟩) := HDA.out.aq (x := x) hg6 (by show w6.ownsRow _ _ _ _ (qs ++ [x]).length _; rw [List.length_append, HJ2.out, qC_app]; exact ho6); have hfz6 : w6.frozen? ⟨w.heap.size + 1 + 1, 2, none⟩ = false := froz_of hg6 HDA.out.nx.blk HROW.out (by decide); have hc6 : w6.cell? ⟨w.heap.size + 1 + 1, 2, none⟩ = some (.slice ma i mc) := cel_of hg6 HDA.out.nx.blk HROW.out (by decide) rfl; obtain ⟨qa, qc, rfl⟩ := row_shape ho6; clear ho6 hg6)
          go_roundg (n2 + 1 - (i + 1))
          case measure => have := HI.out; have := HJN.out; omega
          case rel =>
            have hlen : (qs ++ [x]).length = i + 1 := by rw [List.length_append, HJ2.out]; rfl
            refine ⟨qs ++ [x], k8, _, by rw [hlen]; first | rfl | (rw [HJW.out]; rfl) | (rw [show (i : Int) + 1 = ((i + 1 : Nat) : Int) by omega]), ⟨by rw [hlen]; exact HJN.out, by rw [hlen]⟩, HK8.out.1, ?_, HD9, fun S hS => ?_⟩
            · intro d hd
              rcases List.mem_append.1 hd with h | h
              · exact HQS.out d h
              · simp at h; subst h; exact HK8.out.2
            obtain ⟨h1, h2, h3, h4⟩ := HE.out S hS
            refine ⟨h1, h2, h3, one_more (by rw [HJ2.out, ← h3]; exact HJN.out) h4 (fun y q hy e => ?_)⟩
            exact HR8.out y q (by have := (Lim.of hS.1 hS.2.1).qv y hy; omega) e
        · have e1 : decide ((i : Int) < (n2 : Int)) = false := by rw [decide_eq_false_iff_not]; omega
          have e2 : decide (i < n2) = false := by rw [decide_eq_false_iff_not]; omega
          have HE2 : Hid (∀ S, OkS t S → xs = S.ind ∧ pn = S.pen ∧ qs = S.que ∧ t.data.toList.drop k = nm S.frm.length ++ S.frm.flatMap frb ++ R4 S) := fun S hS => by
            obtain ⟨h1, h2, h3, h4⟩ := HE.out S hS
            obtain ⟨h5, h6⟩ := all_read (by rw [HJ2.out, ← h3]; have := HI.out; omega) h4
            exact ⟨h1, h2, h5, h6⟩
          clear hjn HI HE
          go_wp2_with fail
          refine (cfew_any HM.out HK.out wr HD.out.cu).mono ?_
          rintro e w7 ⟨n3, k7, rfl, hk7, hs7, hn7, hr7, hc7, hg7⟩
          have HD7 : Hid _ := HD.out.num hg7 hc7
          have HN3 : Hid (n3 + k7 ≤ t.size ∧ n3 < 2097152) := ⟨hs7, hn7⟩
          have HE4 : Hid (∀ S, OkS t S → xs = S.ind ∧ pn = S.pen ∧ qs = S.que ∧ n3 = S.frm.length ∧ t.data.toList.drop k7 = S.frm.flatMap frb ++ R4 S) := fun S hS => by
            obtain ⟨h1, h2, h3, h4⟩ := HE2.out S hS
            obtain ⟨h5, h6⟩ := few_lst frb_pos hr7 (by have := (Lim.of hS.1 hS.2.1).f; omega) h4
            exact ⟨h1, h2, h3, h5, h6⟩
          clear hk7 hs7 hn7 hr7 hc7 hg7 HE2 e1 e2
          go_wp2_with fail
          go_loopg [12] (n3 + 1) (fun gm v12 wr => ∃ (fs : List (Int × ByteArray)) (k : Nat) (vf : Value), v12 = .int .i64 (fs.length : Int) ∧ Hid (fs.length ≤ n3 ∧ gm = n3 + 1 - fs.length) ∧ Hid (k ≤ t.size) ∧ Hid (Dcx w wr t k (.slice la j lc) (.slice ma i mc) vf ⟨xs, pn, qs, fs, 0⟩) ∧ Hid (∀ S, OkS t S → xs = S.ind ∧ pn = S.pen ∧ qs = S.que ∧ n3 = S.frm.length ∧ ∃ L', S.frm = fs ++ L' ∧ t.data.toList.drop k = L'.flatMap frb ++ R4 S))
          case atStart => exact ⟨[], k7, _, rfl, ⟨Nat.zero_le _, rfl⟩, by show k7 ≤ t.size; have := HN3.out.1; omega, HD7, fun S hS => ⟨(HE4.out S hS).1, (HE4.out S hS).2.1, (HE4.out S hS).2.2.1, (HE4.out S hS).2.2.2.1, S.frm, rfl, (HE4.out S hS).2.2.2.2⟩⟩
          case round =>
            clear HK HD HD7 HE4
            obtain ⟨fs, k, vf, rfl, HI, HK, HD, HE⟩ := hrel
            obtain ⟨g, hg⟩ : ∃ g, fs.length = g := ⟨_, rfl⟩
            have HJ3 : Hid (fs.length = g) := hg
            rw [hg] at HI
            rw [hg]
            clear hg
            have hrow := HD.out.nx.own.f
            obtain ⟨na, nc, hv⟩ := row_shape hrow
            rw [show (⟨xs, pn, qs, fs, 0⟩ : Stt).frm.length = g from HJ3.out] at hv
            subst hv
            clear hrow
            by_cases hjn : g < n3
            · have e1 : decide ((g : Int) < (n3 : Int)) = true := by rw [decide_eq_true_eq]; omega
              have e2 : decide (g < n3) = true := by rw [decide_eq_true_eq]; exact hjn
              have HJN : Hid (g < n3) := hjn
              have hjw : wrap64 ((g : Int) + 1) = (g : Int) + 1 := by have := HN3.out.2; unfold wrap64; omega
              have HJW : Hid _ := hjw
              clear hjn hjw
              go_wp2_with fail
              refine (cnum_any HM.out HK.out wr HD.out.cu).mono ?_
              rintro e w5 ⟨m, k5, rfl, hr5, hc5, hg5⟩
              have HD5 : Hid _ := HD.out.num hg5 hc5
              have HR5 : Hid (RdC t k m k5) := hr5
              clear hr5 hc5 hg5
              go_wp2_with fail
              refine (ctxt_any HM.out HR5.out.2.1 w5 HD5.out.cu).mono ?_
              rintro e w8 ⟨x, k8, rfl, -, hk8, hz8, hr8, hc8, hg8⟩
              have HD8 : Hid _ := HD5.out.num hg8 hc8
              have HR8 : Hid (∀ (y : ByteArray) q, y.size < 2097152 → t.data.toList.drop k5 = tx y ++ q → x = y ∧ t.data.toList.drop k8 = q) := hr8
              have HK8 : Hid (k8 ≤ t.size) := hk8
              have HDA : Hid (Dcx w (w8.alloc (.cells #[.int .i64 (m : Int), .string x] 54)) t k8 (.slice la j lc) (.slice ma i mc) (.slice na g nc) ⟨xs, pn, qs, fs, 0⟩) := HD8.out.up (bel_up _ _)
              have HROW : Hid ((w8.alloc (.cells #[.int .i64 (m : Int), .string x] 54)).ownsRow w.heap.size 54 2 (.slice na g nc) g (fC fs)) := by have := HDA.out.nx.own.f; rw [show (⟨xs, pn, qs, fs, 0⟩ : Stt).frm.length = g from HJ3.out] at this; exact this
              obtain ⟨-, -, -, c0, -⟩ := HD8.out.nx.cells
              clear hr8 hc8 hg8 hk8 hz8
              have hfz := HDA.out.nx.frz 3
              have hjw := HJW.out
              go_wp2_with (at_builtin; refine wpList_append_own _ rfl _ _ 24 rfl w.heap.size 54 iF (.agg #[.int .i64 0, .string ⟨#[]⟩]) 2 24 Try.underlying24 HI54.out.1 HI54.out.2.1 HI54.out.2.2.1 HI54.out.2.2.2 rfl (by decide) _ _ _ rfl HROW.out ⟨w8.heap.size, 0, none⟩ 1 1 [.int .i64 (m : Int), .string x] rfl rfl (cell_two_new _ _ _ _) (by simp [Value.oneCell']) (by have := HN3.out; have := HJN.out; unfold maxLen; omega) (by have := HN3.out; have := HJN.out; omega) HDA.out.nx.lB ?_; intro v6 w6 ho6 hg6 _; have HD9 : Hid (Dcx w (w6.setCell ⟨w.heap.size + 1 + 1, 3, none⟩ v6) t k8 (.slice la j lc) (.slice ma i mc) v6 ⟨xs, pn, qs, fs ++ [((m : Int), x)], 0⟩) := HDA.out.af (x := ((m : Int), x)) hg6 (by show w6.ownsRow _ _ _ _ (fs ++ [((m : Int), x)]).length _; rw [List.length_append, HJ3.out, fC_app]; exact ho6); have hfz6 : w6.frozen? ⟨w.heap.size + 1 + 1, 3, none⟩ = false := froz_of hg6 HDA.out.nx.blk HROW.out (by decide); have hc6 : w6.cell? ⟨w.heap.size + 1 + 1, 3, none⟩ = some (.slice na g nc) := cel_of hg6 HDA.out.nx.blk HROW.out (by decide) rfl; obtain ⟨qa, qc, rfl⟩ := row_shape ho6; clear ho6 hg6)
              go_roundg (n3 + 1 - (g + 1))
              case measure => have := HI.out; have := HJN.out; omega
              case rel =>
                have hlen : (fs ++ [((m : Int), x)]).length = g + 1 := by rw [List.length_append, HJ3.out]; rfl
                refine ⟨fs ++ [((m : Int), x)], k8, _, by rw [hlen]; first | rfl | (rw [HJW.out]; rfl) | (rw [show (g : Int) + 1 = ((g + 1 : Nat) : Int) by omega]), ⟨by rw [hlen]; exact HJN.out, by rw [hlen]⟩, HK8.out, HD9, fun S hS => ?_⟩
                obtain ⟨h1, h2, h3, h4, h5⟩ := HE.out S hS
                refine ⟨h1, h2, h3, h4, one_more (by rw [HJ3.out, ← h4]; exact HJN.out) h5 (fun y q hy e => ?_)⟩
                have hb := (Lim.of hS.1 hS.2.1).fv y hy
                unfold frb at e
                rw [List.append_assoc] at e
                obtain ⟨h6, h7⟩ := HR5.out.2.2.2 y.1.toNat _ (by omega) e
                obtain ⟨h8, h9⟩ := HR8.out y.2 q (by omega) h7
                exact ⟨Prod.ext (by show (m : Int) = y.1; omega) h8, h9⟩
            · have e1 : decide ((g : Int) < (n3 : Int)) = false := by rw [decide_eq_false_iff_not]; omega
              have e2 : decide (g < n3) = false := by rw [decide_eq_false_iff_not]; omega
              have HE2 : Hid (∀ S, OkS t S → xs = S.ind ∧ pn = S.pen ∧ qs = S.que ∧ fs = S.frm ∧ t.data.toList.drop k = R4 S) := fun S hS => by
                obtain ⟨h1, h2, h3, h4, h5⟩ := HE.out S hS
                obtain ⟨h6, h7⟩ := all_read (by rw [HJ3.out, ← h4]; have := HI.out; omega) h5
                exact ⟨h1, h2, h3, h6, h7⟩
              clear hjn HI HE
              go_wp2_with fail
              refine (cnum_any HM.out HK.out wr HD.out.cu).mono ?_
              rintro e w5 ⟨f, k5, rfl, hr5, hc5, hg5⟩
              have HD5 : Hid (Dcx w w5 t k5 (.slice la j lc) (.slice ma i mc) (.slice na g nc) ⟨xs, pn, qs, fs, 0⟩) := HD.out.num hg5 hc5
              have HE3 : Hid (∀ S, OkS t S → f < 65536 ∧ S = ⟨xs, pn, qs, fs, f⟩) := fun S hS => by
                obtain ⟨h1, h2, h3, h4, h5⟩ := HE2.out S hS
                obtain ⟨h6, -⟩ := hr5.2.2.2 S.flg [] (by have := hS.2.1; omega) (by rw [h5, List.append_nil]; rfl)
                refine ⟨by rw [h6]; exact hS.2.1, ?_⟩
                cases S
                simp only at h1 h2 h3 h4 h6
                subst h1 h2 h3 h4 h6
                rfl
              clear hr5 hc5 hg5 HE2 e1 e2
              have r0 := HD5.out.frz 0
              have rz : ∀ q, w5.frozen? ⟨w.heap.size, q, none⟩ = false := HD5.out.frz
              by_cases hff : f < 65536
              · have d0 : decide ((65536 : Int) ≤ (f : Int)) = false := by rw [decide_eq_false_iff_not]; omega
                have d1 : decide (65536 ≤ f) = false := by rw [decide_eq_false_iff_not]; omega
                have HF : Hid (f < 65536) := hff
                have hfm : (f : Int) % 65536 = (f : Int) := by omega
                have HD6 : Hid (Dcx w (w5.setCell ⟨w.heap.size + 1 + 1, 4, none⟩ (.int .u16 (f : Int))) t k5 (.slice la j lc) (.slice ma i mc) (.slice na g nc) ⟨xs, pn, qs, fs, f⟩) := HD5.out.put 4 _ _ rfl ⟨HD5.out.nx.own.i, HD5.out.nx.own.q, HD5.out.nx.own.f⟩
                have hfz := HD5.out.nx.frz 4
                have hcp := HD5.out.nx.cell 4 _ rfl
                clear hff
                go_upto_region 30 with fail
                obtain ⟨w6, hw6⟩ : ∃ w6, w6 = w5.setCell ⟨w.heap.size + 1 + 1, 4, none⟩ (.int .u16 (f : Int)) := ⟨_, rfl⟩
                first | rw [← hw6] | (rw [hfm, ← hw6])
                rw [← hw6] at HD6
                clear hw6 hfz HD5 r0 rz hfm d0 d1 hcp
                obtain ⟨s, hs⟩ : ∃ s : Stt, (⟨xs, pn, qs, fs, f⟩ : Stt) = s := ⟨_, rfl⟩
                have l1 : s.ind.length = j := by rw [← hs]; exact HJ.out
                have l2 : s.que.length = i := by rw [← hs]; exact HJ2.out
                have l3 : s.frm.length = g := by rw [← hs]; exact HJ3.out
                have HQ : Hid (∀ d ∈ s.que, d.size ≤ 9223372036854775807) := by rw [← hs]; exact fun d hd => by have := HQS.out d hd; have := HM.out; omega
                have HSF : Hid (s.flg < 65536) := by rw [← hs]; exact HF.out
                have HES : Hid (∀ S, OkS t S → S = s) := fun S hS => by rw [← hs]; exact (HE3.out S hS).2
                have lp : s.pen = pn := by rw [← hs]
                have lf : s.flg = f := by rw [← hs]
                rw [hs] at HD6
                obtain ⟨k0, k1, k2, k3, k4⟩ := HD6.out.nx.cells
                rw [← l1] at HD6 k0
                rw [← l2] at HD6 k2
                rw [← l3] at HD6 k3
                have HST : Hid (Stm w6 (.slice la s.ind.length lc) (.slice ma s.que.length mc) (.slice na s.frm.length nc) s) := HD6.out.nx.own.stm
                clear hs l1 l2 l3 HE3 HQS lp lf
                go_wp2_with fail
                refine (rshaped_any w6 HST.out HQ.out).mono ?_
                rintro e w7 ⟨rfl, hb7⟩
                have HD7 : Hid (Dcx w w7 t k5 (.slice la s.ind.length lc) (.slice ma s.que.length mc) (.slice na s.frm.length nc) s) := HD6.out.up hb7
                have HST7 : Hid (Stm w7 (.slice la s.ind.length lc) (.slice ma s.que.length mc) (.slice na s.frm.length nc) s) := HST.out.up hb7
                clear hb7 k0 k1 k2 k3 k4 HD6 HST
                obtain ⟨k0, k1, k2, k3, k4⟩ := HD7.out.nx.cells
                have rz : ∀ q, w7.frozen? ⟨w.heap.size, q, none⟩ = false := HD7.out.frz
                cases hsh : s.shp with
                | false =>
                  have HN : Hid (∀ S : Stt, S.shp = true → S.flg < 65536 → t.data.toList ≠ enc S) := fun S h1 h2 h3 => by
                    have := HES.out S ⟨h1, h2, h3⟩
                    rw [this, hsh] at h1
                    cases h1
                  clear hsh
                  have z0 := rcell HD7.out.rs 0 (.slice none 0 0) rfl
                  have z1 := rcell HD7.out.rs 1 (.int .i64 0) rfl
                  have z2 := rcell HD7.out.rs 2 (.slice none 0 0) rfl
                  have z3 := rcell HD7.out.rs 3 (.slice none 0 0) rfl
                  have z4 := rcell HD7.out.rs 4 (.int .u16 0) rfl
                  go_wp2_with fail
                  (try simp only [Exit.inBlock, Exit.then])
                  refine bodyPost_ret (v := .tuple #[.agg #[.slice none 0 0, .int .i64 0, .slice none 0 0, .slice none 0 0, .int .u16 0], .int .i64 65]) ?_ rfl ⟨?_, .inr ⟨HN.out, rfl⟩⟩
                  · rw [results_cell_tmp rfl]; go_simp
                  · exact bel_five HD7.out.bw (Nat.le_refl _)
                | true =>
                  have HSH : Hid (s.shp = true) := hsh
                  clear hsh
                  go_upto_region 33 with fail
                  go_wp2_with fail
                  refine (written_any w7 HST7.out (Lim.of HSH.out HSF.out)).mono ?_
                  rintro e w8 ⟨rfl, hb8⟩
                  have HD8 : Hid (Dcx w w8 t k5 (.slice la s.ind.length lc) (.slice ma s.que.length mc) (.slice na s.frm.length nc) s) := HD7.out.up hb8
                  clear hb8 k0 k1 k2 k3 k4 rz HD7 HST7
                  obtain ⟨k0, k1, k2, k3, k4⟩ := HD8.out.nx.cells
                  have rz : ∀ q, w8.frozen? ⟨w.heap.size, q, none⟩ = false := HD8.out.frz
                  have z0 := rcell HD8.out.rs 0 (.slice none 0 0) rfl
                  have z1 := rcell HD8.out.rs 1 (.int .i64 0) rfl
                  have z2 := rcell HD8.out.rs 2 (.slice none 0 0) rfl
                  have z3 := rcell HD8.out.rs 3 (.slice none 0 0) rfl
                  have z4 := rcell HD8.out.rs 4 (.int .u16 0) rfl
                  obtain ⟨y, hy⟩ : ∃ y, (⟨(enc s).toArray⟩ : ByteArray) = y := ⟨_, rfl⟩
                  rw [hy]
                  have HY : Hid (y.data.toList = enc s) := by rw [← hy]; exact rfl
                  clear hy
                  by_cases hyt : y = t
                  · have HYT : Hid (t.data.toList = enc s) := by rw [← hyt]; exact HY.out
                    have n2 : decide (y = t) = true := by rw [decide_eq_true_eq]; exact hyt
                    have n1 : (y.toList == t.toList) = true := by rw [str_eq]; exact n2
                    have n3 : (y.toList != t.toList) = false := by rw [neq_str, n2]; rfl
                    clear hyt
                    go_wp2_with fail
                    (try simp only [Exit.inBlock, Exit.then])
                    refine bodyPost_ret (v := .tuple #[sv (.slice la s.ind.length lc) (.slice ma s.que.length mc) (.slice na s.frm.length nc) s, .int .i64 0]) ?_ rfl ⟨?_, .inl ⟨s, _, _, _, HSH.out, HSF.out, HYT.out, rfl, ?_⟩⟩
                    · rw [results_cell_tmp rfl]; go_simp
                    · exact bel_five HD8.out.bw (Nat.le_refl _)
                    · exact own_five HD8.out.nx.own HD8.out.rs
                  · have HN : Hid (∀ S : Stt, S.shp = true → S.flg < 65536 → t.data.toList ≠ enc S) := fun S h1 h2 h3 => by
                      have := HES.out S ⟨h1, h2, h3⟩
                      rw [this] at h3
                      exact hyt (bytes_ext (by rw [HY.out, h3]))
                    have n2 : decide (y = t) = false := by rw [decide_eq_false_iff_not]; exact hyt
                    have n1 : (y.toList == t.toList) = false := by rw [str_eq]; exact n2
                    have n3 : (y.toList != t.toList) = true := by rw [neq_str, n2]; rfl
                    clear hyt
                    go_wp2_with fail
                    (try simp only [Exit.inBlock, Exit.then])
                    refine bodyPost_ret (v := .tuple #[.agg #[.slice none 0 0, .int .i64 0, .slice none 0 0, .slice none 0 0, .int .u16 0], .int .i64 65]) ?_ rfl ⟨?_, .inr ⟨HN.out, rfl⟩⟩
                    · rw [results_cell_tmp rfl]; go_simp
                    · exact bel_five HD8.out.bw (Nat.le_refl _)
              · have d0 : decide ((65536 : Int) ≤ (f : Int)) = true := by rw [decide_eq_true_eq]; omega
                have d1 : decide (65536 ≤ f) = true := by rw [decide_eq_true_eq]; omega
                have HN : Hid (∀ S : Stt, S.shp = true → S.flg < 65536 → t.data.toList ≠ enc S) := fun S h1 h2 h3 => hff (HE3.out S ⟨h1, h2, h3⟩).1
                have z0 := rcell HD5.out.rs 0 (.slice none 0 0) rfl
                have z1 := rcell HD5.out.rs 1 (.int .i64 0) rfl
                have z2 := rcell HD5.out.rs 2 (.slice none 0 0) rfl
                have z3 := rcell HD5.out.rs 3 (.slice none 0 0) rfl
                have z4 := rcell HD5.out.rs 4 (.int .u16 0) rfl
                clear hff
                go_wp2_with fail
                (try simp only [Exit.inBlock, Exit.then])
                refine bodyPost_ret (v := .tuple #[.agg #[.slice none 0 0, .int .i64 0, .slice none 0 0, .slice none 0 0, .int .u16 0], .int .i64 65]) ?_ rfl ⟨?_, .inr ⟨HN.out, rfl⟩⟩
                · rw [results_cell_tmp rfl]; go_simp
                · exact bel_five HD5.out.bw (Nat.le_refl _)
end Go.Proofs.Ytkaciochlemjiaa
