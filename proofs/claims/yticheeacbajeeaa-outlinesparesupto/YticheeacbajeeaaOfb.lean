import Derived.Test.YticheeacbajeeaaOfq
namespace Go.Proofs.Yticheeacbajeeaa
open Go.RowKit Go.Maps

set_option maxRecDepth 100000 in
set_option maxHeartbeats 16000000 in
theorem foldable_any {v u : Value} {F : List ByteArray} {T : List Nd} (s : ByteArray) (w : World) (hF : Ss w v F) (hf : F.length * 16 ≤ 140737488355328) (hn : ∀ x ∈ F, x.size ≤ maxLen) (ht : Ns w u T) (hs : Sm T) (htn : ∀ x ∈ T, x.nm.size ≤ maxLen) (hl : lie T s.size = true) (hz : s.size ≤ 1099511627776) :
    Calls Try.prog 29 #[v, u, .string s] w fun e w' => ∃ v', e = .returned v' ∧ w'.ownsRow w.heap.size 57 2 v' (fl F s T).length (flat fdf (fl F s T)) ∧ Below w.heap.size w w' := by
  obtain ⟨iF, hiF, hx0, hx1, hx2⟩ := info_parts infoF
  have hmm := @run_makeMap Try.prog
  have HT : Hid (Ns w u T) := ht
  have HF : Hid (Ss w v F) := hF
  have HNF : Hid (∀ x ∈ F, x.size ≤ maxLen) := hn
  have HTN : Hid (∀ x ∈ T, x.nm.size ≤ maxLen) := htn
  have HLIE : Hid (∀ i, i < T.length → okn s (T.getD i ndd)) := fun i hi => lie_okn hl i hi
  have HZ : Hid (s.size ≤ 1099511627776) := hz
  obtain ⟨ta, tc, rfl⟩ := ht.form
  obtain ⟨fa, fc, rfl⟩ := hF.form
  obtain ⟨n, hnn⟩ : ∃ n, T.length = n := ⟨_, rfl⟩
  obtain ⟨k, hk⟩ : ∃ k, F.length = k := ⟨_, rfl⟩
  have HN : Hid (T.length = n ∧ F.length = k ∧ n * 72 + 4096 ≤ 140737488355328 ∧ k * 16 ≤ 140737488355328) := ⟨hnn, hk, by have h9 := hs; unfold Sm at h9; rw [hnn] at h9; exact h9, by rw [← hk]; exact hf⟩
  rw [hnn] at HT ⊢
  rw [hk] at HF ⊢
  clear hF hf hn ht hs htn hl hz hnn hk
  go_enter Try.func29, Try.ntmps29
  go_upto_region 3 with fail
  obtain ⟨W1, hW1⟩ : ∃ W1, W1 = w.alloc (.map #[] 0) := ⟨_, rfl⟩
  have HM1 : Hid (Mq W1 w.heap.size 0 (kn F 0)) := by rw [hW1]; exact Mq.made w
  have HB1 : Hid (Below w.heap.size w W1) := by rw [hW1]; exact bel_up _ _
  obtain ⟨b, hb⟩ : ∃ b, w.heap.size = b := ⟨_, rfl⟩
  have HBB : Hid (w.heap.size = b) := hb
  rw [← hW1]
  rw [hb] at HM1 HB1 ⊢
  clear hW1 hb hmm
  go_loopg [20] k (fun gm v20 wr => ∃ i m : Nat, v20 = .int .i64 (i : Int) ∧ Hid (i ≤ k ∧ gm = k - i ∧ m ≤ i) ∧ Hid (Mq wr b m (kn F i)) ∧ Hid (Below b w wr))
  case atStart => exact ⟨0, 0, rfl, ⟨Nat.zero_le _, rfl, Nat.le_refl _⟩, HM1, HB1⟩
  case round =>
    clear HM1 HB1
    obtain ⟨i, m, rfl, HI, HM, HB⟩ := hrel
    by_cases hi : i < k
    · have e1 : decide ((i : Int) < (k : Int)) = true := by rw [decide_eq_true_eq]; omega
      have e2 : decide (i < k) = true := by rw [decide_eq_true_eq]; omega
      have e3 : (i : Int) < (k : Int) := by omega
      have HIL : Hid (i < k ∧ i < F.length) := ⟨hi, by rw [HN.out.2.1]; exact hi⟩
      obtain ⟨g, o, rfl, hc⟩ := HF.out.one i HIL.out.2
      have c0 := hc wr (by rw [HBB.out]; exact HB.out)
      have HSZ : Hid ((F.getD i ⟨#[]⟩).size ≤ maxLen) := HNF.out _ (by have h9 := HIL.out.2; rw [List.getD_eq_getElem?_getD, List.getElem?_eq_getElem h9]; exact List.getElem_mem h9)
      have HKN : Hid (kn F (i + 1) = mput (kn F i) (F.getD i ⟨#[]⟩) i) := rfl
      obtain ⟨x, hx⟩ : ∃ x, F.getD i ⟨#[]⟩ = x := ⟨_, rfl⟩
      rw [hx] at c0 HSZ HKN
      have hwi := w64n i (by have := HN.out; omega)
      obtain ⟨W3, hr3, hm3, hg3⟩ := HM.out.put (by have := HI.out; have := HN.out; have := HIL.out; unfold maxLen; omega) HSZ.out i (by have := HIL.out; have := HN.out; omega)
      have HR3 : Hid _ := hr3
      have HM3 : Hid (Mq W3 b (m + 1) (kn F (i + 1))) := by rw [HKN.out]; exact hm3
      have HB3 : Hid (Below b w W3) := HB.out.grown hg3 (by have := HM.out.lt; omega) (fun r hr => by injection hr with hr; omega)
      clear hi hx hc hr3 hm3 hg3
      go_wp2_with (refine wpList_upd rfl (.tmp 25) (.tmp 26) (.tmp 27) 82 rfl _ _ _ W3 rfl rfl rfl HR3.out ?_)
      go_roundg (k - (i + 1))
      case measure => have := HI.out; have := HIL.out; omega
      case rel => exact ⟨i + 1, m + 1, by simp, ⟨HIL.out.1, rfl, by have := HI.out; omega⟩, HM3, HB3⟩
    · have e1 : decide ((i : Int) < (k : Int)) = false := by rw [decide_eq_false_iff_not]; omega
      have e2 : decide (i < k) = false := by rw [decide_eq_false_iff_not]; omega
      have hik : i = F.length := by have := HI.out; have := HN.out; omega
      have HM9 : Hid (Mq wr b m (kn F F.length)) := by rw [← hik]; exact HM.out
      clear hi hik HM
      go_upto_region 10 with (go_at_call 48; refine (Pc.new_any s wr HZ.out).mono ?_; rintro e w1 ⟨xb, IT, rfl, hix, hb1⟩; have HIX : Hid (Pc.Ix w1 xb s IT) := hix; have HMW : Hid (Mq w1 b m (kn F F.length)) := HM9.out.up hb1; have HBW : Hid (Below b w w1) := (below_trans (by rw [HBB.out]; exact HB.out) hb1 |> fun h => by rw [HBB.out] at h; exact h); clear hix hb1)
      clear e1 e2 HI HB HM9
      go_loopg [11, 33] n (fun gm v11 v33 wr => ∃ i : Nat, v33 = .int .i64 (i : Int) ∧ Hid (i ≤ n ∧ gm = n - i) ∧ Hid (wr.ownsRow w1.heap.size 57 2 v11 (fl F s (T.take i)).length (flat fdf (fl F s (T.take i)))) ∧ Hid (Below w1.heap.size w1 wr))
      case atStart => exact ⟨0, rfl, ⟨Nat.zero_le _, rfl⟩, World.ownsRow_nil _ _ _ _, Below.refl _ _⟩
      case round =>
        obtain ⟨i, rfl, HI, HO, HB⟩ := hrel
        obtain ⟨oa, oc, rfl⟩ := row_shape HO.out
        by_cases hi : i < n
        · have e1 : decide ((i : Int) < (n : Int)) = true := by rw [decide_eq_true_eq]; omega
          have e2 : decide (i < n) = true := by rw [decide_eq_true_eq]; omega
          have e3 : (i : Int) < (n : Int) := by omega
          have HIL : Hid (i < n ∧ i < T.length) := ⟨hi, by rw [HN.out.1]; exact hi⟩
          have hbT : Below w.heap.size w wr := by rw [HBB.out]; exact HBW.out.trans (HB.out.mono (by have := HBW.out.size; rw [HBB.out] at this; omega))
          obtain ⟨g, o, rfl, hq⟩ := HT.out.seven i HIL.out.2
          obtain ⟨t0, t1, t2, t3, t4, t5, t6⟩ := hq wr hbT
          have HOK : Hid (okn s (T.getD i ndd)) := HLIE.out i HIL.out.2
          have HSZ : Hid ((T.getD i ndd).nm.size ≤ maxLen) := HTN.out _ (by have h9 := HIL.out.2; rw [List.getD_eq_getElem?_getD, List.getElem?_eq_getElem h9]; exact List.getElem_mem h9)
          have HNO : Hid _ := fl_no F s T i HIL.out.2
          have HYE : Hid _ := fl_yes F s T i HIL.out.2
          obtain ⟨y, hy⟩ : ∃ y, T.getD i ndd = y := ⟨_, rfl⟩
          rw [hy] at t0 t1 t2 t3 t4 t5 t6 HOK HSZ HNO HYE
          have hwi := w64n i (by have := HN.out; omega)
          obtain ⟨on, hon⟩ : ∃ on, (fl F s (T.take i)).length = on := ⟨_, rfl⟩
          have HON : Hid ((fl F s (T.take i)).length = on ∧ on ≤ n) := ⟨hon, by rw [← hon]; have h9 := fl_len F s (T.take i); rw [List.length_take] at h9; have := HIL.out; omega⟩
          rw [hon] at HO ⊢
          obtain ⟨W2, hW2⟩ : ∃ W2, W2 = wr.alloc (.cells #[.string y.nm, .bool y.nd, .string y.fd, .int .i64 y.fr, .int .i64 y.tt, .int .i64 y.kd, .int .i64 y.lf] 50) := ⟨_, rfl⟩
          have HB2 : Hid (Below wr.heap.size wr W2) := by rw [hW2]; exact bel_up _ _
          have HB12 : Hid (Below w1.heap.size w1 W2) := below_trans HB.out HB2.out
          have hn2 : W2.heap[wr.heap.size]? = some (.cells #[.string y.nm, .bool y.nd, .string y.fd, .int .i64 y.fr, .int .i64 y.tt, .int .i64 y.kd, .int .i64 y.lf] 50 (0, 0)) := by rw [hW2]; exact heap_new wr _
          have HO2 : Hid (W2.ownsRow w1.heap.size 57 2 (.slice oa on oc) on (flat fdf (fl F s (T.take i)))) := row_up HO.out HB2.out
          have HLK : Hid _ := (HMW.out.up HB12.out).look HSZ.out
          have HKA : Hid ((kn F F.length y.nm).isSome = inF F y.nm) := kn_all F y.nm
          obtain ⟨LV, hLV⟩ : ∃ LV, (kn F F.length y.nm).getD 0 = LV := ⟨_, rfl⟩
          obtain ⟨LB, hLB⟩ : ∃ LB, (kn F F.length y.nm).isSome = LB := ⟨_, rfl⟩
          rw [hLV, hLB] at HLK
          rw [hLB] at HKA
          clear hi hq hy hbT hLV hLB hon
          go_upto_region 12 with fail
          rw [← hW2]
          obtain ⟨nb, hnb⟩ : ∃ nb, wr.heap.size = nb := ⟨_, rfl⟩
          have HNB : Hid (wr.heap.size = nb) := hnb
          rw [hnb] at hn2 ⊢
          have c0 := rcell hn2 0 _ rfl
          have c1 := rcell hn2 1 _ rfl
          have c3 := rcell hn2 3 _ rfl
          have c2 := rcell hn2 2 _ rfl
          have c4 := rcell hn2 4 _ rfl
          have c5 := rcell hn2 5 _ rfl
          have c6 := rcell hn2 6 _ rfl
          clear hW2 hn2 hnb t0 t1 t2 t3 t4 t5 t6
          cases LB with
          | false =>
            have HE : Hid (fl F s (T.take (i + 1)) = fl F s (T.take i)) := HNO.out (Or.inl (by unfold tfd; rw [← HKA.out, Bool.and_false]))
            go_wp2_with (refine wpList_look rfl (.tmp 38) (.tmp 40) 82 rfl _ _ _ rfl rfl HLK.out ?_)
            go_roundg (n - (i + 1))
            case measure => have := HI.out; have := HIL.out; omega
            case rel => exact ⟨i + 1, by simp, ⟨HIL.out.1, rfl⟩, by show World.ownsRow _ _ _ _ _ _ _; rw [HE.out, HON.out.1]; exact HO2.out, HB12⟩
          | true =>
            obtain ⟨ynd, hyd⟩ : ∃ ynd, y.nd = ynd := ⟨_, rfl⟩
            have HYD : Hid (y.nd = ynd) := hyd
            rw [hyd] at c1
            clear hyd
            cases ynd with
            | false =>
              have HE : Hid (fl F s (T.take (i + 1)) = fl F s (T.take i)) := HNO.out (Or.inl (by unfold tfd; rw [HYD.out, Bool.false_and]))
              go_wp2_with (refine wpList_look rfl (.tmp 38) (.tmp 40) 82 rfl _ _ _ rfl rfl HLK.out ?_)
              go_roundg (n - (i + 1))
              case measure => have := HI.out; have := HIL.out; omega
              case rel => exact ⟨i + 1, by simp, ⟨HIL.out.1, rfl⟩, by show World.ownsRow _ _ _ _ _ _ _; rw [HE.out, HON.out.1]; exact HO2.out, HB12⟩
            | true =>
              have HTF : Hid (tfd F y = true) := by show _ = _; unfold tfd; rw [HYD.out, ← HKA.out]; rfl
              have HRO : Hid _ := rowsOf_any y W2 (HIX.out.mono HB12.out) HOK.out HZ.out
              rw [HYD.out] at HRO
              obtain ⟨A, hA⟩ : ∃ A, nfr s y = A := ⟨_, rfl⟩
              obtain ⟨B, hB⟩ : ∃ B, nlr s y = B := ⟨_, rfl⟩
              rw [hA, hB] at HRO HNO HYE
              have HAB : Hid (A ≤ 1099511627777 ∧ B ≤ 1099511627777) := by
                have h8 := rws_len s
                have h9 := nfr_lt HOK.out
                have h7 := nlr_lt HOK.out
                have := HZ.out
                rw [hA] at h9
                rw [hB] at h7
                exact ⟨by omega, by omega⟩
              clear hA hB
              go_upto_region 14 with (refine wpList_look rfl (.tmp 38) (.tmp 40) 82 rfl _ _ _ rfl rfl HLK.out ?_)
              go_upto_region 15 with (go_at_call 49; refine Calls.mono HRO.out ?_; rintro e w3 ⟨rfl, hb3⟩; have HB3 : Hid (Below W2.heap.size W2 w3) := hb3; clear hb3)
              clear c0 c1 c2 c3 c4 c5 c6
              obtain ⟨W4, hW4⟩ : ∃ W4, W4 = w3.alloc (.cells #[.int .i64 (A : Int), .int .i64 (B : Int)] 57) := ⟨_, rfl⟩
              have HB4 : Hid (Below W2.heap.size W2 W4) := by rw [hW4]; exact below_trans HB3.out (bel_up _ _)
              have hn4 : W4.heap[w3.heap.size]? = some (.cells #[.int .i64 (A : Int), .int .i64 (B : Int)] 57 (0, 0)) := by rw [hW4]; exact heap_new w3 _
              have HB14 : Hid (Below w1.heap.size w1 W4) := below_trans HB12.out HB4.out
              have HO4 : Hid (W4.ownsRow w1.heap.size 57 2 (.slice oa on oc) on (flat fdf (fl F s (T.take i)))) := row_up HO2.out HB4.out
              rw [← hW4]
              obtain ⟨fb, hfb⟩ : ∃ fb, w3.heap.size = fb := ⟨_, rfl⟩
              rw [hfb] at hn4 ⊢
              have d0 : W4.cell? ⟨fb, 0, none⟩ = some (.int .i64 (A : Int)) := rcell hn4 0 _ rfl
              have d1 : W4.cell? ⟨fb, 1, none⟩ = some (.int .i64 (B : Int)) := rcell hn4 1 _ rfl
              clear hW4 hfb
              by_cases hAB : A < B
              · have dl : decide ((A : Int) < (B : Int)) = true := by rw [decide_eq_true_eq]; omega
                have HE : Hid (fl F s (T.take (i + 1)) = fl F s (T.take i) ++ [(A, B)]) := HYE.out HTF.out hAB
                have HO5 : Hid ((W4.alloc (.cells #[.int .i64 (A : Int), .int .i64 (B : Int)] 57)).ownsRow w1.heap.size 57 2 (.slice oa on oc) on (flat fdf (fl F s (T.take i)))) := HO4.out.alloc _
                have hbase : w1.heap.size ≤ (W4.alloc (.cells #[.int .i64 (A : Int), .int .i64 (B : Int)] 57)).heap.size := by
                  have := HB14.out.size
                  simp
                  omega
                have HBS : Hid _ := hbase
                have dl2 : decide (A < B) = true := by rw [decide_eq_true_eq]; exact hAB
                clear hbase hn4
                go_wp2_with (at_builtin; refine wpList_append_own _ rfl (.tmp 59) (.tmp 61) 53 rfl w1.heap.size 57 iF (.agg #[.int .i64 0, .int .i64 0]) 2 16 Try.underlying53 hiF hx0 hx1 hx2 rfl (by decide) _ _ _ rfl HO5.out ⟨W4.heap.size, 0, none⟩ 1 1 [.int .i64 (A : Int), .int .i64 (B : Int)] rfl rfl (cell_two_F W4 _ _ _) (fdf_one (A, B)) (by have := HON.out; have := HN.out; unfold maxLen; omega) (by have := HON.out; have := HN.out; omega) HBS.out ?_; intro v6 w6 hown6 hgrow6 _; have HO6 : Hid (w6.ownsRow w1.heap.size 57 2 v6 (on + 1) (flat fdf (fl F s (T.take i)) ++ [.int .i64 (A : Int), .int .i64 (B : Int)])) := hown6; have HG6 : Hid _ := hgrow6; clear hown6 hgrow6)
                go_roundg (n - (i + 1))
                case measure => have := HI.out; have := HIL.out; omega
                case rel =>
                  refine ⟨i + 1, by simp, ⟨HIL.out.1, rfl⟩, ?_, ?_⟩
                  · show World.ownsRow _ _ _ _ _ _ _
                    rw [HE.out, List.length_append, HON.out.1, flat_app]
                    exact HO6.out
                  · show Below _ _ _
                    exact (below_trans HB14.out (bel_up _ _)).grown HG6.out HBS.out (fun q hq => (HO5.out.lt q hq).1)
              · have dl : decide ((A : Int) < (B : Int)) = false := by rw [decide_eq_false_iff_not]; omega
                have dl2 : decide (A < B) = false := by rw [decide_eq_false_iff_not]; exact hAB
                have HE : Hid (fl F s (T.take (i + 1)) = fl F s (T.take i)) := HNO.out (Or.inr hAB)
                clear hn4
                go_wp2_with fail
                go_roundg (n - (i + 1))
                case measure => have := HI.out; have := HIL.out; omega
                case rel => exact ⟨i + 1, by simp, ⟨HIL.out.1, rfl⟩, by show World.ownsRow _ _ _ _ _ _ _; rw [HE.out, HON.out.1]; exact HO4.out, HB14⟩
        · have e1 : decide ((i : Int) < (n : Int)) = false := by rw [decide_eq_false_iff_not]; omega
          have e2 : decide (i < n) = false := by rw [decide_eq_false_iff_not]; omega
          have HE : Hid (T.take i = T) := by show _ = _; rw [List.take_of_length_le (by rw [HN.out.1]; omega)]
          have HO9 : Hid (wr.ownsRow w1.heap.size 57 2 (.slice oa (fl F s (T.take i)).length oc) (fl F s T).length (flat fdf (fl F s T))) := by have h9 := HO.out; rw [HE.out] at h9 ⊢; exact h9
          obtain ⟨on, hon⟩ : ∃ on, (fl F s (T.take i)).length = on := ⟨_, rfl⟩
          rw [hon] at HO9 ⊢
          clear hi hon HO
          go_wp2_with fail
          go_ret
          have hsz : w.heap.size ≤ w1.heap.size := by have := HBW.out.size; exact this
          exact ⟨_, rfl, row_base HO9.out hsz, by rw [HBB.out]; exact HBW.out.trans (HB.out.mono (by have := HBB.out; omega))⟩
end Go.Proofs.Yticheeacbajeeaa
