import Derived.Test.YtcfmpmhdjkchjabThd
namespace Go.Proofs.Ytcfmpmhdjkchjab
open Go.RowKit Go.Maps

theorem ba_nil0 {s : ByteArray} (h : s.toList.isEmpty = true) : s = ⟨#[]⟩ := by
  rw [List.isEmpty_iff, Lib.toList_data] at h
  have : s.data = #[] := Array.toList_eq_nil_iff.1 h
  cases s; exact congrArg ByteArray.mk this
theorem gfl_nil (x : Nd) : gfl ⟨#[]⟩ x = x := by
  unfold gfl
  split
  · next h => cases x; dsimp only at h; subst h; rfl
  · rfl
theorem rtm_comp (f g : Nd → Nd) (hk : ∀ x, (f x).kd = x.kd) (t : List Nd) : rtm g (rtm f t t.length) (rtm f t t.length).length = rtm (fun x => g (f x)) t t.length := by
  refine list_ext ndd (by rw [rtm_len, rtm_len, rtm_len]) fun j hj => ?_
  rw [rtm_len, rtm_len] at hj
  rw [rtm_get g _ _ j (by rw [rtm_len]; exact hj), rtm_get f t t.length j hj, rtm_get _ t t.length j hj, kds_rtm hk, rtm_len]
  by_cases h : j < t.length ∧ pl (kds t) j = -1
  · rw [if_pos h, if_pos h, if_pos h]
  · rw [if_neg h, if_neg h, if_neg h]
theorem itm_itm (f g : Nd → Nd) (xs : List It) : (xs.map (itm f)).map (itm g) = xs.map (itm (fun x => g (f x))) := by rw [List.map_map]; rfl
theorem prf_eq (fd : ByteArray) (x : List Nd) : prf fd x = rtm (gfl fd) x x.length := by
  unfold prf
  split
  · next h =>
    subst h
    rw [show gfl (⟨#[]⟩ : ByteArray) = id from funext gfl_nil, rtm_id]
  · rfl
set_option maxRecDepth 100000 in
set_option maxHeartbeats 16000000 in
theorem rshown_any {Pp : Nat → Prop} {v0 v1 v2 v : Value} {Te : List Td} {Sy : List Sd} {P : List Pd} {t : List Nd} (r : Rf) (w : World) (hg : Gx w v0 v1 v2 Te Sy P) (hgs : Gs Te Sy P) (hf : Fo (kds t)) (hs : t.length ≤ 1048576) (hm : FrM Pp w t v 0 (rA (kds t) 0)) (e : Int) :
    Calls Try.prog 22 #[.agg #[v0, v1, v2], .agg #[.int .i64 r.1, .string r.2.1, .string r.2.2], v, .int .i64 e] w fun en w' => ∃ v' xs, en = .returned v' ∧ w'.ownsRow w.heap.size 75 9 v' xs.length (flat itf xs) ∧ (∀ x ∈ xs, LM Pp w x.v x.n x.L) ∧ xs.flatMap itl = part Te Sy r t e ∧ Below w.heap.size w w' := by
  obtain ⟨iT, hiT, hx0, hx1, hx2⟩ := info_parts infoTr
  have HG : Hid (Gx w v0 v1 v2 Te Sy P) := hg
  have HGS : Hid (Gs Te Sy P) := hgs
  obtain ⟨fs, h1, h2, h3⟩ := hm
  obtain ⟨its, hits⟩ : ∃ its, fs.map (ito t) = its := ⟨_, rfl⟩
  obtain ⟨k, hk⟩ : ∃ k, rA (kds t) 0 = k := ⟨_, rfl⟩
  have HKL : Hid (its.length = k) := by show _ = _; rw [← hits, List.length_map, FrM.len h1, hk]
  have HKB : Hid (k ≤ 1048576) := by have h7 := hf.le 0; rw [kds_len] at h7; show _ ≤ _; omega
  have HRW : Hid (Rw w v its.length (flat itf its)) := by rw [← hits, flat_ito, List.length_map, FrM.len h1]; exact h2.rw
  have HLT : Hid (∀ x ∈ its, LM Pp w x.v x.n x.L) := fun x hx => by
    rw [← hits] at hx
    obtain ⟨q, hq, rfl⟩ := List.mem_map.1 hx
    refine lm_of_tr hf (h3 q hq) ?_
    have hm1 : q.1 ∈ fs.map Prod.fst := List.mem_map.2 ⟨q, hq, rfl⟩
    rw [h1] at hm1
    unfold pls at hm1
    obtain ⟨j, hj, e'⟩ := List.mem_map.1 hm1
    have := hf.lt 0 j (Nat.zero_le _) (List.mem_range.1 hj)
    rw [kds_len] at this
    omega
  have HLV : Hid (LM Pp w v k t) := by
    have h7 := LM.mk (P := Pp) (W := w) v its (by rw [← hits, flat_ito, List.length_map, FrM.len h1]; exact h2) HLT.out
    rw [HKL.out, ← hits, roots_seg hf 0 (Nat.zero_le _) fs _ (Nat.le_refl _) h1, hf.whole, kds_len, seg_all] at h7
    exact h7
  have HFI1 : Hid (r.2.2 = ⟨#[]⟩ → ¬(hdn Te r.1 = true) → ((its.map (itm id)).map (itm (gfl r.2.1))).flatMap itl = part Te Sy r t e) := fun ha hh => by
    rw [itm_itm, ← hits, rtm_whole hf (fun x => gfl r.2.1 (id x)) (fun x => gfl_kd _ _) fs h1]
    unfold part prx
    rw [if_neg (fun q => hh q.2), if_pos ha, prf_eq]
    rfl
  have HFI2 : Hid (¬ r.2.2 = ⟨#[]⟩ → hnd Te Sy r.1 = true → ((its.map (itm (cal r.2.2))).map (itm (gfl r.2.1))).flatMap itl = part Te Sy r t e) := fun ha hh => by
    rw [itm_itm, ← hits, rtm_whole hf (fun x => gfl r.2.1 (cal r.2.2 x)) (fun x => gfl_kd _ _) fs h1]
    unfold part prx
    rw [if_neg (fun q => ha q.1), if_neg ha, if_pos hh, prf_eq, rtm_comp (cal r.2.2) (gfl r.2.1) (fun x => rfl)]
  have HFI3 : Hid (¬ r.2.2 = ⟨#[]⟩ → ¬ hnd Te Sy r.1 = true → (([⟨und r.2.2 its e, v, 0, k, t⟩] : List It).map (itm (gfl r.2.1))).flatMap itl = part Te Sy r t e) := fun ha hh => by
    unfold part prx
    rw [if_neg (fun q => ha q.1), if_neg ha, if_neg hh, prf_eq, rtm_head hf (gfl r.2.1) (fun x => gfl_kd _ _), ← und_hed hf r.2.2 e fs h1, hits, hk]
    show itl (itm (gfl r.2.1) _) ++ [] = _
    rw [List.append_nil]
    unfold itl itm und gfl
    dsimp only
    rw [if_pos rfl, if_pos rfl]
  have HFI4 : Hid (r.2.2 = ⟨#[]⟩ → hdn Te r.1 = true → (([] : List It).map (itm (gfl r.2.1))).flatMap itl = part Te Sy r t e) := fun ha hh => by
    unfold part
    rw [if_pos ⟨ha, hh⟩]; rfl
  obtain ⟨av, cap, rfl⟩ := Rw.form HRW.out
  rw [HKL.out] at ⊢
  have HRW' : Hid (Rw w (.slice av k cap) its.length (flat itf its)) := by have h7 := HRW.out; rw [HKL.out] at h7 ⊢; exact h7
  have HLV' : Hid (LM Pp w (.slice av k cap) k t) := by have h7 := HLV.out; rw [HKL.out] at h7; exact h7
  rw [HKL.out] at HFI3
  clear HRW HLV
  have HRW : Hid (Rw w (.slice av k cap) its.length (flat itf its)) := HRW'.out
  have HLV : Hid (LM Pp w (.slice av k cap) k t) := HLV'.out
  clear HRW' HLV' hits hk h1 h2 h3 hf hs hg hgs
  obtain ⟨W1, hW1⟩ : ∃ W1, W1 = (w.alloc (.cells #[v0, v1, v2] 27)).alloc (.cells #[.int .i64 r.1, .string r.2.1, .string r.2.2] 57) := ⟨_, rfl⟩
  have HB1 : Hid (Below w.heap.size w W1) := by rw [hW1]; exact below_trans (bel_up _ _) (bel_up _ _)
  have HR1 : Hid (W1.heap[w.heap.size + 1]? = some (.cells #[.int .i64 r.1, .string r.2.1, .string r.2.2] 57 (0, 0))) := by rw [hW1]; have h7 := heap_new (w.alloc (.cells #[v0, v1, v2] 27)) (.cells #[.int .i64 r.1, .string r.2.1, .string r.2.2] 57); rw [show (w.alloc (.cells #[v0, v1, v2] 27)).heap.size = w.heap.size + 1 by simp] at h7; exact h7
  have HGB : Hid (W1.heap[w.heap.size]? = some (.cells #[v0, v1, v2] 27 (0, 0))) := by rw [hW1, (bel_up _ _).block w.heap.size (by simp)]; exact heap_new _ _
  have HF3 : Hid _ := HG.out.form
  obtain ⟨a0, c0, a1, c1, a2, c2, rfl, rfl, rfl⟩ := HF3.out
  clear HF3
  go_enter Try.func22, Try.ntmps22
  go_upto_region 1 with fail
  rw [← hW1]
  clear hW1
  obtain ⟨gb, hgb⟩ : ∃ gb, w.heap.size = gb := ⟨_, rfl⟩
  rw [hgb] at HR1 HGB ⊢
  clear hgb
  obtain ⟨rb, hrb⟩ : ∃ rb, gb + 1 = rb := ⟨_, rfl⟩
  rw [hrb] at HR1 ⊢
  clear hrb
  have g0 := rcell HGB.out 0 _ rfl
  have g1 := rcell HGB.out 1 _ rfl
  have g2 := rcell HGB.out 2 _ rfl
  have y0 := rcell HR1.out 0 _ rfl
  go_upto_region 2 with (go_at_call 41; refine (rkind_any _ (HG.out.up HB1.out) HGS.out r.1).mono ?_; rintro ee W2 ⟨rfl, hb2⟩; have HB12 : Hid (Below W1.heap.size W1 W2) := hb2; clear hb2)
  clear g0 g1 g2 y0
  have HB2 : Hid (Below w.heap.size w W2) := below_trans HB1.out HB12.out
  have HGB2 : Hid (W2.heap[gb]? = some (.cells #[.slice a0 Te.length c0, .slice a1 Sy.length c1, .slice a2 P.length c2] 27 (0, 0))) := by rw [HB12.out.block gb (lt_of_heap HGB.out)]; exact HGB.out
  have HR2 : Hid (W2.heap[rb]? = some (.cells #[.int .i64 r.1, .string r.2.1, .string r.2.2] 57 (0, 0))) := by rw [HB12.out.block rb (lt_of_heap HR1.out)]; exact HR1.out
  have g0 := rcell HGB2.out 0 _ rfl
  have g1 := rcell HGB2.out 1 _ rfl
  have g2 := rcell HGB2.out 2 _ rfl
  have y0 := rcell HR2.out 0 _ rfl
  go_upto_region 12 with (go_at_call 42; refine (rhidden_any _ (HG.out.up HB2.out) r.1).mono ?_; rintro ee W3 ⟨rfl, hb3⟩; have HB23 : Hid (Below W2.heap.size W2 W3) := hb3; clear hb3)
  clear g0 g1 g2 y0 HGB HGB2 HR1
  have HB3 : Hid (Below w.heap.size w W3) := below_trans HB2.out HB23.out
  have HR3 : Hid (W3.heap[rb]? = some (.cells #[.int .i64 r.1, .string r.2.1, .string r.2.2] 57 (0, 0))) := by rw [HB23.out.block rb (lt_of_heap HR2.out)]; exact HR2.out
  have HK2 : Hid ((kdd Te Sy r.1 == 2) = !hnd Te Sy r.1) := kdd_hnd _ _ _
  obtain ⟨kk, hkk⟩ : ∃ kk, kdd Te Sy r.1 = kk := ⟨_, rfl⟩
  obtain ⟨bh, hbh⟩ : ∃ bh, hdn Te r.1 = bh := ⟨_, rfl⟩
  rw [hkk] at HK2 ⊢
  rw [hbh] at HFI1 HFI4 ⊢
  clear hkk hbh HB1 HB2 HB12 HB23 HR2
  have x2 := rcell HR3.out 2 _ rfl
  cases hbz : r.2.2.toList.isEmpty with
  | true =>
    have ha := ba_nil0 hbz
    cases bh with
    | true =>
      have HFIN : Hid ((([] : List It).map (itm (gfl r.2.1))).flatMap itl = part Te Sy r t e) := HFI4.out ha rfl
      clear ha HFI1 HFI2 HFI3 HFI4 HK2
      go_upto_region 17 with fail
      go_loopg [15] 0 (fun gm v15 wr => v15 = .int .i64 0 ∧ W3 = wr)
      case atStart => exact ⟨rfl, rfl⟩
      case round =>
        obtain ⟨rfl, hw9⟩ := hrel
        subst hw9
        go_wp2_with fail
        go_ret
        exact ⟨_, [], rfl, World.ownsRow_nil _ _ _ _, (fun x hx => by cases hx), HFIN.out, HB3.out⟩
    | false =>
      have HFI1' : Hid (((its.map (itm id)).map (itm (gfl r.2.1))).flatMap itl = part Te Sy r t e) := HFI1.out ha (by decide)
      replace HFI1 : Hid (((its.map (itm id)).map (itm (gfl r.2.1))).flatMap itl = part Te Sy r t e) := HFI1'.out
      clear HFI1' ha HFI2 HFI3 HFI4 HK2
      go_upto_region 5 with fail
      go_loopg [11, 13] k (fun gm v11 v13 wr => ∃ i : Nat, v13 = .int .i64 (i : Int) ∧ Hid (i ≤ k ∧ gm = k - i) ∧ Hid (wr.ownsRow w.heap.size 75 9 v11 i (flat itf ((its.take i).map (itm id)))) ∧ Hid (Below w.heap.size w wr) ∧ Hid (wr.heap[rb]? = some (.cells #[.int .i64 r.1, .string r.2.1, .string r.2.2] 57 (0, 0))))
      case atStart => exact ⟨0, rfl, ⟨Nat.zero_le _, rfl⟩, World.ownsRow_nil _ _ _ _, HB3, HR3⟩
      case round =>
        clear HB3 HR3
        obtain ⟨i, rfl, HI, HO, HB, HR⟩ := hrel
        obtain ⟨oa, oc, hov⟩ := row_shape HO.out
        subst hov
        by_cases hi : i < k
        · have e1 : decide ((i : Int) < (k : Int)) = true := by rw [decide_eq_true_eq]; omega
          have e2 : decide (i < k) = true := by rw [decide_eq_true_eq]; omega
          have b1 : (i : Int) < (k : Int) := by omega
          have b2 : i < k := hi
          have HIM : Hid (i < k) := hi
          have hwi := w64n i (by have := HKB.out; omega)
          have hlt : i < its.length := by rw [HKL.out]; exact hi
          obtain ⟨g, o, rfl, hC⟩ := items_nine HRW.out i hlt
          obtain ⟨ka, kc, hkv⟩ := (HLT.out _ (getD_mem its itd i hlt)).form
          have HSN : Hid ((its.take (i + 1)).map (itm id) = (its.take i).map (itm id) ++ [itm id (its.getD i itd)]) := by show _ = _; rw [take_getD its itd i hlt, List.map_append]; rfl
          obtain ⟨q0, q1, q2, q3, q4, q5, q6, q7, q8⟩ := hC wr HB.out
          obtain ⟨z, hz⟩ : ∃ z, its.getD i itd = z := ⟨_, rfl⟩
          rw [hz] at HSN hkv q0 q1 q2 q3 q4 q5 q6 q7 q8
          rw [hkv] at q7
          obtain ⟨X, hX⟩ : ∃ X, z.y = X := ⟨_, rfl⟩
          obtain ⟨pp, hpp⟩ : ∃ pp, z.p = pp := ⟨_, rfl⟩
          obtain ⟨kn, hkn⟩ : ∃ kn, z.n = kn := ⟨_, rfl⟩
          rw [hX] at q0 q1 q2 q3 q4 q5 q6
          rw [hpp] at q8
          rw [hkn] at q7 hkv
          have HIT : Hid (itf (itm id z) = ((#[.string X.nm, .bool X.nd, .string X.fd, .int .i64 X.fr, .int .i64 X.tt, .int .i64 X.kd, .int .i64 X.lf, .slice ka kn kc, .int .i64 pp] : Array Value)).toList) := by show _ = _; unfold itm itf; dsimp only; rw [hX, hkv, hpp]; rfl
          clear hi hlt hC hz hX hpp hkn hkv
          go_upto_region 8 with fail
          clear q0 q1 q2 q3 q4 q5 q6 q7 q8
          obtain ⟨kb, hkb⟩ : ∃ kb, wr.heap.size = kb := ⟨_, rfl⟩
          obtain ⟨W5, hW5⟩ : ∃ W5, W5 = wr.alloc (.cells #[.string X.nm, .bool X.nd, .string X.fd, .int .i64 X.fr, .int .i64 X.tt, .int .i64 X.kd, .int .i64 X.lf, .slice ka kn kc, .int .i64 pp] 75) := ⟨_, rfl⟩
          have HB5 : Hid (Below wr.heap.size wr W5) := by rw [hW5]; exact bel_up _ _
          have HX5 : Hid (W5.heap[kb]? = some (.cells #[.string X.nm, .bool X.nd, .string X.fd, .int .i64 X.fr, .int .i64 X.tt, .int .i64 X.kd, .int .i64 X.lf, .slice ka kn kc, .int .i64 pp] 75 (0, 0))) := by rw [hW5, ← hkb]; exact heap_new _ _
          have HKK : Hid (wr.heap.size ≤ kb) := by rw [← hkb]; exact Nat.le_refl _
          have HR5 : Hid (W5.heap[rb]? = some (.cells #[.int .i64 r.1, .string r.2.1, .string r.2.2] 57 (0, 0))) := by rw [HB5.out.block rb (lt_of_heap HR.out)]; exact HR.out
          have HNB : Hid (rb ≠ kb) := by have := lt_of_heap HR.out; have := HKK.out; show _ ≠ _; omega
          rw [hkb, ← hW5]
          clear hW5 hkb
          have x2 := rcell HR5.out 2 _ rfl
          go_upto_region 11 with fail
          clear x2
          obtain ⟨W7, hW7⟩ : ∃ W7, W7 = W5 := ⟨_, rfl⟩
          rw [← hW7] at HB5 HX5 HR5 ⊢
          have HB7 : Hid (Below wr.heap.size wr W7) := HB5.out
          have HX7 : Hid (W7.heap[kb]? = some (.cells #[.string X.nm, .bool X.nd, .string X.fd, .int .i64 X.fr, .int .i64 X.tt, .int .i64 X.kd, .int .i64 X.lf, .slice ka kn kc, .int .i64 pp] 75 (0, 0))) := HX5.out
          have HR7 : Hid (W7.heap[rb]? = some (.cells #[.int .i64 r.1, .string r.2.1, .string r.2.2] 57 (0, 0))) := HR5.out
          clear hW7
          have k0 := rcell HX7.out 0 _ rfl
          have k1 := rcell HX7.out 1 _ rfl
          have k2 := rcell HX7.out 2 _ rfl
          have k3 := rcell HX7.out 3 _ rfl
          have k4 := rcell HX7.out 4 _ rfl
          have k5 := rcell HX7.out 5 _ rfl
          have k6 := rcell HX7.out 6 _ rfl
          have k7 := rcell HX7.out 7 _ rfl
          have k8 := rcell HX7.out 8 _ rfl
          have HROW : Hid ((W7.alloc (.cells #[.string X.nm, .bool X.nd, .string X.fd, .int .i64 X.fr, .int .i64 X.tt, .int .i64 X.kd, .int .i64 X.lf, .slice ka kn kc, .int .i64 pp] 75)).ownsRow w.heap.size 75 9 (.slice oa i oc) i (flat itf ((its.take i).map (itm id)))) := (row_up HO.out HB7.out).alloc _
          have HSB : Hid (w.heap.size ≤ W7.heap.size) := Nat.le_trans HB.out.size HB7.out.size
          have HMX : Hid (i + 1 ≤ maxLen ∧ (i + 1) * 104 ≤ 140737488355328) := by have := HIM.out; have := HKB.out; show _ ∧ _; unfold maxLen; omega
          have HOC : Hid (∀ u ∈ itf (itm id z), u.oneCell' = true) := itf_one _ (by have h7 := HIT.out; unfold itm itf at h7; dsimp only at h7; have h8 := congrArg (fun l => l[7]?) h7; have h9 : some z.v = some (Value.slice ka kn kc) := h8; have h10 := Option.some.inj h9; show z.v.oneCell' = true; rw [h10]; rfl)
          have HRA : Hid ((W7.alloc (.cells #[.string X.nm, .bool X.nd, .string X.fd, .int .i64 X.fr, .int .i64 X.tt, .int .i64 X.kd, .int .i64 X.lf, .slice ka kn kc, .int .i64 pp] 75)).heap[rb]? = some (.cells #[.int .i64 r.1, .string r.2.1, .string r.2.2] 57 (0, 0))) := by rw [(bel_up W7 _).block rb (lt_of_heap HR7.out)]; exact HR7.out
          go_wp2_with (at_builtin; refine wpList_append_own_at _ rfl _ _ 70 rfl w.heap.size 75 iT _ 9 104 Try.underlying70 hiT hx0 hx1 hx2 rfl (by decide) _ _ _ rfl HROW.out ⟨W7.heap.size, 0, none⟩ 1 1 (itf (itm id z)) rfl rfl (by rw [HIT.out]; exact World.news_of_block (heap_new _ _)) HOC.out HMX.out.1 HMX.out.2 (by have := HSB.out; simp; omega) ?_; intro v6 w6 ho6 hg6 _ ha6; have HB6' : Hid (Below w.heap.size w w6) := bel_app (below_trans HB.out HB7.out) HSB.out (row_up HO.out HB7.out) hg6; have HO6 : Hid (w6.ownsRow w.heap.size 75 9 v6 (i + 1) (flat itf ((its.take (i + 1)).map (itm id)))) := (by rw [HSN.out, flat_app]; have h9 : flat itf [itm id z] = itf (itm id z) := List.append_nil _; rw [h9]; exact ho6); have HR6' : Hid (w6.heap[rb]? = some (.cells #[.int .i64 r.1, .string r.2.1, .string r.2.2] 57 (0, 0))) := (hg6.block rb (lt_of_heap HRA.out) (fun e => tag_ne_blk HROW.out HRA.out (by decide) e.symm)).trans HRA.out; obtain ⟨qa, qc, rfl⟩ := row_shape ho6; clear ho6 hg6 ha6)
          go_roundg (k - (i + 1))
          case measure => have := HI.out; have := HIM.out; omega
          case rel => exact ⟨i + 1, by first | rfl | (rw [show (i : Int) + 1 = ((i + 1 : Nat) : Int) by omega]), ⟨HIM.out, rfl⟩, HO6, HB6', HR6'⟩
        · have e1 : decide ((i : Int) < (k : Int)) = false := by rw [decide_eq_false_iff_not]; omega
          have e2 : decide (i < k) = false := by rw [decide_eq_false_iff_not]; omega
          have e3 : i = k := by have := HI.out; omega
          subst e3
          clear hi
          have HAL : Hid (its.take i = its) := List.take_of_length_le (by rw [HKL.out]; exact Nat.le_refl _)
          rw [HAL.out] at HO
          obtain ⟨XS, hXS⟩ : ∃ XS, its.map (itm id) = XS := ⟨_, rfl⟩
          have HLX : Hid (∀ x ∈ XS, LM Pp w x.v x.n x.L) := fun x hx => by rw [← hXS] at hx; obtain ⟨q, hq, rfl⟩ := List.mem_map.1 hx; exact HLT.out q hq
          obtain ⟨N, hNN⟩ : ∃ N, N = i := ⟨_, rfl⟩
          have HLN : Hid (XS.length = N) := by show _ = _; rw [← hXS, List.length_map, HKL.out, hNN]
          have HNB : Hid (N ≤ 1048576) := by rw [hNN]; exact HKB.out
          have HFIN : Hid ((XS.map (itm (gfl r.2.1))).flatMap itl = part Te Sy r t e) := by show _ = _; rw [← hXS]; exact HFI1.out
          rw [hXS, ← hNN] at HO
          have HOX : Hid (wr.ownsRow w.heap.size 75 9 (.slice oa N oc) N (flat itf ((XS.take 0).map (itm (gfl r.2.1)) ++ XS.drop 0))) := HO.out
          have HBX : Hid (Below w.heap.size w wr) := HB.out
          have HRX : Hid (wr.heap[rb]? = some (.cells #[.int .i64 r.1, .string r.2.1, .string r.2.2] 57 (0, 0))) := HR.out
          rw [← hNN]
          clear hXS hNN HO HB HR e1 e2
          go_upto_region 17 with fail
          go_loopg [15] N (fun gm v15 wr => ∃ i : Nat, v15 = .int .i64 (i : Int) ∧ Hid (i ≤ N ∧ gm = N - i) ∧ Hid (wr.ownsRow w.heap.size 75 9 (.slice oa N oc) N (flat itf ((XS.take i).map (itm (gfl r.2.1)) ++ XS.drop i))) ∧ Hid (Below w.heap.size w wr) ∧ Hid (wr.heap[rb]? = some (.cells #[.int .i64 r.1, .string r.2.1, .string r.2.2] 57 (0, 0))))
          case atStart => exact ⟨0, rfl, ⟨Nat.zero_le _, rfl⟩, HOX, HBX, HRX⟩
          case round =>
            clear HOX HBX HRX
            obtain ⟨i, rfl, HI, HO, HB, HR⟩ := hrel
            by_cases hi : i < N
            · have e1 : decide ((i : Int) < (N : Int)) = true := by rw [decide_eq_true_eq]; omega
              have e2 : decide (i < N) = true := by rw [decide_eq_true_eq]; omega
              have b1 : (i : Int) < (N : Int) := by omega
              have b2 : i < N := hi
              have HIM : Hid (i < N) := hi
              have hwi := w64n i (by have := HNB.out; omega)
              obtain ⟨g, gc, hge, -, -, -⟩ := row_form HO.out (by omega)
              obtain ⟨rfl, -, rfl⟩ := Value.slice.inj hge
              have hlt : i < XS.length := by rw [HLN.out]; exact hi
              have hlen : ((XS.take i).map (itm (gfl r.2.1)) ++ XS.drop i).length = N := by rw [List.length_append, List.length_map, List.length_take, List.length_drop, HLN.out]; omega
              have hget : ((XS.take i).map (itm (gfl r.2.1)) ++ XS.drop i).getD i itd = XS.getD i itd := by
                rw [List.getD_eq_getElem?_getD, List.getElem?_append_right (by rw [List.length_map, List.length_take]; omega), List.length_map, List.length_take, List.getElem?_drop, show i + (i - min i XS.length) = i by omega, List.getD_eq_getElem?_getD]
              have hcell : wr.cell? ⟨g, i * 9 + 2, none⟩ = some (.string (XS.getD i itd).y.fd) := by
                refine row_at HO.out _ _ ?_
                rw [flat_get itf_len itd _ i 2 (by rw [hlen]; exact hi) (by decide), hget]
                rfl
              have hstep : (XS.take (i + 1)).map (itm (gfl r.2.1)) ++ XS.drop (i + 1) = ((XS.take i).map (itm (gfl r.2.1)) ++ XS.drop i).set i (itm (gfl r.2.1) (XS.getD i itd)) := by
                have h8 : XS.drop i = XS.getD i itd :: XS.drop (i + 1) := by rw [List.drop_eq_getElem_cons hlt, List.getD_eq_getElem?_getD, List.getElem?_eq_getElem hlt]; rfl
                rw [take_getD XS itd i hlt, List.map_append, h8, List.set_append_right _ _ (by rw [List.length_map, List.length_take]; omega), List.length_map, List.length_take, show i - min i XS.length = 0 by omega]
                simp
              have HST : Hid _ := hstep
              have HGT : Hid (((XS.take i).map (itm (gfl r.2.1)) ++ XS.drop i).getD i itd = XS.getD i itd ∧ ((XS.take i).map (itm (gfl r.2.1)) ++ XS.drop i).length = N) := ⟨hget, hlen⟩
              obtain ⟨z, hz⟩ : ∃ z, XS.getD i itd = z := ⟨_, rfl⟩
              rw [hz] at hcell HST HGT
              clear hge hlt hlen hget hstep hz hi
              have x1 := rcell HR.out 1 _ rfl
              cases hbz2 : z.y.fd.toList.isEmpty with
              | true =>
                have hfd := ba_nil0 hbz2
                have HGF : Hid (gfl r.2.1 z.y = ⟨z.y.nm, z.y.nd, r.2.1, z.y.fr, z.y.tt, z.y.kd, z.y.lf⟩) := by show _ = _; unfold gfl; rw [if_pos hfd]
                obtain ⟨_, cur, hcur⟩ := row_tag HO.out g rfl
                have ff := fun j => Lib.frozen_of_heap hcur j
                have HSET : Hid ((wr.setCell ⟨g, i * 9 + 2, none⟩ (.string r.2.1)).ownsRow w.heap.size 75 9 (.slice (some ⟨g, 0, none⟩) N oc) N (flat itf ((XS.take (i + 1)).map (itm (gfl r.2.1)) ++ XS.drop (i + 1)))) := by
                  have h7 := row_set HO.out (i * 9 + 2) (.string r.2.1)
                  rw [flat_setg itf_len itd 2 (by decide) (.string r.2.1) (itm (gfl r.2.1) z) _ i (by rw [HGT.out.2]; exact HIM.out) (by rw [HGT.out.1]; unfold itm itf; rw [HGF.out]; rfl), ← HST.out] at h7
                  exact h7
                have HBS : Hid (Below w.heap.size w (wr.setCell ⟨g, i * 9 + 2, none⟩ (.string r.2.1))) := bel_put HB.out (row_tag HO.out g rfl).1
                have HRS : Hid ((wr.setCell ⟨g, i * 9 + 2, none⟩ (.string r.2.1)).heap[rb]? = some (.cells #[.int .i64 r.1, .string r.2.1, .string r.2.2] 57 (0, 0))) := by rw [grown_set.block rb (lt_of_heap HR.out) (fun e => tag_ne_blk HO.out HR.out (by decide) e.symm)]; exact HR.out
                clear hfd hcur
                go_wp2_with fail
                go_roundg (N - (i + 1))
                case measure => have := HI.out; have := HIM.out; omega
                case rel => exact ⟨i + 1, by first | rfl | (rw [show (i : Int) + 1 = ((i + 1 : Nat) : Int) by omega]), ⟨HIM.out, rfl⟩, HSET, HBS, HRS⟩
              | false =>
                have HNO : Hid (wr.ownsRow w.heap.size 75 9 (.slice (some ⟨g, 0, none⟩) N oc) N (flat itf ((XS.take (i + 1)).map (itm (gfl r.2.1)) ++ XS.drop (i + 1)))) := by
                  have hfd : ¬ z.y.fd = ⟨#[]⟩ := fun e => by rw [e, emp_yes] at hbz2; cases hbz2
                  have hit : itm (gfl r.2.1) z = z := by unfold itm gfl; rw [if_neg hfd]
                  have hi2 : ((XS.take i).map (itm (gfl r.2.1)) ++ XS.drop i).set i z = (XS.take i).map (itm (gfl r.2.1)) ++ XS.drop i := by
                    have h9 := HGT.out.1
                    rw [List.getD_eq_getElem?_getD, List.getElem?_eq_getElem (by rw [HGT.out.2]; exact HIM.out), Option.getD_some] at h9
                    rw [← h9]
                    exact List.set_getElem_self _
                  rw [HST.out, hit, hi2]
                  exact HO.out
                go_wp2_with fail
                go_roundg (N - (i + 1))
                case measure => have := HI.out; have := HIM.out; omega
                case rel => exact ⟨i + 1, by first | rfl | (rw [show (i : Int) + 1 = ((i + 1 : Nat) : Int) by omega]), ⟨HIM.out, rfl⟩, HNO, HB, HR⟩
            · have e1 : decide ((i : Int) < (N : Int)) = false := by rw [decide_eq_false_iff_not]; omega
              have e2 : decide (i < N) = false := by rw [decide_eq_false_iff_not]; omega
              have HAL : Hid ((XS.take i).map (itm (gfl r.2.1)) ++ XS.drop i = XS.map (itm (gfl r.2.1))) := by
                have : i = XS.length := by have := HI.out; have := HLN.out; omega
                show _ = _
                rw [this, List.take_length, List.drop_length, List.append_nil]
              rw [HAL.out] at HO
              clear hi
              go_wp2_with fail
              go_ret
              refine ⟨_, XS.map (itm (gfl r.2.1)), rfl, by rw [List.length_map, HLN.out]; exact HO.out, fun x hx => ?_, HFIN.out, HB.out⟩
              obtain ⟨q, hq, rfl⟩ := List.mem_map.1 hx
              exact HLX.out q hq
  | false =>
    have ha : ¬ r.2.2 = ⟨#[]⟩ := fun e => by rw [e, emp_yes] at hbz; cases hbz
    cases hk2 : (kk == 2) with
    | true =>
      have HFIN0 : Hid ((([⟨und r.2.2 its e, .slice av k cap, 0, k, t⟩] : List It).map (itm (gfl r.2.1))).flatMap itl = part Te Sy r t e) := HFI3.out ha (by have h7 := HK2.out; rw [hk2] at h7; intro q; rw [q] at h7; cases h7)
      clear ha HFI1 HFI2 HFI3 HFI4 HK2
      have hkq : kk = 2 := by simpa using hk2
      subst hkq
      clear hk2
      have HUN := runder_any (xs := its) (by rw [HKL.out]; have := HKB.out; omega) r.2.2 e W3 (HRW.out.up HB3.out)
      unfold tA und at HUN
      dsimp only at HUN
      have HUU : Hid _ := HUN
      clear HUN
      go_upto_region 15 with (go_at_call 23; refine Calls.mono HUU.out ?_; rintro ee W4 ⟨rfl, hb4⟩; have HB34 : Hid (Below W3.heap.size W3 W4) := hb4; clear hb4)
      clear x2
      obtain ⟨kb, hkb⟩ : ∃ kb, W4.heap.size = kb := ⟨_, rfl⟩
      obtain ⟨W5, hW5⟩ : ∃ W5, W5 = W4.alloc (.cells #[.string r.2.2, .bool true, .string ⟨#[]⟩, .int .i64 (ufr its e), .int .i64 (uto its e), .int .i64 0, .int .i64 (-1), .slice av k cap, .int .i64 0] 75) := ⟨_, rfl⟩
      have HB35 : Hid (Below W3.heap.size W3 W5) := by rw [hW5]; exact below_trans HB34.out (bel_up _ _)
      have HX5 : Hid (W5.heap[kb]? = some (.cells #[.string r.2.2, .bool true, .string ⟨#[]⟩, .int .i64 (ufr its e), .int .i64 (uto its e), .int .i64 0, .int .i64 (-1), .slice av k cap, .int .i64 0] 75 (0, 0))) := by rw [hW5, ← hkb]; exact heap_new _ _
      have HR5 : Hid (W5.heap[rb]? = some (.cells #[.int .i64 r.1, .string r.2.1, .string r.2.2] 57 (0, 0))) := by rw [HB35.out.block rb (lt_of_heap HR3.out)]; exact HR3.out
      have HB5 : Hid (Below w.heap.size w W5) := below_trans HB3.out HB35.out
      rw [hkb, ← hW5]
      clear hW5 hkb HUU
      have k0 := rcell HX5.out 0 _ rfl
      have k1 := rcell HX5.out 1 _ rfl
      have k2 := rcell HX5.out 2 _ rfl
      have k3 := rcell HX5.out 3 _ rfl
      have k4 := rcell HX5.out 4 _ rfl
      have k5 := rcell HX5.out 5 _ rfl
      have k6 := rcell HX5.out 6 _ rfl
      have k7 := rcell HX5.out 7 _ rfl
      have k8 := rcell HX5.out 8 _ rfl
      have HROW : Hid ((W5.alloc (.cells #[.string r.2.2, .bool true, .string ⟨#[]⟩, .int .i64 (ufr its e), .int .i64 (uto its e), .int .i64 0, .int .i64 (-1), .slice av k cap, .int .i64 0] 75)).ownsRow w.heap.size 75 9 (.slice none 0 0) 0 (flat itf [])) := World.ownsRow_nil _ _ _ _
      have HRA : Hid ((W5.alloc (.cells #[.string r.2.2, .bool true, .string ⟨#[]⟩, .int .i64 (ufr its e), .int .i64 (uto its e), .int .i64 0, .int .i64 (-1), .slice av k cap, .int .i64 0] 75)).heap[rb]? = some (.cells #[.int .i64 r.1, .string r.2.1, .string r.2.2] 57 (0, 0))) := by rw [(bel_up W5 _).block rb (lt_of_heap HR5.out)]; exact HR5.out
      obtain ⟨XS, hXS⟩ : ∃ XS : List It, XS = [⟨und r.2.2 its e, .slice av k cap, 0, k, t⟩] := ⟨_, rfl⟩
      have HXF : Hid (flat itf XS = (#[.string r.2.2, .bool true, .string ⟨#[]⟩, .int .i64 (ufr its e), .int .i64 (uto its e), .int .i64 0, .int .i64 (-1), .slice av k cap, .int .i64 0] : Array Value).toList) := by rw [hXS]; exact rfl
      have HX1 : Hid (∀ u ∈ flat itf XS, u.oneCell' = true) := fun u hu => by
        rw [HXF.out] at hu
        simp only [List.mem_cons, List.not_mem_nil, or_false] at hu
        rcases hu with rfl | rfl | rfl | rfl | rfl | rfl | rfl | rfl | rfl <;> rfl
      go_upto_region 16 with (at_builtin; refine wpList_append_own_at _ rfl _ _ 70 rfl w.heap.size 75 iT _ 9 104 Try.underlying70 hiT hx0 hx1 hx2 rfl (by decide) _ _ _ rfl HROW.out ⟨W5.heap.size, 0, none⟩ 1 1 (flat itf XS) rfl (by rw [HXF.out]; rfl) (by rw [HXF.out]; exact World.news_of_block (heap_new _ _)) HX1.out (by decide) (by decide) (by have := HB5.out.size; simp; omega) ?_; intro v6 w6 ho6 hg6 _ ha6; have HB6 : Hid (Below w.heap.size w w6) := HB5.out.grown ((World.grownBy_alloc W5 _ none).trans hg6) HB5.out.size (fun q hq => by cases hq); have HO6 : Hid (w6.ownsRow w.heap.size 75 9 v6 1 (flat itf XS)) := ho6; have HR6 : Hid (w6.heap[rb]? = some (.cells #[.int .i64 r.1, .string r.2.1, .string r.2.2] 57 (0, 0))) := (hg6.block rb (lt_of_heap HRA.out) (fun e => by cases e)).trans HRA.out; obtain ⟨oa, oc, rfl⟩ := row_shape ho6; clear ho6 hg6 ha6)
      clear k0 k1 k2 k3 k4 k5 k6 k7 k8 HROW HRA HX1 HXF
      have HFIN : Hid ((XS.map (itm (gfl r.2.1))).flatMap itl = part Te Sy r t e) := by rw [hXS]; exact HFIN0.out
      have HLX : Hid (∀ x ∈ XS, LM Pp w x.v x.n x.L) := fun x hx => by rw [hXS] at hx; cases List.mem_singleton.1 hx; exact HLV.out
      obtain ⟨N, hNN⟩ : ∃ N : Nat, N = 1 := ⟨_, rfl⟩
      have HLN : Hid (XS.length = N) := by show _ = _; rw [hXS, hNN]; rfl
      have HNB : Hid (N ≤ 1048576) := by rw [hNN]; show 1 ≤ 1048576; decide
      have HOX : Hid (w6.ownsRow w.heap.size 75 9 (.slice oa N oc) N (flat itf ((XS.take 0).map (itm (gfl r.2.1)) ++ XS.drop 0))) := by rw [hNN]; exact HO6.out
      have HBX : Hid (Below w.heap.size w w6) := HB6.out
      have HRX : Hid (w6.heap[rb]? = some (.cells #[.int .i64 r.1, .string r.2.1, .string r.2.2] 57 (0, 0))) := HR6.out
      rw [← hNN]
      clear hXS hNN HFIN0 HO6 HB6 HR6 HX5 HR5 HB5 HB35 HB34 HB3 HR3
      go_upto_region 17 with fail
      go_loopg [15] N (fun gm v15 wr => ∃ i : Nat, v15 = .int .i64 (i : Int) ∧ Hid (i ≤ N ∧ gm = N - i) ∧ Hid (wr.ownsRow w.heap.size 75 9 (.slice oa N oc) N (flat itf ((XS.take i).map (itm (gfl r.2.1)) ++ XS.drop i))) ∧ Hid (Below w.heap.size w wr) ∧ Hid (wr.heap[rb]? = some (.cells #[.int .i64 r.1, .string r.2.1, .string r.2.2] 57 (0, 0))))
      case atStart => exact ⟨0, rfl, ⟨Nat.zero_le _, rfl⟩, HOX, HBX, HRX⟩
      case round =>
        clear HOX HBX HRX
        obtain ⟨i, rfl, HI, HO, HB, HR⟩ := hrel
        by_cases hi : i < N
        · have e1 : decide ((i : Int) < (N : Int)) = true := by rw [decide_eq_true_eq]; omega
          have e2 : decide (i < N) = true := by rw [decide_eq_true_eq]; omega
          have b1 : (i : Int) < (N : Int) := by omega
          have b2 : i < N := hi
          have HIM : Hid (i < N) := hi
          have hwi := w64n i (by have := HNB.out; omega)
          obtain ⟨g, gc, hge, -, -, -⟩ := row_form HO.out (by omega)
          obtain ⟨rfl, -, rfl⟩ := Value.slice.inj hge
          have hlt : i < XS.length := by rw [HLN.out]; exact hi
          have hlen : ((XS.take i).map (itm (gfl r.2.1)) ++ XS.drop i).length = N := by rw [List.length_append, List.length_map, List.length_take, List.length_drop, HLN.out]; omega
          have hget : ((XS.take i).map (itm (gfl r.2.1)) ++ XS.drop i).getD i itd = XS.getD i itd := by
            rw [List.getD_eq_getElem?_getD, List.getElem?_append_right (by rw [List.length_map, List.length_take]; omega), List.length_map, List.length_take, List.getElem?_drop, show i + (i - min i XS.length) = i by omega, List.getD_eq_getElem?_getD]
          have hcell : wr.cell? ⟨g, i * 9 + 2, none⟩ = some (.string (XS.getD i itd).y.fd) := by
            refine row_at HO.out _ _ ?_
            rw [flat_get itf_len itd _ i 2 (by rw [hlen]; exact hi) (by decide), hget]
            rfl
          have hstep : (XS.take (i + 1)).map (itm (gfl r.2.1)) ++ XS.drop (i + 1) = ((XS.take i).map (itm (gfl r.2.1)) ++ XS.drop i).set i (itm (gfl r.2.1) (XS.getD i itd)) := by
            have h8 : XS.drop i = XS.getD i itd :: XS.drop (i + 1) := by rw [List.drop_eq_getElem_cons hlt, List.getD_eq_getElem?_getD, List.getElem?_eq_getElem hlt]; rfl
            rw [take_getD XS itd i hlt, List.map_append, h8, List.set_append_right _ _ (by rw [List.length_map, List.length_take]; omega), List.length_map, List.length_take, show i - min i XS.length = 0 by omega]
            simp
          have HST : Hid _ := hstep
          have HGT : Hid (((XS.take i).map (itm (gfl r.2.1)) ++ XS.drop i).getD i itd = XS.getD i itd ∧ ((XS.take i).map (itm (gfl r.2.1)) ++ XS.drop i).length = N) := ⟨hget, hlen⟩
          obtain ⟨z, hz⟩ : ∃ z, XS.getD i itd = z := ⟨_, rfl⟩
          rw [hz] at hcell HST HGT
          clear hge hlt hlen hget hstep hz hi
          have x1 := rcell HR.out 1 _ rfl
          cases hbz2 : z.y.fd.toList.isEmpty with
          | true =>
            have hfd := ba_nil0 hbz2
            have HGF : Hid (gfl r.2.1 z.y = ⟨z.y.nm, z.y.nd, r.2.1, z.y.fr, z.y.tt, z.y.kd, z.y.lf⟩) := by show _ = _; unfold gfl; rw [if_pos hfd]
            obtain ⟨_, cur, hcur⟩ := row_tag HO.out g rfl
            have ff := fun j => Lib.frozen_of_heap hcur j
            have HSET : Hid ((wr.setCell ⟨g, i * 9 + 2, none⟩ (.string r.2.1)).ownsRow w.heap.size 75 9 (.slice (some ⟨g, 0, none⟩) N oc) N (flat itf ((XS.take (i + 1)).map (itm (gfl r.2.1)) ++ XS.drop (i + 1)))) := by
              have h7 := row_set HO.out (i * 9 + 2) (.string r.2.1)
              rw [flat_setg itf_len itd 2 (by decide) (.string r.2.1) (itm (gfl r.2.1) z) _ i (by rw [HGT.out.2]; exact HIM.out) (by rw [HGT.out.1]; unfold itm itf; rw [HGF.out]; rfl), ← HST.out] at h7
              exact h7
            have HBS : Hid (Below w.heap.size w (wr.setCell ⟨g, i * 9 + 2, none⟩ (.string r.2.1))) := bel_put HB.out (row_tag HO.out g rfl).1
            have HRS : Hid ((wr.setCell ⟨g, i * 9 + 2, none⟩ (.string r.2.1)).heap[rb]? = some (.cells #[.int .i64 r.1, .string r.2.1, .string r.2.2] 57 (0, 0))) := by rw [grown_set.block rb (lt_of_heap HR.out) (fun e => tag_ne_blk HO.out HR.out (by decide) e.symm)]; exact HR.out
            clear hfd hcur
            go_wp2_with fail
            go_roundg (N - (i + 1))
            case measure => have := HI.out; have := HIM.out; omega
            case rel => exact ⟨i + 1, by first | rfl | (rw [show (i : Int) + 1 = ((i + 1 : Nat) : Int) by omega]), ⟨HIM.out, rfl⟩, HSET, HBS, HRS⟩
          | false =>
            have HNO : Hid (wr.ownsRow w.heap.size 75 9 (.slice (some ⟨g, 0, none⟩) N oc) N (flat itf ((XS.take (i + 1)).map (itm (gfl r.2.1)) ++ XS.drop (i + 1)))) := by
              have hfd : ¬ z.y.fd = ⟨#[]⟩ := fun e => by rw [e, emp_yes] at hbz2; cases hbz2
              have hit : itm (gfl r.2.1) z = z := by unfold itm gfl; rw [if_neg hfd]
              have hi2 : ((XS.take i).map (itm (gfl r.2.1)) ++ XS.drop i).set i z = (XS.take i).map (itm (gfl r.2.1)) ++ XS.drop i := by
                have h9 := HGT.out.1
                rw [List.getD_eq_getElem?_getD, List.getElem?_eq_getElem (by rw [HGT.out.2]; exact HIM.out), Option.getD_some] at h9
                rw [← h9]
                exact List.set_getElem_self _
              rw [HST.out, hit, hi2]
              exact HO.out
            go_wp2_with fail
            go_roundg (N - (i + 1))
            case measure => have := HI.out; have := HIM.out; omega
            case rel => exact ⟨i + 1, by first | rfl | (rw [show (i : Int) + 1 = ((i + 1 : Nat) : Int) by omega]), ⟨HIM.out, rfl⟩, HNO, HB, HR⟩
        · have e1 : decide ((i : Int) < (N : Int)) = false := by rw [decide_eq_false_iff_not]; omega
          have e2 : decide (i < N) = false := by rw [decide_eq_false_iff_not]; omega
          have HAL : Hid ((XS.take i).map (itm (gfl r.2.1)) ++ XS.drop i = XS.map (itm (gfl r.2.1))) := by
            have : i = XS.length := by have := HI.out; have := HLN.out; omega
            show _ = _
            rw [this, List.take_length, List.drop_length, List.append_nil]
          rw [HAL.out] at HO
          clear hi
          go_wp2_with fail
          go_ret
          refine ⟨_, XS.map (itm (gfl r.2.1)), rfl, by rw [List.length_map, HLN.out]; exact HO.out, fun x hx => ?_, HFIN.out, HB.out⟩
          obtain ⟨q, hq, rfl⟩ := List.mem_map.1 hx
          exact HLX.out q hq
    | false =>
      have HFI2' : Hid (((its.map (itm (cal r.2.2))).map (itm (gfl r.2.1))).flatMap itl = part Te Sy r t e) := HFI2.out ha (by have h7 := HK2.out; rw [hk2] at h7; simpa using h7.symm)
      replace HFI2 : Hid (((its.map (itm (cal r.2.2))).map (itm (gfl r.2.1))).flatMap itl = part Te Sy r t e) := HFI2'.out
      clear HFI2' ha HFI1 HFI3 HFI4 HK2
      go_upto_region 5 with fail
      go_loopg [11, 13] k (fun gm v11 v13 wr => ∃ i : Nat, v13 = .int .i64 (i : Int) ∧ Hid (i ≤ k ∧ gm = k - i) ∧ Hid (wr.ownsRow w.heap.size 75 9 v11 i (flat itf ((its.take i).map (itm (cal r.2.2))))) ∧ Hid (Below w.heap.size w wr) ∧ Hid (wr.heap[rb]? = some (.cells #[.int .i64 r.1, .string r.2.1, .string r.2.2] 57 (0, 0))))
      case atStart => exact ⟨0, rfl, ⟨Nat.zero_le _, rfl⟩, World.ownsRow_nil _ _ _ _, HB3, HR3⟩
      case round =>
        clear HB3 HR3
        obtain ⟨i, rfl, HI, HO, HB, HR⟩ := hrel
        obtain ⟨oa, oc, hov⟩ := row_shape HO.out
        subst hov
        by_cases hi : i < k
        · have e1 : decide ((i : Int) < (k : Int)) = true := by rw [decide_eq_true_eq]; omega
          have e2 : decide (i < k) = true := by rw [decide_eq_true_eq]; omega
          have b1 : (i : Int) < (k : Int) := by omega
          have b2 : i < k := hi
          have HIM : Hid (i < k) := hi
          have hwi := w64n i (by have := HKB.out; omega)
          have hlt : i < its.length := by rw [HKL.out]; exact hi
          obtain ⟨g, o, rfl, hC⟩ := items_nine HRW.out i hlt
          obtain ⟨ka, kc, hkv⟩ := (HLT.out _ (getD_mem its itd i hlt)).form
          have HSN : Hid ((its.take (i + 1)).map (itm (cal r.2.2)) = (its.take i).map (itm (cal r.2.2)) ++ [itm (cal r.2.2) (its.getD i itd)]) := by show _ = _; rw [take_getD its itd i hlt, List.map_append]; rfl
          obtain ⟨q0, q1, q2, q3, q4, q5, q6, q7, q8⟩ := hC wr HB.out
          obtain ⟨z, hz⟩ : ∃ z, its.getD i itd = z := ⟨_, rfl⟩
          rw [hz] at HSN hkv q0 q1 q2 q3 q4 q5 q6 q7 q8
          rw [hkv] at q7
          obtain ⟨X, hX⟩ : ∃ X, z.y = X := ⟨_, rfl⟩
          obtain ⟨pp, hpp⟩ : ∃ pp, z.p = pp := ⟨_, rfl⟩
          obtain ⟨kn, hkn⟩ : ∃ kn, z.n = kn := ⟨_, rfl⟩
          rw [hX] at q0 q1 q2 q3 q4 q5 q6
          rw [hpp] at q8
          rw [hkn] at q7 hkv
          have HIT : Hid (itf (itm (cal r.2.2) z) = ((#[.string r.2.2, .bool true, .string X.fd, .int .i64 X.fr, .int .i64 X.tt, .int .i64 X.kd, .int .i64 X.lf, .slice ka kn kc, .int .i64 pp] : Array Value)).toList) := by show _ = _; unfold itm itf; dsimp only; rw [hX, hkv, hpp]; rfl
          clear hi hlt hC hz hX hpp hkn hkv
          go_upto_region 8 with fail
          clear q0 q1 q2 q3 q4 q5 q6 q7 q8
          obtain ⟨kb, hkb⟩ : ∃ kb, wr.heap.size = kb := ⟨_, rfl⟩
          obtain ⟨W5, hW5⟩ : ∃ W5, W5 = wr.alloc (.cells #[.string X.nm, .bool X.nd, .string X.fd, .int .i64 X.fr, .int .i64 X.tt, .int .i64 X.kd, .int .i64 X.lf, .slice ka kn kc, .int .i64 pp] 75) := ⟨_, rfl⟩
          have HB5 : Hid (Below wr.heap.size wr W5) := by rw [hW5]; exact bel_up _ _
          have HX5 : Hid (W5.heap[kb]? = some (.cells #[.string X.nm, .bool X.nd, .string X.fd, .int .i64 X.fr, .int .i64 X.tt, .int .i64 X.kd, .int .i64 X.lf, .slice ka kn kc, .int .i64 pp] 75 (0, 0))) := by rw [hW5, ← hkb]; exact heap_new _ _
          have HKK : Hid (wr.heap.size ≤ kb) := by rw [← hkb]; exact Nat.le_refl _
          have HR5 : Hid (W5.heap[rb]? = some (.cells #[.int .i64 r.1, .string r.2.1, .string r.2.2] 57 (0, 0))) := by rw [HB5.out.block rb (lt_of_heap HR.out)]; exact HR.out
          have HNB : Hid (rb ≠ kb) := by have := lt_of_heap HR.out; have := HKK.out; show _ ≠ _; omega
          rw [hkb, ← hW5]
          clear hW5 hkb
          have x2 := rcell HR5.out 2 _ rfl
          have ff := fun j => Lib.frozen_of_heap HX5.out j
          have y0 := rcell HX5.out 0 _ rfl
          go_upto_region 10 with fail
          clear x2 y0 ff
          obtain ⟨W6, hW6⟩ : ∃ W6, W6 = W5.setCell ⟨kb, 0, none⟩ (.string r.2.2) := ⟨_, rfl⟩
          have HB6 : Hid (Below wr.heap.size wr W6) := by rw [hW6]; exact bel_put HB5.out HKK.out
          have HX6 : Hid (W6.heap[kb]? = some (.cells #[.string r.2.2, .bool X.nd, .string X.fd, .int .i64 X.fr, .int .i64 X.tt, .int .i64 X.kd, .int .i64 X.lf, .slice ka kn kc, .int .i64 pp] 75 (0, 0))) := by rw [hW6]; exact blk_set (k := 0) (.string r.2.2) HX5.out
          have HR6 : Hid (W6.heap[rb]? = some (.cells #[.int .i64 r.1, .string r.2.1, .string r.2.2] 57 (0, 0))) := by rw [hW6, grown_set.block rb (lt_of_heap HR5.out) (fun e => HNB.out (Option.some.inj e))]; exact HR5.out
          rw [← hW6]
          clear hW6
          have ff := fun j => Lib.frozen_of_heap HX6.out j
          have y1 := rcell HX6.out 1 _ rfl
          go_upto_region 11 with fail
          clear y1 ff
          obtain ⟨W7, hW7⟩ : ∃ W7, W7 = W6.setCell ⟨kb, 1, none⟩ (.bool true) := ⟨_, rfl⟩
          have HB7 : Hid (Below wr.heap.size wr W7) := by rw [hW7]; exact bel_put HB6.out HKK.out
          have HX7 : Hid (W7.heap[kb]? = some (.cells #[.string r.2.2, .bool true, .string X.fd, .int .i64 X.fr, .int .i64 X.tt, .int .i64 X.kd, .int .i64 X.lf, .slice ka kn kc, .int .i64 pp] 75 (0, 0))) := by rw [hW7]; exact blk_set (k := 1) (.bool true) HX6.out
          have HR7 : Hid (W7.heap[rb]? = some (.cells #[.int .i64 r.1, .string r.2.1, .string r.2.2] 57 (0, 0))) := by rw [hW7, grown_set.block rb (lt_of_heap HR6.out) (fun e => HNB.out (Option.some.inj e))]; exact HR6.out
          rw [← hW7]
          clear hW7
          have k0 := rcell HX7.out 0 _ rfl
          have k1 := rcell HX7.out 1 _ rfl
          have k2 := rcell HX7.out 2 _ rfl
          have k3 := rcell HX7.out 3 _ rfl
          have k4 := rcell HX7.out 4 _ rfl
          have k5 := rcell HX7.out 5 _ rfl
          have k6 := rcell HX7.out 6 _ rfl
          have k7 := rcell HX7.out 7 _ rfl
          have k8 := rcell HX7.out 8 _ rfl
          have HROW : Hid ((W7.alloc (.cells #[.string r.2.2, .bool true, .string X.fd, .int .i64 X.fr, .int .i64 X.tt, .int .i64 X.kd, .int .i64 X.lf, .slice ka kn kc, .int .i64 pp] 75)).ownsRow w.heap.size 75 9 (.slice oa i oc) i (flat itf ((its.take i).map (itm (cal r.2.2))))) := (row_up HO.out HB7.out).alloc _
          have HSB : Hid (w.heap.size ≤ W7.heap.size) := Nat.le_trans HB.out.size HB7.out.size
          have HMX : Hid (i + 1 ≤ maxLen ∧ (i + 1) * 104 ≤ 140737488355328) := by have := HIM.out; have := HKB.out; show _ ∧ _; unfold maxLen; omega
          have HOC : Hid (∀ u ∈ itf (itm (cal r.2.2) z), u.oneCell' = true) := itf_one _ (by have h7 := HIT.out; unfold itm itf at h7; dsimp only at h7; have h8 := congrArg (fun l => l[7]?) h7; have h9 : some z.v = some (Value.slice ka kn kc) := h8; have h10 := Option.some.inj h9; show z.v.oneCell' = true; rw [h10]; rfl)
          have HRA : Hid ((W7.alloc (.cells #[.string r.2.2, .bool true, .string X.fd, .int .i64 X.fr, .int .i64 X.tt, .int .i64 X.kd, .int .i64 X.lf, .slice ka kn kc, .int .i64 pp] 75)).heap[rb]? = some (.cells #[.int .i64 r.1, .string r.2.1, .string r.2.2] 57 (0, 0))) := by rw [(bel_up W7 _).block rb (lt_of_heap HR7.out)]; exact HR7.out
          go_wp2_with (at_builtin; refine wpList_append_own_at _ rfl _ _ 70 rfl w.heap.size 75 iT _ 9 104 Try.underlying70 hiT hx0 hx1 hx2 rfl (by decide) _ _ _ rfl HROW.out ⟨W7.heap.size, 0, none⟩ 1 1 (itf (itm (cal r.2.2) z)) rfl rfl (by rw [HIT.out]; exact World.news_of_block (heap_new _ _)) HOC.out HMX.out.1 HMX.out.2 (by have := HSB.out; simp; omega) ?_; intro v6 w6 ho6 hg6 _ ha6; have HB6' : Hid (Below w.heap.size w w6) := bel_app (below_trans HB.out HB7.out) HSB.out (row_up HO.out HB7.out) hg6; have HO6 : Hid (w6.ownsRow w.heap.size 75 9 v6 (i + 1) (flat itf ((its.take (i + 1)).map (itm (cal r.2.2))))) := (by rw [HSN.out, flat_app]; have h9 : flat itf [itm (cal r.2.2) z] = itf (itm (cal r.2.2) z) := List.append_nil _; rw [h9]; exact ho6); have HR6' : Hid (w6.heap[rb]? = some (.cells #[.int .i64 r.1, .string r.2.1, .string r.2.2] 57 (0, 0))) := (hg6.block rb (lt_of_heap HRA.out) (fun e => tag_ne_blk HROW.out HRA.out (by decide) e.symm)).trans HRA.out; obtain ⟨qa, qc, rfl⟩ := row_shape ho6; clear ho6 hg6 ha6)
          go_roundg (k - (i + 1))
          case measure => have := HI.out; have := HIM.out; omega
          case rel => exact ⟨i + 1, by first | rfl | (rw [show (i : Int) + 1 = ((i + 1 : Nat) : Int) by omega]), ⟨HIM.out, rfl⟩, HO6, HB6', HR6'⟩
        · have e1 : decide ((i : Int) < (k : Int)) = false := by rw [decide_eq_false_iff_not]; omega
          have e2 : decide (i < k) = false := by rw [decide_eq_false_iff_not]; omega
          have e3 : i = k := by have := HI.out; omega
          subst e3
          clear hi
          have HAL : Hid (its.take i = its) := List.take_of_length_le (by rw [HKL.out]; exact Nat.le_refl _)
          rw [HAL.out] at HO
          obtain ⟨XS, hXS⟩ : ∃ XS, its.map (itm (cal r.2.2)) = XS := ⟨_, rfl⟩
          have HLX : Hid (∀ x ∈ XS, LM Pp w x.v x.n x.L) := fun x hx => by rw [← hXS] at hx; obtain ⟨q, hq, rfl⟩ := List.mem_map.1 hx; exact HLT.out q hq
          obtain ⟨N, hNN⟩ : ∃ N, N = i := ⟨_, rfl⟩
          have HLN : Hid (XS.length = N) := by show _ = _; rw [← hXS, List.length_map, HKL.out, hNN]
          have HNB : Hid (N ≤ 1048576) := by rw [hNN]; exact HKB.out
          have HFIN : Hid ((XS.map (itm (gfl r.2.1))).flatMap itl = part Te Sy r t e) := by show _ = _; rw [← hXS]; exact HFI2.out
          rw [hXS, ← hNN] at HO
          have HOX : Hid (wr.ownsRow w.heap.size 75 9 (.slice oa N oc) N (flat itf ((XS.take 0).map (itm (gfl r.2.1)) ++ XS.drop 0))) := HO.out
          have HBX : Hid (Below w.heap.size w wr) := HB.out
          have HRX : Hid (wr.heap[rb]? = some (.cells #[.int .i64 r.1, .string r.2.1, .string r.2.2] 57 (0, 0))) := HR.out
          rw [← hNN]
          clear hXS hNN HO HB HR e1 e2
          go_upto_region 17 with fail
          go_loopg [15] N (fun gm v15 wr => ∃ i : Nat, v15 = .int .i64 (i : Int) ∧ Hid (i ≤ N ∧ gm = N - i) ∧ Hid (wr.ownsRow w.heap.size 75 9 (.slice oa N oc) N (flat itf ((XS.take i).map (itm (gfl r.2.1)) ++ XS.drop i))) ∧ Hid (Below w.heap.size w wr) ∧ Hid (wr.heap[rb]? = some (.cells #[.int .i64 r.1, .string r.2.1, .string r.2.2] 57 (0, 0))))
          case atStart => exact ⟨0, rfl, ⟨Nat.zero_le _, rfl⟩, HOX, HBX, HRX⟩
          case round =>
            clear HOX HBX HRX
            obtain ⟨i, rfl, HI, HO, HB, HR⟩ := hrel
            by_cases hi : i < N
            · have e1 : decide ((i : Int) < (N : Int)) = true := by rw [decide_eq_true_eq]; omega
              have e2 : decide (i < N) = true := by rw [decide_eq_true_eq]; omega
              have b1 : (i : Int) < (N : Int) := by omega
              have b2 : i < N := hi
              have HIM : Hid (i < N) := hi
              have hwi := w64n i (by have := HNB.out; omega)
              obtain ⟨g, gc, hge, -, -, -⟩ := row_form HO.out (by omega)
              obtain ⟨rfl, -, rfl⟩ := Value.slice.inj hge
              have hlt : i < XS.length := by rw [HLN.out]; exact hi
              have hlen : ((XS.take i).map (itm (gfl r.2.1)) ++ XS.drop i).length = N := by rw [List.length_append, List.length_map, List.length_take, List.length_drop, HLN.out]; omega
              have hget : ((XS.take i).map (itm (gfl r.2.1)) ++ XS.drop i).getD i itd = XS.getD i itd := by
                rw [List.getD_eq_getElem?_getD, List.getElem?_append_right (by rw [List.length_map, List.length_take]; omega), List.length_map, List.length_take, List.getElem?_drop, show i + (i - min i XS.length) = i by omega, List.getD_eq_getElem?_getD]
              have hcell : wr.cell? ⟨g, i * 9 + 2, none⟩ = some (.string (XS.getD i itd).y.fd) := by
                refine row_at HO.out _ _ ?_
                rw [flat_get itf_len itd _ i 2 (by rw [hlen]; exact hi) (by decide), hget]
                rfl
              have hstep : (XS.take (i + 1)).map (itm (gfl r.2.1)) ++ XS.drop (i + 1) = ((XS.take i).map (itm (gfl r.2.1)) ++ XS.drop i).set i (itm (gfl r.2.1) (XS.getD i itd)) := by
                have h8 : XS.drop i = XS.getD i itd :: XS.drop (i + 1) := by rw [List.drop_eq_getElem_cons hlt, List.getD_eq_getElem?_getD, List.getElem?_eq_getElem hlt]; rfl
                rw [take_getD XS itd i hlt, List.map_append, h8, List.set_append_right _ _ (by rw [List.length_map, List.length_take]; omega), List.length_map, List.length_take, show i - min i XS.length = 0 by omega]
                simp
              have HST : Hid _ := hstep
              have HGT : Hid (((XS.take i).map (itm (gfl r.2.1)) ++ XS.drop i).getD i itd = XS.getD i itd ∧ ((XS.take i).map (itm (gfl r.2.1)) ++ XS.drop i).length = N) := ⟨hget, hlen⟩
              obtain ⟨z, hz⟩ : ∃ z, XS.getD i itd = z := ⟨_, rfl⟩
              rw [hz] at hcell HST HGT
              clear hge hlt hlen hget hstep hz hi
              have x1 := rcell HR.out 1 _ rfl
              cases hbz2 : z.y.fd.toList.isEmpty with
              | true =>
                have hfd := ba_nil0 hbz2
                have HGF : Hid (gfl r.2.1 z.y = ⟨z.y.nm, z.y.nd, r.2.1, z.y.fr, z.y.tt, z.y.kd, z.y.lf⟩) := by show _ = _; unfold gfl; rw [if_pos hfd]
                obtain ⟨_, cur, hcur⟩ := row_tag HO.out g rfl
                have ff := fun j => Lib.frozen_of_heap hcur j
                have HSET : Hid ((wr.setCell ⟨g, i * 9 + 2, none⟩ (.string r.2.1)).ownsRow w.heap.size 75 9 (.slice (some ⟨g, 0, none⟩) N oc) N (flat itf ((XS.take (i + 1)).map (itm (gfl r.2.1)) ++ XS.drop (i + 1)))) := by
                  have h7 := row_set HO.out (i * 9 + 2) (.string r.2.1)
                  rw [flat_setg itf_len itd 2 (by decide) (.string r.2.1) (itm (gfl r.2.1) z) _ i (by rw [HGT.out.2]; exact HIM.out) (by rw [HGT.out.1]; unfold itm itf; rw [HGF.out]; rfl), ← HST.out] at h7
                  exact h7
                have HBS : Hid (Below w.heap.size w (wr.setCell ⟨g, i * 9 + 2, none⟩ (.string r.2.1))) := bel_put HB.out (row_tag HO.out g rfl).1
                have HRS : Hid ((wr.setCell ⟨g, i * 9 + 2, none⟩ (.string r.2.1)).heap[rb]? = some (.cells #[.int .i64 r.1, .string r.2.1, .string r.2.2] 57 (0, 0))) := by rw [grown_set.block rb (lt_of_heap HR.out) (fun e => tag_ne_blk HO.out HR.out (by decide) e.symm)]; exact HR.out
                clear hfd hcur
                go_wp2_with fail
                go_roundg (N - (i + 1))
                case measure => have := HI.out; have := HIM.out; omega
                case rel => exact ⟨i + 1, by first | rfl | (rw [show (i : Int) + 1 = ((i + 1 : Nat) : Int) by omega]), ⟨HIM.out, rfl⟩, HSET, HBS, HRS⟩
              | false =>
                have HNO : Hid (wr.ownsRow w.heap.size 75 9 (.slice (some ⟨g, 0, none⟩) N oc) N (flat itf ((XS.take (i + 1)).map (itm (gfl r.2.1)) ++ XS.drop (i + 1)))) := by
                  have hfd : ¬ z.y.fd = ⟨#[]⟩ := fun e => by rw [e, emp_yes] at hbz2; cases hbz2
                  have hit : itm (gfl r.2.1) z = z := by unfold itm gfl; rw [if_neg hfd]
                  have hi2 : ((XS.take i).map (itm (gfl r.2.1)) ++ XS.drop i).set i z = (XS.take i).map (itm (gfl r.2.1)) ++ XS.drop i := by
                    have h9 := HGT.out.1
                    rw [List.getD_eq_getElem?_getD, List.getElem?_eq_getElem (by rw [HGT.out.2]; exact HIM.out), Option.getD_some] at h9
                    rw [← h9]
                    exact List.set_getElem_self _
                  rw [HST.out, hit, hi2]
                  exact HO.out
                go_wp2_with fail
                go_roundg (N - (i + 1))
                case measure => have := HI.out; have := HIM.out; omega
                case rel => exact ⟨i + 1, by first | rfl | (rw [show (i : Int) + 1 = ((i + 1 : Nat) : Int) by omega]), ⟨HIM.out, rfl⟩, HNO, HB, HR⟩
            · have e1 : decide ((i : Int) < (N : Int)) = false := by rw [decide_eq_false_iff_not]; omega
              have e2 : decide (i < N) = false := by rw [decide_eq_false_iff_not]; omega
              have HAL : Hid ((XS.take i).map (itm (gfl r.2.1)) ++ XS.drop i = XS.map (itm (gfl r.2.1))) := by
                have : i = XS.length := by have := HI.out; have := HLN.out; omega
                show _ = _
                rw [this, List.take_length, List.drop_length, List.append_nil]
              rw [HAL.out] at HO
              clear hi
              go_wp2_with fail
              go_ret
              refine ⟨_, XS.map (itm (gfl r.2.1)), rfl, by rw [List.length_map, HLN.out]; exact HO.out, fun x hx => ?_, HFIN.out, HB.out⟩
              obtain ⟨q, hq, rfl⟩ := List.mem_map.1 hx
              exact HLX.out q hq
end Go.Proofs.Ytcfmpmhdjkchjab
