import Derived.Test.YticheeacbajeeaaZma
import Derived.Test.YticheeacbajeeaaZmv
import Derived.Test.YticheeacbajeeaaOfw
namespace Go.Proofs.Yticheeacbajeeaa
open Go.RowKit Go.Maps

theorem lie_all {T : List Nd} {s : ByteArray} (h : ∀ j, j < T.length → okn s (T.getD j ndd)) : lie T s.size = true := by
  unfold lie
  rw [List.all_eq_true]
  intro x hx
  obtain ⟨i, hi, rfl⟩ := List.mem_iff_getElem.1 hx
  have h9 := h i hi
  rw [List.getD_eq_getElem?_getD, List.getElem?_eq_getElem hi, Option.getD_some] at h9
  rw [decide_eq_true_eq]
  exact h9
theorem mvk_nm {k : Nat} {T : List Nd} {z : Nat} (h : ∀ x ∈ T, x.nm.size ≤ z) : ∀ x ∈ T.map (mvk k), x.nm.size ≤ z := by
  intro x hx
  obtain ⟨y, hy, rfl⟩ := List.mem_map.1 hx
  exact h y hy
theorem Zf.mvk {F : List ByteArray} {T : List Nd} {s : ByteArray} (h : Zf F T s) {k : Nat} (hk : s.size + k ≤ 1099511627776) : Zf F (T.map (mvk k)) (nlk k s) :=
  ⟨h.fl, by unfold Sm; rw [List.length_map]; exact h.tl, h.fn, mvk_nm h.tn, by rw [nlk_size]; exact hk⟩
theorem Zo.mvk {M : List Pa} {T : List Nd} {s : ByteArray} (h : Zo M T s) {k : Nat} (hk : s.size + k ≤ 1099511627776) : Zo M (T.map (mvk k)) (nlk k s) :=
  ⟨h.ml, by unfold Sm; rw [List.length_map]; exact h.tl, h.mn, mvk_nm h.tn, by rw [nlk_size]; omega⟩
theorem fol_lt {F : List ByteArray} {T : List Nd} {s : ByteArray} : ∀ x ∈ fol F T s, x.1 ≤ s.size + 1 ∧ x.2 ≤ s.size + 1 := by
  intro x hx
  by_cases h : rgt T s.size = true
  · have h1 := (((fol_cn (F := F) h).iff x).1 hx).1
    have h2 : x ∈ rl F s T := by
      unfold fl at h1
      exact (List.mem_filter.1 h1).1
    unfold rl at h2
    obtain ⟨y, hy, rfl⟩ := List.mem_map.1 h2
    have hy' := (List.mem_filter.1 hy).1
    obtain ⟨i, hi, rfl⟩ := List.mem_iff_getElem.1 hy'
    have h9 := lie_okn (rgt_yes h).1 i hi
    rw [List.getD_eq_getElem?_getD, List.getElem?_eq_getElem hi, Option.getD_some] at h9
    have a1 := nfr_lt h9
    have a2 := nlr_lt h9
    have a3 := rws_len s
    exact ⟨by show nfr s T[i] ≤ _; omega, by show nlr s T[i] ≤ _; omega⟩
  · have e : rgt T s.size = false := by simpa using h
    rw [fol_no e] at hx
    cases hx
theorem syl_lt {M : List Pa} {T : List Nd} {s : ByteArray} : ∀ x ∈ syl M T s, 0 ≤ x.fr ∧ x.fr ≤ (s.size : Int) ∧ 0 ≤ x.tt ∧ x.tt ≤ (s.size : Int) := by
  intro x hx
  unfold syl at hx
  by_cases h : rgt T s.size = true
  · rw [if_pos h] at hx
    unfold sys at hx
    obtain ⟨a, ha, h1⟩ := List.mem_flatMap.1 hx
    have ha' := List.mem_range.1 ha
    obtain ⟨k1, k2, k3⟩ := lie_at (rgt_yes h).1 a ha'
    unfold sy1 at h1
    split at h1
    · rw [List.mem_singleton] at h1
      rw [h1]
      exact ⟨k1, by show (T.getD a ndd).fr ≤ _; omega, by show 0 ≤ (T.getD a ndd).tt; omega, k3⟩
    · cases h1
  · rw [if_neg h] at hx
    cases hx
theorem mem_getDf (L : List Fd) (i : Nat) (h : i < L.length) : L.getD i fdz ∈ L := by
  rw [List.getD_eq_getElem?_getD, List.getElem?_eq_getElem h]; exact List.getElem_mem h
theorem mem_getDs (L : List Sy) (i : Nat) (h : i < L.length) : L.getD i syz ∈ L := by
  rw [List.getD_eq_getElem?_getD, List.getElem?_eq_getElem h]; exact List.getElem_mem h
theorem map_getDf (L : List Fd) (k i : Nat) (h : i < L.length) : (L.map fun x => ((x.1 + k, x.2 + k) : Fd)).getD i fdz = ((L.getD i fdz).1 + k, (L.getD i fdz).2 + k) := by
  rw [List.getD_eq_getElem?_getD, List.getD_eq_getElem?_getD, List.getElem?_map, List.getElem?_eq_getElem h]; rfl
theorem map_getDs (L : List Sy) (k i : Nat) (h : i < L.length) : (L.map fun y => (⟨y.nm, y.cl, y.fr + k, y.tt + k, y.dp⟩ : Sy)).getD i syz = ⟨(L.getD i syz).nm, (L.getD i syz).cl, (L.getD i syz).fr + k, (L.getD i syz).tt + k, (L.getD i syz).dp⟩ := by
  rw [List.getD_eq_getElem?_getD, List.getD_eq_getElem?_getD, List.getElem?_map, List.getElem?_eq_getElem h]; rfl
end Go.Proofs.Yticheeacbajeeaa
namespace Go.Proofs.Yticheeacbajeeaa
open Go.RowKit Go.Maps

theorem put7_heap {W : World} {b : Nat} {e : TypeId} {u0 u1 u2 u3 u4 u5 u6 v0 v1 v2 v3 v4 v5 v6 : Value} (h : W.heap[b]? = some (.cells #[u0, u1, u2, u3, u4, u5, u6] e (0, 0))) : (((((((W.setCell ⟨b, 0, none⟩ v0).setCell ⟨b, 1, none⟩ v1).setCell ⟨b, 2, none⟩ v2).setCell ⟨b, 3, none⟩ v3).setCell ⟨b, 4, none⟩ v4).setCell ⟨b, 5, none⟩ v5).setCell ⟨b, 6, none⟩ v6).heap[b]? = some (.cells #[v0, v1, v2, v3, v4, v5, v6] e (0, 0)) := by
  have h1 : (W.setCell ⟨b, 0, none⟩ v0).heap[b]? = some (.cells #[v0, u1, u2, u3, u4, u5, u6] e (0, 0)) := blk_set v0 h
  have h2 : ((W.setCell ⟨b, 0, none⟩ v0).setCell ⟨b, 1, none⟩ v1).heap[b]? = some (.cells #[v0, v1, u2, u3, u4, u5, u6] e (0, 0)) := blk_set v1 h1
  have h3 : (((W.setCell ⟨b, 0, none⟩ v0).setCell ⟨b, 1, none⟩ v1).setCell ⟨b, 2, none⟩ v2).heap[b]? = some (.cells #[v0, v1, v2, u3, u4, u5, u6] e (0, 0)) := blk_set v2 h2
  have h4 : ((((W.setCell ⟨b, 0, none⟩ v0).setCell ⟨b, 1, none⟩ v1).setCell ⟨b, 2, none⟩ v2).setCell ⟨b, 3, none⟩ v3).heap[b]? = some (.cells #[v0, v1, v2, v3, u4, u5, u6] e (0, 0)) := blk_set v3 h3
  have h5 : (((((W.setCell ⟨b, 0, none⟩ v0).setCell ⟨b, 1, none⟩ v1).setCell ⟨b, 2, none⟩ v2).setCell ⟨b, 3, none⟩ v3).setCell ⟨b, 4, none⟩ v4).heap[b]? = some (.cells #[v0, v1, v2, v3, v4, u5, u6] e (0, 0)) := blk_set v4 h4
  have h6 : ((((((W.setCell ⟨b, 0, none⟩ v0).setCell ⟨b, 1, none⟩ v1).setCell ⟨b, 2, none⟩ v2).setCell ⟨b, 3, none⟩ v3).setCell ⟨b, 4, none⟩ v4).setCell ⟨b, 5, none⟩ v5).heap[b]? = some (.cells #[v0, v1, v2, v3, v4, v5, u6] e (0, 0)) := blk_set v5 h5
  exact blk_set v6 h6
theorem okn_bad {s : ByteArray} {T : List Nd} {i : Nat} (h : i < T.length) (hn : ¬ okn s (T.getD i ndd)) : lie T s.size = false := lie_no h hn
theorem rgt_bad {T : List Nd} {z : Nat} (h : lie T z = false) : rgt T z = false := by unfold rgt; rw [h]; rfl
theorem tmod_k (x : Int) (h : 0 ≤ x) : ∃ K : Nat, Int.tmod x 50 = (K : Int) ∧ K < 50 := by
  refine ⟨(x % 50).toNat, ?_, by omega⟩
  rw [Int.tmod_eq_emod_of_nonneg h]
  omega
set_option maxRecDepth 100000 in
set_option maxHeartbeats 16000000 in
/-- OutlineMoves. -/
theorem outlineMoves_any {va vb vt : Value} {F : List ByteArray} {M : List Pa} {T : List Nd} (s : ByteArray) (kx : Int) (w : World) (hF : Ss w va F) (hM : Pl w vb M) (hT : Ns w vt T) (hz : Zf F T s) (hy : Zo M T s) (hs : s.size + 50 ≤ 1099511627776) (hk0 : -9223372036854775808 ≤ kx) (hk1 : kx ≤ 9223372036854775807) : Calls Try.prog 4 #[.agg #[va, vb], vt, .string s, .int .i64 kx] w fun e w' => e = .returned (.bool true) ∧ Below w.heap.size w w' := by
  obtain ⟨iN, hiN, hx0, hx1, hx2⟩ := info_parts infoNd
  obtain ⟨W1, hW1⟩ : ∃ W1, W1 = w.alloc (.cells #[va, vb] 25) := ⟨_, rfl⟩
  have HB1 : Hid (Below w.heap.size w W1) := by rw [hW1]; exact bel_up _ _
  have h1 : W1.heap[w.heap.size]? = some (.cells #[va, vb] 25 (0, 0)) := by rw [hW1]; exact heap_new w _
  obtain ⟨lb, hlb⟩ : ∃ lb, w.heap.size = lb := ⟨_, rfl⟩
  have HLBE : Hid (w.heap.size = lb) := hlb
  rw [hlb] at h1
  have HFS : Hid (Ss W1 va F) := hF.up HB1.out
  have HMS : Hid (Pl W1 vb M) := hM.up HB1.out
  have HTS : Hid (Ns W1 vt T) := hT.up HB1.out
  have HZ : Hid (Zf F T s ∧ Zo M T s ∧ s.size + 50 ≤ 1099511627776) := ⟨hz, hy, hs⟩
  obtain ⟨fa, fc, rfl⟩ := hF.form
  obtain ⟨ma, mc, rfl⟩ := hM.form
  obtain ⟨ta, tc, rfl⟩ := hT.form
  obtain ⟨fl, hnf⟩ : ∃ fl, F.length = fl := ⟨_, rfl⟩
  obtain ⟨m, hmm⟩ : ∃ m, M.length = m := ⟨_, rfl⟩
  obtain ⟨n, hnn⟩ : ∃ n, T.length = n := ⟨_, rfl⟩
  have HN : Hid (T.length = n ∧ n * 72 + 4096 ≤ 140737488355328) := ⟨hnn, by have h9 := hz.tl; unfold Sm at h9; rw [hnn] at h9; exact h9⟩
  rw [hnf] at h1 HFS hW1 ⊢
  rw [hmm] at h1 HMS hW1 ⊢
  rw [hnn] at HTS ⊢
  have HLC : Hid (∀ W, Below W1.heap.size W1 W → W.cell? ⟨lb, 0, none⟩ = some (.slice fa fl fc) ∧ W.cell? ⟨lb, 1, none⟩ = some (.slice ma m mc)) := fun W hW => ⟨below_cell hW (rcell h1 0 _ rfl), below_cell hW (rcell h1 1 _ rfl)⟩
  have HBY : Hid _ := beyond_any W1 HTS.out hz.tl
  have HLA : Hid (∀ W, Below W1.heap.size W1 W → Calls Try.prog 10 #[.agg #[.slice fa fl fc, .slice ma m mc]] W fun e w' => ∃ v' u', e = .returned (.agg (lgO v' u')) ∧ Ss w' v' F ∧ Pl w' u' M ∧ Below W.heap.size W w') := fun W hW => lang_any W (HFS.out.up hW) (HMS.out.up hW) HZ.out.1.fl HZ.out.2.1.ml
  have HFO : Hid (∀ (W : World) (vf vm u : Value) (T' : List Nd) (s' : ByteArray), Zf F T' s' → Ss W vf F → Pl W vm M → Ns W u T' → Calls Try.prog 15 #[.agg (lgO vf vm), u, .string s'] W fun e w' => ∃ v, e = .returned v ∧ Fl w' v (fol F T' s') ∧ Below W.heap.size W w') := fun W vf vm u T' s' hz h1 h2 h3 => by
    refine Calls.mono (folds_any s' W h1 h2 h3 hz) ?_
    rintro e w' ⟨v, rfl, ho, hb⟩
    exact ⟨v, rfl, row_rw ho (by decide), hb⟩
  have HSY : Hid (∀ (W : World) (vf vm u : Value) (T' : List Nd) (s' : ByteArray), Zo M T' s' → Ss W vf F → Pl W vm M → Ns W u T' → Calls Try.prog 9 #[.agg (lgO vf vm), u, .string s'] W fun e w' => ∃ v, e = .returned v ∧ Ys w' v (syl M T' s') ∧ Below W.heap.size W w') := fun W vf vm u T' s' hz h1 h2 h3 => by
    refine Calls.mono (symbolsL_any s' W h1 h2 h3 hz) ?_
    rintro e w' ⟨v, rfl, ho, hb⟩
    exact ⟨v, rfl, row_rw ho (by decide), hb⟩
  have HK : Hid (-9223372036854775808 ≤ kx ∧ kx ≤ 9223372036854775807) := ⟨hk0, hk1⟩
  clear hF hM hT hz hy hs hnf hmm hnn h1 hk0 hk1
  go_enter Try.func4, Try.ntmps4
  go_upto_region 1 with fail
  rw [← hW1]
  try rw [hlb]
  clear hW1 hlb
  go_upto_if 20 with (go_at_call 7; refine Calls.mono HBY.out ?_; rintro e w2 ⟨b, rfl, hb2⟩; have HB2 : Hid (Below W1.heap.size W1 w2) := hb2; clear hb2)
  cases b with
  | true =>
    go_wp2_with fail
    go_ret
    exact ⟨rfl, below_trans HB1.out HB2.out⟩
  | false =>
    go_upto_region 5 with (go_at_call 14; refine Calls.mono (awake_any w2) ?_; rintro e w3 ⟨rfl, hb3⟩; have HB3 : Hid (Below W1.heap.size W1 w3) := below_trans HB2.out hb3; clear hb3)
    go_upto_if 24 with fail
    go_cut [3] from 24 to 24 (fun v3 W => ∃ kk : Int, v3 = .int .i64 kk ∧ (0 ≤ kk ∧ kk ≤ 9223372036854775807) ∧ W = w3)
    · by_cases hk : kx < 0
      · have e1 : decide (kx < 0) = true := decide_eq_true hk
        go_wp2_with fail
        go_meet
        exact ⟨0, rfl, ⟨by decide, by decide⟩, rfl⟩
      · have e1 : decide (kx < 0) = false := decide_eq_false hk
        go_wp2_with fail
        go_meet
        exact ⟨kx, rfl, ⟨by omega, HK.out.2⟩, rfl⟩
    case rest =>
      obtain ⟨kk, rfl, hkk, hww⟩ := hcut
      subst hww
      obtain ⟨K, hK1, hK⟩ := tmod_k kk hkk.1
      have hK2 : kk % 50 = (K : Int) := by rw [← hK1, Int.tmod_eq_emod_of_nonneg hkk.1]
      have hK3 : IntKind.i64.wrap (K : Int) = (K : Int) := by rw [IntKind.wrap_i64]; omega
      have HKK : Hid (K < 50) := hK
      obtain ⟨hk0, hk1⟩ := hkk
      clear hK
      go_upto_region 9 with fail
      clear hK1 hK2 hK3 hk0 hk1
      obtain ⟨w3, hw3⟩ : ∃ w3, w3 = wc := ⟨_, rfl⟩
      rw [← hw3] at HB3 ⊢
      clear hw3
      obtain ⟨B, hBs⟩ : ∃ B, w3.heap.size = B := ⟨_, rfl⟩
      have HBS : Hid (w3.heap.size = B) := hBs
      clear hBs
      go_upto_region 10 with fail
      go_loopg [9, 10] n (fun gm v9 v10 wr => ∃ i : Nat, v10 = .int .i64 (i : Int) ∧ Hid (i ≤ n ∧ gm = n - i) ∧ Hid (wr.ownsRow B 50 7 v9 i (flat nf ((T.take i).map (mvk K)))) ∧ Hid (Below B w3 wr) ∧ Hid (∀ j, j < i → okn s (T.getD j ndd)))
      case atStart => exact ⟨0, rfl, ⟨Nat.zero_le _, rfl⟩, World.ownsRow_nil _ _ _ _, Below.refl _ _, fun j hj => absurd hj (Nat.not_lt_zero _)⟩
      case round =>
        obtain ⟨i, rfl, HI, HO, HB, HOK⟩ := hrel
        obtain ⟨wa, hwa⟩ : ∃ wa, wa = wr := ⟨_, rfl⟩
        rw [← hwa] at HO HB ⊢
        clear hwa
        obtain ⟨a9, q9, rfl⟩ := row_shape HO.out
        have HBa : Hid (Below W1.heap.size W1 wa) := below_trans HB3.out (by rw [HBS.out]; exact HB.out)
        by_cases hi : i < n
        · have e1 : decide ((i : Int) < (n : Int)) = true := by rw [decide_eq_true_eq]; omega
          have e2 : decide (i < n) = true := by rw [decide_eq_true_eq]; omega
          have b1 : (i : Int) < (n : Int) := by omega
          have b2 : i < n := hi
          have b3 : (0 : Int) ≤ (i : Int) := by omega
          have HIL : Hid (i < n ∧ i < T.length) := ⟨hi, by rw [HN.out.1]; exact hi⟩
          have hwi := w64n i (by have := HN.out; omega)
          obtain ⟨ng, no, hta, hq⟩ := HTS.out.seven i HIL.out.2
          subst hta
          obtain ⟨y, hy⟩ : ∃ y, T.getD i ndd = y := ⟨_, rfl⟩
          have HY : Hid (T.getD i ndd = y) := hy
          rw [hy] at hq
          obtain ⟨q0, q1, q2, q3, q4, q5, q6⟩ := hq wa HBa.out
          clear hi hy hq
          go_upto_region 13 with fail
          obtain ⟨W4, hW4⟩ : ∃ W4, W4 = wa.alloc (.cells #[.string y.nm, .bool y.nd, .string y.fd, .int .i64 y.fr, .int .i64 y.tt, .int .i64 y.kd, .int .i64 y.lf] 50) := ⟨_, rfl⟩
          rw [← hW4]
          have HB4 : Hid (Below wa.heap.size wa W4) := by rw [hW4]; exact bel_up _ _
          have h4 : W4.heap[wa.heap.size]? = some (.cells #[.string y.nm, .bool y.nd, .string y.fd, .int .i64 y.fr, .int .i64 y.tt, .int .i64 y.kd, .int .i64 y.lf] 50 (0, 0)) := by rw [hW4]; exact heap_new wa _
          clear hW4 q0 q1 q2 q3 q4 q5 q6
          obtain ⟨g, hg⟩ : ∃ g, wa.heap.size = g := ⟨_, rfl⟩
          have HG : Hid (wa.heap.size = g) := hg
          rw [hg] at h4 ⊢
          clear hg
          have HH4 : Hid (W4.heap[g]? = some (.cells #[.string y.nm, .bool y.nd, .string y.fd, .int .i64 y.fr, .int .i64 y.tt, .int .i64 y.kd, .int .i64 y.lf] 50 (0, 0))) := h4
          have q3 : W4.cell? ⟨g, 3, none⟩ = some (.int .i64 y.fr) := rcell h4 3 _ rfl
          have q4 : W4.cell? ⟨g, 4, none⟩ = some (.int .i64 y.tt) := rcell h4 4 _ rfl
          clear h4
          go_cut [53] from 37 to 53 (fun v53 W => v53 = .bool (decide (y.fr < 0) || decide (y.tt < y.fr) || decide ((s.size : Int) < y.tt)) ∧ W = W4)
          · by_cases k1 : y.fr < 0
            · have d1 : decide (y.fr < 0) = true := decide_eq_true k1
              go_wp2_with fail
              all_goals (go_meet; exact ⟨by rw [d1]; rfl, rfl⟩)
            · have d1 : decide (y.fr < 0) = false := decide_eq_false k1
              by_cases k2 : y.tt < y.fr
              · have d2 : decide (y.tt < y.fr) = true := decide_eq_true k2
                go_wp2_with fail
                all_goals (go_meet; exact ⟨by rw [d1, d2]; rfl, rfl⟩)
              · have d2 : decide (y.tt < y.fr) = false := decide_eq_false k2
                go_wp2_with fail
                all_goals (go_meet; exact ⟨by rw [d1, d2]; rfl, rfl⟩)
          case rest =>
            obtain ⟨rfl, hwc⟩ := hcut
            subst hwc
            obtain ⟨w4, hw4⟩ : ∃ w4, w4 = wc := ⟨_, rfl⟩
            rw [← hw4] at HB4 HH4 q3 q4 ⊢
            clear hw4
            have HBw4 : Hid (Below W1.heap.size W1 w4) := below_trans HBa.out HB4.out
            by_cases hok : okn s y
            · have d1 : (decide (y.fr < 0) || decide (y.tt < y.fr) || decide ((s.size : Int) < y.tt)) = false := by
                obtain ⟨k1, k2, k3⟩ := hok
                rw [decide_eq_false (by omega : ¬ y.fr < 0), decide_eq_false (by omega : ¬ y.tt < y.fr), decide_eq_false (by omega : ¬ (s.size : Int) < y.tt)]; rfl
              have HOKY : Hid (okn s y) := hok
              obtain ⟨fr', hfr'⟩ : ∃ x, y.fr + (K : Int) = x := ⟨_, rfl⟩
              obtain ⟨tt', htt'⟩ : ∃ x, y.tt + (K : Int) = x := ⟨_, rfl⟩
              have HFT : Hid (y.fr + (K : Int) = fr' ∧ y.tt + (K : Int) = tt') := ⟨hfr', htt'⟩
              have z1 : IntKind.i64.wrap (y.fr + (K : Int)) = fr' := by
                obtain ⟨k1, k2, k3⟩ := hok
                have := HKK.out; have := HZ.out.2.2
                rw [IntKind.wrap_i64]; omega
              have z2 : IntKind.i64.wrap (y.tt + (K : Int)) = tt' := by
                obtain ⟨k1, k2, k3⟩ := hok
                have := HKK.out; have := HZ.out.2.2
                rw [IntKind.wrap_i64]; omega
              clear hok hfr' htt'
              rw [d1]
              clear d1
              have HQ4 : Hid (w4.cell? ⟨g, 4, none⟩ = some (.int .i64 y.tt)) := q4
              have hh4 := HH4.out
              have fz4 := Lib.frozen_of_heap hh4 3
              clear hh4 q4
              go_upto_region 16 with fail
              obtain ⟨w5, hw5⟩ : ∃ w5, w5 = w4.setCell ⟨g, 3, none⟩ (.int .i64 fr') := ⟨_, rfl⟩
              rw [← hw5]
              have HH5 : Hid (w5.heap[g]? = some (.cells #[.string y.nm, .bool y.nd, .string y.fd, .int .i64 fr', .int .i64 y.tt, .int .i64 y.kd, .int .i64 y.lf] 50 (0, 0))) := by rw [hw5]; exact blk_set _ HH4.out
              have HB5 : Hid (Below wa.heap.size wa w5) := by rw [hw5]; exact Below.setCell HB4.out (Nat.le_of_eq HG.out) _
              clear hw5 q3 fz4 z1
              have q4 : w5.cell? ⟨g, 4, none⟩ = some (.int .i64 y.tt) := rcell HH5.out 4 _ rfl
              have hh5 := HH5.out
              have fz5 := Lib.frozen_of_heap hh5 4
              clear hh5
              go_upto_region 17 with fail
              obtain ⟨w6, hw6⟩ : ∃ w6, w6 = w5.setCell ⟨g, 4, none⟩ (.int .i64 tt') := ⟨_, rfl⟩
              rw [← hw6]
              have HH6 : Hid (w6.heap[g]? = some (.cells #[.string y.nm, .bool y.nd, .string y.fd, .int .i64 fr', .int .i64 tt', .int .i64 y.kd, .int .i64 y.lf] 50 (0, 0))) := by rw [hw6]; exact blk_set _ HH5.out
              have HB6 : Hid (Below wa.heap.size wa w6) := by rw [hw6]; exact Below.setCell HB5.out (Nat.le_of_eq HG.out) _
              clear hw6 q4 fz5 z2
              have q0 : w6.cell? ⟨g, 0, none⟩ = some (.string y.nm) := rcell HH6.out 0 _ rfl
              have q1 : w6.cell? ⟨g, 1, none⟩ = some (.bool y.nd) := rcell HH6.out 1 _ rfl
              have q2 : w6.cell? ⟨g, 2, none⟩ = some (.string y.fd) := rcell HH6.out 2 _ rfl
              have q3 : w6.cell? ⟨g, 3, none⟩ = some (.int .i64 fr') := rcell HH6.out 3 _ rfl
              have q4 : w6.cell? ⟨g, 4, none⟩ = some (.int .i64 tt') := rcell HH6.out 4 _ rfl
              have q5 : w6.cell? ⟨g, 5, none⟩ = some (.int .i64 y.kd) := rcell HH6.out 5 _ rfl
              have q6 : w6.cell? ⟨g, 6, none⟩ = some (.int .i64 y.lf) := rcell HH6.out 6 _ rfl
              have HNF : Hid (nf (mvk K y) = [.string y.nm, .bool y.nd, .string y.fd, .int .i64 fr', .int .i64 tt', .int .i64 y.kd, .int .i64 y.lf]) := by
                show _ = _
                unfold nf mvk
                rw [HFT.out.1, HFT.out.2]
              have HMX : Hid (i + 1 ≤ maxLen ∧ (i + 1) * 72 ≤ 140737488355328) := by have := HN.out.2; have := HIL.out.1; show _ ∧ _; unfold maxLen; omega
              have HR6 : Hid (w6.ownsRow B 50 7 (.slice a9 i q9) i (flat nf ((T.take i).map (mvk K)))) := row_up HO.out HB6.out
              have HBW : Hid (B ≤ wa.heap.size) := by have := HB.out.size; have := HBS.out; show _ ≤ _; omega
              have HBB6 : Hid (Below B w3 w6) := HB.out.trans (HB6.out.mono HBW.out)
              have HX1 : Hid (flat nf ((T.take (i + 1)).map (mvk K)) = flat nf ((T.take i).map (mvk K)) ++ [.string y.nm, .bool y.nd, .string y.fd, .int .i64 fr', .int .i64 tt', .int .i64 y.kd, .int .i64 y.lf]) := by
                show _ = _
                rw [take_nd T i HIL.out.2, List.map_append, flat_app, HY.out, ← HNF.out, List.map_cons, List.map_nil]
                show _ ++ (nf (mvk K y) ++ []) = _
                rw [List.append_nil]
              obtain ⟨xs, hxs⟩ : ∃ xs, flat nf ((T.take i).map (mvk K)) = xs := ⟨_, rfl⟩
              have HXS : Hid (flat nf ((T.take i).map (mvk K)) = xs) := hxs
              rw [hxs] at HR6 HX1
              clear hxs
              go_wp2_with (at_builtin; refine wpList_append_own_at _ rfl _ _ 26 rfl B 50 iN _ 7 72 Try.underlying26 hiN hx0 hx1 hx2 rfl (by decide) (.slice a9 i q9) i xs rfl (row_up HR6.out (bel_up _ _)) ⟨w6.heap.size, 0, none⟩ 1 1 [.string y.nm, .bool y.nd, .string y.fd, .int .i64 fr', .int .i64 tt', .int .i64 y.kd, .int .i64 y.lf] rfl rfl (World.news_of_block (heap_new _ _)) (fun u hu => by rw [← HNF.out] at hu; exact nf_one _ u hu) HMX.out.1 HMX.out.2 (by have := HBB6.out.size; have := HBS.out; simp; omega) ?_; intro v7 w7 ho7 hg7 _ _; have HO7 : Hid (w7.ownsRow B 50 7 v7 (i + 1) (flat nf ((T.take (i + 1)).map (mvk K)))) := (by rw [HX1.out]; exact ho7); have HB7 : Hid (Below B w3 w7) := (HBB6.out.alloc (by have := HBB6.out.size; have := HBS.out; omega) _).grown hg7 (by have := HBB6.out.size; have := HBS.out; simp; omega) (fun r e' => (row_tag HR6.out r e').1); clear ho7 hg7)
              go_roundg (n - (i + 1))
              case measure => have := HI.out; have := HIL.out; omega
              case rel => exact ⟨i + 1, by simp, ⟨HIL.out.1, rfl⟩, HO7, HB7, fun j hj => by
                rcases Nat.lt_succ_iff_lt_or_eq.1 hj with h1 | rfl
                · exact HOK.out j h1
                · rw [HY.out]; exact HOKY.out⟩
            · have d1 : (decide (y.fr < 0) || decide (y.tt < y.fr) || decide ((s.size : Int) < y.tt)) = true := by
                by_cases k1 : y.fr < 0
                · rw [decide_eq_true k1]; rfl
                · by_cases k2 : y.tt < y.fr
                  · rw [decide_eq_true k2, Bool.or_true]; rfl
                  · have k3 : (s.size : Int) < y.tt := by
                      have : ¬ (0 ≤ y.fr ∧ y.fr ≤ y.tt ∧ y.tt ≤ (s.size : Int)) := hok
                      omega
                    rw [decide_eq_true k3, Bool.or_true]
              have HLI : Hid (lie T s.size = false) := okn_bad HIL.out.2 (by rw [HY.out]; exact hok)
              have HF0 : Hid (∀ (W : World) (vf vm : Value), Below W1.heap.size W1 W → Ss W vf F → Pl W vm M → Calls Try.prog 15 #[.agg (lgO vf vm), .slice (some ⟨ng, no, none⟩) n tc, .string s] W fun e w' => ∃ a c, e = .returned (.slice a 0 c) ∧ Below W.heap.size W w') := fun W vf vm hW h1 h2 => by
                refine Calls.mono (HFO.out W vf vm _ T s HZ.out.1 h1 h2 (HTS.out.up hW)) ?_
                rintro e w' ⟨v, rfl, ho, hb⟩
                rw [fol_no (rgt_bad HLI.out)] at ho
                obtain ⟨a, c, rfl⟩ := ho.form
                exact ⟨a, c, rfl, hb⟩
              have HS0 : Hid (∀ (W : World) (vf vm : Value), Below W1.heap.size W1 W → Ss W vf F → Pl W vm M → Calls Try.prog 9 #[.agg (lgO vf vm), .slice (some ⟨ng, no, none⟩) n tc, .string s] W fun e w' => ∃ a c, e = .returned (.slice a 0 c) ∧ Below W.heap.size W w') := fun W vf vm hW h1 h2 => by
                refine Calls.mono (HSY.out W vf vm _ T s HZ.out.2.1 h1 h2 (HTS.out.up hW)) ?_
                rintro e w' ⟨v, rfl, ho, hb⟩
                have e9 : syl M T s = [] := by unfold syl; rw [rgt_bad HLI.out]; rfl
                rw [e9] at ho
                obtain ⟨a, c, rfl⟩ := ho.form
                exact ⟨a, c, rfl, hb⟩
              rw [d1]
              clear d1 hok q3 q4 hwi e1 e2 b1 b2 b3
              obtain ⟨c0, c1⟩ := HLC.out w4 HBw4.out
              go_upto_region 15 with first | (go_at_call 10; refine Calls.mono (HLA.out w4 HBw4.out) ?_; rintro e w5 ⟨v5, u5, rfl, hs5, hp5, hb5⟩; have HS5 : Hid (Ss w5 v5 F ∧ Pl w5 u5 M) := ⟨hs5, hp5⟩; have HB5 : Hid (Below W1.heap.size W1 w5) := below_trans HBw4.out hb5; clear hs5 hp5 hb5) | (go_at_call 15; refine Calls.mono (HF0.out w5 v5 u5 HB5.out HS5.out.1 HS5.out.2) ?_; rintro e w6 ⟨a6, k6, rfl, hb6⟩; have HB6 : Hid (Below W1.heap.size W1 w6) := below_trans HB5.out hb6; clear hb6; obtain ⟨c2, c3⟩ := HLC.out w6 HB6.out) | (go_at_call 10; refine Calls.mono (HLA.out w6 HB6.out) ?_; rintro e w7 ⟨v7, u7, rfl, hs7, hp7, hb7⟩; have HS7 : Hid (Ss w7 v7 F ∧ Pl w7 u7 M) := ⟨hs7, hp7⟩; have HB7 : Hid (Below W1.heap.size W1 w7) := below_trans HB6.out hb7; clear hs7 hp7 hb7) | (go_at_call 9; refine Calls.mono (HS0.out w7 v7 u7 HB7.out HS7.out.1 HS7.out.2) ?_; rintro e w8 ⟨a8, k8, rfl, hb8⟩; have HB8 : Hid (Below W1.heap.size W1 w8) := below_trans HB7.out hb8; clear hb8)
              go_ret
              exact ⟨rfl, below_trans HB1.out HB8.out⟩
        · have e1 : decide ((i : Int) < (n : Int)) = false := by rw [decide_eq_false_iff_not]; omega
          have e2 : decide (i < n) = false := by rw [decide_eq_false_iff_not]; omega
          have hin : n = i := by have := HI.out; omega
          subst hin
          have hTn : T.take n = T := by rw [← HN.out.1]; exact List.take_length
          have HMV : Hid (Ns wa (.slice a9 n q9) (T.map (mvk K))) := by
            have h9 := HO.out
            rw [hTn] at h9
            have h8 := row_rw h9 (by decide)
            show Rw _ _ _ _
            rw [List.length_map, HN.out.1]
            exact h8
          have HLI : Hid (lie T s.size = true) := lie_all (fun j hj => HOK.out j (by rw [HN.out.1] at hj; exact hj))
          obtain ⟨x, hx⟩ : ∃ x, nle K = x := ⟨_, rfl⟩
          obtain ⟨s', hs'⟩ : ∃ s', nlk K s = s' := ⟨_, rfl⟩
          have hxs : x ++ s = s' := by rw [← hx, ← hs']; exact nle_app K s
          have HXS : Hid (x ++ s = s') := hxs
          have hxz : x.size ≤ 50 := by rw [← hx, nle_size]; have := HKK.out; omega
          have hsz : s.size ≤ 1099511627776 := by have := HZ.out.2.2; omega
          have HLE : Hid (∀ W : World, Calls Try.prog 16 #[.int .i64 (K : Int)] W fun e w' => e = .returned (.string x) ∧ Below W.heap.size W w') := fun W => by rw [← hx]; exact lends_any K HKK.out W
          have HZ1 : Hid (Zf F (T.map (mvk K)) s' ∧ Zo M (T.map (mvk K)) s') := by
            have h8 : s.size + K ≤ 1099511627776 := by have := HZ.out.2.2; have := HKK.out; omega
            rw [← hs']
            exact ⟨HZ.out.1.mvk h8, HZ.out.2.1.mvk h8⟩
          obtain ⟨L, hL⟩ : ∃ L, fol F T s = L := ⟨_, rfl⟩
          obtain ⟨Y, hY⟩ : ∃ Y, syl M T s = Y := ⟨_, rfl⟩
          have HLB : Hid (∀ x ∈ L, x.1 ≤ s.size + 1 ∧ x.2 ≤ s.size + 1) := by rw [← hL]; exact fol_lt
          have HYB : Hid (∀ x ∈ Y, 0 ≤ x.fr ∧ x.fr ≤ (s.size : Int) ∧ 0 ≤ x.tt ∧ x.tt ≤ (s.size : Int)) := by rw [← hY]; exact syl_lt
          have HL2 : Hid (fol F (T.map (mvk K)) s' = L.map fun x => ((x.1 + K, x.2 + K) : Fd)) := by show _ = _; rw [← hs', ← hL]; exact fol_mvk HLI.out K
          have HY2 : Hid (syl M (T.map (mvk K)) s' = Y.map fun y => (⟨y.nm, y.cl, y.fr + K, y.tt + K, y.dp⟩ : Sy)) := by show _ = _; rw [← hs', ← hY]; exact syl_mvk HLI.out K
          obtain ⟨p, hp⟩ : ∃ p, L.length = p := ⟨_, rfl⟩
          obtain ⟨q, hq⟩ : ∃ q, Y.length = q := ⟨_, rfl⟩
          have HPQ : Hid (L.length = p ∧ Y.length = q ∧ p < 9223372036854775807 ∧ q < 9223372036854775807) := ⟨hp, hq, by have := fol_len F T s; rw [hL] at this; omega, by have := syl_len M T s; rw [hY] at this; have := HN.out; omega⟩
          have HCA : Hid (∀ (W : World) (vf vm : Value), Below wa.heap.size wa W → Ss W vf F → Pl W vm M → Calls Try.prog 15 #[.agg (lgO vf vm), .slice ta n tc, .string s] W fun e w' => ∃ a c, e = .returned (.slice a p c) ∧ Fl w' (.slice a p c) L ∧ Below W.heap.size W w') := fun W vf vm hW h1 h2 => by
            refine Calls.mono (HFO.out W vf vm _ T s HZ.out.1 h1 h2 (HTS.out.up (below_trans HBa.out hW))) ?_
            rintro e w' ⟨v, rfl, ho, hb⟩
            rw [hL] at ho
            obtain ⟨a, c, rfl⟩ := ho.form
            rw [hp] at ho ⊢
            exact ⟨a, c, rfl, ho, hb⟩
          have HCB : Hid (∀ (W : World) (vf vm : Value), Below wa.heap.size wa W → Ss W vf F → Pl W vm M → Calls Try.prog 15 #[.agg (lgO vf vm), .slice a9 n q9, .string s'] W fun e w' => ∃ a c, e = .returned (.slice a p c) ∧ Fl w' (.slice a p c) (L.map fun x => ((x.1 + K, x.2 + K) : Fd)) ∧ Below W.heap.size W w') := fun W vf vm hW h1 h2 => by
            refine Calls.mono (HFO.out W vf vm _ (T.map (mvk K)) s' HZ1.out.1 h1 h2 (HMV.out.up hW)) ?_
            rintro e w' ⟨v, rfl, ho, hb⟩
            rw [HL2.out] at ho
            obtain ⟨a, c, rfl⟩ := ho.form
            rw [List.length_map, hp] at ho ⊢
            exact ⟨a, c, rfl, ho, hb⟩
          have HCC : Hid (∀ (W : World) (vf vm : Value), Below wa.heap.size wa W → Ss W vf F → Pl W vm M → Calls Try.prog 9 #[.agg (lgO vf vm), .slice ta n tc, .string s] W fun e w' => ∃ a c, e = .returned (.slice a q c) ∧ Ys w' (.slice a q c) Y ∧ Below W.heap.size W w') := fun W vf vm hW h1 h2 => by
            refine Calls.mono (HSY.out W vf vm _ T s HZ.out.2.1 h1 h2 (HTS.out.up (below_trans HBa.out hW))) ?_
            rintro e w' ⟨v, rfl, ho, hb⟩
            rw [hY] at ho
            obtain ⟨a, c, rfl⟩ := ho.form
            rw [hq] at ho ⊢
            exact ⟨a, c, rfl, ho, hb⟩
          have HCD : Hid (∀ (W : World) (vf vm : Value), Below wa.heap.size wa W → Ss W vf F → Pl W vm M → Calls Try.prog 9 #[.agg (lgO vf vm), .slice a9 n q9, .string s'] W fun e w' => ∃ a c, e = .returned (.slice a q c) ∧ Ys w' (.slice a q c) (Y.map fun y => (⟨y.nm, y.cl, y.fr + K, y.tt + K, y.dp⟩ : Sy)) ∧ Below W.heap.size W w') := fun W vf vm hW h1 h2 => by
            refine Calls.mono (HSY.out W vf vm _ (T.map (mvk K)) s' HZ1.out.2 h1 h2 (HMV.out.up hW)) ?_
            rintro e w' ⟨v, rfl, ho, hb⟩
            rw [HY2.out] at ho
            obtain ⟨a, c, rfl⟩ := ho.form
            rw [List.length_map, hq] at ho ⊢
            exact ⟨a, c, rfl, ho, hb⟩
          clear hTn hx hs' hL hY hp hq hi
          have HXZ : Hid (x.size ≤ 50 ∧ s.size ≤ 1099511627776) := ⟨hxz, hsz⟩
          clear hxz hsz hxs
          obtain ⟨c0, c1⟩ := HLC.out wa HBa.out
          go_upto_region 19 with first | (go_at_call 10; refine Calls.mono (HLA.out wa HBa.out) ?_; rintro e wb ⟨vb, ub, rfl, hsb, hpb, hbb⟩; have HSb : Hid (Ss wb vb F ∧ Pl wb ub M) := ⟨hsb, hpb⟩; have HBb : Hid (Below wa.heap.size wa wb) := hbb; clear hsb hpb hbb) | (go_at_call 15; refine Calls.mono (HCA.out wb vb ub HBb.out HSb.out.1 HSb.out.2) ?_; rintro e wc' ⟨ra, ka, rfl, hya, hbc⟩; have HYA : Hid (Fl wc' (.slice ra p ka) L) := hya; have HBc : Hid (Below wa.heap.size wa wc') := below_trans HBb.out hbc; clear hya hbc)
          clear c0 c1
          obtain ⟨c0, c1⟩ := HLC.out wc' (below_trans HBa.out HBc.out)
          have hxs := HXS.out
          have hxz := HXZ.out.1
          have hsz := HXZ.out.2
          go_upto_region 20 with first | (go_at_call 10; refine Calls.mono (HLA.out wc' (below_trans HBa.out HBc.out)) ?_; rintro e wd ⟨vd, ud, rfl, hsd, hpd, hbd⟩; have HSd : Hid (Ss wd vd F ∧ Pl wd ud M) := ⟨hsd, hpd⟩; have HBd : Hid (Below wc'.heap.size wc' wd) := hbd; clear hsd hpd hbd) | (go_at_call 16; refine Calls.mono (HLE.out wd) ?_; rintro e we ⟨rfl, hbe⟩; have HBde : Hid (Below wd.heap.size wd we) := hbe; have HBe : Hid (Below wc'.heap.size wc' we) := below_trans HBd.out hbe; clear hbe) | (go_at_call 15; refine Calls.mono (HCB.out we vd ud (below_trans HBc.out HBe.out) (HSd.out.1.up HBde.out) (HSd.out.2.up HBde.out)) ?_; rintro e wf ⟨rb, kb, rfl, hyb, hbf⟩; have HYBF : Hid (Fl wf (.slice rb p kb) (L.map fun x => ((x.1 + K, x.2 + K) : Fd))) := hyb; have HBf : Hid (Below wc'.heap.size wc' wf) := below_trans HBe.out hbf; clear hyb hbf)
          clear c0 c1 hxs hxz hsz
          have HBaf : Hid (Below wa.heap.size wa wf) := below_trans HBc.out HBf.out
          obtain ⟨c0, c1⟩ := HLC.out wf (below_trans HBa.out HBaf.out)
          go_upto_region 21 with first | (go_at_call 10; refine Calls.mono (HLA.out wf (below_trans HBa.out HBaf.out)) ?_; rintro e wg ⟨vg, ug, rfl, hsg, hpg, hbg⟩; have HSg : Hid (Ss wg vg F ∧ Pl wg ug M) := ⟨hsg, hpg⟩; have HBg : Hid (Below wf.heap.size wf wg) := hbg; clear hsg hpg hbg) | (go_at_call 9; refine Calls.mono (HCC.out wg vg ug (below_trans HBaf.out HBg.out) HSg.out.1 HSg.out.2) ?_; rintro e wh ⟨rc, kc, rfl, hyc, hbh⟩; have HYC : Hid (Ys wh (.slice rc q kc) Y) := hyc; have HBh : Hid (Below wf.heap.size wf wh) := below_trans HBg.out hbh; clear hyc hbh)
          clear c0 c1
          have HBah : Hid (Below wa.heap.size wa wh) := below_trans HBaf.out HBh.out
          obtain ⟨c0, c1⟩ := HLC.out wh (below_trans HBa.out HBah.out)
          have hxs := HXS.out
          have hxz := HXZ.out.1
          have hsz := HXZ.out.2
          go_upto_region 22 with first | (go_at_call 10; refine Calls.mono (HLA.out wh (below_trans HBa.out HBah.out)) ?_; rintro e wi ⟨vi, ui, rfl, hsi, hpi, hbi⟩; have HSi : Hid (Ss wi vi F ∧ Pl wi ui M) := ⟨hsi, hpi⟩; have HBi : Hid (Below wh.heap.size wh wi) := hbi; clear hsi hpi hbi) | (go_at_call 16; refine Calls.mono (HLE.out wi) ?_; rintro e wj ⟨rfl, hbj⟩; have HBij : Hid (Below wi.heap.size wi wj) := hbj; have HBj : Hid (Below wh.heap.size wh wj) := below_trans HBi.out hbj; clear hbj) | (go_at_call 9; refine Calls.mono (HCD.out wj vi ui (below_trans HBah.out HBj.out) (HSi.out.1.up HBij.out) (HSi.out.2.up HBij.out)) ?_; rintro e wk ⟨rd, kd, rfl, hyd, hbk⟩; have HYD : Hid (Ys wk (.slice rd q kd) (Y.map fun y => (⟨y.nm, y.cl, y.fr + K, y.tt + K, y.dp⟩ : Sy))) := hyd; have HBk : Hid (Below wh.heap.size wh wk) := below_trans HBj.out hbk; clear hyd hbk)
          clear c0 c1 hxs hxz hsz
          have HWK : Hid (Below w.heap.size w wk) := below_trans HB1.out (below_trans HBa.out (below_trans HBah.out HBk.out))
          have HYA2 : Hid (Fl wk (.slice ra p ka) L) := HYA.out.up (below_trans HBf.out (below_trans HBh.out HBk.out))
          have HYB2 : Hid (Fl wk (.slice rb p kb) (L.map fun x => ((x.1 + K, x.2 + K) : Fd))) := HYBF.out.up (below_trans HBh.out HBk.out)
          have HYC2 : Hid (Ys wk (.slice rc q kc) Y) := HYC.out.up HBk.out
          have f1 : ((p : Int) != (p : Int)) = false := by simp
          have f2 : ((q : Int) != (q : Int)) = false := by simp
          go_upto_region 25 with fail
          clear f1 f2
          go_loopg [16] p (fun gm v16 wr => ∃ i : Nat, v16 = .int .i64 (i : Int) ∧ Hid (i ≤ p ∧ gm = p - i) ∧ Hid (Below wk.heap.size wk wr))
          case atStart => exact ⟨0, rfl, ⟨Nat.zero_le _, rfl⟩, Below.refl _ _⟩
          case round =>
            obtain ⟨i, rfl, HJ, HC⟩ := hrel
            obtain ⟨wm, hwm⟩ : ∃ wm, wm = wr := ⟨_, rfl⟩
            rw [← hwm] at HC ⊢
            clear hwm
            by_cases hi : i < p
            · have e3 : decide ((i : Int) < (p : Int)) = true := by rw [decide_eq_true_eq]; omega
              have e4 : decide (i < p) = true := by rw [decide_eq_true_eq]; omega
              have b1 : (i : Int) < (p : Int) := by omega
              have b2 : i < p := hi
              have b3 : (0 : Int) ≤ (i : Int) := by omega
              have HIP : Hid (i < p) := hi
              have hwi := w64n i (by have := HPQ.out; omega)
              obtain ⟨g1, o1, rfl, hc1⟩ := HYA2.out.two i (by rw [HPQ.out.1]; exact hi)
              obtain ⟨g2, o2, rfl, hc2⟩ := HYB2.out.two i (by rw [List.length_map, HPQ.out.1]; exact hi)
              rw [map_getDf L K i (by rw [HPQ.out.1]; exact hi)] at hc2
              have hxb := HLB.out _ (mem_getDf L i (by rw [HPQ.out.1]; exact hi))
              obtain ⟨fx, hfx⟩ : ∃ fx, L.getD i fdz = fx := ⟨_, rfl⟩
              rw [hfx] at hc1 hc2 hxb
              obtain ⟨y1, y2⟩ := fx
              dsimp only at hc1 hc2 hxb
              obtain ⟨z1, hz1⟩ : ∃ z1, y1 + K = z1 := ⟨_, rfl⟩
              obtain ⟨z2, hz2⟩ : ∃ z2, y2 + K = z2 := ⟨_, rfl⟩
              have hw1 : IntKind.i64.wrap ((y1 : Int) + (K : Int)) = (z1 : Int) := by have := HXZ.out; have := HKK.out; rw [IntKind.wrap_i64]; omega
              have hw2 : IntKind.i64.wrap ((y2 : Int) + (K : Int)) = (z2 : Int) := by have := HXZ.out; have := HKK.out; rw [IntKind.wrap_i64]; omega
              rw [hz1, hz2] at hc2
              have HC1 : Hid _ := hc1
              have HC2 : Hid _ := hc2
              have hE : ∀ W : World, (Op.equalIn 10000 57 (.agg #[.int .i64 (z1 : Int), .int .i64 (z2 : Int)]) (.agg #[.int .i64 (z1 : Int), .int .i64 (z2 : Int)])).run Try.prog W = .ok true W := equal_fd (z1, z2)
              have HD : Hid (Below wk.heap.size wk wm.drew) := HC.out.drew
              clear hi hfx hz1 hz2 hc1 hc2 hxb
              go_upto_region 27 with fail
              refine wp_region_noPanic ?_
              refine wp_region_held_drew (S := fun W => Below wk.heap.size wk W) (by kernel_rfl) HD.out (fun hHeld => ?_)
              refine wpAnyH_take (i := 0) (oi := { dst := _, op := _, type := _, pos := _, after := _, guard := _ }) (v := ?_) rfl (by kernel_rfl) (by kernel_rfl) (by kernel_rfl) (fun _ _ _ h => h) (Or.inl ⟨by rfl, ?_⟩) (by assumption) ?_
              rotate_left
              · intro W hSw
                (try dsimp only at hSw)
                go_simp
                (try with_reducible rfl)
              try simp only [Act.put, List.setIfInBounds_toArray, List.set_cons_zero, List.set_cons_succ]
              refine wpAnyH_take (i := 1) (oi := { dst := _, op := _, type := _, pos := _, after := _, guard := _ }) (v := ?_) rfl (by kernel_rfl) (by kernel_rfl) (by kernel_rfl) (fun _ _ _ h => h) (Or.inl ⟨by rfl, ?_⟩) (by assumption) ?_
              rotate_left
              · intro W hSw
                (try dsimp only at hSw)
                go_simp
                (try with_reducible rfl)
              try simp only [Act.put, List.setIfInBounds_toArray, List.set_cons_zero, List.set_cons_succ]
              refine wpAnyH_take (i := 2) (oi := { dst := _, op := _, type := _, pos := _, after := _, guard := _ }) (v := ?_) rfl (by kernel_rfl) (by kernel_rfl) (by kernel_rfl) (fun _ _ _ h => h) (Or.inl ⟨by rfl, ?_⟩) (by assumption) ?_
              rotate_left
              · intro W hSw
                (try dsimp only at hSw)
                go_simp
                (try with_reducible rfl)
              try simp only [Act.put, List.setIfInBounds_toArray, List.set_cons_zero, List.set_cons_succ]
              refine wpAnyH_take (i := 3) (oi := { dst := _, op := _, type := _, pos := _, after := _, guard := _ }) (v := ?_) rfl (by kernel_rfl) (by kernel_rfl) (by kernel_rfl) (fun _ _ _ h => h) (Or.inl ⟨by rfl, ?_⟩) (by assumption) ?_
              rotate_left
              · intro W hSw
                (try dsimp only at hSw)
                obtain ⟨s2, s3⟩ := HC2.out W hSw
                go_simp
                (try with_reducible rfl)
              try simp only [Act.put, List.setIfInBounds_toArray, List.set_cons_zero, List.set_cons_succ]
              refine wpAnyH_take (i := 4) (oi := { dst := _, op := _, type := _, pos := _, after := _, guard := _ }) (v := ?_) rfl (by kernel_rfl) (by kernel_rfl) (by kernel_rfl) (fun _ _ _ h => h) (Or.inl ⟨by rfl, ?_⟩) (by assumption) ?_
              rotate_left
              · intro W hSw
                (try dsimp only at hSw)
                go_simp
                (try with_reducible rfl)
              try simp only [Act.put, List.setIfInBounds_toArray, List.set_cons_zero, List.set_cons_succ]
              refine wpAnyH_take (i := 5) (oi := { dst := _, op := _, type := _, pos := _, after := _, guard := _ }) (v := ?_) rfl (by kernel_rfl) (by kernel_rfl) (by kernel_rfl) (fun _ _ _ h => h) (Or.inl ⟨by rfl, ?_⟩) (by assumption) ?_
              rotate_left
              · intro W hSw
                (try dsimp only at hSw)
                go_simp
                (try with_reducible rfl)
              try simp only [Act.put, List.setIfInBounds_toArray, List.set_cons_zero, List.set_cons_succ]
              refine wpAnyH_take (i := 6) (oi := { dst := _, op := _, type := _, pos := _, after := _, guard := _ }) (v := ?_) rfl (by kernel_rfl) (by kernel_rfl) (by kernel_rfl) (fun _ _ _ h => h) (Or.inl ⟨by rfl, ?_⟩) (by assumption) ?_
              rotate_left
              · intro W hSw
                (try dsimp only at hSw)
                go_simp
                (try with_reducible rfl)
              try simp only [Act.put, List.setIfInBounds_toArray, List.set_cons_zero, List.set_cons_succ]
              refine wpAnyH_take (i := 7) (oi := { dst := _, op := _, type := _, pos := _, after := _, guard := _ }) (v := ?_) rfl (by kernel_rfl) (by kernel_rfl) (by kernel_rfl) (fun _ _ _ h => h) (Or.inl ⟨by rfl, ?_⟩) (by assumption) ?_
              rotate_left
              · intro W hSw
                (try dsimp only at hSw)
                go_simp
                (try with_reducible rfl)
              try simp only [Act.put, List.setIfInBounds_toArray, List.set_cons_zero, List.set_cons_succ]
              refine wpAnyH_take (i := 8) (oi := { dst := _, op := _, type := _, pos := _, after := _, guard := _ }) (v := ?_) rfl (by kernel_rfl) (by kernel_rfl) (by kernel_rfl) (fun _ _ _ h => h) (Or.inl ⟨by rfl, ?_⟩) (by assumption) ?_
              rotate_left
              · intro W hSw
                (try dsimp only at hSw)
                obtain ⟨s0, s1⟩ := HC1.out W hSw
                go_simp
                (try with_reducible rfl)
              try simp only [Act.put, List.setIfInBounds_toArray, List.set_cons_zero, List.set_cons_succ]
              refine wpAnyH_take (i := 9) (oi := { dst := _, op := _, type := _, pos := _, after := _, guard := _ }) (v := ?_) rfl (by kernel_rfl) (by kernel_rfl) (by kernel_rfl) (fun _ _ _ h => h) (Or.inl ⟨by rfl, ?_⟩) (by assumption) ?_
              rotate_left
              · intro W hSw
                (try dsimp only at hSw)
                go_simp
                (try with_reducible rfl)
              try simp only [Act.put, List.setIfInBounds_toArray, List.set_cons_zero, List.set_cons_succ]
              refine wpAnyH_take (i := 10) (oi := { dst := _, op := _, type := _, pos := _, after := _, guard := _ }) (v := ?_) rfl (by kernel_rfl) (by kernel_rfl) (by kernel_rfl) (fun _ _ _ h => h) (Or.inl ⟨by rfl, ?_⟩) (by assumption) ?_
              rotate_left
              · intro W hSw
                (try dsimp only at hSw)
                go_simp
                (try with_reducible rfl)
              try simp only [Act.put, List.setIfInBounds_toArray, List.set_cons_zero, List.set_cons_succ]
              refine wpAnyH_take (i := 11) (oi := { dst := _, op := _, type := _, pos := _, after := _, guard := _ }) (v := ?_) rfl (by kernel_rfl) (by kernel_rfl) (by kernel_rfl) (fun _ _ _ h => h) (Or.inl ⟨by rfl, ?_⟩) (by assumption) ?_
              rotate_left
              · intro W hSw
                (try dsimp only at hSw)
                go_simp
                (try with_reducible rfl)
              try simp only [Act.put, List.setIfInBounds_toArray, List.set_cons_zero, List.set_cons_succ]
              refine wpAnyH_take (i := 12) (oi := { dst := _, op := _, type := _, pos := _, after := _, guard := _ }) (v := ?_) rfl (by kernel_rfl) (by kernel_rfl) (by kernel_rfl) (fun _ _ _ h => h) (Or.inl ⟨by rfl, ?_⟩) (by assumption) ?_
              rotate_left
              · intro W hSw
                (try dsimp only at hSw)
                go_simp
                (try with_reducible rfl)
              try simp only [Act.put, List.setIfInBounds_toArray, List.set_cons_zero, List.set_cons_succ]
              refine wpAnyH_take (i := 13) (oi := { dst := _, op := _, type := _, pos := _, after := _, guard := _ }) (v := ?_) rfl (by kernel_rfl) (by kernel_rfl) (by kernel_rfl) (fun _ _ _ h => h) (Or.inl ⟨by rfl, ?_⟩) (by assumption) ?_
              rotate_left
              · intro W hSw
                (try dsimp only at hSw)
                go_simp
                (try with_reducible rfl)
              try simp only [Act.put, List.setIfInBounds_toArray, List.set_cons_zero, List.set_cons_succ]
              refine wpAnyH_take (i := 14) (oi := { dst := _, op := _, type := _, pos := _, after := _, guard := _ }) (v := ?_) rfl (by kernel_rfl) (by kernel_rfl) (by kernel_rfl) (fun _ _ _ h => h) (Or.inl ⟨by rfl, ?_⟩) (by assumption) ?_
              rotate_left
              · intro W hSw
                (try dsimp only at hSw)
                go_simp
                (try with_reducible rfl)
              try simp only [Act.put, List.setIfInBounds_toArray, List.set_cons_zero, List.set_cons_succ]
              refine wpAnyH_take (i := 15) (oi := { dst := _, op := _, type := _, pos := _, after := _, guard := _ }) (v := ?_) rfl (by kernel_rfl) (by kernel_rfl) (by kernel_rfl) (fun _ _ _ h => h) (Or.inl ⟨by rfl, ?_⟩) (by assumption) ?_
              rotate_left
              · intro W hSw
                (try dsimp only at hSw)
                obtain ⟨s0, s1⟩ := HC1.out W hSw
                go_simp
                (try with_reducible rfl)
              try simp only [Act.put, List.setIfInBounds_toArray, List.set_cons_zero, List.set_cons_succ]
              refine wpAnyH_take (i := 16) (oi := { dst := _, op := _, type := _, pos := _, after := _, guard := _ }) (v := ?_) rfl (by kernel_rfl) (by kernel_rfl) (by kernel_rfl) (fun _ _ _ h => h) (Or.inl ⟨by rfl, ?_⟩) (by assumption) ?_
              rotate_left
              · intro W hSw
                (try dsimp only at hSw)
                go_simp
                (try with_reducible rfl)
              try simp only [Act.put, List.setIfInBounds_toArray, List.set_cons_zero, List.set_cons_succ]
              refine wpAnyH_take (i := 17) (oi := { dst := _, op := _, type := _, pos := _, after := _, guard := _ }) (v := ?_) rfl (by kernel_rfl) (by kernel_rfl) (by kernel_rfl) (fun _ _ _ h => h) (Or.inl ⟨by rfl, ?_⟩) (by assumption) ?_
              rotate_left
              · intro W hSw
                (try dsimp only at hSw)
                go_simp
                (try with_reducible rfl)
              try simp only [Act.put, List.setIfInBounds_toArray, List.set_cons_zero, List.set_cons_succ]
              refine wpAnyH_take (i := 18) (oi := { dst := _, op := _, type := _, pos := _, after := _, guard := _ }) (v := ?_) rfl (by kernel_rfl) (by kernel_rfl) (by kernel_rfl) (fun _ _ _ h => h) (Or.inl ⟨by rfl, ?_⟩) (by assumption) ?_
              rotate_left
              · intro W hSw
                (try dsimp only at hSw)
                go_simp
                (try with_reducible rfl)
              try simp only [Act.put, List.setIfInBounds_toArray, List.set_cons_zero, List.set_cons_succ]
              refine wpAnyH_take (i := 19) (oi := { dst := _, op := _, type := _, pos := _, after := _, guard := _ }) (v := ?_) rfl (by kernel_rfl) (by kernel_rfl) (by kernel_rfl) (fun _ _ _ h => h) (Or.inl ⟨by rfl, ?_⟩) (by assumption) ?_
              rotate_left
              · intro W hSw
                (try dsimp only at hSw)
                go_simp
                (try with_reducible rfl)
              try simp only [Act.put, List.setIfInBounds_toArray, List.set_cons_zero, List.set_cons_succ]
              refine wpAnyH_done (by kernel_rfl) ?_ _
              refine NoPanic.normal ?_
              go_wp2_with fail
              go_roundg (p - (i + 1))
              case measure => have := HJ.out; have := HIP.out; omega
              case rel => exact ⟨i + 1, by simp, ⟨HIP.out, rfl⟩, HC.out.drew⟩
            · have e3 : decide ((i : Int) < (p : Int)) = false := by rw [decide_eq_false_iff_not]; omega
              have e4 : decide (i < p) = false := by rw [decide_eq_false_iff_not]; omega
              clear hi
              go_upto_region 30 with fail
              go_loopg [17] q (fun gm v17 wr => ∃ i : Nat, v17 = .int .i64 (i : Int) ∧ Hid (i ≤ q ∧ gm = q - i) ∧ Hid (Below wk.heap.size wk wr))
              case atStart => exact ⟨0, rfl, ⟨Nat.zero_le _, rfl⟩, HC⟩
              case round =>
                clear e3 e4
                obtain ⟨ii, rfl, HL3, HC3⟩ := hrel
                obtain ⟨wn, hwn⟩ : ∃ wn, wn = wr := ⟨_, rfl⟩
                rw [← hwn] at HC3 ⊢
                clear hwn
                by_cases hi : ii < q
                · have e3 : decide ((ii : Int) < (q : Int)) = true := by rw [decide_eq_true_eq]; omega
                  have e4 : decide (ii < q) = true := by rw [decide_eq_true_eq]; omega
                  have b1 : (ii : Int) < (q : Int) := by omega
                  have b2 : ii < q := hi
                  have b3 : (0 : Int) ≤ (ii : Int) := by omega
                  have HIP : Hid (ii < q) := hi
                  have hwi := w64n ii (by have := HPQ.out; omega)
                  obtain ⟨g1, o1, rfl, hc1⟩ := HYC2.out.five ii (by rw [HPQ.out.2.1]; exact hi)
                  obtain ⟨g2, o2, rfl, hc2⟩ := HYD.out.five ii (by rw [List.length_map, HPQ.out.2.1]; exact hi)
                  rw [map_getDs Y K ii (by rw [HPQ.out.2.1]; exact hi)] at hc2
                  have hxb := HYB.out _ (mem_getDs Y ii (by rw [HPQ.out.2.1]; exact hi))
                  obtain ⟨fx, hfx⟩ : ∃ fx, Y.getD ii syz = fx := ⟨_, rfl⟩
                  rw [hfx] at hc1 hc2 hxb
                  obtain ⟨yn, yc, yf, yt, yd⟩ := fx
                  dsimp only at hc1 hc2 hxb
                  obtain ⟨z1, hz1⟩ : ∃ z1, yf + (K : Int) = z1 := ⟨_, rfl⟩
                  obtain ⟨z2, hz2⟩ : ∃ z2, yt + (K : Int) = z2 := ⟨_, rfl⟩
                  have hw1 : IntKind.i64.wrap (yf + (K : Int)) = z1 := by have := HXZ.out; have := HKK.out; rw [IntKind.wrap_i64]; omega
                  have hw2 : IntKind.i64.wrap (yt + (K : Int)) = z2 := by have := HXZ.out; have := HKK.out; rw [IntKind.wrap_i64]; omega
                  rw [hz1, hz2] at hc2
                  have HC2 : Hid _ := hc2
                  have hE : ∀ W : World, (Op.equalIn 10000 59 (.agg #[.string yn, .string yc, .int .i64 z1, .int .i64 z2, .int .i64 yd]) (.agg #[.string yn, .string yc, .int .i64 z1, .int .i64 z2, .int .i64 yd])).run Try.prog W = .ok true W := equal_sy ⟨yn, yc, z1, z2, yd⟩
                  obtain ⟨s0, s1, s2, s3, s4⟩ := hc1 wn HC3.out
                  clear hi hfx hz1 hz2 hc1 hc2 hxb
                  go_upto_region 33 with fail
                  clear s0 s1 s2 s3 s4
                  obtain ⟨v4, hv4⟩ : ∃ v4, v4 = wn.alloc (.cells #[.string yn, .string yc, .int .i64 yf, .int .i64 yt, .int .i64 yd] 59) := ⟨_, rfl⟩
                  rw [← hv4]
                  have HV4 : Hid (Below wn.heap.size wn v4) := by rw [hv4]; exact bel_up _ _
                  have h4 : v4.heap[wn.heap.size]? = some (.cells #[.string yn, .string yc, .int .i64 yf, .int .i64 yt, .int .i64 yd] 59 (0, 0)) := by rw [hv4]; exact heap_new wn _
                  clear hv4
                  obtain ⟨g, hg⟩ : ∃ g, wn.heap.size = g := ⟨_, rfl⟩
                  have HG : Hid (wn.heap.size = g) := hg
                  rw [hg] at h4 ⊢
                  clear hg
                  have HH4 : Hid (v4.heap[g]? = some (.cells #[.string yn, .string yc, .int .i64 yf, .int .i64 yt, .int .i64 yd] 59 (0, 0))) := h4
                  have q2 : v4.cell? ⟨g, 2, none⟩ = some (.int .i64 yf) := rcell h4 2 _ rfl
                  have fz4 := Lib.frozen_of_heap h4 2
                  clear h4
                  go_upto_region 34 with fail
                  obtain ⟨v5, hv5⟩ : ∃ v5, v5 = v4.setCell ⟨g, 2, none⟩ (.int .i64 z1) := ⟨_, rfl⟩
                  rw [← hv5]
                  have HH5 : Hid (v5.heap[g]? = some (.cells #[.string yn, .string yc, .int .i64 z1, .int .i64 yt, .int .i64 yd] 59 (0, 0))) := by rw [hv5]; exact blk_set _ HH4.out
                  have HV5 : Hid (Below wn.heap.size wn v5) := by rw [hv5]; exact Below.setCell HV4.out (Nat.le_of_eq HG.out) _
                  clear hv5 q2 fz4 hw1
                  have q3 : v5.cell? ⟨g, 3, none⟩ = some (.int .i64 yt) := rcell HH5.out 3 _ rfl
                  have hh5 := HH5.out
                  have fz5 := Lib.frozen_of_heap hh5 3
                  clear hh5
                  go_upto_region 35 with fail
                  obtain ⟨v6, hv6⟩ : ∃ v6, v6 = v5.setCell ⟨g, 3, none⟩ (.int .i64 z2) := ⟨_, rfl⟩
                  rw [← hv6]
                  have HH6 : Hid (v6.heap[g]? = some (.cells #[.string yn, .string yc, .int .i64 z1, .int .i64 z2, .int .i64 yd] 59 (0, 0))) := by rw [hv6]; exact blk_set _ HH5.out
                  have HV6 : Hid (Below wn.heap.size wn v6) := by rw [hv6]; exact Below.setCell HV5.out (Nat.le_of_eq HG.out) _
                  clear hv6 q3 fz5 hw2
                  have HKV : Hid (Below wk.heap.size wk v6) := below_trans HC3.out HV6.out
                  have HL6 : Hid (∀ W, Below v6.heap.size v6 W → W.cell? ⟨g, 0, none⟩ = some (.string yn) ∧ W.cell? ⟨g, 1, none⟩ = some (.string yc) ∧ W.cell? ⟨g, 2, none⟩ = some (.int .i64 z1) ∧ W.cell? ⟨g, 3, none⟩ = some (.int .i64 z2) ∧ W.cell? ⟨g, 4, none⟩ = some (.int .i64 yd)) := fun W hW => ⟨below_cell hW (rcell HH6.out 0 _ rfl), below_cell hW (rcell HH6.out 1 _ rfl), below_cell hW (rcell HH6.out 2 _ rfl), below_cell hW (rcell HH6.out 3 _ rfl), below_cell hW (rcell HH6.out 4 _ rfl)⟩
                  have HD : Hid (Below v6.heap.size v6 v6.drew) := Below.drew (Below.refl _ _)
                  refine wp_region_noPanic ?_
                  refine wp_region_held_drew (S := fun W => Below v6.heap.size v6 W) (by kernel_rfl) HD.out (fun hHeld => ?_)
                  refine wpAnyH_take (i := 0) (oi := { dst := _, op := _, type := _, pos := _, after := _, guard := _ }) (v := ?_) rfl (by kernel_rfl) (by kernel_rfl) (by kernel_rfl) (fun _ _ _ h => h) (Or.inl ⟨by rfl, ?_⟩) (by assumption) ?_
                  rotate_left
                  · intro W hSw
                    (try dsimp only at hSw)
                    go_simp
                    (try with_reducible rfl)
                  try simp only [Act.put, List.setIfInBounds_toArray, List.set_cons_zero, List.set_cons_succ]
                  refine wpAnyH_take (i := 1) (oi := { dst := _, op := _, type := _, pos := _, after := _, guard := _ }) (v := ?_) rfl (by kernel_rfl) (by kernel_rfl) (by kernel_rfl) (fun _ _ _ h => h) (Or.inl ⟨by rfl, ?_⟩) (by assumption) ?_
                  rotate_left
                  · intro W hSw
                    (try dsimp only at hSw)
                    go_simp
                    (try with_reducible rfl)
                  try simp only [Act.put, List.setIfInBounds_toArray, List.set_cons_zero, List.set_cons_succ]
                  refine wpAnyH_take (i := 2) (oi := { dst := _, op := _, type := _, pos := _, after := _, guard := _ }) (v := ?_) rfl (by kernel_rfl) (by kernel_rfl) (by kernel_rfl) (fun _ _ _ h => h) (Or.inl ⟨by rfl, ?_⟩) (by assumption) ?_
                  rotate_left
                  · intro W hSw
                    (try dsimp only at hSw)
                    go_simp
                    (try with_reducible rfl)
                  try simp only [Act.put, List.setIfInBounds_toArray, List.set_cons_zero, List.set_cons_succ]
                  refine wpAnyH_take (i := 3) (oi := { dst := _, op := _, type := _, pos := _, after := _, guard := _ }) (v := ?_) rfl (by kernel_rfl) (by kernel_rfl) (by kernel_rfl) (fun _ _ _ h => h) (Or.inl ⟨by rfl, ?_⟩) (by assumption) ?_
                  rotate_left
                  · intro W hSw
                    (try dsimp only at hSw)
                    obtain ⟨s0, s1, s2, s3, s4⟩ := HC2.out W (below_trans HKV.out hSw)
                    go_simp
                    (try with_reducible rfl)
                  try simp only [Act.put, List.setIfInBounds_toArray, List.set_cons_zero, List.set_cons_succ]
                  refine wpAnyH_take (i := 4) (oi := { dst := _, op := _, type := _, pos := _, after := _, guard := _ }) (v := ?_) rfl (by kernel_rfl) (by kernel_rfl) (by kernel_rfl) (fun _ _ _ h => h) (Or.inl ⟨by rfl, ?_⟩) (by assumption) ?_
                  rotate_left
                  · intro W hSw
                    (try dsimp only at hSw)
                    obtain ⟨s0, s1, s2, s3, s4⟩ := HL6.out W hSw
                    go_simp
                    (try with_reducible rfl)
                  try simp only [Act.put, List.setIfInBounds_toArray, List.set_cons_zero, List.set_cons_succ]
                  refine wpAnyH_take (i := 5) (oi := { dst := _, op := _, type := _, pos := _, after := _, guard := _ }) (v := ?_) rfl (by kernel_rfl) (by kernel_rfl) (by kernel_rfl) (fun _ _ _ h => h) (Or.inl ⟨by rfl, ?_⟩) (by assumption) ?_
                  rotate_left
                  · intro W hSw
                    (try dsimp only at hSw)
                    go_simp
                    (try with_reducible rfl)
                  try simp only [Act.put, List.setIfInBounds_toArray, List.set_cons_zero, List.set_cons_succ]
                  refine wpAnyH_done (by kernel_rfl) ?_ _
                  refine NoPanic.normal ?_
                  go_wp2_with fail
                  go_roundg (q - (ii + 1))
                  case measure => have := HL3.out; have := HIP.out; omega
                  case rel => exact ⟨ii + 1, by simp, ⟨HIP.out, rfl⟩, HKV.out.drew⟩
                · have e3 : decide ((ii : Int) < (q : Int)) = false := by rw [decide_eq_false_iff_not]; omega
                  have e4 : decide (ii < q) = false := by rw [decide_eq_false_iff_not]; omega
                  clear hi
                  go_wp2_with fail
                  go_ret
                  exact ⟨rfl, below_trans HWK.out HC3.out⟩
end Go.Proofs.Yticheeacbajeeaa
