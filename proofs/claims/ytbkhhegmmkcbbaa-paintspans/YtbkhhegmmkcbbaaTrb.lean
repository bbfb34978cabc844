import Derived.Test.YtbkhhegmmkcbbaaTra
import Derived.Test.YtbkhhegmmkcbbaaTap
namespace Go.Proofs.Ytbkhhegmmkcbbaa
open Go.RowKit Go.Maps

theorem res9 {tmps : Array Value} {b : Nat} {z : Int} {bb : Bool} (h4 : tmps.getD 4 undef = .pointer (some ⟨b, 0, none⟩)) (h5 : tmps.getD 5 undef = .int .i64 z) (h6 : tmps.getD 6 undef = .bool bb) {W : World} {x : Nd} {v : Value} {a : Int} (h : W.heap[b]? = some (.cells (tA x v a) 112 (0, 0))) (hv : ∃ ad n cp, v = .slice ad n cp) : (results Try.f51 tmps).run Try.prog W = .ok (.tuple #[.agg (tA x v a), .int .i64 z, .bool bb]) W := by
  obtain ⟨ad, n, cp, rfl⟩ := hv
  have r0 := rcell h 0 (.string x.nm) rfl
  have r1 := rcell h 1 (.bool x.nd) rfl
  have r2 := rcell h 2 (.string x.fd) rfl
  have r3 := rcell h 3 (.int .i64 x.fr) rfl
  have r4 := rcell h 4 (.int .i64 x.tt) rfl
  have r5 := rcell h 5 (.int .i64 x.kd) rfl
  have r6 := rcell h 6 (.int .i64 x.lf) rfl
  have r7 := rcell h 7 (.slice ad n cp) rfl
  have r8 := rcell h 8 (.int .i64 a) rfl
  unfold tA
  clear h
  have h4' : (tmps[4]?).getD undef = .pointer (some ⟨b, 0, none⟩) := by simpa using h4
  have h5' : (tmps[5]?).getD undef = .int .i64 z := by simpa using h5
  have h6' : (tmps[6]?).getD undef = .bool bb := by simpa using h6
  simp [results, Try.results51, go_sem, h4', h5', h6', r0, r1, r2, r3, r4, r5, r6, r7, r8]
theorem put9_heap {W : World} {b : Nat} {e : TypeId} {u0 u1 u2 u3 u4 u5 u6 u7 u8 v0 v1 v2 v3 v4 v5 v6 v7 v8 : Value} (h : W.heap[b]? = some (.cells #[u0, u1, u2, u3, u4, u5, u6, u7, u8] e (0, 0))) : (((((((((W.setCell ⟨b, 0, none⟩ v0).setCell ⟨b, 1, none⟩ v1).setCell ⟨b, 2, none⟩ v2).setCell ⟨b, 3, none⟩ v3).setCell ⟨b, 4, none⟩ v4).setCell ⟨b, 5, none⟩ v5).setCell ⟨b, 6, none⟩ v6).setCell ⟨b, 7, none⟩ v7).setCell ⟨b, 8, none⟩ v8).heap[b]? = some (.cells #[v0, v1, v2, v3, v4, v5, v6, v7, v8] e (0, 0)) := by
  have h0 : (W.setCell ⟨b, 0, none⟩ v0).heap[b]? = some (.cells #[v0, u1, u2, u3, u4, u5, u6, u7, u8] e (0, 0)) := blk_set v0 h
  have h1 : ((W.setCell ⟨b, 0, none⟩ v0).setCell ⟨b, 1, none⟩ v1).heap[b]? = some (.cells #[v0, v1, u2, u3, u4, u5, u6, u7, u8] e (0, 0)) := blk_set v1 h0
  have h2 : (((W.setCell ⟨b, 0, none⟩ v0).setCell ⟨b, 1, none⟩ v1).setCell ⟨b, 2, none⟩ v2).heap[b]? = some (.cells #[v0, v1, v2, u3, u4, u5, u6, u7, u8] e (0, 0)) := blk_set v2 h1
  have h3 : ((((W.setCell ⟨b, 0, none⟩ v0).setCell ⟨b, 1, none⟩ v1).setCell ⟨b, 2, none⟩ v2).setCell ⟨b, 3, none⟩ v3).heap[b]? = some (.cells #[v0, v1, v2, v3, u4, u5, u6, u7, u8] e (0, 0)) := blk_set v3 h2
  have h4 : (((((W.setCell ⟨b, 0, none⟩ v0).setCell ⟨b, 1, none⟩ v1).setCell ⟨b, 2, none⟩ v2).setCell ⟨b, 3, none⟩ v3).setCell ⟨b, 4, none⟩ v4).heap[b]? = some (.cells #[v0, v1, v2, v3, v4, u5, u6, u7, u8] e (0, 0)) := blk_set v4 h3
  have h5 : ((((((W.setCell ⟨b, 0, none⟩ v0).setCell ⟨b, 1, none⟩ v1).setCell ⟨b, 2, none⟩ v2).setCell ⟨b, 3, none⟩ v3).setCell ⟨b, 4, none⟩ v4).setCell ⟨b, 5, none⟩ v5).heap[b]? = some (.cells #[v0, v1, v2, v3, v4, v5, u6, u7, u8] e (0, 0)) := blk_set v5 h4
  have h6 : (((((((W.setCell ⟨b, 0, none⟩ v0).setCell ⟨b, 1, none⟩ v1).setCell ⟨b, 2, none⟩ v2).setCell ⟨b, 3, none⟩ v3).setCell ⟨b, 4, none⟩ v4).setCell ⟨b, 5, none⟩ v5).setCell ⟨b, 6, none⟩ v6).heap[b]? = some (.cells #[v0, v1, v2, v3, v4, v5, v6, u7, u8] e (0, 0)) := blk_set v6 h5
  have h7 : ((((((((W.setCell ⟨b, 0, none⟩ v0).setCell ⟨b, 1, none⟩ v1).setCell ⟨b, 2, none⟩ v2).setCell ⟨b, 3, none⟩ v3).setCell ⟨b, 4, none⟩ v4).setCell ⟨b, 5, none⟩ v5).setCell ⟨b, 6, none⟩ v6).setCell ⟨b, 7, none⟩ v7).heap[b]? = some (.cells #[v0, v1, v2, v3, v4, v5, v6, v7, u8] e (0, 0)) := blk_set v7 h6
  have h8 : (((((((((W.setCell ⟨b, 0, none⟩ v0).setCell ⟨b, 1, none⟩ v1).setCell ⟨b, 2, none⟩ v2).setCell ⟨b, 3, none⟩ v3).setCell ⟨b, 4, none⟩ v4).setCell ⟨b, 5, none⟩ v5).setCell ⟨b, 6, none⟩ v6).setCell ⟨b, 7, none⟩ v7).setCell ⟨b, 8, none⟩ v8).heap[b]? = some (.cells #[v0, v1, v2, v3, v4, v5, v6, v7, v8] e (0, 0)) := blk_set v8 h7
  exact h8
theorem bel_put {B b k : Nat} {w W : World} {v : Value} (h : Below B w W) (hb : B ≤ b) : Below B w (W.setCell ⟨b, k, none⟩ v) := h.setCell (p := ⟨b, k, none⟩) hb _
set_option maxRecDepth 100000 in
set_option maxHeartbeats 16000000 in
theorem take_any {v : Value} {t : List Nd} (hs : t.length * 72 + 4096 ≤ 140737488355328) : ∀ (N a : Nat) (w : World), t.length - a < N → Ns w v t → a ≤ t.length →
    Calls Try.prog 51 #[v, .int .i64 (a : Int)] w fun e w' => ∃ r, e = .returned r ∧ Tkr w.heap.size w' t a r ∧ Below w.heap.size w w' := by
  intro N
  induction N with
  | zero => intro a w h; omega
  | succ N ih =>
    intro a w hN h ha
    obtain ⟨iT, hiT, hx0, hx1, hx2⟩ := info_parts infoTr
    have HT : Hid (Ns w v t) := h
    have HS : Hid (t.length * 72 + 4096 ≤ 140737488355328) := hs
    have HIH : Hid (∀ (a : Nat) (w : World), t.length - a < N → Ns w v t → a ≤ t.length → Calls Try.prog 51 #[v, .int .i64 (a : Int)] w fun e w' => ∃ r, e = .returned r ∧ Tkr w.heap.size w' t a r ∧ Below w.heap.size w w') := ih
    obtain ⟨av, cap, rfl⟩ := h.form
    clear h hs ih
    obtain ⟨n, hn⟩ : ∃ n, t.length = n := ⟨_, rfl⟩
    have HN : Hid (t.length = n) := hn
    have HNN : Hid (n - a < N + 1) := by rw [← hn]; exact hN
    rw [hn] at HT HIH ha ⊢
    have HST : Hid (n * 72 + 4096 ≤ 140737488355328) := by have := HS.out; rw [hn] at this; exact this
    have HSZ : Hid (n * 72 + 4096 ≤ 140737488355328) := by have := HST.out; show _ ≤ _; omega
    have HAN : Hid (a ≤ n) := ha
    clear hn hN ha
    obtain ⟨W1, hW1⟩ : ∃ W1, W1 = w.alloc (.cells #[.string ⟨#[]⟩, .bool false, .string ⟨#[]⟩, .int .i64 0, .int .i64 0, .int .i64 0, .int .i64 0, .slice none 0 0, .int .i64 0] 112) := ⟨_, rfl⟩
    have HB1 : Hid (Below w.heap.size w W1) := by rw [hW1]; exact bel_up _ _
    have HX1 : Hid (W1.heap[w.heap.size]? = some (.cells #[.string ⟨#[]⟩, .bool false, .string ⟨#[]⟩, .int .i64 0, .int .i64 0, .int .i64 0, .int .i64 0, .slice none 0 0, .int .i64 0] 112 (0, 0))) := by rw [hW1]; exact heap_new _ _
    go_enter Try.func51, Try.ntmps51
    go_upto_region 1 with fail
    rw [← hW1]
    clear hW1
    obtain ⟨rb, hrb⟩ : ∃ rb, w.heap.size = rb := ⟨_, rfl⟩
    have HRB : Hid (w.heap.size = rb) := hrb
    rw [hrb] at HX1 ⊢
    clear hrb
    have HRL : Hid (w.heap.size ≤ rb) := by rw [HRB.out]; exact Nat.le_refl _
    have x0 := rcell HX1.out 0 _ rfl
    have x1 := rcell HX1.out 1 _ rfl
    have x2 := rcell HX1.out 2 _ rfl
    have x3 := rcell HX1.out 3 _ rfl
    have x4 := rcell HX1.out 4 _ rfl
    have x5 := rcell HX1.out 5 _ rfl
    have x6 := rcell HX1.out 6 _ rfl
    have x7 := rcell HX1.out 7 _ rfl
    have x8 := rcell HX1.out 8 _ rfl
    have ff := fun k => Lib.frozen_of_heap HX1.out k
    by_cases hal : a < n
    · have e1 : decide ((n : Int) ≤ (a : Int)) = false := by rw [decide_eq_false_iff_not]; omega
      have e2 : decide (n ≤ a) = false := by rw [decide_eq_false_iff_not]; omega
      have e3 : (a : Int) < (n : Int) := by omega
      have e4 : a < n := hal
      have HAL : Hid (a < n) := hal
      obtain ⟨g, o, rfl, q0, q1, q2, q3, q4, q5, q6⟩ := (HT.out.up HB1.out).all7 a (by rw [HN.out]; exact hal)
      have hcons : (kds t).drop a = (t.getD a ndd).kd :: (kds t).drop (a + 1) := by rw [← kds_get]; exact drop_at _ _ (by rw [kds_len, HN.out]; exact hal)
      have hkA : kA (kds t) a = (t.getD a ndd).kd.toNat := by unfold kA; rw [kds_get]
      obtain ⟨x, hx⟩ : ∃ x, t.getD a ndd = x := ⟨_, rfl⟩
      rw [hx] at q0 q1 q2 q3 q4 q5 q6 hcons hkA
      have HXX : Hid (t.getD a ndd = x) := hx
      have HLD : Hid (((kds t).drop (a + 1)).length < n) := by rw [List.length_drop, kds_len, HN.out]; show _ < _; omega
      clear hx hal
      by_cases h1 : x.kd < 0
      · have f1 : decide (x.kd < 0) = true := by rw [decide_eq_true_eq]; exact h1
        have HNO : Hid (stx ((kds t).drop a) 1 = none) := by rw [hcons, stx_cons, if_neg (by omega)]; exact rfl
        clear h1 hcons hkA
        go_wp2_with fail
        (try simp only [Exit.inBlock, Exit.then])
        have z0 := blk_set (k := 0) (.string ⟨#[]⟩) HX1.out
        have z1 := blk_set (k := 1) (.bool false) z0
        have z2 := blk_set (k := 2) (.string ⟨#[]⟩) z1
        have z3 := blk_set (k := 3) (.int .i64 0) z2
        have z4 := blk_set (k := 4) (.int .i64 0) z3
        have z5 := blk_set (k := 5) (.int .i64 0) z4
        have z6 := blk_set (k := 6) (.int .i64 0) z5
        have z7 := blk_set (k := 7) (.slice none 0 0) z6
        have z8 := blk_set (k := 8) (.int .i64 0) z7
        refine bodyPost_ret (v := .tuple #[.agg (tA ndd (.slice none 0 0) 0), .int .i64 (a : Int), .bool false]) (res9 rfl rfl rfl z8 ⟨_, _, _, rfl⟩) rfl ⟨_, rfl, by unfold Tkr; rw [HNO.out], bel_put (bel_put (bel_put (bel_put (bel_put (bel_put (bel_put (bel_put (bel_put HB1.out HRL.out) HRL.out) HRL.out) HRL.out) HRL.out) HRL.out) HRL.out) HRL.out) HRL.out⟩
      · by_cases h2 : (n : Int) < x.kd
        · have f1 : decide (x.kd < 0) = false := by rw [decide_eq_false_iff_not]; exact h1
          have f2 : decide ((n : Int) < x.kd) = true := by rw [decide_eq_true_eq]; exact h2
          have HNO : Hid (stx ((kds t).drop a) 1 = none) := by
            rw [hcons, stx_cons, if_pos (by omega), stx_big _ _ (by have := HLD.out; omega)]; exact rfl
          clear h1 h2 hcons hkA
          go_wp2_with fail
          (try simp only [Exit.inBlock, Exit.then])
          have z0 := blk_set (k := 0) (.string ⟨#[]⟩) HX1.out
          have z1 := blk_set (k := 1) (.bool false) z0
          have z2 := blk_set (k := 2) (.string ⟨#[]⟩) z1
          have z3 := blk_set (k := 3) (.int .i64 0) z2
          have z4 := blk_set (k := 4) (.int .i64 0) z3
          have z5 := blk_set (k := 5) (.int .i64 0) z4
          have z6 := blk_set (k := 6) (.int .i64 0) z5
          have z7 := blk_set (k := 7) (.slice none 0 0) z6
          have z8 := blk_set (k := 8) (.int .i64 0) z7
          refine bodyPost_ret (v := .tuple #[.agg (tA ndd (.slice none 0 0) 0), .int .i64 (a : Int), .bool false]) (res9 rfl rfl rfl z8 ⟨_, _, _, rfl⟩) rfl ⟨_, rfl, by unfold Tkr; rw [HNO.out], bel_put (bel_put (bel_put (bel_put (bel_put (bel_put (bel_put (bel_put (bel_put HB1.out HRL.out) HRL.out) HRL.out) HRL.out) HRL.out) HRL.out) HRL.out) HRL.out) HRL.out⟩
        · have f1 : decide (x.kd < 0) = false := by rw [decide_eq_false_iff_not]; exact h1
          have f2 : decide ((n : Int) < x.kd) = false := by rw [decide_eq_false_iff_not]; exact h2
          obtain ⟨y, hy⟩ : ∃ y : Nat, x.kd = (y : Int) := ⟨x.kd.toNat, by omega⟩
          have HYN : Hid (y ≤ n ∧ kA (kds t) a = y) := ⟨by omega, by rw [hkA, hy]; rfl⟩
          have HSX : Hid (stx ((kds t).drop a) 1 = (stx ((kds t).drop (a + 1)) y).map (1 + ·)) := by rw [hcons, stx_cons, if_pos (by omega), hy]; show _ = _; congr 2; omega
          have HKD : Hid (x.kd = (y : Int)) := hy
          clear h1 h2 hcons hkA hy
          have hwa := w64n a (by have := HSZ.out; have := HAL.out; omega)
          obtain ⟨W2, hW2⟩ : ∃ W2, W2 = W1.alloc (.cells #[.string x.nm, .bool x.nd, .string x.fd, .int .i64 x.fr, .int .i64 x.tt, .int .i64 x.kd, .int .i64 x.lf, .slice none 0 0, .int .i64 (a : Int)] 112) := ⟨_, rfl⟩
          have HB2 : Hid (Below w.heap.size w W2) := by rw [hW2]; exact below_trans HB1.out (bel_up _ _)
          have HX2 : Hid (W2.heap[W1.heap.size]? = some (.cells #[.string x.nm, .bool x.nd, .string x.fd, .int .i64 x.fr, .int .i64 x.tt, .int .i64 x.kd, .int .i64 x.lf, .slice none 0 0, .int .i64 (a : Int)] 112 (0, 0))) := by rw [hW2]; exact heap_new _ _
          have HZ2 : Hid (W2.heap[rb]? = some (.cells #[.string ⟨#[]⟩, .bool false, .string ⟨#[]⟩, .int .i64 0, .int .i64 0, .int .i64 0, .int .i64 0, .slice none 0 0, .int .i64 0] 112 (0, 0))) := by rw [hW2]; exact ((bel_up W1 _).block rb (lt_of_heap HX1.out)).trans HX1.out
          have HOB : Hid (rb < W1.heap.size ∧ W1.heap.size < W2.heap.size) := ⟨lt_of_heap HX1.out, lt_of_heap HX2.out⟩
          go_upto_region 4 with fail
          rw [← hW2]
          clear hW2 q0 q1 q2 q3 q4 q5 q6 x0 x1 x2 x3 x4 x5 x6 x7 x8 ff f1 f2 e1 e2
          obtain ⟨ob, hob⟩ : ∃ ob, W1.heap.size = ob := ⟨_, rfl⟩
          rw [hob] at HX2 HOB ⊢
          clear hob
          obtain ⟨B2, hB2⟩ : ∃ B2, W2.heap.size = B2 := ⟨_, rfl⟩
          have HBB : Hid (W2.heap.size = B2) := hB2
          rw [hB2] at HOB
          clear hB2
          have HOR : Hid (w.heap.size ≤ rb ∧ w.heap.size ≤ ob ∧ w.heap.size ≤ B2) := by have h1 := HRL.out; have h2 := HOB.out; show _ ∧ _ ∧ _; omega
          go_upto_region 6 with fail
          clear hwa
          go_loopg [8, 9] y (fun gm v8 v9 wr => ∃ (i q : Nat) (vk : Value) (fs : List (Nat × Value)), v8 = .int .i64 (q : Int) ∧ v9 = .int .i64 (i : Int) ∧ Hid (gm = y - i ∧ i ≤ y) ∧ Hid (stx ((kds t).drop (a + 1)) i = some (q - (a + 1)) ∧ a + 1 ≤ q ∧ q ≤ n) ∧ Hid (wr.heap[ob]? = some (.cells #[.string x.nm, .bool x.nd, .string x.fd, .int .i64 x.fr, .int .i64 x.tt, .int .i64 x.kd, .int .i64 x.lf, vk, .int .i64 (a : Int)] 112 (0, 0))) ∧ Hid (wr.heap[rb]? = some (.cells #[.string ⟨#[]⟩, .bool false, .string ⟨#[]⟩, .int .i64 0, .int .i64 0, .int .i64 0, .int .i64 0, .slice none 0 0, .int .i64 0] 112 (0, 0))) ∧ Hid (wr.ownsRow B2 112 9 vk i (flat (tf t) fs)) ∧ Hid (fs.map Prod.fst = pls (kds t) (a + 1) i ∧ ∀ z ∈ fs, TrM (fun g => B2 ≤ g ∧ some g ≠ vk.ownBlock) wr t z.1 z.2) ∧ Hid (Below w.heap.size w wr ∧ B2 ≤ wr.heap.size))
          case atStart => exact ⟨0, a + 1, .slice none 0 0, [], by first | rfl | (rw [show (a : Int) + 1 = ((a + 1 : Nat) : Int) by omega]), rfl, ⟨rfl, Nat.zero_le _⟩, ⟨by rw [stx_zero, Nat.sub_self], Nat.le_refl _, HAL.out⟩, HX2, HZ2, World.ownsRow_nil _ _ _ _, ⟨rfl, fun z hz => by cases hz⟩, ⟨HB2.out, by rw [HBB.out]; exact Nat.le_refl _⟩⟩
          case round =>
            clear HX2 HZ2 HB2 HX1 HB1
            obtain ⟨i, q, vk, fs, rfl, rfl, HI, HQ, HX, HZ, HO, HFS, HBW⟩ := hrel
            obtain ⟨ka, kc, hvk⟩ := row_shape HO.out
            subst hvk
            have hkc := (HT.out.up HBW.out.1).all7 a (by rw [HN.out]; exact HAL.out)
            obtain ⟨g', o', e0, _, _, _, _, _, k5, _⟩ := hkc
            cases e0
            rw [HXX.out, HKD.out] at k5
            have e3 : (a : Int) < (n : Int) := by have := HAL.out; omega
            have e4 : a < n := HAL.out
            by_cases hi : i < y
            · have f1 : decide ((i : Int) < (y : Int)) = true := by rw [decide_eq_true_eq]; omega
              have f2 : decide (i < y) = true := by rw [decide_eq_true_eq]; omega
              have HIM : Hid (i < y) := hi
              have hwi := w64n i (by have := HYN.out; have := HSZ.out; omega)
              have HTK2 : Hid (Calls Try.prog 51 #[.slice (some ⟨g, o, none⟩) n cap, .int .i64 (q : Int)] wr fun e w' => ∃ r, e = .returned r ∧ Tkr wr.heap.size w' t q r ∧ Below wr.heap.size wr w') := HIH.out q wr (by have := HNN.out; have := HQ.out; omega) (HT.out.up HBW.out.1) HQ.out.2.2
              have HAD : Hid (stx ((kds t).drop (a + 1)) (i + 1) = (stx ((kds t).drop q) 1).map ((q - (a + 1)) + ·)) := by
                have h7 := stx_add ((kds t).drop (a + 1)) i 1
                rw [HQ.out.1, Option.bind_some, List.drop_drop, show a + 1 + (q - (a + 1)) = q by have := HQ.out; omega] at h7
                exact h7
              have HWA : Hid (wA (kds t) (a + 1) i = q) := by
                have h7 := (stx_sk _ _ _ HQ.out.1).1
                unfold wA; rw [h7]; have := HQ.out; show _ = _; omega
              clear hi
              cases hst : stx ((kds t).drop q) 1 with
              | none =>
                unfold Tkr at HTK2
                rw [hst] at HTK2 HAD
                have HTN : Hid (Calls Try.prog 51 #[.slice (some ⟨g, o, none⟩) n cap, .int .i64 (q : Int)] wr fun e w' => e = .returned (.tuple #[.agg (tA ndd (.slice none 0 0) 0), .int .i64 (q : Int), .bool false]) ∧ Below wr.heap.size wr w') := HTK2.out.mono (by rintro e w' ⟨r, rfl, h7, h8⟩; dsimp only at h7; exact ⟨by rw [h7], h8⟩)
                have HNO : Hid (stx ((kds t).drop a) 1 = none) := by
                  rw [HSX.out, stx_some_le (show stx ((kds t).drop (a + 1)) (i + 1) = none from HAD.out) (by have := HIM.out; omega)]; exact rfl
                clear hst HTK2 HAD
                unfold tA at HTN
                dsimp only [ndd] at HTN
                go_upto_region 10 with (go_at_call 51; refine Calls.mono HTN.out ?_; rintro ee W4 ⟨rfl, hb4⟩; have HB4 : Hid (Below wr.heap.size wr W4) := hb4; clear hb4)
                obtain ⟨W5, hW5⟩ : ∃ W5, W4.alloc (.cells #[.string ⟨#[]⟩, .bool false, .string ⟨#[]⟩, .int .i64 0, .int .i64 0, .int .i64 0, .int .i64 0, .slice none 0 0, .int .i64 0] 112) = W5 := ⟨_, rfl⟩
                rw [hW5]
                have HB5 : Hid (Below w.heap.size w W5) := by rw [← hW5]; exact below_trans (below_trans HBW.out.1 HB4.out) (bel_up _ _)
                have HZ5 : Hid (W5.heap[rb]? = some (.cells #[.string ⟨#[]⟩, .bool false, .string ⟨#[]⟩, .int .i64 0, .int .i64 0, .int .i64 0, .int .i64 0, .slice none 0 0, .int .i64 0] 112 (0, 0))) := by rw [← hW5]; exact ((below_trans HB4.out (bel_up _ _)).block rb (lt_of_heap HZ.out)).trans HZ.out
                clear hW5
                have x0 := rcell HZ5.out 0 _ rfl
                have x1 := rcell HZ5.out 1 _ rfl
                have x2 := rcell HZ5.out 2 _ rfl
                have x3 := rcell HZ5.out 3 _ rfl
                have x4 := rcell HZ5.out 4 _ rfl
                have x5 := rcell HZ5.out 5 _ rfl
                have x6 := rcell HZ5.out 6 _ rfl
                have x7 := rcell HZ5.out 7 _ rfl
                have x8 := rcell HZ5.out 8 _ rfl
                have ff := fun k => Lib.frozen_of_heap HZ5.out k
                go_wp2_with fail
                (try simp only [Exit.inBlock, Exit.then])
                have z0 := blk_set (k := 0) (.string ⟨#[]⟩) HZ5.out
                have z1 := blk_set (k := 1) (.bool false) z0
                have z2 := blk_set (k := 2) (.string ⟨#[]⟩) z1
                have z3 := blk_set (k := 3) (.int .i64 0) z2
                have z4 := blk_set (k := 4) (.int .i64 0) z3
                have z5 := blk_set (k := 5) (.int .i64 0) z4
                have z6 := blk_set (k := 6) (.int .i64 0) z5
                have z7 := blk_set (k := 7) (.slice none 0 0) z6
                have z8 := blk_set (k := 8) (.int .i64 0) z7
                refine bodyPost_ret (v := .tuple #[.agg (tA ndd (.slice none 0 0) 0), .int .i64 (a : Int), .bool false]) (res9 rfl rfl rfl z8 ⟨_, _, _, rfl⟩) rfl ⟨_, rfl, by unfold Tkr; rw [HNO.out], bel_put (bel_put (bel_put (bel_put (bel_put (bel_put (bel_put (bel_put (bel_put HB5.out HRL.out) HRL.out) HRL.out) HRL.out) HRL.out) HRL.out) HRL.out) HRL.out) HRL.out⟩
              | some d =>
                unfold Tkr at HTK2
                rw [hst] at HTK2 HAD
                have HTN : Hid (Calls Try.prog 51 #[.slice (some ⟨g, o, none⟩) n cap, .int .i64 (q : Int)] wr fun e w' => ∃ ad nn cp, e = .returned (.tuple #[.agg (tA (t.getD q ndd) (.slice ad nn cp) (q : Int)), .int .i64 ((q + d : Nat) : Int), .bool true]) ∧ TrM (fun g => wr.heap.size ≤ g) w' t q (.slice ad nn cp) ∧ Below wr.heap.size wr w') := HTK2.out.mono (by
                  rintro e w' ⟨r, rfl, h7, h8⟩
                  dsimp only at h7
                  obtain ⟨vq, rfl, h9⟩ := h7
                  obtain ⟨ad, nn, cp, rfl⟩ := h9.form
                  exact ⟨ad, nn, cp, rfl, h9, h8⟩)
                have HDL : Hid (q + d ≤ n) := by
                  have h7 := (stx_sk _ _ _ hst).2.1
                  rw [List.length_drop, kds_len, HN.out] at h7
                  have := HQ.out; show _ ≤ _; omega
                have HAD2 : Hid (stx ((kds t).drop (a + 1)) (i + 1) = some ((q + d) - (a + 1))) := by rw [HAD.out]; show some (q - (a + 1) + d) = some (q + d - (a + 1)); have h7 := HQ.out.2.1; congr 1; omega
                clear hst HTK2 HAD
                obtain ⟨X, hX⟩ : ∃ X, t.getD q ndd = X := ⟨_, rfl⟩
                rw [hX] at HTN
                have HXQ : Hid (t.getD q ndd = X) := hX
                clear hX
                unfold tA at HTN
                obtain ⟨q', hq'⟩ : ∃ q', q + d = q' := ⟨_, rfl⟩
                rw [hq'] at HTN HDL HAD2
                have HQ' : Hid (q + d = q') := hq'
                clear hq'
                go_upto_region 11 with (go_at_call 51; refine Calls.mono HTN.out ?_; rintro ee W4 ⟨ad, nn, cp, rfl, htm, hb4⟩; have HB4 : Hid (Below wr.heap.size wr W4) := hb4; have HTM : Hid (TrM (fun g => wr.heap.size ≤ g) W4 t q (.slice ad nn cp)) := htm; clear hb4 htm)
                obtain ⟨W5, hW5⟩ : ∃ W5, W4.alloc (.cells #[.string X.nm, .bool X.nd, .string X.fd, .int .i64 X.fr, .int .i64 X.tt, .int .i64 X.kd, .int .i64 X.lf, .slice ad nn cp, .int .i64 (q : Int)] 112) = W5 := ⟨_, rfl⟩
                have HK5 : Hid (W5.heap[W4.heap.size]? = some (.cells #[.string X.nm, .bool X.nd, .string X.fd, .int .i64 X.fr, .int .i64 X.tt, .int .i64 X.kd, .int .i64 X.lf, .slice ad nn cp, .int .i64 (q : Int)] 112 (0, 0))) := by rw [← hW5]; exact heap_new _ _
                have HB5 : Hid (Below wr.heap.size wr W5) := by rw [← hW5]; exact below_trans HB4.out (bel_up _ _)
                have HT5 : Hid (TrM (fun g => wr.heap.size ≤ g) W5 t q (.slice ad nn cp)) := by rw [← hW5]; exact HTM.out.up (bel_up _ _)
                rw [hW5]
                clear hW5 HTM
                obtain ⟨kb, hkb⟩ : ∃ kb, W4.heap.size = kb := ⟨_, rfl⟩
                rw [hkb] at HK5 ⊢
                clear hkb
                have HX5 : Hid (W5.heap[ob]? = some (.cells #[.string x.nm, .bool x.nd, .string x.fd, .int .i64 x.fr, .int .i64 x.tt, .int .i64 x.kd, .int .i64 x.lf, .slice ka i kc, .int .i64 (a : Int)] 112 (0, 0))) := (HB5.out.block ob (lt_of_heap HX.out)).trans HX.out
                have HO5 : Hid (W5.ownsRow B2 112 9 (.slice ka i kc) i (flat (tf t) fs)) := row_up HO.out HB5.out
                have o7 := rcell HX5.out 7 _ rfl
                have k0 := rcell HK5.out 0 _ rfl
                have k1 := rcell HK5.out 1 _ rfl
                have k2 := rcell HK5.out 2 _ rfl
                have k3 := rcell HK5.out 3 _ rfl
                have k4 := rcell HK5.out 4 _ rfl
                have k5 := rcell HK5.out 5 _ rfl
                have k6 := rcell HK5.out 6 _ rfl
                have k7 := rcell HK5.out 7 _ rfl
                have k8 := rcell HK5.out 8 _ rfl
                have HROW : Hid ((W5.alloc (.cells #[.string X.nm, .bool X.nd, .string X.fd, .int .i64 X.fr, .int .i64 X.tt, .int .i64 X.kd, .int .i64 X.lf, .slice ad nn cp, .int .i64 (q : Int)] 112)).ownsRow B2 112 9 (.slice ka i kc) i (flat (tf t) fs)) := HO5.out.alloc _
                have HSA : Hid (B2 ≤ (W5.alloc (.cells #[.string X.nm, .bool X.nd, .string X.fd, .int .i64 X.fr, .int .i64 X.tt, .int .i64 X.kd, .int .i64 X.lf, .slice ad nn cp, .int .i64 (q : Int)] 112)).heap.size) := Nat.le_trans HBW.out.2 (Nat.le_trans HB5.out.size (bel_up _ _).size)
                have HMX : Hid (i + 1 ≤ maxLen ∧ Builtin.nextslicecap (i + 1) i * 104 ≤ 281474976710656) := by
                  have h7 := (stx_sk _ _ _ HAD2.out).2
                  rw [List.length_drop, kds_len, HN.out] at h7
                  have h8 := HSZ.out
                  have h9 := HST.out
                  show _ ∧ _; unfold maxLen
                  exact ⟨by omega, cap_fit i (by omega)⟩
                have HCW : Hid (∀ j u, (tf t (q, Value.slice ad nn cp))[j]? = some u → (W5.alloc (.cells #[.string X.nm, .bool X.nd, .string X.fd, .int .i64 X.fr, .int .i64 X.tt, .int .i64 X.kd, .int .i64 X.lf, .slice ad nn cp, .int .i64 (q : Int)] 112)).cell? ((⟨W5.heap.size, 0, none⟩ : Addr).add j) = some u) := by
                  have h7 := World.news_of_block (heap_new W5 (.cells #[.string X.nm, .bool X.nd, .string X.fd, .int .i64 X.fr, .int .i64 X.tt, .int .i64 X.kd, .int .i64 X.lf, .slice ad nn cp, .int .i64 (q : Int)] 112))
                  intro j u hu
                  refine h7 j u ?_
                  unfold tf at hu
                  rw [HXQ.out] at hu
                  exact hu
                have HTF : Hid (∀ u ∈ tf t (q, Value.slice ad nn cp), u.oneCell' = true) := by
                  intro u hu
                  unfold tf at hu
                  rcases List.mem_append.1 hu with hu | hu
                  · exact nf_one _ u hu
                  · simp only [List.mem_cons, List.not_mem_nil, or_false] at hu
                    rcases hu with rfl | rfl <;> rfl
                have HOBK : Hid (∀ r, Value.ownBlock (.slice ka i kc) = some r → B2 ≤ r ∧ r < wr.heap.size) := fun r hr => by
                  obtain ⟨h7, cur, h8⟩ := row_tag HO.out r hr
                  exact ⟨h7, lt_of_heap h8⟩
                go_upto_region 12 with (at_builtin; refine wpList_append_one _ rfl _ _ 95 rfl B2 112 iT _ 9 104 Try.underlying95 hiT hx0 hx1 hx2 rfl _ _ _ rfl HROW.out ⟨W5.heap.size, 0, none⟩ 1 (tf t (q, Value.slice ad nn cp)) rfl rfl HCW.out HTF.out HMX.out.1 HMX.out.2 HSA.out ?_; intro v6 W6 ho6 hg6 ha6; have HO6 : Hid (W6.ownsRow B2 112 9 v6 (i + 1) (flat (tf t) (fs ++ [(q, Value.slice ad nn cp)]))) := (by rw [flat_app, show flat (tf t) [(q, Value.slice ad nn cp)] = tf t (q, Value.slice ad nn cp) from List.append_nil _]; exact ho6); have HG6 : Hid ((W5.alloc (.cells #[.string X.nm, .bool X.nd, .string X.fd, .int .i64 X.fr, .int .i64 X.tt, .int .i64 X.kd, .int .i64 X.lf, .slice ad nn cp, .int .i64 (q : Int)] 112)).grownBy W6 (Value.ownBlock (.slice ka i kc))) := hg6; have HA6 : Hid (v6.ownBlock = Value.ownBlock (.slice ka i kc) ∨ v6.ownBlock = some (W5.alloc (.cells #[.string X.nm, .bool X.nd, .string X.fd, .int .i64 X.fr, .int .i64 X.tt, .int .i64 X.kd, .int .i64 X.lf, .slice ad nn cp, .int .i64 (q : Int)] 112)).heap.size) := ha6; have HX6 : Hid (W6.heap[ob]? = some (.cells #[.string x.nm, .bool x.nd, .string x.fd, .int .i64 x.fr, .int .i64 x.tt, .int .i64 x.kd, .int .i64 x.lf, .slice ka i kc, .int .i64 (a : Int)] 112 (0, 0))) := (hg6.block ob (Nat.lt_of_lt_of_le (lt_of_heap HX5.out) (bel_up W5 _).size) (fun e => by have h7 := (HOBK.out ob e.symm).1; have h8 := HOB.out.2; omega)).trans (((bel_up W5 _).block ob (lt_of_heap HX5.out)).trans HX5.out); have s7 := rcell HX6.out 7 _ rfl; have g7 := Lib.frozen_of_heap HX6.out 7; obtain ⟨b6, d6, rfl⟩ := row_shape ho6; clear ho6 hg6 ha6)
                obtain ⟨i1, hi1⟩ : ∃ i1, i + 1 = i1 := ⟨_, rfl⟩
                rw [hi1] at hwi HO6 HA6 HAD2 ⊢
                have HI1 : Hid (i + 1 = i1) := hi1
                clear hi1
                have HSM : Hid (∀ g, g < wr.heap.size → B2 ≤ g → some g ≠ Value.ownBlock (.slice ka i kc) → (W6.setCell ⟨ob, 7, none⟩ (.slice b6 i1 d6)).heap[g]? = wr.heap[g]?) := fun g h1 h2 h3 => by
                  have h4 : g ≠ ob := by have := HOB.out.2; omega
                  rw [Below.heap_setCell W6 ⟨ob, 7, none⟩ _ g h4, HG6.out.block g (Nat.lt_of_lt_of_le h1 (Nat.le_trans HB5.out.size (bel_up W5 _).size)) h3, (bel_up W5 _).block g (Nat.lt_of_lt_of_le h1 HB5.out.size), HB5.out.block g h1]
                have HSN : Hid (∀ g, wr.heap.size ≤ g → g < W5.heap.size → (W6.setCell ⟨ob, 7, none⟩ (.slice b6 i1 d6)).heap[g]? = W5.heap[g]?) := fun g h1 h2 => by
                  have h4 : g ≠ ob := by have := lt_of_heap HX.out; omega
                  rw [Below.heap_setCell W6 ⟨ob, 7, none⟩ _ g h4, HG6.out.block g (Nat.lt_of_lt_of_le h2 (bel_up W5 _).size) (fun e => by have := (HOBK.out g e.symm).2; omega), (bel_up W5 _).block g h2]
                have HSZ7 : Hid (W5.heap.size ≤ (W6.setCell ⟨ob, 7, none⟩ (.slice b6 i1 d6)).heap.size) := by
                  have h1 := HG6.out.size
                  have h2 := (bel_up W5 (.cells #[.string X.nm, .bool X.nd, .string X.fd, .int .i64 X.fr, .int .i64 X.tt, .int .i64 X.kd, .int .i64 X.lf, .slice ad nn cp, .int .i64 (q : Int)] 112)).size
                  have h3 : (W6.setCell ⟨ob, 7, none⟩ (.slice b6 i1 d6)).heap.size = W6.heap.size := by simp
                  rw [h3]; exact Nat.le_trans h2 h1
                have HNB : Hid (∀ g, g < W5.heap.size → some g ≠ Value.ownBlock (.slice ka i kc) → some g ≠ Value.ownBlock (.slice b6 i1 d6)) := fun g h1 h2 e => by
                  rcases HA6.out with h3 | h3
                  · rw [h3] at e; exact h2 e
                  · rw [h3] at e
                    have h5 := Option.some.inj e
                    simp at h5
                    omega
                have HX7 : Hid ((W6.setCell ⟨ob, 7, none⟩ (.slice b6 i1 d6)).heap[ob]? = some (.cells #[.string x.nm, .bool x.nd, .string x.fd, .int .i64 x.fr, .int .i64 x.tt, .int .i64 x.kd, .int .i64 x.lf, .slice b6 i1 d6, .int .i64 (a : Int)] 112 (0, 0))) := blk_set _ HX6.out
                have HZ7 : Hid ((W6.setCell ⟨ob, 7, none⟩ (.slice b6 i1 d6)).heap[rb]? = some (.cells #[.string ⟨#[]⟩, .bool false, .string ⟨#[]⟩, .int .i64 0, .int .i64 0, .int .i64 0, .int .i64 0, .slice none 0 0, .int .i64 0] 112 (0, 0))) := by
                  have h4 : rb ≠ ob := by have := HOB.out.1; omega
                  rw [Below.heap_setCell W6 ⟨ob, 7, none⟩ _ rb h4, HG6.out.block rb (Nat.lt_of_lt_of_le (lt_of_heap HZ.out) (Nat.le_trans HB5.out.size (bel_up W5 _).size)) (fun e => by have h7 := (HOBK.out rb e.symm).1; have h8 := HOB.out; omega), (bel_up W5 _).block rb (Nat.lt_of_lt_of_le (lt_of_heap HZ.out) HB5.out.size), HB5.out.block rb (lt_of_heap HZ.out)]
                  exact HZ.out
                have HO7 : Hid ((W6.setCell ⟨ob, 7, none⟩ (.slice b6 i1 d6)).ownsRow B2 112 9 (.slice b6 i1 d6) i1 (flat (tf t) (fs ++ [(q, Value.slice ad nn cp)]))) := HO6.out.kept grown_set (.inr (fun e => by have h7 := (row_tag HO6.out ob e).1; have h8 := HOB.out; omega))
                have HF7 : Hid ((fs ++ [(q, Value.slice ad nn cp)]).map Prod.fst = pls (kds t) (a + 1) i1 ∧ ∀ z ∈ fs ++ [(q, Value.slice ad nn cp)], TrM (fun g => B2 ≤ g ∧ some g ≠ Value.ownBlock (.slice b6 i1 d6)) (W6.setCell ⟨ob, 7, none⟩ (.slice b6 i1 d6)) t z.1 z.2) := by
                  refine ⟨?_, fun z hz => ?_⟩
                  · rw [List.map_append, HFS.out.1, ← HI1.out, pls_succ, HWA.out]; rfl
                  · rcases List.mem_append.1 hz with hz | hz
                    · exact (HFS.out.2 z hz).keep (Nat.le_trans HB5.out.size HSZ7.out) fun g h1 h2 => ⟨HSM.out g h2 h1.1 h1.2, h1.1, HNB.out g (Nat.lt_of_lt_of_le h2 HB5.out.size) h1.2⟩
                    · simp only [List.mem_cons, List.not_mem_nil, or_false] at hz
                      subst hz
                      exact HT5.out.keep HSZ7.out fun g h1 h2 => ⟨HSN.out g h1 h2, Nat.le_trans HBW.out.2 h1, HNB.out g h2 (fun e => by have := (HOBK.out g e.symm).2; omega)⟩
                have HB7 : Hid (Below w.heap.size w (W6.setCell ⟨ob, 7, none⟩ (.slice b6 i1 d6)) ∧ B2 ≤ (W6.setCell ⟨ob, 7, none⟩ (.slice b6 i1 d6)).heap.size) := by
                  have h1 : Below w.heap.size w W5 := below_trans HBW.out.1 HB5.out
                  have h2 : Below w.heap.size w W6 := bel_app h1 h1.size (row_base HO5.out HOR.out.2.2) HG6.out
                  exact ⟨bel_put h2 HOR.out.2.1, Nat.le_trans HBW.out.2 (Nat.le_trans HB5.out.size HSZ7.out)⟩
                clear k0 k1 k2 k3 k4 k6 k7 k8 o7 s7 g7 HSM HSN
                go_wp2_with fail
                go_roundg (y - i1)
                case measure => have := HI.out.1; have := HIM.out; have := HI1.out; omega
                case rel => exact ⟨i1, q', .slice b6 i1 d6, fs ++ [(q, Value.slice ad nn cp)], rfl, rfl, ⟨rfl, by have := HIM.out; have := HI1.out; omega⟩, ⟨HAD2.out, by have h7 := HQ.out.2.1; have h8 := HQ'.out; omega, HDL.out⟩, HX7, HZ7, HO7, HF7, HB7⟩
            · have f1 : decide ((i : Int) < (y : Int)) = false := by rw [decide_eq_false_iff_not]; omega
              have f2 : decide (i < y) = false := by rw [decide_eq_false_iff_not]; omega
              have HIY : Hid (i = y) := by have := HI.out; show i = y; omega
              have HYS : Hid (stx ((kds t).drop a) 1 = some (q - a)) := by
                have h7 := HQ.out
                rw [HSX.out, ← HIY.out, h7.1]
                show some (1 + (q - (a + 1))) = some (q - a)
                congr 1; omega
              clear hi
              have p0 := rcell HX.out 0 _ rfl
              have p1 := rcell HX.out 1 _ rfl
              have p2 := rcell HX.out 2 _ rfl
              have p3 := rcell HX.out 3 _ rfl
              have p4 := rcell HX.out 4 _ rfl
              have p5 := rcell HX.out 5 _ rfl
              have p6 := rcell HX.out 6 _ rfl
              have p7 := rcell HX.out 7 _ rfl
              have p8 := rcell HX.out 8 _ rfl
              have r0 := rcell HZ.out 0 _ rfl
              have r1 := rcell HZ.out 1 _ rfl
              have r2 := rcell HZ.out 2 _ rfl
              have r3 := rcell HZ.out 3 _ rfl
              have r4 := rcell HZ.out 4 _ rfl
              have r5 := rcell HZ.out 5 _ rfl
              have r6 := rcell HZ.out 6 _ rfl
              have r7 := rcell HZ.out 7 _ rfl
              have r8 := rcell HZ.out 8 _ rfl
              have ff := fun k => Lib.frozen_of_heap HZ.out k
              have HTR : Hid (∀ W, wr.heap.size ≤ W.heap.size → (∀ g, g ≠ rb → W.heap[g]? = wr.heap[g]?) → TrM (fun g => w.heap.size ≤ g) W t a (.slice ka i kc)) := fun W h1 h2 => by
                have hfl : fs.length = i := by have h7 := congrArg List.length HFS.out.1; rw [List.length_map, pls_len] at h7; exact h7
                refine TrM.mk a _ fs (by rw [HFS.out.1, HYN.out.2, HIY.out]) ?_ (fun z hz => (HFS.out.2 z hz).keep h1 fun g h3 h4 => ⟨h2 g (by have := HOB.out; have := h3.1; omega), Nat.le_trans HOR.out.2.2 h3.1⟩)
                rw [hfl]
                obtain ⟨ao, g, oo, cc, e, h3, h4, h5, h6⟩ := row_rw HO.out (by decide)
                refine ⟨ao, g, oo, cc, e, h3, h4, fun hp => ?_, fun j u hu => ?_⟩
                · have h7 := h5 hp
                  subst h7
                  obtain ⟨h8, h9, h10⟩ := Value.slice.inj e
                  subst h8
                  obtain ⟨h11, cur, h12⟩ := row_tag HO.out g rfl
                  exact ⟨rfl, Nat.le_trans HOR.out.2.2 h11, Nat.lt_of_lt_of_le (lt_of_heap h12) h1⟩
                · have hp : 0 < i := by
                    have := (List.getElem?_eq_some_iff.1 hu).1
                    rw [flat_len (tf_len t), hfl] at this; omega
                  have h7 := h5 hp
                  subst h7
                  obtain ⟨h8, h9, h10⟩ := Value.slice.inj e
                  subst h8
                  obtain ⟨h11, cur, h12⟩ := row_tag HO.out g rfl
                  have h13 := h6 j u hu
                  have h14 := h2 g (by have := HOB.out; omega)
                  unfold World.cell? at h13 ⊢
                  rw [h14]; exact h13
              have HZ9 : Hid ((((((((((wr.setCell ⟨rb, 0, none⟩ (.string x.nm)).setCell ⟨rb, 1, none⟩ (.bool x.nd)).setCell ⟨rb, 2, none⟩ (.string x.fd)).setCell ⟨rb, 3, none⟩ (.int .i64 x.fr)).setCell ⟨rb, 4, none⟩ (.int .i64 x.tt)).setCell ⟨rb, 5, none⟩ (.int .i64 x.kd)).setCell ⟨rb, 6, none⟩ (.int .i64 x.lf)).setCell ⟨rb, 7, none⟩ (.slice ka i kc)).setCell ⟨rb, 8, none⟩ (.int .i64 (a : Int))).heap[rb]? = some (.cells #[.string x.nm, .bool x.nd, .string x.fd, .int .i64 x.fr, .int .i64 x.tt, .int .i64 x.kd, .int .i64 x.lf, .slice ka i kc, .int .i64 (a : Int)] 112 (0, 0))) := put9_heap HZ.out
              have HGB : Hid (wr.grownBy (((((((((wr.setCell ⟨rb, 0, none⟩ (.string x.nm)).setCell ⟨rb, 1, none⟩ (.bool x.nd)).setCell ⟨rb, 2, none⟩ (.string x.fd)).setCell ⟨rb, 3, none⟩ (.int .i64 x.fr)).setCell ⟨rb, 4, none⟩ (.int .i64 x.tt)).setCell ⟨rb, 5, none⟩ (.int .i64 x.kd)).setCell ⟨rb, 6, none⟩ (.int .i64 x.lf)).setCell ⟨rb, 7, none⟩ (.slice ka i kc)).setCell ⟨rb, 8, none⟩ (.int .i64 (a : Int))) (some rb)) := (((((((grown_set.trans grown_set).trans grown_set).trans grown_set).trans grown_set).trans grown_set).trans grown_set).trans grown_set).trans grown_set
              have HBZ : Hid (Below w.heap.size w (((((((((wr.setCell ⟨rb, 0, none⟩ (.string x.nm)).setCell ⟨rb, 1, none⟩ (.bool x.nd)).setCell ⟨rb, 2, none⟩ (.string x.fd)).setCell ⟨rb, 3, none⟩ (.int .i64 x.fr)).setCell ⟨rb, 4, none⟩ (.int .i64 x.tt)).setCell ⟨rb, 5, none⟩ (.int .i64 x.kd)).setCell ⟨rb, 6, none⟩ (.int .i64 x.lf)).setCell ⟨rb, 7, none⟩ (.slice ka i kc)).setCell ⟨rb, 8, none⟩ (.int .i64 (a : Int)))) := HBW.out.1.grown HGB.out HBW.out.1.size (fun r hr => by cases hr; exact HRL.out)
              have HGZ : Hid (∀ g, g ≠ rb → (((((((((wr.setCell ⟨rb, 0, none⟩ (.string x.nm)).setCell ⟨rb, 1, none⟩ (.bool x.nd)).setCell ⟨rb, 2, none⟩ (.string x.fd)).setCell ⟨rb, 3, none⟩ (.int .i64 x.fr)).setCell ⟨rb, 4, none⟩ (.int .i64 x.tt)).setCell ⟨rb, 5, none⟩ (.int .i64 x.kd)).setCell ⟨rb, 6, none⟩ (.int .i64 x.lf)).setCell ⟨rb, 7, none⟩ (.slice ka i kc)).setCell ⟨rb, 8, none⟩ (.int .i64 (a : Int))).heap[g]? = wr.heap[g]?) := fun g hg => by
                rw [Below.heap_setCell _ ⟨rb, 8, none⟩ _ g hg, Below.heap_setCell _ ⟨rb, 7, none⟩ _ g hg, Below.heap_setCell _ ⟨rb, 6, none⟩ _ g hg, Below.heap_setCell _ ⟨rb, 5, none⟩ _ g hg, Below.heap_setCell _ ⟨rb, 4, none⟩ _ g hg, Below.heap_setCell _ ⟨rb, 3, none⟩ _ g hg, Below.heap_setCell _ ⟨rb, 2, none⟩ _ g hg, Below.heap_setCell _ ⟨rb, 1, none⟩ _ g hg, Below.heap_setCell _ ⟨rb, 0, none⟩ _ g hg]
              have HTKR : Hid (Tkr w.heap.size (((((((((wr.setCell ⟨rb, 0, none⟩ (.string x.nm)).setCell ⟨rb, 1, none⟩ (.bool x.nd)).setCell ⟨rb, 2, none⟩ (.string x.fd)).setCell ⟨rb, 3, none⟩ (.int .i64 x.fr)).setCell ⟨rb, 4, none⟩ (.int .i64 x.tt)).setCell ⟨rb, 5, none⟩ (.int .i64 x.kd)).setCell ⟨rb, 6, none⟩ (.int .i64 x.lf)).setCell ⟨rb, 7, none⟩ (.slice ka i kc)).setCell ⟨rb, 8, none⟩ (.int .i64 (a : Int))) t a (.tuple #[.agg (tA x (.slice ka i kc) (a : Int)), .int .i64 (q : Int), .bool true])) := by
                unfold Tkr
                rw [HYS.out]
                refine ⟨.slice ka i kc, ?_, HTR.out _ HGB.out.size HGZ.out⟩
                rw [HXX.out, show a + (q - a) = q by have h7 := HQ.out.2.1; omega]
              clear HTR HGZ HGB
              go_wp2_with fail
              (try simp only [Exit.inBlock, Exit.then])
              exact bodyPost_ret (v := .tuple #[.agg (tA x (.slice ka i kc) (a : Int)), .int .i64 (q : Int), .bool true]) (res9 rfl rfl rfl HZ9.out ⟨_, _, _, rfl⟩) rfl ⟨_, rfl, HTKR.out, HBZ.out⟩
    · have e1 : decide ((n : Int) ≤ (a : Int)) = true := by rw [decide_eq_true_eq]; omega
      have e2 : decide (n ≤ a) = true := by rw [decide_eq_true_eq]; omega
      have HNO : Hid (stx ((kds t).drop a) 1 = none) := by rw [List.drop_of_length_le (by rw [kds_len, HN.out]; omega)]; exact rfl
      clear hal
      go_wp2_with fail
      (try simp only [Exit.inBlock, Exit.then])
      have z0 := blk_set (k := 0) (.string ⟨#[]⟩) HX1.out
      have z1 := blk_set (k := 1) (.bool false) z0
      have z2 := blk_set (k := 2) (.string ⟨#[]⟩) z1
      have z3 := blk_set (k := 3) (.int .i64 0) z2
      have z4 := blk_set (k := 4) (.int .i64 0) z3
      have z5 := blk_set (k := 5) (.int .i64 0) z4
      have z6 := blk_set (k := 6) (.int .i64 0) z5
      have z7 := blk_set (k := 7) (.slice none 0 0) z6
      have z8 := blk_set (k := 8) (.int .i64 0) z7
      refine bodyPost_ret (v := .tuple #[.agg (tA ndd (.slice none 0 0) 0), .int .i64 (a : Int), .bool false]) (res9 rfl rfl rfl z8 ⟨_, _, _, rfl⟩) rfl ⟨_, rfl, by unfold Tkr; rw [HNO.out], bel_put (bel_put (bel_put (bel_put (bel_put (bel_put (bel_put (bel_put (bel_put HB1.out HRL.out) HRL.out) HRL.out) HRL.out) HRL.out) HRL.out) HRL.out) HRL.out) HRL.out⟩
end Go.Proofs.Ytbkhhegmmkcbbaa
