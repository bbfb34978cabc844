import Derived.Test.YtbkhhegmmkcbbaaSra
import Derived.Test.YtbkhhegmmkcbbaaPrc
namespace Go.Proofs.Ytbkhhegmmkcbbaa
open Go.RowKit Go.Maps

/-- How many of the nodes' places are above a place. -/
def cnt (T : List Nd) (z : Int) : Nat := (T.flatMap fun n => [n.fr, n.tt]).countP fun p => decide (z < p)
theorem cnt_le (T : List Nd) (z : Int) : cnt T z ≤ 2 * T.length := by
  have h1 : ∀ T : List Nd, (T.flatMap fun n => [n.fr, n.tt]).length = 2 * T.length := fun T => by
    induction T with
    | nil => rfl
    | cons a T ih => rw [List.flatMap_cons, List.length_append, ih]; simp; omega
  rw [← h1 T]
  exact List.countP_le_length
theorem countP_lt' {z b : Int} (h : z < b) : ∀ l : List Int, l.countP (fun p => decide (b < p)) ≤ l.countP (fun p => decide (z < p)) ∧ (b ∈ l → l.countP (fun p => decide (b < p)) + 1 ≤ l.countP (fun p => decide (z < p)))
  | [] => ⟨Nat.le_refl _, fun k => by cases k⟩
  | x :: l => by
    obtain ⟨i1, i2⟩ := countP_lt' h l
    rw [List.countP_cons, List.countP_cons]
    have hx : (if decide (b < x) = true then 1 else 0) ≤ (if decide (z < x) = true then 1 else 0) := by
      by_cases k : b < x
      · rw [if_pos (decide_eq_true k), if_pos (decide_eq_true (by omega))]; exact Nat.le_refl _
      · rw [if_neg (by rw [decide_eq_true_eq]; exact k)]; exact Nat.zero_le _
    refine ⟨by omega, fun k => ?_⟩
    rcases List.mem_cons.1 k with rfl | k
    · rw [if_neg (by rw [decide_eq_true_eq]; omega), if_pos (decide_eq_true h)]; omega
    · have := i2 k; omega
theorem cnt_lt {T : List Nd} {z b : Int} (h : z < b) (hb : ∃ n ∈ T, b = n.fr ∨ b = n.tt) : cnt T b + 1 ≤ cnt T z := by
  refine (countP_lt' h _).2 ?_
  obtain ⟨n, hn, k⟩ := hb
  exact List.mem_flatMap.2 ⟨n, hn, by rcases k with k | k <;> rw [k] <;> simp⟩
theorem pth_same {t : List Nd} {y z : Int} (h : ∀ n ∈ t, cvr n y = cvr n z) : ∀ (f a k : Nat) (o : List Int), pth t y f a k o = pth t z f a k o
  | 0, _, _, _ => rfl
  | f + 1, a, k, o => by
    have e : cvr (t.getD a ndd) y = cvr (t.getD a ndd) z := by
      by_cases ha : a < t.length
      · exact h _ (mem_getD t ndd a ha)
      · rw [List.getD_eq_getElem?_getD, List.getElem?_eq_none (by omega)]
        have h0 : ∀ x : Int, cvr ndd x = false := fun x => by
          show (decide ((0 : Int) ≤ x) && decide (x < (0 : Int))) = false
          by_cases h0 : (0 : Int) ≤ x
          · rw [decide_eq_false (p := x < 0) (by omega), Bool.and_false]
          · rw [decide_eq_false h0]; rfl
        exact (h0 y).trans (h0 z).symm
    unfold pth
    rw [e, pth_same h f, pth_same h f]
theorem pat_same {t : List Nd} {y z : Int} (h : ∀ n ∈ t, cvr n y = cvr n z) : pat t y = pat t z := by
  unfold pat
  split
  · rfl
  · exact pth_same h _ _ _ _
/-- Up to the next place a class stays. -/
theorem cz_next {C : ByteArray → Option ByteArray} {T : List Nd} {z b : Int} (hz : 0 ≤ z) (h : nxt T z = (b, true)) {y : Int} (h1 : z ≤ y) (h2 : y < b) : cz C T y = cz C T z := by
  have hn := (nxt_is T z).1
  rw [h] at hn
  unfold cz
  rw [if_neg (by omega), if_neg (by omega), pat_same (t := T) (y := y) (z := z) fun n hn' => ?_]
  obtain ⟨k1, k2⟩ := hn n hn'
  dsimp only at k1 k2
  unfold cvr
  have e1 : (n.fr ≤ y) ↔ (n.fr ≤ z) := ⟨fun g => by
    rcases Int.lt_or_le z n.fr with q | q
    · have := (k1 q).2; omega
    · exact q, fun g => by omega⟩
  have e2 : (y < n.tt) ↔ (z < n.tt) := ⟨fun g => by omega, fun g => by have := (k2 g).2; omega⟩
  rw [decide_eq_decide.2 e1, decide_eq_decide.2 e2]
theorem cz_last {C : ByteArray → Option ByteArray} {T : List Nd} {z b : Int} (h : nxt T z = (b, false)) {y : Int} (h1 : z ≤ y) : cz C T y = ⟨#[]⟩ := by
  have hn := (nxt_is T z).1
  rw [h] at hn
  unfold cz
  split
  · rfl
  · rw [pat_no fun n hn' => ?_]
    · rfl
    · unfold cvr
      have : ¬(y < n.tt) := fun g => by have := ((hn n hn').2 (by omega)).1; cases this
      rw [decide_eq_false this, Bool.and_false]
/-- The spans up to a place. -/
structure Upto (C : ByteArray → Option ByteArray) (T : List Nd) (O : List Sn) (z : Int) : Prop where
  can : Can (fun y => if y < z then cz C T y else ⟨#[]⟩) O
  le : ∀ x ∈ O, x.tt ≤ z
  nn : 0 ≤ z ∧ z ≤ 9223372036854775807
  len : O.length + cnt T z ≤ 2 * T.length
theorem Upto.start (C : ByteArray → Option ByteArray) (T : List Nd) : Upto C T [] 0 := ⟨Can.nil fun y => by
  split
  · next h => unfold cz; rw [if_pos h]
  · rfl, fun x hx => (by cases hx), ⟨by decide, by decide⟩, by have := cnt_le T 0; simp; exact this⟩
theorem Upto.done {C : ByteArray → Option ByteArray} {T : List Nd} {O : List Sn} {z b : Int} (h : Upto C T O z) (hn : nxt T z = (b, false)) : Can (cz C T) O := h.can.congr fun y => by
  split
  · rfl
  · exact (cz_last hn (by omega)).symm
theorem nxt_some {T : List Nd} {z b : Int} (hn : nxt T z = (b, true)) : z < b ∧ ∃ n ∈ T, b = n.fr ∨ b = n.tt := by
  have h1 := (nxt_is T z).2
  rw [hn] at h1
  exact h1 rfl
theorem Upto.same {C : ByteArray → Option ByteArray} {T : List Nd} (hI : ∀ n ∈ T, inI n.fr ∧ inI n.tt ∧ inI n.kd) {O : List Sn} {z b : Int} (h : Upto C T O z) (hn : nxt T z = (b, true)) (hc : cz C T z = ⟨#[]⟩) : Upto C T O b := by
  obtain ⟨h1, h2⟩ := nxt_some hn
  have h3 := cnt_lt h1 h2
  have h4 := h.nn
  have h5 := h.len
  refine ⟨h.can.congr fun y => ?_, fun x hx => by have := h.le x hx; omega, ?_, by omega⟩
  · by_cases g1 : y < z
    · rw [if_pos g1, if_pos (by omega)]
    · rw [if_neg g1]
      split
      · next g2 => rw [cz_next h4.1 hn (by omega) g2, hc]
      · rfl
  · obtain ⟨n, hn', k⟩ := h2
    obtain ⟨⟨_, i1⟩, ⟨_, i2⟩, _⟩ := hI n hn'
    rcases k with k | k <;> rw [k] at h1 ⊢ <;> omega
theorem Upto.more {C : ByteArray → Option ByteArray} {T : List Nd} (hI : ∀ n ∈ T, inI n.fr ∧ inI n.tt ∧ inI n.kd) {O : List Sn} {z b : Int} {c : ByteArray} (h : Upto C T O z) (hn : nxt T z = (b, true)) (hc : cz C T z = c) (hne : c ≠ ⟨#[]⟩) : Upto C T (jn O ⟨z, b, c⟩) b := by
  obtain ⟨h1, h2⟩ := nxt_some hn
  have h3 := cnt_lt h1 h2
  have h4 := h.nn
  have h5 := h.len
  obtain ⟨k1, k2⟩ := Can.jn (s := ⟨z, b, c⟩) h.can h.le h1 hne
  have h6 := jn_len O ⟨z, b, c⟩
  refine ⟨k1.congr fun y => ?_, k2, ?_, by omega⟩
  · (try dsimp only)
    by_cases g1 : y < z
    · rw [if_neg (show ¬(z ≤ y ∧ y < b) by omega), if_pos g1, if_pos (show y < b by omega)]
    · by_cases g2 : y < b
      · rw [if_pos (show z ≤ y ∧ y < b by omega), if_pos g2, cz_next h4.1 hn (by omega) g2, hc]
      · rw [if_neg (show ¬(z ≤ y ∧ y < b) by omega), if_neg g1, if_neg g2]
  · obtain ⟨n, hn', k⟩ := h2
    obtain ⟨⟨_, i1⟩, ⟨_, i2⟩, _⟩ := hI n hn'
    rcases k with k | k <;> rw [k] at h1 ⊢ <;> omega
set_option maxRecDepth 100000 in
set_option maxHeartbeats 16000000 in
/-- The reference's Spans. -/
theorem rspans_any {v u : Value} {L : List Pa} {T : List Nd} (w : World) (h : Pl w v L) (hT : Ns w u T) (hz : Zp L T) (hI : ∀ n ∈ T, inI n.fr ∧ inI n.tt ∧ inI n.kd) : Calls Try.prog 14 #[.agg (lgA v), u] w fun e w' => ∃ vo, e = .returned vo ∧ w'.ownsRow w.heap.size 46 3 vo (spn (lcl L) T).length (flat snf (spn (lcl L) T)) ∧ Below w.heap.size w w' := by
  obtain ⟨iS, hiS, hs0, hs1, hs2⟩ := info_parts infoSn
  have HP : Hid (Pl w v L) := h
  have HT : Hid (Ns w u T) := hT
  have HZ : Hid (Zp L T) := hz
  have HI : Hid (∀ n ∈ T, inI n.fr ∧ inI n.tt ∧ inI n.kd) := hI
  obtain ⟨pa, pc, rfl⟩ := h.form
  obtain ⟨ta, tc, rfl⟩ := hT.form
  obtain ⟨m, hmm⟩ : ∃ m, L.length = m := ⟨_, rfl⟩
  obtain ⟨n, hnn⟩ : ∃ n, T.length = n := ⟨_, rfl⟩
  have HN : Hid (T.length = n ∧ n * 72 + 4096 ≤ 140737488355328) := ⟨hnn, by have h9 := hz.tl; unfold Sm at h9; rw [hnn] at h9; exact h9⟩
  rw [hmm] at HP ⊢
  rw [hnn] at HT ⊢
  have HSP : Hid (Can (cz (lcl L) T) (spn (lcl L) T)) := spn_can (by have h9 := hz.tl; unfold Sm at h9; omega) hI
  obtain ⟨X, hX⟩ : ∃ X, spn (lcl L) T = X := ⟨_, rfl⟩
  rw [hX] at HSP
  rw [hX]
  have HAF : Hid (∀ (W : World) (z : Int), Below w.heap.size w W → Calls Try.prog 23 #[.slice ta n tc, .int .i64 z] W fun e w' => e = .returned (.tuple #[.int .i64 (nxt T z).1, .bool (nxt T z).2]) ∧ Below W.heap.size W w') := fun W z hW => after_any W (HT.out.up hW) HZ.out.tl z
  have HCL : Hid (∀ (W : World) (z : Int) (c : ByteArray), cz (lcl L) T z = c → Below w.heap.size w W → Calls Try.prog 24 #[.agg #[.string ⟨#[]⟩, .slice none 0 0, .slice none 0 0, .slice none 0 0, .slice none 0 0, .slice none 0 0, .slice none 0 0, .slice none 0 0, .slice pa m pc, .slice none 0 0, .slice none 0 0, .slice none 0 0], .slice ta n tc, .int .i64 z] W fun e w' => e = .returned (.string c) ∧ Below W.heap.size W w') := fun W z c hc hW => by
    have h9 := rclass_any W (HP.out.up hW) (HT.out.up hW) HZ.out z
    rw [cls_cz, hc] at h9
    exact h9
  clear h hT hz hI hmm hnn hX
  unfold lgA
  go_enter Try.func14, Try.ntmps14
  go_upto_region 1 with fail
  obtain ⟨w1, hw1⟩ : ∃ w1, w1 = w.alloc (.cells #[.string ⟨#[]⟩, .slice none 0 0, .slice none 0 0, .slice none 0 0, .slice none 0 0, .slice none 0 0, .slice none 0 0, .slice none 0 0, .slice pa m pc, .slice none 0 0, .slice none 0 0, .slice none 0 0] 41) := ⟨_, rfl⟩
  obtain ⟨lb, hlb⟩ : ∃ lb, w.heap.size = lb := ⟨_, rfl⟩
  have h3 : w1.heap[lb]? = some (.cells #[.string ⟨#[]⟩, .slice none 0 0, .slice none 0 0, .slice none 0 0, .slice none 0 0, .slice none 0 0, .slice none 0 0, .slice none 0 0, .slice pa m pc, .slice none 0 0, .slice none 0 0, .slice none 0 0] 41 (0, 0)) := by rw [hw1, ← hlb]; exact heap_new w _
  have HB1 : Hid (Below w.heap.size w w1) := by rw [hw1]; exact bel_up _ _
  have HLC : Hid (∀ W, Below w1.heap.size w1 W → W.cell? ⟨lb, 0, none⟩ = some (.string ⟨#[]⟩) ∧ W.cell? ⟨lb, 1, none⟩ = some (.slice none 0 0) ∧ W.cell? ⟨lb, 2, none⟩ = some (.slice none 0 0) ∧ W.cell? ⟨lb, 3, none⟩ = some (.slice none 0 0) ∧ W.cell? ⟨lb, 4, none⟩ = some (.slice none 0 0) ∧ W.cell? ⟨lb, 5, none⟩ = some (.slice none 0 0) ∧ W.cell? ⟨lb, 6, none⟩ = some (.slice none 0 0) ∧ W.cell? ⟨lb, 7, none⟩ = some (.slice none 0 0) ∧ W.cell? ⟨lb, 8, none⟩ = some (.slice pa m pc) ∧ W.cell? ⟨lb, 9, none⟩ = some (.slice none 0 0) ∧ W.cell? ⟨lb, 10, none⟩ = some (.slice none 0 0) ∧ W.cell? ⟨lb, 11, none⟩ = some (.slice none 0 0)) := fun W hW => ⟨below_cell hW (rcell h3 0 _ rfl), below_cell hW (rcell h3 1 _ rfl), below_cell hW (rcell h3 2 _ rfl), below_cell hW (rcell h3 3 _ rfl), below_cell hW (rcell h3 4 _ rfl), below_cell hW (rcell h3 5 _ rfl), below_cell hW (rcell h3 6 _ rfl), below_cell hW (rcell h3 7 _ rfl), below_cell hW (rcell h3 8 _ rfl), below_cell hW (rcell h3 9 _ rfl), below_cell hW (rcell h3 10 _ rfl), below_cell hW (rcell h3 11 _ rfl)⟩
  obtain ⟨N, hNN⟩ : ∃ N, w1.heap.size = N := ⟨_, rfl⟩
  have HNL : Hid (w.heap.size ≤ N ∧ w1.heap.size = N) := ⟨by rw [← hNN]; exact HB1.out.size, hNN⟩
  rw [← hw1]
  rw [hlb]
  rw [hNN] at HLC
  clear hw1 hlb h3 hNN
  go_upto_region 3 with fail
  go_loopg [5, 6] (cnt T 0) (fun gm v5 v6 wr => ∃ (O : List Sn) (z : Int), v6 = .int .i64 z ∧ Hid (gm = cnt T z) ∧ Hid (wr.ownsRow N 46 3 v5 O.length (flat snf O)) ∧ Hid (Upto (lcl L) T O z) ∧ Hid (Below N w1 wr))
  case atStart => exact ⟨[], 0, rfl, rfl, ⟨rfl, .inl ⟨rfl, rfl⟩⟩, Upto.start _ _, by rw [← HNL.out.2]; exact Below.refl _ _⟩
  case round =>
    obtain ⟨O, z, rfl, HG, HO, HU, HB⟩ := hrel
    obtain ⟨w2, hw2⟩ : ∃ w2, w2 = wr := ⟨_, rfl⟩
    rw [← hw2] at HO HB ⊢
    clear hw2
    obtain ⟨va, vc, e9⟩ := row_shape HO.out
    subst e9
    obtain ⟨k, hk⟩ : ∃ k, O.length = k := ⟨_, rfl⟩
    obtain ⟨ys, hys⟩ : ∃ ys, flat snf O = ys := ⟨_, rfl⟩
    have HKL : Hid (O.length = k ∧ flat snf O = ys) := ⟨hk, hys⟩
    have HKN : Hid (k < 4398046511104) := by show _ < _; have h1 := HU.out.len; have := HN.out; rw [hk] at h1; omega
    rw [hk, hys] at HO
    rw [hk]
    clear hk hys
    obtain ⟨b, hb⟩ : ∃ b, (nxt T z).1 = b := ⟨_, rfl⟩
    obtain ⟨f, hf⟩ : ∃ f, (nxt T z).2 = f := ⟨_, rfl⟩
    have HX : Hid (nxt T z = (b, f)) := by show _ = _; rw [← hb, ← hf]
    have HAW : Hid (Calls Try.prog 23 #[.slice ta n tc, .int .i64 z] w2 fun e w' => e = .returned (.tuple #[.int .i64 b, .bool f]) ∧ Below w2.heap.size w2 w') := by
      have h9 := HAF.out w2 z (below_trans HB1.out (by rw [HNL.out.2]; exact HB.out))
      rw [hb, hf] at h9
      exact h9
    clear hb hf
    have HSZ : Hid (N ≤ w2.heap.size) := by show _ ≤ _; have := HB.out.size; have := HNL.out.2; omega
    go_upto_if 18 with (go_at_call 23; refine Calls.mono HAW.out ?_; rintro e w3 ⟨rfl, hb⟩; have HB3 : Hid (Below w2.heap.size w2 w3) := hb; clear hb)
    clear HAW
    have HO3 : Hid (w3.ownsRow N 46 3 (.slice va k vc) k ys) := row_up HO.out HB3.out
    have HBW3 : Hid (Below N w1 w3) := HB.out.trans (HB3.out.mono HSZ.out)
    have HSZ3 : Hid (N ≤ w3.heap.size) := by have := HB3.out.size; have := HSZ.out; show _ ≤ _; omega
    clear HO HB HB3 HSZ
    cases f with
    | false =>
      have HE : Hid (O = X) := Can.uniq (HU.out.done HX.out) HSP.out
      go_wp2_with fail
      go_ret
      refine ⟨_, rfl, ?_, below_trans HB1.out (by rw [HNL.out.2]; exact HBW3.out)⟩
      rw [← HE.out, HKL.out.1, HKL.out.2]
      exact row_base HO3.out HNL.out.1
    | true =>
      obtain ⟨c, hc⟩ : ∃ c, cz (lcl L) T z = c := ⟨_, rfl⟩
      have HC : Hid (cz (lcl L) T z = c) := hc
      have HCT : Hid (cnt T b + 1 ≤ cnt T z) := cnt_lt (nxt_some HX.out).1 (nxt_some HX.out).2
      have HCW : Hid _ := HCL.out w3 z c hc (below_trans HB1.out (by rw [HNL.out.2]; exact HBW3.out))
      obtain ⟨c0, c1, c2, c3, c4, c5, c6, c7, c8, c9, c10, c11⟩ := HLC.out w3 HBW3.out
      clear hc
      go_upto_region 7 with (go_at_call 24; refine Calls.mono HCW.out ?_; rintro e w4 ⟨rfl, hb⟩; have HB4 : Hid (Below w3.heap.size w3 w4) := hb; clear hb)
      clear HCW c0 c1 c2 c3 c4 c5 c6 c7 c8 c9 c10 c11
      have HO4 : Hid (w4.ownsRow N 46 3 (.slice va k vc) k ys) := row_up HO3.out HB4.out
      have HBW4 : Hid (Below N w1 w4) := HBW3.out.trans (HB4.out.mono HSZ3.out)
      have HSZ4 : Hid (N ≤ w4.heap.size) := by have := HB4.out.size; have := HSZ3.out; show _ ≤ _; omega
      clear HO3 HBW3 HSZ3 HB4
      by_cases hz : c = ⟨#[]⟩
      · have HU2 : Hid (Upto (lcl L) T O b) := HU.out.same HI.out HX.out (by rw [HC.out]; exact hz)
        subst hz
        go_wp2_with fail
        go_roundg (cnt T b)
        case measure => have := HG.out; have := HCT.out; omega
        case rel => exact ⟨O, b, rfl, rfl, by rw [HKL.out.1, HKL.out.2]; exact HO4.out, HU2.out, HBW4.out⟩
      · have f1 : (c.toList == (⟨#[]⟩ : ByteArray).toList) = false := by rw [str_eq]; exact decide_eq_false hz
        have f3 : (!c.toList.isEmpty) = true := by rw [ne_emp f1]; rfl
        have f4 : c.toList.isEmpty = false := ne_emp f1
        have HU2 : Hid (Upto (lcl L) T (jn O ⟨z, b, c⟩) b) := HU.out.more HI.out HX.out HC.out hz
        rcases List.eq_nil_or_concat O with hz0 | ⟨O', x, hz0⟩
        · have hk0 : k = 0 := by rw [← HKL.out.1, hz0]; rfl
          subst hk0
          have HJN : Hid (jn O ⟨z, b, c⟩ = O ++ [⟨z, b, c⟩]) := by show _ = _; rw [hz0]; rfl
          clear hz hz0 f1
          have h0 : IntKind.i64.wrap (((0 : Nat) : Int) - 1) = -1 := by decide
          have h1 : decide ((0 : Int) ≤ -1) = false := by decide
          have HMX : Hid (0 + 1 ≤ maxLen ∧ (0 + 1) * 32 ≤ 140737488355328) := by have h8 := HKN.out; exact ⟨by unfold maxLen; omega, by omega⟩
          go_wp2_with (at_builtin; refine wpList_append_own_at _ rfl _ _ 43 rfl N 46 iS _ 3 32 Try.underlying43 hiS hs0 hs1 hs2 rfl (by decide) (.slice va 0 vc) 0 ys rfl (row_up HO4.out (bel_up _ _)) ⟨w4.heap.size, 0, none⟩ 1 1 [.int .i64 z, .int .i64 b, .string c] rfl rfl (World.news_of_block (heap_new _ _)) (fun u hu => snf_one ⟨z, b, c⟩ u hu) HMX.out.1 HMX.out.2 (by have := HSZ4.out; simp; omega) ?_; intro v7 w7 ho7 hg7 _ _; have HO7 : Hid (w7.ownsRow N 46 3 v7 (0 + 1) (ys ++ [.int .i64 z, .int .i64 b, .string c])) := ho7; have HG7 : Hid ((w4.alloc (.cells #[.int .i64 z, .int .i64 b, .string c] 46)).grownBy w7 ((.slice va 0 vc) : Value).ownBlock) := hg7; clear ho7 hg7)
          go_roundg (cnt T b)
          case measure => have := HG.out; have := HCT.out; omega
          case rel =>
            refine ⟨jn O ⟨z, b, c⟩, b, rfl, rfl, ?_, HU2.out, (HBW4.out.alloc HSZ4.out _).grown HG7.out (by have := HSZ4.out; simp; omega) (fun rr e => (HO4.out.lt rr e).1)⟩
            show World.ownsRow _ _ _ _ _ _ _
            rw [HJN.out, List.length_append, flat_app]
            show World.ownsRow _ _ _ _ _ (O.length + 1) _
            rw [HKL.out.1, HKL.out.2]
            exact HO7.out
        · rw [List.concat_eq_append] at hz0
          obtain ⟨mm, hm⟩ : ∃ mm, O'.length = mm := ⟨_, rfl⟩
          have hkm : k = mm + 1 := by rw [← HKL.out.1, hz0, List.length_append, hm]; rfl
          have HKM : Hid (k = mm + 1) := hkm
          obtain ⟨g, cap, e, hg, -, -⟩ := row_form HO4.out (by omega)
          obtain ⟨rfl, -, rfl⟩ := Value.slice.inj e
          have HGO : Hid (N ≤ g) := hg
          have HJ0 : Hid (jn O ⟨z, b, c⟩ = if x.tt = z ∧ x.cl = c then O' ++ [⟨x.fr, b, x.cl⟩] else O ++ [⟨z, b, c⟩]) := by show _ = _; rw [hz0]; exact jn_app O' x ⟨z, b, c⟩
          have HYC : ∀ j u, (snf x)[j]? = some u → ys[mm * 3 + j]? = some u := fun j u hu => by
            have h9 := sn_get O' x j u hu
            rw [← hz0, HKL.out.2, hm] at h9
            exact h9
          have HYS : Hid (ys.set (mm * 3 + 1) (.int .i64 b) = flat snf (O' ++ [⟨x.fr, b, x.cl⟩])) := by
            have h9 := sn_set O' x b
            rw [← hz0, HKL.out.2, hm] at h9
            exact h9
          have HML : Hid (O'.length = mm) := hm
          clear e hg hz0 hm hkm hz f1
          have h0 : IntKind.i64.wrap ((k : Int) - 1) = (mm : Int) := by rw [IntKind.wrap_i64]; have := HKN.out; have := HKM.out; omega
          have h1 : decide ((0 : Int) ≤ (mm : Int)) = true := by rw [decide_eq_true_eq]; omega
          have h2 : (0 : Int) ≤ (mm : Int) := by omega
          have h3 : (mm : Int) < (k : Int) := by have := HKM.out; omega
          have h4 : mm < k := by have := HKM.out; omega
          have c1 := row_at HO4.out (mm * 3 + 1) _ (HYC 1 _ rfl)
          have c2 := row_at HO4.out (mm * 3 + 2) _ (HYC 2 _ rfl)
          have fz := row_frz HO4.out (mm * 3 + 1)
          by_cases h5 : x.tt = z
          · have f5 : (x.tt == z) = true := by rw [beq_iff_eq]; exact h5
            have f5' : decide (x.tt = z) = true := decide_eq_true h5
            by_cases h6 : x.cl = c
            · have f6 : (x.cl.toList == c.toList) = true := by rw [str_eq]; exact decide_eq_true h6
              have HJN : Hid (jn O ⟨z, b, c⟩ = O' ++ [⟨x.fr, b, x.cl⟩]) := HJ0.out.trans (if_pos ⟨h5, h6⟩)
              clear h5 h6 HJ0
              go_wp2_with fail
              go_roundg (cnt T b)
              case measure => have := HG.out; have := HCT.out; omega
              case rel =>
                refine ⟨jn O ⟨z, b, c⟩, b, rfl, rfl, ?_, HU2.out, HBW4.out.grown grown_set HSZ4.out (fun rr e => by cases e; exact HGO.out)⟩
                have h9 := row_set HO4.out (mm * 3 + 1) (.int .i64 b)
                rw [HYS.out] at h9
                rw [HJN.out, List.length_append, HML.out]
                have h8 := HKM.out
                show World.ownsRow _ _ _ _ _ (mm + 1) _
                rw [← h8]
                exact h9
            · have f6 : (x.cl.toList == c.toList) = false := by rw [str_eq]; exact decide_eq_false h6
              have HJN : Hid (jn O ⟨z, b, c⟩ = O ++ [⟨z, b, c⟩]) := HJ0.out.trans (if_neg (fun h => h6 h.2))
              clear h5 h6 HJ0
              have HMX : Hid (k + 1 ≤ maxLen ∧ (k + 1) * 32 ≤ 140737488355328) := by have h8 := HKN.out; exact ⟨by unfold maxLen; omega, by omega⟩
              go_wp2_with (at_builtin; refine wpList_append_own_at _ rfl _ _ 43 rfl N 46 iS _ 3 32 Try.underlying43 hiS hs0 hs1 hs2 rfl (by decide) (.slice (some ⟨g, 0, none⟩) k vc) k ys rfl (row_up HO4.out (bel_up _ _)) ⟨w4.heap.size, 0, none⟩ 1 1 [.int .i64 z, .int .i64 b, .string c] rfl rfl (World.news_of_block (heap_new _ _)) (fun u hu => snf_one ⟨z, b, c⟩ u hu) HMX.out.1 HMX.out.2 (by have := HSZ4.out; simp; omega) ?_; intro v7 w7 ho7 hg7 _ _; have HO7 : Hid (w7.ownsRow N 46 3 v7 (k + 1) (ys ++ [.int .i64 z, .int .i64 b, .string c])) := ho7; have HG7 : Hid ((w4.alloc (.cells #[.int .i64 z, .int .i64 b, .string c] 46)).grownBy w7 ((.slice (some ⟨g, 0, none⟩) k vc) : Value).ownBlock) := hg7; clear ho7 hg7)
              go_roundg (cnt T b)
              case measure => have := HG.out; have := HCT.out; omega
              case rel =>
                refine ⟨jn O ⟨z, b, c⟩, b, rfl, rfl, ?_, HU2.out, (HBW4.out.alloc HSZ4.out _).grown HG7.out (by have := HSZ4.out; simp; omega) (fun rr e => (HO4.out.lt rr e).1)⟩
                show World.ownsRow _ _ _ _ _ _ _
                rw [HJN.out, List.length_append, flat_app]
                show World.ownsRow _ _ _ _ _ (O.length + 1) _
                rw [HKL.out.1, HKL.out.2]
                exact HO7.out
          · have f5 : (x.tt == z) = false := by rw [beq_eq_false_iff_ne]; exact h5
            have f5' : decide (x.tt = z) = false := decide_eq_false h5
            have HJN : Hid (jn O ⟨z, b, c⟩ = O ++ [⟨z, b, c⟩]) := HJ0.out.trans (if_neg (fun h => h5 h.1))
            clear h5 HJ0
            have HMX : Hid (k + 1 ≤ maxLen ∧ (k + 1) * 32 ≤ 140737488355328) := by have h8 := HKN.out; exact ⟨by unfold maxLen; omega, by omega⟩
            go_wp2_with (at_builtin; refine wpList_append_own_at _ rfl _ _ 43 rfl N 46 iS _ 3 32 Try.underlying43 hiS hs0 hs1 hs2 rfl (by decide) (.slice (some ⟨g, 0, none⟩) k vc) k ys rfl (row_up HO4.out (bel_up _ _)) ⟨w4.heap.size, 0, none⟩ 1 1 [.int .i64 z, .int .i64 b, .string c] rfl rfl (World.news_of_block (heap_new _ _)) (fun u hu => snf_one ⟨z, b, c⟩ u hu) HMX.out.1 HMX.out.2 (by have := HSZ4.out; simp; omega) ?_; intro v7 w7 ho7 hg7 _ _; have HO7 : Hid (w7.ownsRow N 46 3 v7 (k + 1) (ys ++ [.int .i64 z, .int .i64 b, .string c])) := ho7; have HG7 : Hid ((w4.alloc (.cells #[.int .i64 z, .int .i64 b, .string c] 46)).grownBy w7 ((.slice (some ⟨g, 0, none⟩) k vc) : Value).ownBlock) := hg7; clear ho7 hg7)
            go_roundg (cnt T b)
            case measure => have := HG.out; have := HCT.out; omega
            case rel =>
              refine ⟨jn O ⟨z, b, c⟩, b, rfl, rfl, ?_, HU2.out, (HBW4.out.alloc HSZ4.out _).grown HG7.out (by have := HSZ4.out; simp; omega) (fun rr e => (HO4.out.lt rr e).1)⟩
              show World.ownsRow _ _ _ _ _ _ _
              rw [HJN.out, List.length_append, flat_app]
              show World.ownsRow _ _ _ _ _ (O.length + 1) _
              rw [HKL.out.1, HKL.out.2]
              exact HO7.out
end Go.Proofs.Ytbkhhegmmkcbbaa
