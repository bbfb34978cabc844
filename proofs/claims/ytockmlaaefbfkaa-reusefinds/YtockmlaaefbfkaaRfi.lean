import Derived.Test.YtockmlaaefbfkaaRnw
namespace Go.Proofs.Ytockmlaaefbfkaa
open Go.RowKit Go.Maps

def lfv (x : Lf) : Value := .agg #[.int .i64 x.t, .int .i64 x.p, .int .i64 x.l, .int .i64 x.k, .int .u64 x.v, .string x.a]
def lfA (x : Lf) : Array Value := #[.int .i64 x.t, .int .i64 x.p, .int .i64 x.l, .int .i64 x.k, .int .u64 x.v, .string x.a]
/-- What Find answers. -/
def fdv : Option Lf → Value
  | some x => .tuple #[lfv x, .bool true]
  | none => .tuple #[lfv lfd, .bool false]
theorem fnd_cons (s : St) (l : List St) (b : ByteArray) (v : Int) : fnd (s :: l) b v = if decide (s.1 = b) && decide (s.2.v = v) then some s.2 else fnd l b v := by
  unfold fnd
  rw [List.find?_cons]
  cases decide (s.1 = b) && decide (s.2.v = v) <;> rfl
theorem put6_heap {W : World} {b : Nat} {x0 x1 x2 x3 x4 x5 : Value} {t : TypeId} (v0 v1 v2 v3 v4 v5 : Value) (h : W.heap[b]? = some (.cells #[x0, x1, x2, x3, x4, x5] t (0, 0))) : ((((((W.setCell ⟨b, 0, none⟩ v0).setCell ⟨b, 1, none⟩ v1).setCell ⟨b, 2, none⟩ v2).setCell ⟨b, 3, none⟩ v3).setCell ⟨b, 4, none⟩ v4).setCell ⟨b, 5, none⟩ v5).heap[b]? = some (.cells #[v0, v1, v2, v3, v4, v5] t (0, 0)) := by
  have h0 := blk_set (k := 0) v0 h
  have h1 := blk_set (k := 1) v1 h0
  have h2 := blk_set (k := 2) v2 h1
  have h3 := blk_set (k := 3) v3 h2
  have h4 := blk_set (k := 4) v4 h3
  have h5 := blk_set (k := 5) v5 h4
  exact h5
theorem put6_bel {B : Nat} {W : World} {b : Nat} {v0 v1 v2 v3 v4 v5 : Value} (hb : B ≤ b) : Below B W ((((((W.setCell ⟨b, 0, none⟩ v0).setCell ⟨b, 1, none⟩ v1).setCell ⟨b, 2, none⟩ v2).setCell ⟨b, 3, none⟩ v3).setCell ⟨b, 4, none⟩ v4).setCell ⟨b, 5, none⟩ v5) :=
  ((((((Below.refl _ _).setCell (p := ⟨b, 0, none⟩) hb v0).setCell (p := ⟨b, 1, none⟩) hb v1).setCell (p := ⟨b, 2, none⟩) hb v2).setCell (p := ⟨b, 3, none⟩) hb v3).setCell (p := ⟨b, 4, none⟩) hb v4).setCell (p := ⟨b, 5, none⟩) hb v5
set_option maxRecDepth 100000 in
theorem resL {tmps : Array Value} {b : Nat} {bb : Bool} (h8 : tmps.getD 8 undef = .pointer (some ⟨b, 0, none⟩)) (h9 : tmps.getD 9 undef = .bool bb) {W : World} {x : Lf} (h : W.heap[b]? = some (.cells (lfA x) 36 (0, 0))) : (results Try.f8 tmps).run Try.prog W = .ok (.tuple #[lfv x, .bool bb]) W := by
  have r0 := rcell h 0 (.int .i64 x.t) rfl
  have r1 := rcell h 1 (.int .i64 x.p) rfl
  have r2 := rcell h 2 (.int .i64 x.l) rfl
  have r3 := rcell h 3 (.int .i64 x.k) rfl
  have r4 := rcell h 4 (.int .u64 x.v) rfl
  have r5 := rcell h 5 (.string x.a) rfl
  unfold lfv
  clear h
  have h8' : (tmps[8]?).getD undef = .pointer (some ⟨b, 0, none⟩) := by simpa using h8
  have h9' : (tmps[9]?).getD undef = .bool bb := by simpa using h9
  simp [results, Try.results8, go_sem, h8', h9', r0, r1, r2, r3, r4, r5]
set_option maxRecDepth 100000 in
set_option maxHeartbeats 8000000 in
theorem standing_any {B p b n : Nat} {f : Int → Value} {S : List (Int × St)} {c : Int} (w : World) (h : Ol B w p b n f S c) : Calls Try.prog 9 #[.pointer (some ⟨p, 0, none⟩)] w fun e w' => e = .returned (.int .i64 c) ∧ w = w' := by
  have p1 := rcell h.h 1 _ rfl
  clear h
  go_enter Try.func9, Try.ntmps9
  go_wp2_with fail
  go_ret
  exact ⟨rfl, rfl⟩
theorem Rw.sts {W : World} {a : Option Addr} {n cap : Nat} {l : List St} (h : Rw W (.slice a n cap) n (flat sf l)) (hn : l.length = n) (i : Nat) (hi : i < n) : ∃ g o, a = some ⟨g, o, none⟩ ∧ ∀ W', Below W.heap.size W W' → (W'.cell? ⟨g, o + i * 7, none⟩ = some (.string (l.getD i std).1) ∧ W'.cell? ⟨g, o + i * 7 + 1, none⟩ = some (.int .i64 (l.getD i std).2.t) ∧ W'.cell? ⟨g, o + i * 7 + 2, none⟩ = some (.int .i64 (l.getD i std).2.p) ∧ W'.cell? ⟨g, o + i * 7 + 3, none⟩ = some (.int .i64 (l.getD i std).2.l) ∧ W'.cell? ⟨g, o + i * 7 + 4, none⟩ = some (.int .i64 (l.getD i std).2.k) ∧ W'.cell? ⟨g, o + i * 7 + 5, none⟩ = some (.int .u64 (l.getD i std).2.v) ∧ W'.cell? ⟨g, o + i * 7 + 6, none⟩ = some (.string (l.getD i std).2.a)) := by
  obtain ⟨g, o, c, e, hc⟩ := h.place (by omega)
  obtain ⟨rfl, -, -⟩ := Value.slice.inj e
  have hi' : i < l.length := by omega
  refine ⟨g, o, rfl, fun W' hW => ⟨?_, ?_, ?_, ?_, ?_, ?_, ?_⟩⟩
  · exact below_cell hW (hc _ _ (flat_get sf_len std l i 0 hi' (by decide)))
  · rw [Nat.add_assoc]; exact below_cell hW (hc _ _ (flat_get sf_len std l i 1 hi' (by decide)))
  · rw [Nat.add_assoc]; exact below_cell hW (hc _ _ (flat_get sf_len std l i 2 hi' (by decide)))
  · rw [Nat.add_assoc]; exact below_cell hW (hc _ _ (flat_get sf_len std l i 3 hi' (by decide)))
  · rw [Nat.add_assoc]; exact below_cell hW (hc _ _ (flat_get sf_len std l i 4 hi' (by decide)))
  · rw [Nat.add_assoc]; exact below_cell hW (hc _ _ (flat_get sf_len std l i 5 hi' (by decide)))
  · rw [Nat.add_assoc]; exact below_cell hW (hc _ _ (flat_get sf_len std l i 6 hi' (by decide)))
set_option maxRecDepth 100000 in
set_option maxHeartbeats 16000000 in
theorem find_any {B p bm n : Nat} {f : Int → Value} {S : List (Int × St)} {c : Int} (w : World) (h : Ol B w p bm n f S c) (k : Int) (hk : wfi k) (b : ByteArray) (v : Int) (hl : (lst S k).length ≤ 140737488355328) (ha : ∀ s ∈ lst S k, s.2.a.size ≤ 140737488355328) :
    Calls Try.prog 8 #[.pointer (some ⟨p, 0, none⟩), .int .i64 k, .string b, .int .u64 v] w fun e w' => e = .returned (fdv (fnd (lst S k) b v)) ∧ Below w.heap.size w w' := by
  obtain ⟨W1, hW1⟩ : ∃ W1, W1 = w.alloc (.cells #[.int .i64 0, .int .i64 0, .int .i64 0, .int .i64 0, .int .u64 0, .string ⟨#[]⟩] 36) := ⟨_, rfl⟩
  have HB1 : Hid (Below w.heap.size w W1) := by rw [hW1]; exact bel_up _ _
  have HX1 : Hid (W1.heap[w.heap.size]? = some (.cells #[.int .i64 0, .int .i64 0, .int .i64 0, .int .i64 0, .int .u64 0, .string ⟨#[]⟩] 36 (0, 0))) := by rw [hW1]; exact heap_new w _
  have h1 := h.up HB1.out
  have p0 := rcell h1.h 0 _ rfl
  have hlk := h1.m.look hk
  have HRO : Hid _ := row_rw (h1.r k hk) (by decide)
  obtain ⟨L, hL⟩ : ∃ L, lst S k = L := ⟨_, rfl⟩
  rw [hL] at HRO hl ha ⊢
  obtain ⟨fa, fc, hfk⟩ := Rw.form HRO.out
  rw [hfk] at hlk HRO
  obtain ⟨m, hm⟩ : ∃ m, L.length = m := ⟨_, rfl⟩
  rw [hm] at hlk HRO hl
  have HM : Hid (L.length = m) := hm
  have HL : Hid (m ≤ 140737488355328) := hl
  have HA : Hid (∀ s ∈ L, s.2.a.size ≤ 140737488355328) := ha
  have HH : Hid (Rw W1 (.slice fa m fc) m (flat sf L)) := HRO.out
  obtain ⟨R, hR⟩ : ∃ R, fnd L b v = R := ⟨_, rfl⟩
  have HR : Hid (fnd L b v = R) := hR
  rw [hR]
  obtain ⟨N, hN⟩ : ∃ N, w.heap.size = N := ⟨_, rfl⟩
  rw [hN] at HX1
  clear h h1 HRO hL hfk hm hl ha hk hR
  go_enter Try.func8, Try.ntmps8
  go_upto_region 1 with fail
  rw [← hW1]
  clear hW1
  go_upto_region 2 with fail
  clear p0 hlk
  go_loopg [20] m (fun gm v20 wr => ∃ (i : Nat), v20 = .int .i64 (i : Int) ∧ Hid (i ≤ m ∧ gm = m - i) ∧ Hid (fnd (L.drop i) b v = R) ∧ Hid (Below W1.heap.size W1 wr))
  case atStart => exact ⟨0, rfl, ⟨Nat.zero_le _, rfl⟩, HR, Below.refl _ _⟩
  case round =>
    obtain ⟨i, rfl, HIX, HF, HB⟩ := hrel
    clear HR
    by_cases hi : i < m
    · have e1 : decide ((i : Int) < (m : Int)) = true := by rw [decide_eq_true_eq]; omega
      have e2 : decide (i < m) = true := by rw [decide_eq_true_eq]; omega
      have b1 : (i : Int) < (m : Int) := by omega
      have b2 : i < m := hi
      have HIM : Hid (i < m) := hi
      have hwi := w64n i (by have := HL.out; omega)
      obtain ⟨g, og, rfl, hc⟩ := Rw.sts HH.out HM.out i hi
      obtain ⟨c0, c1, c2, c3, c4, c5, c6⟩ := hc _ HB.out
      have hdr := drop_cons L std i (by have := HM.out; omega)
      have hxa := HA.out (L.getD i std) (by rw [List.getD_eq_getElem?_getD, List.getElem?_eq_getElem (by have := HM.out; omega)]; exact List.getElem_mem _)
      rw [hdr] at HF
      obtain ⟨x, hx⟩ : ∃ x, L.getD i std = x := ⟨_, rfl⟩
      rw [hx] at c0 c1 c2 c3 c4 c5 c6 hxa HF
      obtain ⟨xb, xt, xp, xl, xk, xv, xa⟩ := x
      dsimp only at c0 c1 c2 c3 c4 c5 c6 hxa
      clear hi hc hx hdr
      by_cases hb : xb = b
      · subst hb
        by_cases hv : xv = v
        · subst hv
          have HRS : Hid (R = some ⟨xt, xp, xl, xk, xv, xa⟩) := by
            show _ = _
            rw [← HF.out, fnd_cons, if_pos (by simp)]
          have HXA : Hid (xa.size ≤ 140737488355328) := hxa
          clear hxa HF
          have q1 : (xv == xv) = true := by simp
          obtain ⟨W2, hW2⟩ : ∃ W2, W2 = (wr.alloc (.cells #[.string xb, .int .i64 xt, .int .i64 xp, .int .i64 xl, .int .i64 xk, .int .u64 xv, .string xa] 65)).alloc (.cells #[.int .i64 xt, .int .i64 xp, .int .i64 xl, .int .i64 xk, .int .u64 xv, .string xa] 36) := ⟨_, rfl⟩
          obtain ⟨q, hq⟩ : ∃ q, wr.heap.size = q := ⟨_, rfl⟩
          have HX2 : Hid (W2.heap[q + 1]? = some (.cells #[.int .i64 xt, .int .i64 xp, .int .i64 xl, .int .i64 xk, .int .u64 xv, .string xa] 36 (0, 0))) := by
            show _ = _
            have h1 := heap_new (wr.alloc (.cells #[.string xb, .int .i64 xt, .int .i64 xp, .int .i64 xl, .int .i64 xk, .int .u64 xv, .string xa] 65)) (.cells #[.int .i64 xt, .int .i64 xp, .int .i64 xl, .int .i64 xk, .int .u64 xv, .string xa] 36)
            rw [show (wr.alloc (.cells #[.string xb, .int .i64 xt, .int .i64 xp, .int .i64 xl, .int .i64 xk, .int .u64 xv, .string xa] 65)).heap.size = wr.heap.size + 1 by simp] at h1
            rw [hW2, ← hq]; exact h1
          have HB2 : Hid (Below W1.heap.size W1 W2) := by rw [hW2]; exact below_trans HB.out (below_trans (bel_up _ _) (bel_up _ _))
          have HY2 : Hid (W2.heap[N]? = some (.cells #[.int .i64 0, .int .i64 0, .int .i64 0, .int .i64 0, .int .u64 0, .string ⟨#[]⟩] 36 (0, 0))) := (HB2.out.block _ (lt_of_heap HX1.out)).trans HX1.out
          have HNQ : Hid (N < q + 1 ∧ N ≤ q) := by have h1 := HB1.out.size; have h2 := HB.out.size; have h3 := lt_of_heap HX1.out; exact ⟨by omega, by omega⟩
          go_upto_region 6 with fail
          rw [← hW2]
          clear hW2 hq c0 c1 c2 c3 c4 c5 c6 q1
          have x5 := rcell HX2.out 5 _ rfl
          go_upto_region 7 with (go_at_call 19; refine Calls.mono (clone_any xa _ HXA.out) ?_; rintro ee W3 ⟨rfl, hb3⟩; have HX3 : Hid (W3.heap[q + 1]? = some (.cells #[.int .i64 xt, .int .i64 xp, .int .i64 xl, .int .i64 xk, .int .u64 xv, .string xa] 36 (0, 0))) := (hb3.block _ (lt_of_heap HX2.out)).trans HX2.out; have HY3 : Hid (W3.heap[N]? = some (.cells #[.int .i64 0, .int .i64 0, .int .i64 0, .int .i64 0, .int .u64 0, .string ⟨#[]⟩] 36 (0, 0))) := (hb3.block _ (lt_of_heap HY2.out)).trans HY2.out; have HB3 : Hid (Below W1.heap.size W1 W3) := below_trans HB2.out hb3; clear hb3 x5; have x5 := rcell HX3.out 5 _ rfl; have f5 := Lib.frozen_of_heap HX3.out 5)
          clear x5 f5 HX2 HY2 HB2
          obtain ⟨W4, hW4⟩ : ∃ W4, W4 = W3.setCell ⟨q + 1, 5, none⟩ (.string xa) := ⟨_, rfl⟩
          have HX4 : Hid (W4.heap[q + 1]? = some (.cells #[.int .i64 xt, .int .i64 xp, .int .i64 xl, .int .i64 xk, .int .u64 xv, .string xa] 36 (0, 0))) := by rw [hW4]; exact blk_set _ HX3.out
          have HY4 : Hid (W4.heap[N]? = some (.cells #[.int .i64 0, .int .i64 0, .int .i64 0, .int .i64 0, .int .u64 0, .string ⟨#[]⟩] 36 (0, 0))) := by
            show _ = _
            rw [hW4, Below.heap_setCell _ _ _ _ (by have := HNQ.out; show N ≠ q + 1; omega)]; exact HY3.out
          have HB4 : Hid (Below w.heap.size w W4) := by rw [hW4]; exact (below_trans HB1.out HB3.out).setCell (by have := HNQ.out; show _ ≤ q + 1; omega) _
          rw [← hW4]
          clear hW4 HX3 HY3 HB3
          have x0 := rcell HX4.out 0 _ rfl; have x1 := rcell HX4.out 1 _ rfl; have x2 := rcell HX4.out 2 _ rfl; have x3 := rcell HX4.out 3 _ rfl; have x4 := rcell HX4.out 4 _ rfl; have x5 := rcell HX4.out 5 _ rfl
          have y0 := rcell HY4.out 0 _ rfl; have y1 := rcell HY4.out 1 _ rfl; have y2 := rcell HY4.out 2 _ rfl; have y3 := rcell HY4.out 3 _ rfl; have y4 := rcell HY4.out 4 _ rfl; have y5 := rcell HY4.out 5 _ rfl
          have z0 := Lib.frozen_of_heap HY4.out 0; have z1 := Lib.frozen_of_heap HY4.out 1; have z2 := Lib.frozen_of_heap HY4.out 2; have z3 := Lib.frozen_of_heap HY4.out 3; have z4 := Lib.frozen_of_heap HY4.out 4; have z5 := Lib.frozen_of_heap HY4.out 5
          go_wp2_with fail
          obtain ⟨W5, hW5⟩ : ∃ W5, W5 = (((((W4.setCell ⟨N, 0, none⟩ (.int .i64 xt)).setCell ⟨N, 1, none⟩ (.int .i64 xp)).setCell ⟨N, 2, none⟩ (.int .i64 xl)).setCell ⟨N, 3, none⟩ (.int .i64 xk)).setCell ⟨N, 4, none⟩ (.int .u64 xv)).setCell ⟨N, 5, none⟩ (.string xa) := ⟨_, rfl⟩
          have HZ : Hid (W5.heap[N]? = some (.cells #[.int .i64 xt, .int .i64 xp, .int .i64 xl, .int .i64 xk, .int .u64 xv, .string xa] 36 (0, 0))) := by rw [hW5]; exact put6_heap _ _ _ _ _ _ HY4.out
          have HBZ : Hid (Below w.heap.size w W5) := by rw [hW5]; exact HB4.out.trans (put6_bel (by omega))
          rw [← hW5]
          refine bodyPost_ret (v := .tuple #[lfv ⟨xt, xp, xl, xk, xv, xa⟩, .bool true]) (resL (x := ⟨xt, xp, xl, xk, xv, xa⟩) rfl rfl HZ.out) rfl ⟨?_, HBZ.out⟩
          rw [HRS.out]
          rfl
        · have q1 : (xv == v) = false := by rw [beq_eq_false_iff_ne]; exact hv
          have HFN : Hid (fnd (L.drop (i + 1)) xb v = R) := by
            show _ = _
            rw [← HF.out, fnd_cons, if_neg (by simp [hv])]
          have HU : Hid (∀ o, Below W1.heap.size W1 (wr.alloc o)) := fun o => below_trans HB.out (bel_up _ _)
          clear hv hxa HF
          go_wp2_with fail
          go_roundg (m - (i + 1))
          case measure => have := HIX.out; have := HIM.out; omega
          case rel => exact ⟨i + 1, by first | rfl | (rw [show (i : Int) + 1 = ((i + 1 : Nat) : Int) by omega]), ⟨HIM.out, rfl⟩, HFN, HU.out _⟩
      · have q2 : ¬ xb.toList = b.toList := fun e => hb (by cases xb; cases b; simp_all [ByteArray.toList_eq])
        have HFN : Hid (fnd (L.drop (i + 1)) b v = R) := by
          show _ = _
          rw [← HF.out, fnd_cons, if_neg (by simp [hb])]
        have HU : Hid (∀ o, Below W1.heap.size W1 (wr.alloc o)) := fun o => below_trans HB.out (bel_up _ _)
        clear hb hxa HF
        go_wp2_with fail
        go_roundg (m - (i + 1))
        case measure => have := HIX.out; have := HIM.out; omega
        case rel => exact ⟨i + 1, by first | rfl | (rw [show (i : Int) + 1 = ((i + 1 : Nat) : Int) by omega]), ⟨HIM.out, rfl⟩, HFN, HU.out _⟩
    · have e1 : decide ((i : Int) < (m : Int)) = false := by rw [decide_eq_false_iff_not]; omega
      have e2 : decide (i < m) = false := by rw [decide_eq_false_iff_not]; omega
      have HRN : Hid (R = none) := by rw [← HF.out, List.drop_eq_nil_of_le (by have := HM.out; omega)]; exact rfl
      have HXR : Hid (wr.heap[N]? = some (.cells #[.int .i64 0, .int .i64 0, .int .i64 0, .int .i64 0, .int .u64 0, .string ⟨#[]⟩] 36 (0, 0))) := (HB.out.block _ (lt_of_heap HX1.out)).trans HX1.out
      clear hi
      have y0 := rcell HXR.out 0 _ rfl; have y1 := rcell HXR.out 1 _ rfl; have y2 := rcell HXR.out 2 _ rfl; have y3 := rcell HXR.out 3 _ rfl; have y4 := rcell HXR.out 4 _ rfl; have y5 := rcell HXR.out 5 _ rfl
      have z0 := Lib.frozen_of_heap HXR.out 0; have z1 := Lib.frozen_of_heap HXR.out 1; have z2 := Lib.frozen_of_heap HXR.out 2; have z3 := Lib.frozen_of_heap HXR.out 3; have z4 := Lib.frozen_of_heap HXR.out 4; have z5 := Lib.frozen_of_heap HXR.out 5
      go_wp2_with fail
      obtain ⟨W5, hW5⟩ : ∃ W5, W5 = (((((wr.setCell ⟨N, 0, none⟩ (.int .i64 0)).setCell ⟨N, 1, none⟩ (.int .i64 0)).setCell ⟨N, 2, none⟩ (.int .i64 0)).setCell ⟨N, 3, none⟩ (.int .i64 0)).setCell ⟨N, 4, none⟩ (.int .u64 0)).setCell ⟨N, 5, none⟩ (.string ⟨#[]⟩) := ⟨_, rfl⟩
      have HZ : Hid (W5.heap[N]? = some (.cells #[.int .i64 0, .int .i64 0, .int .i64 0, .int .i64 0, .int .u64 0, .string ⟨#[]⟩] 36 (0, 0))) := by rw [hW5]; exact put6_heap _ _ _ _ _ _ HXR.out
      have HBZ : Hid (Below w.heap.size w W5) := by rw [hW5]; exact (below_trans HB1.out HB.out).trans (put6_bel (by omega))
      rw [← hW5]
      refine bodyPost_ret (v := .tuple #[lfv lfd, .bool false]) (resL (x := lfd) rfl rfl HZ.out) rfl ⟨?_, HBZ.out⟩
      rw [HRN.out]
      rfl
end Go.Proofs.Ytockmlaaefbfkaa
