import Derived.Test.YtodncbkdlnepjaaFan
namespace Go.Proofs.Ytodncbkdlnepjaa
open Go.RowKit Go.Maps

theorem cell_one_new (w : World) (x : Value) (t : TypeId) : ∀ j q, [x][j]? = some q → (w.alloc (.cells #[x] t)).cell? ((⟨w.heap.size, 0, none⟩ : Addr).add j) = some q := by
  intro j u hj
  rw [addPl, Nat.zero_add, Lib.cell_of_heap (heap_new w _)]
  simpa using hj
/-- The marks of the symbols that have been seen. -/
def bC (s : List Nat) : List Value := (List.range 192).map fun i => Value.bool (decide (i ∈ s))
theorem bC_len (s : List Nat) : (bC s).length = 192 := by unfold bC; rw [List.length_map, List.length_range]
theorem bC_get (s : List Nat) (i : Nat) (h : i < 192) : (bC s)[i]? = some (.bool (decide (i ∈ s))) := by
  unfold bC
  rw [List.getElem?_map, List.getElem?_range h]; rfl
theorem bC_set (s : List Nat) (i : Nat) (h : i < 192) : (bC s).set i (.bool true) = bC (i :: s) := by
  refine List.ext_getElem? fun k => ?_
  by_cases hk : k < 192
  · rw [bC_get _ k hk]
    by_cases e : i = k
    · subst e
      rw [List.getElem?_set_self (by rw [bC_len]; exact h)]; simp
    · rw [List.getElem?_set_ne e, bC_get _ k hk]
      simp
      exact fun h => absurd h.symm e
  · rw [List.getElem?_eq_none (by rw [List.length_set, bC_len]; omega), List.getElem?_eq_none (by rw [bC_len]; omega)]
def Bb (W : World) (b : Nat) (s : List Nat) : Prop := W.heap[b]? = some (.cells (bC s).toArray 80 (0, 0))
theorem Bb.up {W W' : World} {b : Nat} {s : List Nat} (h : Bb W b s) (hb : Below W.heap.size W W') : Bb W' b s := by
  unfold Bb; rw [hb.block _ (lt_of_heap h)]; exact h
theorem Bb.get {W : World} {b : Nat} {s : List Nat} (h : Bb W b s) (i : Nat) (hi : i < 192) : W.cell? ⟨b, i, none⟩ = some (.bool (decide (i ∈ s))) :=
  rcell h _ _ (by rw [List.getElem?_toArray]; exact bC_get s i hi)
theorem Bb.set {W : World} {b : Nat} {s : List Nat} (h : Bb W b s) (i : Nat) (hi : i < 192) : Bb (W.setCell ⟨b, i, none⟩ (.bool true)) b (i :: s) := by
  unfold Bb
  rw [blk_set _ h, List.setIfInBounds_toArray, bC_set s i hi]
theorem Bb.fr {W : World} {b : Nat} {s : List Nat} (h : Bb W b s) (k : Nat) : W.frozen? ⟨b, k, none⟩ = false := Lib.frozen_of_heap h k
set_option maxRecDepth 100000 in
theorem info80 : (Try.prog.info? 80).map (fun i => (i.zero, i.size)) = some (some (.agg (bC []).toArray), 192) := by kernel_rfl
theorem zero80 : ∀ w, (zeroValue 80).run Try.prog w = .ok (.agg (bC []).toArray) w := (zero_of_info info80).1
/-- The symbols of a row. -/
def syl (l : List Rf) : List Nat := l.map fun x => x.1.toNat
theorem opn_seen (nT x : Nat) (seen r : List Nat) (h : x ∈ seen) (hx : ¬ x < nT) : opn nT seen (x :: r) = opn nT (x :: seen) r := by
  simp only [opn]; rw [if_pos h, if_neg hx]; rfl
theorem opn_new (nT x : Nat) (seen r : List Nat) (h : ¬ x ∈ seen) (hx : ¬ x < nT) : opn nT seen (x :: r) = x :: opn nT (x :: seen) r := by
  simp only [opn]; rw [if_neg h, if_neg hx]; rfl
theorem opn_seenT (nT x : Nat) (seen r : List Nat) (h : x ∈ seen) (hx : x < nT) : opn nT seen (x :: r) = [] := by
  simp only [opn]; rw [if_pos h, if_pos hx]; rfl
theorem opn_newT (nT x : Nat) (seen r : List Nat) (h : ¬ x ∈ seen) (hx : x < nT) : opn nT seen (x :: r) = [x] := by
  simp only [opn]; rw [if_neg h, if_pos hx]; rfl
theorem opn_cong (nT : Nat) : ∀ (r s s' : List Nat), (∀ x, x ∈ s ↔ x ∈ s') → opn nT s r = opn nT s' r
  | [], _, _, _ => by simp [opn]
  | x :: r, s, s', h => by
    simp only [opn]
    rw [opn_cong nT r (x :: s) (x :: s') (fun y => by rw [List.mem_cons, List.mem_cons, h y])]
    by_cases hx : x ∈ s
    · rw [if_pos hx, if_pos ((h x).1 hx)]
    · rw [if_neg hx, if_neg (fun e => hx ((h x).2 e))]

set_option maxRecDepth 100000 in
set_option maxHeartbeats 8000000 in
theorem opening_any {v0 v1 v2 v : Value} {nT nS : Nat} {P : List Pd} {l : List Rf} (w : World) (h : Gm w v0 v1 v2 nT nS P) (hr : Rw w v l.length (flat rf l)) (hl : l.length * 40 + 4096 ≤ 140737488355328) (hx : ∀ x ∈ l, 0 ≤ x.1 ∧ x.1 < 192) :
    Calls Try.prog 31 #[.agg #[v0, v1, v2], v] w fun e w' => ∃ u, e = .returned u ∧ w'.ownsRow w.heap.size 3 1 u (opn nT [] (syl l)).length (nC (opn nT [] (syl l))) ∧ Below w.heap.size w w' := by
  have HG : Hid (Gm w v0 v1 v2 nT nS P) := h
  have HV : Hid (Rw w v l.length (flat rf l)) := hr
  have HL : Hid _ := hl
  have HX : Hid _ := hx
  obtain ⟨a0, c0, a1, c1, a2, c2, rfl, rfl, rfl⟩ := h.form
  obtain ⟨a, c, rfl⟩ := hr.form
  clear h hr hl hx
  obtain ⟨n, hn⟩ : ∃ n, l.length = n := ⟨_, rfl⟩
  have HN : Hid (l.length = n) := hn
  rw [hn] at HV HL ⊢
  clear hn
  obtain ⟨pl, hpl⟩ : ∃ n, P.length = n := ⟨_, rfl⟩
  rw [hpl] at HG ⊢
  clear hpl
  obtain ⟨i3, hi, h0, h1, h2⟩ := info_parts info3
  have HI3 : Hid (Try.prog.info? 3 = some i3 ∧ i3.zero = some (.int .i64 0) ∧ i3.size = 1 ∧ i3.bytes = 8) := ⟨hi, h0, h1, h2⟩
  clear hi h0 h1 h2
  obtain ⟨W1, hW1⟩ : ∃ W1, W1 = w.alloc (.cells #[.slice a0 nT c0, .slice a1 nS c1, .slice a2 pl c2] 26) := ⟨_, rfl⟩
  obtain ⟨W2, hW2⟩ : ∃ W2, W2 = W1.alloc (.cells (bC []).toArray 80) := ⟨_, rfl⟩
  have B12 : Hid (Below W1.heap.size W1 W2) := by rw [hW2]; exact bel_up _ _
  have B01 : Hid (Below w.heap.size w W1) := by rw [hW1]; exact bel_up _ _
  have HB2 : Hid (Below w.heap.size w W2) := below_trans B01.out B12.out
  have hx0 : W1.heap[w.heap.size]? = some (.cells #[.slice a0 nT c0, .slice a1 nS c1, .slice a2 pl c2] 26 (0, 0)) := by rw [hW1]; exact heap_new w _
  have HXX : Hid (W2.heap[w.heap.size]? = some (.cells #[.slice a0 nT c0, .slice a1 nS c1, .slice a2 pl c2] 26 (0, 0))) := by
    show W2.heap[_]? = _
    rw [B12.out.block _ (lt_of_heap hx0)]; exact hx0
  have HSB : Hid (Bb W2 W1.heap.size []) := by show Bb _ _ _; unfold Bb; rw [hW2]; exact heap_new _ _
  have HSZ : Hid (w.heap.size < W1.heap.size) := by show _ < _; rw [hW1]; simp
  clear hx0
  go_enter Try.func31, Try.ntmps31
  go_upto_region 3 with (refine wpList_alloc_row rfl 80 rfl _ zero80 ?_; (try simp only [Act.put, List.setIfInBounds_toArray, List.set_cons_zero, List.set_cons_succ]))
  rw [← hW1, ← hW2]
  clear hW1 hW2
  obtain ⟨g0, hg0⟩ : ∃ g, w.heap.size = g := ⟨_, rfl⟩
  obtain ⟨s0, hs0⟩ : ∃ g, W1.heap.size = g := ⟨_, rfl⟩
  have HGS : Hid (w.heap.size = g0) := hg0
  rw [hg0, hs0] at HSZ
  rw [hg0] at HXX ⊢
  rw [hs0] at HSB ⊢
  clear hg0 hs0 B01 B12
  go_upto_region 4 with fail
  go_loopg [5, 11] n (fun gm v5 v11 wr => ∃ i : Nat, v11 = .int .i64 (i : Int) ∧ ∃ (sn out : List Nat) (ra : Option Addr) (m rc : Nat), v5 = .slice ra m rc ∧ Hid (m = out.length ∧ out.length ≤ i) ∧ Hid (Below w.heap.size w wr) ∧ Hid (i ≤ n ∧ gm = n - i) ∧ Hid (wr.heap[g0]? = some (.cells #[.slice a0 nT c0, .slice a1 nS c1, .slice a2 pl c2] 26 (0, 0))) ∧ Hid (Bb wr s0 sn) ∧ Hid (wr.ownsRow w.heap.size 3 1 (.slice ra m rc) m (nC out)) ∧ Hid (out ++ opn nT sn ((syl l).drop i) = opn nT [] (syl l)))
  case atStart => exact ⟨0, rfl, [], [], none, 0, 0, rfl, ⟨rfl, Nat.le_refl _⟩, HB2, ⟨Nat.zero_le _, rfl⟩, HXX, HSB, World.ownsRow_nil _ _ _ _, rfl⟩
  case round =>
    clear HB2 HXX HSB
    obtain ⟨i, rfl, sn, out, ra, m, rc, rfl, HM, HBW, HI, HXX, HSB, HRO, HOP⟩ := hrel
    by_cases hi : i < n
    · obtain ⟨g, o, cap, e0, hc⟩ := HV.out.place (by omega)
      obtain ⟨rfl, -, rfl⟩ := Value.slice.inj e0
      have hil : i < l.length := by have := HN.out; omega
      obtain ⟨q0, q1, q2⟩ := rf_get l i hil
      have k0 := below_cell HBW.out (hc _ _ q0)
      have k1 := below_cell HBW.out (hc _ _ q1)
      have k2 := below_cell HBW.out (hc _ _ q2)
      have hxm := HX.out _ (mem_getD hil rfd)
      have hdr : (syl l).drop i = (l.getD i rfd).1.toNat :: (syl l).drop (i + 1) := by
        rw [drop_getD (syl l) 0 i (by unfold syl; rw [List.length_map]; exact hil)]
        congr 1
        unfold syl
        rw [List.getD_eq_getElem?_getD, List.getElem?_map, List.getElem?_eq_getElem hil, List.getD_eq_getElem?_getD, List.getElem?_eq_getElem hil]
        rfl
      obtain ⟨x, hx⟩ : ∃ x, l.getD i rfd = x := ⟨_, rfl⟩
      rw [hx] at k0 k1 k2 hxm hdr
      obtain ⟨xs, xf, xa⟩ := x
      dsimp only at k0 k1 k2 hxm hdr
      rw [← Nat.add_assoc] at k1 k2
      obtain ⟨y, rfl⟩ : ∃ y : Nat, xs = (y : Int) := ⟨xs.toNat, by omega⟩
      have HY : Hid (y < 192) := by have := hxm.2; show y < 192; omega
      rw [Int.toNat_natCast] at hdr
      have HDR : Hid _ := hdr
      have e1 : decide ((i : Int) < (n : Int)) = true := by rw [decide_eq_true_eq]; omega
      have e2 : decide (i < n) = true := by rw [decide_eq_true_eq]; omega
      have e5 : (i : Int) < (n : Int) := by omega
      have e6 : i < n := hi
      have HIL : Hid (i < n) := hi
      have hwr := w64n i (by have := HL.out; have := HIL.out; omega)
      clear e0 hc hx q0 q1 q2 hil hi hdr hxm
      go_upto_region 6 with fail
      obtain ⟨Y1, hY1⟩ : ∃ Y1, Y1 = wr.alloc (.cells #[.int .i64 (y : Int), .string xf, .string xa] 32) := ⟨_, rfl⟩
      rw [← hY1]
      have HXR : Hid (Y1.heap[wr.heap.size]? = some (.cells #[.int .i64 (y : Int), .string xf, .string xa] 32 (0, 0))) := by rw [hY1]; exact heap_new wr _
      have BY1 : Hid (Below wr.heap.size wr Y1) := by rw [hY1]; exact bel_up _ _
      have BW1 : Hid (Below w.heap.size w Y1) := below_trans HBW.out BY1.out
      have HX1 : Hid (Y1.heap[g0]? = some (.cells #[.slice a0 nT c0, .slice a1 nS c1, .slice a2 pl c2] 26 (0, 0))) := by show Y1.heap[_]? = _; rw [BY1.out.block _ (lt_of_heap HXX.out)]; exact HXX.out
      have HS1 : Hid (Bb Y1 s0 sn) := HSB.out.up BY1.out
      have HR1 : Hid (Y1.ownsRow w.heap.size 3 1 (.slice ra m rc) m (nC out)) := row_up HRO.out BY1.out
      obtain ⟨rb, hrb⟩ : ∃ rb, wr.heap.size = rb := ⟨_, rfl⟩
      rw [hrb] at HXR ⊢
      clear hY1 hrb k0 k1 k2 e1 e2 e5 e6 HXX HSB HRO BY1 HBW
      have r0 := rcell HXR.out 0 (.int .i64 (y : Int)) rfl
      have k0 := HS1.out.get y HY.out
      have e7 : (y : Int) < 192 := by have := HY.out; omega
      have e8 : y < 192 := HY.out
      have t0 := rcell HX1.out 0 (.slice a0 nT c0) rfl
      by_cases hseen : y ∈ sn
      · rw [decide_eq_true hseen] at k0
        have HSE : Hid _ := hseen
        clear hseen
        by_cases hyt : y < nT
        · have d1 : decide ((y : Int) < (nT : Int)) = true := decide_eq_true (by omega)
          have d2 : decide (y < nT) = true := decide_eq_true hyt
          have HYT : Hid _ := hyt
          clear hyt
          go_wp2_with fail
          go_ret
          refine ⟨_, rfl, ?_, BW1.out⟩
          have := HOP.out
          rw [HDR.out, opn_seenT nT y sn _ HSE.out HYT.out, List.append_nil] at this
          rw [← this, ← HM.out.1]
          exact HR1.out
        · have d1 : decide ((y : Int) < (nT : Int)) = false := decide_eq_false (by omega)
          have d2 : decide (y < nT) = false := decide_eq_false hyt
          have HYT : Hid _ := hyt
          clear hyt
          go_wp2_with fail
          go_roundg (n - (i + 1))
          case measure => have := HI.out; have := HIL.out; omega
          case rel => exact ⟨i + 1, by first | rfl | (rw [show (i : Int) + 1 = ((i + 1 : Nat) : Int) by omega]), sn, out, ra, m, rc, rfl, ⟨HM.out.1, Nat.le_succ_of_le HM.out.2⟩, BW1, ⟨HIL.out, rfl⟩, HX1, HS1, HR1, by
            have := HOP.out
            rw [HDR.out, opn_seen nT y sn _ HSE.out HYT.out, opn_cong nT _ (y :: sn) sn (fun z => by rw [List.mem_cons]; exact ⟨fun h => h.elim (fun e => e ▸ HSE.out) id, .inr⟩)] at this
            exact this⟩
      · rw [decide_eq_false hseen] at k0
        have HSE : Hid _ := hseen
        have f0 := HS1.out.fr y
        clear hseen
        go_upto_region 8 with fail
        obtain ⟨Y2, hY2⟩ : ∃ Y2, Y2 = Y1.setCell ⟨s0, y, none⟩ (.bool true) := ⟨_, rfl⟩
        rw [← hY2]
        have HS2 : Hid (Bb Y2 s0 (y :: sn)) := by rw [hY2]; exact HS1.out.set y HY.out
        have HR2 : Hid (Y2.ownsRow w.heap.size 3 1 (.slice ra m rc) m (nC out)) := by rw [hY2]; exact (row_off HS1.out HR1.out (by decide)).1
        have hn1 : g0 ≠ s0 := by have := HSZ.out; omega
        have hn2 : rb ≠ s0 := fun e => by
          have h1 := HXR.out
          rw [e, HS1.out] at h1
          injection h1 with h1
          injection h1 with _ h1
          exact absurd h1 (by decide)
        have HX2 : Hid (Y2.heap[g0]? = some (.cells #[.slice a0 nT c0, .slice a1 nS c1, .slice a2 pl c2] 26 (0, 0))) := by rw [hY2]; exact (Below.heap_setCell Y1 ⟨s0, y, none⟩ _ g0 hn1).trans HX1.out
        have HXR2 : Hid (Y2.heap[rb]? = some (.cells #[.int .i64 (y : Int), .string xf, .string xa] 32 (0, 0))) := by rw [hY2]; exact (Below.heap_setCell Y1 ⟨s0, y, none⟩ _ rb hn2).trans HXR.out
        have BW2 : Hid (Below w.heap.size w Y2) := by rw [hY2]; exact BW1.out.setCell (p := ⟨s0, y, none⟩) (by have := HSZ.out; have := HGS.out; show w.heap.size ≤ s0; omega) _
        clear hY2 HS1 HR1 HX1 HXR BW1 r0 k0 t0 f0 hn1 hn2
        have r0 := rcell HXR2.out 0 (.int .i64 (y : Int)) rfl
        have HROW : Hid ((Y2.alloc (.cells #[.int .i64 (y : Int)] 3)).ownsRow w.heap.size 3 1 (.slice ra m rc) m (nC out)) := row_up HR2.out (bel_up _ _)
        go_upto_region 9 with (at_builtin; refine wpList_append_own_at _ rfl _ _ 68 rfl w.heap.size 3 i3 (.int .i64 0) 1 8 Try.underlying68 HI3.out.1 HI3.out.2.1 HI3.out.2.2.1 HI3.out.2.2.2 rfl (by decide) _ _ _ rfl HROW.out ⟨Y2.heap.size, 0, none⟩ 1 1 [.int .i64 (y : Int)] rfl rfl (cell_one_new _ _ _) (by simp [Value.oneCell']) (by have := HM.out; have := HL.out; have := HIL.out; unfold maxLen; omega) (by have := HM.out; have := HL.out; have := HIL.out; omega) (by have := BW2.out.size; simp; omega) ?_; intro v6 w6 ho6 hg6 _ ha6; have HO6 : Hid _ := ho6; have HG6 : Hid (Y2.grownBy w6 (Value.ownBlock (.slice ra m rc))) := (World.grownBy_alloc _ _ _).trans hg6; obtain ⟨qa, qc, rfl⟩ := row_shape ho6; clear ho6 hg6 ha6)
        have HR3 : Hid (w6.ownsRow w.heap.size 3 1 (.slice qa (m + 1) qc) (m + 1) (nC (out ++ [y]))) := by rw [nC_app]; exact HO6.out
        have HS3 : Hid (Bb w6 s0 (y :: sn)) := (HG6.out.block _ (lt_of_heap HS2.out) (fun e => tag_ne_blk HR2.out HS2.out (by decide) e.symm)).trans HS2.out
        have HX3 : Hid (w6.heap[g0]? = some (.cells #[.slice a0 nT c0, .slice a1 nS c1, .slice a2 pl c2] 26 (0, 0))) := (HG6.out.block _ (lt_of_heap HX2.out) (fun e => tag_ne_blk HR2.out HX2.out (by decide) e.symm)).trans HX2.out
        have HXR3 : Hid (w6.heap[rb]? = some (.cells #[.int .i64 (y : Int), .string xf, .string xa] 32 (0, 0))) := (HG6.out.block _ (lt_of_heap HXR2.out) (fun e => tag_ne_blk HR2.out HXR2.out (by decide) e.symm)).trans HXR2.out
        have BW3 : Hid (Below w.heap.size w w6) := BW2.out.grown HG6.out BW2.out.size (fun r e' => (row_tag HR2.out r e').1)
        clear HO6 HG6 HROW HS2 HX2 HXR2 HR2 r0
        have r0 := rcell HXR3.out 0 (.int .i64 (y : Int)) rfl
        have t0 := rcell HX3.out 0 (.slice a0 nT c0) rfl
        by_cases hyt : y < nT
        · have d1 : decide ((y : Int) < (nT : Int)) = true := decide_eq_true (by omega)
          have d2 : decide (y < nT) = true := decide_eq_true hyt
          have HYT : Hid _ := hyt
          clear hyt
          go_wp2_with fail
          go_ret
          refine ⟨_, rfl, ?_, BW3.out⟩
          have := HOP.out
          rw [HDR.out, opn_newT nT y sn _ HSE.out HYT.out] at this
          rw [← this, List.length_append, ← HM.out.1]
          exact HR3.out
        · have d1 : decide ((y : Int) < (nT : Int)) = false := decide_eq_false (by omega)
          have d2 : decide (y < nT) = false := decide_eq_false hyt
          have HYT : Hid _ := hyt
          clear hyt
          go_wp2_with fail
          go_roundg (n - (i + 1))
          case measure => have := HI.out; have := HIL.out; omega
          case rel => exact ⟨i + 1, by first | rfl | (rw [show (i : Int) + 1 = ((i + 1 : Nat) : Int) by omega]), y :: sn, out ++ [y], qa, m + 1, qc, rfl, ⟨by rw [List.length_append, HM.out.1]; rfl, by rw [List.length_append]; exact Nat.succ_le_succ HM.out.2⟩, BW3, ⟨HIL.out, rfl⟩, HX3, HS3, HR3, by
            have := HOP.out
            rw [HDR.out, opn_new nT y sn _ HSE.out HYT.out] at this
            rw [List.append_assoc]
            exact this⟩
    · have e1 : decide ((i : Int) < (n : Int)) = false := by rw [decide_eq_false_iff_not]; omega
      have e2 : decide (i < n) = false := by rw [decide_eq_false_iff_not]; omega
      have HIN : Hid (i = n) := by have := HI.out; show i = n; omega
      clear hi
      go_wp2_with fail
      go_ret
      refine ⟨_, rfl, ?_, HBW.out⟩
      have := HOP.out
      rw [List.drop_of_length_le (by unfold syl; rw [List.length_map, HN.out]; exact Nat.le_of_eq HIN.out.symm)] at this
      rw [show opn nT sn [] = [] from by simp [opn], List.append_nil] at this
      rw [← this, ← HM.out.1]
      exact HRO.out
end Go.Proofs.Ytodncbkdlnepjaa
