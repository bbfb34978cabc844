import Derived.Test.YteaanieohcanlaaDoorSam
namespace Go.Proofs.YteaanieohcanlaaDoor
open Go.RowKit Go.Maps

/-- A word without its place. -/
def nop (x : Wd) : Wd := { x with a := 0 }
theorem nop_eq (x y : Wd) : (nop x = nop y) ↔ x.k = y.k ∧ x.t = y.t ∧ x.n = y.n := by
  obtain ⟨a, b, c, d⟩ := x
  obtain ⟨e, f, g, h⟩ := y
  simp [nop]
theorem take_eq_snoc2 {la lb : List Wd} {i : Nat} (h : (la.take i).map nop = (lb.take i).map nop) (ha : i < la.length) (hb : i < lb.length) (e : nop (la.getD i w0) = nop (lb.getD i w0)) : (la.take (i + 1)).map nop = (lb.take (i + 1)).map nop := by
  rw [List.take_add_one, List.take_add_one, List.map_append, List.map_append, h]
  simp only [List.getD_eq_getElem?_getD, List.getElem?_eq_getElem ha, List.getElem?_eq_getElem hb, Option.getD_some] at e
  rw [List.getElem?_eq_getElem ha, List.getElem?_eq_getElem hb]
  simp [e]

set_option maxRecDepth 100000 in
set_option maxHeartbeats 8000000 in
theorem alike_any {va vb : Value} (la lb : List Wd) (w : World) (h1 : Rw w va la.length (wC la)) (h2 : Rw w vb lb.length (wC lb)) (hl : la.length ≤ 1000000000000) : Calls Tryd.prog 11 #[va, vb] w fun e w' => e = .returned (.bool (decide (la.map nop = lb.map nop))) ∧ Below w.heap.size w w' := by
  obtain ⟨a1, g1, o1, q1, rfl, hq1, hn1, hs1, hc1⟩ := h1
  obtain ⟨a2, g2, o2, q2, rfl, hq2, hn2, hs2, hc2⟩ := h2
  have HL : Hid (la.length ≤ 1000000000000) := hl
  have HC1 : Hid (∀ i, i < la.length → w.cell? ⟨g1, o1 + i * 4, none⟩ = some (.int .i64 (la.getD i w0).k) ∧ w.cell? ⟨g1, o1 + i * 4 + 1, none⟩ = some (.string ⟨(la.getD i w0).t.toArray⟩) ∧ w.cell? ⟨g1, o1 + i * 4 + 2, none⟩ = some (.int .i64 (la.getD i w0).n)) := fun i hi => by
    obtain ⟨k0, k1, k2, k3⟩ := wC_get la i hi
    exact ⟨hc1 _ _ k0, hc1 _ _ k1, hc1 _ _ k2⟩
  have HC2 : Hid (∀ i, i < lb.length → w.cell? ⟨g2, o2 + i * 4, none⟩ = some (.int .i64 (lb.getD i w0).k) ∧ w.cell? ⟨g2, o2 + i * 4 + 1, none⟩ = some (.string ⟨(lb.getD i w0).t.toArray⟩) ∧ w.cell? ⟨g2, o2 + i * 4 + 2, none⟩ = some (.int .i64 (lb.getD i w0).n)) := fun i hi => by
    obtain ⟨k0, k1, k2, k3⟩ := wC_get lb i hi
    exact ⟨hc2 _ _ k0, hc2 _ _ k1, hc2 _ _ k2⟩
  obtain ⟨V, hV⟩ : ∃ V, decide (la.map nop = lb.map nop) = V := ⟨_, rfl⟩
  rw [hV]
  by_cases hn : la.length = lb.length
  · have d1 : ((la.length : Int) != (lb.length : Int)) = false := by simp [hn]
    have d2 : (la.length != lb.length) = false := by simp [hn]
    have HS1 : Hid (0 < la.length → a1 = some ⟨g1, o1, none⟩) := hs1
    have HS2 : Hid (0 < lb.length → a2 = some ⟨g2, o2, none⟩) := hs2
    have HNN : Hid (la.length = lb.length) := hn
    have HV : Hid (decide (la.map nop = lb.map nop) = V) := hV
    clear hn hV hq1 hq2 hn1 hn2 hs1 hs2 hc1 hc2 hl
    go_enter Tryd.func11, Tryd.ntmps11
    go_wp2_with fail
    go_loopg [5] la.length (fun gm v5 wr => ∃ i : Nat, v5 = .int .i64 (i : Int) ∧ Hid (i ≤ la.length ∧ gm = la.length - i) ∧ Hid ((la.take i).map nop = (lb.take i).map nop) ∧ Hid (Below w.heap.size w wr))
    case atStart => exact ⟨0, rfl, ⟨Nat.zero_le _, rfl⟩, rfl, Below.refl _ _⟩
    case round =>
      obtain ⟨i, rfl, HI, HT, HB⟩ := hrel
      by_cases hi : i < la.length
      · have e1 : decide ((i : Int) < (la.length : Int)) = true := by rw [decide_eq_true_eq]; omega
        have e2 : decide (i < la.length) = true := by rw [decide_eq_true_eq]; omega
        have hi2 : i < lb.length := by have := HNN.out; omega
        have r1 := HS1.out (by omega)
        have r2 := HS2.out (by omega)
        subst r1
        subst r2
        have HIL : Hid (i < la.length) := hi
        have HIM : Hid (i < lb.length) := hi2
        obtain ⟨p0, p1, p2⟩ := HC1.out i hi
        obtain ⟨s0, s1, s2⟩ := HC2.out i hi2
        have t0 := below_cell HB.out p0
        have t1 := below_cell HB.out p1
        have t2 := below_cell HB.out p2
        have u0 := below_cell HB.out s0
        have u1 := below_cell HB.out s1
        have u2 := below_cell HB.out s2
        obtain ⟨x, hx⟩ : ∃ x, la.getD i w0 = x := ⟨_, rfl⟩
        obtain ⟨y, hy⟩ : ∃ y, lb.getD i w0 = y := ⟨_, rfl⟩
        have HX : Hid (la.getD i w0 = x) := hx
        have HY : Hid (lb.getD i w0 = y) := hy
        rw [hx] at t0 t1 t2
        rw [hy] at u0 u1 u2
        have b1 : (i : Int) < (la.length : Int) := by omega
        have b2 : (i : Int) < (lb.length : Int) := by omega
        obtain ⟨X, hX⟩ : ∃ X : ByteArray, ⟨x.t.toArray⟩ = X := ⟨_, rfl⟩
        obtain ⟨Y, hY⟩ : ∃ Y : ByteArray, ⟨y.t.toArray⟩ = Y := ⟨_, rfl⟩
        rw [hX] at t1
        rw [hY] at u1
        have hXY : X = Y ↔ x.t = y.t := ⟨fun e => bs_inj (by rw [hX, hY]; exact e), fun e => by rw [← hX, ← hY, e]⟩
        have HOK : Hid (x.k = y.k → X = Y → x.n = y.n → (la.take (i + 1)).map nop = (lb.take (i + 1)).map nop) := fun h1 h2 h3 => take_eq_snoc2 HT.out hi hi2 (by rw [HX.out, HY.out, nop_eq]; exact ⟨h1, hXY.1 h2, h3⟩)
        have HNO : Hid (¬ (x.k = y.k ∧ X = Y ∧ x.n = y.n) → V = false) := fun h => by
          rw [← HV.out]
          refine decide_eq_false (fun e => h ?_)
          have e3 := congrArg (fun l => l.getD i w0) e
          have e4 : ∀ l : List Wd, i < l.length → (l.map nop).getD i w0 = nop (l.getD i w0) := fun l hl => by
            simp [List.getD_eq_getElem?_getD, List.getElem?_eq_getElem hl]
          rw [e4 la hi, e4 lb hi2, HX.out, HY.out, nop_eq] at e3
          exact ⟨e3.1, hXY.2 e3.2.1, e3.2.2⟩
        have hwi := w64n i (by have := HL.out; omega)
        clear hx hy p0 p1 p2 s0 s1 s2 hX hY hXY
        go_upto_region 6 with fail
        have b3 : i < la.length := hi
        have b4 : i < lb.length := hi2
        by_cases k1 : x.k = y.k
        · have m1 : (x.k != y.k) = false := by simpa using k1
          by_cases k2 : X = Y
          · subst k2
            by_cases k3 : x.n = y.n
            · have m3 : (x.n != y.n) = false := by simpa using k3
              have HNX : Hid ((la.take (i + 1)).map nop = (lb.take (i + 1)).map nop) := HOK.out k1 rfl k3
              clear k1 k3
              go_quiet (fail)
              have HB5 : Hid (Below w.heap.size w (wr.drewN nq)) := below_trans HB.out (below_drewN (Below.refl _ _) _)
              generalize wr.drewN nq = W5 at HB5
              clear t0 t1 t2 u0 u1 u2
              go_wp2_with fail
              go_roundg (la.length - (i + 1))
              case measure => have := HI.out; have := HIL.out; omega
              case rel => exact ⟨i + 1, by simp, ⟨HIL.out, rfl⟩, HNX, HB5⟩
            · have m3 : (x.n != y.n) = true := by simpa using k3
              have HVF : Hid (V = false) := HNO.out (fun h => k3 h.2.2)
              clear k1 k3
              go_quiet (fail)
              have HB5 : Hid (Below w.heap.size w (wr.drewN nq)) := below_trans HB.out (below_drewN (Below.refl _ _) _)
              generalize wr.drewN nq = W5 at HB5
              clear t0 t1 t2 u0 u1 u2
              go_wp2_with fail
              go_ret
              exact ⟨by rw [HVF.out]; rfl, HB5.out⟩
          · have m2 : (X != Y) = true := by
              have : (X == Y) = false := by rw [bs_beq, decide_eq_false k2]
              unfold bne
              rw [this]
              rfl
            have m4 : (X == Y) = false := by rw [bs_beq, decide_eq_false k2]
            have m5 : (X.toList == Y.toList) = false := by rw [str_eq, decide_eq_false k2]
            have HVF : Hid (V = false) := HNO.out (fun h => k2 h.2.1)
            clear k1 k2
            go_quiet (fail)
            have HB5 : Hid (Below w.heap.size w (wr.drewN nq)) := below_trans HB.out (below_drewN (Below.refl _ _) _)
            generalize wr.drewN nq = W5 at HB5
            clear t0 t1 t2 u0 u1 u2
            go_wp2_with fail
            go_ret
            exact ⟨by rw [HVF.out]; rfl, HB5.out⟩
        · have m1 : (x.k != y.k) = true := by simpa using k1
          have HVF : Hid (V = false) := HNO.out (fun h => k1 h.1)
          clear k1
          go_quiet (fail)
          have HB5 : Hid (Below w.heap.size w (wr.drewN nq)) := below_trans HB.out (below_drewN (Below.refl _ _) _)
          generalize wr.drewN nq = W5 at HB5
          clear t0 t1 t2 u0 u1 u2
          go_wp2_with fail
          go_ret
          exact ⟨by rw [HVF.out]; rfl, HB5.out⟩
      · have e1 : decide ((i : Int) < (la.length : Int)) = false := by rw [decide_eq_false_iff_not]; omega
        have e2 : decide (i < la.length) = false := by rw [decide_eq_false_iff_not]; omega
        have HVT : Hid (V = true) := by
          rw [← HV.out]
          refine decide_eq_true ?_
          have h := HT.out
          rw [List.take_of_length_le (by omega), List.take_of_length_le (by have := HNN.out; omega)] at h
          exact h
        clear hi
        go_wp2_with fail
        go_ret
        exact ⟨by rw [HVT.out]; rfl, HB.out⟩
  · have d1 : ((la.length : Int) != (lb.length : Int)) = true := by simp; omega
    have d2 : (la.length != lb.length) = true := by simp; omega
    rw [decide_eq_false (fun h => hn (by have := congrArg List.length h; simpa using this))] at hV
    subst hV
    clear hn hq1 hq2 hn1 hn2 hs1 hs2 hc1 hc2 hl
    go_enter Tryd.func11, Tryd.ntmps11
    go_wp2_with fail
    go_ret
    exact ⟨rfl, Below.refl _ _⟩
end Go.Proofs.YteaanieohcanlaaDoor
