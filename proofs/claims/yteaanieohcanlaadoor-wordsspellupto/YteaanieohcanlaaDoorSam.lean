import Derived.Test.YteaanieohcanlaaDoorCuj
import Derived.Laws.StructEq
namespace Go.Proofs.YteaanieohcanlaaDoor
open Go.RowKit Go.Maps

theorem loop_is (d : ByteArray) : ∀ n i r, n = d.size - i → ByteArray.toList.loop d i r = r.reverse ++ d.data.toList.drop i := by
  intro n
  induction n with
  | zero =>
    intro i r h
    unfold ByteArray.toList.loop
    rw [if_neg (by omega), List.drop_eq_nil_of_le (by rw [Array.length_toList]; show d.size ≤ i; omega)]
    simp
  | succ n ih =>
    intro i r h
    unfold ByteArray.toList.loop
    have hl : d.data.toList.length = d.size := Array.length_toList
    rw [if_pos (by omega), ih _ _ (by omega), List.drop_eq_getElem_cons (by omega : i < d.data.toList.length)]
    have e : d.get! i = d.data.toList[i]'(by omega) := by
      rw [get_bang d i (by omega), Array.getElem_toList]; rfl
    rw [e]
    simp
theorem toL_eq (d : ByteArray) : d.toList = d.data.toList := by
  unfold ByteArray.toList
  rw [loop_is d d.size 0 [] (by omega)]; simp
theorem str_eq (x y : ByteArray) : (x.toList == y.toList) = decide (x = y) := by
  rw [toL_eq, toL_eq]
  by_cases h : x = y
  · subst h; simp
  · rw [decide_eq_false h, beq_eq_false_iff_ne]
    intro e
    exact h (ByteArray.ext (Array.toList_inj.1 e))
theorem bs_beq (x y : ByteArray) : (x == y) = decide (x = y) := by rw [beq_toListBytes, str_eq]
theorem bs_inj {a b : List UInt8} (h : (⟨a.toArray⟩ : ByteArray) = ⟨b.toArray⟩) : a = b := by
  injection h with h
  have := congrArg Array.toList h
  simpa using this
set_option maxRecDepth 100000 in
set_option maxHeartbeats 8000000 in
theorem sameword_any (x y : Wd) (w : World) : Calls Tryd.prog 24 #[.agg #[.int .i64 x.k, .string ⟨x.t.toArray⟩, .int .i64 x.n, .int .i64 x.a], .agg #[.int .i64 y.k, .string ⟨y.t.toArray⟩, .int .i64 y.n, .int .i64 y.a]] w fun e w' => e = .returned (.bool (decide (x = y))) ∧ Below w.heap.size w w' := by
  obtain ⟨xk, xt, xn, xa⟩ := x
  obtain ⟨yk, yt, yn, ya⟩ := y
  simp only
  have HB : Hid (∀ (o o' : Obj), Below w.heap.size w ((w.alloc o).alloc o')) := fun o o' => below_trans (bel_up _ _) (bel_up _ _)
  obtain ⟨V, hV⟩ : ∃ V, (decide ((⟨xk, xt, xn, xa⟩ : Wd) = ⟨yk, yt, yn, ya⟩)) = V := ⟨_, rfl⟩
  rw [hV]
  by_cases c1 : xk = yk
  · subst c1
    obtain ⟨X, hX⟩ : ∃ X, (⟨xt.toArray⟩ : ByteArray) = X := ⟨_, rfl⟩
    obtain ⟨Y, hY⟩ : ∃ Y, (⟨yt.toArray⟩ : ByteArray) = Y := ⟨_, rfl⟩
    rw [hX, hY]
    by_cases c2 : X = Y
    · have e2 : xt = yt := bs_inj (by rw [hX, hY]; exact c2)
      subst e2
      subst c2
      by_cases c3 : xn = yn
      · subst c3
        by_cases c4 : xa = ya
        · subst c4
          rw [decide_eq_true rfl] at hV
          subst hV
          clear hX hY
          go_enter Tryd.func24, Tryd.ntmps24
          go_wp2_with fail
          go_ret
          exact ⟨rfl, HB.out _ _⟩
        · have d4 : (xa == ya) = false := by simpa using c4
          rw [decide_eq_false (fun h => c4 (congrArg Wd.a h))] at hV
          subst hV
          clear hX hY
          go_enter Tryd.func24, Tryd.ntmps24
          go_wp2_with fail
          go_ret
          exact ⟨rfl, HB.out _ _⟩
      · have d4 : (xn == yn) = false := by simpa using c3
        rw [decide_eq_false (fun h => c3 (congrArg Wd.n h))] at hV
        subst hV
        clear hX hY
        go_enter Tryd.func24, Tryd.ntmps24
        go_wp2_with fail
        go_ret
        exact ⟨rfl, HB.out _ _⟩
    · have d4 : (X == Y) = false := by rw [bs_beq, decide_eq_false c2]
      have d5 : (X.toList == Y.toList) = false := by rw [str_eq, decide_eq_false c2]
      rw [decide_eq_false (fun h => c2 (by rw [← hX, ← hY]; have := congrArg Wd.t h; simp only at this; rw [this]))] at hV
      subst hV
      clear hX hY
      go_enter Tryd.func24, Tryd.ntmps24
      go_wp2_with fail
      go_ret
      exact ⟨rfl, HB.out _ _⟩
  · have d4 : (xk == yk) = false := by simpa using c1
    rw [decide_eq_false (fun h => c1 (congrArg Wd.k h))] at hV
    subst hV
    go_enter Tryd.func24, Tryd.ntmps24
    go_wp2_with fail
    go_ret
    exact ⟨rfl, HB.out _ _⟩
theorem take_eq_snoc {la lb : List Wd} {i : Nat} (h : la.take i = lb.take i) (ha : i < la.length) (hb : i < lb.length) (e : la.getD i w0 = lb.getD i w0) : la.take (i + 1) = lb.take (i + 1) := by
  rw [List.take_add_one, List.take_add_one, h]
  simp only [List.getD_eq_getElem?_getD, List.getElem?_eq_getElem ha, List.getElem?_eq_getElem hb, Option.getD_some] at e
  rw [List.getElem?_eq_getElem ha, List.getElem?_eq_getElem hb, e]

set_option maxRecDepth 100000 in
set_option maxHeartbeats 8000000 in
theorem same_any {va vb : Value} (la lb : List Wd) (w : World) (h1 : Rw w va la.length (wC la)) (h2 : Rw w vb lb.length (wC lb)) (hl : la.length ≤ 1000000000000) : Calls Tryd.prog 13 #[va, vb] w fun e w' => e = .returned (.bool (decide (la = lb))) ∧ Below w.heap.size w w' := by
  obtain ⟨a1, g1, o1, q1, rfl, hq1, hn1, hs1, hc1⟩ := h1
  obtain ⟨a2, g2, o2, q2, rfl, hq2, hn2, hs2, hc2⟩ := h2
  have HL : Hid (la.length ≤ 1000000000000) := hl
  have HC1 : Hid (∀ i, i < la.length → w.cell? ⟨g1, o1 + i * 4, none⟩ = some (.int .i64 (la.getD i w0).k) ∧ w.cell? ⟨g1, o1 + i * 4 + 1, none⟩ = some (.string ⟨(la.getD i w0).t.toArray⟩) ∧ w.cell? ⟨g1, o1 + i * 4 + 2, none⟩ = some (.int .i64 (la.getD i w0).n) ∧ w.cell? ⟨g1, o1 + i * 4 + 3, none⟩ = some (.int .i64 (la.getD i w0).a)) := fun i hi => by
    obtain ⟨k0, k1, k2, k3⟩ := wC_get la i hi
    exact ⟨hc1 _ _ k0, hc1 _ _ k1, hc1 _ _ k2, hc1 _ _ k3⟩
  have HC2 : Hid (∀ i, i < lb.length → w.cell? ⟨g2, o2 + i * 4, none⟩ = some (.int .i64 (lb.getD i w0).k) ∧ w.cell? ⟨g2, o2 + i * 4 + 1, none⟩ = some (.string ⟨(lb.getD i w0).t.toArray⟩) ∧ w.cell? ⟨g2, o2 + i * 4 + 2, none⟩ = some (.int .i64 (lb.getD i w0).n) ∧ w.cell? ⟨g2, o2 + i * 4 + 3, none⟩ = some (.int .i64 (lb.getD i w0).a)) := fun i hi => by
    obtain ⟨k0, k1, k2, k3⟩ := wC_get lb i hi
    exact ⟨hc2 _ _ k0, hc2 _ _ k1, hc2 _ _ k2, hc2 _ _ k3⟩
  obtain ⟨V, hV⟩ : ∃ V, decide (la = lb) = V := ⟨_, rfl⟩
  rw [hV]
  by_cases hn : la.length = lb.length
  · have d1 : ((la.length : Int) != (lb.length : Int)) = false := by simp [hn]
    have d2 : (la.length != lb.length) = false := by simp [hn]
    have HS1 : Hid (0 < la.length → a1 = some ⟨g1, o1, none⟩) := hs1
    have HS2 : Hid (0 < lb.length → a2 = some ⟨g2, o2, none⟩) := hs2
    have HNN : Hid (la.length = lb.length) := hn
    have HV : Hid (decide (la = lb) = V) := hV
    have HQ : Hid (la.length ≤ q1 ∧ lb.length ≤ q2) := ⟨hq1, hq2⟩
    clear hn hV hq1 hq2 hn1 hn2 hs1 hs2 hc1 hc2 hl
    go_enter Tryd.func13, Tryd.ntmps13
    go_wp2_with fail
    go_loopg [5] la.length (fun gm v5 wr => ∃ i : Nat, v5 = .int .i64 (i : Int) ∧ Hid (i ≤ la.length ∧ gm = la.length - i) ∧ Hid (la.take i = lb.take i) ∧ Hid (Below w.heap.size w wr))
    case atStart => exact ⟨0, rfl, ⟨Nat.zero_le _, rfl⟩, rfl, Below.refl _ _⟩
    case round =>
      obtain ⟨i, rfl, HI, HT, HB⟩ := hrel
      by_cases hi : i < la.length
      · have e1 : decide ((i : Int) < (la.length : Int)) = true := by rw [decide_eq_true_eq]; omega
        have e2 : decide (i < la.length) = true := by rw [decide_eq_true_eq]; omega
        have hi2 : i < lb.length := by have := HNN.out; omega
        have r1 := HS1.out (by omega)
        have r2 := HS2.out (by omega)
        subst r1
        subst r2
        have HIL : Hid (i < la.length) := hi
        have HIM : Hid (i < lb.length) := hi2
        obtain ⟨x, hx⟩ : ∃ x, la.getD i w0 = x := ⟨_, rfl⟩
        obtain ⟨y, hy⟩ : ∃ y, lb.getD i w0 = y := ⟨_, rfl⟩
        have HX : Hid (la.getD i w0 = x) := hx
        have HY : Hid (lb.getD i w0 = y) := hy
        have HCC : Hid (∀ W, Below wr.heap.size wr W → (W.cell? ⟨g1, o1 + i * 4, none⟩ = some (.int .i64 x.k) ∧ W.cell? ⟨g1, o1 + i * 4 + 1, none⟩ = some (.string ⟨x.t.toArray⟩) ∧ W.cell? ⟨g1, o1 + i * 4 + 2, none⟩ = some (.int .i64 x.n) ∧ W.cell? ⟨g1, o1 + i * 4 + 3, none⟩ = some (.int .i64 x.a)) ∧ (W.cell? ⟨g2, o2 + i * 4, none⟩ = some (.int .i64 y.k) ∧ W.cell? ⟨g2, o2 + i * 4 + 1, none⟩ = some (.string ⟨y.t.toArray⟩) ∧ W.cell? ⟨g2, o2 + i * 4 + 2, none⟩ = some (.int .i64 y.n) ∧ W.cell? ⟨g2, o2 + i * 4 + 3, none⟩ = some (.int .i64 y.a))) := fun W hW => by
          have hb := below_trans HB.out hW
          obtain ⟨p0, p1, p2, p3⟩ := HC1.out i hi
          obtain ⟨s0, s1, s2, s3⟩ := HC2.out i hi2
          rw [hx] at p0 p1 p2 p3
          rw [hy] at s0 s1 s2 s3
          exact ⟨⟨below_cell hb p0, below_cell hb p1, below_cell hb p2, below_cell hb p3⟩, ⟨below_cell hb s0, below_cell hb s1, below_cell hb s2, below_cell hb s3⟩⟩
        have b1 : (i : Int) < (la.length : Int) := by omega
        have b2 : (i : Int) < (lb.length : Int) := by omega
        clear hx hy
        go_upto_region 6 with fail
        have b3 : i < la.length := hi
        have b4 : i < lb.length := hi2
        refine wp_region_noPanic ?_
        refine wp_region_held_drew (S := fun W => Below wr.heap.size wr W) (by kernel_rfl) (Below.drew (Below.refl _ _)) (fun hHeld => ?_)
        refine wpAnyH_take (i := 0) (oi := { dst := _, op := _, type := _, pos := _, after := _, guard := _ }) (v := ?_) rfl (by kernel_rfl) (by kernel_rfl) (by kernel_rfl) (fun _ _ _ h => h) (Or.inl ⟨by rfl, ?_⟩) (by assumption) ?_
        rotate_left
        · intro W hSw
          (try dsimp only at hSw)
          go_simp
          (try with_reducible rfl)
        try simp only [Act.put, List.setIfInBounds_toArray, List.set_cons_zero, List.set_cons_succ]
        refine wpAnyH_take (i := 1) (oi := { dst := _, op := _, type := _, pos := _, after := _, guard := _ }) (v := ?_) rfl (by kernel_rfl) (by kernel_rfl) (by kernel_rfl) (fun _ _ _ h => h) (Or.inl ⟨by rfl, ?_⟩) (by assumption) ?_
        rotate_left
        · intro W hSw
          (try dsimp only at hSw)
          go_simp
          (try with_reducible rfl)
        try simp only [Act.put, List.setIfInBounds_toArray, List.set_cons_zero, List.set_cons_succ]
        refine wpAnyH_take (i := 2) (oi := { dst := _, op := _, type := _, pos := _, after := _, guard := _ }) (v := ?_) rfl (by kernel_rfl) (by kernel_rfl) (by kernel_rfl) (fun _ _ _ h => h) (Or.inl ⟨by rfl, ?_⟩) (by assumption) ?_
        rotate_left
        · intro W hSw
          (try dsimp only at hSw)
          go_simp
          (try with_reducible rfl)
        try simp only [Act.put, List.setIfInBounds_toArray, List.set_cons_zero, List.set_cons_succ]
        refine wpAnyH_take (i := 3) (oi := { dst := _, op := _, type := _, pos := _, after := _, guard := _ }) (v := ?_) rfl (by kernel_rfl) (by kernel_rfl) (by kernel_rfl) (fun _ _ _ h => h) (Or.inl ⟨by rfl, ?_⟩) (by assumption) ?_
        rotate_left
        · intro W hSw
          (try dsimp only at hSw)
          obtain ⟨⟨p0, p1, p2, p3⟩, ⟨s0, s1, s2, s3⟩⟩ := HCC.out W hSw
          go_simp
          (try with_reducible rfl)
        try simp only [Act.put, List.setIfInBounds_toArray, List.set_cons_zero, List.set_cons_succ]
        refine wpAnyH_take (i := 4) (oi := { dst := _, op := _, type := _, pos := _, after := _, guard := _ }) (v := ?_) rfl (by kernel_rfl) (by kernel_rfl) (by kernel_rfl) (fun _ _ _ h => h) (Or.inl ⟨by rfl, ?_⟩) (by assumption) ?_
        rotate_left
        · intro W hSw
          (try dsimp only at hSw)
          go_simp
          (try with_reducible rfl)
        try simp only [Act.put, List.setIfInBounds_toArray, List.set_cons_zero, List.set_cons_succ]
        refine wpAnyH_take (i := 5) (oi := { dst := _, op := _, type := _, pos := _, after := _, guard := _ }) (v := ?_) rfl (by kernel_rfl) (by kernel_rfl) (by kernel_rfl) (fun _ _ _ h => h) (Or.inl ⟨by rfl, ?_⟩) (by assumption) ?_
        rotate_left
        · intro W hSw
          (try dsimp only at hSw)
          go_simp
          (try with_reducible rfl)
        try simp only [Act.put, List.setIfInBounds_toArray, List.set_cons_zero, List.set_cons_succ]
        refine wpAnyH_take (i := 6) (oi := { dst := _, op := _, type := _, pos := _, after := _, guard := _ }) (v := ?_) rfl (by kernel_rfl) (by kernel_rfl) (by kernel_rfl) (fun _ _ _ h => h) (Or.inl ⟨by rfl, ?_⟩) (by assumption) ?_
        rotate_left
        · intro W hSw
          (try dsimp only at hSw)
          go_simp
          (try with_reducible rfl)
        try simp only [Act.put, List.setIfInBounds_toArray, List.set_cons_zero, List.set_cons_succ]
        refine wpAnyH_take (i := 7) (oi := { dst := _, op := _, type := _, pos := _, after := _, guard := _ }) (v := ?_) rfl (by kernel_rfl) (by kernel_rfl) (by kernel_rfl) (fun _ _ _ h => h) (Or.inl ⟨by rfl, ?_⟩) (by assumption) ?_
        rotate_left
        · intro W hSw
          (try dsimp only at hSw)
          obtain ⟨⟨p0, p1, p2, p3⟩, ⟨s0, s1, s2, s3⟩⟩ := HCC.out W hSw
          go_simp
          (try with_reducible rfl)
        try simp only [Act.put, List.setIfInBounds_toArray, List.set_cons_zero, List.set_cons_succ]
        refine wpAnyH_ready (rs := [8]) (by kernel_rfl) (by simp) ?_
        refine AllReadyH.cons (o := { dst := _, op := _, type := _, pos := _, after := _, guard := _ }) rfl (fun K hK => ?_) AllReadyH.nil
        go_simp
        refine (sameword_any x y _).mono ?_
        rintro e w5 ⟨rfl, b5⟩
        have HB5 : Hid (Below wr.heap.size wr w5) := (Below.drew (Below.refl _ _)).trans b5
        clear b5
        go_wp2_with fail
        refine hK.out _ _ ?_ (fun hHeld => ?_)
        · exact HB5.out
        clear hK K
        try simp only [Act.put, List.setIfInBounds_toArray, List.set_cons_zero, List.set_cons_succ]
        refine wpAnyH_take (i := 9) (oi := { dst := _, op := _, type := _, pos := _, after := _, guard := _ }) (v := ?_) rfl (by kernel_rfl) (by kernel_rfl) (by kernel_rfl) (fun _ _ _ h => h) (Or.inl ⟨by rfl, ?_⟩) (by assumption) ?_
        rotate_left
        · intro W hSw
          (try dsimp only at hSw)
          go_simp
          (try with_reducible rfl)
        try simp only [Act.put, List.setIfInBounds_toArray, List.set_cons_zero, List.set_cons_succ]
        refine wpAnyH_done (by kernel_rfl) ?_ _
        clear hHeld
        refine NoPanic.normal ?_
        have HB6 : Hid (Below w.heap.size w w5) := below_trans HB.out HB5.out
        by_cases hxy : x = y
        · have z1 : decide (x = y) = true := decide_eq_true hxy
          rw [z1]
          have HNX : Hid (la.take (i + 1) = lb.take (i + 1)) := take_eq_snoc HT.out hi hi2 (by rw [HX.out, HY.out]; exact hxy)
          have hwi := w64n i (by have := HL.out; omega)
          clear z1 hxy hi hi2 b1 b2 b3 b4
          go_wp2_with fail
          go_roundg (la.length - (i + 1))
          case measure => have := HI.out; have := HIL.out; omega
          case rel => exact ⟨i + 1, by simp, ⟨HIL.out, rfl⟩, HNX, HB6⟩
        · have z1 : decide (x = y) = false := decide_eq_false hxy
          rw [z1]
          have HVF : Hid (V = false) := by
            rw [← HV.out]
            exact decide_eq_false (fun h => hxy (by rw [← HX.out, ← HY.out, h]))
          clear z1 hxy hi hi2 b1 b2 b3 b4
          go_wp2_with fail
          go_ret
          exact ⟨by rw [HVF.out]; rfl, HB6.out⟩
      · have e1 : decide ((i : Int) < (la.length : Int)) = false := by rw [decide_eq_false_iff_not]; omega
        have e2 : decide (i < la.length) = false := by rw [decide_eq_false_iff_not]; omega
        have HVT : Hid (V = true) := by
          rw [← HV.out]
          refine decide_eq_true ?_
          have h := HT.out
          rw [List.take_of_length_le (by omega), List.take_of_length_le (by have := HNN.out; omega)] at h
          exact h
        clear hi
        go_wp2_with fail
        go_ret
        exact ⟨by rw [HVT.out]; rfl, HB.out⟩
  · have d1 : ((la.length : Int) != (lb.length : Int)) = true := by simp; omega
    have d2 : (la.length != lb.length) = true := by simp; omega
    rw [decide_eq_false (fun h => hn (congrArg List.length h))] at hV
    subst hV
    clear hn hq1 hq2 hn1 hn2 hs1 hs2 hc1 hc2 hl
    go_enter Tryd.func13, Tryd.ntmps13
    go_wp2_with fail
    go_ret
    exact ⟨rfl, Below.refl _ _⟩
end Go.Proofs.YteaanieohcanlaaDoor
