import Derived.Test.YtbkhhegmmkcbbaaTfb
import Derived.Laws.StructEq
namespace Go.Proofs.Ytbkhhegmmkcbbaa
open Go.RowKit Go.Maps

theorem str_eq (x y : ByteArray) : (x.toList == y.toList) = decide (x = y) := by
  rw [ByteArray.toList_eq, ByteArray.toList_eq]
  by_cases h : x = y
  · subst h; simp
  · rw [decide_eq_false h, beq_eq_false_iff_ne]
    intro e
    exact h (ByteArray.ext (Array.toList_inj.1 e))
deriving instance DecidableEq for Nd
set_option maxRecDepth 100000 in
set_option maxHeartbeats 4000000 in
/-- Two nodes are compared. -/
theorem equal_nd (x y : Nd) (W : World) : (Op.equalIn 10000 53 (.agg #[.string x.nm, .bool x.nd, .string x.fd, .int .i64 x.fr, .int .i64 x.tt, .int .i64 x.kd, .int .i64 x.lf]) (.agg #[.string y.nm, .bool y.nd, .string y.fd, .int .i64 y.fr, .int .i64 y.tt, .int .i64 y.kd, .int .i64 y.lf])).run Try.prog W = .ok (decide (x = y)) W := by
  obtain ⟨x0, x1, x2, x3, x4, x5, x6⟩ := x
  obtain ⟨y0, y1, y2, y3, y4, y5, y6⟩ := y
  simp only
  obtain ⟨V, hV⟩ : ∃ V, decide ((⟨x0, x1, x2, x3, x4, x5, x6⟩ : Nd) = ⟨y0, y1, y2, y3, y4, y5, y6⟩) = V := ⟨_, rfl⟩
  rw [hV]
  by_cases c0 : x0 = y0
  · subst c0
    by_cases c1 : x1 = y1
    · subst c1
      by_cases c2 : x2 = y2
      · subst c2
        by_cases c3 : x3 = y3
        · subst c3
          by_cases c4 : x4 = y4
          · subst c4
            by_cases c5 : x5 = y5
            · subst c5
              by_cases c6 : x6 = y6
              · subst c6
                rw [decide_eq_true rfl] at hV
                subst hV
                go_simp
              · have d : (x6 == y6) = false := by simpa using c6
                rw [decide_eq_false (fun h => c6 (congrArg Nd.lf h))] at hV
                subst hV
                clear c6
                go_simp
            · have d : (x5 == y5) = false := by simpa using c5
              rw [decide_eq_false (fun h => c5 (congrArg Nd.kd h))] at hV
              subst hV
              clear c5
              go_simp
          · have d : (x4 == y4) = false := by simpa using c4
            rw [decide_eq_false (fun h => c4 (congrArg Nd.tt h))] at hV
            subst hV
            clear c4
            go_simp
        · have d : (x3 == y3) = false := by simpa using c3
          rw [decide_eq_false (fun h => c3 (congrArg Nd.fr h))] at hV
          subst hV
          clear c3
          go_simp
      · have d : (x2.toList == y2.toList) = false := by rw [str_eq, decide_eq_false c2]
        rw [decide_eq_false (fun h => c2 (congrArg Nd.fd h))] at hV
        subst hV
        clear c2
        go_simp
    · have d : (x1 == y1) = false := by simpa using c1
      rw [decide_eq_false (fun h => c1 (congrArg Nd.nd h))] at hV
      subst hV
      clear c1
      go_simp
  · have d : (x0.toList == y0.toList) = false := by rw [str_eq, decide_eq_false c0]
    rw [decide_eq_false (fun h => c0 (congrArg Nd.nm h))] at hV
    subst hV
    clear c0
    go_simp
theorem take_eq_nd {la lb : List Nd} {i : Nat} (h : la.take i = lb.take i) (ha : i < la.length) (hb : i < lb.length) (e : la.getD i ndd = lb.getD i ndd) : la.take (i + 1) = lb.take (i + 1) := by
  rw [List.take_add_one, List.take_add_one, h]
  simp only [List.getD_eq_getElem?_getD, List.getElem?_eq_getElem ha, List.getElem?_eq_getElem hb, Option.getD_some] at e
  rw [List.getElem?_eq_getElem ha, List.getElem?_eq_getElem hb, e]
theorem Ns.seven {W : World} {a : Option Addr} {n cap : Nat} {t : List Nd} (h : Ns W (.slice a n cap) t) (i : Nat) (hi : i < t.length) : ∃ g o, a = some ⟨g, o, none⟩ ∧ ∀ W', Below W.heap.size W W' → W'.cell? ⟨g, o + i * 7, none⟩ = some (.string (t.getD i ndd).nm) ∧ W'.cell? ⟨g, o + i * 7 + 1, none⟩ = some (.bool (t.getD i ndd).nd) ∧ W'.cell? ⟨g, o + i * 7 + 2, none⟩ = some (.string (t.getD i ndd).fd) ∧ W'.cell? ⟨g, o + i * 7 + 3, none⟩ = some (.int .i64 (t.getD i ndd).fr) ∧ W'.cell? ⟨g, o + i * 7 + 4, none⟩ = some (.int .i64 (t.getD i ndd).tt) ∧ W'.cell? ⟨g, o + i * 7 + 5, none⟩ = some (.int .i64 (t.getD i ndd).kd) ∧ W'.cell? ⟨g, o + i * 7 + 6, none⟩ = some (.int .i64 (t.getD i ndd).lf) := by
  obtain ⟨g, o, cap', e, hc⟩ := h.cells i hi
  obtain ⟨rfl, -, -⟩ := Value.slice.inj e
  refine ⟨g, o, rfl, fun W' hW => ?_⟩
  have k : ∀ j u, (nf (t.getD i ndd))[j]? = some u → W'.cell? ⟨g, o + i * 7 + j, none⟩ = some u := fun j u hu => by rw [Nat.add_assoc]; exact below_cell hW (hc j u hu)
  exact ⟨k 0 _ rfl, k 1 _ rfl, k 2 _ rfl, k 3 _ rfl, k 4 _ rfl, k 5 _ rfl, k 6 _ rfl⟩
set_option maxRecDepth 100000 in
set_option maxHeartbeats 8000000 in
/-- Same: are they the same nodes? -/
theorem same_any {v u : Value} {t s : List Nd} (hs : Sm t) (w : World) (h : Ns w v t) (h' : Ns w u s) :
    Calls Try.prog 15 #[v, u] w fun e w' => e = .returned (.bool (decide (t = s))) ∧ Below w.heap.size w w' := by
  have HT : Hid (Ns w v t) := h
  have HU : Hid (Ns w u s) := h'
  have HS : Hid (t.length * 72 + 4096 ≤ 140737488355328) := hs
  obtain ⟨a1, q1, rfl⟩ := h.form
  obtain ⟨a2, q2, rfl⟩ := h'.form
  clear h h' hs
  obtain ⟨V, hV⟩ : ∃ V, decide (t = s) = V := ⟨_, rfl⟩
  rw [hV]
  obtain ⟨n, hn⟩ : ∃ n, t.length = n := ⟨_, rfl⟩
  have HN : Hid (t.length = n) := hn
  by_cases hq : s.length = n
  · have HM : Hid (s.length = n) := hq
    rw [hn] at HT HS ⊢
    rw [hq] at HU ⊢
    have HV : Hid (decide (t = s) = V) := hV
    clear hn hq hV
    go_enter Try.func15, Try.ntmps15
    go_upto_region 4 with fail
    go_loopg [5] n (fun gm v5 wr => ∃ i : Nat, v5 = .int .i64 (i : Int) ∧ Hid (i ≤ n ∧ gm = n - i) ∧ Hid (t.take i = s.take i) ∧ Hid (Below w.heap.size w wr))
    case atStart => exact ⟨0, rfl, ⟨Nat.zero_le _, rfl⟩, rfl, Below.refl _ _⟩
    case round =>
      obtain ⟨i, rfl, HI, HTK, HB⟩ := hrel
      by_cases hi : i < n
      · have e1 : decide ((i : Int) < (n : Int)) = true := by rw [decide_eq_true_eq]; omega
        have e2 : decide (i < n) = true := by rw [decide_eq_true_eq]; omega
        have HIL : Hid (i < n) := hi
        have b1 : (i : Int) < (n : Int) := by omega
        obtain ⟨g1, o1, rfl, hc1⟩ := HT.out.seven i (by rw [HN.out]; exact hi)
        obtain ⟨g2, o2, rfl, hc2⟩ := HU.out.seven i (by rw [HM.out]; exact hi)
        obtain ⟨x, hx⟩ : ∃ x, t.getD i ndd = x := ⟨_, rfl⟩
        obtain ⟨y, hy⟩ : ∃ y, s.getD i ndd = y := ⟨_, rfl⟩
        have HX : Hid (t.getD i ndd = x) := hx
        have HY : Hid (s.getD i ndd = y) := hy
        rw [hx] at hc1
        rw [hy] at hc2
        have HC1 : Hid _ := hc1
        have HC2 : Hid _ := hc2
        clear hx hy hc1 hc2
        have hE := equal_nd x y
        obtain ⟨E, hEE⟩ : ∃ E, decide (x = y) = E := ⟨_, rfl⟩
        rw [hEE] at hE
        have HEE : Hid (decide (x = y) = E) := hEE
        clear hEE
        have HD : Hid (Below w.heap.size w wr.drew) := below_trans HB.out (Below.drew (Below.refl _ _))
        go_upto_region 6 with fail
        have b3 : i < n := hi
        refine wp_region_noPanic ?_
        refine wp_region_held_drew (S := fun W => Below w.heap.size w W) (by kernel_rfl) HD.out (fun hHeld => ?_)
        refine wpAnyH_take (i := 0) (oi := { dst := _, op := _, type := _, pos := _, after := _, guard := _ }) (v := ?_) rfl (by kernel_rfl) (by kernel_rfl) (by kernel_rfl) (fun _ _ _ h => h) (Or.inl ⟨by rfl, ?_⟩) (by assumption) ?_
        rotate_left
        · intro W hSw
          (try dsimp only at hSw)
          go_simp
          (try with_reducible rfl)
        try simp only [Act.put, List.setIfInBounds_toArray, List.set_cons_zero, List.set_cons_succ]
        refine wpAnyH_take (i := 1) (oi := { dst := _, op := _, type := _, pos := _, after := _, guard := _ }) (v := ?_) rfl (by kernel_rfl) (by kernel_rfl) (by kernel_rfl) (fun _ _ _ h => h) (Or.inl ⟨by rfl, ?_⟩) (by assumption) ?_
        rotate_left
        · intro W hSw
          (try dsimp only at hSw)
          go_simp
          (try with_reducible rfl)
        try simp only [Act.put, List.setIfInBounds_toArray, List.set_cons_zero, List.set_cons_succ]
        refine wpAnyH_take (i := 2) (oi := { dst := _, op := _, type := _, pos := _, after := _, guard := _ }) (v := ?_) rfl (by kernel_rfl) (by kernel_rfl) (by kernel_rfl) (fun _ _ _ h => h) (Or.inl ⟨by rfl, ?_⟩) (by assumption) ?_
        rotate_left
        · intro W hSw
          (try dsimp only at hSw)
          go_simp
          (try with_reducible rfl)
        try simp only [Act.put, List.setIfInBounds_toArray, List.set_cons_zero, List.set_cons_succ]
        refine wpAnyH_take (i := 3) (oi := { dst := _, op := _, type := _, pos := _, after := _, guard := _ }) (v := ?_) rfl (by kernel_rfl) (by kernel_rfl) (by kernel_rfl) (fun _ _ _ h => h) (Or.inl ⟨by rfl, ?_⟩) (by assumption) ?_
        rotate_left
        · intro W hSw
          (try dsimp only at hSw)
          obtain ⟨p0, p1, p2, p3, p4, p5, p6⟩ := HC1.out W hSw
          go_simp
          (try with_reducible rfl)
        try simp only [Act.put, List.setIfInBounds_toArray, List.set_cons_zero, List.set_cons_succ]
        refine wpAnyH_take (i := 4) (oi := { dst := _, op := _, type := _, pos := _, after := _, guard := _ }) (v := ?_) rfl (by kernel_rfl) (by kernel_rfl) (by kernel_rfl) (fun _ _ _ h => h) (Or.inl ⟨by rfl, ?_⟩) (by assumption) ?_
        rotate_left
        · intro W hSw
          (try dsimp only at hSw)
          go_simp
          (try with_reducible rfl)
        try simp only [Act.put, List.setIfInBounds_toArray, List.set_cons_zero, List.set_cons_succ]
        refine wpAnyH_take (i := 5) (oi := { dst := _, op := _, type := _, pos := _, after := _, guard := _ }) (v := ?_) rfl (by kernel_rfl) (by kernel_rfl) (by kernel_rfl) (fun _ _ _ h => h) (Or.inl ⟨by rfl, ?_⟩) (by assumption) ?_
        rotate_left
        · intro W hSw
          (try dsimp only at hSw)
          go_simp
          (try with_reducible rfl)
        try simp only [Act.put, List.setIfInBounds_toArray, List.set_cons_zero, List.set_cons_succ]
        refine wpAnyH_take (i := 6) (oi := { dst := _, op := _, type := _, pos := _, after := _, guard := _ }) (v := ?_) rfl (by kernel_rfl) (by kernel_rfl) (by kernel_rfl) (fun _ _ _ h => h) (Or.inl ⟨by rfl, ?_⟩) (by assumption) ?_
        rotate_left
        · intro W hSw
          (try dsimp only at hSw)
          go_simp
          (try with_reducible rfl)
        try simp only [Act.put, List.setIfInBounds_toArray, List.set_cons_zero, List.set_cons_succ]
        refine wpAnyH_take (i := 7) (oi := { dst := _, op := _, type := _, pos := _, after := _, guard := _ }) (v := ?_) rfl (by kernel_rfl) (by kernel_rfl) (by kernel_rfl) (fun _ _ _ h => h) (Or.inl ⟨by rfl, ?_⟩) (by assumption) ?_
        rotate_left
        · intro W hSw
          (try dsimp only at hSw)
          obtain ⟨p0, p1, p2, p3, p4, p5, p6⟩ := HC2.out W hSw
          go_simp
          (try with_reducible rfl)
        try simp only [Act.put, List.setIfInBounds_toArray, List.set_cons_zero, List.set_cons_succ]
        refine wpAnyH_take (i := 8) (oi := { dst := _, op := _, type := _, pos := _, after := _, guard := _ }) (v := ?_) rfl (by kernel_rfl) (by kernel_rfl) (by kernel_rfl) (fun _ _ _ h => h) (Or.inl ⟨by rfl, ?_⟩) (by assumption) ?_
        rotate_left
        · intro W hSw
          (try dsimp only at hSw)
          go_simp
          (try with_reducible rfl)
        try simp only [Act.put, List.setIfInBounds_toArray, List.set_cons_zero, List.set_cons_succ]
        refine wpAnyH_done (by kernel_rfl) ?_ _
        clear hHeld
        refine NoPanic.normal ?_
        clear hE
        cases E with
        | true =>
          have HXY : Hid (x = y) := (of_decide_eq_true HEE.out : x = y)
          have hwi : IntKind.i64.wrap ((i : Int) + 1) = ((i + 1 : Nat) : Int) := by have := HS.out; rw [IntKind.wrap_i64]; omega
          go_wp2_with fail
          go_roundg (n - (i + 1))
          case measure => have := HI.out; omega
          case rel => exact ⟨i + 1, rfl, ⟨by omega, rfl⟩, take_eq_nd HTK.out (by rw [HN.out]; exact HIL.out) (by rw [HM.out]; exact HIL.out) (by rw [HX.out, HY.out]; exact HXY.out), HD.out⟩
        | false =>
          have HXY : Hid (V = false) := by
            rw [← HV.out]
            refine decide_eq_false fun h => of_decide_eq_false HEE.out ?_
            rw [← HX.out, ← HY.out, h]
          go_wp2_with fail
          go_ret
          exact ⟨by rw [HXY.out]; rfl, HD.out⟩
      · have e1 : decide ((i : Int) < (n : Int)) = false := by rw [decide_eq_false_iff_not]; omega
        have e2 : decide (i < n) = false := by rw [decide_eq_false_iff_not]; omega
        have HXY : Hid (V = true) := by
          have h1 := HTK.out
          rw [List.take_of_length_le (by rw [HN.out]; omega), List.take_of_length_le (by rw [HM.out]; omega)] at h1
          rw [← HV.out]
          exact decide_eq_true h1
        clear hi
        go_wp2_with fail
        go_ret
        exact ⟨by rw [HXY.out]; rfl, HB.out⟩
  · have HM : Hid (V = false) := by
      rw [← hV]
      exact decide_eq_false fun h => hq (by rw [← h, hn])
    obtain ⟨m, hm⟩ : ∃ m, s.length = m := ⟨_, rfl⟩
    rw [hm] at hq ⊢
    rw [hn]
    have d1 : ((n : Int) != (m : Int)) = true := by rw [bne_iff_ne]; omega
    have d2 : (n != m) = true := by rw [bne_iff_ne]; omega
    go_enter Try.func15, Try.ntmps15
    go_wp2_with fail
    go_ret
    exact ⟨by rw [HM.out]; rfl, Below.refl _ _⟩
end Go.Proofs.Ytbkhhegmmkcbbaa
