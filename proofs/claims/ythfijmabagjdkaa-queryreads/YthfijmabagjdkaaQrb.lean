import Derived.Test.YthfijmabagjdkaaQra
namespace Go.Proofs.Ythfijmabagjdkaa.Qy
open Go.RowKit Go.Maps

theorem Rq.two {B : Nat} {W : World} {r : Nat} {vn vc : Value} {s : Rs} (h : Rq B W r vn vc s) (hk : (hd s).k ≠ 0) : ∃ g o n cap, W.cell? ⟨r, 0, none⟩ = some (.slice (some ⟨g, o, none⟩) n cap) ∧ 1 < n ∧ n ≤ cap ∧ W.cell? ⟨g, o, none⟩ = some (.int .i64 (hd s).k) ∧ W.cell? ⟨g, o + 1, none⟩ = some (.string ⟨(hd s).t.toArray⟩) ∧ W.cell? ⟨g, o + 4, none⟩ = some (.int .i64 (hd (tl s)).k) ∧ W.cell? ⟨g, o + 4 + 1, none⟩ = some (.string ⟨(hd (tl s)).t.toArray⟩) ∧ ((hd (tl s)).k ≠ 0 → 2 < n ∧ Wk (tl (tl s)).ws ∧ Lw B W (.slice (some ⟨g, o + 8, none⟩) (n - 2) (cap - 2)) (tl (tl s)).ws) := by
  obtain ⟨g, o, n, cap, k0, k1, k2, k3, hn, n0, hc, c0, c1, c2, c3, ht⟩ := h.open
  obtain ⟨h1, h2, h3⟩ := ht hk
  obtain ⟨y, m, hm⟩ := h2.ne
  have e1 : hd (tl s) = y := by unfold hd; rw [hm]; rfl
  have e2 : (tl (tl s)).ws = m := by
    show (tl s).ws.tail = m
    rw [hm]; rfl
  rw [hm] at h3 h2
  obtain ⟨g', o', cap', e, hcc, d0, d1, d2, d3, hl⟩ := h3.at
  have e3 := (Value.slice.inj e)
  obtain ⟨e4, e5, e6⟩ := e3
  have e7 := Option.some.inj e4
  injection e7 with e8 e9
  subst e8 e9 e6
  rw [e1, e2]
  refine ⟨g, o, n, cap, k0, h1, hc, c0, c1, d0, d1, fun hy => ?_⟩
  have hw := h2.tail hy
  obtain ⟨z, q, rfl⟩ := hw.ne
  have h7 := hl (by simp)
  rw [List.length_cons] at e5 h7
  refine ⟨by omega, hw, ?_⟩
  have e9 : n - 2 = q.length + 1 := by omega
  rw [e9]
  have e10 : cap - 1 - 1 = cap - 2 := by omega
  rw [e10] at h7
  exact h7
set_option maxRecDepth 100000 in
set_option maxHeartbeats 4000000 in
theorem nameAhead_any {B r : Nat} {vn vc : Value} {s : Rs} (w : World) (h : Rq B w r vn vc s) : Calls Try.prog 55 #[.pointer (some ⟨r, 0, none⟩)] w fun e w' => e = .returned (.bool (nmA s)) ∧ w = w' := by
  obtain ⟨g, o, n, cap, k0, k1, k2, k3, _, hn, _, c0, c1, c2, c3, _⟩ := h.open
  obtain ⟨x, hx⟩ : ∃ x, hd s = x := ⟨_, rfl⟩
  have hse : nmA s = ((x.k == 1) && !decide (x.t = [95])) := by unfold nmA; rw [hx]
  obtain ⟨V, hV⟩ : ∃ V, nmA s = V := ⟨_, rfl⟩
  rw [hV] at hse
  rw [hV]
  rw [hx] at c0 c1 c2 c3
  have HV : Hid (V = ((x.k == 1) && !decide (x.t = [95]))) := hse
  have d1 : (0 : Int) < (n : Int) := by omega
  clear h hx hse hV
  by_cases q1 : x.k = 1
  · have e1 : (x.k == 1) = true := by simpa using q1
    rw [q1] at c0
    have HV2 : Hid (V = !decide (x.t = [95])) := by rw [HV.out, e1, Bool.true_and]; exact rfl
    clear q1 e1
    go_enter Try.func55, Try.ntmps55
    go_wp2_with fail
    go_ret
    exact ⟨by rw [HV2.out, ← lst_dec]; rfl, rfl⟩
  · have e1 : (x.k == 1) = false := by simpa using q1
    have HV2 : Hid (V = false) := by rw [HV.out, e1, Bool.false_and]; exact rfl
    clear q1
    go_enter Try.func55, Try.ntmps55
    go_wp2_with fail
    go_ret
    exact ⟨by rw [HV2.out]; rfl, rfl⟩
set_option maxRecDepth 100000 in
set_option maxHeartbeats 4000000 in
theorem fieldAhead_any {B r : Nat} {vn vc : Value} {s : Rs} (w : World) (h : Rq B w r vn vc s) : Calls Try.prog 42 #[.pointer (some ⟨r, 0, none⟩)] w fun e w' => e = .returned (.bool (fdA s)) ∧ w = w' := by
  have HC : Hid _ := nameAhead_any w h
  obtain ⟨V, hV⟩ : ∃ V, fdA s = V := ⟨_, rfl⟩
  rw [hV]
  unfold fdA at hV
  cases hA : nmA s with
  | false =>
    rw [hA, Bool.false_and] at hV
    rw [hA] at HC
    subst hV
    clear h hA
    go_enter Try.func42, Try.ntmps42
    go_wp2_with (go_at_call 55; refine Calls.mono HC.out ?_; rintro e w2 ⟨rfl, rfl⟩)
    go_ret
    exact ⟨rfl, rfl⟩
  | true =>
    have hk : (hd s).k ≠ 0 := by
      unfold nmA at hA
      rw [Bool.and_eq_true] at hA
      have : (hd s).k = 1 := by simpa using hA.1
      omega
    obtain ⟨g, o, n, cap, k0, n1, _, c0, c1, d0, d1, _⟩ := h.two hk
    rw [hA, Bool.true_and] at hV
    rw [hA] at HC
    unfold se at hV
    obtain ⟨y, hy⟩ : ∃ y, hd (tl s) = y := ⟨_, rfl⟩
    rw [hy] at hV d0 d1
    have HV : Hid (((y.k == 5) && decide (y.t = [58])) = V) := hV
    have b1 : (1 : Int) < (n : Int) := by omega
    clear h hA hk hy hV
    by_cases q1 : y.k = 5
    · have e1 : (y.k == 5) = true := by simpa using q1
      have HV2 : Hid (V = decide (y.t = [58])) := by rw [← HV.out, e1, Bool.true_and]; exact rfl
      rw [q1] at d0
      clear q1 e1
      go_enter Try.func42, Try.ntmps42
      go_wp2_with (go_at_call 55; refine Calls.mono HC.out ?_; rintro e w2 ⟨rfl, rfl⟩)
      go_ret
      exact ⟨by rw [HV2.out, ← lst_dec]; rfl, rfl⟩
    · have e1 : (y.k == 5) = false := by simpa using q1
      have HV2 : Hid (V = false) := by rw [← HV.out, e1, Bool.false_and]; exact rfl
      clear q1
      go_enter Try.func42, Try.ntmps42
      go_wp2_with (go_at_call 55; refine Calls.mono HC.out ?_; rintro e w2 ⟨rfl, rfl⟩)
      go_ret
      exact ⟨by rw [HV2.out]; rfl, rfl⟩
set_option maxRecDepth 100000 in
set_option maxHeartbeats 4000000 in
theorem nodeAhead_any {B r : Nat} {vn vc : Value} {s : Rs} (w : World) (h : Rq B w r vn vc s) : Calls Try.prog 43 #[.pointer (some ⟨r, 0, none⟩)] w fun e w' => e = .returned (.bool (ndA s)) ∧ Below w.heap.size w w' := by
  have HC : Hid _ := sees_any 5 [40] w h
  have HR : Hid (Rq B w r vn vc s) := h
  obtain ⟨x, hx⟩ : ∃ x, hd s = x := ⟨_, rfl⟩
  obtain ⟨V, hV⟩ : ∃ V, ndA s = V := ⟨_, rfl⟩
  rw [hV]
  unfold ndA at hV
  rw [hx] at hV
  cases hA : se s 5 [40] with
  | true =>
    rw [hA, Bool.true_or] at hV
    rw [hA] at HC
    subst hV
    clear h hA hx
    go_enter Try.func43, Try.ntmps43
    go_wp2_with (go_at_call 47; refine Calls.mono HC.out ?_; rintro e w2 ⟨rfl, hb⟩; have HB : Hid (Below w.heap.size w w2) := hb; clear hb)
    go_ret
    exact ⟨rfl, HB.out⟩
  | false =>
    rw [hA, Bool.false_or] at hV
    rw [hA] at HC
    have HX : Hid (hd s = x) := hx
    have HV : Hid (((x.k == 2) && !decide (x.t = [])) = V) := hV
    clear h hA hV hx
    by_cases q1 : x.k = 2
    · have e1 : (x.k == 2) = true := by simpa using q1
      have HV2 : Hid (V = !decide (x.t = [])) := by rw [← HV.out, e1, Bool.true_and]; exact rfl
      have HQ : Hid (x.k = 2) := q1
      clear q1 e1
      go_enter Try.func43, Try.ntmps43
      go_wp2_with (go_at_call 47; refine Calls.mono HC.out ?_; rintro e w2 ⟨rfl, hb⟩; have HB : Hid (Below w.heap.size w w2) := hb; obtain ⟨g, o, n, cap, k0, k1, k2, k3, _, hn, _, c0, c1, c2, c3, _⟩ := (HR.out.up hb).open; rw [HX.out] at c0 c1 c2 c3; rw [HQ.out] at c0; have d1 : (0 : Int) < (n : Int) := (by omega); clear hb k1 k2 k3 c2 c3)
      go_ret
      exact ⟨by rw [HV2.out]; cases x.t <;> rfl, HB.out⟩
    · have e1 : (x.k == 2) = false := by simpa using q1
      have HV2 : Hid (V = false) := by rw [← HV.out, e1, Bool.false_and]; exact rfl
      clear q1
      go_enter Try.func43, Try.ntmps43
      go_wp2_with (go_at_call 47; refine Calls.mono HC.out ?_; rintro e w2 ⟨rfl, hb⟩; have HB : Hid (Below w.heap.size w w2) := hb; obtain ⟨g, o, n, cap, k0, k1, k2, k3, _, hn, _, c0, c1, c2, c3, _⟩ := (HR.out.up hb).open; rw [HX.out] at c0 c1 c2 c3; have d1 : (0 : Int) < (n : Int) := (by omega); clear hb k1 k2 k3 c2 c3)
      go_ret
      exact ⟨by rw [HV2.out]; rfl, HB.out⟩
set_option maxRecDepth 100000 in
set_option maxHeartbeats 4000000 in
theorem takes_any {B r : Nat} {vn vc : Value} {s : Rs} (t : List UInt8) (w : World) (h : Rq B w r vn vc s) : Calls Try.prog 58 #[.pointer (some ⟨r, 0, none⟩), .string ⟨t.toArray⟩] w fun e w' => e = .returned (.bool (se s 5 t)) ∧ Kp B w w' r vn vc (tk s t) := by
  have HC : Hid _ := sees_any 5 t w h
  have HR : Hid (Rq B w r vn vc s) := h
  clear h
  cases hs : se s 5 t with
  | false =>
    have HT : Hid (tk s t = s) := by unfold tk; rw [hs]; exact rfl
    rw [hs] at HC
    clear hs
    go_enter Try.func58, Try.ntmps58
    go_wp2_with (go_at_call 47; refine Calls.mono HC.out ?_; rintro e w2 ⟨rfl, hb⟩; have HK : Hid (Kp B w w2 r vn vc s) := (Kp.refl HR.out).up hb; clear hb)
    go_ret
    exact ⟨rfl, by rw [HT.out]; exact HK.out⟩
  | true =>
    have HT : Hid (tk s t = tl s) := by unfold tk; rw [hs]; exact rfl
    have hk : (hd s).k ≠ 0 := by
      unfold se at hs
      rw [Bool.and_eq_true] at hs
      have : (hd s).k = 5 := by simpa using hs.1
      omega
    have HKK : Hid ((hd s).k ≠ 0) := hk
    rw [hs] at HC
    clear hs hk
    go_enter Try.func58, Try.ntmps58
    go_wp2_with (go_at_call 47; refine Calls.mono HC.out ?_; rintro e w2 ⟨rfl, hb⟩; have HK : Hid (Kp B w w2 r vn vc s) := (Kp.refl HR.out).up hb; obtain ⟨g, o, n, cap, k0, k1, k2, k3, _, hn, hcap, c0, c1, c2, c3, ht⟩ := (HR.out.up hb).open; have HT3 : Hid _ := ht HKK.out; have f0 := (HR.out.up hb).froz 0; have d1 : (1 : Int) ≤ (n : Int) := (by omega); have d2 : 1 ≤ n := (by omega); have d3 : ¬ cap = 1 := (by have := HT3.out.1; omega); clear hb ht k1 k2 k3 c0 c1 c2 c3 hn)
    go_ret
    exact ⟨rfl, by rw [HT.out]; exact HK.out.set0 HT3.out.2.2 HT3.out.2.1⟩
set_option maxRecDepth 100000 in
set_option maxHeartbeats 4000000 in
theorem must_any {B r : Nat} {vn vc : Value} {s : Rs} (t : List UInt8) (w : World) (h : Rq B w r vn vc s) : Calls Try.prog 48 #[.pointer (some ⟨r, 0, none⟩), .string ⟨t.toArray⟩] w fun e w' => e = .returned (.bool (mst s t).1) ∧ Kp B w w' r vn vc (mst s t).2 := by
  have HC : Hid _ := takes_any t w h
  cases hs : se s 5 t with
  | false =>
    have HT : Hid (mst s t = (false, fl s 200)) := by unfold mst; rw [hs]; exact rfl
    have HT2 : Hid (tk s t = s) := by unfold tk; rw [hs]; exact rfl
    rw [HT.out]
    rw [hs, HT2.out] at HC
    clear hs HT HT2 h
    go_enter Try.func48, Try.ntmps48
    go_wp2_with first | (go_at_call 58; refine Calls.mono HC.out ?_; rintro e w2 ⟨rfl, hk⟩; have HK : Hid (Kp B w w2 r vn vc s) := hk; clear hk) | (go_at_call 44; refine (fail_any 200 _ HK.out.1).mono ?_; rintro e w3 ⟨rfl, hk⟩; have HK3 : Hid (Kp B w w3 r vn vc (fl s 200)) := HK.out.trans hk; clear hk)
    go_ret
    exact ⟨rfl, HK3.out⟩
  | true =>
    have HT : Hid (mst s t = (true, tl s)) := by unfold mst; rw [hs]; exact rfl
    have HT2 : Hid (tk s t = tl s) := by unfold tk; rw [hs]; exact rfl
    rw [HT.out]
    rw [hs, HT2.out] at HC
    clear hs HT HT2 h
    go_enter Try.func48, Try.ntmps48
    go_wp2_with (go_at_call 58; refine Calls.mono HC.out ?_; rintro e w2 ⟨rfl, hk⟩; have HK : Hid (Kp B w w2 r vn vc (tl s)) := hk; clear hk)
    go_ret
    exact ⟨rfl, HK.out⟩
end Go.Proofs.Ythfijmabagjdkaa.Qy
