import Derived.Test.YtcmhbcfgikmblabGreatDoorBay
namespace Go.Proofs.YtcmhbcfgikmblabGreatDoor.Qy
open Go.RowKit Go.Maps

theorem lst_dec (a b : List UInt8) : (a == b) = decide (a = b) := by by_cases h : a = b <;> simp [h]
theorem bel_cell {B : Nat} {w w' : World} (hb : Below B w w') {a : Addr} {v : Value} (h : w.cell? a = some v) (ha : a.block < B) : w'.cell? a = some v := by
  rw [hb.cell (p := a) ha]; exact h
/-- The words end with one of no kind. -/
def Wk (l : List Wd) : Prop := ∃ p z, l = p ++ [z] ∧ z.k = 0
theorem Wk.ne {l : List Wd} (h : Wk l) : ∃ x m, l = x :: m := by
  obtain ⟨p, z, rfl, _⟩ := h
  cases p with
  | nil => exact ⟨z, [], rfl⟩
  | cons x p => exact ⟨x, p ++ [z], rfl⟩
theorem Wk.tail {x : Wd} {l : List Wd} (h : Wk (x :: l)) (hx : x.k ≠ 0) : Wk l := by
  obtain ⟨p, z, e, hz⟩ := h
  cases p with
  | nil =>
    rw [List.nil_append] at e
    injection e with e1 e2
    subst e1
    exact absurd hz hx
  | cons y p =>
    rw [List.cons_append] at e
    injection e with e1 e2
    exact ⟨p, z, e2, hz⟩
/-- The words that are left, below a block. -/
def Lw (B : Nat) (W : World) (v : Value) (l : List Wd) : Prop :=
  ∃ g o cap, v = .slice (some ⟨g, o, none⟩) l.length cap ∧ l.length ≤ cap ∧ g < B ∧ ∀ j u, (wC l)[j]? = some u → W.cell? ⟨g, o + j, none⟩ = some u
theorem Lw.up {B : Nat} {W W' : World} {v : Value} {l : List Wd} (h : Lw B W v l) (hb : Below B W W') : Lw B W' v l := by
  obtain ⟨g, o, cap, e, hn, hg, hc⟩ := h
  exact ⟨g, o, cap, e, hn, hg, fun j u hu => bel_cell hb (hc j u hu) hg⟩
theorem Lw.at {B : Nat} {W : World} {v : Value} {x : Wd} {l : List Wd} (h : Lw B W v (x :: l)) : ∃ g o cap, v = .slice (some ⟨g, o, none⟩) (l.length + 1) cap ∧ l.length + 1 ≤ cap ∧ W.cell? ⟨g, o, none⟩ = some (.int .i64 x.k) ∧ W.cell? ⟨g, o + 1, none⟩ = some (.string ⟨x.t.toArray⟩) ∧ W.cell? ⟨g, o + 2, none⟩ = some (.int .i64 x.n) ∧ W.cell? ⟨g, o + 3, none⟩ = some (.int .i64 x.a) ∧ (l ≠ [] → Lw B W (.slice (some ⟨g, o + 4, none⟩) l.length (cap - 1)) l) := by
  obtain ⟨g, o, cap, e, hn, hg, hc⟩ := h
  refine ⟨g, o, cap, e, hn, hc 0 _ rfl, hc 1 _ rfl, hc 2 _ rfl, hc 3 _ rfl, fun _ => ⟨g, o + 4, cap - 1, rfl, ?_, hg, fun j u hu => ?_⟩⟩
  · rw [List.length_cons] at hn; omega
  · rw [Nat.add_assoc]
    refine hc (4 + j) u ?_
    show ([_, _, _, _] ++ wC l)[4 + j]? = some u
    rw [List.getElem?_append_right (by simp)]
    simpa using hu
/-- The reader in its block. -/
structure Rq (B : Nat) (W : World) (r : Nat) (vn vc : Value) (s : Rs) : Prop where
  lt : B ≤ r
  blk : ∃ vl, W.heap[r]? = some (.cells #[vl, vn, vc, .int .i64 s.co] 79 (0, 0)) ∧ Lw B W vl s.ws
  ns : W.ownsRow B 46 5 vn s.ns.length (flat pf s.ns)
  cs : W.ownsRow B 38 4 vc s.cs.length (flat cf s.cs)
  wk : Wk s.ws
theorem Rq.up {B : Nat} {W W' : World} {r : Nat} {vn vc : Value} {s : Rs} (h : Rq B W r vn vc s) (hb : Below W.heap.size W W') : Rq B W' r vn vc s := by
  obtain ⟨vl, h1, h2⟩ := h.blk
  exact ⟨h.lt, ⟨vl, (hb.block _ (lt_of_heap h1)).trans h1, h2.up (hb.mono (Nat.le_trans h.lt (Nat.le_of_lt (lt_of_heap h1))))⟩, row_up h.ns hb, row_up h.cs hb, h.wk⟩
theorem Rq.drew {B : Nat} {W : World} {r : Nat} {vn vc : Value} {s : Rs} (h : Rq B W r vn vc s) : Rq B W.drew r vn vc s := h.up (Below.drew (Below.refl _ _))
theorem Rq.set0 {B : Nat} {W : World} {r : Nat} {vn vc vl : Value} {s : Rs} {ws : List Wd} (h : Rq B W r vn vc s) (hl : Lw B W vl ws) (hw : Wk ws) : Rq B (W.setCell ⟨r, 0, none⟩ vl) r vn vc ⟨ws, s.ns, s.cs, s.co⟩ := by
  obtain ⟨v0, h1, h2⟩ := h.blk
  have hb : Below B W (W.setCell ⟨r, 0, none⟩ vl) := Below.setCell (Below.refl _ _) h.lt _
  exact ⟨h.lt, ⟨vl, by rw [blk_set _ h1]; rfl, hl.up hb⟩, (row_off h1 h.ns (by decide)).1, (row_off h1 h.cs (by decide)).1, hw⟩
theorem Rq.set3 {B : Nat} {W : World} {r : Nat} {vn vc : Value} {s : Rs} (c : Int) (h : Rq B W r vn vc s) : Rq B (W.setCell ⟨r, 3, none⟩ (.int .i64 c)) r vn vc (fl s c) := by
  obtain ⟨v0, h1, h2⟩ := h.blk
  have hb : Below B W (W.setCell ⟨r, 3, none⟩ (.int .i64 c)) := Below.setCell (Below.refl _ _) h.lt _
  exact ⟨h.lt, ⟨v0, by rw [blk_set _ h1]; rfl, h2.up hb⟩, (row_off h1 h.ns (by decide)).1, (row_off h1 h.cs (by decide)).1, h.wk⟩
/-- Nothing but the reader's block has turned. -/
structure Kp (B : Nat) (w w' : World) (r : Nat) (vn vc : Value) (s : Rs) : Prop where
  rq : Rq B w' r vn vc s
  gr : w.grownBy w' (some r)
theorem Kp.refl {B : Nat} {w : World} {r : Nat} {vn vc : Value} {s : Rs} (h : Rq B w r vn vc s) : Kp B w w r vn vc s := ⟨h, World.grownBy.refl _ _⟩
theorem Kp.trans {B : Nat} {w w1 w2 : World} {r : Nat} {vn vc : Value} {s s' : Rs} (h : Kp B w w1 r vn vc s) (k : Kp B w1 w2 r vn vc s') : Kp B w w2 r vn vc s' := ⟨k.1, h.2.trans k.2⟩
theorem Kp.up {B : Nat} {w w1 w2 : World} {r : Nat} {vn vc : Value} {s : Rs} (h : Kp B w w1 r vn vc s) (k : Below w1.heap.size w1 w2) : Kp B w w2 r vn vc s := ⟨h.1.up k, h.2.trans (grown_weak (grown_of_below k))⟩
theorem Kp.set0 {B : Nat} {w W : World} {r : Nat} {vn vc vl : Value} {s : Rs} {ws : List Wd} (h : Kp B w W r vn vc s) (hl : Lw B W vl ws) (hw : Wk ws) : Kp B w (W.setCell ⟨r, 0, none⟩ vl) r vn vc ⟨ws, s.ns, s.cs, s.co⟩ := ⟨h.1.set0 hl hw, h.2.trans grown_set⟩
theorem Kp.bel {B : Nat} {w w' : World} {r : Nat} {vn vc : Value} {s : Rs} (h : Kp B w w' r vn vc s) (hB : B ≤ w.heap.size) : Below B w w' := (Below.refl B w).grown h.2 hB (fun j e => by injection e with e; rw [← e]; exact h.1.lt)
/-- What the walks know of the reader: its cells, the first word. -/
theorem Rq.open {B : Nat} {W : World} {r : Nat} {vn vc : Value} {s : Rs} (h : Rq B W r vn vc s) : ∃ g o n cap, W.cell? ⟨r, 0, none⟩ = some (.slice (some ⟨g, o, none⟩) n cap) ∧ W.cell? ⟨r, 1, none⟩ = some vn ∧ W.cell? ⟨r, 2, none⟩ = some vc ∧ W.cell? ⟨r, 3, none⟩ = some (.int .i64 s.co) ∧ s.ws.length = n ∧ 0 < n ∧ n ≤ cap ∧ W.cell? ⟨g, o, none⟩ = some (.int .i64 (hd s).k) ∧ W.cell? ⟨g, o + 1, none⟩ = some (.string ⟨(hd s).t.toArray⟩) ∧ W.cell? ⟨g, o + 2, none⟩ = some (.int .i64 (hd s).n) ∧ W.cell? ⟨g, o + 3, none⟩ = some (.int .i64 (hd s).a) ∧ ((hd s).k ≠ 0 → 1 < n ∧ Wk (tl s).ws ∧ Lw B W (.slice (some ⟨g, o + 4, none⟩) (n - 1) (cap - 1)) (tl s).ws) := by
  obtain ⟨vl, h1, h2⟩ := h.blk
  obtain ⟨x, l, hl⟩ := h.wk.ne
  have hk := h.wk
  rw [hl] at h2 hk
  obtain ⟨g, o, cap, rfl, hc, c0, c1, c2, c3, ht⟩ := h2.at
  have e1 : hd s = x := by unfold hd; rw [hl]; rfl
  have e2 : (tl s).ws = l := by unfold tl; rw [hl]; rfl
  rw [e1, e2, hl]
  refine ⟨g, o, l.length + 1, cap, rcell h1 0 _ rfl, rcell h1 1 _ rfl, rcell h1 2 _ rfl, rcell h1 3 _ rfl, rfl, by omega, hc, c0, c1, c2, c3, fun hx => ?_⟩
  have hw := hk.tail hx
  obtain ⟨y, m, rfl⟩ := hw.ne
  exact ⟨by simp, hw, by simpa using ht (by simp)⟩
theorem Rq.froz {B : Nat} {W : World} {r : Nat} {vn vc : Value} {s : Rs} (h : Rq B W r vn vc s) (k : Nat) : W.frozen? ⟨r, k, none⟩ = false := by
  obtain ⟨vl, h1, h2⟩ := h.blk
  exact Lib.frozen_of_heap h1 k
set_option maxRecDepth 100000 in
set_option maxHeartbeats 4000000 in
theorem fail_any {B r : Nat} {vn vc : Value} {s : Rs} (c : Int) (w : World) (h : Rq B w r vn vc s) : Calls Tryz.prog 68 #[.pointer (some ⟨r, 0, none⟩), .int .i64 c] w fun e w' => e = .returned (.bool false) ∧ Kp B w w' r vn vc (fl s c) := by
  have HR : Hid (Rq B w r vn vc s) := h
  have k3 := h.open
  obtain ⟨g, o, n, cap, k0, k1, k2, k3, _⟩ := k3
  have f3 := h.froz 3
  clear h
  go_enter Tryz.func68, Tryz.ntmps68
  go_wp2_with fail
  go_ret
  exact ⟨rfl, HR.out.set3 c, grown_set⟩
set_option maxRecDepth 100000 in
set_option maxHeartbeats 4000000 in
theorem sees_any {B r : Nat} {vn vc : Value} {s : Rs} (k : Int) (t : List UInt8) (w : World) (h : Rq B w r vn vc s) : Calls Tryz.prog 71 #[.pointer (some ⟨r, 0, none⟩), .int .i64 k, .string ⟨t.toArray⟩] w fun e w' => e = .returned (.bool (se s k t)) ∧ Below w.heap.size w w' := by
  obtain ⟨g, o, n, cap, k0, k1, k2, k3, _, hn, _, c0, c1, c2, c3, _⟩ := h.open
  obtain ⟨x, hx⟩ : ∃ x, hd s = x := ⟨_, rfl⟩
  have hse : se s k t = ((x.k == k) && decide (x.t = t)) := by unfold se; rw [hx]
  obtain ⟨V, hV⟩ : ∃ V, se s k t = V := ⟨_, rfl⟩
  rw [hV] at hse
  rw [hV]
  rw [hx] at c0 c1 c2 c3
  have HV : Hid (V = ((x.k == k) && decide (x.t = t))) := hse
  have d1 : (0 : Int) < (n : Int) := by omega
  clear h hx hse hV
  by_cases q1 : x.k = k
  · have e1 : (x.k == k) = true := by simpa using q1
    have HV2 : Hid (V = decide (x.t = t)) := by rw [HV.out, e1, Bool.true_and]; exact rfl
    clear q1
    go_enter Tryz.func71, Tryz.ntmps71
    go_wp2_with fail
    go_ret
    exact ⟨by rw [HV2.out]; exact ret_bool (lst_dec _ _), Below.refl _ _⟩
  · have e1 : (x.k == k) = false := by simpa using q1
    have HV2 : Hid (V = false) := by rw [HV.out, e1, Bool.false_and]; exact rfl
    clear q1
    go_enter Tryz.func71, Tryz.ntmps71
    go_wp2_with fail
    go_ret
    exact ⟨by rw [HV2.out]; rfl, Below.refl _ _⟩
end Go.Proofs.YtcmhbcfgikmblabGreatDoor.Qy
namespace Go.Proofs.YtcmhbcfgikmblabGreatDoor.Qy
open Go.RowKit Go.Maps

theorem Rq.two {B : Nat} {W : World} {r : Nat} {vn vc : Value} {s : Rs} (h : Rq B W r vn vc s) (hk : (hd s).k ≠ 0) : ∃ g o n cap, W.cell? ⟨r, 0, none⟩ = some (.slice (some ⟨g, o, none⟩) n cap) ∧ 1 < n ∧ n ≤ cap ∧ W.cell? ⟨g, o, none⟩ = some (.int .i64 (hd s).k) ∧ W.cell? ⟨g, o + 1, none⟩ = some (.string ⟨(hd s).t.toArray⟩) ∧ W.cell? ⟨g, o + 4, none⟩ = some (.int .i64 (hd (tl s)).k) ∧ W.cell? ⟨g, o + 4 + 1, none⟩ = some (.string ⟨(hd (tl s)).t.toArray⟩) ∧ ((hd (tl s)).k ≠ 0 → 2 < n ∧ Wk (tl (tl s)).ws ∧ Lw B W (.slice (some ⟨g, o + 8, none⟩) (n - 2) (cap - 2)) (tl (tl s)).ws) := by
  obtain ⟨g, o, n, cap, k0, k1, k2, k3, hn, n0, hc, c0, c1, c2, c3, ht⟩ := h.open
  obtain ⟨h1, h2, h3⟩ := ht hk
  obtain ⟨y, m, hm⟩ := h2.ne
  have e1 : hd (tl s) = y := by unfold hd; rw [hm]; rfl
  have e2 : (tl (tl s)).ws = m := by
    show (tl s).ws.tail = m
    rw [hm]; rfl
  rw [hm] at h3 h2
  obtain ⟨g', o', cap', e, hcc, d0, d1, d2, d3, hl⟩ := h3.at
  have e3 := (Value.slice.inj e)
  obtain ⟨e4, e5, e6⟩ := e3
  have e7 := Option.some.inj e4
  injection e7 with e8 e9
  subst e8 e9 e6
  rw [e1, e2]
  refine ⟨g, o, n, cap, k0, h1, hc, c0, c1, d0, d1, fun hy => ?_⟩
  have hw := h2.tail hy
  obtain ⟨z, q, rfl⟩ := hw.ne
  have h7 := hl (by simp)
  rw [List.length_cons] at e5 h7
  refine ⟨by omega, hw, ?_⟩
  have e9 : n - 2 = q.length + 1 := by omega
  rw [e9]
  have e10 : cap - 1 - 1 = cap - 2 := by omega
  rw [e10] at h7
  exact h7
set_option maxRecDepth 100000 in
set_option maxHeartbeats 4000000 in
theorem nameAhead_any {B r : Nat} {vn vc : Value} {s : Rs} (w : World) (h : Rq B w r vn vc s) : Calls Tryz.prog 83 #[.pointer (some ⟨r, 0, none⟩)] w fun e w' => e = .returned (.bool (nmA s)) ∧ w = w' := by
  obtain ⟨g, o, n, cap, k0, k1, k2, k3, _, hn, _, c0, c1, c2, c3, _⟩ := h.open
  obtain ⟨x, hx⟩ : ∃ x, hd s = x := ⟨_, rfl⟩
  have hse : nmA s = ((x.k == 1) && !decide (x.t = [95])) := by unfold nmA; rw [hx]
  obtain ⟨V, hV⟩ : ∃ V, nmA s = V := ⟨_, rfl⟩
  rw [hV] at hse
  rw [hV]
  rw [hx] at c0 c1 c2 c3
  have HV : Hid (V = ((x.k == 1) && !decide (x.t = [95]))) := hse
  have d1 : (0 : Int) < (n : Int) := by omega
  clear h hx hse hV
  by_cases q1 : x.k = 1
  · have e1 : (x.k == 1) = true := by simpa using q1
    rw [q1] at c0
    have HV2 : Hid (V = !decide (x.t = [95])) := by rw [HV.out, e1, Bool.true_and]; exact rfl
    clear q1 e1
    go_enter Tryz.func83, Tryz.ntmps83
    go_wp2_with fail
    go_ret
    exact ⟨by rw [HV2.out, ← lst_dec]; rfl, rfl⟩
  · have e1 : (x.k == 1) = false := by simpa using q1
    have HV2 : Hid (V = false) := by rw [HV.out, e1, Bool.false_and]; exact rfl
    clear q1
    go_enter Tryz.func83, Tryz.ntmps83
    go_wp2_with fail
    go_ret
    exact ⟨by rw [HV2.out]; rfl, rfl⟩
set_option maxRecDepth 100000 in
set_option maxHeartbeats 4000000 in
theorem fieldAhead_any {B r : Nat} {vn vc : Value} {s : Rs} (w : World) (h : Rq B w r vn vc s) : Calls Tryz.prog 66 #[.pointer (some ⟨r, 0, none⟩)] w fun e w' => e = .returned (.bool (fdA s)) ∧ w = w' := by
  have HC : Hid _ := nameAhead_any w h
  obtain ⟨V, hV⟩ : ∃ V, fdA s = V := ⟨_, rfl⟩
  rw [hV]
  unfold fdA at hV
  cases hA : nmA s with
  | false =>
    rw [hA, Bool.false_and] at hV
    rw [hA] at HC
    subst hV
    clear h hA
    go_enter Tryz.func66, Tryz.ntmps66
    go_wp2_with (go_at_call 83; refine Calls.mono HC.out ?_; rintro e w2 ⟨rfl, rfl⟩)
    go_ret
    exact ⟨rfl, rfl⟩
  | true =>
    have hk : (hd s).k ≠ 0 := by
      unfold nmA at hA
      rw [Bool.and_eq_true] at hA
      have : (hd s).k = 1 := by simpa using hA.1
      omega
    obtain ⟨g, o, n, cap, k0, n1, _, c0, c1, d0, d1, _⟩ := h.two hk
    rw [hA, Bool.true_and] at hV
    rw [hA] at HC
    unfold se at hV
    obtain ⟨y, hy⟩ : ∃ y, hd (tl s) = y := ⟨_, rfl⟩
    rw [hy] at hV d0 d1
    have HV : Hid (((y.k == 5) && decide (y.t = [58])) = V) := hV
    have b1 : (1 : Int) < (n : Int) := by omega
    clear h hA hk hy hV
    by_cases q1 : y.k = 5
    · have e1 : (y.k == 5) = true := by simpa using q1
      have HV2 : Hid (V = decide (y.t = [58])) := by rw [← HV.out, e1, Bool.true_and]; exact rfl
      rw [q1] at d0
      clear q1 e1
      go_enter Tryz.func66, Tryz.ntmps66
      go_wp2_with (go_at_call 83; refine Calls.mono HC.out ?_; rintro e w2 ⟨rfl, rfl⟩)
      go_ret
      exact ⟨by rw [HV2.out, ← lst_dec]; rfl, rfl⟩
    · have e1 : (y.k == 5) = false := by simpa using q1
      have HV2 : Hid (V = false) := by rw [← HV.out, e1, Bool.false_and]; exact rfl
      clear q1
      go_enter Tryz.func66, Tryz.ntmps66
      go_wp2_with (go_at_call 83; refine Calls.mono HC.out ?_; rintro e w2 ⟨rfl, rfl⟩)
      go_ret
      exact ⟨by rw [HV2.out]; rfl, rfl⟩
set_option maxRecDepth 100000 in
set_option maxHeartbeats 4000000 in
theorem nodeAhead_any {B r : Nat} {vn vc : Value} {s : Rs} (w : World) (h : Rq B w r vn vc s) : Calls Tryz.prog 67 #[.pointer (some ⟨r, 0, none⟩)] w fun e w' => e = .returned (.bool (ndA s)) ∧ Below w.heap.size w w' := by
  have HC : Hid _ := sees_any 5 [40] w h
  have HR : Hid (Rq B w r vn vc s) := h
  obtain ⟨x, hx⟩ : ∃ x, hd s = x := ⟨_, rfl⟩
  obtain ⟨V, hV⟩ : ∃ V, ndA s = V := ⟨_, rfl⟩
  rw [hV]
  unfold ndA at hV
  rw [hx] at hV
  cases hA : se s 5 [40] with
  | true =>
    rw [hA, Bool.true_or] at hV
    rw [hA] at HC
    subst hV
    clear h hA hx
    go_enter Tryz.func67, Tryz.ntmps67
    go_wp2_with (go_at_call 71; refine Calls.mono HC.out ?_; rintro e w2 ⟨rfl, hb⟩; have HB : Hid (Below w.heap.size w w2) := hb; clear hb)
    go_ret
    exact ⟨rfl, HB.out⟩
  | false =>
    rw [hA, Bool.false_or] at hV
    rw [hA] at HC
    have HX : Hid (hd s = x) := hx
    have HV : Hid (((x.k == 2) && !decide (x.t = [])) = V) := hV
    clear h hA hV hx
    by_cases q1 : x.k = 2
    · have e1 : (x.k == 2) = true := by simpa using q1
      have HV2 : Hid (V = !decide (x.t = [])) := by rw [← HV.out, e1, Bool.true_and]; exact rfl
      have HQ : Hid (x.k = 2) := q1
      clear q1 e1
      go_enter Tryz.func67, Tryz.ntmps67
      go_wp2_with (go_at_call 71; refine Calls.mono HC.out ?_; rintro e w2 ⟨rfl, hb⟩; have HB : Hid (Below w.heap.size w w2) := hb; obtain ⟨g, o, n, cap, k0, k1, k2, k3, _, hn, _, c0, c1, c2, c3, _⟩ := (HR.out.up hb).open; rw [HX.out] at c0 c1 c2 c3; rw [HQ.out] at c0; have d1 : (0 : Int) < (n : Int) := (by omega); clear hb k1 k2 k3 c2 c3)
      go_ret
      exact ⟨by rw [HV2.out]; cases x.t <;> rfl, HB.out⟩
    · have e1 : (x.k == 2) = false := by simpa using q1
      have HV2 : Hid (V = false) := by rw [← HV.out, e1, Bool.false_and]; exact rfl
      clear q1
      go_enter Tryz.func67, Tryz.ntmps67
      go_wp2_with (go_at_call 71; refine Calls.mono HC.out ?_; rintro e w2 ⟨rfl, hb⟩; have HB : Hid (Below w.heap.size w w2) := hb; obtain ⟨g, o, n, cap, k0, k1, k2, k3, _, hn, _, c0, c1, c2, c3, _⟩ := (HR.out.up hb).open; rw [HX.out] at c0 c1 c2 c3; have d1 : (0 : Int) < (n : Int) := (by omega); clear hb k1 k2 k3 c2 c3)
      go_ret
      exact ⟨by rw [HV2.out]; rfl, HB.out⟩
set_option maxRecDepth 100000 in
set_option maxHeartbeats 4000000 in
theorem takes_any {B r : Nat} {vn vc : Value} {s : Rs} (t : List UInt8) (w : World) (h : Rq B w r vn vc s) : Calls Tryz.prog 86 #[.pointer (some ⟨r, 0, none⟩), .string ⟨t.toArray⟩] w fun e w' => e = .returned (.bool (se s 5 t)) ∧ Kp B w w' r vn vc (tk s t) := by
  have HC : Hid _ := sees_any 5 t w h
  have HR : Hid (Rq B w r vn vc s) := h
  clear h
  cases hs : se s 5 t with
  | false =>
    have HT : Hid (tk s t = s) := by unfold tk; rw [hs]; exact rfl
    rw [hs] at HC
    clear hs
    go_enter Tryz.func86, Tryz.ntmps86
    go_wp2_with (go_at_call 71; refine Calls.mono HC.out ?_; rintro e w2 ⟨rfl, hb⟩; have HK : Hid (Kp B w w2 r vn vc s) := (Kp.refl HR.out).up hb; clear hb)
    go_ret
    exact ⟨rfl, by rw [HT.out]; exact HK.out⟩
  | true =>
    have HT : Hid (tk s t = tl s) := by unfold tk; rw [hs]; exact rfl
    have hk : (hd s).k ≠ 0 := by
      unfold se at hs
      rw [Bool.and_eq_true] at hs
      have : (hd s).k = 5 := by simpa using hs.1
      omega
    have HKK : Hid ((hd s).k ≠ 0) := hk
    rw [hs] at HC
    clear hs hk
    go_enter Tryz.func86, Tryz.ntmps86
    go_wp2_with (go_at_call 71; refine Calls.mono HC.out ?_; rintro e w2 ⟨rfl, hb⟩; have HK : Hid (Kp B w w2 r vn vc s) := (Kp.refl HR.out).up hb; obtain ⟨g, o, n, cap, k0, k1, k2, k3, _, hn, hcap, c0, c1, c2, c3, ht⟩ := (HR.out.up hb).open; have HT3 : Hid _ := ht HKK.out; have f0 := (HR.out.up hb).froz 0; have d1 : (1 : Int) ≤ (n : Int) := (by omega); have d2 : 1 ≤ n := (by omega); have d3 : ¬ cap = 1 := (by have := HT3.out.1; omega); clear hb ht k1 k2 k3 c0 c1 c2 c3 hn)
    go_ret
    exact ⟨rfl, by rw [HT.out]; exact HK.out.set0 HT3.out.2.2 HT3.out.2.1⟩
set_option maxRecDepth 100000 in
set_option maxHeartbeats 4000000 in
theorem must_any {B r : Nat} {vn vc : Value} {s : Rs} (t : List UInt8) (w : World) (h : Rq B w r vn vc s) : Calls Tryz.prog 72 #[.pointer (some ⟨r, 0, none⟩), .string ⟨t.toArray⟩] w fun e w' => e = .returned (.bool (mst s t).1) ∧ Kp B w w' r vn vc (mst s t).2 := by
  have HC : Hid _ := takes_any t w h
  cases hs : se s 5 t with
  | false =>
    have HT : Hid (mst s t = (false, fl s 200)) := by unfold mst; rw [hs]; exact rfl
    have HT2 : Hid (tk s t = s) := by unfold tk; rw [hs]; exact rfl
    rw [HT.out]
    rw [hs, HT2.out] at HC
    clear hs HT HT2 h
    go_enter Tryz.func72, Tryz.ntmps72
    go_wp2_with first | (go_at_call 86; refine Calls.mono HC.out ?_; rintro e w2 ⟨rfl, hk⟩; have HK : Hid (Kp B w w2 r vn vc s) := hk; clear hk) | (go_at_call 68; refine (fail_any 200 _ HK.out.1).mono ?_; rintro e w3 ⟨rfl, hk⟩; have HK3 : Hid (Kp B w w3 r vn vc (fl s 200)) := HK.out.trans hk; clear hk)
    go_ret
    exact ⟨rfl, HK3.out⟩
  | true =>
    have HT : Hid (mst s t = (true, tl s)) := by unfold mst; rw [hs]; exact rfl
    have HT2 : Hid (tk s t = tl s) := by unfold tk; rw [hs]; exact rfl
    rw [HT.out]
    rw [hs, HT2.out] at HC
    clear hs HT HT2 h
    go_enter Tryz.func72, Tryz.ntmps72
    go_wp2_with (go_at_call 86; refine Calls.mono HC.out ?_; rintro e w2 ⟨rfl, hk⟩; have HK : Hid (Kp B w w2 r vn vc (tl s)) := hk; clear hk)
    go_ret
    exact ⟨rfl, HK.out⟩
end Go.Proofs.YtcmhbcfgikmblabGreatDoor.Qy
