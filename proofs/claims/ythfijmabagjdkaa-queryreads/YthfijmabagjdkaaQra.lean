import Derived.Test.YthfijmabagjdkaaQme
namespace Go.Proofs.Ythfijmabagjdkaa.Qy
open Go.RowKit Go.Maps

theorem lst_dec (a b : List UInt8) : (a == b) = decide (a = b) := by by_cases h : a = b <;> simp [h]
theorem bel_cell {B : Nat} {w w' : World} (hb : Below B w w') {a : Addr} {v : Value} (h : w.cell? a = some v) (ha : a.block < B) : w'.cell? a = some v := by
  rw [hb.cell (p := a) ha]; exact h
/-- The words end with one of no kind. -/
def Wk (l : List Wd) : Prop := ∃ p z, l = p ++ [z] ∧ z.k = 0
theorem Wk.ne {l : List Wd} (h : Wk l) : ∃ x m, l = x :: m := by
  obtain ⟨p, z, rfl, _⟩ := h
  cases p with
  | nil => exact ⟨z, [], rfl⟩
  | cons x p => exact ⟨x, p ++ [z], rfl⟩
theorem Wk.tail {x : Wd} {l : List Wd} (h : Wk (x :: l)) (hx : x.k ≠ 0) : Wk l := by
  obtain ⟨p, z, e, hz⟩ := h
  cases p with
  | nil =>
    rw [List.nil_append] at e
    injection e with e1 e2
    subst e1
    exact absurd hz hx
  | cons y p =>
    rw [List.cons_append] at e
    injection e with e1 e2
    exact ⟨p, z, e2, hz⟩
/-- The words that are left, below a block. -/
def Lw (B : Nat) (W : World) (v : Value) (l : List Wd) : Prop :=
  ∃ g o cap, v = .slice (some ⟨g, o, none⟩) l.length cap ∧ l.length ≤ cap ∧ g < B ∧ ∀ j u, (wC l)[j]? = some u → W.cell? ⟨g, o + j, none⟩ = some u
theorem Lw.up {B : Nat} {W W' : World} {v : Value} {l : List Wd} (h : Lw B W v l) (hb : Below B W W') : Lw B W' v l := by
  obtain ⟨g, o, cap, e, hn, hg, hc⟩ := h
  exact ⟨g, o, cap, e, hn, hg, fun j u hu => bel_cell hb (hc j u hu) hg⟩
theorem Lw.at {B : Nat} {W : World} {v : Value} {x : Wd} {l : List Wd} (h : Lw B W v (x :: l)) : ∃ g o cap, v = .slice (some ⟨g, o, none⟩) (l.length + 1) cap ∧ l.length + 1 ≤ cap ∧ W.cell? ⟨g, o, none⟩ = some (.int .i64 x.k) ∧ W.cell? ⟨g, o + 1, none⟩ = some (.string ⟨x.t.toArray⟩) ∧ W.cell? ⟨g, o + 2, none⟩ = some (.int .i64 x.n) ∧ W.cell? ⟨g, o + 3, none⟩ = some (.int .i64 x.a) ∧ (l ≠ [] → Lw B W (.slice (some ⟨g, o + 4, none⟩) l.length (cap - 1)) l) := by
  obtain ⟨g, o, cap, e, hn, hg, hc⟩ := h
  refine ⟨g, o, cap, e, hn, hc 0 _ rfl, hc 1 _ rfl, hc 2 _ rfl, hc 3 _ rfl, fun _ => ⟨g, o + 4, cap - 1, rfl, ?_, hg, fun j u hu => ?_⟩⟩
  · rw [List.length_cons] at hn; omega
  · rw [Nat.add_assoc]
    refine hc (4 + j) u ?_
    show ([_, _, _, _] ++ wC l)[4 + j]? = some u
    rw [List.getElem?_append_right (by simp)]
    simpa using hu
/-- The reader in its block. -/
structure Rq (B : Nat) (W : World) (r : Nat) (vn vc : Value) (s : Rs) : Prop where
  lt : B ≤ r
  blk : ∃ vl, W.heap[r]? = some (.cells #[vl, vn, vc, .int .i64 s.co] 43 (0, 0)) ∧ Lw B W vl s.ws
  ns : W.ownsRow B 46 5 vn s.ns.length (flat pf s.ns)
  cs : W.ownsRow B 48 4 vc s.cs.length (flat cf s.cs)
  wk : Wk s.ws
theorem Rq.up {B : Nat} {W W' : World} {r : Nat} {vn vc : Value} {s : Rs} (h : Rq B W r vn vc s) (hb : Below W.heap.size W W') : Rq B W' r vn vc s := by
  obtain ⟨vl, h1, h2⟩ := h.blk
  exact ⟨h.lt, ⟨vl, (hb.block _ (lt_of_heap h1)).trans h1, h2.up (hb.mono (Nat.le_trans h.lt (Nat.le_of_lt (lt_of_heap h1))))⟩, row_up h.ns hb, row_up h.cs hb, h.wk⟩
theorem Rq.drew {B : Nat} {W : World} {r : Nat} {vn vc : Value} {s : Rs} (h : Rq B W r vn vc s) : Rq B W.drew r vn vc s := h.up (Below.drew (Below.refl _ _))
theorem Rq.set0 {B : Nat} {W : World} {r : Nat} {vn vc vl : Value} {s : Rs} {ws : List Wd} (h : Rq B W r vn vc s) (hl : Lw B W vl ws) (hw : Wk ws) : Rq B (W.setCell ⟨r, 0, none⟩ vl) r vn vc ⟨ws, s.ns, s.cs, s.co⟩ := by
  obtain ⟨v0, h1, h2⟩ := h.blk
  have hb : Below B W (W.setCell ⟨r, 0, none⟩ vl) := Below.setCell (Below.refl _ _) h.lt _
  exact ⟨h.lt, ⟨vl, by rw [blk_set _ h1]; rfl, hl.up hb⟩, (row_off h1 h.ns (by decide)).1, (row_off h1 h.cs (by decide)).1, hw⟩
theorem Rq.set3 {B : Nat} {W : World} {r : Nat} {vn vc : Value} {s : Rs} (c : Int) (h : Rq B W r vn vc s) : Rq B (W.setCell ⟨r, 3, none⟩ (.int .i64 c)) r vn vc (fl s c) := by
  obtain ⟨v0, h1, h2⟩ := h.blk
  have hb : Below B W (W.setCell ⟨r, 3, none⟩ (.int .i64 c)) := Below.setCell (Below.refl _ _) h.lt _
  exact ⟨h.lt, ⟨v0, by rw [blk_set _ h1]; rfl, h2.up hb⟩, (row_off h1 h.ns (by decide)).1, (row_off h1 h.cs (by decide)).1, h.wk⟩
/-- Nothing but the reader's block has turned. -/
structure Kp (B : Nat) (w w' : World) (r : Nat) (vn vc : Value) (s : Rs) : Prop where
  rq : Rq B w' r vn vc s
  gr : w.grownBy w' (some r)
theorem Kp.refl {B : Nat} {w : World} {r : Nat} {vn vc : Value} {s : Rs} (h : Rq B w r vn vc s) : Kp B w w r vn vc s := ⟨h, World.grownBy.refl _ _⟩
theorem Kp.trans {B : Nat} {w w1 w2 : World} {r : Nat} {vn vc : Value} {s s' : Rs} (h : Kp B w w1 r vn vc s) (k : Kp B w1 w2 r vn vc s') : Kp B w w2 r vn vc s' := ⟨k.1, h.2.trans k.2⟩
theorem Kp.up {B : Nat} {w w1 w2 : World} {r : Nat} {vn vc : Value} {s : Rs} (h : Kp B w w1 r vn vc s) (k : Below w1.heap.size w1 w2) : Kp B w w2 r vn vc s := ⟨h.1.up k, h.2.trans (grown_weak (grown_of_below k))⟩
theorem Kp.set0 {B : Nat} {w W : World} {r : Nat} {vn vc vl : Value} {s : Rs} {ws : List Wd} (h : Kp B w W r vn vc s) (hl : Lw B W vl ws) (hw : Wk ws) : Kp B w (W.setCell ⟨r, 0, none⟩ vl) r vn vc ⟨ws, s.ns, s.cs, s.co⟩ := ⟨h.1.set0 hl hw, h.2.trans grown_set⟩
theorem Kp.bel {B : Nat} {w w' : World} {r : Nat} {vn vc : Value} {s : Rs} (h : Kp B w w' r vn vc s) (hB : B ≤ w.heap.size) : Below B w w' := (Below.refl B w).grown h.2 hB (fun j e => by injection e with e; rw [← e]; exact h.1.lt)
/-- What the walks know of the reader: its cells, the first word. -/
theorem Rq.open {B : Nat} {W : World} {r : Nat} {vn vc : Value} {s : Rs} (h : Rq B W r vn vc s) : ∃ g o n cap, W.cell? ⟨r, 0, none⟩ = some (.slice (some ⟨g, o, none⟩) n cap) ∧ W.cell? ⟨r, 1, none⟩ = some vn ∧ W.cell? ⟨r, 2, none⟩ = some vc ∧ W.cell? ⟨r, 3, none⟩ = some (.int .i64 s.co) ∧ s.ws.length = n ∧ 0 < n ∧ n ≤ cap ∧ W.cell? ⟨g, o, none⟩ = some (.int .i64 (hd s).k) ∧ W.cell? ⟨g, o + 1, none⟩ = some (.string ⟨(hd s).t.toArray⟩) ∧ W.cell? ⟨g, o + 2, none⟩ = some (.int .i64 (hd s).n) ∧ W.cell? ⟨g, o + 3, none⟩ = some (.int .i64 (hd s).a) ∧ ((hd s).k ≠ 0 → 1 < n ∧ Wk (tl s).ws ∧ Lw B W (.slice (some ⟨g, o + 4, none⟩) (n - 1) (cap - 1)) (tl s).ws) := by
  obtain ⟨vl, h1, h2⟩ := h.blk
  obtain ⟨x, l, hl⟩ := h.wk.ne
  have hk := h.wk
  rw [hl] at h2 hk
  obtain ⟨g, o, cap, rfl, hc, c0, c1, c2, c3, ht⟩ := h2.at
  have e1 : hd s = x := by unfold hd; rw [hl]; rfl
  have e2 : (tl s).ws = l := by unfold tl; rw [hl]; rfl
  rw [e1, e2, hl]
  refine ⟨g, o, l.length + 1, cap, rcell h1 0 _ rfl, rcell h1 1 _ rfl, rcell h1 2 _ rfl, rcell h1 3 _ rfl, rfl, by omega, hc, c0, c1, c2, c3, fun hx => ?_⟩
  have hw := hk.tail hx
  obtain ⟨y, m, rfl⟩ := hw.ne
  exact ⟨by simp, hw, by simpa using ht (by simp)⟩
theorem Rq.froz {B : Nat} {W : World} {r : Nat} {vn vc : Value} {s : Rs} (h : Rq B W r vn vc s) (k : Nat) : W.frozen? ⟨r, k, none⟩ = false := by
  obtain ⟨vl, h1, h2⟩ := h.blk
  exact Lib.frozen_of_heap h1 k
set_option maxRecDepth 100000 in
set_option maxHeartbeats 4000000 in
theorem fail_any {B r : Nat} {vn vc : Value} {s : Rs} (c : Int) (w : World) (h : Rq B w r vn vc s) : Calls Try.prog 44 #[.pointer (some ⟨r, 0, none⟩), .int .i64 c] w fun e w' => e = .returned (.bool false) ∧ Kp B w w' r vn vc (fl s c) := by
  have HR : Hid (Rq B w r vn vc s) := h
  have k3 := h.open
  obtain ⟨g, o, n, cap, k0, k1, k2, k3, _⟩ := k3
  have f3 := h.froz 3
  clear h
  go_enter Try.func44, Try.ntmps44
  go_wp2_with fail
  go_ret
  exact ⟨rfl, HR.out.set3 c, grown_set⟩
set_option maxRecDepth 100000 in
set_option maxHeartbeats 4000000 in
theorem sees_any {B r : Nat} {vn vc : Value} {s : Rs} (k : Int) (t : List UInt8) (w : World) (h : Rq B w r vn vc s) : Calls Try.prog 47 #[.pointer (some ⟨r, 0, none⟩), .int .i64 k, .string ⟨t.toArray⟩] w fun e w' => e = .returned (.bool (se s k t)) ∧ Below w.heap.size w w' := by
  obtain ⟨g, o, n, cap, k0, k1, k2, k3, _, hn, _, c0, c1, c2, c3, _⟩ := h.open
  obtain ⟨x, hx⟩ : ∃ x, hd s = x := ⟨_, rfl⟩
  have hse : se s k t = ((x.k == k) && decide (x.t = t)) := by unfold se; rw [hx]
  obtain ⟨V, hV⟩ : ∃ V, se s k t = V := ⟨_, rfl⟩
  rw [hV] at hse
  rw [hV]
  rw [hx] at c0 c1 c2 c3
  have HV : Hid (V = ((x.k == k) && decide (x.t = t))) := hse
  have d1 : (0 : Int) < (n : Int) := by omega
  clear h hx hse hV
  by_cases q1 : x.k = k
  · have e1 : (x.k == k) = true := by simpa using q1
    have HV2 : Hid (V = decide (x.t = t)) := by rw [HV.out, e1, Bool.true_and]; exact rfl
    clear q1
    go_enter Try.func47, Try.ntmps47
    go_wp2_with fail
    go_ret
    exact ⟨by rw [HV2.out]; exact ret_bool (lst_dec _ _), Below.refl _ _⟩
  · have e1 : (x.k == k) = false := by simpa using q1
    have HV2 : Hid (V = false) := by rw [HV.out, e1, Bool.false_and]; exact rfl
    clear q1
    go_enter Try.func47, Try.ntmps47
    go_wp2_with fail
    go_ret
    exact ⟨by rw [HV2.out]; rfl, Below.refl _ _⟩
end Go.Proofs.Ythfijmabagjdkaa.Qy
