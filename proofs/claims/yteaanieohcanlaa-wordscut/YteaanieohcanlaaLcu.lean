import Derived.Test.YteaanieohcanlaaRff
import Derived.Test.YteaanieohcanlaaSam
namespace Go.Proofs.Yteaanieohcanlaa
open Go.RowKit Go.Maps

/-- The words, the error, its place, flat. -/
def wl (s : ByteArray) : List Wd := match cutR s with | .inr ws => ws | .inl _ => []
def cc (s : ByteArray) : Int := match cutR s with | .inr _ => 0 | .inl (c, _) => (c : Int)
def oo (s : ByteArray) : Int := match cutR s with | .inr _ => 0 | .inl (_, o) => (o : Int)
theorem cutE.flat {B : Nat} {s : ByteArray} {e : Ending} {w' : World} (h : cutE B s e w') : ∃ v, e = .returned (.tuple #[v, .int .i64 (cc s), .int .i64 (oo s)]) ∧ Wow B w' v (wl s) := by
  rcases h with ⟨ws, v, h1, h2, h3⟩ | ⟨c, o, _, h1, h2⟩
  · refine ⟨v, ?_, ?_⟩
    · rw [h2]; simp only [cc, oo, h1]
    · simp only [wl, h1]; exact h3
  · refine ⟨.slice none 0 0, ?_, ?_⟩
    · rw [h2]; simp only [cc, oo, h1]
    · simp only [wl, h1]; exact World.ownsRow_nil _ _ _ _
theorem cut_len : ∀ (n : Nat) (l : List UInt8) (k : Nat) (ws : List Wd), l.length ≤ n → cut k l = .inr ws → ws.length ≤ l.length := by
  intro n
  induction n with
  | zero =>
    intro l k ws hl h
    have : l = [] := List.length_eq_zero_iff.1 (by omega)
    subst this
    rw [cut_end k (by simp)] at h
    injection h with h
    subst h
    simp
  | succ n ih =>
    intro l k ws hl h
    cases hm : l.drop (gp false l) with
    | nil =>
      rw [cut_end _ hm] at h
      injection h with h
      subst h
      simp
    | cons x t =>
      have hlen : l.length - gp false l = t.length + 1 := by rw [← List.length_drop, hm]; rfl
      cases hx : lx (x :: t) with
      | inl e =>
        obtain ⟨e, o⟩ := e
        rw [cut_err _ hm (by simp) hx] at h
        cases h
      | inr p =>
        obtain ⟨w, m⟩ := p
        have hp := lx_pos hx
        rw [cut_wrd _ hm hx] at h
        cases hc : cut (k + gp false l + m) ((x :: t).drop m) with
        | inl e => rw [hc] at h; cases h
        | inr us =>
          rw [hc] at h
          simp only [cns] at h
          injection h with h
          subst h
          have h1 := ih _ _ us (by rw [List.length_drop, List.length_cons]; omega) hc
          rw [List.length_drop, List.length_cons] at h1
          rw [List.length_cons]
          omega
theorem wl_len (s : ByteArray) : (wl s).length ≤ 16384 := by
  unfold wl cutR
  by_cases h : 16384 < s.size
  · rw [if_pos h]; simp
  · rw [if_neg h]
    cases hc : cut 0 s.data.toList with
    | inl e => simp
    | inr ws =>
      have := cut_len _ _ _ _ (Nat.le_refl _) hc
      rw [lst_siz] at this
      simp only
      omega
/-- Nothing but a row has turned; where it lies now. -/
def Gr (w w' : World) (v v' : Value) : Prop := w.grownBy w' v.ownBlock ∧ ∀ r, v'.ownBlock = some r → w.heap.size ≤ r ∨ v.ownBlock = some r
theorem Gr.refl (w : World) (v : Value) : Gr w w v v := ⟨World.grownBy.refl _ _, fun _ h => .inr h⟩
theorem Gr.trans {w w1 w2 : World} {v v1 v2 : Value} (h : Gr w w1 v v1) (k : Gr w1 w2 v1 v2) : Gr w w2 v v2 :=
  ⟨h.1.andThen k.1 h.2, fun r hr => (k.2 r hr).elim (fun e => .inl (Nat.le_trans h.1.size e)) (h.2 r)⟩
theorem gr_app {w w' : World} {o : Obj} {v v' : Value} (h : (w.alloc o).grownBy w' v.ownBlock) (ha : v'.ownBlock = v.ownBlock ∨ v'.ownBlock = some (w.alloc o).heap.size) : Gr w w' v v' :=
  ⟨(World.grownBy_alloc w o v.ownBlock).trans h, fun r hr => ha.elim (fun e => .inr (e ▸ hr)) (fun e => by rw [hr] at e; cases e; exact .inl (by simp))⟩
theorem gr_set {w : World} {g n cap k : Nat} {x : Value} : Gr w (w.setCell ⟨g, k, none⟩ x) (.slice (some ⟨g, 0, none⟩) n cap) (.slice (some ⟨g, 0, none⟩) n cap) := ⟨grown_set, fun _ h => .inr h⟩
/-- A row of the call's own, whatever lies in it. -/
def Row (B : Nat) (W : World) (v : Value) (n : Nat) : Prop := ∃ cs, W.ownsRow B 29 4 v n cs
theorem Row.set {B : Nat} {W : World} {g cap n : Nat} (h : Row B W (.slice (some ⟨g, 0, none⟩) n cap) n) (k : Nat) (x : Value) : Row B (W.setCell ⟨g, k, none⟩ x) (.slice (some ⟨g, 0, none⟩) n cap) n := by
  obtain ⟨cs, hl, h1 | ⟨g', cap', cur, e, h1, h2, h3, h4, h5, h6⟩⟩ := h
  · cases h1.1
  · injection e with e1 e2 e3
    injection e1 with e1
    injection e1 with e1
    subst e1 e3
    have hsz := congrArg List.length h6
    refine ⟨((cur.setIfInBounds k x).toList.take (n * 4)), ?_, .inr ⟨g, cap, _, rfl, h1, blk_set x h2, h3, h4, ?_, rfl⟩⟩
    · rw [List.length_take, Array.length_toList, Array.size_setIfInBounds]
      rw [List.length_take, Array.length_toList, hl] at hsz
      exact hsz
    · simpa using h5
theorem Row.cells {B : Nat} {W : World} {v : Value} {n : Nat} (h : Row B W v n) (j : Nat) (hj : j < n * 4) : ∃ g cap u, v = .slice (some ⟨g, 0, none⟩) n cap ∧ W.cell? ⟨g, j, none⟩ = some u ∧ W.frozen? ⟨g, j, none⟩ = false := by
  obtain ⟨cs, hl, h1 | ⟨g, cap, cur, e, h1, h2, h3, h4, h5, h6⟩⟩ := h
  · obtain ⟨_, h1⟩ := h1
    omega
  · have hsz := congrArg List.length h6
    rw [List.length_take, Array.length_toList, hl] at hsz
    have hjc : j < cur.size := by omega
    refine ⟨g, cap, cur[j], e, ?_, Lib.frozen_of_heap h2 j⟩
    rw [Lib.cell_of_heap h2]
    exact Array.getElem?_eq_getElem hjc
theorem Row.shape {B : Nat} {W : World} {v : Value} {n : Nat} (h : Row B W v n) : ∃ a cap, v = .slice a n cap := by
  obtain ⟨cs, h⟩ := h
  exact row_shape h
theorem ne_block {B : Nat} {w1 w2 : World} {v1 v2 : Value} {l1 l2 : List Wd} (h1 : Wow B w1 v1 l1) (h2 : Wow w1.heap.size w2 v2 l2) : v2.ownBlock = none ∨ v2.ownBlock ≠ v1.ownBlock := by
  cases hv : v2.ownBlock with
  | none => exact .inl rfl
  | some r =>
    refine .inr fun e => ?_
    have h3 := (row_tag h2 r hv).1
    obtain ⟨_, c, h4⟩ := row_tag h1 r e.symm
    have := lt_of_heap h4
    omega

set_option maxRecDepth 100000 in
set_option maxHeartbeats 8000000 in
theorem wordsCut_any (s : ByteArray) (w : World) : Calls Try.prog 3 #[.string s] w fun e w' => e = .returned (.bool true) ∧ Below w.heap.size w w' := by
  obtain ⟨iE, hi3, hx0, hx1, hx2⟩ := info_parts infoW
  go_enter Try.func3, Try.ntmps3
  go_wp2_with fail
  refine (wcut_any s w).mono ?_
  rintro e w1 ⟨he, b1⟩
  obtain ⟨v1, rfl, h1⟩ := he.flat
  have H1 : Hid (Wow w.heap.size w1 v1 (wl s)) := h1
  have B1 : Hid (Below w.heap.size w w1) := b1
  clear he h1 b1
  obtain ⟨a1, q1, rfl⟩ := row_shape H1.out
  go_wp2_with fail
  refine (rcut_any s w1).mono ?_
  rintro e w2 ⟨he, b2⟩
  obtain ⟨v2, rfl, h2⟩ := he.flat
  have H2 : Hid (Wow w1.heap.size w2 v2 (wl s)) := h2
  have B2 : Hid (Below w1.heap.size w1 w2) := b2
  clear he h2 b2
  obtain ⟨a2, q2, rfl⟩ := row_shape H2.out
  go_wp2_with fail
  refine (same_any (wl s) (wl s) w2 (row_rw (row_up H1.out B2.out)) (row_rw H2.out) (by have := wl_len s; omega)).mono ?_
  rintro e w3 ⟨rfl, b3⟩
  rw [decide_eq_true rfl]
  have B3 : Hid (Below w1.heap.size w1 w3) := below_trans B2.out b3
  have H23 : Hid (Wow w1.heap.size w3 (.slice a2 (wl s).length q2) (wl s)) := row_up H2.out b3
  clear b3
  have z1 : (cc s != cc s) = false := by simp
  have z2 : (oo s != oo s) = false := by simp
  go_wp2_with fail
  refine (wcut_any s w3).mono ?_
  rintro e w4 ⟨he, b4⟩
  obtain ⟨v4, rfl, h4⟩ := he.flat
  have H4 : Hid (Wow w3.heap.size w4 v4 (wl s)) := h4
  have B4 : Hid (Below w1.heap.size w1 w4) := below_trans B3.out b4
  have H24 : Hid (Wow w1.heap.size w4 (.slice a2 (wl s).length q2) (wl s)) := row_up H23.out b4
  have H14 : Hid (Wow w.heap.size w4 (.slice a1 (wl s).length q1) (wl s)) := row_up H1.out B4.out
  have N2 : Hid (Value.ownBlock (.slice a2 (wl s).length q2) = none ∨ Value.ownBlock (.slice a2 (wl s).length q2) ≠ Value.ownBlock (.slice a1 (wl s).length q1)) := ne_block H1.out H2.out
  have N4 : Hid (Value.ownBlock v4 = none ∨ Value.ownBlock v4 ≠ Value.ownBlock (.slice a1 (wl s).length q1)) := ne_block (row_up H1.out B3.out) h4
  have BW : Hid (Below w.heap.size w w4) := below_trans B1.out B4.out
  clear he h4 b4 z1 z2
  obtain ⟨a4, q4, rfl⟩ := row_shape H4.out
  obtain ⟨L, hL⟩ : ∃ L, (wl s).length = L := ⟨_, rfl⟩
  have HLL : Hid (L ≤ 16384) := by rw [← hL]; exact wl_len s
  have HEL : Hid ((wl s).length = L) := hL
  have HR1 : Hid (Row w.heap.size w4 (.slice a1 L q1) L) := ⟨wC (wl s), by have := H14.out; unfold Wow at this; rw [hL] at this; exact this⟩
  rw [hL] at N2 N4 H24 H4 ⊢
  clear hL H1 H2 H23 H14 B1 B2 B3 B4
  go_wp2_with fail
  go_loopg [12] L (fun gm v12 wr => ∃ i : Nat, v12 = .int .i64 (i : Int) ∧ Hid (i ≤ L ∧ gm = L - i) ∧ Hid (Row w.heap.size wr (.slice a1 L q1) L) ∧ Hid (Gr w4 wr (.slice a1 L q1) (.slice a1 L q1)))
  case atStart => exact ⟨0, rfl, ⟨Nat.zero_le _, rfl⟩, HR1, Gr.refl _ _⟩
  case round =>
    obtain ⟨i, rfl, HI, HR, HG⟩ := hrel
    by_cases hi : i < L
    · have e1 : decide ((i : Int) < (L : Int)) = true := by rw [decide_eq_true_eq]; omega
      have e2 : decide (i < L) = true := by rw [decide_eq_true_eq]; omega
      have HIL : Hid (i < L) := hi
      obtain ⟨g, cap, u0, hsl, c0, f0⟩ := HR.out.cells (i * 4) (by omega)
      injection hsl with hs1 hs2 hs3
      subst hs1 hs3
      have hR1 := HR.out.set (i * 4) (.int .i64 0)
      obtain ⟨_, _, u1, hsl, c1, f1⟩ := hR1.cells (i * 4 + 1) (by omega)
      injection hsl with hs1 hs2 hs3
      injection hs1 with hs1
      injection hs1 with hs1
      subst hs1 hs3
      have hR2 := hR1.set (i * 4 + 1) (.string ⟨#[]⟩)
      obtain ⟨_, _, u2, hsl, c2, f2⟩ := hR2.cells (i * 4 + 2) (by omega)
      injection hsl with hs1 hs2 hs3
      injection hs1 with hs1
      injection hs1 with hs1
      subst hs1 hs3
      have hR3 := hR2.set (i * 4 + 2) (.int .i64 77)
      obtain ⟨_, _, u3, hsl, c3, f3⟩ := hR3.cells (i * 4 + 3) (by omega)
      injection hsl with hs1 hs2 hs3
      injection hs1 with hs1
      injection hs1 with hs1
      subst hs1 hs3
      have hR4 := hR3.set (i * 4 + 3) (.int .i64 0)
      have HR4 : Hid _ := hR4
      have HG4 : Hid _ := ((((HG.out.trans (gr_set (k := i * 4) (x := .int .i64 0))).trans (gr_set (k := i * 4 + 1) (x := .string ⟨#[]⟩))).trans (gr_set (k := i * 4 + 2) (x := .int .i64 77))).trans (gr_set (k := i * 4 + 3) (x := .int .i64 0)))
      have hwi := w64n i (by have := HLL.out; omega)
      clear hR1 hR2 hR3 hR4 hs2
      go_wp2_with fail
      go_roundg (L - (i + 1))
      case measure => have := HI.out; have := HIL.out; omega
      case rel => exact ⟨i + 1, by simp, ⟨HIL.out, rfl⟩, HR4, HG4⟩
    · have e1 : decide ((i : Int) < (L : Int)) = false := by rw [decide_eq_false_iff_not]; omega
      have e2 : decide (i < L) = false := by rw [decide_eq_false_iff_not]; omega
      clear hi HI
      go_wp2_with fail
      clear e1 e2
      go_loopg [13, 14] 70 (fun gm v13 v14 wr2 => ∃ j : Nat, v14 = .int .i64 (j : Int) ∧ Hid (j ≤ 70 ∧ gm = 70 - j) ∧ Hid (Row w.heap.size wr2 v13 (L + j)) ∧ Hid (Gr w4 wr2 (.slice a1 L q1) v13))
      case atStart => exact ⟨0, rfl, ⟨Nat.zero_le _, rfl⟩, HR, HG⟩
      case round =>
        obtain ⟨j, rfl, HJ, HRJ, HGJ⟩ := hrel
        obtain ⟨ra, rc, hrv⟩ := HRJ.out.shape
        subst hrv
        obtain ⟨N, hN⟩ : ∃ N, L + j = N := ⟨_, rfl⟩
        have HN : Hid (L + j = N) := hN
        rw [hN] at HRJ HGJ ⊢
        clear hN
        by_cases hj : j < 70
        · have e1 : decide ((j : Int) < 70) = true := by rw [decide_eq_true_eq]; omega
          have e2 : decide (j < 70) = true := by rw [decide_eq_true_eq]; omega
          have HJL : Hid (j < 70) := hj
          obtain ⟨cs, hcs⟩ := HRJ.out
          have HSZ : Hid (w.heap.size ≤ wr.heap.size) := Nat.le_trans BW.out.size HGJ.out.1.size
          have HROW : Hid ((wr.alloc (.cells #[.int .i64 0, .string ⟨#[]⟩, .int .i64 78, .int .i64 0] 29)).ownsRow w.heap.size 29 4 (.slice ra N rc) N cs) := hcs.alloc _
          have hwj := w64n j (by omega)
          clear hj hcs
          go_wp2_with (at_builtin; refine wpList_append_own_at _ rfl _ _ 22 rfl w.heap.size 29 iE _ 4 40 Try.underlying22 hi3 hx0 hx1 hx2 rfl (by decide) _ _ _ rfl HROW.out ⟨wr.heap.size, 0, none⟩ 1 1 [.int .i64 0, .string ⟨#[]⟩, .int .i64 78, .int .i64 0] rfl rfl (cell_four_new _ _ _ _ _ _) (by simp [Value.oneCell']) (by have := HLL.out; have := HJ.out; have := HN.out; unfold maxLen; omega) (by have := HLL.out; have := HJ.out; have := HN.out; omega) (by have := HSZ.out; simp; omega) ?_; intro v7 w7 ho7 hg7 _ ha7; have HO7 : Hid (Row w.heap.size w7 v7 (N + 1)) := ⟨_, ho7⟩; have HG7 : Hid (Gr wr w7 (.slice ra N rc) v7) := gr_app hg7 ha7; obtain ⟨qa, qc, rfl⟩ := row_shape ho7; clear ho7 hg7 ha7)
          go_roundg (70 - (j + 1))
          case measure => have := HJ.out; have := HJL.out; omega
          case rel => exact ⟨j + 1, by simp, ⟨HJL.out, rfl⟩, by rw [show L + (j + 1) = N + 1 by have := HN.out; omega]; exact HO7, HGJ.out.trans HG7.out⟩
        · have e1 : decide ((j : Int) < 70) = false := by rw [decide_eq_false_iff_not]; omega
          have e2 : decide (j < 70) = false := by rw [decide_eq_false_iff_not]; omega
          have HN70 : Hid (N = L + 70) := by have := HJ.out; have := HN.out; show N = L + 70; omega
          have HA : Hid (Wow w3.heap.size wr (.slice a4 L q4) (wl s)) := H4.out.kept HGJ.out.1 N4.out
          have HM : Hid (Wow w1.heap.size wr (.slice a2 L q2) (wl s)) := H24.out.kept HGJ.out.1 N2.out
          have HBF : Hid (Below w.heap.size w wr) := BW.out.trans ((Below.refl _ _).grown HGJ.out.1 BW.out.size (fun r e => by obtain ⟨cs, hcs⟩ := HR1.out; exact (row_tag hcs r e).1))
          have hwl : IntKind.i64.wrap ((L : Int) + 70) = (N : Int) := by have := HN70.out; have := HLL.out; rw [IntKind.wrap_i64]; omega
          have HAR : Hid (Rw wr (.slice a4 L q4) (wl s).length (wC (wl s))) := row_rw HA.out
          have HMR : Hid (Rw wr (.slice a2 L q2) (wl s).length (wC (wl s))) := row_rw HM.out
          clear hj
          go_wp2_with fail
          refine (same_any (wl s) (wl s) wr HAR.out HMR.out (by have := wl_len s; omega)).mono ?_
          rintro e w8 ⟨rfl, b8⟩
          rw [decide_eq_true rfl]
          have HB8 : Hid (Below w.heap.size w w8) := below_trans HBF.out b8
          clear b8
          go_wp2_with fail
          go_ret
          exact ⟨rfl, HB8.out⟩
end Go.Proofs.Yteaanieohcanlaa
