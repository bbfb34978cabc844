import Derived.Test.YtkjcnnecdclgfaaDoorGzt
namespace Go.Proofs.YtkjcnnecdclgfaaDoor
open Go.RowKit Go.Shelf
attribute [local go_sem] Oper.semAt_some

/-- The ways in their block. -/
structure Wm (W : World) (b : Nat) (S : Wy) : Prop where
  nl : ∀ i, i < 128 → W.cell? ⟨b, i * 5, none⟩ = some (.bool (S.pt i).nl)
  fs : ∀ i, i < 128 → Bp W b (i * 5 + 1) (S.pt i).fs
  ls : ∀ i, i < 128 → Bp W b (i * 5 + 3) (S.pt i).ls
  bh : ∀ p, p < 128 → Bp W b (640 + p * 2) (S.bh p)
  fr : ∀ o, W.frozen? ⟨b, o, none⟩ = false
theorem Bp.same {W W' : World} {b o : Nat} {m : Nat → Bool} (h : Bp W b o m) (e : W'.heap[b]? = W.heap[b]?) : Bp W' b o m :=
  ⟨by rw [World.cell?_of_block (a := ⟨b, o, none⟩) e]; exact h.c0, by rw [World.cell?_of_block (a := ⟨b, o + 1, none⟩) e]; exact h.c1⟩
theorem Wm.same {W W' : World} {b : Nat} {S : Wy} (h : Wm W b S) (e : W'.heap[b]? = W.heap[b]?) : Wm W' b S :=
  ⟨fun i hi => by rw [World.cell?_of_block (a := ⟨b, i * 5, none⟩) e]; exact h.nl i hi, fun i hi => (h.fs i hi).same e, fun i hi => (h.ls i hi).same e, fun i hi => (h.bh i hi).same e, fun o => by rw [World.frozen?_of_block (a := ⟨b, o, none⟩) e]; exact h.fr o⟩
theorem Wm.lt {W : World} {b : Nat} {S : Wy} (h : Wm W b S) : b < W.heap.size := cell_lt (h.nl 0 (by omega))
/-- A set added behind one class. -/
theorem Wm.putB {W W' : World} {b x : Nat} {S : Wy} {m : Nat → Bool} {B' : Nat → Nat → Bool} (h : Wm W b S) (hx : x < 128) (hu : Pu b (640 + x * 2) W W') (hb : Bp W' b (640 + x * 2) m) (e : ∀ p, B' p = if p = x then m else S.bh p) : Wm W' b ⟨S.pt, B'⟩ := by
  refine ⟨fun i hi => ?_, fun i hi => ⟨?_, ?_⟩, fun i hi => ⟨?_, ?_⟩, fun p hp => ?_, fun o => (hu.f o).trans (h.fr o)⟩
  · rw [hu.c _ (by omega) (by omega)]; exact h.nl i hi
  · rw [hu.c _ (by omega) (by omega)]; exact (h.fs i hi).c0
  · rw [hu.c _ (by omega) (by omega)]; exact (h.fs i hi).c1
  · rw [hu.c _ (by omega) (by omega)]; exact (h.ls i hi).c0
  · rw [hu.c _ (by omega) (by omega)]; exact (h.ls i hi).c1
  · show Bp W' b (640 + p * 2) (B' p)
    rw [e p]
    by_cases hpx : p = x
    · rw [if_pos hpx, hpx]; exact hb
    · rw [if_neg hpx]
      exact ⟨by rw [hu.c _ (by omega) (by omega)]; exact (h.bh p hp).c0, by rw [hu.c _ (by omega) (by omega)]; exact (h.bh p hp).c1⟩
/-- What link has done so far. -/
def lkd (bh : Nat → Nat → Bool) (pre : List Nat) (f : Nat → Bool) : Nat → Nat → Bool := fun p q => bh p q || (decide (p ∈ pre) && f q)
structure LkI (w : World) (b c3 c5 : Nat) (S : Wy) (f l : Nat → Bool) (pre : List {p : Nat // p ∈ els l}) (W : World) : Prop where
  ways : Wm W b ⟨S.pt, lkd S.bh (pre.map Subtype.val) f⟩
  box : W.cell? ⟨c3, 0, none⟩ = some (.pointer (some ⟨b, 0, none⟩))
  fst : Bp W c5 0 f
  gr : w.grownBy W (some b)
theorem grown_row {A W W' : World} {b : Nat} {row : Option Nat} (h : A.grownBy W (some b)) (k : W.grownBy W' row) (hr : ∀ r, row = some r → A.heap.size ≤ r) : A.grownBy W' (some b) :=
  ⟨k.os.trans h.os, k.tape.trans h.tape, k.output.trans h.output, Nat.le_trans h.size k.size, fun i hi hb => (k.block i (Nat.lt_of_lt_of_le hi h.size) (fun e => by have := hr i e.symm; omega)).trans (h.block i hi hb)⟩
theorem LkI.own {w : World} {b c3 c5 B : Nat} {S : Wy} {f l : Nat → Bool} (hB : w.heap.size ≤ B) (hb : b < B) (h3 : c3 < B) (h5 : c5 < B) : OwnFrom B (LkI w b c3 c5 S f l) := by
  intro s W W' row h hg hr
  have st : ∀ k, k < B → k < W.heap.size → W'.heap[k]? = W.heap[k]? := fun k hk hl => hg.block k hl (fun e => by have := (hr k e.symm).1; omega)
  have s3 := st c3 h3 (cell_lt h.box)
  exact ⟨h.ways.same (st b hb h.ways.lt), by rw [World.cell?_of_block (a := ⟨c3, 0, none⟩) s3]; exact h.box, h.fst.same (st c5 h5 h.fst.lt), grown_row h.gr hg (fun r e => by have := (hr r e).1; omega)⟩

set_option maxRecDepth 100000 in
set_option maxHeartbeats 4000000 in
theorem link_any (b : Nat) (S : Wy) (l f : Nat → Bool) (w : World) (hW : Wm w b S) (hD : Dbt w) (hb0 : b ≠ 0) :
    Calls Tryd.prog 64 #[.pointer (some ⟨b, 0, none⟩), PV l, PV f] w fun e w' => (∃ v, e = .returned v) ∧ Wm w' b ⟨S.pt, lnk S.bh l f⟩ ∧ w.grownBy w' (some b) := by
  refine (callsIn_wide (n := 3)).1 ?_
  refine callsIn_of_wp_marks Tryd.func64 rfl trivial ?_ rfl
  simp only [Tryd.ntmps64, List.size_toArray, List.length_cons, List.length_nil, Nat.reduceAdd, Nat.reduceSub, Array.replicate_succ, Array.replicate_zero, List.push_toArray, List.append_toArray, List.nil_append, List.cons_append]
  have HW : Hid (Wm w b S) := hW
  have HD : Hid (Dbt w) := hD
  have HB0 : Hid (b ≠ 0) := hb0
  clear hW hD hb0
  gi_wp2
  refine ⟨trivial, (callsIn_wide.2 (all_any l _)).mono ?_⟩
  rintro e w1 ⟨rfl, rfl⟩
  gi_wp2
  have c3 : (w.alloc (.cells #[.pointer (some ⟨b, 0, none⟩)] 67)).cell? ⟨w.heap.size, 0, none⟩ = some (.pointer (some ⟨b, 0, none⟩)) := by rw [World.cell?_alloc_at _ _ _ _ (by simp)]; rfl
  have c5 := (Bw.new ((w.alloc (.cells #[.pointer (some ⟨b, 0, none⟩)] 67)).alloc (.cells #[.int .u64 (wd l 0 : Nat), .int .u64 (wd l 1 : Nat)] 45)) f 45).p
  have c6 := (Bw.new (((w.alloc (.cells #[.pointer (some ⟨b, 0, none⟩)] 67)).alloc (.cells #[.int .u64 (wd l 0 : Nat), .int .u64 (wd l 1 : Nat)] 45)).alloc (.cells #[.int .u64 (wd f 0 : Nat), .int .u64 (wd f 1 : Nat)] 45)) l 45).p
  simp only [World.size_alloc] at c5 c6
  obtain ⟨W0, hW0⟩ : ∃ W0, W0 = (((w.alloc (.cells #[.pointer (some ⟨b, 0, none⟩)] 67)).alloc (.cells #[.int .u64 (wd l 0 : Nat), .int .u64 (wd l 1 : Nat)] 45)).alloc (.cells #[.int .u64 (wd f 0 : Nat), .int .u64 (wd f 1 : Nat)] 45)).alloc (.cells #[.int .u64 (wd l 0 : Nat), .int .u64 (wd l 1 : Nat)] 45) := ⟨_, rfl⟩
  have hB0 : Below w.heap.size w W0 := by rw [hW0]; exact below_trans (below_trans (below_trans (bel_up _ _) (bel_up _ _)) (bel_up _ _)) (bel_up _ _)
  have hsz : W0.heap.size = w.heap.size + 4 := by rw [hW0]; simp
  have d3 : W0.cell? ⟨w.heap.size, 0, none⟩ = some (.pointer (some ⟨b, 0, none⟩)) := by rw [hW0]; exact cell_up _ (cell_up _ (cell_up _ c3))
  have d5 : Bp W0 (w.heap.size + 1 + 1) 0 f := by rw [hW0]; exact ⟨cell_up _ c5.c0, cell_up _ c5.c1⟩
  have d6 : Bp W0 (w.heap.size + 1 + 1 + 1) 0 l := by rw [hW0]; exact c6
  rw [← hW0]
  clear c3 c5 c6 hW0
  have hD0 : Dbt W0 := HD.out.up hB0
  have hpos := HD.out.pos
  have hblt := HW.out.lt
  have hw0 : Wm W0 b S := HW.out.same (hB0.block b hblt)
  have hI0 : LkI w b w.heap.size (w.heap.size + 1 + 1) S f l [] W0 := by
    refine ⟨?_, d3, d5, ⟨hB0.os, hB0.tape, hB0.output, hB0.size, fun k hk _ => hB0.block k hk⟩⟩
    have e : lkd S.bh (([] : List {p : Nat // p ∈ els l}).map Subtype.val) f = S.bh := by funext p q; simp [lkd]
    rw [e]
    exact hw0
  refine wpIn_rangeFunc_ownG rfl (by decide) (gf := 47) (lb := #[.pointer (some ⟨w.heap.size + 1 + 1 + 1, 0, none⟩)]) rfl trivial (enters_of Tryd.func47 (by kernel_rfl) rfl)
    (all_stops (n := 3 - 1) l W0 d6 hD0) Kp0.trans (kp0_b (w := W0) (by omega)) (Below.refl _ _) (fun _ => rfl)
    (LkI w b w.heap.size (w.heap.size + 1 + 1) S f l)
    (fun _ _ _ => False)
    (LkI.own (by omega) (by omega) (by omega) (by omega))
    (fun _ _ _ _ _ h _ _ => h)
    hI0
    (fun x => { tmps := #[.pointer (some ⟨b, 0, none⟩), PV l, PV f, .pointer (some ⟨w.heap.size, 0, none⟩), .pointer (some ⟨w.heap.size + 1, 0, none⟩), .pointer (some ⟨w.heap.size + 1 + 1, 0, none⟩), .int .i64 (x.val : Int), .agg #[.int .u64 (wd l 0 : Nat), .int .u64 (wd l 1 : Nat)], .func (.func 47) #[] #[.pointer (some ⟨w.heap.size + 1 + 1 + 1, 0, none⟩)], .int .i64 (x.val : Int), undef, undef, undef, undef, undef, undef], defers := [] }) ?assign ?body ?done ?stop
  case assign =>
    intro l x W K hK
    gi_wp2
    exact hK
  case body =>
    rintro lp pre x W hI _
    have hx := ((els_mem l x.val).1 x.property).1
    obtain ⟨x, hx'⟩ := x
    dsimp only at hx ⊢
    have HI : Hid (LkI w b w.heap.size (w.heap.size + 1 + 1) S f l pre W) := hI
    have hbox := hI.box
    have hBp := hI.ways.bh x hx
    have hFp := hI.fst
    have hfrz := hI.ways.fr
    have HBP : Hid (Bp W b (640 + x * 2) (lkd S.bh (pre.map Subtype.val) f x)) := hBp
    have HFP : Hid (Bp W (w.heap.size + 1 + 1) 0 f) := hFp
    have HFR : Hid (∀ o, W.frozen? ⟨b, o, none⟩ = false) := hfrz
    clear hI d3 d5 d6 hw0 hI0 hD0 hBp hFp hfrz
    gi_wp2
    refine ⟨trivial, (callsIn_wide.2 (padd_any b (640 + x * 2) (w.heap.size + 1 + 1) 0 _ f W HBP.out HFP.out HFR.out (by omega))).mono ?_⟩
    rintro e W2 ⟨⟨v, rfl⟩, hb2, hu2⟩
    gi_wp2
    refine ⟨KeepsFrom.of_grownBy hu2.gr (fun j e => by cases e; omega), hu2.gr.block 0 (by have := HI.out.gr.size; omega) (by simp; exact fun e => HB0.out e.symm), ?_⟩
    have hI := HI.out
    have hne : b ≠ w.heap.size + 1 + 1 := by omega
    have hne2 : b ≠ w.heap.size := by omega
    have e3 := hu2.gr.block w.heap.size (cell_lt hI.box) (by simp; omega)
    refine ⟨hI.ways.putB hx hu2 hb2 (fun p => ?_), by rw [World.cell?_of_block (a := ⟨w.heap.size, 0, none⟩) e3]; exact hI.box, hI.fst.other hu2 hne hI.fst.lt, grown_trans hI.gr hu2.gr⟩
    funext q
    by_cases hpx : p = x
    · subst hpx
      simp [lkd]
      cases S.bh p q <;> simp
    · simp [lkd, hpx]
  case done =>
    rintro D ys W hD hys hI hK
    have HI : Hid (LkI w b w.heap.size (w.heap.size + 1 + 1) S f l ys W) := hI
    have HYS : Hid (ys.map Subtype.val = els l) := hys
    clear hI d3 d5 d6 hw0 hI0 hD0 hys
    gi_wp2
    refine ⟨by simp, .inl ⟨_, _, rfl, run_takeDeferred hK, ?_⟩⟩
    have hg := grownBy_putObj' W D (.deferred none)
    have hI := HI.out
    refine ⟨_, results_none rfl _ _ _, ⟨_, rfl⟩, ?_, grown_row hI.gr hg (fun r e => by cases e; omega)⟩
    have hw := hI.ways.same (W' := W.putObj D (.deferred none)) (hg.block b (by have := hI.ways.lt; omega) (by simp; omega))
    refine ⟨hw.nl, hw.fs, hw.ls, fun p hp => ?_, hw.fr⟩
    have e : (lnk S.bh l f) p = lkd S.bh (ys.map Subtype.val) f p := by
      funext q
      unfold lnk lkd
      rw [HYS.out]
      have h1 := els_mem l p
      by_cases h2 : p ∈ els l
      · rw [(h1.1 h2).2]; simp [h2]
      · have : l p = false := by
          cases h3 : l p
          · rfl
          · exact absurd (h1.2 ⟨hp, h3⟩) h2
        rw [this]; simp [h2]
    show Bp _ b (640 + p * 2) (lnk S.bh l f p)
    rw [e]
    exact hw.bh p hp
  case stop =>
    rintro D c pre W _ _ h _
    exact h.elim
end Go.Proofs.YtkjcnnecdclgfaaDoor
namespace Go.Proofs.YtkjcnnecdclgfaaDoor
open Go.RowKit Go.Shelf

abbrev PtV (X : Pt) : Value := .agg #[.bool X.nl, .int .u64 (wd X.fs 0 : Nat), .int .u64 (wd X.fs 1 : Nat), .int .u64 (wd X.ls 0 : Nat), .int .u64 (wd X.ls 1 : Nat)]
/-- A part in a block of its own. -/
structure Bq (W : World) (b : Nat) (X : Pt) : Prop where
  c0 : W.cell? ⟨b, 0, none⟩ = some (.bool X.nl)
  fs : Bp W b 1 X.fs
  ls : Bp W b 3 X.ls
  fr : ∀ i, W.frozen? ⟨b, i, none⟩ = false
theorem Bq.new (w : World) (X : Pt) (t : TypeId) : Bq (w.alloc (.cells #[.bool X.nl, .int .u64 (wd X.fs 0 : Nat), .int .u64 (wd X.fs 1 : Nat), .int .u64 (wd X.ls 0 : Nat), .int .u64 (wd X.ls 1 : Nat)] t)) w.heap.size X := by
  refine ⟨?_, ⟨?_, ?_⟩, ⟨?_, ?_⟩, fun i => fr_up (Below.refl _ _) i⟩
  all_goals (rw [World.cell?_alloc_at _ _ _ _ (by simp)]; rfl)
theorem Bq.lt {W : World} {b : Nat} {X : Pt} (h : Bq W b X) : b < W.heap.size := cell_lt h.c0
theorem Bq.same {W W' : World} {b : Nat} {X : Pt} (h : Bq W b X) (e : W'.heap[b]? = W.heap[b]?) : Bq W' b X :=
  ⟨by rw [World.cell?_of_block (a := ⟨b, 0, none⟩) e]; exact h.c0, h.fs.same e, h.ls.same e, fun o => by rw [World.frozen?_of_block (a := ⟨b, o, none⟩) e]; exact h.fr o⟩
theorem Bq.mono {W W' : World} {b : Nat} {X : Pt} (h : Bq W b X) (hb : Below W.heap.size W W') : Bq W' b X := h.same (hb.block b h.lt)
theorem Bq.up {W : World} {b : Nat} {X : Pt} (h : Bq W b X) (o : Obj) : Bq (W.alloc o) b X := h.mono (bel_up _ _)
theorem Bq.grown {W W' : World} {b c : Nat} {X : Pt} (h : Bq W b X) (hg : W.grownBy W' (some c)) (hne : c ≠ b) : Bq W' b X := h.same (hg.block b h.lt (by simp; exact fun e => hne e.symm))
theorem Bp.keep {W W' : World} {b o q : Nat} {m : Nat → Bool} (h : Bp W b q m) (k : Pu b o W W') (hd : q + 1 < o ∨ o + 1 < q) : Bp W' b q m :=
  ⟨by rw [k.c q (by omega) (by omega)]; exact h.c0, by rw [k.c (q + 1) (by omega) (by omega)]; exact h.c1⟩
theorem Bq.addF {W W' : World} {b : Nat} {X : Pt} {m : Nat → Bool} (h : Bq W b X) (k : Pu b 1 W W') (hm : Bp W' b 1 m) : Bq W' b ⟨X.nl, m, X.ls⟩ :=
  ⟨by rw [k.c 0 (by omega) (by omega)]; exact h.c0, hm, h.ls.keep k (.inr (by omega)), fun i => (k.f i).trans (h.fr i)⟩
theorem Bq.addL {W W' : World} {b : Nat} {X : Pt} {m : Nat → Bool} (h : Bq W b X) (k : Pu b 3 W W') (hm : Bp W' b 3 m) : Bq W' b ⟨X.nl, X.fs, m⟩ :=
  ⟨by rw [k.c 0 (by omega) (by omega)]; exact h.c0, h.fs.keep k (.inl (by omega)), hm, fun i => (k.f i).trans (h.fr i)⟩
theorem Bp.set0 {W : World} {b q : Nat} {m : Nat → Bool} (h : Bp W b q m) (hq : 0 < q) (v : Value) : Bp (W.setCell ⟨b, 0, none⟩ v) b q m :=
  ⟨by rw [World.cell?_setCell_other _ _ _ _ (by intro e; injection e; omega)]; exact h.c0, by rw [World.cell?_setCell_other _ _ _ _ (by intro e; injection e; omega)]; exact h.c1⟩
theorem Bq.set {W : World} {b : Nat} {X : Pt} (h : Bq W b X) (v : Bool) : Bq (W.setCell ⟨b, 0, none⟩ (.bool v)) b ⟨v, X.fs, X.ls⟩ :=
  ⟨World.cell?_setCell_same' _ _ _ (by rw [h.c0]; rfl), h.fs.set0 (by omega) _, h.ls.set0 (by omega) _, fun i => by rw [World.frozen?_setCell]; exact h.fr i⟩
theorem Bq.cells {W : World} {b : Nat} {X : Pt} (h : Bq W b X) : W.cell? ⟨b, 0, none⟩ = some (.bool X.nl) ∧ W.cell? ⟨b, 1, none⟩ = some (.int .u64 (wd X.fs 0 : Nat)) ∧ W.cell? ⟨b, 2, none⟩ = some (.int .u64 (wd X.fs 1 : Nat)) ∧ W.cell? ⟨b, 3, none⟩ = some (.int .u64 (wd X.ls 0 : Nat)) ∧ W.cell? ⟨b, 4, none⟩ = some (.int .u64 (wd X.ls 1 : Nat)) ∧ W.frozen? ⟨b, 0, none⟩ = false ∧ W.frozen? ⟨b, 1, none⟩ = false ∧ W.frozen? ⟨b, 2, none⟩ = false ∧ W.frozen? ⟨b, 3, none⟩ = false ∧ W.frozen? ⟨b, 4, none⟩ = false :=
  ⟨h.c0, h.fs.c0, h.fs.c1, h.ls.c0, h.ls.c1, h.fr 0, h.fr 1, h.fr 2, h.fr 3, h.fr 4⟩
theorem below_put {B : Nat} {A W W' : World} {b : Nat} (h : Below B A W) (hg : W.grownBy W' (some b)) (hB : B ≤ b) (hs : B ≤ W.heap.size) : Below B A W' :=
  h.grown hg hs (fun k e => by cases e; exact hB)
theorem below_set5 {B : Nat} {A W : World} {b : Nat} (h : Below B A W) (hB : B ≤ b) (x0 x1 x2 x3 x4 : Value) : Below B A (((((W.setCell ⟨b, 0, none⟩ x0).setCell ⟨b, 1, none⟩ x1).setCell ⟨b, 2, none⟩ x2).setCell ⟨b, 3, none⟩ x3).setCell ⟨b, 4, none⟩ x4) :=
  Below.setCell (Below.setCell (Below.setCell (Below.setCell (Below.setCell h hB _) hB _) hB _) hB _) hB _
/-- The three blocks of either and row. -/
theorem three (w : World) (A B : Pt) : ∃ W, W = ((w.alloc (.cells #[.bool A.nl, .int .u64 (wd A.fs 0 : Nat), .int .u64 (wd A.fs 1 : Nat), .int .u64 (wd A.ls 0 : Nat), .int .u64 (wd A.ls 1 : Nat)] 70)).alloc (.cells #[.bool B.nl, .int .u64 (wd B.fs 0 : Nat), .int .u64 (wd B.fs 1 : Nat), .int .u64 (wd B.ls 0 : Nat), .int .u64 (wd B.ls 1 : Nat)] 70)).alloc (.cells #[.bool false, .int .u64 0, .int .u64 0, .int .u64 0, .int .u64 0] 70) ∧ Bq W w.heap.size A ∧ Bq W (w.heap.size + 1) B ∧ Bq W (w.heap.size + 1 + 1) ptN ∧ Below w.heap.size w W := by
  refine ⟨_, rfl, ((Bq.new w A 70).up _).up _, ?_, ?_, below_trans (below_trans (bel_up _ _) (bel_up _ _)) (bel_up _ _)⟩
  · have h := Bq.new (w.alloc (.cells #[.bool A.nl, .int .u64 (wd A.fs 0 : Nat), .int .u64 (wd A.fs 1 : Nat), .int .u64 (wd A.ls 0 : Nat), .int .u64 (wd A.ls 1 : Nat)] 70)) B 70
    rw [World.size_alloc] at h
    exact h.up _
  · have h := Bq.new ((w.alloc (.cells #[.bool A.nl, .int .u64 (wd A.fs 0 : Nat), .int .u64 (wd A.fs 1 : Nat), .int .u64 (wd A.ls 0 : Nat), .int .u64 (wd A.ls 1 : Nat)] 70)).alloc (.cells #[.bool B.nl, .int .u64 (wd B.fs 0 : Nat), .int .u64 (wd B.fs 1 : Nat), .int .u64 (wd B.ls 0 : Nat), .int .u64 (wd B.ls 1 : Nat)] 70)) ptN 70
    rw [World.size_alloc, World.size_alloc] at h
    simp only [ptN, wd_none] at h
    exact h

set_option maxRecDepth 100000 in
set_option maxHeartbeats 4000000 in
theorem either_any (A B : Pt) (w : World) : Calls Tryd.prog 45 #[PtV A, PtV B] w fun e w' => e = .returned (PtV (ptOr A B)) ∧ Below w.heap.size w w' := by
  go_enter Tryd.func45, Tryd.ntmps45
  go_upto_region 1 with fail
  obtain ⟨W, hW, hA, hB, hN, hL⟩ := three w A B
  rw [← hW]
  have HA : Hid (Bq W w.heap.size A) := hA
  have HB : Hid (Bq W (w.heap.size + 1) B) := hB
  have HN : Hid (Bq W (w.heap.size + 1 + 1) ptN) := hN
  have HL : Hid (Below w.heap.size w W) := hL
  have a0 := hA.c0
  have af := hA.fr 0
  have b0 := hB.c0
  clear hW hA hB hN hL
  obtain ⟨an, han⟩ : ∃ an, A.nl = an := ⟨_, rfl⟩
  cases an
  · have HA1 : Hid (Bq (W.setCell ⟨w.heap.size, 0, none⟩ (.bool B.nl)) w.heap.size ⟨B.nl, A.fs, A.ls⟩) := HA.out.set B.nl
    have HB1 : Hid (Bq (W.setCell ⟨w.heap.size, 0, none⟩ (.bool B.nl)) (w.heap.size + 1) B) := HB.out.grown (grown_set _ _ _ _) (by omega)
    have HN1 : Hid (Bq (W.setCell ⟨w.heap.size, 0, none⟩ (.bool B.nl)) (w.heap.size + 1 + 1) ptN) := HN.out.grown (grown_set _ _ _ _) (by omega)
    have HL1 : Hid (Below w.heap.size w (W.setCell ⟨w.heap.size, 0, none⟩ (.bool B.nl))) := HL.out.setCell (Nat.le_refl _) _
    rw [han] at a0
    go_wp2_with fail
    obtain ⟨W1, hW1⟩ : ∃ W1, W1 = W.setCell ⟨w.heap.size, 0, none⟩ (.bool B.nl) := ⟨_, rfl⟩
    rw [← hW1] at HA1 HB1 HN1 HL1 ⊢
    clear hW1 a0 af b0
    refine (padd_any w.heap.size 1 (w.heap.size + 1) 1 A.fs B.fs W1 HA1.out.fs HB1.out.fs HA1.out.fr (by omega)).mono ?_
    rintro e W2 ⟨⟨v, rfl⟩, hb2, hu2⟩
    have HA2 : Hid (Bq W2 w.heap.size ⟨B.nl, fun k => A.fs k || B.fs k, A.ls⟩) := HA1.out.addF hu2 hb2
    have HB2 : Hid (Bq W2 (w.heap.size + 1) B) := HB1.out.grown hu2.gr (by omega)
    have HN2 : Hid (Bq W2 (w.heap.size + 1 + 1) ptN) := HN1.out.grown hu2.gr (by omega)
    have HL2 : Hid (Below w.heap.size w W2) := below_put HL1.out hu2.gr (Nat.le_refl _) HL1.out.size
    clear hb2 hu2
    go_wp2_with fail
    refine (padd_any w.heap.size 3 (w.heap.size + 1) 3 A.ls B.ls W2 HA2.out.ls HB2.out.ls HA2.out.fr (by omega)).mono ?_
    rintro e W3 ⟨⟨v, rfl⟩, hb3, hu3⟩
    have HA3 : Hid (Bq W3 w.heap.size ⟨B.nl, fun k => A.fs k || B.fs k, fun k => A.ls k || B.ls k⟩) := HA2.out.addL hu3 hb3
    have HN3 : Hid (Bq W3 (w.heap.size + 1 + 1) ptN) := HN2.out.grown hu3.gr (by omega)
    have HL3 : Hid (Below w.heap.size w W3) := below_put HL2.out hu3.gr (Nat.le_refl _) HL2.out.size
    clear hb3 hu3
    obtain ⟨a0, a1, a2, a3, a4, -, -, -, -, -⟩ := HA3.out.cells
    obtain ⟨n0, n1, n2, n3, n4, m0, m1, m2, m3, m4⟩ := HN3.out.cells
    go_wp2_with fail
    refine bodyPost_ret (v := PtV ⟨B.nl, fun k => A.fs k || B.fs k, fun k => A.ls k || B.ls k⟩) ?_ rfl ⟨?_, ?_⟩
    · rw [results_cell1 rfl]; go_simp
    · simp only [ptOr, han, Bool.false_or]
    · exact below_set5 HL3.out (by omega) _ _ _ _ _
  · have HA1 : Hid (Bq (W.setCell ⟨w.heap.size, 0, none⟩ (.bool true)) w.heap.size ⟨true, A.fs, A.ls⟩) := HA.out.set true
    have HB1 : Hid (Bq (W.setCell ⟨w.heap.size, 0, none⟩ (.bool true)) (w.heap.size + 1) B) := HB.out.grown (grown_set _ _ _ _) (by omega)
    have HN1 : Hid (Bq (W.setCell ⟨w.heap.size, 0, none⟩ (.bool true)) (w.heap.size + 1 + 1) ptN) := HN.out.grown (grown_set _ _ _ _) (by omega)
    have HL1 : Hid (Below w.heap.size w (W.setCell ⟨w.heap.size, 0, none⟩ (.bool true))) := HL.out.setCell (Nat.le_refl _) _
    rw [han] at a0
    go_wp2_with fail
    obtain ⟨W1, hW1⟩ : ∃ W1, W1 = W.setCell ⟨w.heap.size, 0, none⟩ (.bool true) := ⟨_, rfl⟩
    rw [← hW1] at HA1 HB1 HN1 HL1 ⊢
    clear hW1 a0 af b0
    refine (padd_any w.heap.size 1 (w.heap.size + 1) 1 A.fs B.fs W1 HA1.out.fs HB1.out.fs HA1.out.fr (by omega)).mono ?_
    rintro e W2 ⟨⟨v, rfl⟩, hb2, hu2⟩
    have HA2 : Hid (Bq W2 w.heap.size ⟨true, fun k => A.fs k || B.fs k, A.ls⟩) := HA1.out.addF hu2 hb2
    have HB2 : Hid (Bq W2 (w.heap.size + 1) B) := HB1.out.grown hu2.gr (by omega)
    have HN2 : Hid (Bq W2 (w.heap.size + 1 + 1) ptN) := HN1.out.grown hu2.gr (by omega)
    have HL2 : Hid (Below w.heap.size w W2) := below_put HL1.out hu2.gr (Nat.le_refl _) HL1.out.size
    clear hb2 hu2
    go_wp2_with fail
    refine (padd_any w.heap.size 3 (w.heap.size + 1) 3 A.ls B.ls W2 HA2.out.ls HB2.out.ls HA2.out.fr (by omega)).mono ?_
    rintro e W3 ⟨⟨v, rfl⟩, hb3, hu3⟩
    have HA3 : Hid (Bq W3 w.heap.size ⟨true, fun k => A.fs k || B.fs k, fun k => A.ls k || B.ls k⟩) := HA2.out.addL hu3 hb3
    have HN3 : Hid (Bq W3 (w.heap.size + 1 + 1) ptN) := HN2.out.grown hu3.gr (by omega)
    have HL3 : Hid (Below w.heap.size w W3) := below_put HL2.out hu3.gr (Nat.le_refl _) HL2.out.size
    clear hb3 hu3
    obtain ⟨a0, a1, a2, a3, a4, -, -, -, -, -⟩ := HA3.out.cells
    obtain ⟨n0, n1, n2, n3, n4, m0, m1, m2, m3, m4⟩ := HN3.out.cells
    go_wp2_with fail
    refine bodyPost_ret (v := PtV ⟨true, fun k => A.fs k || B.fs k, fun k => A.ls k || B.ls k⟩) ?_ rfl ⟨?_, ?_⟩
    · rw [results_cell1 rfl]; go_simp
    · simp only [ptOr, han, Bool.true_or]
    · exact below_set5 HL3.out (by omega) _ _ _ _ _
end Go.Proofs.YtkjcnnecdclgfaaDoor
namespace Go.Proofs.YtkjcnnecdclgfaaDoor
open Go.RowKit Go.Shelf

theorem grown_of {w W : World} (b : Nat) (h : Below w.heap.size w W) : w.grownBy W (some b) := ⟨h.os, h.tape, h.output, h.size, fun k hk _ => h.block k hk⟩
theorem Wm.other {W W' : World} {b c : Nat} {S : Wy} (h : Wm W b S) (hg : W.grownBy W' (some c)) (hne : c ≠ b) : Wm W' b S := h.same (hg.block b h.lt (by simp; exact fun e => hne e.symm))
theorem Dbt.grown {W W' : World} {b : Nat} (h : Dbt W) (hg : W.grownBy W' (some b)) (hb : b ≠ 0) : Dbt W' := h.same (hg.block 0 h.pos (by simp; exact fun e => hb e.symm))
theorem grown_set5 (W : World) (b : Nat) (x0 x1 x2 x3 x4 : Value) : W.grownBy (((((W.setCell ⟨b, 0, none⟩ x0).setCell ⟨b, 1, none⟩ x1).setCell ⟨b, 2, none⟩ x2).setCell ⟨b, 3, none⟩ x3).setCell ⟨b, 4, none⟩ x4) (some b) :=
  grown_trans (grown_trans (grown_trans (grown_trans (grown_set _ _ _ _) (grown_set _ _ _ _)) (grown_set _ _ _ _)) (grown_set _ _ _ _)) (grown_set _ _ _ _)

set_option maxRecDepth 100000 in
set_option maxHeartbeats 4000000 in
theorem row_any (b : Nat) (S : Wy) (A B : Pt) (w : World) (hW : Wm w b S) (hD : Dbt w) (hb0 : b ≠ 0) :
    Calls Tryd.prog 44 #[.pointer (some ⟨b, 0, none⟩), PtV A, PtV B] w fun e w' => e = .returned (PtV (ptCat A B)) ∧ Wm w' b ⟨S.pt, lnk S.bh A.ls B.fs⟩ ∧ w.grownBy w' (some b) := by
  have HW0 : Hid (Wm w b S) := hW
  have HD0 : Hid (Dbt w) := hD
  have HB0 : Hid (b ≠ 0) := hb0
  have HLT : Hid (b < w.heap.size) := hW.lt
  clear hW hD hb0
  go_enter Tryd.func44, Tryd.ntmps44
  go_upto_region 1 with fail
  obtain ⟨W, hW, hA, hB, hN, hL⟩ := three w A B
  rw [← hW]
  have HA : Hid (Bq W w.heap.size A) := hA
  have HB : Hid (Bq W (w.heap.size + 1) B) := hB
  have HN : Hid (Bq W (w.heap.size + 1 + 1) ptN) := hN
  have HL : Hid (Below w.heap.size w W) := hL
  have HW : Hid (Wm W b S) := HW0.out.same (hL.block b HLT.out)
  have HD : Hid (Dbt W) := HD0.out.up hL
  obtain ⟨-, -, -, a3, a4, -⟩ := hA.cells
  obtain ⟨-, b1, b2, -⟩ := hB.cells
  clear hW hA hB hN hL HW0 HD0
  go_wp2_with fail
  refine (link_any b S A.ls B.fs W HW.out HD.out HB0.out).mono ?_
  rintro e W1 ⟨⟨v, rfl⟩, hw1, hg1⟩
  have HA1 : Hid (Bq W1 w.heap.size A) := HA.out.grown hg1 (by have := HLT.out; omega)
  have HB1 : Hid (Bq W1 (w.heap.size + 1) B) := HB.out.grown hg1 (by have := HLT.out; omega)
  have HN1 : Hid (Bq W1 (w.heap.size + 1 + 1) ptN) := HN.out.grown hg1 (by have := HLT.out; omega)
  have HG1 : Hid (w.grownBy W1 (some b)) := grown_trans (grown_of b HL.out) hg1
  have HW1 : Hid (Wm W1 b ⟨S.pt, lnk S.bh A.ls B.fs⟩) := hw1
  clear hw1 hg1 a3 a4 b1 b2
  obtain ⟨an, han⟩ : ∃ an, A.nl = an := ⟨_, rfl⟩
  obtain ⟨bn, hbn⟩ : ∃ bn, B.nl = bn := ⟨_, rfl⟩
  cases an
  · cases bn
    · have a0 := HA1.out.c0
      have b0 := HB1.out.c0
      rw [hbn] at b0
      skip
      rw [han] at a0
      obtain ⟨-, a1, a2, -⟩ := HA1.out.cells
      obtain ⟨-, -, -, b3, b4, -⟩ := HB1.out.cells
      obtain ⟨n0, n1, n2, n3, n4, m0, m1, m2, m3, m4⟩ := HN1.out.cells
      go_wp2_with fail
      refine bodyPost_ret (v := PtV ⟨false, A.fs, B.ls⟩) ?_ rfl ⟨?_, HW1.out.other (grown_set5 _ _ _ _ _ _ _) (by have := HLT.out; omega), grown_row HG1.out (grown_set5 _ _ _ _ _ _ _) (fun r e => by cases e; omega)⟩
      · rw [results_cell1 rfl]; go_simp
      · simp [ptCat, han, hbn]
    · have a0 := HA1.out.c0
      have b0 := HB1.out.c0
      rw [hbn] at b0
      rw [han] at a0
      go_wp2_with fail
      clear b0 a0
      refine (padd_any (w.heap.size + 1) 3 w.heap.size 3 B.ls A.ls W1 HB1.out.ls HA1.out.ls HB1.out.fr (by omega)).mono ?_
      rintro e W2 ⟨⟨v, rfl⟩, hb2, hu2⟩
      have HA2 : Hid (Bq W2 w.heap.size A) := HA1.out.grown hu2.gr (by omega)
      have HB2 : Hid (Bq W2 (w.heap.size + 1) ⟨B.nl, B.fs, fun k => B.ls k || A.ls k⟩) := HB1.out.addL hu2 hb2
      have HN2 : Hid (Bq W2 (w.heap.size + 1 + 1) ptN) := HN1.out.grown hu2.gr (by omega)
      have HG2 : Hid (w.grownBy W2 (some b)) := grown_row HG1.out hu2.gr (fun r e => by cases e; omega)
      have HW2 : Hid (Wm W2 b ⟨S.pt, lnk S.bh A.ls B.fs⟩) := HW1.out.other hu2.gr (by have := HLT.out; omega)
      clear hb2 hu2
      have a0 := HA2.out.c0
      have b0 := HB2.out.c0
      dsimp only at b0
      rw [hbn] at b0
      skip
      rw [han] at a0
      obtain ⟨-, a1, a2, -⟩ := HA2.out.cells
      obtain ⟨-, -, -, b3, b4, -⟩ := HB2.out.cells
      obtain ⟨n0, n1, n2, n3, n4, m0, m1, m2, m3, m4⟩ := HN2.out.cells
      go_wp2_with fail
      refine bodyPost_ret (v := PtV ⟨false, A.fs, (fun k => B.ls k || A.ls k)⟩) ?_ rfl ⟨?_, HW2.out.other (grown_set5 _ _ _ _ _ _ _) (by have := HLT.out; omega), grown_row HG2.out (grown_set5 _ _ _ _ _ _ _) (fun r e => by cases e; omega)⟩
      · rw [results_cell1 rfl]; go_simp
      · simp [ptCat, han, hbn]
  · have a0 := HA1.out.c0
    rw [han] at a0
    go_wp2_with fail
    clear a0
    refine (padd_any w.heap.size 1 (w.heap.size + 1) 1 A.fs B.fs W1 HA1.out.fs HB1.out.fs HA1.out.fr (by omega)).mono ?_
    rintro e W2 ⟨⟨v, rfl⟩, hb2, hu2⟩
    have HA2 : Hid (Bq W2 w.heap.size ⟨A.nl, fun k => A.fs k || B.fs k, A.ls⟩) := HA1.out.addF hu2 hb2
    have HB2 : Hid (Bq W2 (w.heap.size + 1) B) := HB1.out.grown hu2.gr (by omega)
    have HN2 : Hid (Bq W2 (w.heap.size + 1 + 1) ptN) := HN1.out.grown hu2.gr (by omega)
    have HG2 : Hid (w.grownBy W2 (some b)) := grown_row HG1.out hu2.gr (fun r e => by cases e; omega)
    have HW2 : Hid (Wm W2 b ⟨S.pt, lnk S.bh A.ls B.fs⟩) := HW1.out.other hu2.gr (by have := HLT.out; omega)
    clear hb2 hu2
    cases bn
    · have a0 := HA2.out.c0
      have b0 := HB2.out.c0
      rw [hbn] at b0
      dsimp only at a0
      rw [han] at a0
      obtain ⟨-, a1, a2, -⟩ := HA2.out.cells
      obtain ⟨-, -, -, b3, b4, -⟩ := HB2.out.cells
      obtain ⟨n0, n1, n2, n3, n4, m0, m1, m2, m3, m4⟩ := HN2.out.cells
      go_wp2_with fail
      refine bodyPost_ret (v := PtV ⟨false, (fun k => A.fs k || B.fs k), B.ls⟩) ?_ rfl ⟨?_, HW2.out.other (grown_set5 _ _ _ _ _ _ _) (by have := HLT.out; omega), grown_row HG2.out (grown_set5 _ _ _ _ _ _ _) (fun r e => by cases e; omega)⟩
      · rw [results_cell1 rfl]; go_simp
      · simp [ptCat, han, hbn]
    · have a0 := HA2.out.c0
      have b0 := HB2.out.c0
      rw [hbn] at b0
      clear a0
      go_wp2_with fail
      clear b0
      refine (padd_any (w.heap.size + 1) 3 w.heap.size 3 B.ls A.ls W2 HB2.out.ls HA2.out.ls HB2.out.fr (by omega)).mono ?_
      rintro e W3 ⟨⟨v, rfl⟩, hb2, hu2⟩
      have HA3 : Hid (Bq W3 w.heap.size ⟨A.nl, fun k => A.fs k || B.fs k, A.ls⟩) := HA2.out.grown hu2.gr (by omega)
      have HB3 : Hid (Bq W3 (w.heap.size + 1) ⟨B.nl, B.fs, fun k => B.ls k || A.ls k⟩) := HB2.out.addL hu2 hb2
      have HN3 : Hid (Bq W3 (w.heap.size + 1 + 1) ptN) := HN2.out.grown hu2.gr (by omega)
      have HG3 : Hid (w.grownBy W3 (some b)) := grown_row HG2.out hu2.gr (fun r e => by cases e; omega)
      have HW3 : Hid (Wm W3 b ⟨S.pt, lnk S.bh A.ls B.fs⟩) := HW2.out.other hu2.gr (by have := HLT.out; omega)
      clear hb2 hu2
      have a0 := HA3.out.c0
      have b0 := HB3.out.c0
      dsimp only at b0
      rw [hbn] at b0
      dsimp only at a0
      rw [han] at a0
      obtain ⟨-, a1, a2, -⟩ := HA3.out.cells
      obtain ⟨-, -, -, b3, b4, -⟩ := HB3.out.cells
      obtain ⟨n0, n1, n2, n3, n4, m0, m1, m2, m3, m4⟩ := HN3.out.cells
      go_wp2_with fail
      refine bodyPost_ret (v := PtV ⟨true, (fun k => A.fs k || B.fs k), (fun k => B.ls k || A.ls k)⟩) ?_ rfl ⟨?_, HW3.out.other (grown_set5 _ _ _ _ _ _ _) (by have := HLT.out; omega), grown_row HG3.out (grown_set5 _ _ _ _ _ _ _) (fun r e => by cases e; omega)⟩
      · rw [results_cell1 rfl]; go_simp
      · simp [ptCat, han, hbn]

set_option maxRecDepth 100000 in
set_option maxHeartbeats 4000000 in
theorem again_any (b : Nat) (S : Wy) (A : Pt) (op : Int) (w : World) (hW : Wm w b S) (hD : Dbt w) (hb0 : b ≠ 0) :
    Calls Tryd.prog 46 #[.pointer (some ⟨b, 0, none⟩), PtV A, .int .i64 op] w fun e w' => e = .returned (PtV (ptAg A op)) ∧ Wm w' b ⟨S.pt, if op = 7 then S.bh else lnk S.bh A.ls A.fs⟩ ∧ w.grownBy w' (some b) := by
  have HW0 : Hid (Wm w b S) := hW
  have HD0 : Hid (Dbt w) := hD
  have HB0 : Hid (b ≠ 0) := hb0
  have HLT : Hid (b < w.heap.size) := hW.lt
  clear hW hD hb0
  go_enter Tryd.func46, Tryd.ntmps46
  go_upto_region 1 with fail
  have hA := (Bq.new w A 70).up (.cells #[.bool false, .int .u64 0, .int .u64 0, .int .u64 0, .int .u64 0] 70)
  have hN : Bq ((w.alloc (.cells #[.bool A.nl, .int .u64 (wd A.fs 0 : Nat), .int .u64 (wd A.fs 1 : Nat), .int .u64 (wd A.ls 0 : Nat), .int .u64 (wd A.ls 1 : Nat)] 70)).alloc (.cells #[.bool false, .int .u64 0, .int .u64 0, .int .u64 0, .int .u64 0] 70)) (w.heap.size + 1) ptN := by
    have h := Bq.new (w.alloc (.cells #[.bool A.nl, .int .u64 (wd A.fs 0 : Nat), .int .u64 (wd A.fs 1 : Nat), .int .u64 (wd A.ls 0 : Nat), .int .u64 (wd A.ls 1 : Nat)] 70)) ptN 70
    rw [World.size_alloc] at h
    simp only [ptN, wd_none] at h
    exact h
  have hL : Below w.heap.size w ((w.alloc (.cells #[.bool A.nl, .int .u64 (wd A.fs 0 : Nat), .int .u64 (wd A.fs 1 : Nat), .int .u64 (wd A.ls 0 : Nat), .int .u64 (wd A.ls 1 : Nat)] 70)).alloc (.cells #[.bool false, .int .u64 0, .int .u64 0, .int .u64 0, .int .u64 0] 70)) := below_trans (bel_up _ _) (bel_up _ _)
  obtain ⟨W, hW⟩ : ∃ W, W = (w.alloc (.cells #[.bool A.nl, .int .u64 (wd A.fs 0 : Nat), .int .u64 (wd A.fs 1 : Nat), .int .u64 (wd A.ls 0 : Nat), .int .u64 (wd A.ls 1 : Nat)] 70)).alloc (.cells #[.bool false, .int .u64 0, .int .u64 0, .int .u64 0, .int .u64 0] 70) := ⟨_, rfl⟩
  rw [← hW] at hA hN hL ⊢
  have HA : Hid (Bq W w.heap.size A) := hA
  have HN : Hid (Bq W (w.heap.size + 1) ptN) := hN
  have HL : Hid (Below w.heap.size w W) := hL
  have HW : Hid (Wm W b S) := HW0.out.same (hL.block b HLT.out)
  have HD : Hid (Dbt W) := HD0.out.up hL
  clear hW hA hN hL HW0 HD0
  by_cases h7 : op = 7
  · subst h7
    have f0 := HA.out.fr 0
    have c0 := HA.out.c0
    have HA1 : Hid (Bq (W.setCell ⟨w.heap.size, 0, none⟩ (.bool true)) w.heap.size ⟨true, A.fs, A.ls⟩) := HA.out.set true
    have HN1 : Hid (Bq (W.setCell ⟨w.heap.size, 0, none⟩ (.bool true)) (w.heap.size + 1) ptN) := HN.out.grown (grown_set _ _ _ _) (by omega)
    have HG1 : Hid (w.grownBy (W.setCell ⟨w.heap.size, 0, none⟩ (.bool true)) (some b)) := grown_row (grown_of b HL.out) (grown_set _ _ _ _) (fun r e => by cases e; omega)
    have HW1 : Hid (Wm (W.setCell ⟨w.heap.size, 0, none⟩ (.bool true)) b S) := HW.out.other (grown_set _ _ _ _) (by have := HLT.out; omega)
    go_upto_region 5 with fail
    obtain ⟨W1, hW1⟩ : ∃ W1, W1 = W.setCell ⟨w.heap.size, 0, none⟩ (.bool true) := ⟨_, rfl⟩
    rw [← hW1] at HA1 HN1 HG1 HW1 ⊢
    clear hW1 f0 c0
    obtain ⟨a0, a1, a2, a3, a4, -⟩ := HA1.out.cells
    obtain ⟨n0, n1, n2, n3, n4, m0, m1, m2, m3, m4⟩ := HN1.out.cells
    go_wp2_with fail
    refine bodyPost_ret (v := PtV ⟨true, A.fs, A.ls⟩) ?_ rfl ⟨?_, ?_, grown_row HG1.out (grown_set5 _ _ _ _ _ _ _) (fun r e => by cases e; omega)⟩
    · rw [results_cell1 rfl]; go_simp
    · simp [ptAg]
    · exact HW1.out.other (grown_set5 _ _ _ _ _ _ _) (by have := HLT.out; omega)
  · have e7 : (op != 7) = true := by rw [bne_iff_ne]; exact h7
    have e7' : (op == 7) = false := by rw [beq_eq_false_iff_ne]; exact h7
    have H7 : Hid (op ≠ 7) := h7
    clear h7
    obtain ⟨-, a1, a2, a3, a4, -⟩ := HA.out.cells
    by_cases h6 : op = 6
    · subst h6
      go_wp2_with fail
      refine (link_any b S A.ls A.fs W HW.out HD.out HB0.out).mono ?_
      rintro e W1 ⟨⟨v, rfl⟩, hw1, hg1⟩
      have HA1 : Hid (Bq W1 w.heap.size A) := HA.out.grown hg1 (by have := HLT.out; omega)
      have HN1 : Hid (Bq W1 (w.heap.size + 1) ptN) := HN.out.grown hg1 (by have := HLT.out; omega)
      have HG1 : Hid (w.grownBy W1 (some b)) := grown_trans (grown_of b HL.out) hg1
      have HW1 : Hid (Wm W1 b ⟨S.pt, lnk S.bh A.ls A.fs⟩) := hw1
      clear hw1 hg1 a1 a2 a3 a4
      obtain ⟨a0, a1, a2, a3, a4, -⟩ := HA1.out.cells
      obtain ⟨n0, n1, n2, n3, n4, m0, m1, m2, m3, m4⟩ := HN1.out.cells
      go_wp2_with fail
      refine bodyPost_ret (v := PtV A) ?_ rfl ⟨?_, ?_, grown_row HG1.out (grown_set5 _ _ _ _ _ _ _) (fun r e => by cases e; omega)⟩
      · rw [results_cell1 rfl]; go_simp
      · simp [ptAg]
      · exact HW1.out.other (grown_set5 _ _ _ _ _ _ _) (by have := HLT.out; omega)
    · have e6 : (op != 6) = true := by rw [bne_iff_ne]; exact h6
      have e6' : (op == 6) = false := by rw [beq_eq_false_iff_ne]; exact h6
      have H6 : Hid (op ≠ 6) := h6
      clear h6
      go_wp2_with fail
      refine (link_any b S A.ls A.fs W HW.out HD.out HB0.out).mono ?_
      rintro e W2 ⟨⟨v, rfl⟩, hw1, hg1⟩
      have HA2 : Hid (Bq W2 w.heap.size A) := HA.out.grown hg1 (by have := HLT.out; omega)
      have HN2 : Hid (Bq W2 (w.heap.size + 1) ptN) := HN.out.grown hg1 (by have := HLT.out; omega)
      have HG2 : Hid (w.grownBy W2 (some b)) := grown_trans (grown_of b HL.out) hg1
      have HW2 : Hid (Wm W2 b ⟨S.pt, lnk S.bh A.ls A.fs⟩) := hw1
      clear hw1 hg1 a1 a2 a3 a4
      have f0 := HA2.out.fr 0
      have c0 := HA2.out.c0
      have HA1 : Hid (Bq (W2.setCell ⟨w.heap.size, 0, none⟩ (.bool true)) w.heap.size ⟨true, A.fs, A.ls⟩) := HA2.out.set true
      have HN1 : Hid (Bq (W2.setCell ⟨w.heap.size, 0, none⟩ (.bool true)) (w.heap.size + 1) ptN) := HN2.out.grown (grown_set _ _ _ _) (by omega)
      have HG1 : Hid (w.grownBy (W2.setCell ⟨w.heap.size, 0, none⟩ (.bool true)) (some b)) := grown_row HG2.out (grown_set _ _ _ _) (fun r e => by cases e; omega)
      have HW1 : Hid (Wm (W2.setCell ⟨w.heap.size, 0, none⟩ (.bool true)) b ⟨S.pt, lnk S.bh A.ls A.fs⟩) := HW2.out.other (grown_set _ _ _ _) (by have := HLT.out; omega)
      go_upto_region 5 with fail
      obtain ⟨W1, hW1⟩ : ∃ W1, W1 = W2.setCell ⟨w.heap.size, 0, none⟩ (.bool true) := ⟨_, rfl⟩
      rw [← hW1] at HA1 HN1 HG1 HW1 ⊢
      clear hW1 f0 c0
      obtain ⟨a0, a1, a2, a3, a4, -⟩ := HA1.out.cells
      obtain ⟨n0, n1, n2, n3, n4, m0, m1, m2, m3, m4⟩ := HN1.out.cells
      go_wp2_with fail
      refine bodyPost_ret (v := PtV ⟨true, A.fs, A.ls⟩) ?_ rfl ⟨?_, ?_, grown_row HG1.out (grown_set5 _ _ _ _ _ _ _) (fun r e => by cases e; omega)⟩
      · rw [results_cell1 rfl]; go_simp
      · simp [ptAg, H6.out]
      · exact HW1.out.other (grown_set5 _ _ _ _ _ _ _) (by have := HLT.out; omega)
end Go.Proofs.YtkjcnnecdclgfaaDoor
