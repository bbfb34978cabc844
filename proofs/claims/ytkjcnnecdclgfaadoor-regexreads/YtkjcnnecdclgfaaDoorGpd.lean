import Derived.Test.YtkjcnnecdclgfaaDoorGpc
namespace Go.Proofs.YtkjcnnecdclgfaaDoor
open Go.RowKit Go.Shelf
attribute [local go_sem] Oper.semAt_some

/-- The ways in their block. -/
structure Wm (W : World) (b : Nat) (S : Wy) : Prop where
  nl : ∀ i, i < 128 → W.cell? ⟨b, i * 5, none⟩ = some (.bool (S.pt i).nl)
  fs : ∀ i, i < 128 → Bp W b (i * 5 + 1) (S.pt i).fs
  ls : ∀ i, i < 128 → Bp W b (i * 5 + 3) (S.pt i).ls
  bh : ∀ p, p < 128 → Bp W b (640 + p * 2) (S.bh p)
  fr : ∀ o, W.frozen? ⟨b, o, none⟩ = false
theorem Bp.same {W W' : World} {b o : Nat} {m : Nat → Bool} (h : Bp W b o m) (e : W'.heap[b]? = W.heap[b]?) : Bp W' b o m :=
  ⟨by rw [World.cell?_of_block (a := ⟨b, o, none⟩) e]; exact h.c0, by rw [World.cell?_of_block (a := ⟨b, o + 1, none⟩) e]; exact h.c1⟩
theorem Wm.same {W W' : World} {b : Nat} {S : Wy} (h : Wm W b S) (e : W'.heap[b]? = W.heap[b]?) : Wm W' b S :=
  ⟨fun i hi => by rw [World.cell?_of_block (a := ⟨b, i * 5, none⟩) e]; exact h.nl i hi, fun i hi => (h.fs i hi).same e, fun i hi => (h.ls i hi).same e, fun i hi => (h.bh i hi).same e, fun o => by rw [World.frozen?_of_block (a := ⟨b, o, none⟩) e]; exact h.fr o⟩
theorem Wm.lt {W : World} {b : Nat} {S : Wy} (h : Wm W b S) : b < W.heap.size := cell_lt (h.nl 0 (by omega))
/-- A set added behind one class. -/
theorem Wm.putB {W W' : World} {b x : Nat} {S : Wy} {m : Nat → Bool} {B' : Nat → Nat → Bool} (h : Wm W b S) (hx : x < 128) (hu : Pu b (640 + x * 2) W W') (hb : Bp W' b (640 + x * 2) m) (e : ∀ p, B' p = if p = x then m else S.bh p) : Wm W' b ⟨S.pt, B'⟩ := by
  refine ⟨fun i hi => ?_, fun i hi => ⟨?_, ?_⟩, fun i hi => ⟨?_, ?_⟩, fun p hp => ?_, fun o => (hu.f o).trans (h.fr o)⟩
  · rw [hu.c _ (by omega) (by omega)]; exact h.nl i hi
  · rw [hu.c _ (by omega) (by omega)]; exact (h.fs i hi).c0
  · rw [hu.c _ (by omega) (by omega)]; exact (h.fs i hi).c1
  · rw [hu.c _ (by omega) (by omega)]; exact (h.ls i hi).c0
  · rw [hu.c _ (by omega) (by omega)]; exact (h.ls i hi).c1
  · show Bp W' b (640 + p * 2) (B' p)
    rw [e p]
    by_cases hpx : p = x
    · rw [if_pos hpx, hpx]; exact hb
    · rw [if_neg hpx]
      exact ⟨by rw [hu.c _ (by omega) (by omega)]; exact (h.bh p hp).c0, by rw [hu.c _ (by omega) (by omega)]; exact (h.bh p hp).c1⟩
/-- What link has done so far. -/
def lkd (bh : Nat → Nat → Bool) (pre : List Nat) (f : Nat → Bool) : Nat → Nat → Bool := fun p q => bh p q || (decide (p ∈ pre) && f q)
structure LkI (w : World) (b c3 c5 : Nat) (S : Wy) (f l : Nat → Bool) (pre : List {p : Nat // p ∈ els l}) (W : World) : Prop where
  ways : Wm W b ⟨S.pt, lkd S.bh (pre.map Subtype.val) f⟩
  box : W.cell? ⟨c3, 0, none⟩ = some (.pointer (some ⟨b, 0, none⟩))
  fst : Bp W c5 0 f
  gr : w.grownBy W (some b)
theorem grown_row {A W W' : World} {b : Nat} {row : Option Nat} (h : A.grownBy W (some b)) (k : W.grownBy W' row) (hr : ∀ r, row = some r → A.heap.size ≤ r) : A.grownBy W' (some b) :=
  ⟨k.os.trans h.os, k.tape.trans h.tape, k.output.trans h.output, Nat.le_trans h.size k.size, fun i hi hb => (k.block i (Nat.lt_of_lt_of_le hi h.size) (fun e => by have := hr i e.symm; omega)).trans (h.block i hi hb)⟩
theorem LkI.own {w : World} {b c3 c5 B : Nat} {S : Wy} {f l : Nat → Bool} (hB : w.heap.size ≤ B) (hb : b < B) (h3 : c3 < B) (h5 : c5 < B) : OwnFrom B (LkI w b c3 c5 S f l) := by
  intro s W W' row h hg hr
  have st : ∀ k, k < B → k < W.heap.size → W'.heap[k]? = W.heap[k]? := fun k hk hl => hg.block k hl (fun e => by have := (hr k e.symm).1; omega)
  have s3 := st c3 h3 (cell_lt h.box)
  exact ⟨h.ways.same (st b hb h.ways.lt), by rw [World.cell?_of_block (a := ⟨c3, 0, none⟩) s3]; exact h.box, h.fst.same (st c5 h5 h.fst.lt), grown_row h.gr hg (fun r e => by have := (hr r e).1; omega)⟩

set_option maxRecDepth 100000 in
set_option maxHeartbeats 4000000 in
theorem link_any (b : Nat) (S : Wy) (l f : Nat → Bool) (w : World) (hW : Wm w b S) (hD : Dbt w) (hb0 : b ≠ 0) :
    Calls Tryd.prog 64 #[.pointer (some ⟨b, 0, none⟩), PV l, PV f] w fun e w' => (∃ v, e = .returned v) ∧ Wm w' b ⟨S.pt, lnk S.bh l f⟩ ∧ w.grownBy w' (some b) := by
  refine (callsIn_wide (n := 3)).1 ?_
  refine callsIn_of_wp_marks Tryd.func64 rfl trivial ?_ rfl
  simp only [Tryd.ntmps64, List.size_toArray, List.length_cons, List.length_nil, Nat.reduceAdd, Nat.reduceSub, Array.replicate_succ, Array.replicate_zero, List.push_toArray, List.append_toArray, List.nil_append, List.cons_append]
  have HW : Hid (Wm w b S) := hW
  have HD : Hid (Dbt w) := hD
  have HB0 : Hid (b ≠ 0) := hb0
  clear hW hD hb0
  gi_wp2
  refine ⟨trivial, (callsIn_wide.2 (all_any l _)).mono ?_⟩
  rintro e w1 ⟨rfl, rfl⟩
  gi_wp2
  have c3 : (w.alloc (.cells #[.pointer (some ⟨b, 0, none⟩)] 67)).cell? ⟨w.heap.size, 0, none⟩ = some (.pointer (some ⟨b, 0, none⟩)) := by rw [World.cell?_alloc_at _ _ _ _ (by simp)]; rfl
  have c5 := (Bw.new ((w.alloc (.cells #[.pointer (some ⟨b, 0, none⟩)] 67)).alloc (.cells #[.int .u64 (wd l 0 : Nat), .int .u64 (wd l 1 : Nat)] 45)) f 45).p
  have c6 := (Bw.new (((w.alloc (.cells #[.pointer (some ⟨b, 0, none⟩)] 67)).alloc (.cells #[.int .u64 (wd l 0 : Nat), .int .u64 (wd l 1 : Nat)] 45)).alloc (.cells #[.int .u64 (wd f 0 : Nat), .int .u64 (wd f 1 : Nat)] 45)) l 45).p
  simp only [World.size_alloc] at c5 c6
  obtain ⟨W0, hW0⟩ : ∃ W0, W0 = (((w.alloc (.cells #[.pointer (some ⟨b, 0, none⟩)] 67)).alloc (.cells #[.int .u64 (wd l 0 : Nat), .int .u64 (wd l 1 : Nat)] 45)).alloc (.cells #[.int .u64 (wd f 0 : Nat), .int .u64 (wd f 1 : Nat)] 45)).alloc (.cells #[.int .u64 (wd l 0 : Nat), .int .u64 (wd l 1 : Nat)] 45) := ⟨_, rfl⟩
  have hB0 : Below w.heap.size w W0 := by rw [hW0]; exact below_trans (below_trans (below_trans (bel_up _ _) (bel_up _ _)) (bel_up _ _)) (bel_up _ _)
  have hsz : W0.heap.size = w.heap.size + 4 := by rw [hW0]; simp
  have d3 : W0.cell? ⟨w.heap.size, 0, none⟩ = some (.pointer (some ⟨b, 0, none⟩)) := by rw [hW0]; exact cell_up _ (cell_up _ (cell_up _ c3))
  have d5 : Bp W0 (w.heap.size + 1 + 1) 0 f := by rw [hW0]; exact ⟨cell_up _ c5.c0, cell_up _ c5.c1⟩
  have d6 : Bp W0 (w.heap.size + 1 + 1 + 1) 0 l := by rw [hW0]; exact c6
  rw [← hW0]
  clear c3 c5 c6 hW0
  have hD0 : Dbt W0 := HD.out.up hB0
  have hpos := HD.out.pos
  have hblt := HW.out.lt
  have hw0 : Wm W0 b S := HW.out.same (hB0.block b hblt)
  have hI0 : LkI w b w.heap.size (w.heap.size + 1 + 1) S f l [] W0 := by
    refine ⟨?_, d3, d5, ⟨hB0.os, hB0.tape, hB0.output, hB0.size, fun k hk _ => hB0.block k hk⟩⟩
    have e : lkd S.bh (([] : List {p : Nat // p ∈ els l}).map Subtype.val) f = S.bh := by funext p q; simp [lkd]
    rw [e]
    exact hw0
  refine wpIn_rangeFunc_ownG rfl (by decide) (gf := 47) (lb := #[.pointer (some ⟨w.heap.size + 1 + 1 + 1, 0, none⟩)]) rfl trivial (enters_of Tryd.func47 (by kernel_rfl) rfl)
    (all_stops (n := 3 - 1) l W0 d6 hD0) Kp0.trans (kp0_b (w := W0) (by omega)) (Below.refl _ _) (fun _ => rfl)
    (LkI w b w.heap.size (w.heap.size + 1 + 1) S f l)
    (fun _ _ _ => False)
    (LkI.own (by omega) (by omega) (by omega) (by omega))
    (fun _ _ _ _ _ h _ _ => h)
    hI0
    (fun x => { tmps := #[.pointer (some ⟨b, 0, none⟩), PV l, PV f, .pointer (some ⟨w.heap.size, 0, none⟩), .pointer (some ⟨w.heap.size + 1, 0, none⟩), .pointer (some ⟨w.heap.size + 1 + 1, 0, none⟩), .int .i64 (x.val : Int), .agg #[.int .u64 (wd l 0 : Nat), .int .u64 (wd l 1 : Nat)], .func (.func 47) #[] #[.pointer (some ⟨w.heap.size + 1 + 1 + 1, 0, none⟩)], .int .i64 (x.val : Int), undef, undef, undef, undef, undef, undef], defers := [] }) ?assign ?body ?done ?stop
  case assign =>
    intro l x W K hK
    gi_wp2
    exact hK
  case body =>
    rintro lp pre x W hI _
    have hx := ((els_mem l x.val).1 x.property).1
    obtain ⟨x, hx'⟩ := x
    dsimp only at hx ⊢
    have HI : Hid (LkI w b w.heap.size (w.heap.size + 1 + 1) S f l pre W) := hI
    have hbox := hI.box
    have hBp := hI.ways.bh x hx
    have hFp := hI.fst
    have hfrz := hI.ways.fr
    have HBP : Hid (Bp W b (640 + x * 2) (lkd S.bh (pre.map Subtype.val) f x)) := hBp
    have HFP : Hid (Bp W (w.heap.size + 1 + 1) 0 f) := hFp
    have HFR : Hid (∀ o, W.frozen? ⟨b, o, none⟩ = false) := hfrz
    clear hI d3 d5 d6 hw0 hI0 hD0 hBp hFp hfrz
    gi_wp2
    refine ⟨trivial, (callsIn_wide.2 (padd_any b (640 + x * 2) (w.heap.size + 1 + 1) 0 _ f W HBP.out HFP.out HFR.out (by omega))).mono ?_⟩
    rintro e W2 ⟨⟨v, rfl⟩, hb2, hu2⟩
    gi_wp2
    refine ⟨KeepsFrom.of_grownBy hu2.gr (fun j e => by cases e; omega), hu2.gr.block 0 (by have := HI.out.gr.size; omega) (by simp; exact fun e => HB0.out e.symm), ?_⟩
    have hI := HI.out
    have hne : b ≠ w.heap.size + 1 + 1 := by omega
    have hne2 : b ≠ w.heap.size := by omega
    have e3 := hu2.gr.block w.heap.size (cell_lt hI.box) (by simp; omega)
    refine ⟨hI.ways.putB hx hu2 hb2 (fun p => ?_), by rw [World.cell?_of_block (a := ⟨w.heap.size, 0, none⟩) e3]; exact hI.box, hI.fst.other hu2 hne hI.fst.lt, grown_trans hI.gr hu2.gr⟩
    funext q
    by_cases hpx : p = x
    · subst hpx
      simp [lkd]
      cases S.bh p q <;> simp
    · simp [lkd, hpx]
  case done =>
    rintro D ys W hD hys hI hK
    have HI : Hid (LkI w b w.heap.size (w.heap.size + 1 + 1) S f l ys W) := hI
    have HYS : Hid (ys.map Subtype.val = els l) := hys
    clear hI d3 d5 d6 hw0 hI0 hD0 hys
    gi_wp2
    refine ⟨by simp, .inl ⟨_, _, rfl, run_takeDeferred hK, ?_⟩⟩
    have hg := grownBy_putObj' W D (.deferred none)
    have hI := HI.out
    refine ⟨_, results_none rfl _ _ _, ⟨_, rfl⟩, ?_, grown_row hI.gr hg (fun r e => by cases e; omega)⟩
    have hw := hI.ways.same (W' := W.putObj D (.deferred none)) (hg.block b (by have := hI.ways.lt; omega) (by simp; omega))
    refine ⟨hw.nl, hw.fs, hw.ls, fun p hp => ?_, hw.fr⟩
    have e : (lnk S.bh l f) p = lkd S.bh (ys.map Subtype.val) f p := by
      funext q
      unfold lnk lkd
      rw [HYS.out]
      have h1 := els_mem l p
      by_cases h2 : p ∈ els l
      · rw [(h1.1 h2).2]; simp [h2]
      · have : l p = false := by
          cases h3 : l p
          · rfl
          · exact absurd (h1.2 ⟨hp, h3⟩) h2
        rw [this]; simp [h2]
    show Bp _ b (640 + p * 2) (lnk S.bh l f p)
    rw [e]
    exact hw.bh p hp
  case stop =>
    rintro D c pre W _ _ h _
    exact h.elim
end Go.Proofs.YtkjcnnecdclgfaaDoor
