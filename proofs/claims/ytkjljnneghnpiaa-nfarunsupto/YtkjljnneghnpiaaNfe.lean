import Derived.Test.YtkjljnneghnpiaaNfx
namespace Go.Proofs.Ytkjljnneghnpiaa
open Go.RowKit Go.Shelf
attribute [local go_sem] Oper.semAt_some

theorem cell_new_l (W : World) (v : Value) (t : TypeId) : (W.alloc (.cells #[v] t)).cell? ⟨W.heap.size, 0, none⟩ = some v ∧ (W.alloc (.cells #[v] t)).frozen? ⟨W.heap.size, 0, none⟩ = false :=
  ⟨by rw [World.cell?_alloc_at _ _ _ _ (by simp)]; rfl, fr_up (Below.refl _ _) 0⟩
theorem frozen_alloc_l {W : World} {a : Addr} {v : Value} (o : Obj) (h : W.cell? a = some v) (hf : W.frozen? a = false) : (W.alloc o).frozen? a = false := (frozen_kept h (World.grownBy_alloc W o none) (fun r e => by cases e)).trans hf
theorem next_stops {B b bm bq q n : Nat} {N : Mc} (hs : Small N) (hq : q < N.on.length) (w : World) (hm : Mac B w b N) (hB : B ≤ w.heap.size)
    (hbm : w.cell? ⟨bm, 0, none⟩ = some (.pointer (some ⟨b, 0, none⟩))) (hbq : w.cell? ⟨bq, 0, none⟩ = some (.int .i64 (q : Int))) :
    SeqStopsK Fence.wide n Try.prog 56 #[.pointer (some ⟨bm, 0, none⟩), .pointer (some ⟨bq, 0, none⟩)] (fun x : Fin N.on.length => #[Value.int .i64 (x.val : Int)]) (Kept B bm bq) (fun ys => ys = N.nx q) (fun pre => pre <+: N.nx q) (N.nx q).length w :=
  fun _ J Jx W hW hJ _ hY h0 => next1_in hs hq J Jx W (Nat.le_trans hB hW.size) hJ hY (hm.mono (hW.mono hB) (Nat.le_refl _)) (below_cell hW hbm) (below_cell hW hbq) h0
theorem kept_b {B bm bq : Nat} {w : World} (hB : B ≤ w.heap.size) (hm : bm < w.heap.size) (hq : bq < w.heap.size) (W : World) (l : Nat) (o o' : Obj) (hl : w.heap.size ≤ l) (h : W.heap[l]? = some o) (h1 : o.isCells = false) (h2 : o.isWalk = false) : Kept B bm bq W (W.putObj l o') := by
  have hg := grownBy_putObj' W l o'
  have hlt : l < W.heap.size := (Array.getElem?_eq_some_iff.1 h).1
  exact ⟨belowK_b hB W l o o' hl h h1 h2, World.cell?_of_block (hg.block bm (by omega) (fun e => by cases e; omega)), World.cell?_of_block (hg.block bq (by omega) (fun e => by cases e; omega))⟩
/-- A row of truths in a block. -/
structure Bls (W : World) (g n : Nat) (L : Nat → Bool) : Prop where
  c : ∀ i, i < n → W.cell? ⟨g, i, none⟩ = some (.bool (L i))
theorem Bls.mono {W W' : World} {g n : Nat} {L : Nat → Bool} (h : Bls W g n L) (hb : Below W.heap.size W W') : Bls W' g n L := ⟨fun i hi => below_cell hb (h.c i hi)⟩

set_option maxRecDepth 100000 in
set_option maxHeartbeats 4000000 in
theorem meets_any {B b g q : Nat} {N : Mc} {L : Nat → Bool} (hs : Small N) (hq : q < N.on.length) (w : World) (hm : Mac B w b N) (hB : B ≤ w.heap.size) (hL : Bls w g N.on.length L) :
    Calls Try.prog 49 #[.pointer (some ⟨b, 0, none⟩), .int .i64 (q : Int), .slice (some ⟨g, 0, none⟩) N.on.length N.on.length] w fun e w' => e = .returned (.bool ((N.nx q).any fun t => L t.val)) ∧ Below w.heap.size w w' := by
  refine (callsIn_wide (n := 3)).1 ?_
  refine callsIn_of_wp_marks Try.func49 rfl trivial ?_ rfl
  simp only [Try.ntmps49, List.size_toArray, List.length_cons, List.length_nil, Nat.reduceAdd, Nat.reduceSub, Array.replicate_succ, Array.replicate_zero, List.push_toArray, List.append_toArray, List.nil_append, List.cons_append]
  have HS : Hid (Small N) := hs
  have HM : Hid (Mac B w b N) := hm
  have HBW : Hid (B ≤ w.heap.size) := hB
  have HQ : Hid (q < N.on.length) := hq
  have HL : Hid (Bls w g N.on.length L) := hL
  clear hs hm hB hL hq
  gi_wp2

  refine ⟨trivial, (callsIn_wide.2 (next_any b q _)).mono ?_⟩
  rintro e w1 ⟨rfl, rfl⟩
  gi_wp2
  have c0 := cell_new_l w (.slice (some ⟨g, 0, none⟩) N.on.length N.on.length) 42
  have c1 := cell_new_l (w.alloc (.cells #[.slice (some ⟨g, 0, none⟩) N.on.length N.on.length] 42)) (.bool false) 4
  have c2 := cell_new_l ((w.alloc (.cells #[.slice (some ⟨g, 0, none⟩) N.on.length N.on.length] 42)).alloc (.cells #[.bool false] 4)) (.pointer (some ⟨b, 0, none⟩)) 51
  have c3 := cell_new_l (((w.alloc (.cells #[.slice (some ⟨g, 0, none⟩) N.on.length N.on.length] 42)).alloc (.cells #[.bool false] 4)).alloc (.cells #[.pointer (some ⟨b, 0, none⟩)] 51)) (.int .i64 (q : Int)) 3
  simp only [World.size_alloc] at c1 c2 c3
  obtain ⟨W0, hW0⟩ : ∃ W0, W0 = (((w.alloc (.cells #[.slice (some ⟨g, 0, none⟩) N.on.length N.on.length] 42)).alloc (.cells #[.bool false] 4)).alloc (.cells #[.pointer (some ⟨b, 0, none⟩)] 51)).alloc (.cells #[.int .i64 (q : Int)] 3) := ⟨_, rfl⟩
  have hB0 : Below w.heap.size w W0 := by rw [hW0]; exact below_trans (below_trans (below_trans (bel_up _ _) (bel_up _ _)) (bel_up _ _)) (bel_up _ _)
  have hsz : W0.heap.size = w.heap.size + 4 := by rw [hW0]; simp
  have d0 : W0.cell? ⟨w.heap.size, 0, none⟩ = some (.slice (some ⟨g, 0, none⟩) N.on.length N.on.length) := by rw [hW0]; exact cell_up _ (cell_up _ (cell_up _ c0.1))
  have d1 : W0.cell? ⟨w.heap.size + 1, 0, none⟩ = some (.bool false) := by rw [hW0]; exact cell_up _ (cell_up _ c1.1)
  have f1 : W0.frozen? ⟨w.heap.size + 1, 0, none⟩ = false := by
    rw [hW0]; exact frozen_alloc_l _ (cell_up _ c1.1) (frozen_alloc_l _ c1.1 c1.2)
  have d2 : W0.cell? ⟨w.heap.size + 1 + 1, 0, none⟩ = some (.pointer (some ⟨b, 0, none⟩)) := by rw [hW0]; exact cell_up _ c2.1
  have d3 : W0.cell? ⟨w.heap.size + 1 + 1 + 1, 0, none⟩ = some (.int .i64 (q : Int)) := by rw [hW0]; exact c3.1
  rw [← hW0]
  clear c0 c1 c2 c3 hW0
  have hm0 : Mac B W0 b N := HM.out.mono (hB0.mono HBW.out) (Nat.le_refl _)
  refine wpIn_rangeFunc_ownF rfl (by decide) (gf := 56) (lb := #[.pointer (some ⟨w.heap.size + 1 + 1, 0, none⟩), .pointer (some ⟨w.heap.size + 1 + 1 + 1, 0, none⟩)]) rfl trivial (enters_of Try.func56 (by kernel_rfl) rfl)
    (next_stops (n := 3 - 1) HS.out HQ.out W0 hm0 (by have := HBW.out; omega) d2 d3) Kept.trans (kept_b (by have := HBW.out; omega) (by omega) (by omega)) (Below.refl _ _) (fun _ => rfl)
    (fun pre W => ((∀ y ∈ pre, L y.val = false) ∧ W.cell? ⟨w.heap.size, 0, none⟩ = some (.slice (some ⟨g, 0, none⟩) N.on.length N.on.length) ∧ W.cell? ⟨w.heap.size + 1, 0, none⟩ = some (.bool false) ∧ W.frozen? ⟨w.heap.size + 1, 0, none⟩ = false) ∧ Below w.heap.size w W)
    (fun c pre W => (c = .ret ∧ (∃ y ∈ pre, L y.val = true) ∧ W.cell? ⟨w.heap.size + 1, 0, none⟩ = some (.bool true)) ∧ Below w.heap.size w W)
    (OwnFrom.and (Own.from (fun s A B row hs hg hr => ⟨hs.1, cell_kept hs.2.1 hg hr, cell_kept hs.2.2.1 hg hr, (frozen_kept hs.2.2.1 hg hr).trans hs.2.2.2⟩) _) (ownFrom_below (Nat.le_refl _) (by omega)))
    (fun c => OwnFrom.and (Own.from (fun s A B row hs hg hr => ⟨hs.1, hs.2.1, cell_kept hs.2.2 hg hr⟩) _) (ownFrom_below (Nat.le_refl _) (by omega)))
    ⟨⟨by simp, d0, d1, f1⟩, hB0⟩
    (fun x => { tmps := #[.pointer (some ⟨b, 0, none⟩), .int .i64 (q : Int), .slice (some ⟨g, 0, none⟩) N.on.length N.on.length, undef, undef, .pointer (some ⟨w.heap.size, 0, none⟩), .pointer (some ⟨w.heap.size + 1, 0, none⟩), .int .i64 (x.val : Int), .pointer (some ⟨b, 0, none⟩), .int .i64 (q : Int), .func (.func 56) #[] #[.pointer (some ⟨w.heap.size + 1 + 1, 0, none⟩), .pointer (some ⟨w.heap.size + 1 + 1 + 1, 0, none⟩)], .int .i64 (x.val : Int), undef, undef, undef, undef], defers := [] }) ?assign ?body ?done ?stop
  case assign =>
    intro l x W K hK
    gi_wp2
    exact hK
  case body =>
    rintro l pre x W ⟨⟨hp, hcw, hcr, hfr⟩, hBB⟩ _
    have hx := x.isLt
    have hcx : W.cell? ⟨g, x.val, none⟩ = some (.bool (L x.val)) := below_cell hBB (HL.out.c x.val hx)
    have HP : Hid (∀ y ∈ pre, L y.val = false) := hp
    have HBB : Hid (Below w.heap.size w W) := hBB
    clear hp hBB d0 d1 d2 d3 f1 hm0
    cases hLx : L x.val
    · rw [hLx] at hcx
      gi_wp2
      exact ⟨KeepsOthers.refl _, ⟨Below.refl _ _, rfl, rfl⟩, ⟨fun y hy => (List.mem_append.1 hy).elim (HP.out y) (fun e => by simp at e; subst e; exact hLx), hcw, hcr, hfr⟩, HBB.out⟩
    · rw [hLx] at hcx
      gi_wp2
      exact ⟨KeepsOthers.setCell _ _ _, ⟨rfl, ⟨x, List.mem_append.2 (.inr (by simp)), hLx⟩, World.cell?_setCell_same' _ _ _ (by rw [hcr]; rfl)⟩, HBB.out.setCell (p := ⟨w.heap.size + 1, 0, none⟩) (by simp) _⟩
  case done =>
    rintro D ys W hD rfl ⟨⟨hne, _, hcr, hfr⟩, hBB⟩ hK
    have HBB : Hid (Below w.heap.size w W) := hBB
    have HNE : Hid (∀ y ∈ N.nx q, L y.val = false) := hne
    clear hBB hne d0 d1 d2 d3 f1 hm0
    gi_wp2
    have hK' := (KeepsOthers.setCell W ⟨w.heap.size + 1, 0, none⟩ (.bool false)).same D _ hK rfl
    refine ⟨by simp, .inl ⟨_, _, rfl, run_takeDeferred hK', ?_⟩⟩
    have hc5 := cell_kept (World.cell?_setCell_same' W ⟨w.heap.size + 1, 0, none⟩ (.bool false) (by rw [hcr]; rfl)) (grownBy_putObj' _ D (.deferred none)) (fun r e => by cases e; exact ⟨_, hK', rfl⟩)
    have hn : ((N.nx q).any fun t => L t.val) = false := by
      rw [List.any_eq_false]; intro y hy; rw [HNE.out y hy]; simp
    refine ⟨.bool false, ?_, by rw [hn], (HBB.out.setCell (p := ⟨w.heap.size + 1, 0, none⟩) (by simp) _).trans (belowK_b (w := w) (Nat.le_refl _) _ D _ _ (by omega) hK' rfl rfl)⟩
    simp [results, Try.f49, go_sem, hc5]
  case stop =>
    rintro D c pre W hD hpre ⟨⟨rfl, hin, hcr⟩, hBB⟩ hK
    have HBB : Hid (Below w.heap.size w W) := hBB
    clear hBB d0 d1 d2 d3 f1 hm0
    gi_wp2
    refine ⟨by simp, .inl ⟨_, _, rfl, run_takeDeferred hK, ?_⟩⟩
    have hc5 := cell_kept hcr (grownBy_putObj' _ D (.deferred none)) (fun r e => by cases e; exact ⟨_, hK, rfl⟩)
    have hn : ((N.nx q).any fun t => L t.val) = true := by
      obtain ⟨y, hy, h⟩ := hin
      rw [List.any_eq_true]; exact ⟨y, hpre.subset hy, h⟩
    refine ⟨.bool true, ?_, by rw [hn], HBB.out.trans (belowK_b (w := w) (Nat.le_refl _) W D _ _ (by omega) hK rfl rfl)⟩
    simp [results, Try.f49, go_sem, hc5]
end Go.Proofs.Ytkjljnneghnpiaa
