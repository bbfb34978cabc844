import Derived.Test.YtkjljnneghnpiaaNya
namespace Go.Proofs.Ytkjljnneghnpiaa
open Go.RowKit

theorem le_sum {x : Nat} : ∀ {l : List Nat}, x ∈ l → x ≤ l.sum
  | y :: l, h => by
    rw [List.sum_cons]
    rcases List.mem_cons.1 h with rfl | h
    · omega
    · have := le_sum h; omega
/-- A machine as a value. -/
@[reducible] def nfW (vo vt vf : Value) (N : Mc) : Value := .agg #[vo, vt, vf, .int .i64 N.start, .int .i64 N.fin]
theorem Parts.shapes {B : Nat} {W : World} {vo vt vf : Value} {N : Mc} (h : Parts B W vo vt vf N) : ∃ a1 c1 a2 c2 a3 c3, vo = .slice a1 N.on.length c1 ∧ vt = .slice a2 N.tos.length c2 ∧ vf = .slice a3 N.free.length c3 := by
  obtain ⟨a1, _, _, c1, e1, _⟩ := h.on
  obtain ⟨a2, _, _, c2, e2, _⟩ := h.tos
  obtain ⟨a3, _, _, c3, e3, _⟩ := h.fr
  exact ⟨a1, c1, a2, c2, a3, c3, e1, e2, e3⟩

set_option maxRecDepth 100000 in
set_option maxHeartbeats 2000000 in
theorem ris_any {B : Nat} {vo vt vf : Value} {N : Mc} (q : Int) (w : World) (hp : Parts B w vo vt vf N) : Calls Try.prog 34 #[nfW vo vt vf N, .int .i64 q] w fun e w' => e = .returned (.bool (N.isS q)) ∧ Below w.heap.size w w' := by
  obtain ⟨a1, c1, a2, c2, a3, c3, rfl, rfl, rfl⟩ := hp.shapes
  unfold Mc.isS
  clear hp
  by_cases c0 : 0 ≤ q
  · have d0 : decide (0 ≤ q) = true := by simpa using c0
    rw [d0]
    go_enter Try.func34, Try.ntmps34
    go_wp2_with fail
    go_ret
    exact ⟨rfl, bel_up _ _⟩
  · have d0 : decide (0 ≤ q) = false := by simpa using c0
    rw [d0]
    go_enter Try.func34, Try.ntmps34
    go_wp2_with fail
    go_ret
    exact ⟨rfl, bel_up _ _⟩

set_option maxRecDepth 100000 in
set_option maxHeartbeats 2000000 in
theorem rfree_any {vo vt vf : Value} {N : Mc} (hs : Small N) (p : Nat) (q : Int) (w : World) (hp : Parts w.heap.size w vo vt vf N) :
    Calls Try.prog 48 #[nfW vo vt vf N, .int .i64 (p : Int), .int .i64 q] w fun e w' => e = .returned (.bool (decide (q ∈ N.frees p))) ∧ Below w.heap.size w w' := by
  obtain ⟨a1, c1, a2, c2, a3, c3, rfl, rfl, rfl⟩ := hp.shapes
  by_cases k : p < N.free.length
  · obtain ⟨a, g, o, cap, ea, ha, hc⟩ := hp.fr
    obtain ⟨rfl, -, rfl⟩ := Value.slice.inj ea
    obtain ⟨ea3, hg⟩ := ha (by rintro e; rw [e] at k; cases k)
    subst ea3
    obtain ⟨u, hu, hi⟩ := hc p k
    have efr : N.free.getD p [] = N.frees p := rfl
    rw [efr] at hi
    obtain ⟨ra, rg, ro, rcap, rfl, hra, hrc⟩ := hi
    have hlen : (N.frees p).length ≤ 1048576 := by
      have h1 := hs.sum
      have h2 : (N.frees p).length ∈ N.free.map List.length := by
        unfold Mc.frees
        rw [List.getD_eq_getElem?_getD, List.getElem?_eq_getElem k]
        exact List.mem_map.2 ⟨_, List.getElem_mem k, rfl⟩
      have h3 := le_sum h2
      omega
    obtain ⟨W1, hW1⟩ : ∃ W1, W1 = w.alloc (.cells #[.slice a1 N.on.length c1, .slice a2 N.tos.length c2, .slice (some ⟨g, o, none⟩) N.free.length c3, .int .i64 N.start, .int .i64 N.fin] 26) := ⟨_, rfl⟩
    have hh1 : W1.heap[w.heap.size]? = some (.cells #[.slice a1 N.on.length c1, .slice a2 N.tos.length c2, .slice (some ⟨g, o, none⟩) N.free.length c3, .int .i64 N.start, .int .i64 N.fin] 26 (0, 0)) := by rw [hW1]; exact World.alloc_heap_new w _
    have b2 : W1.cell? ⟨w.heap.size, 2, none⟩ = some (.slice (some ⟨g, o, none⟩) N.free.length c3) := by rw [Lib.cell_of_heap hh1]; rfl
    have r2 : W1.cell? ⟨g, o + p, none⟩ = some (.slice ra (N.frees p).length rcap) := by rw [hW1]; exact cell_up _ hu
    have HRC : Hid (∀ i, i < (N.frees p).length → W1.cell? ⟨rg, ro + i, none⟩ = some (.int .i64 ((N.frees p).getD i 0))) := fun i hi => by rw [hW1]; exact cell_up _ (hrc i hi)
    have HRA : Hid ((N.frees p) ≠ [] → ra = some ⟨rg, ro, none⟩ ∧ rg < w.heap.size) := hra
    have HW : Hid (W1 = w.alloc (.cells #[.slice a1 N.on.length c1, .slice a2 N.tos.length c2, .slice (some ⟨g, o, none⟩) N.free.length c3, .int .i64 N.start, .int .i64 N.fin] 26)) := hW1
    have HB : Hid (Below w.heap.size w W1) := by rw [hW1]; exact bel_up _ _
    have HL : Hid ((N.frees p).length ≤ 1048576) := hlen
    have d1 : decide ((N.free.length : Int) ≤ (p : Int)) = false := by rw [decide_eq_false_iff_not]; omega
    have d2 : decide (N.free.length ≤ p) = false := by rw [decide_eq_false_iff_not]; omega
    have d3 : decide ((p : Int) < (N.free.length : Int)) = true := by rw [decide_eq_true_eq]; omega
    obtain ⟨L, hL⟩ : ∃ L, N.frees p = L := ⟨_, rfl⟩
    rw [hL] at r2 HRC HRA HL ⊢
    clear hp hs hc ha hg hu hra hrc hlen hh1 efr hL hW1
    go_enter Try.func48, Try.ntmps48
    go_upto_region 1 with fail
    rw [← HW.out]
    go_wp2_with fail
    go_loopg [7] L.length (fun gm iv wr => ∃ i : Nat, iv = .int .i64 (i : Int) ∧ wr = W1 ∧ Hid (i ≤ L.length ∧ gm = L.length - i) ∧ Hid (∀ j, j < i → L.getD j 0 ≠ q))
    case atStart => exact ⟨0, rfl, rfl, ⟨Nat.zero_le _, rfl⟩, fun j hj => by omega⟩
    case round =>
      obtain ⟨i, rfl, rfl, HI, HN⟩ := hrel
      by_cases hi : i < L.length
      · obtain ⟨rfl, _⟩ := HRA.out (by intro e; rw [e] at hi; cases hi)
        have e1 : decide ((i : Int) < (L.length : Int)) = true := by rw [decide_eq_true_eq]; omega
        have e2 : decide (i < L.length) = true := by rw [decide_eq_true_eq]; omega
        have ci := HRC.out i hi
        have HIL : Hid (i < L.length) := hi
        have hwr : IntKind.i64.wrap ((i : Int) + 1) = ((i + 1 : Nat) : Int) := by rw [IntKind.wrap_i64]; have := HL.out; omega
        clear hi
        obtain ⟨x, hx⟩ : ∃ x, L.getD i 0 = x := ⟨_, rfl⟩
        have HX : Hid (L.getD i 0 = x) := hx
        rw [hx] at ci
        clear hx
        by_cases hq : x = q
        · have hq1 : (x == q) = true := by rw [beq_iff_eq]; exact hq
          have HQ : Hid (x = q) := hq
          clear hq
          go_wp2_with fail
          go_ret
          refine ⟨?_, HB.out⟩
          have : decide (q ∈ L) = true := by
            rw [decide_eq_true_eq, ← HQ.out, ← HX.out, List.getD_eq_getElem?_getD, List.getElem?_eq_getElem HIL.out]
            exact List.getElem_mem _
          rw [this]; rfl
        · have hq1 : (x == q) = false := by rw [beq_eq_false_iff_ne]; exact hq
          have HQ : Hid (x ≠ q) := hq
          clear hq
          go_wp2_with fail
          go_roundg (L.length - (i + 1))
          case measure => have := HI.out; have := HIL.out; omega
          case rel => exact ⟨i + 1, by first | rfl | (rw [show (i : Int) + 1 = ((i + 1 : Nat) : Int) by omega]), rfl, ⟨HIL.out, rfl⟩, fun j hj => (by omega : j < i ∨ j = i).elim (HN.out j) (fun e => by rw [e, HX.out]; exact HQ.out)⟩
      · have e1 : decide ((i : Int) < (L.length : Int)) = false := by rw [decide_eq_false_iff_not]; omega
        have e2 : decide (i < L.length) = false := by rw [decide_eq_false_iff_not]; omega
        have HIL : Hid (i = L.length) := by have := HI.out; show i = L.length; omega
        clear hi
        go_wp2_with fail
        go_ret
        refine ⟨?_, HB.out⟩
        have : decide (q ∈ L) = false := by
          rw [decide_eq_false_iff_not]
          intro hm
          obtain ⟨j, hj, e⟩ := List.mem_iff_getElem.1 hm
          refine HN.out j (by rw [HIL.out]; exact hj) ?_
          rw [List.getD_eq_getElem?_getD, List.getElem?_eq_getElem hj]
          exact e
        rw [this]; rfl
  · have d1 : decide ((N.free.length : Int) ≤ (p : Int)) = true := by rw [decide_eq_true_eq]; omega
    have d2 : decide (N.free.length ≤ p) = true := by rw [decide_eq_true_eq]; omega
    have e : N.frees p = [] := by unfold Mc.frees; rw [List.getD_eq_getElem?_getD, List.getElem?_eq_none (by omega)]; rfl
    rw [e]
    clear hp k e
    go_enter Try.func48, Try.ntmps48
    go_wp2_with fail
    go_ret
    exact ⟨by simp, bel_up _ _⟩

set_option maxRecDepth 100000 in
set_option maxHeartbeats 2000000 in
theorem rsome_any {vo vt vf : Value} {N : Mc} (p : Nat) (hpn : p < N.on.length) (w : World) (hp : Parts w.heap.size w vo vt vf N) :
    Calls Try.prog 36 #[nfW vo vt vf N, .int .i64 (p : Int)] w fun e w' => e = .returned (.bool (Mc.some_ (N.cls p))) ∧ Below w.heap.size w w' := by
  obtain ⟨a1, c1, a2, c2, a3, c3, rfl, rfl, rfl⟩ := hp.shapes
  obtain ⟨a, g, o, cap, ea, ha, hc⟩ := hp.on
  obtain ⟨rfl, -, rfl⟩ := Value.slice.inj ea
  obtain ⟨ea3, hg⟩ := ha (by rintro e; rw [e] at hpn; cases hpn)
  subst ea3
  have q0 : ∀ x, (w.alloc x).cell? ⟨g, o + p * 4, none⟩ = some (.int .u64 (wd (N.cls p) 0 : Nat)) := fun x => cell_up x (hc p hpn 0 (by omega))
  have q1 : ∀ x, (w.alloc x).cell? ⟨g, o + p * 4 + 1, none⟩ = some (.int .u64 (wd (N.cls p) 1 : Nat)) := fun x => cell_up x (hc p hpn 1 (by omega))
  have q2 : ∀ x, (w.alloc x).cell? ⟨g, o + p * 4 + 2, none⟩ = some (.int .u64 (wd (N.cls p) 2 : Nat)) := fun x => cell_up x (hc p hpn 2 (by omega))
  have q3 : ∀ x, (w.alloc x).cell? ⟨g, o + p * 4 + 3, none⟩ = some (.int .u64 (wd (N.cls p) 3 : Nat)) := fun x => cell_up x (hc p hpn 3 (by omega))
  have d3 : decide ((p : Int) < (N.on.length : Int)) = true := by rw [decide_eq_true_eq]; omega
  have hsw := some_wd (N.cls p)
  have HSW : Hid _ := hsw
  clear hp hc ha hg ea hsw
  obtain ⟨x0, hx0⟩ : ∃ x, wd (N.cls p) 0 = x := ⟨_, rfl⟩
  obtain ⟨x1, hx1⟩ : ∃ x, wd (N.cls p) 1 = x := ⟨_, rfl⟩
  obtain ⟨x2, hx2⟩ : ∃ x, wd (N.cls p) 2 = x := ⟨_, rfl⟩
  obtain ⟨x3, hx3⟩ : ∃ x, wd (N.cls p) 3 = x := ⟨_, rfl⟩
  rw [hx0] at q0 HSW
  rw [hx1] at q1 HSW
  rw [hx2] at q2 HSW
  rw [hx3] at q3 HSW
  clear hx0 hx1 hx2 hx3
  have hr : Mc.some_ (N.cls p) = (!(x0 == 0) || (!(x1 == 0) || (!(x2 == 0) || !(x3 == 0)))) := by
    have h := HSW.out
    cases hs : Mc.some_ (N.cls p) <;> rw [hs] at h <;> simp at h <;> simp [h]
    · by_cases e0 : x0 = 0 <;> by_cases e1 : x1 = 0 <;> by_cases e2 : x2 = 0 <;> simp_all
  rw [hr]
  clear hr HSW
  by_cases e0 : x0 = 0
  · subst e0
    by_cases e1 : x1 = 0
    · subst e1
      by_cases e2 : x2 = 0
      · subst e2
        have h3 : ((x3 : Int) != 0) = !(x3 == 0) := by cases x3 <;> simp [bne]; omega
        go_enter Try.func36, Try.ntmps36
        go_wp2_with fail
        go_ret
        exact ⟨by simp, bel_up _ _⟩
      · have f2 : ((x2 : Int) == 0) = false := by rw [beq_eq_false_iff_ne]; omega
        go_enter Try.func36, Try.ntmps36
        go_wp2_with fail
        go_ret
        exact ⟨by simp [e2], bel_up _ _⟩
    · have f1 : ((x1 : Int) == 0) = false := by rw [beq_eq_false_iff_ne]; omega
      go_enter Try.func36, Try.ntmps36
      go_wp2_with fail
      go_ret
      exact ⟨by simp [e1], bel_up _ _⟩
  · have f0 : ((x0 : Int) == 0) = false := by rw [beq_eq_false_iff_ne]; omega
    go_enter Try.func36, Try.ntmps36
    go_wp2_with fail
    go_ret
    exact ⟨by simp [e0], bel_up _ _⟩
end Go.Proofs.Ytkjljnneghnpiaa
