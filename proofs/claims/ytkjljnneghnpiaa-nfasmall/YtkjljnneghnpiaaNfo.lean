import Derived.Test.YtkjljnneghnpiaaNfm
namespace Go.Proofs.Ytkjljnneghnpiaa
open Go.RowKit
def Mc.onc (N : Mc) (q : Nat) : Nat → Bool := if (N.toOf q).isSome then N.cls q else fun _ => false
def Mc.ont (N : Mc) (q : Nat) : Int := match N.toOf q with | some t => (t : Int) | none => -1
theorem toOf_yes {N : Mc} {q : Nat} (h1 : q < N.tos.length) (h2 : N.isS (N.tos.getD q 0) = true) (h3 : Mc.some_ (N.cls q) = true) : N.onc q = N.cls q ∧ N.ont q = N.tos.getD q 0 := by
  have e : N.toOf q = some (N.tos.getD q 0).toNat := by unfold Mc.toOf; rw [if_pos ⟨h1, h2, h3⟩]
  refine ⟨by unfold Mc.onc; rw [e]; rfl, ?_⟩
  unfold Mc.ont; rw [e]
  simp [Mc.isS] at h2
  show ((N.tos.getD q 0).toNat : Int) = _
  simp only [List.getD_eq_getElem?_getD]
  omega
theorem toOf_no {N : Mc} {q : Nat} (h : ¬ (q < N.tos.length ∧ N.isS (N.tos.getD q 0) = true ∧ Mc.some_ (N.cls q) = true)) : N.onc q = (fun _ => false) ∧ N.ont q = -1 := by
  have e : N.toOf q = none := by unfold Mc.toOf; rw [if_neg h]
  exact ⟨by unfold Mc.onc; rw [e]; rfl, by unfold Mc.ont; rw [e]⟩
theorem cls_at {N : Mc} {q : Nat} : N.cls q = N.on.getD q (fun _ => false) := rfl

set_option maxRecDepth 100000 in
set_option maxHeartbeats 4000000 in
theorem onb_any {B b : Nat} {N : Mc} (hs : Small N) (q : Nat) (hq : q < N.on.length) (w : World) (hm : Mac B w b N) (hB : B ≤ w.heap.size) :
    Calls Try.prog 42 #[.pointer (some ⟨b, 0, none⟩), .int .i64 (q : Int)] w fun e w' => e = .returned (.tuple #[CV (N.onc q), .int .i64 (N.ont q)]) ∧ Below w.heap.size w w' := by
  obtain ⟨vo, vt, vf, hp, h0, h1, h2⟩ := hm.parts
  obtain ⟨a, g, o, cap, rfl, ha, hc⟩ := hp.on
  obtain ⟨ta, tg, to', tcap, rfl, hta, htc⟩ := hp.tos
  obtain ⟨rfl, hg⟩ := ha (by rintro e; rw [e] at hq; cases hq)
  have h0' : ∀ x, (w.alloc x).cell? ⟨b, 0, none⟩ = some (.slice (some ⟨g, o, none⟩) N.on.length cap) := fun x => cell_up x h0
  have h1' : ∀ x, (w.alloc x).cell? ⟨b, 1, none⟩ = some (.slice ta N.tos.length tcap) := fun x => cell_up x h1
  have c0 : ∀ x, (w.alloc x).cell? ⟨g, o + q * 4, none⟩ = some (.int .u64 (wd (N.cls q) 0 : Nat)) := fun x => cell_up x (hc q hq 0 (by omega))
  have c1 : ∀ x, (w.alloc x).cell? ⟨g, o + q * 4 + 1, none⟩ = some (.int .u64 (wd (N.cls q) 1 : Nat)) := fun x => cell_up x (hc q hq 1 (by omega))
  have c2 : ∀ x, (w.alloc x).cell? ⟨g, o + q * 4 + 2, none⟩ = some (.int .u64 (wd (N.cls q) 2 : Nat)) := fun x => cell_up x (hc q hq 2 (by omega))
  have c3 : ∀ x, (w.alloc x).cell? ⟨g, o + q * 4 + 3, none⟩ = some (.int .u64 (wd (N.cls q) 3 : Nat)) := fun x => cell_up x (hc q hq 3 (by omega))
  have hne := cv_neq (N.cls q)
  have HM : Hid _ := hm
  have HB : Hid _ := hB
  have HS : Hid _ := hs
  have HC : Hid _ := hc
  have HP : Hid _ := hp
  have HTC : Hid _ := htc
  clear hs hc hp htc hm hB h0 h1 h2 ha
  by_cases k1 : q < N.tos.length
  · obtain ⟨rfl, htg⟩ := hta (by rintro e; rw [e] at k1; cases k1)
    have d1 : decide ((q : Int) < (N.tos.length : Int)) = true := by rw [decide_eq_true_eq]; omega
    have t1 : ∀ x, (w.alloc x).cell? ⟨tg, to' + q, none⟩ = some (.int .i64 (N.tos.getD q 0)) := fun x => cell_up x (HTC.out q k1)
    obtain ⟨tv, htv⟩ : ∃ tv, N.tos.getD q 0 = tv := ⟨_, rfl⟩
    rw [htv] at t1
    cases k2 : N.isS tv
    · obtain ⟨r1, r2⟩ := toOf_no (N := N) (q := q) (fun h => by rw [htv, k2] at h; cases h.2.1)
      rw [r1, r2, cv_zero]
      have K2 : Hid (N.isS tv = false) := k2
      clear k2 r1 r2
      go_enter Try.func42, Try.ntmps42
      go_wp2_with fail
      refine (mhas_any tv _ (HM.out.mono ((bel_up _ _).mono HB.out) (Nat.le_refl _))).mono ?_
      rintro e w1 ⟨rfl, rfl⟩
      rw [K2.out]
      go_wp2_with fail
      refine bodyPost_ret (v := .tuple #[.agg #[.int .u64 0, .int .u64 0, .int .u64 0, .int .u64 0], .int .i64 (-1)]) ?_ rfl ⟨rfl, ?_⟩
      · rw [results_cell_tmp rfl]; go_simp
      · exact bel_up _ _
    · cases k3 : Mc.some_ (N.cls q)
      · obtain ⟨r1, r2⟩ := toOf_no (N := N) (q := q) (fun h => by rw [k3] at h; cases h.2.2)
        rw [r1, r2, cv_zero]
        rw [k3] at hne
        have K2 : Hid (N.isS tv = true) := k2
        clear k2 r1 r2 k3
        go_enter Try.func42, Try.ntmps42
        go_wp2_with fail
        refine (mhas_any tv _ (HM.out.mono ((bel_up _ _).mono HB.out) (Nat.le_refl _))).mono ?_
        rintro e w1 ⟨rfl, rfl⟩
        rw [K2.out]
        go_wp2_with fail
        refine bodyPost_ret (v := .tuple #[.agg #[.int .u64 0, .int .u64 0, .int .u64 0, .int .u64 0], .int .i64 (-1)]) ?_ rfl ⟨rfl, ?_⟩
        · rw [results_cell_tmp rfl]; go_simp
        · exact bel_up _ _
      · obtain ⟨r1, r2⟩ := toOf_yes (N := N) (q := q) k1 (by rw [htv]; exact k2) k3
        rw [htv] at r2
        rw [r1, r2]
        rw [k3] at hne
        have K2 : Hid (N.isS tv = true) := k2
        clear k2 r1 r2 k3
        go_enter Try.func42, Try.ntmps42
        go_wp2_with fail
        refine (mhas_any tv _ (HM.out.mono ((bel_up _ _).mono HB.out) (Nat.le_refl _))).mono ?_
        rintro e w1 ⟨rfl, rfl⟩
        rw [K2.out]
        go_wp2_with fail
        go_region
        go_wp2_with fail
        refine bodyPost_ret (v := .tuple #[CV (N.cls q), .int .i64 tv]) ?_ rfl ⟨rfl, ?_⟩
        · rw [results_cell_tmp rfl]; go_simp
        · exact Below.drew (bel_up _ _)
  · obtain ⟨r1, r2⟩ := toOf_no (N := N) (q := q) (fun h => k1 h.1)
    rw [r1, r2, cv_zero]
    have d1 : decide ((q : Int) < (N.tos.length : Int)) = false := by rw [decide_eq_false_iff_not]; omega
    have d2 : decide (q < N.tos.length) = false := by rw [decide_eq_false_iff_not]; omega
    clear k1 r1 r2
    go_enter Try.func42, Try.ntmps42
    go_wp2_with fail
    refine bodyPost_ret (v := .tuple #[.agg #[.int .u64 0, .int .u64 0, .int .u64 0, .int .u64 0], .int .i64 (-1)]) ?_ rfl ⟨rfl, ?_⟩
    · rw [results_cell_tmp rfl]; go_simp
    · exact bel_up _ _

set_option maxRecDepth 100000 in
set_option maxHeartbeats 1000000 in
theorem free_any {B b : Nat} {N : Mc} (q : Nat) (w : World) (hm : Mac B w b N) :
    Calls Try.prog 52 #[.pointer (some ⟨b, 0, none⟩), .int .i64 (q : Int)] w fun e w' => (∃ v, e = .returned v ∧ Ints B w v (N.frees q)) ∧ w' = w := by
  obtain ⟨vo, vt, vf, hp, h0, h1, h2⟩ := hm.parts
  obtain ⟨a, g, o, cap, rfl, ha, hc⟩ := hp.fr
  have HM : Hid _ := hm
  have HP : Hid _ := hp
  clear hm hp h0 h1
  unfold Mc.frees
  by_cases k : q < N.free.length
  · obtain ⟨rfl, hg⟩ := ha (by rintro e; rw [e] at k; cases k)
    obtain ⟨u, hu, hi⟩ := hc q k
    have HC : Hid _ := hc
    have HI : Hid _ := hi
    have d1 : decide ((q : Int) < (N.free.length : Int)) = true := by rw [decide_eq_true_eq]; omega
    clear hc ha hi
    go_enter Try.func52, Try.ntmps52
    go_wp2_with fail
    go_ret
    exact ⟨⟨_, rfl, HI.out⟩, rfl⟩
  · have d1 : decide ((q : Int) < (N.free.length : Int)) = false := by rw [decide_eq_false_iff_not]; omega
    have e : N.free.getD q [] = [] := by rw [List.getD_eq_getElem?_getD, List.getElem?_eq_none (by omega)]; rfl
    rw [e]
    have d2 : decide (q < N.free.length) = false := by rw [decide_eq_false_iff_not]; omega
    clear hc ha k
    go_enter Try.func52, Try.ntmps52
    go_wp2_with fail
    go_ret
    exact ⟨⟨_, rfl, Ints.nil _ _⟩, rfl⟩

theorem agg_idx (x0 x1 x2 x3 : Value) (k : Nat) (v : Value) (hk : k < 4) (hv : [x0, x1, x2, x3][k]? = some v) (W : World) : (Instr.index 40 (.agg #[x0, x1, x2, x3]) (.int .i64 (k : Int))).run Try.prog W = .ok v W := by
  obtain ⟨i0, hi, hz0, hz1, hz2⟩ := info_parts info38
  have h : (0 : Int) ≤ (k : Int) ∧ (k : Int) < ((4 : Nat) : Int) := by omega
  simp [Instr.index, run_underlying Try.underlying40, asIntOf, h, sizeOf, typeInfo, hi, hz1, go_sem, part]
  rw [if_pos hk, hv]
  rfl
theorem agg4 (x0 x1 x2 x3 : Value) : (∀ W : World, (Instr.index 40 (.agg #[x0, x1, x2, x3]) (.int .i64 0)).run Try.prog W = .ok x0 W) ∧ (∀ W : World, (Instr.index 40 (.agg #[x0, x1, x2, x3]) (.int .i64 1)).run Try.prog W = .ok x1 W) ∧ (∀ W : World, (Instr.index 40 (.agg #[x0, x1, x2, x3]) (.int .i64 2)).run Try.prog W = .ok x2 W) ∧ (∀ W : World, (Instr.index 40 (.agg #[x0, x1, x2, x3]) (.int .i64 3)).run Try.prog W = .ok x3 W) :=
  ⟨fun W => agg_idx x0 x1 x2 x3 0 x0 (by omega) rfl W, fun W => agg_idx x0 x1 x2 x3 1 x1 (by omega) rfl W, fun W => agg_idx x0 x1 x2 x3 2 x2 (by omega) rfl W, fun W => agg_idx x0 x1 x2 x3 3 x3 (by omega) rfl W⟩
theorem u64_join (m m' : Nat → Bool) (i : Nat) : bits .or .u64 (wd m i : Nat) (wd m' i : Nat) = ((wd (fun k => m k || m' k) i : Nat) : Int) := by
  rw [(u64_nat _ _ (wd_lt m i) (wd_lt m' i)).2, wd_join]

set_option maxRecDepth 100000 in
set_option maxHeartbeats 2000000 in
theorem join_any (m m' : Nat → Bool) (w : World) : Calls Try.prog 53 #[CV m, CV m'] w fun e w' => e = .returned (CV fun k => m k || m' k) ∧ Below w.heap.size w w' := by
  go_enter Try.func53, Try.ntmps53
  go_wp2_with fail
  go_loopg [8] 4 (fun g v wr => ∃ k : Nat, v = .int .i64 (k : Int) ∧ k ≤ 4 ∧ g = 4 - k ∧ BoxC wr w.heap.size (fun b => if b < 64 * k then (m b || m' b) else m b) ∧ BoxC wr (w.heap.size + 2) (fun _ => false) ∧ Below w.heap.size w wr)
  case atStart =>
    refine ⟨0, rfl, by omega, rfl, ?_, ?_, ?_⟩
    · have h := ((BoxC.new w m 40).up (.cells #[.int .u64 (wd m' 0 : Nat), .int .u64 (wd m' 1 : Nat), .int .u64 (wd m' 2 : Nat), .int .u64 (wd m' 3 : Nat)] 40)).up (.cells #[.int .u64 0, .int .u64 0, .int .u64 0, .int .u64 0] 40)
      simpa using h
    · have h := BoxC.new ((w.alloc (.cells #[.int .u64 (wd m 0 : Nat), .int .u64 (wd m 1 : Nat), .int .u64 (wd m 2 : Nat), .int .u64 (wd m 3 : Nat)] 40)).alloc (.cells #[.int .u64 (wd m' 0 : Nat), .int .u64 (wd m' 1 : Nat), .int .u64 (wd m' 2 : Nat), .int .u64 (wd m' 3 : Nat)] 40)) (fun _ => false) 40
      simp only [wd_none] at h
      rw [World.size_alloc, World.size_alloc] at h
      exact h
    · exact below_trans (below_trans (bel_up _ _) (bel_up _ _)) (bel_up _ _)
  case round =>
    obtain ⟨k, rfl, hk, hg, hx, hr, hbel⟩ := hrel
    have HG : Hid _ := hg
    have HX : Hid _ := hx
    have HR : Hid _ := hr
    have HB : Hid _ := hbel
    clear hg hbel
    have put : ∀ K, K < 4 → BoxC wr w.heap.size (fun b => if b < 64 * K then (m b || m' b) else m b) → BoxC (wr.setCell ⟨w.heap.size, K, none⟩ (.int .u64 (bits .or .u64 (wd (fun b => if b < 64 * K then (m b || m' b) else m b) K : Nat) (wd m' K : Nat)))) w.heap.size (fun b => if b < 64 * (K + 1) then (m b || m' b) else m b) := by
      intro K hK hX
      rw [u64_join]
      have e : wd (fun b => (if b < 64 * K then (m b || m' b) else m b) || m' b) K = wd (fun b => if b < 64 * (K + 1) then (m b || m' b) else m b) K := wd_congr _ _ _ (fun j hj => by show ((if 64 * K + j < 64 * K then _ else _) || _) = (if 64 * K + j < 64 * (K + 1) then _ else _); rw [if_neg (by omega), if_pos (by omega)])
      rw [e]
      refine hX.put K hK (fun i hi => wd_congr _ _ _ (fun j hj => ?_))
      have : 64 * i + j < 64 * (K + 1) ↔ 64 * i + j < 64 * K := by omega
      simp only [this]
    have PUT : Hid _ := put
    clear put
    rcases (by omega : k = 0 ∨ k = 1 ∨ k = 2 ∨ k = 3 ∨ k = 4) with rfl | rfl | rfl | rfl | rfl
    · obtain ⟨a0, a1, a2, a3, af⟩ := hx
      obtain ⟨q0, q1, q2, q3⟩ := agg4 (.int .u64 (wd m' 0 : Nat)) (.int .u64 (wd m' 1 : Nat)) (.int .u64 (wd m' 2 : Nat)) (.int .u64 (wd m' 3 : Nat))
      clear hr hk
      go_wp2_with fail
      go_roundg 3
      case measure => have := HG.out; omega
      case rel => exact ⟨1, rfl, by omega, rfl, PUT.out 0 (by omega) HX.out, HR.out.aside _ _ (by simp), HB.out.setCell (Nat.le_refl _) _⟩
    · obtain ⟨a0, a1, a2, a3, af⟩ := hx
      obtain ⟨q0, q1, q2, q3⟩ := agg4 (.int .u64 (wd m' 0 : Nat)) (.int .u64 (wd m' 1 : Nat)) (.int .u64 (wd m' 2 : Nat)) (.int .u64 (wd m' 3 : Nat))
      clear hr hk
      go_wp2_with fail
      go_roundg 2
      case measure => have := HG.out; omega
      case rel => exact ⟨2, rfl, by omega, rfl, PUT.out 1 (by omega) HX.out, HR.out.aside _ _ (by simp), HB.out.setCell (Nat.le_refl _) _⟩
    · obtain ⟨a0, a1, a2, a3, af⟩ := hx
      obtain ⟨q0, q1, q2, q3⟩ := agg4 (.int .u64 (wd m' 0 : Nat)) (.int .u64 (wd m' 1 : Nat)) (.int .u64 (wd m' 2 : Nat)) (.int .u64 (wd m' 3 : Nat))
      clear hr hk
      go_wp2_with fail
      go_roundg 1
      case measure => have := HG.out; omega
      case rel => exact ⟨3, rfl, by omega, rfl, PUT.out 2 (by omega) HX.out, HR.out.aside _ _ (by simp), HB.out.setCell (Nat.le_refl _) _⟩
    · obtain ⟨a0, a1, a2, a3, af⟩ := hx
      obtain ⟨q0, q1, q2, q3⟩ := agg4 (.int .u64 (wd m' 0 : Nat)) (.int .u64 (wd m' 1 : Nat)) (.int .u64 (wd m' 2 : Nat)) (.int .u64 (wd m' 3 : Nat))
      clear hr hk
      go_wp2_with fail
      go_roundg 0
      case measure => have := HG.out; omega
      case rel => exact ⟨4, rfl, by omega, rfl, PUT.out 3 (by omega) HX.out, HR.out.aside _ _ (by simp), HB.out.setCell (Nat.le_refl _) _⟩
    · obtain ⟨a0, a1, a2, a3, af⟩ := hx
      obtain ⟨b0, b1, b2, b3, bf⟩ := hr
      go_wp2_with fail
      (try simp only [Exit.inBlock, Exit.then])
      have e : ∀ i, i < 4 → wd (fun b => if b < 256 then (m b || m' b) else m b) i = wd (fun b => m b || m' b) i := fun i hi => wd_congr _ _ _ (fun j hj => by rw [if_pos (by omega)])
      simp only [e 0 (by omega), e 1 (by omega), e 2 (by omega), e 3 (by omega)]
      refine bodyPost_ret (v := CV fun b => m b || m' b) ?_ rfl ⟨rfl, ?_⟩
      · rw [results_cell1 rfl]; go_simp
      · exact bel_set4 HB.out (by omega) _ _ _ _
end Go.Proofs.Ytkjljnneghnpiaa
