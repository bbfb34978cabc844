import Derived.Test.YtkjcnnecdclgfaaDoorCls
import Derived.Test.YtkjcnnecdclgfaaDoorGla
import Derived.Lib.TrailingZeros
import Derived.Laws.Bits64b
import Derived.RangeFuncNested
import Derived.RangeFuncBound
import Derived.RangeFuncCalls
import Derived.RangeFuncLeaves
import Derived.RangeFuncBox
import Derived.OrdersIn
import Derived.OrdersHeld
import Derived.Deep.RegionHeld
import Derived.Shelf.Abstract
import Derived.OwnWalkIn
import Derived.TacticsInMore
import Derived.LoopNIn
import Derived.LoopIn
namespace Go.Proofs.YtkjcnnecdclgfaaDoor
open Go.RowKit

abbrev PV (m : Nat → Bool) : Value := .agg #[.int .u64 (wd m 0 : Nat), .int .u64 (wd m 1 : Nat)]
structure Bp (W : World) (b o : Nat) (m : Nat → Bool) : Prop where
  c0 : W.cell? ⟨b, o, none⟩ = some (.int .u64 (wd m 0 : Nat))
  c1 : W.cell? ⟨b, o + 1, none⟩ = some (.int .u64 (wd m 1 : Nat))
theorem wd_one (i : Nat) : wd (fun k => k == i) (i / 64) = 2 ^ (i % 64) := by
  have h := wd_or (fun _ => false) i
  simp only [wd_none, Nat.zero_or, Bool.false_or] at h
  exact h.symm
theorem wd_one_other (i j : Nat) (h : j ≠ i / 64) : wd (fun k => k == i) j = 0 := by
  have h := wd_or_other (fun _ => false) i j h
  simp only [wd_none, Bool.false_or] at h
  exact h.symm

theorem wrap2 (k : Nat) (h : k < 64) : IntKind.u64.wrap ((2 : Int) ^ k) = ((2 ^ k : Nat) : Int) := by
  have h : (2 : Nat) ^ k < 18446744073709551616 := Nat.pow_lt_pow_right (a := 2) (m := k) (n := 64) (by decide) h
  have e1 : ((2 : Int) ^ k) = ((2 ^ k : Nat) : Int) := by simp
  rw [e1]
  exact wrap_u _ h
theorem wd_both (m m' : Nat → Bool) (i : Nat) : wd m i &&& wd m' i = wd (fun k => m k && m' k) i := by
  refine wd_ext _ _ _ (Nat.and_lt_two_pow (n := 64) _ (wd_lt _ _)) (fun j hj => ?_)
  rw [Nat.testBit_and, wd_bit, wd_bit]
  simp [hj]
theorem u64_both (m m' : Nat → Bool) (i : Nat) : bits .and .u64 (wd m i : Nat) (wd m' i : Nat) = ((wd (fun k => m k && m' k) i : Nat) : Int) := by
  rw [(u64_nat _ _ (wd_lt m _) (wd_lt m' _)).1, wd_both]
theorem u64_pjoin (m m' : Nat → Bool) (i : Nat) : bits .or .u64 (wd m i : Nat) (wd m' i : Nat) = ((wd (fun k => m k || m' k) i : Nat) : Int) := by
  rw [(u64_nat _ _ (wd_lt m _) (wd_lt m' _)).2, wd_join]
set_option maxHeartbeats 1000000 in
theorem only_any (i : Nat) (hi : i < 128) (w : World) : Calls Tryd.prog 43 #[.int .i64 (i : Int)] w fun e w' => e = .returned (PV fun k => k == i) ∧ Below w.heap.size w w' := by
  rcases Nat.lt_or_ge i 64 with h | h
  · have hq : i / 64 = 0 := by omega
    have hr : i % 64 = i := by omega
    have e0 := wd_one i
    have e1 := wd_one_other i 1 (by omega)
    rw [hq, hr] at e0
    have E0 : Hid _ := e0
    have E1 : Hid _ := e1
    clear e0 e1
    go_enter Tryd.func43, Tryd.ntmps43
    go_wp2_with fail
    refine bodyPost_ret (v := PV fun k => k == i) ?_ rfl ⟨rfl, below_trans (bel_up _ _) (bel_up _ _)⟩
    rw [results_cell1 rfl]
    unfold PV
    rw [E0.out, E1.out, ← wrap2 i h]
    go_simp
  · have hq : i / 64 = 1 := by omega
    have e0 := wd_one i
    have e1 := wd_one_other i 0 (by omega)
    rw [hq] at e0
    have E0 : Hid _ := e0
    have E1 : Hid _ := e1
    clear e0 e1
    go_enter Tryd.func43, Tryd.ntmps43
    go_wp2_with fail
    refine bodyPost_ret (v := PV fun k => k == i) ?_ rfl ⟨rfl, below_trans (bel_up _ _) (bel_up _ _)⟩
    rw [results_cell1 rfl]
    unfold PV
    rw [E0.out, E1.out, ← wrap2 (i % 64) (by omega)]
    go_simp

/-- Only the two cells at o of block b have turned. -/
structure Pu (b o : Nat) (W W' : World) : Prop where
  gr : W.grownBy W' (some b)
  sz : W'.heap.size = W.heap.size
  c : ∀ i, i ≠ o → i ≠ o + 1 → W'.cell? ⟨b, i, none⟩ = W.cell? ⟨b, i, none⟩
  f : ∀ i, W'.frozen? ⟨b, i, none⟩ = W.frozen? ⟨b, i, none⟩
theorem grown_set (W : World) (b o : Nat) (v : Value) : W.grownBy (W.setCell ⟨b, o, none⟩ v) (some b) :=
  ⟨rfl, rfl, rfl, by simp [World.setCell], fun k _ hk => Below.heap_setCell _ _ _ _ (fun e => hk (by simp [e]))⟩
theorem grown_drew (W : World) (r : Option Nat) : W.grownBy W.drew r := ⟨rfl, rfl, rfl, Nat.le_refl _, fun _ _ _ => rfl⟩
theorem grown_trans {A B C : World} {r : Option Nat} (h : A.grownBy B r) (k : B.grownBy C r) : A.grownBy C r :=
  ⟨k.os.trans h.os, k.tape.trans h.tape, k.output.trans h.output, Nat.le_trans h.size k.size, fun i hi hr => (k.block i (Nat.lt_of_lt_of_le hi h.size) hr).trans (h.block i hi hr)⟩
theorem Pu.refl (b o : Nat) (W : World) : Pu b o W W := ⟨⟨rfl, rfl, rfl, Nat.le_refl _, fun _ _ _ => rfl⟩, rfl, fun _ _ _ => rfl, fun _ => rfl⟩
theorem Pu.trans {b o : Nat} {A B C : World} (h : Pu b o A B) (k : Pu b o B C) : Pu b o A C :=
  ⟨grown_trans h.gr k.gr, k.sz.trans h.sz, fun i h1 h2 => (k.c i h1 h2).trans (h.c i h1 h2), fun i => (k.f i).trans (h.f i)⟩
theorem Pu.drew {b o : Nat} {A B : World} (h : Pu b o A B) : Pu b o A B.drew := ⟨grown_trans h.gr (grown_drew _ _), h.sz, h.c, h.f⟩
theorem Pu.set {b o : Nat} {A B : World} (h : Pu b o A B) (k : Nat) (hk : k = o ∨ k = o + 1) (v : Value) : Pu b o A (B.setCell ⟨b, k, none⟩ v) := by
  refine ⟨grown_trans h.gr (grown_set _ _ _ _), by rw [← h.sz]; simp [World.setCell], fun i h1 h2 => ?_, fun i => by rw [World.frozen?_setCell]; exact h.f i⟩
  rw [World.cell?_setCell_other _ _ _ _ (by intro e; injection e; omega)]
  exact h.c i h1 h2
theorem Bp.other {W W' : World} {b o c q : Nat} {m : Nat → Bool} (h : Bp W c q m) (k : Pu b o W W') (hne : b ≠ c) (hlt : c < W.heap.size) : Bp W' c q m := by
  have e := k.gr.block c hlt (by simp; exact fun e => hne e.symm)
  exact ⟨by rw [World.cell?_of_block (a := ⟨c, q, none⟩) e]; exact h.c0, by rw [World.cell?_of_block (a := ⟨c, q + 1, none⟩) e]; exact h.c1⟩
theorem Bp.lt {W : World} {b o : Nat} {m : Nat → Bool} (h : Bp W b o m) : b < W.heap.size := cell_lt h.c0

theorem Bp.put0 {W : World} {b o : Nat} {n n' : Nat → Bool} {x : Int} (h : Bp W b o n) (e0 : x = ((wd n' 0 : Nat) : Int)) (e1 : wd n' 1 = wd n 1) : Bp (W.setCell ⟨b, o, none⟩ (.int .u64 x)) b o n' := by
  refine ⟨?_, ?_⟩
  · rw [e0]; exact World.cell?_setCell_same' _ _ _ (by rw [h.c0]; rfl)
  · rw [World.cell?_setCell_other _ _ _ _ (by intro e; injection e; omega), e1]; exact h.c1
theorem Bp.put1 {W : World} {b o : Nat} {n n' : Nat → Bool} {x : Int} (h : Bp W b o n) (e1 : x = ((wd n' 1 : Nat) : Int)) (e0 : wd n' 0 = wd n 0) : Bp (W.setCell ⟨b, o + 1, none⟩ (.int .u64 x)) b o n' := by
  refine ⟨?_, ?_⟩
  · rw [World.cell?_setCell_other _ _ _ _ (by intro e; injection e; omega), e0]; exact h.c0
  · rw [e1]; exact World.cell?_setCell_same' _ _ _ (by rw [h.c1]; rfl)
theorem Bp.drewN {W : World} {b o k : Nat} {n : Nat → Bool} (h : Bp W b o n) : Bp (W.drewN k) b o n := ⟨h.c0, h.c1⟩
theorem Pu.drewN {b o k : Nat} {A B : World} (h : Pu b o A B) : Pu b o A (B.drewN k) := ⟨grown_trans h.gr ⟨rfl, rfl, rfl, Nat.le_refl _, fun _ _ _ => rfl⟩, h.sz, h.c, h.f⟩
theorem Bp.drew {W : World} {b o : Nat} {n : Nat → Bool} (h : Bp W b o n) : Bp W.drew b o n := ⟨h.c0, h.c1⟩

set_option maxRecDepth 100000 in
set_option maxHeartbeats 4000000 in
theorem padd_any (b o c q : Nat) (m m' : Nat → Bool) (w : World) (hP : Bp w b o m) (hQ : Bp w c q m') (hf : ∀ i, w.frozen? ⟨b, i, none⟩ = false) (hne : b ≠ c) :
    Calls Tryd.prog 32 #[.pointer (some ⟨b, o, none⟩), .pointer (some ⟨c, q, none⟩)] w fun e w' => (∃ v, e = .returned v) ∧ Bp w' b o (fun k => m k || m' k) ∧ Pu b o w w' := by
  have HQ : Hid (Bp w c q m') := hQ
  have HP : Hid (Bp w b o m) := hP
  have HF : Hid (∀ i, w.frozen? ⟨b, i, none⟩ = false) := hf
  have HN : Hid (b ≠ c) := hne
  clear hP hQ hf hne
  go_enter Tryd.func32, Tryd.ntmps32
  go_wp2_with fail
  go_loopg [7] 2 (fun g v wr => ∃ (k : Nat) (n : Nat → Bool), v = .int .i64 (k : Int) ∧ k ≤ 2 ∧ g = 2 - k ∧ n = (fun x => m x || (decide (x < 64 * k) && m' x)) ∧ Bp wr b o n ∧ Pu b o w wr)
  case atStart =>
    refine ⟨0, m, rfl, by omega, rfl, ?_, HP.out, Pu.refl _ _ _⟩
    funext x; simp
  case round =>
    obtain ⟨k, n, rfl, hk, hg, hn, hb, hu⟩ := hrel
    have HB : Hid (Bp wr b o n) := hb
    have HU : Hid (Pu b o w wr) := hu
    have HQ1 : Hid (Bp wr c q m') := HQ.out.other hu HN.out HQ.out.lt
    have hfr : ∀ i, wr.frozen? ⟨b, i, none⟩ = false := fun i => (hu.f i).trans (HF.out i)
    obtain ⟨q0, q1⟩ := HQ1.out
    obtain ⟨p0, p1⟩ := hb
    have f0 := hfr o
    have f1 := hfr (o + 1)
    have HE : Hid (n = (fun x => m x || (decide (x < 64 * k) && m' x))) := hn
    have HG : Hid (gk = 2 - k) := hg
    clear hu hfr hn hg
    rcases (by omega : k = 0 ∨ k = 1 ∨ k = 2) with rfl | rfl | rfl
    · go_wp2_with fail
      go_quiet (fail)
      go_wp2_with fail
      refine wp_region_noPanic ?_
      refine wp_region_held_drew (S := fun _ => True) (by kernel_rfl) trivial (fun hHeld => ?_)
      refine wpAnyH_take (i := 0) (oi := { dst := _, op := _, type := _, pos := _, after := _, guard := _ }) (v := ?_) rfl (by kernel_rfl) (by kernel_rfl) (by kernel_rfl) (fun _ _ _ h => h) (Or.inl ⟨by rfl, ?_⟩) (by assumption) ?_
      rotate_left
      · intro W hSw
        (try dsimp only at hSw)
        go_simp
        (try with_reducible rfl)
      try simp only [Act.put, List.setIfInBounds_toArray, List.set_cons_zero, List.set_cons_succ]
      refine wpAnyH_take (i := 1) (oi := { dst := _, op := _, type := _, pos := _, after := _, guard := _ }) (v := ?_) rfl (by kernel_rfl) (by kernel_rfl) (by kernel_rfl) (fun _ _ _ h => h) (Or.inl ⟨by rfl, ?_⟩) (by assumption) ?_
      rotate_left
      · intro W hSw
        (try dsimp only at hSw)
        go_simp
        (try with_reducible rfl)
      try simp only [Act.put, List.setIfInBounds_toArray, List.set_cons_zero, List.set_cons_succ]
      refine wpAnyH_take (i := 2) (oi := { dst := _, op := _, type := _, pos := _, after := _, guard := _ }) (v := ?_) rfl (by kernel_rfl) (by kernel_rfl) (by kernel_rfl) (fun _ _ _ h => h) (Or.inl ⟨by rfl, ?_⟩) (by assumption) ?_
      rotate_left
      · intro W hSw
        (try dsimp only at hSw)
        go_simp
        (try with_reducible rfl)
      try simp only [Act.put, List.setIfInBounds_toArray, List.set_cons_zero, List.set_cons_succ]
      refine wpAnyH_take (i := 3) (oi := { dst := _, op := _, type := _, pos := _, after := _, guard := _ }) (v := ?_) rfl (by kernel_rfl) (by kernel_rfl) (by kernel_rfl) (fun _ _ _ h => h) (Or.inl ⟨by rfl, ?_⟩) (by assumption) ?_
      rotate_left
      · intro W hSw
        (try dsimp only at hSw)
        go_simp
        (try with_reducible rfl)
      try simp only [Act.put, List.setIfInBounds_toArray, List.set_cons_zero, List.set_cons_succ]
      refine wpAnyH_take (i := 5) (oi := { dst := _, op := _, type := _, pos := _, after := _, guard := _ }) (v := ?_) rfl (by kernel_rfl) (by kernel_rfl) (by kernel_rfl) (fun _ _ _ h => h) (Or.inl ⟨by rfl, ?_⟩) (by assumption) ?_
      rotate_left
      · intro W hSw
        (try dsimp only at hSw)
        go_simp
        (try with_reducible rfl)
      try simp only [Act.put, List.setIfInBounds_toArray, List.set_cons_zero, List.set_cons_succ]
      refine wpAnyH_take (i := 7) (oi := { dst := _, op := _, type := _, pos := _, after := _, guard := _ }) (v := ?_) rfl (by kernel_rfl) (by kernel_rfl) (by kernel_rfl) (fun _ _ _ h => h) (Or.inl ⟨by rfl, ?_⟩) (by assumption) ?_
      rotate_left
      · intro W hSw
        (try dsimp only at hSw)
        go_simp
        (try with_reducible rfl)
      try simp only [Act.put, List.setIfInBounds_toArray, List.set_cons_zero, List.set_cons_succ]
      refine wpAnyH_ready (rs := [4]) (by kernel_rfl) (by simp) ?_
      refine AllReadyH.cons (o := { dst := _, op := _, type := _, pos := _, after := _, guard := _ }) rfl (fun K hK => ?_) AllReadyH.nil
      go_simp
      refine hK.out _ _ ?_ (fun hHeld => ?_)
      · exact trivial
      clear hK K
      try simp only [Act.put, List.setIfInBounds_toArray, List.set_cons_zero, List.set_cons_succ]
      refine wpAnyH_take (i := 6) (oi := { dst := _, op := _, type := _, pos := _, after := _, guard := _ }) (v := ?_) rfl (by kernel_rfl) (by kernel_rfl) (by kernel_rfl) (fun _ _ _ h => h) (Or.inl ⟨by rfl, ?_⟩) (by assumption) ?_
      rotate_left
      · intro W hSw
        (try dsimp only at hSw)
        go_simp
        (try with_reducible rfl)
      try simp only [Act.put, List.setIfInBounds_toArray, List.set_cons_zero, List.set_cons_succ]
      refine wpAnyH_take (i := 8) (oi := { dst := _, op := _, type := _, pos := _, after := _, guard := _ }) (v := ?_) rfl (by kernel_rfl) (by kernel_rfl) (by kernel_rfl) (fun _ _ _ h => h) (Or.inl ⟨by rfl, ?_⟩) (by assumption) ?_
      rotate_left
      · intro W hSw
        (try dsimp only at hSw)
        go_simp
        (try with_reducible rfl)
      try simp only [Act.put, List.setIfInBounds_toArray, List.set_cons_zero, List.set_cons_succ]
      refine wpAnyH_ready (rs := [9]) (by kernel_rfl) (by simp) ?_
      refine AllReadyH.cons (o := { dst := _, op := _, type := _, pos := _, after := _, guard := _ }) rfl (fun K hK => ?_) AllReadyH.nil
      go_simp
      refine hK.out _ _ ?_ (fun hHeld => ?_)
      · exact trivial
      clear hK K
      try simp only [Act.put, List.setIfInBounds_toArray, List.set_cons_zero, List.set_cons_succ]
      refine wpAnyH_done (by kernel_rfl) ?_ _
      refine NoPanic.normal ?_
      go_wp2_with fail
      go_roundg 1
      case measure => have := HG.out; omega
      case rel =>
        refine ⟨1, _, rfl, by omega, rfl, rfl, ?_, ?_⟩
        · refine Bp.put0 (n := n) HB.out.drewN ?_ ?_
          · rw [u64_pjoin, wd_congr (fun k => n k || m' k) (fun x => m x || (decide (x < 64 * 1) && m' x)) 0 (fun j hj => ?_)]
            rw [HE.out]
            have h1 : 64 * 0 + j < 64 * 1 := by omega
            have h0 : ¬ (64 * 0 + j < 64 * 0) := by omega
            simp only [h1, h0, decide_true, decide_false, Bool.true_and, Bool.false_and, Bool.or_false]
          · refine wd_congr _ _ _ (fun j hj => ?_)
            rw [HE.out]
            have : ¬ (64 * 1 + j < 64 * 1) := by omega
            simp [this]
        · exact Pu.set HU.out.drewN _ (.inl rfl) _
    · go_wp2_with fail
      go_quiet (fail)
      go_wp2_with fail
      refine wp_region_noPanic ?_
      refine wp_region_held_drew (S := fun _ => True) (by kernel_rfl) trivial (fun hHeld => ?_)
      refine wpAnyH_take (i := 0) (oi := { dst := _, op := _, type := _, pos := _, after := _, guard := _ }) (v := ?_) rfl (by kernel_rfl) (by kernel_rfl) (by kernel_rfl) (fun _ _ _ h => h) (Or.inl ⟨by rfl, ?_⟩) (by assumption) ?_
      rotate_left
      · intro W hSw
        (try dsimp only at hSw)
        go_simp
        (try with_reducible rfl)
      try simp only [Act.put, List.setIfInBounds_toArray, List.set_cons_zero, List.set_cons_succ]
      refine wpAnyH_take (i := 1) (oi := { dst := _, op := _, type := _, pos := _, after := _, guard := _ }) (v := ?_) rfl (by kernel_rfl) (by kernel_rfl) (by kernel_rfl) (fun _ _ _ h => h) (Or.inl ⟨by rfl, ?_⟩) (by assumption) ?_
      rotate_left
      · intro W hSw
        (try dsimp only at hSw)
        go_simp
        (try with_reducible rfl)
      try simp only [Act.put, List.setIfInBounds_toArray, List.set_cons_zero, List.set_cons_succ]
      refine wpAnyH_take (i := 2) (oi := { dst := _, op := _, type := _, pos := _, after := _, guard := _ }) (v := ?_) rfl (by kernel_rfl) (by kernel_rfl) (by kernel_rfl) (fun _ _ _ h => h) (Or.inl ⟨by rfl, ?_⟩) (by assumption) ?_
      rotate_left
      · intro W hSw
        (try dsimp only at hSw)
        go_simp
        (try with_reducible rfl)
      try simp only [Act.put, List.setIfInBounds_toArray, List.set_cons_zero, List.set_cons_succ]
      refine wpAnyH_take (i := 3) (oi := { dst := _, op := _, type := _, pos := _, after := _, guard := _ }) (v := ?_) rfl (by kernel_rfl) (by kernel_rfl) (by kernel_rfl) (fun _ _ _ h => h) (Or.inl ⟨by rfl, ?_⟩) (by assumption) ?_
      rotate_left
      · intro W hSw
        (try dsimp only at hSw)
        go_simp
        (try with_reducible rfl)
      try simp only [Act.put, List.setIfInBounds_toArray, List.set_cons_zero, List.set_cons_succ]
      refine wpAnyH_take (i := 5) (oi := { dst := _, op := _, type := _, pos := _, after := _, guard := _ }) (v := ?_) rfl (by kernel_rfl) (by kernel_rfl) (by kernel_rfl) (fun _ _ _ h => h) (Or.inl ⟨by rfl, ?_⟩) (by assumption) ?_
      rotate_left
      · intro W hSw
        (try dsimp only at hSw)
        go_simp
        (try with_reducible rfl)
      try simp only [Act.put, List.setIfInBounds_toArray, List.set_cons_zero, List.set_cons_succ]
      refine wpAnyH_take (i := 7) (oi := { dst := _, op := _, type := _, pos := _, after := _, guard := _ }) (v := ?_) rfl (by kernel_rfl) (by kernel_rfl) (by kernel_rfl) (fun _ _ _ h => h) (Or.inl ⟨by rfl, ?_⟩) (by assumption) ?_
      rotate_left
      · intro W hSw
        (try dsimp only at hSw)
        go_simp
        (try with_reducible rfl)
      try simp only [Act.put, List.setIfInBounds_toArray, List.set_cons_zero, List.set_cons_succ]
      refine wpAnyH_ready (rs := [4]) (by kernel_rfl) (by simp) ?_
      refine AllReadyH.cons (o := { dst := _, op := _, type := _, pos := _, after := _, guard := _ }) rfl (fun K hK => ?_) AllReadyH.nil
      go_simp
      refine hK.out _ _ ?_ (fun hHeld => ?_)
      · exact trivial
      clear hK K
      try simp only [Act.put, List.setIfInBounds_toArray, List.set_cons_zero, List.set_cons_succ]
      refine wpAnyH_take (i := 6) (oi := { dst := _, op := _, type := _, pos := _, after := _, guard := _ }) (v := ?_) rfl (by kernel_rfl) (by kernel_rfl) (by kernel_rfl) (fun _ _ _ h => h) (Or.inl ⟨by rfl, ?_⟩) (by assumption) ?_
      rotate_left
      · intro W hSw
        (try dsimp only at hSw)
        go_simp
        (try with_reducible rfl)
      try simp only [Act.put, List.setIfInBounds_toArray, List.set_cons_zero, List.set_cons_succ]
      refine wpAnyH_take (i := 8) (oi := { dst := _, op := _, type := _, pos := _, after := _, guard := _ }) (v := ?_) rfl (by kernel_rfl) (by kernel_rfl) (by kernel_rfl) (fun _ _ _ h => h) (Or.inl ⟨by rfl, ?_⟩) (by assumption) ?_
      rotate_left
      · intro W hSw
        (try dsimp only at hSw)
        go_simp
        (try with_reducible rfl)
      try simp only [Act.put, List.setIfInBounds_toArray, List.set_cons_zero, List.set_cons_succ]
      refine wpAnyH_ready (rs := [9]) (by kernel_rfl) (by simp) ?_
      refine AllReadyH.cons (o := { dst := _, op := _, type := _, pos := _, after := _, guard := _ }) rfl (fun K hK => ?_) AllReadyH.nil
      go_simp
      refine hK.out _ _ ?_ (fun hHeld => ?_)
      · exact trivial
      clear hK K
      try simp only [Act.put, List.setIfInBounds_toArray, List.set_cons_zero, List.set_cons_succ]
      refine wpAnyH_done (by kernel_rfl) ?_ _
      refine NoPanic.normal ?_
      go_wp2_with fail
      go_roundg 0
      case measure => have := HG.out; omega
      case rel =>
        refine ⟨2, _, rfl, by omega, rfl, rfl, ?_, ?_⟩
        · refine Bp.put1 (n := n) HB.out.drewN ?_ ?_
          · rw [u64_pjoin, wd_congr (fun k => n k || m' k) (fun x => m x || (decide (x < 64 * 2) && m' x)) 1 (fun j hj => ?_)]
            rw [HE.out]
            have h1 : ¬ (64 * 1 + j < 64 * 1) := by omega
            have h2 : 64 * 1 + j < 64 * 2 := by omega
            simp only [h1, h2, decide_true, decide_false, Bool.true_and, Bool.false_and, Bool.or_false]
          · refine wd_congr _ _ _ (fun j hj => ?_)
            rw [HE.out]
            have h1 : 64 * 0 + j < 64 * 1 := by omega
            have h2 : 64 * 0 + j < 64 * 2 := by omega
            simp only [h1, h2]
        · exact Pu.set HU.out.drewN _ (.inr rfl) _
    · go_wp2_with fail
      (try simp only [Exit.inBlock, Exit.then])
      go_end0
      refine ⟨⟨_, rfl⟩, ?_, HU.out⟩
      have e0 : wd n 0 = wd (fun k => m k || m' k) 0 := wd_congr _ _ _ (fun j hj => by
        rw [HE.out]
        have h2 : 64 * 0 + j < 64 * 2 := by omega
        simp only [h2, decide_true, Bool.true_and])
      have e1 : wd n 1 = wd (fun k => m k || m' k) 1 := wd_congr _ _ _ (fun j hj => by
        rw [HE.out]
        have h2 : 64 * 1 + j < 64 * 2 := by omega
        simp only [h2, decide_true, Bool.true_and])
      exact ⟨by rw [← e0]; exact HB.out.c0, by rw [← e1]; exact HB.out.c1⟩
end Go.Proofs.YtkjcnnecdclgfaaDoor
namespace Go.Proofs.YtkjcnnecdclgfaaDoor
open Go.RowKit

/-- Two cells of a block, which may be written. -/
structure Bw (W : World) (b o : Nat) (m : Nat → Bool) : Prop where
  p : Bp W b o m
  f : ∀ i, W.frozen? ⟨b, i, none⟩ = false
theorem Bw.new (w : World) (m : Nat → Bool) (t : TypeId) : Bw (w.alloc (.cells #[.int .u64 (wd m 0 : Nat), .int .u64 (wd m 1 : Nat)] t)) w.heap.size 0 m := by
  refine ⟨⟨?_, ?_⟩, fun i => fr_up (Below.refl _ _) i⟩
  · rw [World.cell?_alloc_at _ _ _ _ (by simp)]; rfl
  · rw [World.cell?_alloc_at _ _ _ _ (by simp)]; rfl
theorem Bw.mono {W W' : World} {b o : Nat} {m : Nat → Bool} (h : Bw W b o m) (hb : Below W.heap.size W W') : Bw W' b o m :=
  ⟨⟨below_cell hb h.p.c0, below_cell hb h.p.c1⟩, fun i => by rw [hb.frozen (p := ⟨b, i, none⟩) h.p.lt]; exact h.f i⟩
theorem Bw.up {W : World} {b o : Nat} {m : Nat → Bool} (h : Bw W b o m) (x : Obj) : Bw (W.alloc x) b o m := h.mono (bel_up _ _)
theorem Bw.aside {W : World} {b o : Nat} {m : Nat → Bool} (h : Bw W b o m) (p : Addr) (v : Value) (hp : p.block ≠ b) : Bw (W.setCell p v) b o m := by
  refine ⟨⟨?_, ?_⟩, fun i => by rw [World.frozen?_setCell]; exact h.f i⟩
  · rw [World.cell?_setCell_other _ _ _ _ (by rintro rfl; exact hp rfl)]; exact h.p.c0
  · rw [World.cell?_setCell_other _ _ _ _ (by rintro rfl; exact hp rfl)]; exact h.p.c1
theorem Bw.drewN {W : World} {b o k : Nat} {m : Nat → Bool} (h : Bw W b o m) : Bw (W.drewN k) b o m := ⟨h.p.drewN, h.f⟩

theorem agg2 (a b : Value) : (∀ W : World, (Instr.index 45 (.agg #[a, b]) (.int .i64 0)).run Tryd.prog W = .ok a W) ∧ (∀ W : World, (Instr.index 45 (.agg #[a, b]) (.int .i64 1)).run Tryd.prog W = .ok b W) :=
  ⟨fun W => by kernel_rfl, fun W => by kernel_rfl⟩

set_option maxRecDepth 100000 in
set_option maxHeartbeats 4000000 in
theorem pboth_any (m m' : Nat → Bool) (w : World) : Calls Tryd.prog 33 #[PV m, PV m'] w fun e w' => e = .returned (PV fun k => m k && m' k) ∧ Below w.heap.size w w' := by
  go_enter Tryd.func33, Tryd.ntmps33
  go_wp2_with fail
  go_loopg [8] 2 (fun g v wr => ∃ (k : Nat) (n : Nat → Bool), v = .int .i64 (k : Int) ∧ k ≤ 2 ∧ g = 2 - k ∧ n = (fun x => if x < 64 * k then m x && m' x else m x) ∧ Bw wr w.heap.size 0 n ∧ Bw wr (w.heap.size + 2) 0 (fun _ => false) ∧ Below w.heap.size w wr)
  case atStart =>
    refine ⟨0, m, rfl, by omega, rfl, ?_, ?_, ?_, ?_⟩
    · funext x; simp
    · exact ((Bw.new w m 45).up _).up _
    · have h := Bw.new ((w.alloc (.cells #[.int .u64 (wd m 0 : Nat), .int .u64 (wd m 1 : Nat)] 45)).alloc (.cells #[.int .u64 (wd m' 0 : Nat), .int .u64 (wd m' 1 : Nat)] 45)) (fun _ => false) 45
      simp only [wd_none] at h
      rw [World.size_alloc, World.size_alloc] at h
      exact h
    · exact below_trans (below_trans (bel_up _ _) (bel_up _ _)) (bel_up _ _)
  case round =>
    obtain ⟨k, n, rfl, hk, hg, hn, hb, hr, hbel⟩ := hrel
    have HB : Hid (Bw wr w.heap.size 0 n) := hb
    have HR : Hid (Bw wr (w.heap.size + 2) 0 (fun _ => false)) := hr
    have HL : Hid (Below w.heap.size w wr) := hbel
    have HE : Hid (n = (fun x => if x < 64 * k then m x && m' x else m x)) := hn
    have HG : Hid (gk = 2 - k) := hg
    obtain ⟨⟨p0, p1⟩, f⟩ := hb
    obtain ⟨⟨r0, r1⟩, rf⟩ := hr
    simp only [Nat.zero_add] at p1 r1
    have f0 := f 0
    have f1 := f 1
    have rf0 := rf 0
    have rf1 := rf 1
    clear hn hg hbel f rf
    rcases (by omega : k = 0 ∨ k = 1 ∨ k = 2) with rfl | rfl | rfl
    · obtain ⟨a0, a1⟩ := agg2 (.int .u64 (wd m' 0 : Nat)) (.int .u64 (wd m' 1 : Nat))
      go_wp2_with fail
      go_roundg 1
      case measure => have := HG.out; omega
      case rel =>
        refine ⟨1, _, rfl, by omega, rfl, rfl, ⟨Bp.put0 (n := n) HB.out.p ?_ ?_, fun i => by rw [World.frozen?_setCell]; exact HB.out.f i⟩, HR.out.aside _ _ (by dsimp only; omega), HL.out.setCell (by dsimp only; omega) _⟩
        · rw [u64_both, wd_congr (fun k => n k && m' k) (fun x => if x < 64 * 1 then m x && m' x else m x) 0 (fun j hj => ?_)]
          rw [HE.out]
          have h1 : 64 * 0 + j < 64 * 1 := by omega
          have h0 : ¬ (64 * 0 + j < 64 * 0) := by omega
          simp only [h1, h0, if_true, if_false]
        · refine wd_congr _ _ _ (fun j hj => ?_)
          rw [HE.out]
          have h1 : ¬ (64 * 1 + j < 64 * 1) := by omega
          have h0 : ¬ (64 * 1 + j < 64 * 0) := by omega
          simp only [h1, h0, if_false]
    · obtain ⟨a0, a1⟩ := agg2 (.int .u64 (wd m' 0 : Nat)) (.int .u64 (wd m' 1 : Nat))
      go_wp2_with fail
      go_roundg 0
      case measure => have := HG.out; omega
      case rel =>
        refine ⟨2, _, rfl, by omega, rfl, rfl, ⟨Bp.put1 (n := n) HB.out.p ?_ ?_, fun i => by rw [World.frozen?_setCell]; exact HB.out.f i⟩, HR.out.aside _ _ (by dsimp only; omega), HL.out.setCell (by dsimp only; omega) _⟩
        · rw [u64_both, wd_congr (fun k => n k && m' k) (fun x => if x < 64 * 2 then m x && m' x else m x) 1 (fun j hj => ?_)]
          rw [HE.out]
          have h1 : 64 * 1 + j < 64 * 2 := by omega
          have h0 : ¬ (64 * 1 + j < 64 * 1) := by omega
          simp only [h1, h0, if_true, if_false]
        · refine wd_congr _ _ _ (fun j hj => ?_)
          rw [HE.out]
          have h1 : 64 * 0 + j < 64 * 2 := by omega
          have h0 : 64 * 0 + j < 64 * 1 := by omega
          simp only [h1, h0, if_true]
    · go_wp2_with fail
      (try simp only [Exit.inBlock, Exit.then])
      have e0 : wd n 0 = wd (fun k => m k && m' k) 0 := wd_congr _ _ _ (fun j hj => by
        rw [HE.out]
        have h2 : 64 * 0 + j < 64 * 2 := by omega
        simp only [h2, if_true])
      have e1 : wd n 1 = wd (fun k => m k && m' k) 1 := wd_congr _ _ _ (fun j hj => by
        rw [HE.out]
        have h2 : 64 * 1 + j < 64 * 2 := by omega
        simp only [h2, if_true])
      refine bodyPost_ret (v := PV fun k => m k && m' k) ?_ rfl ⟨rfl, ?_⟩
      · rw [results_cell1 rfl]
        unfold PV
        rw [← e0, ← e1]
        go_simp
      · exact (HL.out.setCell (by dsimp only; omega) _).setCell (by dsimp only; omega) _

/-- The table of math/bits in its variable. -/
def Dbt (w : World) : Prop := ∀ j, j < 64 → w.cell? ⟨0, j, none⟩ = some (.int .u8 (Lib.deBruijn64tab.getD j 0 : Nat))
theorem Dbt.up {W W' : World} (h : Dbt W) (hb : Below W.heap.size W W') : Dbt W' := fun j hj => below_cell hb (h j hj)
theorem Dbt.pos {W : World} (h : Dbt W) : 0 < W.heap.size := cell_lt (h 0 (by omega))
theorem tz_core (x k idx : Nat) (w : World) (hx0 : ((x : Int) == 0) = false)
    (key : IntKind.u64.wrap (bits BinOp.and IntKind.u64 (x : Int) (IntKind.u64.wrap (-(x : Int))) * 285870213051353865) / 288230376151711744 = (idx : Int))
    (hi : idx < 64) (hk : k < 64) (hcell : w.cell? ⟨0, idx, none⟩ = some (.int .u8 (k : Int))) :
    Calls Tryd.prog 48 #[.int .u64 (x : Int)] w fun e w' => e = .returned (.int .i64 (k : Int)) ∧ w' = w := by
  have hk2 : IntKind.i64.wrap (k : Int) = (k : Int) := by rw [IntKind.wrap_i64]; omega
  go_enter Tryd.func48, Tryd.ntmps48
  go_wp2_with (simp only [key])
  go_ret
  exact ⟨rfl, rfl⟩
theorem u64_wrap (n : Int) (h0 : 0 ≤ n) (h1 : n < 18446744073709551616) : IntKind.u64.wrap n = n := by
  rw [IntKind.wrap_u64]; omega
theorem tz_key (x a : Nat) (hx : x < 18446744073709551616) (h0 : x ≠ 0) (hlow : x &&& (18446744073709551616 - x) = a) :
    IntKind.u64.wrap (bits BinOp.and IntKind.u64 (x : Int) (IntKind.u64.wrap (-(x : Int))) * 285870213051353865) / 288230376151711744 = ((a * 285870213051353865 % 18446744073709551616 / 288230376151711744 : Nat) : Int) := by
  have e1 : IntKind.u64.wrap (-(x : Int)) = ((18446744073709551616 - x : Nat) : Int) := by rw [IntKind.wrap_u64]; omega
  rw [e1, (u64_nat x _ hx (by omega)).1, hlow, IntKind.wrap_u64]
  omega
/-- bits.TrailingZeros64 of what is not 0. -/
theorem tz_any (x : Nat) (hx : x < 2 ^ 64) (h0 : x ≠ 0) (w : World) (hT : Dbt w) :
    Calls Tryd.prog 48 #[.int .u64 (x : Int)] w fun e w' => e = .returned (.int .i64 (Lib.ctz 64 x : Nat)) ∧ w' = w := by
  obtain ⟨hlow, hk⟩ := Lib.lowest_bit 64 x h0 hx
  obtain ⟨hi, htab⟩ := Lib.deBruijn64_at _ hk
  have hcell := hT _ hi
  rw [htab] at hcell
  exact tz_core x _ _ w (by simp; omega) (tz_key x _ hx h0 hlow) hi hk hcell
theorem all_any (m : Nat → Bool) (w : World) : Calls Tryd.prog 30 #[PV m] w fun e w' =>
    e = .returned (.func (.func 47) #[] #[.pointer (some ⟨w.heap.size, 0, none⟩)]) ∧ w' = w.alloc (.cells #[.int .u64 (wd m 0 : Nat), .int .u64 (wd m 1 : Nat)] 45) := by
  go_enter Tryd.func30, Tryd.ntmps30
  go_wp2_with fail
  go_ret
  exact ⟨rfl, rfl⟩
end Go.Proofs.YtkjcnnecdclgfaaDoor
namespace Go.Proofs.YtkjcnnecdclgfaaDoor
open Go.RowKit Go.Shelf
attribute [local go_sem] Oper.semAt_some

theorem low_lt {l : Nat} (h : l ≠ 0) : l &&& (l - 1) < l := Nat.lt_of_le_of_lt Nat.and_le_right (by omega)
/-- The tokens of a set, rising. -/
def bts (l : Nat) : List Nat := if h : l = 0 then [] else Lib.ctz 64 l :: bts (l &&& (l - 1))
termination_by l
decreasing_by exact low_lt h
theorem bts_zero : bts 0 = [] := by rw [bts]; rfl
theorem bts_pos {l : Nat} (h : l ≠ 0) : bts l = Lib.ctz 64 l :: bts (l &&& (l - 1)) := by rw [bts, dif_neg h]

/-- The lowest token, and what is left without it. -/
theorem low_bit {l : Nat} (h : l ≠ 0) (hl : l < 2 ^ 64) : ∃ k, Lib.ctz 64 l = k ∧ k < 64 ∧ l.testBit k = true ∧ (∀ j, j < k → l.testBit j = false) ∧ ∀ j, (l &&& (l - 1)).testBit j = (l.testBit j && decide (j ≠ k)) := by
  obtain ⟨m, hm, hk⟩ := Lib.ctzFrom_spec 64 l (Nat.pos_of_ne_zero h) hl
  have hc : Lib.ctz 64 l = Lib.ctzFrom 64 l := by unfold Lib.ctz; rw [if_neg h]
  obtain ⟨k, ek⟩ : ∃ k, Lib.ctzFrom 64 l = k := ⟨_, rfl⟩
  rw [ek] at hm hk hc
  have hp : 0 < 2 ^ k := Nat.two_pow_pos k
  have h1 : ∀ j, l.testBit j = if j < k then false else (2 * m + 1).testBit (j - k) := fun j => by
    have := Nat.testBit_two_pow_mul_add (2 * m + 1) hp j
    rw [Nat.add_zero, ← hm] at this
    rw [this, Nat.zero_testBit]
  have e2 : l - 1 = 2 ^ k * (2 * m) + (2 ^ k - 1) := by
    have h9 : l = 2 ^ k * (2 * m) + 2 ^ k := by rw [hm, Nat.mul_add, Nat.mul_one]
    omega
  have h2 : ∀ j, (l - 1).testBit j = if j < k then (2 ^ k - 1).testBit j else (2 * m).testBit (j - k) := fun j => by
    rw [e2]
    exact Nat.testBit_two_pow_mul_add (2 * m) (by omega) j
  refine ⟨k, hc, hk, ?_, fun j hj => ?_, fun j => ?_⟩
  · rw [h1, if_neg (Nat.lt_irrefl _), Nat.sub_self, Nat.testBit_zero]
    simp
  · rw [h1, if_pos hj]
  · rw [Nat.testBit_and, h1, h2]
    by_cases hj : j < k
    · rw [if_pos hj, Bool.false_and, Bool.false_and]
    · rw [if_neg hj, if_neg hj]
      by_cases hjk : j = k
      · subst hjk
        rw [Nat.sub_self, Nat.testBit_zero, Nat.testBit_zero]
        simp
      · obtain ⟨i, hi⟩ : ∃ i, j - k = i + 1 := ⟨j - k - 1, by omega⟩
        rw [hi, Nat.testBit_succ, Nat.testBit_succ, show (2 * m + 1) / 2 = m by omega, show (2 * m) / 2 = m by omega]
        simp [hjk]

/-- They are the tokens of the set, each once, rising; and there are no more than 64. -/
theorem bts_mem : ∀ (N l : Nat), l < N → l < 2 ^ 64 → (∀ c, c ∈ bts l ↔ l.testBit c = true) ∧ (bts l).Pairwise (· < ·) ∧ ∀ c ∈ bts l, c < 64
  | 0, l, h, _ => absurd h (Nat.not_lt_zero _)
  | N + 1, l, h, hl => by
    by_cases h0 : l = 0
    · subst h0
      rw [bts_zero]
      exact ⟨fun c => by simp, List.Pairwise.nil, fun c hc => absurd hc List.not_mem_nil⟩
    · obtain ⟨k, e, hk, k1, k2, k3⟩ := low_bit h0 hl
      obtain ⟨r1, r2, r3⟩ := bts_mem N (l &&& (l - 1)) (by have := low_lt h0; omega) (Nat.lt_trans (low_lt h0) hl)
      rw [bts_pos h0, e]
      refine ⟨fun c => ?_, ?_, fun c hc => ?_⟩
      · rw [List.mem_cons, r1, k3]
        by_cases hc : c = k
        · subst hc
          simp [k1]
        · simp [hc]
      · rw [List.pairwise_cons]
        refine ⟨fun c hc => ?_, r2⟩
        have h9 := (r1 c).1 hc
        rw [k3, Bool.and_eq_true, decide_eq_true_eq] at h9
        rcases Nat.lt_trichotomy c k with hlt | heq | hgt
        · rw [k2 c hlt] at h9
          exact absurd h9.1 (by decide)
        · exact absurd heq h9.2
        · exact hgt
      · rcases List.mem_cons.1 hc with rfl | hc
        · exact hk
        · exact r3 c hc

theorem rising_len : ∀ (l : List Nat) (a n : Nat), l.Pairwise (· < ·) → (∀ x ∈ l, a ≤ x ∧ x < n) → l.length ≤ n - a
  | [], _, _, _, _ => Nat.zero_le _
  | x :: l, a, n, h, hb => by
    rw [List.pairwise_cons] at h
    have h1 := hb x List.mem_cons_self
    have h2 := rising_len l (x + 1) n h.2 (fun y hy => ⟨h.1 y hy, (hb y (List.mem_cons_of_mem _ hy)).2⟩)
    rw [List.length_cons]
    omega
theorem bts_len {l : Nat} (h : l < 2 ^ 64) : (bts l).length ≤ 64 := by
  obtain ⟨-, h2, h3⟩ := bts_mem (l + 1) l (Nat.lt_succ_self l) h
  have := rising_len (bts l) 0 64 h2 (fun x hx => ⟨Nat.zero_le _, h3 x hx⟩)
  omega

/-- The places of a set. -/
def els (m : Nat → Bool) : List Nat := bts (wd m 0) ++ (bts (wd m 1)).map (64 + ·)
theorem els_mem (m : Nat → Bool) (p : Nat) : p ∈ els m ↔ p < 128 ∧ m p = true := by
  obtain ⟨a1, -, a3⟩ := bts_mem _ (wd m 0) (Nat.lt_succ_self _) (wd_lt m 0)
  obtain ⟨b1, -, b3⟩ := bts_mem _ (wd m 1) (Nat.lt_succ_self _) (wd_lt m 1)
  unfold els
  rw [List.mem_append, List.mem_map]
  constructor
  · rintro (h | ⟨c, h, rfl⟩)
    · have h1 := (a1 p).1 h
      rw [wd_bit] at h1
      have := a3 p h
      simp at h1
      exact ⟨by omega, h1.2⟩
    · have h1 := (b1 c).1 h
      rw [wd_bit] at h1
      have := b3 c h
      simp at h1
      exact ⟨by omega, h1.2⟩
  · rintro ⟨h1, h2⟩
    rcases Nat.lt_or_ge p 64 with h | h
    · left
      rw [a1, wd_bit]
      simp [h, h2]
    · right
      refine ⟨p - 64, ?_, by omega⟩
      rw [b1, wd_bit]
      have e : 64 * 1 + (p - 64) = p := by omega
      have h3 : p - 64 < 64 := by omega
      rw [e]
      simp [h3, h2]
theorem els_len (m : Nat → Bool) : (els m).length ≤ 128 := by
  unfold els
  rw [List.length_append, List.length_map]
  have := bts_len (wd_lt m 0)
  have := bts_len (wd_lt m 1)
  omega

theorem wide_deep {n : Nat} : Fence.wide.depth.isSome = true → 1 ≤ n := fun h => by simp [Fence.wide] at h
/-- Block 0 stays. -/
def Kp0 (W W' : World) : Prop := W'.heap[0]? = W.heap[0]?
theorem Kp0.trans {A B C : World} (h : Kp0 A B) (k : Kp0 B C) : Kp0 A C := Eq.trans k h
theorem Dbt.same {W W' : World} (h : Dbt W) (k : Kp0 W W') : Dbt W' := fun j hj => by rw [World.cell?_of_block (a := ⟨0, j, none⟩) k]; exact h j hj

set_option maxRecDepth 100000 in
set_option maxHeartbeats 4000000 in
theorem all1_in {bp l n : Nat} (m : Nat → Bool) (J Jx : List Nat → World → Prop) (W0 : World)
    (hY : ∀ (pre : List Nat) (x : Nat) (W : World), x ∈ els m → J pre W → pre.length < (els m).length → YieldAt Fence.wide (n - 1) Tryd.prog l #[.int .i64 (x : Int)] W fun e W' =>
      (e = .returned (.bool true) ∧ J (pre ++ [x]) W' ∧ Kp0 W W') ∨ (e = .returned (.bool false) ∧ Jx (pre ++ [x]) W'))
    (hp : Bp W0 bp 0 m) (hD : Dbt W0) (h0 : J [] W0) :
    CallsIn Fence.wide n Tryd.prog 47 #[.func (.yield l) #[] #[], .pointer (some ⟨bp, 0, none⟩)] W0 fun e W' => (∃ v, e = .returned v) ∧
      ((∃ ys, ys = els m ∧ J ys W') ∨ (∃ pre, pre <+: els m ∧ Jx pre W')) := by
  refine callsIn_of_wp Tryd.func47 rfl trivial ?_ rfl
  simp only [Tryd.ntmps47, List.size_toArray, List.length_cons, List.length_nil, Nat.reduceAdd, Nat.reduceSub, Array.replicate_succ, Array.replicate_zero, List.push_toArray, List.append_toArray, List.nil_append, List.cons_append]
  obtain ⟨p0, p1⟩ := hp
  simp only [Nat.zero_add] at p1
  have HY : Hid _ := hY
  have HD0 : Hid (Dbt W0) := hD
  have H0 : Hid (J [] W0) := h0
  clear hY hD h0
  gi_wp2
  clear p0 p1
  gi_loopw [6] (fun iv wr => ∃ k : Nat, iv = .int .i64 (k : Int) ∧ k ≤ 2 ∧ Hid (J (if k = 0 then [] else if k = 1 then bts (wd m 0) else els m) wr) ∧ Hid (Dbt wr)) (fun iv _ => 2 - (intOf iv).toNat)
  case atStart => exact ⟨0, rfl, by omega, H0, HD0⟩
  case round =>
    obtain ⟨k, rfl, hk, HJk, HD⟩ := hrel
    rcases (by omega : k = 0 ∨ k = 1 ∨ k = 2) with rfl | rfl | rfl
    · obtain ⟨a0, a1⟩ := agg2 (.int .u64 (wd m 0 : Nat)) (.int .u64 (wd m 1 : Nat))
      gi_wp2
      gi_loopw [4] (fun v wr => ∃ (x : Nat) (done : List Nat), v = .int .u64 (x : Int) ∧ Hid (x < 2 ^ 64) ∧ Hid (done ++ bts x = bts (wd m 0)) ∧ Hid (J ([] ++ done.map id) wr) ∧ Hid (Dbt wr)) (fun v _ => (intOf v).toNat)
      case atStart =>
        refine ⟨wd m 0, [], rfl, wd_lt m 0, by show [] ++ bts (wd m 0) = bts (wd m 0); rfl, ?_, HD⟩
        show J ([] ++ [].map id) wr
        rw [List.map_nil, List.append_nil]
        exact HJk.out
      case round =>
        obtain ⟨x, done, rfl, HX, HDN, HJ1, HD1⟩ := hrel
        by_cases hx0 : x = 0
        · subst hx0
          gi_wp2
          go_roundw
          case rel =>
            refine ⟨1, rfl, by omega, ?_, HD1⟩
            have h1 := HDN.out
            rw [bts_zero, List.append_nil] at h1
            have h2 := HJ1.out
            rw [h1] at h2
            have h3 : J (bts (wd m 0)) wr := by simpa [els] using h2
            exact h3
          case measure => simp [intOf]
        · have hx1 : ((x : Int) == 0) = false := by rw [beq_eq_false_iff_ne]; omega
          have hx2 : ((x : Int) != 0) = true := by rw [bne_iff_ne]; omega
          have HX0 : Hid (x ≠ 0) := hx0
          have hctz := tz_any x HX.out hx0 wr HD1.out
          obtain ⟨c, hc⟩ : ∃ c, Lib.ctz 64 x = c := ⟨_, rfl⟩
          rw [hc] at hctz
          have HC : Hid (Lib.ctz 64 x = c) := hc
          have HTZ : Hid (Calls Tryd.prog 48 #[.int .u64 (x : Int)] wr fun e w' => e = .returned (.int .i64 (c : Int)) ∧ w' = wr) := hctz
          have hc64 : c < 64 := by rw [← hc]; exact (Lib.lowest_bit 64 x hx0 HX.out).2
          obtain ⟨y, hy0⟩ : ∃ y : Nat, y = 0 + c := ⟨_, rfl⟩
          have HY0 : Hid (y = 0 + c) := hy0
          have hw : wrap64 ((c : Int)) = (y : Int) := by unfold wrap64; omega
          have hlow : bits .and .u64 (x : Int) (IntKind.u64.wrap ((x : Int) - 1)) = ((x &&& (x - 1) : Nat) : Int) := by
            have h1 : IntKind.u64.wrap ((x : Int) - 1) = ((x - 1 : Nat) : Int) := by
              rw [show ((x : Int) - 1) = ((x - 1 : Nat) : Int) by omega]
              exact wrap_u _ (by have := HX.out; omega)
            rw [h1, (u64_nat _ _ HX.out (by have := HX.out; omega)).1]
          obtain ⟨x', hx'⟩ : ∃ x', x &&& (x - 1) = x' := ⟨_, rfl⟩
          rw [hx'] at hlow
          have HXX : Hid (x &&& (x - 1) = x') := hx'
          have HLO : Hid _ := hlow
          obtain ⟨fn, tmps, assign, body, hyy, hR⟩ := HY.out ([] ++ done.map id) y wr (by
            have h1 : c ∈ bts (wd m 0) := by rw [← HDN.out, bts_pos hx0, hc]; simp
            rw [hy0, Nat.zero_add]
            exact List.mem_append.2 (.inl h1)) HJ1.out (by
            have h1 := congrArg List.length HDN.out
            rw [bts_pos hx0] at h1
            simp only [List.length_append, List.length_cons, List.length_map] at h1 ⊢
            have h2 : (els m).length = (bts (wd m 0)).length + (bts (wd m 1)).length := by unfold els; rw [List.length_append, List.length_map]
            simp only [List.length_nil]
            omega)
          (try dsimp only at hyy)
          have HR : Hid _ := hR
          clear hR hctz hc hx0 hx' hy0 hc64
          gi_wp2
          refine ⟨trivial, wide_deep, (callsIn_wide.2 HTZ.out).mono ?_⟩
          rintro e w3 ⟨rfl, rfl⟩
          gi_wp2
          refine ⟨wide_deep, RoundIn.mono HR.out ?_⟩
          have key : [] ++ done.map id ++ [y] = [] ++ (done ++ [c]).map id := by
            rw [List.map_append, ← List.append_assoc]
            congr 1
            rw [HY0.out]
            simp
          have hdn : done ++ [c] ++ bts x' = bts (wd m 0) := by
            rw [← HDN.out, bts_pos HX0.out, HC.out, HXX.out]
            simp
          rintro e W3 (⟨rfl, hJ3, hk3⟩ | ⟨rfl, hJx3⟩)
          · have HD3 : Hid (Dbt W3) := Dbt.same HD1.out hk3
            rw [key] at hJ3
            have HJ3 : Hid _ := hJ3
            have HDN3 : Hid _ := hdn
            clear key hdn hk3 hJ3
            have hlow := HLO.out
            gi_wp2
            go_roundw
            case rel => exact ⟨x', done ++ [c], rfl, Nat.lt_trans (HXX.out ▸ low_lt HX0.out) HX.out, HDN3, HJ3, HD3⟩
            case measure =>
              simp only [intOf, Int.toNat_natCast]
              have := low_lt HX0.out
              rw [HXX.out] at this
              exact this
          · gi_wp2
            refine bodyPost_ret (results_none rfl _ _ _) rfl ?_
            refine ⟨⟨_, rfl⟩, .inr ⟨_, ?_, hJx3⟩⟩
            rw [key]
            unfold els
            rw [← hdn]
            exact ⟨bts x' ++ (bts (wd m 1)).map (64 + ·), by simp⟩
    · obtain ⟨a0, a1⟩ := agg2 (.int .u64 (wd m 0 : Nat)) (.int .u64 (wd m 1 : Nat))
      gi_wp2
      gi_loopw [4] (fun v wr => ∃ (x : Nat) (done : List Nat), v = .int .u64 (x : Int) ∧ Hid (x < 2 ^ 64) ∧ Hid (done ++ bts x = bts (wd m 1)) ∧ Hid (J (bts (wd m 0) ++ done.map (64 + ·)) wr) ∧ Hid (Dbt wr)) (fun v _ => (intOf v).toNat)
      case atStart =>
        refine ⟨wd m 1, [], rfl, wd_lt m 1, by show [] ++ bts (wd m 1) = bts (wd m 1); rfl, ?_, HD⟩
        show J (bts (wd m 0) ++ [].map (64 + ·)) wr
        rw [List.map_nil, List.append_nil]
        exact HJk.out
      case round =>
        obtain ⟨x, done, rfl, HX, HDN, HJ1, HD1⟩ := hrel
        by_cases hx0 : x = 0
        · subst hx0
          gi_wp2
          go_roundw
          case rel =>
            refine ⟨2, rfl, by omega, ?_, HD1⟩
            have h1 := HDN.out
            rw [bts_zero, List.append_nil] at h1
            have h2 := HJ1.out
            rw [h1] at h2
            have h3 : J (els m) wr := by simpa [els] using h2
            exact h3
          case measure => simp [intOf]
        · have hx1 : ((x : Int) == 0) = false := by rw [beq_eq_false_iff_ne]; omega
          have hx2 : ((x : Int) != 0) = true := by rw [bne_iff_ne]; omega
          have HX0 : Hid (x ≠ 0) := hx0
          have hctz := tz_any x HX.out hx0 wr HD1.out
          obtain ⟨c, hc⟩ : ∃ c, Lib.ctz 64 x = c := ⟨_, rfl⟩
          rw [hc] at hctz
          have HC : Hid (Lib.ctz 64 x = c) := hc
          have HTZ : Hid (Calls Tryd.prog 48 #[.int .u64 (x : Int)] wr fun e w' => e = .returned (.int .i64 (c : Int)) ∧ w' = wr) := hctz
          have hc64 : c < 64 := by rw [← hc]; exact (Lib.lowest_bit 64 x hx0 HX.out).2
          obtain ⟨y, hy0⟩ : ∃ y : Nat, y = 64 + c := ⟨_, rfl⟩
          have HY0 : Hid (y = 64 + c) := hy0
          have hw : wrap64 (64 + (c : Int)) = (y : Int) := by unfold wrap64; omega
          have hlow : bits .and .u64 (x : Int) (IntKind.u64.wrap ((x : Int) - 1)) = ((x &&& (x - 1) : Nat) : Int) := by
            have h1 : IntKind.u64.wrap ((x : Int) - 1) = ((x - 1 : Nat) : Int) := by
              rw [show ((x : Int) - 1) = ((x - 1 : Nat) : Int) by omega]
              exact wrap_u _ (by have := HX.out; omega)
            rw [h1, (u64_nat _ _ HX.out (by have := HX.out; omega)).1]
          obtain ⟨x', hx'⟩ : ∃ x', x &&& (x - 1) = x' := ⟨_, rfl⟩
          rw [hx'] at hlow
          have HXX : Hid (x &&& (x - 1) = x') := hx'
          have HLO : Hid _ := hlow
          obtain ⟨fn, tmps, assign, body, hyy, hR⟩ := HY.out (bts (wd m 0) ++ done.map (64 + ·)) y wr (by
            have h1 : c ∈ bts (wd m 1) := by rw [← HDN.out, bts_pos hx0, hc]; simp
            rw [hy0]
            exact List.mem_append.2 (.inr (List.mem_map.2 ⟨c, h1, rfl⟩))) HJ1.out (by
            have h1 := congrArg List.length HDN.out
            rw [bts_pos hx0] at h1
            simp only [List.length_append, List.length_cons, List.length_map] at h1 ⊢
            have h2 : (els m).length = (bts (wd m 0)).length + (bts (wd m 1)).length := by unfold els; rw [List.length_append, List.length_map]
            skip
            omega)
          (try dsimp only at hyy)
          have HR : Hid _ := hR
          clear hR hctz hc hx0 hx' hy0 hc64
          gi_wp2
          refine ⟨trivial, wide_deep, (callsIn_wide.2 HTZ.out).mono ?_⟩
          rintro e w3 ⟨rfl, rfl⟩
          gi_wp2
          refine ⟨wide_deep, RoundIn.mono HR.out ?_⟩
          have key : bts (wd m 0) ++ done.map (64 + ·) ++ [y] = bts (wd m 0) ++ (done ++ [c]).map (64 + ·) := by
            rw [List.map_append, ← List.append_assoc]
            congr 1
            rw [HY0.out]
            simp
          have hdn : done ++ [c] ++ bts x' = bts (wd m 1) := by
            rw [← HDN.out, bts_pos HX0.out, HC.out, HXX.out]
            simp
          rintro e W3 (⟨rfl, hJ3, hk3⟩ | ⟨rfl, hJx3⟩)
          · have HD3 : Hid (Dbt W3) := Dbt.same HD1.out hk3
            rw [key] at hJ3
            have HJ3 : Hid _ := hJ3
            have HDN3 : Hid _ := hdn
            clear key hdn hk3 hJ3
            have hlow := HLO.out
            gi_wp2
            go_roundw
            case rel => exact ⟨x', done ++ [c], rfl, Nat.lt_trans (HXX.out ▸ low_lt HX0.out) HX.out, HDN3, HJ3, HD3⟩
            case measure =>
              simp only [intOf, Int.toNat_natCast]
              have := low_lt HX0.out
              rw [HXX.out] at this
              exact this
          · gi_wp2
            refine bodyPost_ret (results_none rfl _ _ _) rfl ?_
            refine ⟨⟨_, rfl⟩, .inr ⟨_, ?_, hJx3⟩⟩
            rw [key]
            unfold els
            rw [← hdn]
            exact ⟨(bts x').map (64 + ·), by simp⟩
    · gi_wp2
      go_end0
      exact ⟨⟨_, rfl⟩, .inl ⟨_, rfl, HJk.out⟩⟩

theorem all_stops {bp n : Nat} (m : Nat → Bool) (w : World) (hp : Bp w bp 0 m) (hD : Dbt w) :
    SeqStopsK Fence.wide n Tryd.prog 47 #[.pointer (some ⟨bp, 0, none⟩)] (fun x : {p : Nat // p ∈ els m} => #[Value.int .i64 (x.val : Int)]) Kp0 (fun ys => ys.map Subtype.val = els m) (fun pre => pre.map Subtype.val <+: els m) (els m).length w := by
  intro l J Jx W hW hJ hJx hY h0
  refine (all1_in (n := n) (l := l) m (fun pre W => ∃ F : List ({p : Nat // p ∈ els m}), F.map Subtype.val = pre ∧ J F W) (fun pre W => ∃ F : List ({p : Nat // p ∈ els m}), F.map Subtype.val = pre ∧ Jx F W) W ?_ ⟨below_cell hW hp.c0, below_cell hW hp.c1⟩ (hD.up hW) ⟨[], rfl, h0⟩).mono ?_
  · rintro pre x W1 hx ⟨F, rfl, hF⟩ hlen
    obtain ⟨fn, tmps, assign, body, h1, h2⟩ := hY F ⟨x, hx⟩ W1 hF (by simpa using hlen)
    refine ⟨fn, tmps, assign, body, h1, RoundIn.mono h2 ?_⟩
    rintro e W' (⟨rfl, h3, h4⟩ | ⟨rfl, h3⟩)
    · exact .inl ⟨rfl, ⟨F ++ [⟨x, hx⟩], by simp, h3⟩, h4⟩
    · exact .inr ⟨rfl, ⟨F ++ [⟨x, hx⟩], by simp, h3⟩⟩
  · rintro e W' ⟨h1, ⟨ys, rfl, F, h2, h3⟩ | ⟨pre, h2, F, rfl, h3⟩⟩
    · exact ⟨h1, .inl ⟨F, h2, h3⟩⟩
    · exact ⟨h1, .inr ⟨F, h2, h3⟩⟩
theorem kp0_b {w : World} (h0 : 0 < w.heap.size) (W : World) (l : Nat) (o o' : Obj) (hl : w.heap.size ≤ l) (_ : W.heap[l]? = some o) (_ : o.isCells = false) (_ : o.isWalk = false) : Kp0 W (W.putObj l o') :=
  World.putObj_heap_other (by omega)
end Go.Proofs.YtkjcnnecdclgfaaDoor
