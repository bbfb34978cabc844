import Derived.Test.YtkjcnnecdclgfaaDoorCls
import Derived.Test.YtkjcnnecdclgfaaDoorGla
import Derived.Lib.TrailingZeros
import Derived.Laws.Bits64b
namespace Go.Proofs.YtkjcnnecdclgfaaDoor
open Go.RowKit

abbrev PV (m : Nat → Bool) : Value := .agg #[.int .u64 (wd m 0 : Nat), .int .u64 (wd m 1 : Nat)]
structure Bp (W : World) (b o : Nat) (m : Nat → Bool) : Prop where
  c0 : W.cell? ⟨b, o, none⟩ = some (.int .u64 (wd m 0 : Nat))
  c1 : W.cell? ⟨b, o + 1, none⟩ = some (.int .u64 (wd m 1 : Nat))
theorem wd_one (i : Nat) : wd (fun k => k == i) (i / 64) = 2 ^ (i % 64) := by
  have h := wd_or (fun _ => false) i
  simp only [wd_none, Nat.zero_or, Bool.false_or] at h
  exact h.symm
theorem wd_one_other (i j : Nat) (h : j ≠ i / 64) : wd (fun k => k == i) j = 0 := by
  have h := wd_or_other (fun _ => false) i j h
  simp only [wd_none, Bool.false_or] at h
  exact h.symm

theorem wrap2 (k : Nat) (h : k < 64) : IntKind.u64.wrap ((2 : Int) ^ k) = ((2 ^ k : Nat) : Int) := by
  have h : (2 : Nat) ^ k < 18446744073709551616 := Nat.pow_lt_pow_right (a := 2) (m := k) (n := 64) (by decide) h
  have e1 : ((2 : Int) ^ k) = ((2 ^ k : Nat) : Int) := by simp
  rw [e1]
  exact wrap_u _ h
theorem wd_both (m m' : Nat → Bool) (i : Nat) : wd m i &&& wd m' i = wd (fun k => m k && m' k) i := by
  refine wd_ext _ _ _ (Nat.and_lt_two_pow (n := 64) _ (wd_lt _ _)) (fun j hj => ?_)
  rw [Nat.testBit_and, wd_bit, wd_bit]
  simp [hj]
theorem u64_both (m m' : Nat → Bool) (i : Nat) : bits .and .u64 (wd m i : Nat) (wd m' i : Nat) = ((wd (fun k => m k && m' k) i : Nat) : Int) := by
  rw [(u64_nat _ _ (wd_lt m _) (wd_lt m' _)).1, wd_both]
theorem u64_pjoin (m m' : Nat → Bool) (i : Nat) : bits .or .u64 (wd m i : Nat) (wd m' i : Nat) = ((wd (fun k => m k || m' k) i : Nat) : Int) := by
  rw [(u64_nat _ _ (wd_lt m _) (wd_lt m' _)).2, wd_join]
set_option maxHeartbeats 1000000 in
theorem only_any (i : Nat) (hi : i < 128) (w : World) : Calls Tryd.prog 43 #[.int .i64 (i : Int)] w fun e w' => e = .returned (PV fun k => k == i) ∧ Below w.heap.size w w' := by
  rcases Nat.lt_or_ge i 64 with h | h
  · have hq : i / 64 = 0 := by omega
    have hr : i % 64 = i := by omega
    have e0 := wd_one i
    have e1 := wd_one_other i 1 (by omega)
    rw [hq, hr] at e0
    have E0 : Hid _ := e0
    have E1 : Hid _ := e1
    clear e0 e1
    go_enter Tryd.func43, Tryd.ntmps43
    go_wp2_with fail
    refine bodyPost_ret (v := PV fun k => k == i) ?_ rfl ⟨rfl, below_trans (bel_up _ _) (bel_up _ _)⟩
    rw [results_cell1 rfl]
    unfold PV
    rw [E0.out, E1.out, ← wrap2 i h]
    go_simp
  · have hq : i / 64 = 1 := by omega
    have e0 := wd_one i
    have e1 := wd_one_other i 0 (by omega)
    rw [hq] at e0
    have E0 : Hid _ := e0
    have E1 : Hid _ := e1
    clear e0 e1
    go_enter Tryd.func43, Tryd.ntmps43
    go_wp2_with fail
    refine bodyPost_ret (v := PV fun k => k == i) ?_ rfl ⟨rfl, below_trans (bel_up _ _) (bel_up _ _)⟩
    rw [results_cell1 rfl]
    unfold PV
    rw [E0.out, E1.out, ← wrap2 (i % 64) (by omega)]
    go_simp

/-- Only the two cells at o of block b have turned. -/
structure Pu (b o : Nat) (W W' : World) : Prop where
  gr : W.grownBy W' (some b)
  sz : W'.heap.size = W.heap.size
  c : ∀ i, i ≠ o → i ≠ o + 1 → W'.cell? ⟨b, i, none⟩ = W.cell? ⟨b, i, none⟩
  f : ∀ i, W'.frozen? ⟨b, i, none⟩ = W.frozen? ⟨b, i, none⟩
theorem grown_set (W : World) (b o : Nat) (v : Value) : W.grownBy (W.setCell ⟨b, o, none⟩ v) (some b) :=
  ⟨rfl, rfl, rfl, by simp [World.setCell], fun k _ hk => Below.heap_setCell _ _ _ _ (fun e => hk (by simp [e]))⟩
theorem grown_drew (W : World) (r : Option Nat) : W.grownBy W.drew r := ⟨rfl, rfl, rfl, Nat.le_refl _, fun _ _ _ => rfl⟩
theorem grown_trans {A B C : World} {r : Option Nat} (h : A.grownBy B r) (k : B.grownBy C r) : A.grownBy C r :=
  ⟨k.os.trans h.os, k.tape.trans h.tape, k.output.trans h.output, Nat.le_trans h.size k.size, fun i hi hr => (k.block i (Nat.lt_of_lt_of_le hi h.size) hr).trans (h.block i hi hr)⟩
theorem Pu.refl (b o : Nat) (W : World) : Pu b o W W := ⟨⟨rfl, rfl, rfl, Nat.le_refl _, fun _ _ _ => rfl⟩, rfl, fun _ _ _ => rfl, fun _ => rfl⟩
theorem Pu.trans {b o : Nat} {A B C : World} (h : Pu b o A B) (k : Pu b o B C) : Pu b o A C :=
  ⟨grown_trans h.gr k.gr, k.sz.trans h.sz, fun i h1 h2 => (k.c i h1 h2).trans (h.c i h1 h2), fun i => (k.f i).trans (h.f i)⟩
theorem Pu.drew {b o : Nat} {A B : World} (h : Pu b o A B) : Pu b o A B.drew := ⟨grown_trans h.gr (grown_drew _ _), h.sz, h.c, h.f⟩
theorem Pu.set {b o : Nat} {A B : World} (h : Pu b o A B) (k : Nat) (hk : k = o ∨ k = o + 1) (v : Value) : Pu b o A (B.setCell ⟨b, k, none⟩ v) := by
  refine ⟨grown_trans h.gr (grown_set _ _ _ _), by rw [← h.sz]; simp [World.setCell], fun i h1 h2 => ?_, fun i => by rw [World.frozen?_setCell]; exact h.f i⟩
  rw [World.cell?_setCell_other _ _ _ _ (by intro e; injection e; omega)]
  exact h.c i h1 h2
theorem Bp.other {W W' : World} {b o c q : Nat} {m : Nat → Bool} (h : Bp W c q m) (k : Pu b o W W') (hne : b ≠ c) (hlt : c < W.heap.size) : Bp W' c q m := by
  have e := k.gr.block c hlt (by simp; exact fun e => hne e.symm)
  exact ⟨by rw [World.cell?_of_block (a := ⟨c, q, none⟩) e]; exact h.c0, by rw [World.cell?_of_block (a := ⟨c, q + 1, none⟩) e]; exact h.c1⟩
theorem Bp.lt {W : World} {b o : Nat} {m : Nat → Bool} (h : Bp W b o m) : b < W.heap.size := cell_lt h.c0

theorem Bp.put0 {W : World} {b o : Nat} {n n' : Nat → Bool} {x : Int} (h : Bp W b o n) (e0 : x = ((wd n' 0 : Nat) : Int)) (e1 : wd n' 1 = wd n 1) : Bp (W.setCell ⟨b, o, none⟩ (.int .u64 x)) b o n' := by
  refine ⟨?_, ?_⟩
  · rw [e0]; exact World.cell?_setCell_same' _ _ _ (by rw [h.c0]; rfl)
  · rw [World.cell?_setCell_other _ _ _ _ (by intro e; injection e; omega), e1]; exact h.c1
theorem Bp.put1 {W : World} {b o : Nat} {n n' : Nat → Bool} {x : Int} (h : Bp W b o n) (e1 : x = ((wd n' 1 : Nat) : Int)) (e0 : wd n' 0 = wd n 0) : Bp (W.setCell ⟨b, o + 1, none⟩ (.int .u64 x)) b o n' := by
  refine ⟨?_, ?_⟩
  · rw [World.cell?_setCell_other _ _ _ _ (by intro e; injection e; omega), e0]; exact h.c0
  · rw [e1]; exact World.cell?_setCell_same' _ _ _ (by rw [h.c1]; rfl)
theorem Bp.drewN {W : World} {b o k : Nat} {n : Nat → Bool} (h : Bp W b o n) : Bp (W.drewN k) b o n := ⟨h.c0, h.c1⟩
theorem Pu.drewN {b o k : Nat} {A B : World} (h : Pu b o A B) : Pu b o A (B.drewN k) := ⟨grown_trans h.gr ⟨rfl, rfl, rfl, Nat.le_refl _, fun _ _ _ => rfl⟩, h.sz, h.c, h.f⟩
theorem Bp.drew {W : World} {b o : Nat} {n : Nat → Bool} (h : Bp W b o n) : Bp W.drew b o n := ⟨h.c0, h.c1⟩

set_option maxRecDepth 100000 in
set_option maxHeartbeats 4000000 in
theorem padd_any (b o c q : Nat) (m m' : Nat → Bool) (w : World) (hP : Bp w b o m) (hQ : Bp w c q m') (hf : ∀ i, w.frozen? ⟨b, i, none⟩ = false) (hne : b ≠ c) :
    Calls Tryd.prog 32 #[.pointer (some ⟨b, o, none⟩), .pointer (some ⟨c, q, none⟩)] w fun e w' => (∃ v, e = .returned v) ∧ Bp w' b o (fun k => m k || m' k) ∧ Pu b o w w' := by
  have HQ : Hid (Bp w c q m') := hQ
  have HP : Hid (Bp w b o m) := hP
  have HF : Hid (∀ i, w.frozen? ⟨b, i, none⟩ = false) := hf
  have HN : Hid (b ≠ c) := hne
  clear hP hQ hf hne
  go_enter Tryd.func32, Tryd.ntmps32
  go_wp2_with fail
  go_loopg [7] 2 (fun g v wr => ∃ (k : Nat) (n : Nat → Bool), v = .int .i64 (k : Int) ∧ k ≤ 2 ∧ g = 2 - k ∧ n = (fun x => m x || (decide (x < 64 * k) && m' x)) ∧ Bp wr b o n ∧ Pu b o w wr)
  case atStart =>
    refine ⟨0, m, rfl, by omega, rfl, ?_, HP.out, Pu.refl _ _ _⟩
    funext x; simp
  case round =>
    obtain ⟨k, n, rfl, hk, hg, hn, hb, hu⟩ := hrel
    have HB : Hid (Bp wr b o n) := hb
    have HU : Hid (Pu b o w wr) := hu
    have HQ1 : Hid (Bp wr c q m') := HQ.out.other hu HN.out HQ.out.lt
    have hfr : ∀ i, wr.frozen? ⟨b, i, none⟩ = false := fun i => (hu.f i).trans (HF.out i)
    obtain ⟨q0, q1⟩ := HQ1.out
    obtain ⟨p0, p1⟩ := hb
    have f0 := hfr o
    have f1 := hfr (o + 1)
    have HE : Hid (n = (fun x => m x || (decide (x < 64 * k) && m' x))) := hn
    have HG : Hid (gk = 2 - k) := hg
    clear hu hfr hn hg
    rcases (by omega : k = 0 ∨ k = 1 ∨ k = 2) with rfl | rfl | rfl
    · go_wp2_with fail
      go_quiet (fail)
      go_wp2_with fail
      refine wp_region_noPanic ?_
      refine wp_region_held_drew (S := fun _ => True) (by kernel_rfl) trivial (fun hHeld => ?_)
      refine wpAnyH_take (i := 0) (oi := { dst := _, op := _, type := _, pos := _, after := _, guard := _ }) (v := ?_) rfl (by kernel_rfl) (by kernel_rfl) (by kernel_rfl) (fun _ _ _ h => h) (Or.inl ⟨by rfl, ?_⟩) (by assumption) ?_
      rotate_left
      · intro W hSw
        (try dsimp only at hSw)
        go_simp
        (try with_reducible rfl)
      try simp only [Act.put, List.setIfInBounds_toArray, List.set_cons_zero, List.set_cons_succ]
      refine wpAnyH_take (i := 1) (oi := { dst := _, op := _, type := _, pos := _, after := _, guard := _ }) (v := ?_) rfl (by kernel_rfl) (by kernel_rfl) (by kernel_rfl) (fun _ _ _ h => h) (Or.inl ⟨by rfl, ?_⟩) (by assumption) ?_
      rotate_left
      · intro W hSw
        (try dsimp only at hSw)
        go_simp
        (try with_reducible rfl)
      try simp only [Act.put, List.setIfInBounds_toArray, List.set_cons_zero, List.set_cons_succ]
      refine wpAnyH_take (i := 2) (oi := { dst := _, op := _, type := _, pos := _, after := _, guard := _ }) (v := ?_) rfl (by kernel_rfl) (by kernel_rfl) (by kernel_rfl) (fun _ _ _ h => h) (Or.inl ⟨by rfl, ?_⟩) (by assumption) ?_
      rotate_left
      · intro W hSw
        (try dsimp only at hSw)
        go_simp
        (try with_reducible rfl)
      try simp only [Act.put, List.setIfInBounds_toArray, List.set_cons_zero, List.set_cons_succ]
      refine wpAnyH_take (i := 3) (oi := { dst := _, op := _, type := _, pos := _, after := _, guard := _ }) (v := ?_) rfl (by kernel_rfl) (by kernel_rfl) (by kernel_rfl) (fun _ _ _ h => h) (Or.inl ⟨by rfl, ?_⟩) (by assumption) ?_
      rotate_left
      · intro W hSw
        (try dsimp only at hSw)
        go_simp
        (try with_reducible rfl)
      try simp only [Act.put, List.setIfInBounds_toArray, List.set_cons_zero, List.set_cons_succ]
      refine wpAnyH_take (i := 5) (oi := { dst := _, op := _, type := _, pos := _, after := _, guard := _ }) (v := ?_) rfl (by kernel_rfl) (by kernel_rfl) (by kernel_rfl) (fun _ _ _ h => h) (Or.inl ⟨by rfl, ?_⟩) (by assumption) ?_
      rotate_left
      · intro W hSw
        (try dsimp only at hSw)
        go_simp
        (try with_reducible rfl)
      try simp only [Act.put, List.setIfInBounds_toArray, List.set_cons_zero, List.set_cons_succ]
      refine wpAnyH_take (i := 7) (oi := { dst := _, op := _, type := _, pos := _, after := _, guard := _ }) (v := ?_) rfl (by kernel_rfl) (by kernel_rfl) (by kernel_rfl) (fun _ _ _ h => h) (Or.inl ⟨by rfl, ?_⟩) (by assumption) ?_
      rotate_left
      · intro W hSw
        (try dsimp only at hSw)
        go_simp
        (try with_reducible rfl)
      try simp only [Act.put, List.setIfInBounds_toArray, List.set_cons_zero, List.set_cons_succ]
      refine wpAnyH_ready (rs := [4]) (by kernel_rfl) (by simp) ?_
      refine AllReadyH.cons (o := { dst := _, op := _, type := _, pos := _, after := _, guard := _ }) rfl (fun K hK => ?_) AllReadyH.nil
      go_simp
      refine hK.out _ _ ?_ (fun hHeld => ?_)
      · exact trivial
      clear hK K
      try simp only [Act.put, List.setIfInBounds_toArray, List.set_cons_zero, List.set_cons_succ]
      refine wpAnyH_take (i := 6) (oi := { dst := _, op := _, type := _, pos := _, after := _, guard := _ }) (v := ?_) rfl (by kernel_rfl) (by kernel_rfl) (by kernel_rfl) (fun _ _ _ h => h) (Or.inl ⟨by rfl, ?_⟩) (by assumption) ?_
      rotate_left
      · intro W hSw
        (try dsimp only at hSw)
        go_simp
        (try with_reducible rfl)
      try simp only [Act.put, List.setIfInBounds_toArray, List.set_cons_zero, List.set_cons_succ]
      refine wpAnyH_take (i := 8) (oi := { dst := _, op := _, type := _, pos := _, after := _, guard := _ }) (v := ?_) rfl (by kernel_rfl) (by kernel_rfl) (by kernel_rfl) (fun _ _ _ h => h) (Or.inl ⟨by rfl, ?_⟩) (by assumption) ?_
      rotate_left
      · intro W hSw
        (try dsimp only at hSw)
        go_simp
        (try with_reducible rfl)
      try simp only [Act.put, List.setIfInBounds_toArray, List.set_cons_zero, List.set_cons_succ]
      refine wpAnyH_ready (rs := [9]) (by kernel_rfl) (by simp) ?_
      refine AllReadyH.cons (o := { dst := _, op := _, type := _, pos := _, after := _, guard := _ }) rfl (fun K hK => ?_) AllReadyH.nil
      go_simp
      refine hK.out _ _ ?_ (fun hHeld => ?_)
      · exact trivial
      clear hK K
      try simp only [Act.put, List.setIfInBounds_toArray, List.set_cons_zero, List.set_cons_succ]
      refine wpAnyH_done (by kernel_rfl) ?_ _
      refine NoPanic.normal ?_
      go_wp2_with fail
      go_roundg 1
      case measure => have := HG.out; omega
      case rel =>
        refine ⟨1, _, rfl, by omega, rfl, rfl, ?_, ?_⟩
        · refine Bp.put0 (n := n) HB.out.drewN ?_ ?_
          · rw [u64_pjoin, wd_congr (fun k => n k || m' k) (fun x => m x || (decide (x < 64 * 1) && m' x)) 0 (fun j hj => ?_)]
            rw [HE.out]
            have h1 : 64 * 0 + j < 64 * 1 := by omega
            have h0 : ¬ (64 * 0 + j < 64 * 0) := by omega
            simp only [h1, h0, decide_true, decide_false, Bool.true_and, Bool.false_and, Bool.or_false]
          · refine wd_congr _ _ _ (fun j hj => ?_)
            rw [HE.out]
            have : ¬ (64 * 1 + j < 64 * 1) := by omega
            simp [this]
        · exact Pu.set HU.out.drewN _ (.inl rfl) _
    · go_wp2_with fail
      go_quiet (fail)
      go_wp2_with fail
      refine wp_region_noPanic ?_
      refine wp_region_held_drew (S := fun _ => True) (by kernel_rfl) trivial (fun hHeld => ?_)
      refine wpAnyH_take (i := 0) (oi := { dst := _, op := _, type := _, pos := _, after := _, guard := _ }) (v := ?_) rfl (by kernel_rfl) (by kernel_rfl) (by kernel_rfl) (fun _ _ _ h => h) (Or.inl ⟨by rfl, ?_⟩) (by assumption) ?_
      rotate_left
      · intro W hSw
        (try dsimp only at hSw)
        go_simp
        (try with_reducible rfl)
      try simp only [Act.put, List.setIfInBounds_toArray, List.set_cons_zero, List.set_cons_succ]
      refine wpAnyH_take (i := 1) (oi := { dst := _, op := _, type := _, pos := _, after := _, guard := _ }) (v := ?_) rfl (by kernel_rfl) (by kernel_rfl) (by kernel_rfl) (fun _ _ _ h => h) (Or.inl ⟨by rfl, ?_⟩) (by assumption) ?_
      rotate_left
      · intro W hSw
        (try dsimp only at hSw)
        go_simp
        (try with_reducible rfl)
      try simp only [Act.put, List.setIfInBounds_toArray, List.set_cons_zero, List.set_cons_succ]
      refine wpAnyH_take (i := 2) (oi := { dst := _, op := _, type := _, pos := _, after := _, guard := _ }) (v := ?_) rfl (by kernel_rfl) (by kernel_rfl) (by kernel_rfl) (fun _ _ _ h => h) (Or.inl ⟨by rfl, ?_⟩) (by assumption) ?_
      rotate_left
      · intro W hSw
        (try dsimp only at hSw)
        go_simp
        (try with_reducible rfl)
      try simp only [Act.put, List.setIfInBounds_toArray, List.set_cons_zero, List.set_cons_succ]
      refine wpAnyH_take (i := 3) (oi := { dst := _, op := _, type := _, pos := _, after := _, guard := _ }) (v := ?_) rfl (by kernel_rfl) (by kernel_rfl) (by kernel_rfl) (fun _ _ _ h => h) (Or.inl ⟨by rfl, ?_⟩) (by assumption) ?_
      rotate_left
      · intro W hSw
        (try dsimp only at hSw)
        go_simp
        (try with_reducible rfl)
      try simp only [Act.put, List.setIfInBounds_toArray, List.set_cons_zero, List.set_cons_succ]
      refine wpAnyH_take (i := 5) (oi := { dst := _, op := _, type := _, pos := _, after := _, guard := _ }) (v := ?_) rfl (by kernel_rfl) (by kernel_rfl) (by kernel_rfl) (fun _ _ _ h => h) (Or.inl ⟨by rfl, ?_⟩) (by assumption) ?_
      rotate_left
      · intro W hSw
        (try dsimp only at hSw)
        go_simp
        (try with_reducible rfl)
      try simp only [Act.put, List.setIfInBounds_toArray, List.set_cons_zero, List.set_cons_succ]
      refine wpAnyH_take (i := 7) (oi := { dst := _, op := _, type := _, pos := _, after := _, guard := _ }) (v := ?_) rfl (by kernel_rfl) (by kernel_rfl) (by kernel_rfl) (fun _ _ _ h => h) (Or.inl ⟨by rfl, ?_⟩) (by assumption) ?_
      rotate_left
      · intro W hSw
        (try dsimp only at hSw)
        go_simp
        (try with_reducible rfl)
      try simp only [Act.put, List.setIfInBounds_toArray, List.set_cons_zero, List.set_cons_succ]
      refine wpAnyH_ready (rs := [4]) (by kernel_rfl) (by simp) ?_
      refine AllReadyH.cons (o := { dst := _, op := _, type := _, pos := _, after := _, guard := _ }) rfl (fun K hK => ?_) AllReadyH.nil
      go_simp
      refine hK.out _ _ ?_ (fun hHeld => ?_)
      · exact trivial
      clear hK K
      try simp only [Act.put, List.setIfInBounds_toArray, List.set_cons_zero, List.set_cons_succ]
      refine wpAnyH_take (i := 6) (oi := { dst := _, op := _, type := _, pos := _, after := _, guard := _ }) (v := ?_) rfl (by kernel_rfl) (by kernel_rfl) (by kernel_rfl) (fun _ _ _ h => h) (Or.inl ⟨by rfl, ?_⟩) (by assumption) ?_
      rotate_left
      · intro W hSw
        (try dsimp only at hSw)
        go_simp
        (try with_reducible rfl)
      try simp only [Act.put, List.setIfInBounds_toArray, List.set_cons_zero, List.set_cons_succ]
      refine wpAnyH_take (i := 8) (oi := { dst := _, op := _, type := _, pos := _, after := _, guard := _ }) (v := ?_) rfl (by kernel_rfl) (by kernel_rfl) (by kernel_rfl) (fun _ _ _ h => h) (Or.inl ⟨by rfl, ?_⟩) (by assumption) ?_
      rotate_left
      · intro W hSw
        (try dsimp only at hSw)
        go_simp
        (try with_reducible rfl)
      try simp only [Act.put, List.setIfInBounds_toArray, List.set_cons_zero, List.set_cons_succ]
      refine wpAnyH_ready (rs := [9]) (by kernel_rfl) (by simp) ?_
      refine AllReadyH.cons (o := { dst := _, op := _, type := _, pos := _, after := _, guard := _ }) rfl (fun K hK => ?_) AllReadyH.nil
      go_simp
      refine hK.out _ _ ?_ (fun hHeld => ?_)
      · exact trivial
      clear hK K
      try simp only [Act.put, List.setIfInBounds_toArray, List.set_cons_zero, List.set_cons_succ]
      refine wpAnyH_done (by kernel_rfl) ?_ _
      refine NoPanic.normal ?_
      go_wp2_with fail
      go_roundg 0
      case measure => have := HG.out; omega
      case rel =>
        refine ⟨2, _, rfl, by omega, rfl, rfl, ?_, ?_⟩
        · refine Bp.put1 (n := n) HB.out.drewN ?_ ?_
          · rw [u64_pjoin, wd_congr (fun k => n k || m' k) (fun x => m x || (decide (x < 64 * 2) && m' x)) 1 (fun j hj => ?_)]
            rw [HE.out]
            have h1 : ¬ (64 * 1 + j < 64 * 1) := by omega
            have h2 : 64 * 1 + j < 64 * 2 := by omega
            simp only [h1, h2, decide_true, decide_false, Bool.true_and, Bool.false_and, Bool.or_false]
          · refine wd_congr _ _ _ (fun j hj => ?_)
            rw [HE.out]
            have h1 : 64 * 0 + j < 64 * 1 := by omega
            have h2 : 64 * 0 + j < 64 * 2 := by omega
            simp only [h1, h2]
        · exact Pu.set HU.out.drewN _ (.inr rfl) _
    · go_wp2_with fail
      (try simp only [Exit.inBlock, Exit.then])
      go_end0
      refine ⟨⟨_, rfl⟩, ?_, HU.out⟩
      have e0 : wd n 0 = wd (fun k => m k || m' k) 0 := wd_congr _ _ _ (fun j hj => by
        rw [HE.out]
        have h2 : 64 * 0 + j < 64 * 2 := by omega
        simp only [h2, decide_true, Bool.true_and])
      have e1 : wd n 1 = wd (fun k => m k || m' k) 1 := wd_congr _ _ _ (fun j hj => by
        rw [HE.out]
        have h2 : 64 * 1 + j < 64 * 2 := by omega
        simp only [h2, decide_true, Bool.true_and])
      exact ⟨by rw [← e0]; exact HB.out.c0, by rw [← e1]; exact HB.out.c1⟩
end Go.Proofs.YtkjcnnecdclgfaaDoor
