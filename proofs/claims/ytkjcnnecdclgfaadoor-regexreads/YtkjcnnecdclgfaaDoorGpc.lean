import Derived.Test.YtkjcnnecdclgfaaDoorGpb
import Derived.RangeFuncNested
import Derived.RangeFuncBound
import Derived.RangeFuncCalls
import Derived.RangeFuncLeaves
import Derived.RangeFuncBox
import Derived.OrdersIn
import Derived.OrdersHeld
import Derived.Deep.RegionHeld
import Derived.Shelf.Abstract
import Derived.OwnWalkIn
import Derived.TacticsInMore
import Derived.LoopNIn
import Derived.LoopIn
namespace Go.Proofs.YtkjcnnecdclgfaaDoor
open Go.RowKit Go.Shelf
attribute [local go_sem] Oper.semAt_some

theorem low_lt {l : Nat} (h : l ≠ 0) : l &&& (l - 1) < l := Nat.lt_of_le_of_lt Nat.and_le_right (by omega)
/-- The tokens of a set, rising. -/
def bts (l : Nat) : List Nat := if h : l = 0 then [] else Lib.ctz 64 l :: bts (l &&& (l - 1))
termination_by l
decreasing_by exact low_lt h
theorem bts_zero : bts 0 = [] := by rw [bts]; rfl
theorem bts_pos {l : Nat} (h : l ≠ 0) : bts l = Lib.ctz 64 l :: bts (l &&& (l - 1)) := by rw [bts, dif_neg h]

/-- The lowest token, and what is left without it. -/
theorem low_bit {l : Nat} (h : l ≠ 0) (hl : l < 2 ^ 64) : ∃ k, Lib.ctz 64 l = k ∧ k < 64 ∧ l.testBit k = true ∧ (∀ j, j < k → l.testBit j = false) ∧ ∀ j, (l &&& (l - 1)).testBit j = (l.testBit j && decide (j ≠ k)) := by
  obtain ⟨m, hm, hk⟩ := Lib.ctzFrom_spec 64 l (Nat.pos_of_ne_zero h) hl
  have hc : Lib.ctz 64 l = Lib.ctzFrom 64 l := by unfold Lib.ctz; rw [if_neg h]
  obtain ⟨k, ek⟩ : ∃ k, Lib.ctzFrom 64 l = k := ⟨_, rfl⟩
  rw [ek] at hm hk hc
  have hp : 0 < 2 ^ k := Nat.two_pow_pos k
  have h1 : ∀ j, l.testBit j = if j < k then false else (2 * m + 1).testBit (j - k) := fun j => by
    have := Nat.testBit_two_pow_mul_add (2 * m + 1) hp j
    rw [Nat.add_zero, ← hm] at this
    rw [this, Nat.zero_testBit]
  have e2 : l - 1 = 2 ^ k * (2 * m) + (2 ^ k - 1) := by
    have h9 : l = 2 ^ k * (2 * m) + 2 ^ k := by rw [hm, Nat.mul_add, Nat.mul_one]
    omega
  have h2 : ∀ j, (l - 1).testBit j = if j < k then (2 ^ k - 1).testBit j else (2 * m).testBit (j - k) := fun j => by
    rw [e2]
    exact Nat.testBit_two_pow_mul_add (2 * m) (by omega) j
  refine ⟨k, hc, hk, ?_, fun j hj => ?_, fun j => ?_⟩
  · rw [h1, if_neg (Nat.lt_irrefl _), Nat.sub_self, Nat.testBit_zero]
    simp
  · rw [h1, if_pos hj]
  · rw [Nat.testBit_and, h1, h2]
    by_cases hj : j < k
    · rw [if_pos hj, Bool.false_and, Bool.false_and]
    · rw [if_neg hj, if_neg hj]
      by_cases hjk : j = k
      · subst hjk
        rw [Nat.sub_self, Nat.testBit_zero, Nat.testBit_zero]
        simp
      · obtain ⟨i, hi⟩ : ∃ i, j - k = i + 1 := ⟨j - k - 1, by omega⟩
        rw [hi, Nat.testBit_succ, Nat.testBit_succ, show (2 * m + 1) / 2 = m by omega, show (2 * m) / 2 = m by omega]
        simp [hjk]

/-- They are the tokens of the set, each once, rising; and there are no more than 64. -/
theorem bts_mem : ∀ (N l : Nat), l < N → l < 2 ^ 64 → (∀ c, c ∈ bts l ↔ l.testBit c = true) ∧ (bts l).Pairwise (· < ·) ∧ ∀ c ∈ bts l, c < 64
  | 0, l, h, _ => absurd h (Nat.not_lt_zero _)
  | N + 1, l, h, hl => by
    by_cases h0 : l = 0
    · subst h0
      rw [bts_zero]
      exact ⟨fun c => by simp, List.Pairwise.nil, fun c hc => absurd hc List.not_mem_nil⟩
    · obtain ⟨k, e, hk, k1, k2, k3⟩ := low_bit h0 hl
      obtain ⟨r1, r2, r3⟩ := bts_mem N (l &&& (l - 1)) (by have := low_lt h0; omega) (Nat.lt_trans (low_lt h0) hl)
      rw [bts_pos h0, e]
      refine ⟨fun c => ?_, ?_, fun c hc => ?_⟩
      · rw [List.mem_cons, r1, k3]
        by_cases hc : c = k
        · subst hc
          simp [k1]
        · simp [hc]
      · rw [List.pairwise_cons]
        refine ⟨fun c hc => ?_, r2⟩
        have h9 := (r1 c).1 hc
        rw [k3, Bool.and_eq_true, decide_eq_true_eq] at h9
        rcases Nat.lt_trichotomy c k with hlt | heq | hgt
        · rw [k2 c hlt] at h9
          exact absurd h9.1 (by decide)
        · exact absurd heq h9.2
        · exact hgt
      · rcases List.mem_cons.1 hc with rfl | hc
        · exact hk
        · exact r3 c hc

theorem rising_len : ∀ (l : List Nat) (a n : Nat), l.Pairwise (· < ·) → (∀ x ∈ l, a ≤ x ∧ x < n) → l.length ≤ n - a
  | [], _, _, _, _ => Nat.zero_le _
  | x :: l, a, n, h, hb => by
    rw [List.pairwise_cons] at h
    have h1 := hb x List.mem_cons_self
    have h2 := rising_len l (x + 1) n h.2 (fun y hy => ⟨h.1 y hy, (hb y (List.mem_cons_of_mem _ hy)).2⟩)
    rw [List.length_cons]
    omega
theorem bts_len {l : Nat} (h : l < 2 ^ 64) : (bts l).length ≤ 64 := by
  obtain ⟨-, h2, h3⟩ := bts_mem (l + 1) l (Nat.lt_succ_self l) h
  have := rising_len (bts l) 0 64 h2 (fun x hx => ⟨Nat.zero_le _, h3 x hx⟩)
  omega

/-- The places of a set. -/
def els (m : Nat → Bool) : List Nat := bts (wd m 0) ++ (bts (wd m 1)).map (64 + ·)
theorem els_mem (m : Nat → Bool) (p : Nat) : p ∈ els m ↔ p < 128 ∧ m p = true := by
  obtain ⟨a1, -, a3⟩ := bts_mem _ (wd m 0) (Nat.lt_succ_self _) (wd_lt m 0)
  obtain ⟨b1, -, b3⟩ := bts_mem _ (wd m 1) (Nat.lt_succ_self _) (wd_lt m 1)
  unfold els
  rw [List.mem_append, List.mem_map]
  constructor
  · rintro (h | ⟨c, h, rfl⟩)
    · have h1 := (a1 p).1 h
      rw [wd_bit] at h1
      have := a3 p h
      simp at h1
      exact ⟨by omega, h1.2⟩
    · have h1 := (b1 c).1 h
      rw [wd_bit] at h1
      have := b3 c h
      simp at h1
      exact ⟨by omega, h1.2⟩
  · rintro ⟨h1, h2⟩
    rcases Nat.lt_or_ge p 64 with h | h
    · left
      rw [a1, wd_bit]
      simp [h, h2]
    · right
      refine ⟨p - 64, ?_, by omega⟩
      rw [b1, wd_bit]
      have e : 64 * 1 + (p - 64) = p := by omega
      have h3 : p - 64 < 64 := by omega
      rw [e]
      simp [h3, h2]
theorem els_len (m : Nat → Bool) : (els m).length ≤ 128 := by
  unfold els
  rw [List.length_append, List.length_map]
  have := bts_len (wd_lt m 0)
  have := bts_len (wd_lt m 1)
  omega

theorem wide_deep {n : Nat} : Fence.wide.depth.isSome = true → 1 ≤ n := fun h => by simp [Fence.wide] at h
/-- Block 0 stays. -/
def Kp0 (W W' : World) : Prop := W'.heap[0]? = W.heap[0]?
theorem Kp0.trans {A B C : World} (h : Kp0 A B) (k : Kp0 B C) : Kp0 A C := Eq.trans k h
theorem Dbt.same {W W' : World} (h : Dbt W) (k : Kp0 W W') : Dbt W' := fun j hj => by rw [World.cell?_of_block (a := ⟨0, j, none⟩) k]; exact h j hj

set_option maxRecDepth 100000 in
set_option maxHeartbeats 4000000 in
theorem all1_in {bp l n : Nat} (m : Nat → Bool) (J Jx : List Nat → World → Prop) (W0 : World)
    (hY : ∀ (pre : List Nat) (x : Nat) (W : World), x ∈ els m → J pre W → pre.length < (els m).length → YieldAt Fence.wide (n - 1) Tryd.prog l #[.int .i64 (x : Int)] W fun e W' =>
      (e = .returned (.bool true) ∧ J (pre ++ [x]) W' ∧ Kp0 W W') ∨ (e = .returned (.bool false) ∧ Jx (pre ++ [x]) W'))
    (hp : Bp W0 bp 0 m) (hD : Dbt W0) (h0 : J [] W0) :
    CallsIn Fence.wide n Tryd.prog 47 #[.func (.yield l) #[] #[], .pointer (some ⟨bp, 0, none⟩)] W0 fun e W' => (∃ v, e = .returned v) ∧
      ((∃ ys, ys = els m ∧ J ys W') ∨ (∃ pre, pre <+: els m ∧ Jx pre W')) := by
  refine callsIn_of_wp Tryd.func47 rfl trivial ?_ rfl
  simp only [Tryd.ntmps47, List.size_toArray, List.length_cons, List.length_nil, Nat.reduceAdd, Nat.reduceSub, Array.replicate_succ, Array.replicate_zero, List.push_toArray, List.append_toArray, List.nil_append, List.cons_append]
  obtain ⟨p0, p1⟩ := hp
  simp only [Nat.zero_add] at p1
  have HY : Hid _ := hY
  have HD0 : Hid (Dbt W0) := hD
  have H0 : Hid (J [] W0) := h0
  clear hY hD h0
  gi_wp2
  clear p0 p1
  gi_loopw [6] (fun iv wr => ∃ k : Nat, iv = .int .i64 (k : Int) ∧ k ≤ 2 ∧ Hid (J (if k = 0 then [] else if k = 1 then bts (wd m 0) else els m) wr) ∧ Hid (Dbt wr)) (fun iv _ => 2 - (intOf iv).toNat)
  case atStart => exact ⟨0, rfl, by omega, H0, HD0⟩
  case round =>
    obtain ⟨k, rfl, hk, HJk, HD⟩ := hrel
    rcases (by omega : k = 0 ∨ k = 1 ∨ k = 2) with rfl | rfl | rfl
    · obtain ⟨a0, a1⟩ := agg2 (.int .u64 (wd m 0 : Nat)) (.int .u64 (wd m 1 : Nat))
      gi_wp2
      gi_loopw [4] (fun v wr => ∃ (x : Nat) (done : List Nat), v = .int .u64 (x : Int) ∧ Hid (x < 2 ^ 64) ∧ Hid (done ++ bts x = bts (wd m 0)) ∧ Hid (J ([] ++ done.map id) wr) ∧ Hid (Dbt wr)) (fun v _ => (intOf v).toNat)
      case atStart =>
        refine ⟨wd m 0, [], rfl, wd_lt m 0, by show [] ++ bts (wd m 0) = bts (wd m 0); rfl, ?_, HD⟩
        show J ([] ++ [].map id) wr
        rw [List.map_nil, List.append_nil]
        exact HJk.out
      case round =>
        obtain ⟨x, done, rfl, HX, HDN, HJ1, HD1⟩ := hrel
        by_cases hx0 : x = 0
        · subst hx0
          gi_wp2
          go_roundw
          case rel =>
            refine ⟨1, rfl, by omega, ?_, HD1⟩
            have h1 := HDN.out
            rw [bts_zero, List.append_nil] at h1
            have h2 := HJ1.out
            rw [h1] at h2
            have h3 : J (bts (wd m 0)) wr := by simpa [els] using h2
            exact h3
          case measure => simp [intOf]
        · have hx1 : ((x : Int) == 0) = false := by rw [beq_eq_false_iff_ne]; omega
          have hx2 : ((x : Int) != 0) = true := by rw [bne_iff_ne]; omega
          have HX0 : Hid (x ≠ 0) := hx0
          have hctz := tz_any x HX.out hx0 wr HD1.out
          obtain ⟨c, hc⟩ : ∃ c, Lib.ctz 64 x = c := ⟨_, rfl⟩
          rw [hc] at hctz
          have HC : Hid (Lib.ctz 64 x = c) := hc
          have HTZ : Hid (Calls Tryd.prog 48 #[.int .u64 (x : Int)] wr fun e w' => e = .returned (.int .i64 (c : Int)) ∧ w' = wr) := hctz
          have hc64 : c < 64 := by rw [← hc]; exact (Lib.lowest_bit 64 x hx0 HX.out).2
          obtain ⟨y, hy0⟩ : ∃ y : Nat, y = 0 + c := ⟨_, rfl⟩
          have HY0 : Hid (y = 0 + c) := hy0
          have hw : wrap64 ((c : Int)) = (y : Int) := by unfold wrap64; omega
          have hlow : bits .and .u64 (x : Int) (IntKind.u64.wrap ((x : Int) - 1)) = ((x &&& (x - 1) : Nat) : Int) := by
            have h1 : IntKind.u64.wrap ((x : Int) - 1) = ((x - 1 : Nat) : Int) := by
              rw [show ((x : Int) - 1) = ((x - 1 : Nat) : Int) by omega]
              exact wrap_u _ (by have := HX.out; omega)
            rw [h1, (u64_nat _ _ HX.out (by have := HX.out; omega)).1]
          obtain ⟨x', hx'⟩ : ∃ x', x &&& (x - 1) = x' := ⟨_, rfl⟩
          rw [hx'] at hlow
          have HXX : Hid (x &&& (x - 1) = x') := hx'
          have HLO : Hid _ := hlow
          obtain ⟨fn, tmps, assign, body, hyy, hR⟩ := HY.out ([] ++ done.map id) y wr (by
            have h1 : c ∈ bts (wd m 0) := by rw [← HDN.out, bts_pos hx0, hc]; simp
            rw [hy0, Nat.zero_add]
            exact List.mem_append.2 (.inl h1)) HJ1.out (by
            have h1 := congrArg List.length HDN.out
            rw [bts_pos hx0] at h1
            simp only [List.length_append, List.length_cons, List.length_map] at h1 ⊢
            have h2 : (els m).length = (bts (wd m 0)).length + (bts (wd m 1)).length := by unfold els; rw [List.length_append, List.length_map]
            simp only [List.length_nil]
            omega)
          (try dsimp only at hyy)
          have HR : Hid _ := hR
          clear hR hctz hc hx0 hx' hy0 hc64
          gi_wp2
          refine ⟨trivial, wide_deep, (callsIn_wide.2 HTZ.out).mono ?_⟩
          rintro e w3 ⟨rfl, rfl⟩
          gi_wp2
          refine ⟨wide_deep, RoundIn.mono HR.out ?_⟩
          have key : [] ++ done.map id ++ [y] = [] ++ (done ++ [c]).map id := by
            rw [List.map_append, ← List.append_assoc]
            congr 1
            rw [HY0.out]
            simp
          have hdn : done ++ [c] ++ bts x' = bts (wd m 0) := by
            rw [← HDN.out, bts_pos HX0.out, HC.out, HXX.out]
            simp
          rintro e W3 (⟨rfl, hJ3, hk3⟩ | ⟨rfl, hJx3⟩)
          · have HD3 : Hid (Dbt W3) := Dbt.same HD1.out hk3
            rw [key] at hJ3
            have HJ3 : Hid _ := hJ3
            have HDN3 : Hid _ := hdn
            clear key hdn hk3 hJ3
            have hlow := HLO.out
            gi_wp2
            go_roundw
            case rel => exact ⟨x', done ++ [c], rfl, Nat.lt_trans (HXX.out ▸ low_lt HX0.out) HX.out, HDN3, HJ3, HD3⟩
            case measure =>
              simp only [intOf, Int.toNat_natCast]
              have := low_lt HX0.out
              rw [HXX.out] at this
              exact this
          · gi_wp2
            refine bodyPost_ret (results_none rfl _ _ _) rfl ?_
            refine ⟨⟨_, rfl⟩, .inr ⟨_, ?_, hJx3⟩⟩
            rw [key]
            unfold els
            rw [← hdn]
            exact ⟨bts x' ++ (bts (wd m 1)).map (64 + ·), by simp⟩
    · obtain ⟨a0, a1⟩ := agg2 (.int .u64 (wd m 0 : Nat)) (.int .u64 (wd m 1 : Nat))
      gi_wp2
      gi_loopw [4] (fun v wr => ∃ (x : Nat) (done : List Nat), v = .int .u64 (x : Int) ∧ Hid (x < 2 ^ 64) ∧ Hid (done ++ bts x = bts (wd m 1)) ∧ Hid (J (bts (wd m 0) ++ done.map (64 + ·)) wr) ∧ Hid (Dbt wr)) (fun v _ => (intOf v).toNat)
      case atStart =>
        refine ⟨wd m 1, [], rfl, wd_lt m 1, by show [] ++ bts (wd m 1) = bts (wd m 1); rfl, ?_, HD⟩
        show J (bts (wd m 0) ++ [].map (64 + ·)) wr
        rw [List.map_nil, List.append_nil]
        exact HJk.out
      case round =>
        obtain ⟨x, done, rfl, HX, HDN, HJ1, HD1⟩ := hrel
        by_cases hx0 : x = 0
        · subst hx0
          gi_wp2
          go_roundw
          case rel =>
            refine ⟨2, rfl, by omega, ?_, HD1⟩
            have h1 := HDN.out
            rw [bts_zero, List.append_nil] at h1
            have h2 := HJ1.out
            rw [h1] at h2
            have h3 : J (els m) wr := by simpa [els] using h2
            exact h3
          case measure => simp [intOf]
        · have hx1 : ((x : Int) == 0) = false := by rw [beq_eq_false_iff_ne]; omega
          have hx2 : ((x : Int) != 0) = true := by rw [bne_iff_ne]; omega
          have HX0 : Hid (x ≠ 0) := hx0
          have hctz := tz_any x HX.out hx0 wr HD1.out
          obtain ⟨c, hc⟩ : ∃ c, Lib.ctz 64 x = c := ⟨_, rfl⟩
          rw [hc] at hctz
          have HC : Hid (Lib.ctz 64 x = c) := hc
          have HTZ : Hid (Calls Tryd.prog 48 #[.int .u64 (x : Int)] wr fun e w' => e = .returned (.int .i64 (c : Int)) ∧ w' = wr) := hctz
          have hc64 : c < 64 := by rw [← hc]; exact (Lib.lowest_bit 64 x hx0 HX.out).2
          obtain ⟨y, hy0⟩ : ∃ y : Nat, y = 64 + c := ⟨_, rfl⟩
          have HY0 : Hid (y = 64 + c) := hy0
          have hw : wrap64 (64 + (c : Int)) = (y : Int) := by unfold wrap64; omega
          have hlow : bits .and .u64 (x : Int) (IntKind.u64.wrap ((x : Int) - 1)) = ((x &&& (x - 1) : Nat) : Int) := by
            have h1 : IntKind.u64.wrap ((x : Int) - 1) = ((x - 1 : Nat) : Int) := by
              rw [show ((x : Int) - 1) = ((x - 1 : Nat) : Int) by omega]
              exact wrap_u _ (by have := HX.out; omega)
            rw [h1, (u64_nat _ _ HX.out (by have := HX.out; omega)).1]
          obtain ⟨x', hx'⟩ : ∃ x', x &&& (x - 1) = x' := ⟨_, rfl⟩
          rw [hx'] at hlow
          have HXX : Hid (x &&& (x - 1) = x') := hx'
          have HLO : Hid _ := hlow
          obtain ⟨fn, tmps, assign, body, hyy, hR⟩ := HY.out (bts (wd m 0) ++ done.map (64 + ·)) y wr (by
            have h1 : c ∈ bts (wd m 1) := by rw [← HDN.out, bts_pos hx0, hc]; simp
            rw [hy0]
            exact List.mem_append.2 (.inr (List.mem_map.2 ⟨c, h1, rfl⟩))) HJ1.out (by
            have h1 := congrArg List.length HDN.out
            rw [bts_pos hx0] at h1
            simp only [List.length_append, List.length_cons, List.length_map] at h1 ⊢
            have h2 : (els m).length = (bts (wd m 0)).length + (bts (wd m 1)).length := by unfold els; rw [List.length_append, List.length_map]
            skip
            omega)
          (try dsimp only at hyy)
          have HR : Hid _ := hR
          clear hR hctz hc hx0 hx' hy0 hc64
          gi_wp2
          refine ⟨trivial, wide_deep, (callsIn_wide.2 HTZ.out).mono ?_⟩
          rintro e w3 ⟨rfl, rfl⟩
          gi_wp2
          refine ⟨wide_deep, RoundIn.mono HR.out ?_⟩
          have key : bts (wd m 0) ++ done.map (64 + ·) ++ [y] = bts (wd m 0) ++ (done ++ [c]).map (64 + ·) := by
            rw [List.map_append, ← List.append_assoc]
            congr 1
            rw [HY0.out]
            simp
          have hdn : done ++ [c] ++ bts x' = bts (wd m 1) := by
            rw [← HDN.out, bts_pos HX0.out, HC.out, HXX.out]
            simp
          rintro e W3 (⟨rfl, hJ3, hk3⟩ | ⟨rfl, hJx3⟩)
          · have HD3 : Hid (Dbt W3) := Dbt.same HD1.out hk3
            rw [key] at hJ3
            have HJ3 : Hid _ := hJ3
            have HDN3 : Hid _ := hdn
            clear key hdn hk3 hJ3
            have hlow := HLO.out
            gi_wp2
            go_roundw
            case rel => exact ⟨x', done ++ [c], rfl, Nat.lt_trans (HXX.out ▸ low_lt HX0.out) HX.out, HDN3, HJ3, HD3⟩
            case measure =>
              simp only [intOf, Int.toNat_natCast]
              have := low_lt HX0.out
              rw [HXX.out] at this
              exact this
          · gi_wp2
            refine bodyPost_ret (results_none rfl _ _ _) rfl ?_
            refine ⟨⟨_, rfl⟩, .inr ⟨_, ?_, hJx3⟩⟩
            rw [key]
            unfold els
            rw [← hdn]
            exact ⟨(bts x').map (64 + ·), by simp⟩
    · gi_wp2
      go_end0
      exact ⟨⟨_, rfl⟩, .inl ⟨_, rfl, HJk.out⟩⟩

theorem all_stops {bp n : Nat} (m : Nat → Bool) (w : World) (hp : Bp w bp 0 m) (hD : Dbt w) :
    SeqStopsK Fence.wide n Tryd.prog 47 #[.pointer (some ⟨bp, 0, none⟩)] (fun x : {p : Nat // p ∈ els m} => #[Value.int .i64 (x.val : Int)]) Kp0 (fun ys => ys.map Subtype.val = els m) (fun pre => pre.map Subtype.val <+: els m) (els m).length w := by
  intro l J Jx W hW hJ hJx hY h0
  refine (all1_in (n := n) (l := l) m (fun pre W => ∃ F : List ({p : Nat // p ∈ els m}), F.map Subtype.val = pre ∧ J F W) (fun pre W => ∃ F : List ({p : Nat // p ∈ els m}), F.map Subtype.val = pre ∧ Jx F W) W ?_ ⟨below_cell hW hp.c0, below_cell hW hp.c1⟩ (hD.up hW) ⟨[], rfl, h0⟩).mono ?_
  · rintro pre x W1 hx ⟨F, rfl, hF⟩ hlen
    obtain ⟨fn, tmps, assign, body, h1, h2⟩ := hY F ⟨x, hx⟩ W1 hF (by simpa using hlen)
    refine ⟨fn, tmps, assign, body, h1, RoundIn.mono h2 ?_⟩
    rintro e W' (⟨rfl, h3, h4⟩ | ⟨rfl, h3⟩)
    · exact .inl ⟨rfl, ⟨F ++ [⟨x, hx⟩], by simp, h3⟩, h4⟩
    · exact .inr ⟨rfl, ⟨F ++ [⟨x, hx⟩], by simp, h3⟩⟩
  · rintro e W' ⟨h1, ⟨ys, rfl, F, h2, h3⟩ | ⟨pre, h2, F, rfl, h3⟩⟩
    · exact ⟨h1, .inl ⟨F, h2, h3⟩⟩
    · exact ⟨h1, .inr ⟨F, h2, h3⟩⟩
theorem kp0_b {w : World} (h0 : 0 < w.heap.size) (W : World) (l : Nat) (o o' : Obj) (hl : w.heap.size ≤ l) (_ : W.heap[l]? = some o) (_ : o.isCells = false) (_ : o.isWalk = false) : Kp0 W (W.putObj l o') :=
  World.putObj_heap_other (by omega)
end Go.Proofs.YtkjcnnecdclgfaaDoor
