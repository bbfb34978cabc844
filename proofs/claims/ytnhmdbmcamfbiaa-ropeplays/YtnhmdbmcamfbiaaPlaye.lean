import Derived.Test.YtnhmdbmcamfbiaaPlayd
namespace Go.Proofs.Ytnhmdbmcamfbiaa
open Go.RowKit

theorem plays_any (k n : Nat) (q q1 a d : Int) (ins : ByteArray) (A N : Int) (w0 w : World) (h : Full w0 w k n) (hn : n ≤ 10000000000000) (hi : ins.size ≤ 9223372036854775807) :
    Calls Try.prog 27 #[.pointer (some ⟨k, 0, none⟩), .agg #[.int .i64 q, .int .i64 q1, .int .i64 a, .int .i64 d, .string ins, .int .i64 A, .int .i64 N]] w fun e w' => e = .returned (.bool true) ∧ Full w0 w' k (n + 1) := by
  by_cases h5 : q = 5
  · subst h5; exact plays_splice k n q1 a d ins A N w0 w h hn hi
  by_cases h7 : q = 7
  · subst h7; exact plays_cursor k n q1 a d ins A N w0 w h hn
  by_cases h8 : q < 8
  · exact plays_asks k n q q1 a d ins A N w0 w h hn h5 h7 h8
  obtain ⟨rv, mv, cv, kv, R, M, C, K, hb, e1, e2, l1, l2⟩ := h
  by_cases hc : C.length = 0
  · exact plays_none k n q q1 a d ins A N w0 w rv mv cv kv R M C K hb e1 e2 l1 l2 hn (by omega) hc
  · exact plays_moves k n q q1 a d ins A N w0 w rv mv cv kv R M C K hb e1 e2 l1 l2 hn (by omega) (by omega)

/-- the cells of the steps that came in: seven a step -/
def IsSteps (w : World) (a0 : Option Addr) (len : Nat) : Prop :=
  ∀ i, i < len → ∃ blk off, a0 = some ⟨blk, off, none⟩ ∧ ∃ (q q1 a d : Int) (ins : ByteArray) (A N : Int), ins.size ≤ 9223372036854775807 ∧
    w.cell? ⟨blk, off + i * 7, none⟩ = some (.int .i64 q) ∧ w.cell? ⟨blk, off + i * 7 + 1, none⟩ = some (.int .i64 q1) ∧ w.cell? ⟨blk, off + i * 7 + 2, none⟩ = some (.int .i64 a) ∧ w.cell? ⟨blk, off + i * 7 + 3, none⟩ = some (.int .i64 d) ∧ w.cell? ⟨blk, off + i * 7 + 4, none⟩ = some (.string ins) ∧ w.cell? ⟨blk, off + i * 7 + 5, none⟩ = some (.int .i64 A) ∧ w.cell? ⟨blk, off + i * 7 + 6, none⟩ = some (.int .i64 N)

theorem full_init {w w2 : World} {b m : Nat} {s : ByteArray} (hb : Below w.heap.size w w2) (hr : RopeAt w2 b s.data.toList) (hm : ModelAt w2 m s) :
    Full w (((w2.alloc (.cells #[.pointer (some ⟨b, 0, none⟩)] 24)).alloc (.cells #[.pointer (some ⟨m, 0, none⟩)] 56)).alloc (.cells #[.slice (some ⟨w2.heap.size, 0, none⟩) 1 1, .slice (some ⟨w2.heap.size + 1, 0, none⟩) 1 1, .slice none 0 0, .slice none 0 0] 63)) (w2.heap.size + 2) 0 := by
  obtain ⟨w3, h3⟩ : ∃ w3, w3 = w2.alloc (.cells #[.pointer (some ⟨b, 0, none⟩)] 24) := ⟨_, rfl⟩
  have b3 : Below w2.heap.size w2 w3 := by rw [h3]; exact alloc_below _ _
  have z3 : w3.heap.size = w2.heap.size + 1 := by rw [h3]; simp
  have o1 : w3.ownsRow w.heap.size 24 1 (.slice (some ⟨w2.heap.size, 0, none⟩) 1 1) 1 [.pointer (some ⟨b, 0, none⟩)] := by rw [h3]; exact World.ownsRow_lit w2 _ 1 hb.size (by unfold maxLen; omega) rfl
  rw [← h3]
  obtain ⟨w4, h4⟩ : ∃ w4, w4 = w3.alloc (.cells #[.pointer (some ⟨m, 0, none⟩)] 56) := ⟨_, rfl⟩
  have b4 : Below w3.heap.size w3 w4 := by rw [h4]; exact alloc_below _ _
  have z4 : w4.heap.size = w2.heap.size + 2 := by rw [h4]; simp [z3]
  have o2 : w4.ownsRow w.heap.size 56 1 (.slice (some ⟨w2.heap.size + 1, 0, none⟩) 1 1) 1 [.pointer (some ⟨m, 0, none⟩)] := by
    have := World.ownsRow_lit (base := w.heap.size) (e := 56) (size := 1) w3 #[.pointer (some ⟨m, 0, none⟩)] 1 (by have := hb.size; omega) (by unfold maxLen; omega) rfl
    rw [z3] at this
    rw [h4]
    exact this
  rw [← h4]
  have b5 := alloc_below w4 (.cells #[.slice (some ⟨w2.heap.size, 0, none⟩) 1 1, .slice (some ⟨w2.heap.size + 1, 0, none⟩) 1 1, .slice none 0 0, .slice none 0 0] 63)
  have n5 := heap_alloc_new w4 (.cells #[.slice (some ⟨w2.heap.size, 0, none⟩) 1 1, .slice (some ⟨w2.heap.size + 1, 0, none⟩) 1 1, .slice none 0 0, .slice none 0 0] 63)
  rw [z4] at n5
  generalize w4.alloc (.cells #[.slice (some ⟨w2.heap.size, 0, none⟩) 1 1, .slice (some ⟨w2.heap.size + 1, 0, none⟩) 1 1, .slice none 0 0, .slice none 0 0] 63) = w5 at *
  have b25 := below_trans b3 (below_trans b4 b5)
  refine ⟨_, _, _, _, [(b, s)], [(m, s)], [], [], ⟨n5, by have := hb.size; omega, own_mono (own_mono o1 b4) b5, own_mono o2 b5, World.ownsRow_nil _ _ _ _, World.ownsRow_nil _ _ _ _, by simp, by simp, fun _ => rfl, fun _ => rfl, ⟨?_, ?_, by simp, by simp, by simp, by simp, by simp, by simp, below_trans hb b25⟩⟩, rfl, rfl, by simp, by simp⟩
  · intro x hx
    simp at hx
    subst hx
    exact hr.mono b25
  · intro x hx
    simp at hx
    subst hx
    exact hm.mono b25

def RelP (w0 : World) (kb len k : Nat) (i : Value) (wr : World) : Prop :=
  ∃ (j : Nat), i = .int .i64 (j : Int) ∧ Full w0 wr kb j ∧ j ≤ len ∧ k = len - j
theorem Full.below {w0 w : World} {k n : Nat} (h : Full w0 w k n) : Below w0.heap.size w0 w := by
  obtain ⟨rv, mv, cv, kv, R, M, C, K, hb, _⟩ := h
  exact hb.con.below

set_option maxRecDepth 100000 in
set_option maxHeartbeats 2000000 in
theorem plays_walk (s : ByteArray) (a0 : Option Addr) (len cap : Nat) (w : World) (hs : s.size ≤ 1048576) (hlen : len ≤ 4000000000000) (hch : IsSteps w a0 len) :
    Calls Try.prog 8 #[.string s, .slice a0 len cap] w fun e w' => e = .returned (.bool true) ∧ Below w.heap.size w w' := by
  have HC : Hid _ := hch
  have HS : Hid _ := hs
  clear hch hs
  go_enter Try.func8, Try.ntmps8
  go_wp2_with fail
  refine (new_fresh s _ HS.out).mono ?_
  rintro e w1 ⟨b, rfl, hr, hb⟩
  have HR : Hid _ := hr
  have B1 : Hid _ := hb
  clear hb hr
  go_wp2_with fail
  refine (rnew_any s _ HS.out).mono ?_
  rintro e w2 ⟨m, rfl, hm, hb⟩
  have HR2 : Hid _ := HR.out.mono hb
  have HM2 : Hid _ := hm
  have B2 : Hid _ := below_trans B1.out hb
  clear hb hm
  go_wp2_with fail
  have hst : Hid _ := full_init B2.out HR2.out HM2.out
  go_loopg [8] len (fun k i wr => RelP w (w2.heap.size + 2) len k i wr)
  case atStart => exact ⟨0, rfl, hst.out, Nat.zero_le _, by omega⟩
  case round =>
    obtain ⟨j, rfl, hst, hjl, hk⟩ := hrel
    have ST : Hid _ := hst
    have HK : Hid _ := hk
    clear hst hk
    by_cases hlt : j < len
    · obtain ⟨blk, off, rfl, q, q1, a, d, ins, A, N, hins, k0, k1, k2, k3, k4, k5, k6⟩ := HC.out j hlt
      have hB := Full.below ST.out
      have k0' := below_cell hB k0
      have k1' := below_cell hB k1
      have k2' := below_cell hB k2
      have k3' := below_cell hB k3
      have k4' := below_cell hB k4
      have k5' := below_cell hB k5
      have k6' := below_cell hB k6
      clear k0 k1 k2 k3 k4 k5 k6 hB
      go_wp2_with fail
      refine (plays_any _ j q q1 a d ins A N w _ ST.out (by omega) hins).mono ?_
      rintro e w5 ⟨rfl, hf⟩
      have ST5 : Hid _ := hf
      clear hf k0' k1' k2' k3' k4' k5' k6'
      go_wp2_with fail
      go_roundg (len - (j + 1))
      case measure => have := HK.out; omega
      case rel => exact ⟨j + 1, by go_num, ST5.out, by omega, rfl⟩
    · have hdB : decide (j < len) = false := by rw [decide_eq_false_iff_not]; omega
      clear hlt
      go_wp2_with fail
      go_ret
      exact ⟨rfl, Full.below ST.out⟩

set_option maxRecDepth 100000 in
set_option maxHeartbeats 1000000 in
theorem plays_big (s : ByteArray) (v : Value) (w : World) (hs : 1048576 < s.size) :
    Calls Try.prog 8 #[.string s, v] w fun e w' => e = .returned (.bool true) ∧ Below w.heap.size w w' := by
  go_enter Try.func8, Try.ntmps8
  go_wp2_with fail
  refine (new_big s _ hs).mono ?_
  rintro e w' ⟨rfl, rfl⟩
  go_wp2_with fail
  refine (rnew_big s _ hs).mono ?_
  rintro e w' ⟨rfl, rfl⟩
  go_wp2_with fail
  go_ret
  exact ⟨rfl, Below.refl _ _⟩
end Go.Proofs.Ytnhmdbmcamfbiaa
