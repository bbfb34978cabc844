import Derived.Test.YtnhmdbmcamfbiaaBack
import Derived.Deep.LoopGhost
import Derived.Deep.RegionWith
import Derived.Laws.BytesArg
import Derived.Deep.Cut
import Derived.Deep.CutRange
namespace Go.Proofs.Ytnhmdbmcamfbiaa
open Go.RowKit

/-- the string of one byte -/
theorem one_byte (c : Int) : ∃ one : ByteArray, one.size = 1 ∧ ∀ wr : World, (convert 23 9 (.slice (some ⟨wr.heap.size, 0, none⟩) 1 1)).run Try.prog (wr.alloc (.cells #[.int .u8 c] 5)).drew = .ok (.string one) (wr.alloc (.cells #[.int .u8 c] 5)).drew := by
  refine ⟨strOfNums [c], by simp [strOfNums, ByteArray.size], fun wr => ?_⟩
  have hc : ∀ i, i < 1 → (wr.alloc (.cells #[.int .u8 c] 5)).drew.cell? ⟨wr.heap.size, 0 + i, none⟩ = some (.int .u8 ([c].getD i 0)) := by
    intro i hi
    have h0 : i = 0 := by omega
    subst h0
    simp
  exact run_convert_bytes_arg _ 23 5 Try.underlying23 Try.underlying5 wr.heap.size 0 1 1 [c] rfl hc 9 Try.underlying9

theorem splice_one (b : Nat) (txt : List UInt8) (n : Int) (one : ByteArray) (j : Nat) (w : World) (h1 : one.size = 1) (hj : txt.length = j) (hlt : j < 1048576) (h : IsRope w b txt) :
    ∀ W, Below w.heap.size w W → Calls Try.prog 11 #[.pointer (some ⟨b, 0, none⟩), .agg #[.int .i64 n, .int .i64 0, .string one]] W fun e w' => ∃ b' txt', e = .returned (.tuple #[.pointer (some ⟨b', 0, none⟩), .int .i64 0]) ∧ IsRope w' b' txt' ∧ txt'.length = j + 1 ∧ Below W.heap.size W w' := by
  intro W hW
  have H1 := cl_bd n txt.length (by omega)
  have e0 : cl 0 (txt.length - cl n txt.length) = 0 := by unfold cl; split <;> (try split) <;> omega
  refine (splice_ok b txt n 0 one W (h.mono hW) (by rw [e0, h1]; omega)).mono ?_
  rintro e w' ⟨b', rfl, hr, hb⟩
  have hl := after_len txt n 0 one
  rw [e0, h1] at hl
  exact ⟨b', _, rfl, hr, by omega, hb⟩
theorem splice_full (b : Nat) (txt : List UInt8) (n : Int) (one : ByteArray) (w : World) (h1 : one.size = 1) (hj : txt.length = 1048576) (h : IsRope w b txt) :
    ∀ W, Below w.heap.size w W → Calls Try.prog 11 #[.pointer (some ⟨b, 0, none⟩), .agg #[.int .i64 n, .int .i64 0, .string one]] W fun e w' => e = .returned (.tuple #[.pointer none, .int .i64 10]) ∧ Below W.heap.size W w' := by
  intro W hW
  have H1 := cl_bd n txt.length (by omega)
  have e0 : cl 0 (txt.length - cl n txt.length) = 0 := by unfold cl; split <;> (try split) <;> omega
  exact splice_big b txt n 0 one W (h.mono hW) (by rw [e0, h1]; omega)
theorem splice_less (b : Nat) (txt : List UInt8) (n : Int) (j : Nat) (w : World) (hj : txt.length = j + 1) (h : IsRope w b txt) :
    ∀ W, Below w.heap.size w W → Calls Try.prog 11 #[.pointer (some ⟨b, 0, none⟩), .agg #[.int .i64 (cl n j), .int .i64 1, .string ⟨#[]⟩]] W fun e w' => ∃ b' txt', e = .returned (.tuple #[.pointer (some ⟨b', 0, none⟩), .int .i64 0]) ∧ IsRope w' b' txt' ∧ txt'.length = j ∧ Below W.heap.size W w' := by
  intro W hW
  have hl := h.len
  have H1 := cl_bd n j (by omega)
  have e0 : cl (cl n j) txt.length = cl n j := cl_id H1.1 (by omega)
  have e1 : cl 1 (txt.length - cl (cl n j) txt.length) = 1 := cl_id (by omega) (by omega)
  have es : (⟨#[]⟩ : ByteArray).size = 0 := rfl
  refine (splice_ok b txt (cl n j) 1 ⟨#[]⟩ W (h.mono hW) (by rw [e1, es]; omega)).mono ?_
  rintro e w' ⟨b', rfl, hr, hb⟩
  have hl := after_len txt (cl n j) 1 ⟨#[]⟩
  rw [e1, es] at hl
  exact ⟨b', _, rfl, hr, by omega, hb⟩

/-- where the first loop stands -/
def Grown1 (w : World) (len k : Nat) (r i : Value) (wr : World) : Prop :=
  ∃ (b j : Nat) (txt : List UInt8), r = .pointer (some ⟨b, 0, none⟩) ∧ i = .int .i64 (j : Int) ∧ IsRope wr b txt ∧ txt.length = j ∧ j ≤ len ∧ k = len - j ∧ Below w.heap.size w wr

def Shrunk (w : World) (len k : Nat) (r i : Value) (wr : World) : Prop :=
  ∃ (b j : Nat) (txt : List UInt8), r = .pointer (some ⟨b, 0, none⟩) ∧ i = .int .i64 (j : Int) ∧ IsRope wr b txt ∧ txt.length = j ∧ j ≤ len ∧ k = j ∧ Below w.heap.size w wr

set_option maxRecDepth 100000 in
set_option maxHeartbeats 2000000 in
theorem low_walk (blk off len cap : Nat) (c : Int) (w : World) (hlen : len ≤ 9223372036854775807)
    (hcell : ∀ i, i < len → ∃ n : Int, w.cell? ⟨blk, off + i, none⟩ = some (.int .i64 n)) :
    Calls Try.prog 4 #[.slice (some ⟨blk, off, none⟩) len cap, .int .u8 c] w fun e w' => e = .returned (.bool true) ∧ Below w.heap.size w w' := by
  have HC : Hid _ := hcell
  clear hcell
  obtain ⟨one, h1, hone⟩ := one_byte c
  have H1 : Hid _ := h1
  clear h1
  go_enter Try.func4, Try.ntmps4
  go_wp2_with fail
  refine (new_any ⟨#[]⟩ w (by decide)).mono ?_
  rintro e w1 ⟨b, rfl, hr, hb⟩
  have HR : Hid (IsRope w1 b []) := hr
  have B1 : Hid _ := hb
  clear hr hb
  go_wp2_with fail
  refine (len_any b [] _ HR.out).mono ?_
  rintro e w' ⟨rfl, rfl⟩
  go_wp2_with fail
  refine (depth_any b [] _ HR.out).mono ?_
  rintro e w' ⟨d, rfl, d1, d2, rfl⟩
  clear d2
  go_wp2_with fail
  go_loopg [5, 6] len (fun k r i wr => Grown1 w len k r i wr)
  case atStart => exact ⟨b, 0, [], rfl, rfl, HR.out, rfl, Nat.zero_le _, by omega, B1.out⟩
  case round =>
    obtain ⟨b, j, txt, rfl, rfl, hr, hj, hle, hk, hb⟩ := hrel
    have HR : Hid _ := hr
    have HJ : Hid _ := hj
    have HK : Hid _ := hk
    have B1 : Hid _ := hb
    clear hr hj hk hb
    by_cases hlt : j < len
    · obtain ⟨n, hn⟩ := HC.out j hlt
      have hn' := below_cell B1.out hn
      clear hn
      have hfit : txt.length ≤ 1048576 := HR.out.len
      have hj6 : j ≤ 1048576 := by rw [← HJ.out]; exact hfit
      clear hfit
      have hblk : blk < wr.heap.size := cell_lt hn'
      have hn2 : (wr.alloc (.cells #[.int .u8 c] 5)).cell? ⟨blk, off + j, none⟩ = some (.int .i64 n) := below_cell ((Below.refl _ _).alloc (Nat.le_refl _) _) hn'
      have B2 : Hid (Below wr.heap.size wr (wr.alloc (.cells #[.int .u8 c] 5)).drew) := ((Below.refl _ _).alloc (Nat.le_refl _) _).drew
      by_cases hbig : j < 1048576
      · have HS : Hid _ := splice_one b txt n one j wr H1.out HJ.out hbig HR.out
        go_upto_region 7 with fail
        go_cut [5, 6, 7, 8] from 27 to 74 (fun r i s e wc => r = .pointer (some ⟨b, 0, none⟩) ∧ i = .int .i64 (j : Int) ∧ ∃ (b2 : Nat) (txt2 : List UInt8), s = .pointer (some ⟨b2, 0, none⟩) ∧ e = .int .i64 0 ∧ IsRope wc b2 txt2 ∧ txt2.length = j + 1 ∧ Below w.heap.size w wc)
        case first =>
          go_region_with (go_at_call 11; refine (HS.out _ B2.out).mono ?_; rintro e w2 ⟨b2, txt2, rfl, hr2, hl2, hb2⟩; have HR2 : Hid _ := hr2; have HL2 : Hid _ := hl2; have B3 : Hid _ := hb2; clear hr2 hl2 hb2)
          all_goals
            go_wp2_with fail
            go_meet
            exact ⟨rfl, rfl, b2, txt2, rfl, rfl, HR2.out, HL2.out, below_trans (below_trans B1.out B2.out) B3.out⟩
        case rest =>
          obtain ⟨rfl, rfl, b2, txt2, rfl, rfl, hr2, hl2, hb2⟩ := hcut
          have HR2 : Hid _ := hr2
          have HL2 : Hid _ := hl2
          have B3 : Hid _ := hb2
          clear hr2 hl2 hb2 hn2 hn' hblk hone HS HC
          have hL := len_any b2 txt2 wc HR2.out
          have hD := depth_any b2 txt2 wc HR2.out
          have hW := low_any (j + 1) wc (by omega)
          rw [HL2.out] at hL hD
          generalize 2 + 2 * Rp.bits (j + 1) = most at hD hW
          rw [show ((j + 1 : Nat) : Int) = (j : Int) + 1 by omega] at hL hW
          have QL : Hid _ := hL
          have QD : Hid _ := hD
          have QW : Hid _ := hW
          clear hL hD hW
          have hbI : decide ((1048576 : Int) ≤ (j : Int)) = false := by rw [decide_eq_false_iff_not]; omega
          have HB6 : Hid _ := hbig
          clear hbig hj6
          go_wp2_with fail
          refine Calls.mono QD.out ?_
          rintro e w' ⟨d2, rfl, q1, q2, rfl⟩
          go_wp2_with fail
          refine Calls.mono QL.out ?_
          rintro e w' ⟨rfl, rfl⟩
          go_wp2_with fail
          refine Calls.mono QW.out ?_
          rintro e w' ⟨rfl, rfl⟩
          go_wp2_with fail
          go_roundg (len - (j + 1))
          case measure => have := HK.out; omega
          case rel => exact ⟨b2, j + 1, txt2, rfl, by go_num, HR2.out, HL2.out, by omega, rfl, B3.out⟩
      · have HS : Hid _ := splice_full b txt n one wr H1.out (by have := HJ.out; omega) HR.out
        have hbig' : 1048576 ≤ j := by omega
        clear hbig
        go_upto_region 7 with fail
        go_cut [5, 6, 7, 8] from 27 to 74 (fun r i s e wc => i = .int .i64 (j : Int) ∧ e = .int .i64 10 ∧ Below w.heap.size w wc)
        case first =>
          go_region_with (go_at_call 11; refine (HS.out _ B2.out).mono ?_; rintro e w2 ⟨rfl, hb2⟩; have B3 : Hid _ := hb2; clear hb2)
          all_goals
            go_wp2_with fail
            go_meet
            exact ⟨rfl, rfl, below_trans (below_trans B1.out B2.out) B3.out⟩
        case rest =>
          obtain ⟨rfl, rfl, hb2⟩ := hcut
          have B3 : Hid _ := hb2
          have hbI : 1048576 ≤ (j : Int) := by omega
          clear hb2 hn2 hn' hblk hone HS HC hbig' hj6
          go_wp2_with fail
          go_ret
          exact ⟨rfl, B3.out⟩
    · have hj' : j = len := by omega
      have HJ' : Hid (txt.length = len) := by rw [HJ.out]; exact hj'
      have hlen6 : len ≤ 1048576 := by rw [← HJ'.out]; exact HR.out.len
      have hdB : decide (j < len) = false := by rw [decide_eq_false_iff_not]; omega
      clear hlt hj'
      go_wp2_with fail
      go_loopg [5, 10] len (fun k r i wr => Shrunk w len k r i wr)
      case atStart => exact ⟨b, len, txt, rfl, rfl, HR.out, HJ'.out, Nat.le_refl _, rfl, B1.out⟩
      case round =>
        clear HR HJ HK B1 HJ'
        obtain ⟨b, m, txt, rfl, rfl, hr, hj, hle, hk, hb⟩ := hrel
        have HR : Hid _ := hr
        have HJ : Hid _ := hj
        have HK : Hid _ := hk
        have B1 : Hid _ := hb
        clear hr hj hk hb
        by_cases h0 : m = 0
        · subst h0
          have htx : txt = [] := List.eq_nil_of_length_eq_zero HJ.out
          subst htx
          have HL : Hid _ := len_any b [] _ HR.out
          go_wp2_with fail
          refine Calls.mono HL.out ?_
          rintro e w' ⟨rfl, rfl⟩
          go_wp2_with fail
          refine (string_any b [] _ HR.out).mono ?_
          rintro e w2 ⟨rfl, hb2⟩
          have B3 : Hid _ := below_trans B1.out hb2
          clear hb2
          go_wp2_with fail
          go_ret
          exact ⟨rfl, B3.out⟩
        · obtain ⟨m', rfl⟩ : ∃ m', m = m' + 1 := ⟨m - 1, by omega⟩
          clear h0
          obtain ⟨n, hn⟩ := HC.out m' (by omega)
          have hn' := below_cell B1.out hn
          clear hn
          have hblk : blk < wr.heap.size := cell_lt hn'
          have HS : Hid _ := splice_less b txt n m' _ HJ.out HR.out
          go_wp2_with fail
          refine (within_any n m' _).mono ?_
          rintro e w' ⟨rfl, rfl⟩
          go_wp2_with fail
          refine (HS.out _ (Below.refl _ _)).mono ?_
          rintro e w2 ⟨b2, txt2, rfl, hr2, hl2, hb2⟩
          have HR2 : Hid _ := hr2
          have HL2 : Hid _ := hl2
          have B3 : Hid _ := below_trans B1.out hb2
          have hL := len_any b2 txt2 w2 HR2.out
          have hD := depth_any b2 txt2 w2 HR2.out
          have hW := low_any m' w2 (by omega)
          rw [HL2.out] at hL hD
          generalize 2 + 2 * Rp.bits m' = most at hD hW
          have QL : Hid _ := hL
          have QD : Hid _ := hD
          have QW : Hid _ := hW
          clear hL hD hW hr2 hl2 hb2 hn' hblk HS HC hone
          go_wp2_with fail
          refine Calls.mono QD.out ?_
          rintro e w' ⟨d2, rfl, q1, q2, rfl⟩
          go_wp2_with fail
          refine Calls.mono QL.out ?_
          rintro e w' ⟨rfl, rfl⟩
          go_wp2_with fail
          refine Calls.mono QW.out ?_
          rintro e w' ⟨rfl, rfl⟩
          go_wp2_with fail
          go_roundg m'
          case measure => have := HK.out; omega
          case rel => exact ⟨b2, m', txt2, rfl, by go_num, HR2.out, HL2.out, by omega, rfl, B3.out⟩
end Go.Proofs.Ytnhmdbmcamfbiaa
