import Derived.Test.YtnhmdbmcamfbiaaBack
import Derived.Deep.LoopGhost
import Derived.Laws.BytesArg
import Derived.ArgAppend
namespace Go.Proofs.Ytnhmdbmcamfbiaa
open Go.RowKit

theorem info5 : (Try.prog.info? 5).map (fun i => (i.zero, i.size, i.bytes)) = some (some (.int .u8 0), 1, 1) := by kernel_rfl

/-- a row of bytes, so many -/
structure Row (w : World) (blk : Nat) (cs : Array Value) : Prop where
  heap : w.heap[blk]? = some (.cells cs 5 (0, 0))
  size : cs.size = 1048576
  each : ∀ k, k < cs.size → ∃ n : Int, cs[k]? = some (.int .u8 n)

theorem made (w : World) : ∃ M : Array Value, (Instr.makeSlice 23 (.int .i64 1048576) (.int .i64 1048576)).run Try.prog w = .ok (.slice (some ⟨w.heap.size, 0, none⟩) 1048576 1048576) (w.alloc (.cells M 5)) ∧ Row (w.alloc (.cells M 5)) w.heap.size M := by
  obtain ⟨i0, hi, hz0, hz1, hz2⟩ := info_parts info5
  have h := run_make (P := Try.prog) w 23 5 i0 (.int .u8 0) Try.underlying23 hi hz0 .i64 .i64 1048576 1048576 (by omega) (by omega) (by rw [hz2]; omega) (by omega)
  rw [hz1] at h
  refine ⟨madeCells (Value.int .u8 0).cells ((1048576 : Int).toNat * 1), h, heap_alloc_new w _, by rw [size_madeCells]; rfl, ?_⟩
  intro k hk
  refine ⟨0, ?_⟩
  rw [size_madeCells] at hk
  unfold madeCells
  simp only [Array.getElem?_map, Array.getElem?_range, hk, if_true, Option.map_some]
  have : k % (Value.int IntKind.u8 0).cells.size = 0 := by
    show k % 1 = 0
    omega
  rw [this]
  rfl

theorem Row.cell {w : World} {blk : Nat} {cs : Array Value} (h : Row w blk cs) (k : Nat) (hk : k < 1048576) : ∃ n : Int, w.cell? ⟨blk, k, none⟩ = some (.int .u8 n) := by
  obtain ⟨h1, h2, h3⟩ := h
  obtain ⟨n, hn⟩ := h3 k (by omega)
  exact ⟨n, by rw [Lib.cell_of_heap h1]; exact hn⟩
theorem Row.mono {w w' : World} {blk : Nat} {cs : Array Value} (h : Row w blk cs) (hb : Below w.heap.size w w') : Row w' blk cs := by
  obtain ⟨h1, h2, h3⟩ := h
  exact ⟨by rw [hb.block blk (Array.getElem?_eq_some_iff.1 h1).1]; exact h1, h2, h3⟩
theorem Row.set {w : World} {blk : Nat} {cs : Array Value} (h : Row w blk cs) (k : Nat) (n : Int) : Row (w.setCell ⟨blk, k, none⟩ (.int .u8 n)) blk (cs.setIfInBounds k (.int .u8 n)) := by
  obtain ⟨h1, h2, h3⟩ := h
  refine ⟨by simp [World.setCell, Array.getElem?_modify, h1], by simp [h2], ?_⟩
  intro j hj
  rw [Array.getElem?_setIfInBounds]
  split
  · rename_i e
    subst e
    simp at hj
    exact ⟨n, by simp [hj]⟩
  · exact h3 j (by simpa using hj)
theorem Row.frozen {w : World} {blk : Nat} {cs : Array Value} (h : Row w blk cs) (k : Nat) : w.frozen? ⟨blk, k, none⟩ = false := Lib.frozen_of_heap h.1 k

/-- a piece of the row, as a string -/
theorem Row.conv {w : World} {blk : Nat} {cs : Array Value} (h : Row w blk cs) (o l c : Nat) (hl : o + l ≤ 1048576) : ∃ s : ByteArray, s.size = l ∧ (convert 23 9 (.slice (some ⟨blk, o, none⟩) l c)).run Try.prog w = .ok (.string s) w := by
  have hc : ∀ i, ∃ n : Int, i < l → w.cell? ⟨blk, o + i, none⟩ = some (.int .u8 n) := by
    intro i
    by_cases hi : i < l
    · obtain ⟨n, hn⟩ := h.cell (o + i) (by omega)
      exact ⟨n, fun _ => hn⟩
    · exact ⟨0, fun h => absurd h hi⟩
  obtain ⟨f, hf⟩ := Classical.axiomOfChoice hc
  refine ⟨strOfNums ((List.range l).map f), by simp [strOfNums, ByteArray.size], ?_⟩
  refine run_convert_bytes_arg w 23 5 Try.underlying23 Try.underlying5 blk o l c _ (by simp) (fun i hi => ?_) 9 Try.underlying9
  rw [hf i hi]
  simp [hi]

/-- one byte more: a new row -/
theorem Row.push {w : World} {blk : Nat} {cs : Array Value} (h : Row w blk cs) (b : Int) :
    ∃ (g c : Nat) (w2 : World), (Builtin.append_ #[23, 23] 23 #[.slice (some ⟨blk, 0, none⟩) 1048576 1048576, .slice (some ⟨w.heap.size, 0, none⟩) 1 1]).run Try.prog (w.alloc (.cells #[.int .u8 b] 5)) = .ok (.slice (some ⟨g, 0, none⟩) 1048577 c) w2 ∧
      Below (w.alloc (.cells #[.int .u8 b] 5)).heap.size (w.alloc (.cells #[.int .u8 b] 5)) w2 ∧ ∃ s : ByteArray, s.size = 1048577 ∧ (convert 23 9 (.slice (some ⟨g, 0, none⟩) 1048577 c)).run Try.prog w2 = .ok (.string s) w2 := by
  obtain ⟨i0, hi, hz0, hz1, hz2⟩ := info_parts info5
  have h' := h.mono ((Below.refl _ w).alloc (Nat.le_refl _) (.cells #[.int .u8 b] 5))
  obtain ⟨v', w2, hrun, hown, hgr⟩ := run_append_arg_grows (P := Try.prog) (w.alloc (.cells #[.int .u8 b] 5)) 23 23 5 i0 (.int .u8 0) 1 1 Try.underlying23 hi hz0 hz1 hz2 rfl (by decide) ⟨blk, 0, none⟩ 1048576 1048576 cs.toList (by rw [Array.length_toList, h.size]) (by
      intro j u hj
      rw [show (⟨blk, 0, none⟩ : Addr).add j = ⟨blk, j, none⟩ by unfold Addr.add; split <;> simp_all, Lib.cell_of_heap h'.heap]
      simpa using hj) ⟨w.heap.size, 0, none⟩ 1 1 [.int .u8 b] rfl (cell_one_new _ _ _) (by omega) (by unfold maxLen; omega) (by omega)
  have hb : Below (w.alloc (.cells #[.int .u8 b] 5)).heap.size (w.alloc (.cells #[.int .u8 b] 5)) w2 := ⟨hgr.os, hgr.tape, hgr.output, hgr.size, fun k hk => hgr.block k hk (by simp)⟩
  have hc := hown
  obtain ⟨h1, h2⟩ := hown
  rcases h2 with ⟨_, h2⟩ | ⟨g, cap, cur, rfl, hg, hh, hcap, _⟩
  · omega
  · refine ⟨g, cap, w2, hrun, hb, ?_⟩
    have hcell : ∀ i, ∃ n : Int, i < 1048577 → w2.cell? ⟨g, 0 + i, none⟩ = some (.int .u8 n) := by
      intro i
      by_cases hi' : i < 1048576
      · obtain ⟨n, hn⟩ := h.each i (by rw [h.size]; exact hi')
        refine ⟨n, fun _ => ?_⟩
        have := hc.cells (g := g) rfl i (.int .u8 n) (by rw [List.getElem?_append_left (by rw [Array.length_toList, h.size]; exact hi')]; simpa using hn)
        rwa [show (⟨g, 0, none⟩ : Addr).add i = ⟨g, 0 + i, none⟩ by unfold Addr.add; split <;> simp_all] at this
      · refine ⟨b, fun hlt => ?_⟩
        have e : i = 1048576 := by omega
        have := hc.cells (g := g) rfl i (.int .u8 b) (by rw [List.getElem?_append_right (by rw [Array.length_toList, h.size]; omega), Array.length_toList, h.size, e, Nat.sub_self]; rfl)
        rwa [show (⟨g, 0, none⟩ : Addr).add i = ⟨g, 0 + i, none⟩ by unfold Addr.add; split <;> simp_all] at this
    obtain ⟨f, hf⟩ := Classical.axiomOfChoice hcell
    refine ⟨strOfNums ((List.range 1048577).map f), ?_, ?_⟩
    · rw [strOfNums, ByteArray.size]
      simp
    · refine run_convert_bytes_arg w2 23 5 Try.underlying23 Try.underlying5 g 0 1048577 cap _ (by simp) (fun i hi => ?_) 9 Try.underlying9
      rw [hf i hi]
      simp [hi]

theorem wp_append_run {P : Program} {w w2 : World} {o : Oper} {a : Act} {K : Act → World → Prop} {Q : Exit → Act → World → Prop} {V X v : Value} (s x : Operand) (t : TypeId)
    (ho : o.op = .call { callee := .builtin .append, args := #[s, x], argTypes := #[t, t] }) (hs : a.eval s = V) (hx : a.eval x = X)
    (hr : (Builtin.append_ #[t, t] o.type #[V, X]).run P w = .ok v w2) (h : K (a.put o.dst v) w2) : o.wp P a w K Q := by
  unfold Oper.wp execOp
  simp only [ho, resolve, invoke, builtin, Sem.run_bind, Sem.run_pure, Result.andThen_ok, List.map_toArray, List.map_cons, List.map_nil, hs, hx, hr]
  exact h

theorem full_len (b : Nat) (txt : List UInt8) (w : World) (h : IsRope w b txt) (hl : txt.length = 1048576) :
    Calls Try.prog 12 #[.pointer (some ⟨b, 0, none⟩)] w fun e w' => e = .returned (.int .i64 1048576) ∧ w = w' := by
  have := len_any b txt w h
  rw [hl] at this
  exact this
theorem fill_splice (b : Nat) (txt : List UInt8) (a d : Int) (ins : ByteArray) (w : World) (h : IsRope w b txt) (ha : cl a txt.length = a) (hd : cl d (txt.length - a) = d) (hl : (txt.length : Int) - d + ins.size = 1048576) :
    Calls Try.prog 11 #[.pointer (some ⟨b, 0, none⟩), .agg #[.int .i64 a, .int .i64 d, .string ins]] w fun e w' => ∃ (b' : Nat) (t' : List UInt8), e = .returned (.tuple #[.pointer (some ⟨b', 0, none⟩), .int .i64 0]) ∧ IsRope w' b' t' ∧ t'.length = 1048576 ∧ Below w.heap.size w w' := by
  refine (splice_ok b txt a d ins w h (by rw [ha, hd]; omega)).mono ?_
  rintro e w' ⟨b', rfl, hr, hb⟩
  have e1 := after_len txt a d ins
  rw [ha, hd] at e1
  exact ⟨b', _, rfl, hr, by omega, hb⟩

def Filled (w0 : World) (k : Nat) (i : Value) (wr : World) : Prop :=
  ∃ (j : Nat) (cs : Array Value), i = .int .i64 (j : Int) ∧ Row wr w0.heap.size cs ∧ Below w0.heap.size w0 wr ∧ wr.heap.size = w0.heap.size + 1 ∧ j ≤ 1048576 ∧ k = 1048576 - j

set_option maxRecDepth 100000 in
set_option maxHeartbeats 2000000 in
theorem fills_any (b less more : Int) (w : World) :
    Calls Try.prog 3 #[.int .u8 b, .int .i64 less, .int .i64 more] w fun e w' => e = .returned (.bool true) ∧ Below w.heap.size w w' := by
  have H1 := cl_bd less 1000 (by omega)
  have H2 := cl_bd more 1000 (by omega)
  have hw1 : Hid (∀ W, Calls Try.prog 9 #[.int .i64 less, .int .i64 1000] W fun e w' => e = .returned (.int .i64 (cl less 1000)) ∧ W = w') := fun W => within_any less 1000 W
  have hw2 : Hid (∀ W, Calls Try.prog 9 #[.int .i64 more, .int .i64 1000] W fun e w' => e = .returned (.int .i64 (cl more 1000)) ∧ W = w') := fun W => within_any more 1000 W
  obtain ⟨L, hL⟩ := Int.eq_ofNat_of_zero_le H1.1
  obtain ⟨R, hR⟩ := Int.eq_ofNat_of_zero_le H2.1
  rw [hL] at hw1 H1
  rw [hR] at hw2 H2
  clear hL hR
  obtain ⟨M, hM, hrow⟩ := made w
  have RW : Hid _ := hrow
  clear hrow
  go_enter Try.func3, Try.ntmps3
  go_wp2_with fail
  refine (hw1.out _).mono ?_
  rintro e w' ⟨rfl, rfl⟩
  go_wp2_with fail
  refine (hw2.out _).mono ?_
  rintro e w' ⟨rfl, rfl⟩
  go_wp2_with fail
  go_loopg [8] 1048576 (fun k i wr => Filled w k i wr)
  case atStart => exact ⟨0, M, rfl, RW.out, (Below.refl _ _).alloc (Nat.le_refl _) _, by simp, Nat.zero_le _, rfl⟩
  case round =>
    clear RW hM
    obtain ⟨j, cs, rfl, hrow, hb, hsz, hj, hk⟩ := hrel
    have RW : Hid _ := hrow
    have BB : Hid _ := hb
    have HK : Hid _ := hk
    have HJ : Hid _ := hj
    have HSZ : Hid _ := hsz
    clear hrow hb hk hj hsz
    by_cases hlt : (j : Int) < 1048576
    · obtain ⟨n, hn⟩ := RW.out.cell j (by omega)
      have hf := RW.out.frozen j
      have ST : Hid _ := RW.out.set j b
      go_wp2_with fail
      go_roundg (1048576 - (j + 1))
      case measure => have := HK.out; omega
      case rel => exact ⟨j + 1, _, by go_num, ST.out, BB.out.setCell (Nat.le_refl _) _, by simpa [World.setCell] using HSZ.out, by omega, rfl⟩
    · have hdB : decide ((j : Int) < 1048576) = false := by rw [decide_eq_false_iff_not]; omega
      clear hlt
      obtain ⟨s1, hs1, hc1⟩ := RW.out.conv L (1048576 - L) (1048576 - L) (by omega)
      go_wp2_with fail
      refine (new_any s1 _ (by omega)).mono ?_
      rintro e w1 ⟨b1, rfl, hr, hb⟩
      have T1 : Hid (s1.data.toList.length = 1048576 - L) := by rw [← Lib.size_eq]; exact hs1
      have HR1 : Hid _ := hr
      have RW1 : Hid _ := RW.out.mono hb
      have B1 : Hid _ := below_trans BB.out (hb.mono (Nat.le_refl _))
      clear hr hb hc1 hs1
      obtain ⟨g2, c2, w2, hap, hgr, s2, hs2, hc2⟩ := RW1.out.push b
      have RW2 : Hid _ := (RW1.out.mono ((Below.refl _ w1).alloc (Nat.le_refl _) (.cells #[.int .u8 b] 5))).mono hgr
      have HR2 : Hid _ := (HR1.out.mono ((Below.refl _ w1).alloc (Nat.le_refl _) (.cells #[.int .u8 b] 5))).mono hgr
      have B2 : Hid _ := below_trans (below_trans B1.out ((Below.refl _ w1).alloc (Nat.le_refl _) (.cells #[.int .u8 b] 5))) hgr
      clear hgr
      go_wp2_with fail
      refine wp_append_run (.tmp 39) (.tmp 41) 23 rfl rfl rfl hap ?_
      clear hap
      go_wp2_with fail
      refine (new_big s2 _ (by omega)).mono ?_
      rintro e w' ⟨rfl, rfl⟩
      clear hc2 hs2
      obtain ⟨s3, hs3, hc3⟩ := RW2.out.conv 0 (L + 5) 1048576 (by omega)
      go_wp2_with fail
      refine (fill_splice b1 _ 77 5 s3 _ HR2.out (cl_id (by omega) (by have := T1.out; omega)) (cl_id (by omega) (by have := T1.out; omega)) (by have := T1.out; omega)).mono ?_
      rintro e w3 ⟨b3, t3, rfl, hr3, hl3, hb3⟩
      have HR3 : Hid _ := hr3
      have HL3 : Hid _ := hl3
      have HQ3 : Hid _ := HR2.out.mono hb3
      have RW3 : Hid _ := RW2.out.mono hb3
      have B3 : Hid _ := below_trans B2.out hb3
      clear hr3 hl3 hb3 hc3 hs3
      go_wp2_with fail
      refine (full_len b3 t3 _ HR3.out HL3.out).mono ?_
      rintro e w' ⟨rfl, rfl⟩
      obtain ⟨s4, hs4, hc4⟩ := RW3.out.conv 0 (R + 1) 1048576 (by omega)
      go_wp2_with fail
      refine (splice_big b3 t3 R R s4 _ HR3.out (by rw [cl_id (x := (R : Int)) (m := (t3.length : Int)) (by omega) (by have := HL3.out; omega), cl_id (by omega) (by have := HL3.out; omega), hs4]; have := HL3.out; omega)).mono ?_
      rintro e w4 ⟨rfl, hb4⟩
      have HR4 : Hid _ := HR3.out.mono hb4
      have HQ4 : Hid _ := HQ3.out.mono hb4
      have RW4 : Hid _ := RW3.out.mono hb4
      have B4 : Hid _ := below_trans B3.out hb4
      clear hb4 hc4
      obtain ⟨s5, hs5, hc5⟩ := RW4.out.conv 0 (R + 1) 1048576 (by omega)
      go_wp2_with fail
      refine (fill_splice b3 t3 R ((R : Int) + 1) s5 _ HR4.out (cl_id (by omega) (by have := HL3.out; omega)) (cl_id (by omega) (by have := HL3.out; omega)) (by have := HL3.out; omega)).mono ?_
      rintro e w5 ⟨b5, t5, rfl, hr5, hl5, hb5⟩
      have HR5 : Hid _ := hr5
      have HL5 : Hid _ := hl5
      have HS5 : Hid _ := HR4.out.mono hb5
      have HQ5 : Hid _ := HQ4.out.mono hb5
      have B5 : Hid _ := below_trans B4.out hb5
      clear hr5 hl5 hb5 hc5 hs5 hs4
      go_wp2_with fail
      refine (full_len b5 t5 _ HR5.out HL5.out).mono ?_
      rintro e w' ⟨rfl, rfl⟩
      go_wp2_with fail
      refine (full_len b3 t3 _ HS5.out HL3.out).mono ?_
      rintro e w' ⟨rfl, rfl⟩
      have hlast := len_any b1 _ _ HQ5.out
      rw [T1.out, show ((1048576 - L : Nat) : Int) = 1048576 - (L : Int) by omega] at hlast
      have HLA : Hid _ := hlast
      clear hlast
      go_wp2_with fail
      refine Calls.mono HLA.out ?_
      rintro e w' ⟨rfl, rfl⟩
      go_wp2_with fail
      go_ret
      exact ⟨rfl, B5.out⟩
end Go.Proofs.Ytnhmdbmcamfbiaa
