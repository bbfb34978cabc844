import Derived.Test.YtbhlaheidlnppaaFind
import Derived.Deep.RegionHeld3
import Derived.Lib.OthersKept
import Derived.OwnWalk
import Derived.Maps.AppendAt
namespace Go.Proofs.Ytbhlaheidlnppaa
open Go.RowKit

theorem info65 : (Try.prog.info? 65).map (fun i => (i.zero, i.size, i.bytes)) = some (some (.agg #[.int .i64 0, .int .i64 0]), 2, 16) := by kernel_rfl
theorem info58 : (Try.prog.info? 58).map (fun i => (i.zero, i.size, i.bytes)) = some (some (.agg #[.int .i64 0, .int .i64 0, .slice none 0 0]), 3, 40) := by kernel_rfl

set_option maxRecDepth 100000 in
set_option maxHeartbeats 400000 in
theorem width_any (s : ByteArray) (k : Nat) (w : World) :
    Calls Try.prog 47 #[.int .i32 ((Utf8.decode s k).1 : Int)] w fun e w' => e = .returned (.int .i64 (cu s k : Int)) ∧ w = w' := by
  unfold cu
  generalize (Utf8.decode s k).1 = r
  by_cases h : 65536 ≤ r
  · have h1 : decide ((65536 : Int) ≤ (r : Int)) = true := by rw [decide_eq_true_eq]; omega
    rw [if_pos h]
    clear h
    go_enter Try.func47, Try.ntmps47
    go_wp2_with fail
    go_ret
    exact ⟨rfl, rfl⟩
  · have h1 : decide ((65536 : Int) ≤ (r : Int)) = false := by rw [decide_eq_false_iff_not]; omega
    rw [if_neg h]
    clear h
    go_enter Try.func47, Try.ntmps47
    go_wp2_with fail
    go_ret
    exact ⟨rfl, rfl⟩

/-- where marks stand -/
def Marked (w : World) (line : ByteArray) (gk : Nat) (out units next : Value) (wr : World) : Prop :=
  ∃ (M : List (Nat × Nat)) (k u nx : Nat), units = .int .i64 (u : Int) ∧ next = .int .i64 (nx : Int) ∧ wr.heap[w.heap.size]? = some (.stringIter line k) ∧ Bd line k u ∧ (∀ m ∈ M, Bd line m.1 m.2) ∧ wr.ownsRow (w.heap.size + 1) 65 2 out M.length (mcells M) ∧ M.length ≤ k ∧ nx ≤ 2 * k + 1024 ∧ Below w.heap.size w wr ∧ gk = line.size - k

set_option maxRecDepth 100000 in
set_option maxHeartbeats 2000000 in
theorem marks_any (line : ByteArray) (w : World) (hl : line.size ≤ 1099511627776) :
    Calls Try.prog 43 #[.string line] w fun e w' => ∃ v, e = .returned v ∧ Mk w' v line ∧ Below w.heap.size w w' := by
  by_cases hs : line.size ≤ 512
  · clear hl
    go_enter Try.func43, Try.ntmps43
    go_wp2_with fail
    go_ret
    exact ⟨_, rfl, ⟨[], by simp, Nat.zero_le _, World.ownsRow_nil _ _ _ _⟩, Below.refl _ _⟩
  · have HL : Hid _ := hl
    clear hl
    go_enter Try.func43, Try.ntmps43
    go_wp2_with fail
    clear hs
    go_loopg [3, 4, 5] line.size (fun gk o u n wr => Marked w line gk o u n wr)
    case atStart => exact ⟨[], 0, 0, 512, rfl, rfl, heap_alloc_new w _, Bd.zero _, by simp, World.ownsRow_nil _ _ _ _, by simp, by omega, bel_up _ _, rfl⟩
    case round =>
      obtain ⟨M, k, u, nx, rfl, rfl, hit, hbd, hM, hown, hMk, hnx0, hbel, hgk⟩ := hrel
      have hL := HL.out
      have hbl := hbd.le
      have hk : k ≤ 1099511627776 := by omega
      have hu : u ≤ 1099511627776 := by omega
      have hnx : nx ≤ 2199023256576 := by omega
      by_cases hlt : k < line.size
      · have hnx := fun ty => Lib.run_next_any_at (P := Try.prog) wr w.heap.size line k ty hit hlt
        have hw := fun W => width_any line k W
        have hcu := cu_pos line k
        have HCU : Hid _ := hcu
        have hcw := cw_pos line k hlt
        have hcu2 : cu line k ≤ 2 := hcu.2
        have hcw4 := (cw_le line k hlt).2.1
        have HW : Hid _ := hw
        have own1 := ownsRow_iterAt hown (k := w.heap.size) (by omega) line (k + (Utf8.decode line k).2)
        have bel1 : Below w.heap.size w (wr.iterAt w.heap.size line (k + (Utf8.decode line k).2)) := Lib.below_iterAt hbel (Nat.le_refl _) _ _
        have hit1 := Lib.iterAt_heap wr w.heap.size line k (k + (Utf8.decode line k).2) hit
        have bd1 := hbd.step hlt
        have e1 : k + (Utf8.decode line k).2 = k + cw line k := rfl
        rw [e1] at own1 bel1 hit1 hnx
        generalize hW1 : wr.iterAt w.heap.size line (k + cw line k) = W1 at own1 bel1 hit1 hnx
        generalize hc : cw line k = c at *
        generalize hd : cu line k = d at *
        generalize (Utf8.decode line k).1 = rune at *
        have F : Hid (W1.heap[w.heap.size]? = some (.stringIter line (k + c)) ∧ Bd line k u ∧ Bd line (k + c) (u + d) ∧ (∀ m ∈ M, Bd line m.1 m.2) ∧ W1.ownsRow (w.heap.size + 1) 65 2 u3 M.length (mcells M) ∧ Below w.heap.size w W1 ∧ M.length ≤ k ∧ 1 ≤ c ∧ nx ≤ 2 * k + 1024) := ⟨hit1, hbd, bd1, hM, own1, bel1, hMk, hcw, hnx0⟩
        have HK : Hid _ := hgk
        clear hit hbd hM hown hMk hnx0 hbel hgk hL hbl own1 bel1 hit1 bd1 hcu HCU hw hW1 e1 hcw
        by_cases hge : nx ≤ k
        · have hO : Hid ((W1.alloc (.cells #[.int .i64 (k : Int), .int .i64 (u : Int)] 65)).ownsRow (w.heap.size + 1) 65 2 u3 M.length (mcells M)) := F.out.2.2.2.2.1.alloc _
          have hMl : M.length ≤ 1099511627776 := by have := F.out.2.2.2.2.2.2.1; omega
          have hbase : w.heap.size + 1 ≤ (W1.alloc (.cells #[.int .i64 (k : Int), .int .i64 (u : Int)] 65)).heap.size := by
            have := F.out.2.2.2.2.2.1.size
            simp
            omega
          obtain ⟨i65, hi65, hz65, hs65, hy65⟩ := info_parts info65
          go_wp2_with (at_builtin; refine wpList_append_own _ rfl (.tmp 20) (.tmp 24) 56 rfl (w.heap.size + 1) 65 i65 (.agg #[.int .i64 0, .int .i64 0]) 2 16 Try.underlying56 hi65 hz65 hs65 hy65 rfl (by decide) _ _ _ rfl hO.out ⟨W1.heap.size, 0, none⟩ 1 1 [.int .i64 (k : Int), .int .i64 (u : Int)] rfl rfl ?c1 ?c2 ?c3 ?c4 ?c5 ?_)
          case c1 => exact cell_two_new _ _ _ _
          case c2 => intro x hx; simp at hx; rcases hx with rfl | rfl <;> rfl
          case c3 => unfold maxLen; omega
          case c4 => omega
          case c5 => exact hbase
          intro v1 w6 hown1 hgrow1 _
          have OW : Hid _ := hown1
          have GR : Hid _ := hgrow1
          clear hown1 hgrow1 hO hbase hi65 hz65 hs65 hy65
          go_wp2_with fail
          refine (HW.out _).mono ?_
          rintro e w' ⟨rfl, rfl⟩
          go_wp2_with fail
          go_roundg (line.size - (k + c))
          case measure =>
            have := HK.out
            obtain ⟨f1, f2, f3, f4, f5, f6, f7, f8, f9⟩ := F.out
            omega
          case rel =>
            obtain ⟨f1, f2, f3, f4, f5, f6, f7, f8, f9⟩ := F.out
            have hne : some w.heap.size ≠ u3.ownBlock := by
              intro e
              have := (f5.lt w.heap.size e.symm).1
              omega
            have g1 := GR.out
            refine ⟨M ++ [(k, u)], k + c, u + d, k + 512, by congr 1, by congr 1, ?_, f3, ?_, ?_, by simp; omega, by omega, ?_, rfl⟩
            · rw [g1.block w.heap.size (by have := lt_of_heap f1; simp; omega) hne, heap_alloc_old _ _ (lt_of_heap f1)]
              exact f1
            · intro m hm
              rcases List.mem_append.1 hm with h | h
              · exact f4 m h
              · simp at h
                subst h
                exact f2
            · rw [mcells_app, List.length_append]
              exact OW.out
            · exact (below_trans f6 (bel_up _ _)).grown g1 (by have := f6.size; simp; omega) (fun q hq => by have := (f5.lt q hq).1; omega)
        · go_wp2_with fail
          refine (HW.out _).mono ?_
          rintro e w' ⟨rfl, rfl⟩
          go_wp2_with fail
          go_roundg (line.size - (k + c))
          case measure =>
            have := HK.out
            obtain ⟨f1, f2, f3, f4, f5, f6, f7, f8, f9⟩ := F.out
            omega
          case rel =>
            obtain ⟨f1, f2, f3, f4, f5, f6, f7, f8, f9⟩ := F.out
            exact ⟨M, k + c, u + d, nx, by congr 1, rfl, f1, f3, f4, f5, by omega, by omega, f6, rfl⟩
      · have hnx := fun ty => Lib.run_next_end_at (P := Try.prog) wr w.heap.size line k ty hit hlt
        have F : Hid (Mk wr u3 line ∧ Below w.heap.size w wr) := ⟨⟨M, hM, by omega, ⟨hown.1, hown.2.imp id (fun ⟨g, cap, cur, q1, q2, q3⟩ => ⟨g, cap, cur, q1, Nat.zero_le _, q3⟩)⟩⟩, hbel⟩
        clear hit hbd hM hown hMk hnx0 hbel hgk hL hbl
        go_wp2_with fail
        go_ret
        exact ⟨_, rfl, F.out.1, F.out.2⟩

end Go.Proofs.Ytbhlaheidlnppaa
