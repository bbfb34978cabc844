import Derived.Test.YtdchopljojlcpaaProg
import Derived.Test.YtdchopljojlcpaaShelf
import Derived.Test.YtdchopljojlcpaaShp
namespace Go.Proofs.Ytdchopljojlcpaa
open Go.RowKit

theorem heap_new (w : World) (o : Obj) : (w.alloc o).heap[w.heap.size]? = some o := by
  unfold World.alloc; simp
theorem last_get (l : List Int) : l.getD (l.length - 1) 0 = topI l := by
  unfold topI
  rw [List.getD_eq_getElem?_getD, List.getLastD_eq_getLast?, List.getLast?_eq_getElem?]
set_option maxRecDepth 100000 in
set_option maxHeartbeats 4000000 in
theorem shaped_any {vi vq vf : Value} {s : Stt} (w : World) (h : Stm w vi vq vf s) : Calls Try.prog 15 #[sv vi vq vf s] w fun e w' => e = .returned (.bool s.shp) ∧ Below w.heap.size w w' := by
  obtain ⟨a1, c1, a2, c2, a3, c3, rfl, rfl, rfl⟩ := h.form
  obtain ⟨W1, hW1⟩ : ∃ W1, W1 = w.alloc (.cells #[.slice a1 s.ind.length c1, .int .i64 s.pen, .slice a2 s.que.length c2, .slice a3 s.frm.length c3, .int .u16 (s.flg : Int)] 33) := ⟨_, rfl⟩
  have HB : Hid (Below w.heap.size w W1) := by rw [hW1]; exact bel_up _ _
  have hh1 : W1.heap[w.heap.size]? = some (.cells #[.slice a1 s.ind.length c1, .int .i64 s.pen, .slice a2 s.que.length c2, .slice a3 s.frm.length c3, .int .u16 (s.flg : Int)] 33 (0, 0)) := by rw [hW1]; exact heap_new w _
  have b0 : W1.cell? ⟨w.heap.size, 0, none⟩ = some (.slice a1 s.ind.length c1) := by rw [Lib.cell_of_heap hh1]; rfl
  have b1 : W1.cell? ⟨w.heap.size, 1, none⟩ = some (.int .i64 s.pen) := by rw [Lib.cell_of_heap hh1]; rfl
  have b2 : W1.cell? ⟨w.heap.size, 2, none⟩ = some (.slice a2 s.que.length c2) := by rw [Lib.cell_of_heap hh1]; rfl
  have b3 : W1.cell? ⟨w.heap.size, 3, none⟩ = some (.slice a3 s.frm.length c3) := by rw [Lib.cell_of_heap hh1]; rfl
  have HS : Hid (Stm W1 (.slice a1 s.ind.length c1) (.slice a2 s.que.length c2) (.slice a3 s.frm.length c3) s) := h.up HB.out
  have HW : Hid (W1 = w.alloc (.cells #[.slice a1 s.ind.length c1, .int .i64 s.pen, .slice a2 s.que.length c2, .slice a3 s.frm.length c3, .int .u16 (s.flg : Int)] 33)) := hW1
  have C36 : Hid (Calls Try.prog 23 #[.slice a1 s.ind.length c1] W1 fun e w' => e = .returned (.bool s.oi) ∧ w' = W1) := rising_any W1 HS.out.i
  have C37 : Hid (Calls Try.prog 24 #[.slice a2 s.que.length c2] W1 fun e w' => e = .returned (.bool s.oq) ∧ w' = W1) := queue_any W1 HS.out.q
  have C38 : Hid (Calls Try.prog 25 #[.slice a3 s.frm.length c3] W1 fun e w' => e = .returned (.bool s.of) ∧ Below W1.heap.size W1 w') := frames_any W1 HS.out.f
  clear h hW1 hh1 HS
  unfold Stt.shp
  cases hoi : s.oi with
  | false =>
    rw [hoi] at C36
    go_enter Try.func15, Try.ntmps15
    go_upto_region 1 with fail
    rw [← HW.out]
    go_wp2_with (go_at_call 23; refine C36.out.mono ?_; rintro e w' ⟨rfl, rfl⟩)
    go_ret
    exact ⟨rfl, HB.out⟩
  | true =>
    rw [hoi] at C36
    by_cases p1 : -1 ≤ s.pen
    · have q1 : decide (-1 ≤ s.pen) = true := by simpa using p1
      by_cases p2 : s.pen ≤ 65536
      · have q2 : decide (s.pen ≤ 65536) = true := by simpa using p2
        clear p1 p2
        rw [q1, q2]
        cases hoq : s.oq with
        | false =>
          rw [hoq] at C37
          go_enter Try.func15, Try.ntmps15
          go_upto_region 1 with fail
          rw [← HW.out]
          go_wp2_with (first | (go_at_call 23; refine C36.out.mono ?_; rintro e w' ⟨rfl, rfl⟩) | (go_at_call 24; refine C37.out.mono ?_; rintro e w' ⟨rfl, rfl⟩))
          go_ret
          exact ⟨rfl, HB.out⟩
        | true =>
          rw [hoq] at C37
          go_enter Try.func15, Try.ntmps15
          go_upto_region 1 with fail
          rw [← HW.out]
          go_wp2_with (first | (go_at_call 23; refine C36.out.mono ?_; rintro e w' ⟨rfl, rfl⟩) | (go_at_call 24; refine C37.out.mono ?_; rintro e w' ⟨rfl, rfl⟩) | (go_at_call 25; refine C38.out.mono ?_; rintro e w' ⟨rfl, hb⟩; have HB2 : Hid _ := hb; clear hb))
          go_ret
          exact ⟨rfl, below_trans HB.out HB2.out⟩
      · have q2 : decide (s.pen ≤ 65536) = false := by simpa using p2
        clear p1 p2
        rw [q1, q2]
        go_enter Try.func15, Try.ntmps15
        go_upto_region 1 with fail
        rw [← HW.out]
        go_wp2_with (go_at_call 23; refine C36.out.mono ?_; rintro e w' ⟨rfl, rfl⟩)
        go_ret
        exact ⟨rfl, HB.out⟩
    · have q1 : decide (-1 ≤ s.pen) = false := by simpa using p1
      clear p1
      rw [q1]
      go_enter Try.func15, Try.ntmps15
      go_upto_region 1 with fail
      rw [← HW.out]
      go_wp2_with (go_at_call 23; refine C36.out.mono ?_; rintro e w' ⟨rfl, rfl⟩)
      go_ret
      exact ⟨rfl, HB.out⟩
end Go.Proofs.Ytdchopljojlcpaa
