import Derived.Test.YtkaciochlemjiabTrm
namespace Go.Proofs.Ytkaciochlemjiab
open Go.RowKit Go.Maps

theorem row_at {W : World} {B : Nat} {e : TypeId} {size n m g cap : Nat} {xs : List Value} (h : W.ownsRow B e size (.slice (some ⟨g, 0, none⟩) n cap) m xs) (j : Nat) (u : Value) (hu : xs[j]? = some u) : W.cell? ⟨g, j, none⟩ = some u := by
  rcases h.2 with ⟨h0, _⟩ | ⟨g', cap', cur, h0, h1, h2, h3, h4, h5, h6⟩
  · cases h0
  · obtain ⟨e1, -, -⟩ := Value.slice.inj h0
    obtain rfl : g' = g := by simpa using (Option.some.inj e1).symm
    rw [Lib.cell_of_heap h2]
    rw [← h6] at hu
    have hj : j < m * size := by
      have := (List.getElem?_eq_some_iff.1 hu).1
      rw [List.length_take] at this
      omega
    rw [List.getElem?_take_of_lt hj] at hu
    simpa using hu
/-- A state with room behind its lists is that state. -/
theorem Rmy.stm {B : Nat} {W : World} {vi vq vf : Value} {s : Stt} (h : Rmy B W vi vq vf s) : Stm W vi vq vf s := by
  obtain ⟨g1, k1, g2, k2, g3, k3, rfl, rfl, rfl, h1, h2, h3⟩ := h
  have c1 := row_cap h1
  have c2 := row_cap h2
  have c3 := row_cap h3
  refine ⟨⟨_, g1, 0, _, rfl, by omega, fun h => (by cases h), fun _ => rfl, fun j u hu => ?_⟩, ⟨_, g2, 0, _, rfl, by omega, fun h => (by cases h), fun _ => rfl, fun j u hu => ?_⟩, ⟨_, g3, 0, _, rfl, by omega, fun h => (by cases h), fun _ => rfl, fun j u hu => ?_⟩⟩
  · rw [Nat.zero_add]; exact row_at h1 j u (by rw [List.getElem?_append_left (List.getElem?_eq_some_iff.1 hu).1]; exact hu)
  · rw [Nat.zero_add]; exact row_at h2 j u (by rw [List.getElem?_append_left (List.getElem?_eq_some_iff.1 hu).1]; exact hu)
  · rw [Nat.zero_add]; exact row_at h3 j u (by rw [List.getElem?_append_left (List.getElem?_eq_some_iff.1 hu).1]; exact hu)
theorem Rmy.up {B : Nat} {W W' : World} {vi vq vf : Value} {s : Stt} (h : Rmy B W vi vq vf s) (hb : Below W.heap.size W W') : Rmy B W' vi vq vf s := by
  obtain ⟨g1, k1, g2, k2, g3, k3, rfl, rfl, rfl, h1, h2, h3⟩ := h
  exact ⟨g1, k1, g2, k2, g3, k3, rfl, rfl, rfl, row_up h1 hb, row_up h2 hb, row_up h3 hb⟩
set_option maxRecDepth 100000 in
set_option maxHeartbeats 8000000 in
theorem rooms_any {B : Nat} {vi vq vf : Value} {s : Stt} (w : World) (h : Rmy B w vi vq vf s) (l1 : s.ind.length ≤ 140737488355328) (l2 : s.que.length ≤ 140737488355328) (l3 : s.frm.length ≤ 140737488355328) :
    Calls Try.prog 22 #[sv vi vq vf s] w fun e w' => e = .returned (.bool true) ∧ Below w.heap.size w w' := by
  obtain ⟨g1, k1, g2, k2, g3, k3, rfl, rfl, rfl, h1, h2, h3⟩ := h
  obtain ⟨W1, hW1⟩ : ∃ W1, W1 = w.alloc (.cells #[.slice (some ⟨g1, 0, none⟩) s.ind.length k1, .int .i64 s.pen, .slice (some ⟨g2, 0, none⟩) s.que.length k2, .slice (some ⟨g3, 0, none⟩) s.frm.length k3, .int .u16 (s.flg : Int)] 27) := ⟨_, rfl⟩
  have HP1 : Hid (W1.heap[w.heap.size]? = some (.cells #[.slice (some ⟨g1, 0, none⟩) s.ind.length k1, .int .i64 s.pen, .slice (some ⟨g2, 0, none⟩) s.que.length k2, .slice (some ⟨g3, 0, none⟩) s.frm.length k3, .int .u16 (s.flg : Int)] 27 (0, 0))) := by rw [hW1]; exact heap_new w _
  have B1 : Hid (Below w.heap.size w W1) := by rw [hW1]; exact bel_up _ _
  have HW : Hid (W1 = w.alloc (.cells #[.slice (some ⟨g1, 0, none⟩) s.ind.length k1, .int .i64 s.pen, .slice (some ⟨g2, 0, none⟩) s.que.length k2, .slice (some ⟨g3, 0, none⟩) s.frm.length k3, .int .u16 (s.flg : Int)] 27)) := hW1
  have c1 := row_cap h1
  have c2 := row_cap h2
  have c3 := row_cap h3
  have r1 := row_up h1 B1.out
  have r2 := row_up h2 B1.out
  have r3 := row_up h3 B1.out
  obtain ⟨n1, hn1⟩ : ∃ n, s.ind.length = n := ⟨_, rfl⟩
  obtain ⟨n2, hn2⟩ : ∃ n, s.que.length = n := ⟨_, rfl⟩
  obtain ⟨n3, hn3⟩ : ∃ n, s.frm.length = n := ⟨_, rfl⟩
  have m10 := row_at r1 n1 (.int .i64 71) (by rw [List.getElem?_append_right (by rw [iC_len]; omega), iC_len, hn1]; simp)
  have m11 := row_at r1 (n1 + 1) (.int .i64 72) (by rw [List.getElem?_append_right (by rw [iC_len]; omega), iC_len, hn1]; simp)
  have m20 := row_at r2 n2 (.string ⟨#[109, 97, 114, 107]⟩) (by rw [List.getElem?_append_right (by rw [qC_len]; omega), qC_len, hn2]; simp)
  have m21 := row_at r2 (n2 + 1) (.string ⟨#[109, 97, 114, 107]⟩) (by rw [List.getElem?_append_right (by rw [qC_len]; omega), qC_len, hn2]; simp)
  have m30 := row_at r3 (n3 * 2) (.int .i64 73) (by rw [List.getElem?_append_right (by rw [fC_len]; omega), fC_len, hn3]; simp)
  have m32 := row_at r3 ((n3 + 1) * 2) (.int .i64 74) (by rw [List.getElem?_append_right (by rw [fC_len]; omega), fC_len, hn3, show (n3 + 1) * 2 - n3 * 2 = 2 by omega]; rfl)
  obtain ⟨p0, p1, p2, p3, p4⟩ := box_cells HP1.out
  rw [hn1, hn2, hn3] at HW
  rw [hn1] at p0 c1
  rw [hn2] at p2 c2
  rw [hn3] at p3 c3
  rw [hn1] at l1
  rw [hn2] at l2
  rw [hn3] at l3
  have HC : Hid (n1 + 2 ≤ k1 ∧ n2 + 2 ≤ k2 ∧ n3 + 2 ≤ k3) := ⟨c1.1, c2.1, c3.1⟩
  have t1 : ((n1 : Int) + 2).toNat = n1 + 2 := by omega
  have t2 : ((n2 : Int) + 2).toNat = n2 + 2 := by omega
  have t3 : ((n3 : Int) + 2).toNat = n3 + 2 := by omega
  have u1 : (n1 : Int) + 2 ≤ (k1 : Int) := by omega
  have u2 : (n2 : Int) + 2 ≤ (k2 : Int) := by omega
  have u3 : (n3 : Int) + 2 ≤ (k3 : Int) := by omega
  have v1 : n1 + 2 ≤ k1 := c1.1
  have v2 : n2 + 2 ≤ k2 := c2.1
  have v3 : n3 + 2 ≤ k3 := c3.1
  clear h1 h2 h3 r1 r2 r3 hW1 c1 c2 c3
  go_enter Try.func22, Try.ntmps22
  go_upto_region 1 with fail
  rw [← HW.out]
  go_wp2_with fail
  go_ret
  exact ⟨rfl, B1.out⟩
end Go.Proofs.Ytkaciochlemjiab
