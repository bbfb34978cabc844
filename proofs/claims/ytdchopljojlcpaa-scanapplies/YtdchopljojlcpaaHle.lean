import Derived.Test.YtdchopljojlcpaaProg
import Derived.Test.YtdchopljojlcpaaShelf
import Derived.Test.YtdchopljojlcpaaHld
namespace Go.Proofs.Ytdchopljojlcpaa
open Go.RowKit Go.Maps

set_option maxRecDepth 100000 in
set_option maxHeartbeats 2000000 in
theorem top2_any {vi vq vf : Value} {s : Stt} (w : World) (h : Stm w vi vq vf s) (hl : s.ind.length ≤ 4611686018427387904) : Calls Try.prog 36 #[sv vi vq vf s] w fun e w' => e = .returned (.int .i64 s.top) ∧ Below w.heap.size w w' := by
  obtain ⟨a1, c1, a2, c2, a3, c3, rfl, rfl, rfl⟩ := h.form
  obtain ⟨a, g, o, cap, e0, hcap, ha0, ha1, hc⟩ := h.i
  obtain ⟨rfl, -, rfl⟩ := Value.slice.inj e0
  clear h e0
  by_cases c0 : s.ind.length = 0
  · have d0 : ((s.ind.length : Int) == 0) = true := by rw [beq_iff_eq]; omega
    have d1 : (s.ind.length == 0) = true := by rw [beq_iff_eq]; omega
    have e : s.top = 0 := by
      unfold Stt.top
      rw [List.length_eq_zero_iff.1 c0]; rfl
    rw [e]
    clear hc ha0 ha1 hcap e
    go_enter Try.func36, Try.ntmps36
    go_wp2_with fail
    go_ret
    exact ⟨rfl, bel_up _ _⟩
  · have d0 : ((s.ind.length : Int) == 0) = false := by rw [beq_eq_false_iff_ne]; omega
    have d1 : (s.ind.length == 0) = false := by rw [beq_eq_false_iff_ne]; omega
    obtain rfl := ha1 (by omega)
    have ci := cell_up (.cells #[.slice (some ⟨g, o, none⟩) s.ind.length c1, .int .i64 s.pen, .slice a2 s.que.length c2, .slice a3 s.frm.length c3, .int .u16 (s.flg : Int)] 33) (hc _ _ (iC_get s.ind (s.ind.length - 1) (by omega)))
    rw [last_get] at ci
    have hs : IntKind.i64.wrap ((s.ind.length : Int) - 1) = ((s.ind.length - 1 : Nat) : Int) := by rw [IntKind.wrap_i64]; omega
    have hs2 : ((s.ind.length - 1 : Nat) : Int) = (s.ind.length : Int) - 1 := by omega
    have k1 : ((s.ind.length - 1 : Nat) : Int) < (s.ind.length : Int) := by omega
    have k2 : s.ind.length - 1 < s.ind.length := by omega
    have e : s.top = topI s.ind := rfl
    rw [e]
    clear hc ha0 ha1 hcap
    go_enter Try.func36, Try.ntmps36
    go_wp2_with fail
    go_ret
    exact ⟨rfl, bel_up _ _⟩
set_option maxRecDepth 100000 in
set_option maxHeartbeats 8000000 in
theorem holds2_any {vi vq vf : Value} {s : Stt} (k n : Int) (ended : Bool) (w : World) (h : Stm w vi vq vf s) (hf : s.flg < 65536) (hl : s.ind.length ≤ 4611686018427387904) :
    Calls Try.prog 29 #[sv vi vq vf s, tv k n, .bool ended] w fun e w' => e = .returned (.bool (hld s k n ended)) ∧ Below w.heap.size w w' := by
  obtain ⟨a1, c1, a2, c2, a3, c3, rfl, rfl, rfl⟩ := h.form
  obtain ⟨W1, hW1⟩ : ∃ W1, W1 = (w.alloc (.cells #[.slice a1 s.ind.length c1, .int .i64 s.pen, .slice a2 s.que.length c2, .slice a3 s.frm.length c3, .int .u16 (s.flg : Int)] 33)).alloc (.cells #[.int .i64 k, .int .i64 n] 53) := ⟨_, rfl⟩
  have HB1 : Hid (Below w.heap.size w W1) := by rw [hW1]; exact below_trans (bel_up _ _) (bel_up _ _)
  have hp : W1.heap[w.heap.size]? = some (.cells #[.slice a1 s.ind.length c1, .int .i64 s.pen, .slice a2 s.que.length c2, .slice a3 s.frm.length c3, .int .u16 (s.flg : Int)] 33 (0, 0)) := by rw [hW1, (bel_up _ _).block _ (by simp)]; exact heap_new w _
  have hq : W1.heap[w.heap.size + 1]? = some (.cells #[.int .i64 k, .int .i64 n] 53 (0, 0)) := by
    rw [hW1]
    have := heap_new (w.alloc (.cells #[.slice a1 s.ind.length c1, .int .i64 s.pen, .slice a2 s.que.length c2, .slice a3 s.frm.length c3, .int .u16 (s.flg : Int)] 33)) (.cells #[.int .i64 k, .int .i64 n] 53)
    rw [World.size_alloc] at this
    exact this
  have p0 : W1.cell? ⟨w.heap.size, 0, none⟩ = some (.slice a1 s.ind.length c1) := by rw [Lib.cell_of_heap hp]; rfl
  have p1 : W1.cell? ⟨w.heap.size, 1, none⟩ = some (.int .i64 s.pen) := by rw [Lib.cell_of_heap hp]; rfl
  have p2 : W1.cell? ⟨w.heap.size, 2, none⟩ = some (.slice a2 s.que.length c2) := by rw [Lib.cell_of_heap hp]; rfl
  have p3 : W1.cell? ⟨w.heap.size, 3, none⟩ = some (.slice a3 s.frm.length c3) := by rw [Lib.cell_of_heap hp]; rfl
  have p4 : W1.cell? ⟨w.heap.size, 4, none⟩ = some (.int .u16 (s.flg : Int)) := by rw [Lib.cell_of_heap hp]; rfl
  have q0 : W1.cell? ⟨w.heap.size + 1, 0, none⟩ = some (.int .i64 k) := by rw [Lib.cell_of_heap hq]; rfl
  have q1 : W1.cell? ⟨w.heap.size + 1, 1, none⟩ = some (.int .i64 n) := by rw [Lib.cell_of_heap hq]; rfl
  have HP : Hid (∀ W, Below W1.heap.size W1 W → (W.cell? ⟨w.heap.size, 0, none⟩ = some (.slice a1 s.ind.length c1) ∧ W.cell? ⟨w.heap.size, 1, none⟩ = some (.int .i64 s.pen) ∧ W.cell? ⟨w.heap.size, 2, none⟩ = some (.slice a2 s.que.length c2) ∧ W.cell? ⟨w.heap.size, 3, none⟩ = some (.slice a3 s.frm.length c3) ∧ W.cell? ⟨w.heap.size, 4, none⟩ = some (.int .u16 (s.flg : Int)))) := fun W hW => ⟨below_cell hW p0, below_cell hW p1, below_cell hW p2, below_cell hW p3, below_cell hW p4⟩
  have HW : Hid (W1 = (w.alloc (.cells #[.slice a1 s.ind.length c1, .int .i64 s.pen, .slice a2 s.que.length c2, .slice a3 s.frm.length c3, .int .u16 (s.flg : Int)] 33)).alloc (.cells #[.int .i64 k, .int .i64 n] 53)) := hW1
  have HS : Hid (Stm W1 (.slice a1 s.ind.length c1) (.slice a2 s.que.length c2) (.slice a3 s.frm.length c3) s) := h.up HB1.out
  have HF : Hid (s.flg < 65536) := hf
  have HL : Hid (s.ind.length ≤ 4611686018427387904) := hl
  clear h hf hl hW1 hp hq
  by_cases c1 : k = 1
  · subst c1
    by_cases hp : 0 ≤ s.pen
    · have e0 : decide (0 ≤ s.pen) = true := by rw [decide_eq_true_eq]; exact hp
      have HE : Hid (hld s 1 n ended = decide (s.top < s.pen)) := by show (decide (0 ≤ s.pen) && decide (s.top < s.pen)) = _; rw [e0]; exact rfl
      clear hp
      go_enter Try.func29, Try.ntmps29
      go_upto_region 1 with fail
      rw [← HW.out]
      go_upto_region 3 with fail
      have HPD := HP.out W1.drew (Below.drew (Below.refl _ _))
      clear p0 p1 p2 p3 p4 q0 q1
      refine wp_region_noPanic ?_
      refine wp_region_held_drew (S := fun W => W.cell? ⟨w.heap.size, 0, none⟩ = some (.slice a1 s.ind.length c1) ∧ W.cell? ⟨w.heap.size, 1, none⟩ = some (.int .i64 s.pen) ∧ W.cell? ⟨w.heap.size, 2, none⟩ = some (.slice a2 s.que.length c2) ∧ W.cell? ⟨w.heap.size, 3, none⟩ = some (.slice a3 s.frm.length c3) ∧ W.cell? ⟨w.heap.size, 4, none⟩ = some (.int .u16 (s.flg : Int))) (by kernel_rfl) HPD (fun hHeld => ?_)
      clear HPD
      refine wpAnyH_take (i := 0) (oi := { dst := _, op := _, type := _, pos := _, after := _, guard := _ }) (v := ?_) rfl (by kernel_rfl) (by kernel_rfl) (by kernel_rfl) (fun _ _ _ h => h) (Or.inl ⟨by rfl, ?_⟩) (by assumption) ?_
      rotate_left
      · intro W hSw
        obtain ⟨h0, h1, h2, h3, h4⟩ := hSw
        go_simp
        (try with_reducible rfl)
      try simp only [Act.put, List.setIfInBounds_toArray, List.set_cons_zero, List.set_cons_succ]
      refine wpAnyH_take (i := 1) (oi := { dst := _, op := _, type := _, pos := _, after := _, guard := _ }) (v := ?_) rfl (by kernel_rfl) (by kernel_rfl) (by kernel_rfl) (fun _ _ _ h => h) (Or.inl ⟨by rfl, ?_⟩) (by assumption) ?_
      rotate_left
      · intro W hSw
        obtain ⟨h0, h1, h2, h3, h4⟩ := hSw
        go_simp
        (try with_reducible rfl)
      try simp only [Act.put, List.setIfInBounds_toArray, List.set_cons_zero, List.set_cons_succ]
      refine wpAnyH_take (i := 2) (oi := { dst := _, op := _, type := _, pos := _, after := _, guard := _ }) (v := ?_) rfl (by kernel_rfl) (by kernel_rfl) (by kernel_rfl) (fun _ _ _ h => h) (Or.inl ⟨by rfl, ?_⟩) (by assumption) ?_
      rotate_left
      · intro W hSw
        obtain ⟨h0, h1, h2, h3, h4⟩ := hSw
        go_simp
        (try with_reducible rfl)
      try simp only [Act.put, List.setIfInBounds_toArray, List.set_cons_zero, List.set_cons_succ]
      refine wpAnyH_take (i := 3) (oi := { dst := _, op := _, type := _, pos := _, after := _, guard := _ }) (v := ?_) rfl (by kernel_rfl) (by kernel_rfl) (by kernel_rfl) (fun _ _ _ h => h) (Or.inl ⟨by rfl, ?_⟩) (by assumption) ?_
      rotate_left
      · intro W hSw
        obtain ⟨h0, h1, h2, h3, h4⟩ := hSw
        go_simp
        (try with_reducible rfl)
      try simp only [Act.put, List.setIfInBounds_toArray, List.set_cons_zero, List.set_cons_succ]
      refine wpAnyH_take (i := 4) (oi := { dst := _, op := _, type := _, pos := _, after := _, guard := _ }) (v := ?_) rfl (by kernel_rfl) (by kernel_rfl) (by kernel_rfl) (fun _ _ _ h => h) (Or.inl ⟨by rfl, ?_⟩) (by assumption) ?_
      rotate_left
      · intro W hSw
        obtain ⟨h0, h1, h2, h3, h4⟩ := hSw
        go_simp
        (try with_reducible rfl)
      try simp only [Act.put, List.setIfInBounds_toArray, List.set_cons_zero, List.set_cons_succ]
      refine wpAnyH_take (i := 5) (oi := { dst := _, op := _, type := _, pos := _, after := _, guard := _ }) (v := ?_) rfl (by kernel_rfl) (by kernel_rfl) (by kernel_rfl) (fun _ _ _ h => h) (Or.inl ⟨by rfl, ?_⟩) (by assumption) ?_
      rotate_left
      · intro W hSw
        obtain ⟨h0, h1, h2, h3, h4⟩ := hSw
        go_simp
        (try with_reducible rfl)
      try simp only [Act.put, List.setIfInBounds_toArray, List.set_cons_zero, List.set_cons_succ]
      refine wpAnyH_take (i := 6) (oi := { dst := _, op := _, type := _, pos := _, after := _, guard := _ }) (v := ?_) rfl (by kernel_rfl) (by kernel_rfl) (by kernel_rfl) (fun _ _ _ h => h) (Or.inl ⟨by rfl, ?_⟩) (by assumption) ?_
      rotate_left
      · intro W hSw
        obtain ⟨h0, h1, h2, h3, h4⟩ := hSw
        go_simp
        (try with_reducible rfl)
      try simp only [Act.put, List.setIfInBounds_toArray, List.set_cons_zero, List.set_cons_succ]
      refine wpAnyH_ready (rs := [7]) (by kernel_rfl) (by simp) ?_
      refine AllReadyH.cons (o := { dst := _, op := _, type := _, pos := _, after := _, guard := _ }) rfl (fun K hK => ?_) AllReadyH.nil
      go_simp
      refine (top2_any _ (HS.out.up (Below.drew (Below.refl _ _))) HL.out).mono ?_
      rintro e w6 ⟨rfl, hb6⟩
      have B6 : Hid (Below W1.heap.size W1 w6) := below_trans (Below.drew (Below.refl _ _)) hb6
      clear hb6
      go_wp2_with fail
      refine hK.out _ _ ?_ (fun hHeld => ?_)
      · (try dsimp only)
        exact HP.out _ B6.out
      clear hK K
      try simp only [Act.put, List.setIfInBounds_toArray, List.set_cons_zero, List.set_cons_succ]
      refine wpAnyH_take (i := 8) (oi := { dst := _, op := _, type := _, pos := _, after := _, guard := _ }) (v := ?_) rfl (by kernel_rfl) (by kernel_rfl) (by kernel_rfl) (fun _ _ _ h => h) (Or.inl ⟨by rfl, ?_⟩) (by assumption) ?_
      rotate_left
      · intro W hSw
        obtain ⟨h0, h1, h2, h3, h4⟩ := hSw
        go_simp
        (try with_reducible rfl)
      try simp only [Act.put, List.setIfInBounds_toArray, List.set_cons_zero, List.set_cons_succ]
      refine wpAnyH_take (i := 9) (oi := { dst := _, op := _, type := _, pos := _, after := _, guard := _ }) (v := ?_) rfl (by kernel_rfl) (by kernel_rfl) (by kernel_rfl) (fun _ _ _ h => h) (Or.inl ⟨by rfl, ?_⟩) (by assumption) ?_
      rotate_left
      · intro W hSw
        obtain ⟨h0, h1, h2, h3, h4⟩ := hSw
        go_simp
        (try with_reducible rfl)
      try simp only [Act.put, List.setIfInBounds_toArray, List.set_cons_zero, List.set_cons_succ]
      refine wpAnyH_take (i := 10) (oi := { dst := _, op := _, type := _, pos := _, after := _, guard := _ }) (v := ?_) rfl (by kernel_rfl) (by kernel_rfl) (by kernel_rfl) (fun _ _ _ h => h) (Or.inl ⟨by rfl, ?_⟩) (by assumption) ?_
      rotate_left
      · intro W hSw
        obtain ⟨h0, h1, h2, h3, h4⟩ := hSw
        go_simp
        (try with_reducible rfl)
      try simp only [Act.put, List.setIfInBounds_toArray, List.set_cons_zero, List.set_cons_succ]
      refine wpAnyH_done (by kernel_rfl) ?_ _
      refine NoPanic.normal ?_
      clear hHeld
      go_wp2_with fail
      go_ret
      exact ⟨by rw [HE.out]; rfl, below_trans HB1.out B6.out⟩
    · have e0 : decide (0 ≤ s.pen) = false := by rw [decide_eq_false_iff_not]; exact hp
      have HE : Hid (hld s 1 n ended = false) := by show (decide (0 ≤ s.pen) && decide (s.top < s.pen)) = _; rw [e0]; exact rfl
      clear hp
      go_enter Try.func29, Try.ntmps29
      go_upto_region 1 with fail
      rw [← HW.out]
      go_upto_region 3 with fail
      have HPD := HP.out W1.drew (Below.drew (Below.refl _ _))
      clear p0 p1 p2 p3 p4 q0 q1
      refine wp_region_noPanic ?_
      refine wp_region_held_drew (S := fun W => W.cell? ⟨w.heap.size, 0, none⟩ = some (.slice a1 s.ind.length c1) ∧ W.cell? ⟨w.heap.size, 1, none⟩ = some (.int .i64 s.pen) ∧ W.cell? ⟨w.heap.size, 2, none⟩ = some (.slice a2 s.que.length c2) ∧ W.cell? ⟨w.heap.size, 3, none⟩ = some (.slice a3 s.frm.length c3) ∧ W.cell? ⟨w.heap.size, 4, none⟩ = some (.int .u16 (s.flg : Int))) (by kernel_rfl) HPD (fun hHeld => ?_)
      clear HPD
      refine wpAnyH_take (i := 0) (oi := { dst := _, op := _, type := _, pos := _, after := _, guard := _ }) (v := ?_) rfl (by kernel_rfl) (by kernel_rfl) (by kernel_rfl) (fun _ _ _ h => h) (Or.inl ⟨by rfl, ?_⟩) (by assumption) ?_
      rotate_left
      · intro W hSw
        obtain ⟨h0, h1, h2, h3, h4⟩ := hSw
        go_simp
        (try with_reducible rfl)
      try simp only [Act.put, List.setIfInBounds_toArray, List.set_cons_zero, List.set_cons_succ]
      refine wpAnyH_take (i := 1) (oi := { dst := _, op := _, type := _, pos := _, after := _, guard := _ }) (v := ?_) rfl (by kernel_rfl) (by kernel_rfl) (by kernel_rfl) (fun _ _ _ h => h) (Or.inl ⟨by rfl, ?_⟩) (by assumption) ?_
      rotate_left
      · intro W hSw
        obtain ⟨h0, h1, h2, h3, h4⟩ := hSw
        go_simp
        (try with_reducible rfl)
      try simp only [Act.put, List.setIfInBounds_toArray, List.set_cons_zero, List.set_cons_succ]
      refine wpAnyH_take (i := 2) (oi := { dst := _, op := _, type := _, pos := _, after := _, guard := _ }) (v := ?_) rfl (by kernel_rfl) (by kernel_rfl) (by kernel_rfl) (fun _ _ _ h => h) (Or.inl ⟨by rfl, ?_⟩) (by assumption) ?_
      rotate_left
      · intro W hSw
        obtain ⟨h0, h1, h2, h3, h4⟩ := hSw
        go_simp
        (try with_reducible rfl)
      try simp only [Act.put, List.setIfInBounds_toArray, List.set_cons_zero, List.set_cons_succ]
      refine wpAnyH_take (i := 3) (oi := { dst := _, op := _, type := _, pos := _, after := _, guard := _ }) (v := ?_) rfl (by kernel_rfl) (by kernel_rfl) (by kernel_rfl) (fun _ _ _ h => h) (Or.inl ⟨by rfl, ?_⟩) (by assumption) ?_
      rotate_left
      · intro W hSw
        obtain ⟨h0, h1, h2, h3, h4⟩ := hSw
        go_simp
        (try with_reducible rfl)
      try simp only [Act.put, List.setIfInBounds_toArray, List.set_cons_zero, List.set_cons_succ]
      refine wpAnyH_take (i := 4) (oi := { dst := _, op := _, type := _, pos := _, after := _, guard := _ }) rfl (by kernel_rfl) (by kernel_rfl) (by kernel_rfl) (fun _ _ _ h => h) (Or.inr ⟨by rfl, rfl⟩) (by assumption) ?_
      try simp only [Act.put, List.setIfInBounds_toArray, List.set_cons_zero, List.set_cons_succ]
      refine wpAnyH_take (i := 5) (oi := { dst := _, op := _, type := _, pos := _, after := _, guard := _ }) rfl (by kernel_rfl) (by kernel_rfl) (by kernel_rfl) (fun _ _ _ h => h) (Or.inr ⟨by rfl, rfl⟩) (by assumption) ?_
      try simp only [Act.put, List.setIfInBounds_toArray, List.set_cons_zero, List.set_cons_succ]
      refine wpAnyH_take (i := 6) (oi := { dst := _, op := _, type := _, pos := _, after := _, guard := _ }) rfl (by kernel_rfl) (by kernel_rfl) (by kernel_rfl) (fun _ _ _ h => h) (Or.inr ⟨by rfl, rfl⟩) (by assumption) ?_
      try simp only [Act.put, List.setIfInBounds_toArray, List.set_cons_zero, List.set_cons_succ]
      refine wpAnyH_take (i := 7) (oi := { dst := _, op := _, type := _, pos := _, after := _, guard := _ }) rfl (by kernel_rfl) (by kernel_rfl) (by kernel_rfl) (fun _ _ _ h => h) (Or.inr ⟨by rfl, rfl⟩) (by assumption) ?_
      try simp only [Act.put, List.setIfInBounds_toArray, List.set_cons_zero, List.set_cons_succ]
      refine wpAnyH_take (i := 8) (oi := { dst := _, op := _, type := _, pos := _, after := _, guard := _ }) rfl (by kernel_rfl) (by kernel_rfl) (by kernel_rfl) (fun _ _ _ h => h) (Or.inr ⟨by rfl, rfl⟩) (by assumption) ?_
      try simp only [Act.put, List.setIfInBounds_toArray, List.set_cons_zero, List.set_cons_succ]
      refine wpAnyH_take (i := 9) (oi := { dst := _, op := _, type := _, pos := _, after := _, guard := _ }) (v := ?_) rfl (by kernel_rfl) (by kernel_rfl) (by kernel_rfl) (fun _ _ _ h => h) (Or.inl ⟨by rfl, ?_⟩) (by assumption) ?_
      rotate_left
      · intro W hSw
        obtain ⟨h0, h1, h2, h3, h4⟩ := hSw
        go_simp
        (try with_reducible rfl)
      try simp only [Act.put, List.setIfInBounds_toArray, List.set_cons_zero, List.set_cons_succ]
      refine wpAnyH_take (i := 10) (oi := { dst := _, op := _, type := _, pos := _, after := _, guard := _ }) (v := ?_) rfl (by kernel_rfl) (by kernel_rfl) (by kernel_rfl) (fun _ _ _ h => h) (Or.inl ⟨by rfl, ?_⟩) (by assumption) ?_
      rotate_left
      · intro W hSw
        obtain ⟨h0, h1, h2, h3, h4⟩ := hSw
        go_simp
        (try with_reducible rfl)
      try simp only [Act.put, List.setIfInBounds_toArray, List.set_cons_zero, List.set_cons_succ]
      refine wpAnyH_done (by kernel_rfl) ?_ _
      refine NoPanic.normal ?_
      clear hHeld
      go_wp2_with fail
      go_ret
      exact ⟨by rw [HE.out]; rfl, Below.drew HB1.out⟩
  have d1 : (k == 1) = false := by rw [beq_eq_false_iff_ne]; exact c1
  by_cases c2 : k = 2
  · subst c2
    clear c1 d1
    by_cases hp : 0 ≤ s.pen
    · have e0 : decide (0 ≤ s.pen) = true := by rw [decide_eq_true_eq]; exact hp
      have HE : Hid (hld s 2 n ended = decide (s.pen < s.top)) := by show (decide (0 ≤ s.pen) && decide (s.pen < s.top)) = _; rw [e0]; exact rfl
      clear hp
      go_enter Try.func29, Try.ntmps29
      go_upto_region 1 with fail
      rw [← HW.out]
      go_upto_region 5 with fail
      have HPD := HP.out W1.drew (Below.drew (Below.refl _ _))
      clear p0 p1 p2 p3 p4 q0 q1
      refine wp_region_noPanic ?_
      refine wp_region_held_drew (S := fun W => W.cell? ⟨w.heap.size, 0, none⟩ = some (.slice a1 s.ind.length c1) ∧ W.cell? ⟨w.heap.size, 1, none⟩ = some (.int .i64 s.pen) ∧ W.cell? ⟨w.heap.size, 2, none⟩ = some (.slice a2 s.que.length c2) ∧ W.cell? ⟨w.heap.size, 3, none⟩ = some (.slice a3 s.frm.length c3) ∧ W.cell? ⟨w.heap.size, 4, none⟩ = some (.int .u16 (s.flg : Int))) (by kernel_rfl) HPD (fun hHeld => ?_)
      clear HPD
      refine wpAnyH_take (i := 0) (oi := { dst := _, op := _, type := _, pos := _, after := _, guard := _ }) (v := ?_) rfl (by kernel_rfl) (by kernel_rfl) (by kernel_rfl) (fun _ _ _ h => h) (Or.inl ⟨by rfl, ?_⟩) (by assumption) ?_
      rotate_left
      · intro W hSw
        obtain ⟨h0, h1, h2, h3, h4⟩ := hSw
        go_simp
        (try with_reducible rfl)
      try simp only [Act.put, List.setIfInBounds_toArray, List.set_cons_zero, List.set_cons_succ]
      refine wpAnyH_take (i := 1) (oi := { dst := _, op := _, type := _, pos := _, after := _, guard := _ }) (v := ?_) rfl (by kernel_rfl) (by kernel_rfl) (by kernel_rfl) (fun _ _ _ h => h) (Or.inl ⟨by rfl, ?_⟩) (by assumption) ?_
      rotate_left
      · intro W hSw
        obtain ⟨h0, h1, h2, h3, h4⟩ := hSw
        go_simp
        (try with_reducible rfl)
      try simp only [Act.put, List.setIfInBounds_toArray, List.set_cons_zero, List.set_cons_succ]
      refine wpAnyH_take (i := 2) (oi := { dst := _, op := _, type := _, pos := _, after := _, guard := _ }) (v := ?_) rfl (by kernel_rfl) (by kernel_rfl) (by kernel_rfl) (fun _ _ _ h => h) (Or.inl ⟨by rfl, ?_⟩) (by assumption) ?_
      rotate_left
      · intro W hSw
        obtain ⟨h0, h1, h2, h3, h4⟩ := hSw
        go_simp
        (try with_reducible rfl)
      try simp only [Act.put, List.setIfInBounds_toArray, List.set_cons_zero, List.set_cons_succ]
      refine wpAnyH_take (i := 3) (oi := { dst := _, op := _, type := _, pos := _, after := _, guard := _ }) (v := ?_) rfl (by kernel_rfl) (by kernel_rfl) (by kernel_rfl) (fun _ _ _ h => h) (Or.inl ⟨by rfl, ?_⟩) (by assumption) ?_
      rotate_left
      · intro W hSw
        obtain ⟨h0, h1, h2, h3, h4⟩ := hSw
        go_simp
        (try with_reducible rfl)
      try simp only [Act.put, List.setIfInBounds_toArray, List.set_cons_zero, List.set_cons_succ]
      refine wpAnyH_take (i := 4) (oi := { dst := _, op := _, type := _, pos := _, after := _, guard := _ }) (v := ?_) rfl (by kernel_rfl) (by kernel_rfl) (by kernel_rfl) (fun _ _ _ h => h) (Or.inl ⟨by rfl, ?_⟩) (by assumption) ?_
      rotate_left
      · intro W hSw
        obtain ⟨h0, h1, h2, h3, h4⟩ := hSw
        go_simp
        (try with_reducible rfl)
      try simp only [Act.put, List.setIfInBounds_toArray, List.set_cons_zero, List.set_cons_succ]
      refine wpAnyH_take (i := 5) (oi := { dst := _, op := _, type := _, pos := _, after := _, guard := _ }) (v := ?_) rfl (by kernel_rfl) (by kernel_rfl) (by kernel_rfl) (fun _ _ _ h => h) (Or.inl ⟨by rfl, ?_⟩) (by assumption) ?_
      rotate_left
      · intro W hSw
        obtain ⟨h0, h1, h2, h3, h4⟩ := hSw
        go_simp
        (try with_reducible rfl)
      try simp only [Act.put, List.setIfInBounds_toArray, List.set_cons_zero, List.set_cons_succ]
      refine wpAnyH_take (i := 6) (oi := { dst := _, op := _, type := _, pos := _, after := _, guard := _ }) (v := ?_) rfl (by kernel_rfl) (by kernel_rfl) (by kernel_rfl) (fun _ _ _ h => h) (Or.inl ⟨by rfl, ?_⟩) (by assumption) ?_
      rotate_left
      · intro W hSw
        obtain ⟨h0, h1, h2, h3, h4⟩ := hSw
        go_simp
        (try with_reducible rfl)
      try simp only [Act.put, List.setIfInBounds_toArray, List.set_cons_zero, List.set_cons_succ]
      refine wpAnyH_ready (rs := [7]) (by kernel_rfl) (by simp) ?_
      refine AllReadyH.cons (o := { dst := _, op := _, type := _, pos := _, after := _, guard := _ }) rfl (fun K hK => ?_) AllReadyH.nil
      go_simp
      refine (top2_any _ (HS.out.up (Below.drew (Below.refl _ _))) HL.out).mono ?_
      rintro e w6 ⟨rfl, hb6⟩
      have B6 : Hid (Below W1.heap.size W1 w6) := below_trans (Below.drew (Below.refl _ _)) hb6
      clear hb6
      go_wp2_with fail
      refine hK.out _ _ ?_ (fun hHeld => ?_)
      · (try dsimp only)
        exact HP.out _ B6.out
      clear hK K
      try simp only [Act.put, List.setIfInBounds_toArray, List.set_cons_zero, List.set_cons_succ]
      refine wpAnyH_take (i := 8) (oi := { dst := _, op := _, type := _, pos := _, after := _, guard := _ }) (v := ?_) rfl (by kernel_rfl) (by kernel_rfl) (by kernel_rfl) (fun _ _ _ h => h) (Or.inl ⟨by rfl, ?_⟩) (by assumption) ?_
      rotate_left
      · intro W hSw
        obtain ⟨h0, h1, h2, h3, h4⟩ := hSw
        go_simp
        (try with_reducible rfl)
      try simp only [Act.put, List.setIfInBounds_toArray, List.set_cons_zero, List.set_cons_succ]
      refine wpAnyH_take (i := 9) (oi := { dst := _, op := _, type := _, pos := _, after := _, guard := _ }) (v := ?_) rfl (by kernel_rfl) (by kernel_rfl) (by kernel_rfl) (fun _ _ _ h => h) (Or.inl ⟨by rfl, ?_⟩) (by assumption) ?_
      rotate_left
      · intro W hSw
        obtain ⟨h0, h1, h2, h3, h4⟩ := hSw
        go_simp
        (try with_reducible rfl)
      try simp only [Act.put, List.setIfInBounds_toArray, List.set_cons_zero, List.set_cons_succ]
      refine wpAnyH_take (i := 10) (oi := { dst := _, op := _, type := _, pos := _, after := _, guard := _ }) (v := ?_) rfl (by kernel_rfl) (by kernel_rfl) (by kernel_rfl) (fun _ _ _ h => h) (Or.inl ⟨by rfl, ?_⟩) (by assumption) ?_
      rotate_left
      · intro W hSw
        obtain ⟨h0, h1, h2, h3, h4⟩ := hSw
        go_simp
        (try with_reducible rfl)
      try simp only [Act.put, List.setIfInBounds_toArray, List.set_cons_zero, List.set_cons_succ]
      refine wpAnyH_done (by kernel_rfl) ?_ _
      refine NoPanic.normal ?_
      clear hHeld
      go_wp2_with fail
      go_ret
      exact ⟨by rw [HE.out]; rfl, below_trans HB1.out B6.out⟩
    · have e0 : decide (0 ≤ s.pen) = false := by rw [decide_eq_false_iff_not]; exact hp
      have HE : Hid (hld s 2 n ended = false) := by show (decide (0 ≤ s.pen) && decide (s.pen < s.top)) = _; rw [e0]; exact rfl
      clear hp
      go_enter Try.func29, Try.ntmps29
      go_upto_region 1 with fail
      rw [← HW.out]
      go_upto_region 5 with fail
      have HPD := HP.out W1.drew (Below.drew (Below.refl _ _))
      clear p0 p1 p2 p3 p4 q0 q1
      refine wp_region_noPanic ?_
      refine wp_region_held_drew (S := fun W => W.cell? ⟨w.heap.size, 0, none⟩ = some (.slice a1 s.ind.length c1) ∧ W.cell? ⟨w.heap.size, 1, none⟩ = some (.int .i64 s.pen) ∧ W.cell? ⟨w.heap.size, 2, none⟩ = some (.slice a2 s.que.length c2) ∧ W.cell? ⟨w.heap.size, 3, none⟩ = some (.slice a3 s.frm.length c3) ∧ W.cell? ⟨w.heap.size, 4, none⟩ = some (.int .u16 (s.flg : Int))) (by kernel_rfl) HPD (fun hHeld => ?_)
      clear HPD
      refine wpAnyH_take (i := 0) (oi := { dst := _, op := _, type := _, pos := _, after := _, guard := _ }) (v := ?_) rfl (by kernel_rfl) (by kernel_rfl) (by kernel_rfl) (fun _ _ _ h => h) (Or.inl ⟨by rfl, ?_⟩) (by assumption) ?_
      rotate_left
      · intro W hSw
        obtain ⟨h0, h1, h2, h3, h4⟩ := hSw
        go_simp
        (try with_reducible rfl)
      try simp only [Act.put, List.setIfInBounds_toArray, List.set_cons_zero, List.set_cons_succ]
      refine wpAnyH_take (i := 1) (oi := { dst := _, op := _, type := _, pos := _, after := _, guard := _ }) (v := ?_) rfl (by kernel_rfl) (by kernel_rfl) (by kernel_rfl) (fun _ _ _ h => h) (Or.inl ⟨by rfl, ?_⟩) (by assumption) ?_
      rotate_left
      · intro W hSw
        obtain ⟨h0, h1, h2, h3, h4⟩ := hSw
        go_simp
        (try with_reducible rfl)
      try simp only [Act.put, List.setIfInBounds_toArray, List.set_cons_zero, List.set_cons_succ]
      refine wpAnyH_take (i := 2) (oi := { dst := _, op := _, type := _, pos := _, after := _, guard := _ }) (v := ?_) rfl (by kernel_rfl) (by kernel_rfl) (by kernel_rfl) (fun _ _ _ h => h) (Or.inl ⟨by rfl, ?_⟩) (by assumption) ?_
      rotate_left
      · intro W hSw
        obtain ⟨h0, h1, h2, h3, h4⟩ := hSw
        go_simp
        (try with_reducible rfl)
      try simp only [Act.put, List.setIfInBounds_toArray, List.set_cons_zero, List.set_cons_succ]
      refine wpAnyH_take (i := 3) (oi := { dst := _, op := _, type := _, pos := _, after := _, guard := _ }) (v := ?_) rfl (by kernel_rfl) (by kernel_rfl) (by kernel_rfl) (fun _ _ _ h => h) (Or.inl ⟨by rfl, ?_⟩) (by assumption) ?_
      rotate_left
      · intro W hSw
        obtain ⟨h0, h1, h2, h3, h4⟩ := hSw
        go_simp
        (try with_reducible rfl)
      try simp only [Act.put, List.setIfInBounds_toArray, List.set_cons_zero, List.set_cons_succ]
      refine wpAnyH_take (i := 4) (oi := { dst := _, op := _, type := _, pos := _, after := _, guard := _ }) rfl (by kernel_rfl) (by kernel_rfl) (by kernel_rfl) (fun _ _ _ h => h) (Or.inr ⟨by rfl, rfl⟩) (by assumption) ?_
      try simp only [Act.put, List.setIfInBounds_toArray, List.set_cons_zero, List.set_cons_succ]
      refine wpAnyH_take (i := 5) (oi := { dst := _, op := _, type := _, pos := _, after := _, guard := _ }) rfl (by kernel_rfl) (by kernel_rfl) (by kernel_rfl) (fun _ _ _ h => h) (Or.inr ⟨by rfl, rfl⟩) (by assumption) ?_
      try simp only [Act.put, List.setIfInBounds_toArray, List.set_cons_zero, List.set_cons_succ]
      refine wpAnyH_take (i := 6) (oi := { dst := _, op := _, type := _, pos := _, after := _, guard := _ }) rfl (by kernel_rfl) (by kernel_rfl) (by kernel_rfl) (fun _ _ _ h => h) (Or.inr ⟨by rfl, rfl⟩) (by assumption) ?_
      try simp only [Act.put, List.setIfInBounds_toArray, List.set_cons_zero, List.set_cons_succ]
      refine wpAnyH_take (i := 7) (oi := { dst := _, op := _, type := _, pos := _, after := _, guard := _ }) rfl (by kernel_rfl) (by kernel_rfl) (by kernel_rfl) (fun _ _ _ h => h) (Or.inr ⟨by rfl, rfl⟩) (by assumption) ?_
      try simp only [Act.put, List.setIfInBounds_toArray, List.set_cons_zero, List.set_cons_succ]
      refine wpAnyH_take (i := 8) (oi := { dst := _, op := _, type := _, pos := _, after := _, guard := _ }) rfl (by kernel_rfl) (by kernel_rfl) (by kernel_rfl) (fun _ _ _ h => h) (Or.inr ⟨by rfl, rfl⟩) (by assumption) ?_
      try simp only [Act.put, List.setIfInBounds_toArray, List.set_cons_zero, List.set_cons_succ]
      refine wpAnyH_take (i := 9) (oi := { dst := _, op := _, type := _, pos := _, after := _, guard := _ }) (v := ?_) rfl (by kernel_rfl) (by kernel_rfl) (by kernel_rfl) (fun _ _ _ h => h) (Or.inl ⟨by rfl, ?_⟩) (by assumption) ?_
      rotate_left
      · intro W hSw
        obtain ⟨h0, h1, h2, h3, h4⟩ := hSw
        go_simp
        (try with_reducible rfl)
      try simp only [Act.put, List.setIfInBounds_toArray, List.set_cons_zero, List.set_cons_succ]
      refine wpAnyH_take (i := 10) (oi := { dst := _, op := _, type := _, pos := _, after := _, guard := _ }) (v := ?_) rfl (by kernel_rfl) (by kernel_rfl) (by kernel_rfl) (fun _ _ _ h => h) (Or.inl ⟨by rfl, ?_⟩) (by assumption) ?_
      rotate_left
      · intro W hSw
        obtain ⟨h0, h1, h2, h3, h4⟩ := hSw
        go_simp
        (try with_reducible rfl)
      try simp only [Act.put, List.setIfInBounds_toArray, List.set_cons_zero, List.set_cons_succ]
      refine wpAnyH_done (by kernel_rfl) ?_ _
      refine NoPanic.normal ?_
      clear hHeld
      go_wp2_with fail
      go_ret
      exact ⟨by rw [HE.out]; rfl, Below.drew HB1.out⟩
  have d2 : (k == 2) = false := by rw [beq_eq_false_iff_ne]; exact c2
  by_cases c3 : k = 3
  · subst c3
    clear c1 c2 d1 d2
    have HE : Hid (hld s 3 n ended = decide (0 < s.que.length)) := rfl
    go_enter Try.func29, Try.ntmps29
    go_upto_region 1 with fail
    rw [← HW.out]
    go_wp2_with fail
    go_ret
    refine ⟨?_, HB1.out⟩
    rw [HE.out]
    refine ret_bool ?_
    first | rfl | (by_cases h : s.que.length = 0 <;> simp [h]) | (by_cases h : 0 < s.que.length <;> simp [h])
  have d3 : (k == 3) = false := by rw [beq_eq_false_iff_ne]; exact c3
  by_cases c4 : k = 4
  · subst c4
    clear c1 c2 c3 d1 d2 d3
    have HE : Hid (hld s 4 n ended = decide (s.que.length = 0)) := rfl
    go_enter Try.func29, Try.ntmps29
    go_upto_region 1 with fail
    rw [← HW.out]
    go_wp2_with fail
    go_ret
    refine ⟨?_, HB1.out⟩
    rw [HE.out]
    refine ret_bool ?_
    first | rfl | (by_cases h : s.que.length = 0 <;> simp [h]) | (by_cases h : 0 < s.que.length <;> simp [h])
  have d4 : (k == 4) = false := by rw [beq_eq_false_iff_ne]; exact c4
  by_cases c5 : k = 5
  · subst c5
    clear c1 c2 c3 c4 d1 d2 d3 d4
    by_cases hn : 0 ≤ n ∧ n < 16
    · have HFG : Hid ((decide (0 ≤ n) && decide (n < 16)) = true) := by rw [Hid]; simp; exact hn
      obtain ⟨i, rfl⟩ : ∃ i : Nat, n = (i : Int) := ⟨n.toNat, by omega⟩
      have l1 : (i : Int) ≤ 16 := by omega
      have l2 : (0 : Int) ≤ (i : Int) := by omega
      have HE : Hid (hld s 5 i ended = s.flg.testBit i) := by
        show ((decide (0 ≤ (i : Int)) && decide ((i : Int) < 16)) && s.flg.testBit (i : Int).toNat) = _
        rw [HFG.out, Int.toNat_natCast]
        exact Bool.true_and _
      have hb := u16_bit s.flg i HF.out
      have HBIT : Hid _ := hb
      clear hn hb
      go_enter Try.func29, Try.ntmps29
      go_upto_region 1 with fail
      rw [← HW.out]
      go_wp2_with (go_at_call 37; refine (flag_any _ _).mono ?_; rintro e w9 ⟨rfl, hw9⟩; rw [hw9, HFG.out]; clear hw9 w9)
      go_ret
      refine ⟨?_, HB1.out⟩
      rw [HE.out]
      refine ret_bool ?_
      rw [HBIT.out]
      cases s.flg.testBit i <;> rfl
    · have HFG : Hid ((decide (0 ≤ n) && decide (n < 16)) = false) := by rw [Hid, ← Bool.not_eq_true]; simp; omega
      have HE : Hid (hld s 5 n ended = false) := by
        show ((decide (0 ≤ n) && decide (n < 16)) && s.flg.testBit n.toNat) = _
        rw [HFG.out]; exact rfl
      clear hn
      go_enter Try.func29, Try.ntmps29
      go_upto_region 1 with fail
      rw [← HW.out]
      go_wp2_with (go_at_call 37; refine (flag_any _ _).mono ?_; rintro e w9 ⟨rfl, hw9⟩; rw [hw9, HFG.out]; clear hw9 w9)
      go_ret
      exact ⟨by rw [HE.out]; rfl, HB1.out⟩
  have d5 : (k == 5) = false := by rw [beq_eq_false_iff_ne]; exact c5
  by_cases c6 : k = 6
  · subst c6
    clear c1 c2 c3 c4 c5 d1 d2 d3 d4 d5
    by_cases hn : 0 ≤ n ∧ n < 16
    · have HFG : Hid ((decide (0 ≤ n) && decide (n < 16)) = true) := by rw [Hid]; simp; exact hn
      obtain ⟨i, rfl⟩ : ∃ i : Nat, n = (i : Int) := ⟨n.toNat, by omega⟩
      have l1 : (i : Int) ≤ 16 := by omega
      have l2 : (0 : Int) ≤ (i : Int) := by omega
      have HE : Hid (hld s 6 i ended = !s.flg.testBit i) := by
        show ((decide (0 ≤ (i : Int)) && decide ((i : Int) < 16)) && !s.flg.testBit (i : Int).toNat) = _
        rw [HFG.out, Int.toNat_natCast]
        exact Bool.true_and _
      have hb := u16_bit s.flg i HF.out
      have HBIT : Hid _ := hb
      clear hn hb
      go_enter Try.func29, Try.ntmps29
      go_upto_region 1 with fail
      rw [← HW.out]
      go_wp2_with (go_at_call 37; refine (flag_any _ _).mono ?_; rintro e w9 ⟨rfl, hw9⟩; rw [hw9, HFG.out]; clear hw9 w9)
      go_ret
      refine ⟨?_, HB1.out⟩
      rw [HE.out]
      refine ret_bool ?_
      rw [HBIT.out]
      cases s.flg.testBit i <;> rfl
    · have HFG : Hid ((decide (0 ≤ n) && decide (n < 16)) = false) := by rw [Hid, ← Bool.not_eq_true]; simp; omega
      have HE : Hid (hld s 6 n ended = false) := by
        show ((decide (0 ≤ n) && decide (n < 16)) && !s.flg.testBit n.toNat) = _
        rw [HFG.out]; exact rfl
      clear hn
      go_enter Try.func29, Try.ntmps29
      go_upto_region 1 with fail
      rw [← HW.out]
      go_wp2_with (go_at_call 37; refine (flag_any _ _).mono ?_; rintro e w9 ⟨rfl, hw9⟩; rw [hw9, HFG.out]; clear hw9 w9)
      go_ret
      exact ⟨by rw [HE.out]; rfl, HB1.out⟩
  have d6 : (k == 6) = false := by rw [beq_eq_false_iff_ne]; exact c6
  by_cases c7 : k = 7
  · subst c7
    clear c1 c2 c3 c4 c5 c6 d1 d2 d3 d4 d5 d6
    have HE : Hid (hld s 7 n ended = ended) := rfl
    go_enter Try.func29, Try.ntmps29
    go_upto_region 1 with fail
    rw [← HW.out]
    go_wp2_with fail
    go_ret
    exact ⟨by rw [HE.out]; rfl, HB1.out⟩
  have d7 : (k == 7) = false := by rw [beq_eq_false_iff_ne]; exact c7
  by_cases c8 : k = 8
  · subst c8
    clear c1 c2 c3 c4 c5 c6 c7 d1 d2 d3 d4 d5 d6 d7
    have HE : Hid (hld s 8 n ended = decide (0 < s.ind.length)) := rfl
    go_enter Try.func29, Try.ntmps29
    go_upto_region 1 with fail
    rw [← HW.out]
    go_wp2_with fail
    go_ret
    refine ⟨?_, HB1.out⟩
    rw [HE.out]
    refine ret_bool ?_
    first | rfl | (by_cases h : s.ind.length = 0 <;> simp [h]) | (by_cases h : 0 < s.ind.length <;> simp [h])
  have d8 : (k == 8) = false := by rw [beq_eq_false_iff_ne]; exact c8
  have HE : Hid (hld s k n ended = false) := by
    unfold hld
    rw [if_neg c1, if_neg c2, if_neg c3, if_neg c4, if_neg c5, if_neg c6, if_neg c7, if_neg c8]
    exact rfl
  clear c1 c2 c3 c4 c5 c6 c7 c8
  go_enter Try.func29, Try.ntmps29
  go_upto_region 1 with fail
  rw [← HW.out]
  go_wp2_with fail
  go_ret
  exact ⟨by rw [HE.out]; rfl, HB1.out⟩
end Go.Proofs.Ytdchopljojlcpaa
