import Derived.Test.YtkaciochlemjiaaSam
import Derived.Test.YtkaciochlemjiaaLsh
namespace Go.Proofs.Ytkaciochlemjiaa
open Go.RowKit Go.Maps

set_option maxRecDepth 100000 in
set_option maxHeartbeats 4000000 in
theorem eq39_any {v u : Value} {l k : List (Int)} (w : World) (h : Rw w v l.length (iC l)) (h' : Rw w u k.length (iC k)) (hl : l.length ≤ 4611686018427387904) :
    Calls Try.prog 39 #[v, u] w fun e w' => e = .returned (.bool (decide (l = k))) ∧ Below w.heap.size w w' := by
  obtain ⟨a1, g1, o1, d1, rfl, -, -, f2, f3⟩ := h
  obtain ⟨a2, g2, o2, d2, rfl, -, -, f5, f6⟩ := h'
  have HL : Hid (l.length ≤ 4611686018427387904) := hl
  have HA : Hid ((0 < l.length → a1 = some ⟨g1, o1, none⟩) ∧ (0 < k.length → a2 = some ⟨g2, o2, none⟩)) := ⟨f2, f5⟩
  have HC : Hid ((∀ j u, (iC l)[j]? = some u → w.cell? ⟨g1, o1 + j, none⟩ = some u) ∧ (∀ j u, (iC k)[j]? = some u → w.cell? ⟨g2, o2 + j, none⟩ = some u)) := ⟨f3, f6⟩
  clear hl f2 f3 f5 f6
  by_cases n3 : l.length = k.length
  rotate_left
  · have HZ : Hid (¬ l.length = k.length) := n3
    have z0 : ((l.length : Int) != (k.length : Int)) = true := by rw [bne_iff_ne]; omega
    have z1 : (l.length != k.length) = true := by rw [bne_iff_ne]; omega
    clear n3
    rw [decide_eq_false (show ¬ l = k from fun e => HZ.out (by rw [e]))]
    go_enter Try.func39, Try.ntmps39
    go_wp2_with fail
    go_ret
    exact ⟨rfl, Below.refl _ _⟩
  have HN : Hid (l.length = k.length) := n3
  have z3 : ((l.length : Int) != (k.length : Int)) = false := by rw [bne_eq_false_iff_eq]; omega
  have z4 : (l.length != k.length) = false := by rw [bne_eq_false_iff_eq]; omega
  clear n3
  go_enter Try.func39, Try.ntmps39
  go_wp2_with fail
  clear z3 z4
  go_loopg [13] l.length (fun gm v wr => ∃ i : Nat, v = .int .i64 (i : Int) ∧ Hid (Below w.heap.size w wr) ∧ Hid (i ≤ l.length ∧ gm = l.length - i) ∧ Hid (∀ j, j < i → l.getD j 0 = k.getD j 0))
  case atStart => exact ⟨0, rfl, Below.refl _ _, ⟨Nat.zero_le _, rfl⟩, fun j hj => by omega⟩
  case round =>
    obtain ⟨i, rfl, HB, HI, HR⟩ := hrel
    by_cases hi : i < l.length
    · have hi2 : i < k.length := by have := HN.out; omega
      obtain rfl := HA.out.1 (by omega)
      obtain rfl := HA.out.2 (by omega)
      have ci := below_cell HB.out (HC.out.1 i _ (iC_get l i hi))
      have cj := below_cell HB.out (HC.out.2 i _ (iC_get k i hi2))
      have e1 : decide ((i : Int) < (l.length : Int)) = true := by rw [decide_eq_true_eq]; omega
      have e2 : decide (i < l.length) = true := by rw [decide_eq_true_eq]; omega
      have e3 : decide ((i : Int) < (k.length : Int)) = true := by rw [decide_eq_true_eq]; omega
      have e4 : (i : Int) < (k.length : Int) := by omega
      have e5 : (i : Int) < (l.length : Int) := by omega
      have HIL : Hid (i < l.length) := hi
      have hwr := w64n i (by have := HL.out; omega)
      clear hi hi2
      obtain ⟨x, hx⟩ : ∃ x, l.getD i 0 = x := ⟨_, rfl⟩
      obtain ⟨y, hy⟩ : ∃ y, k.getD i 0 = y := ⟨_, rfl⟩
      rw [hx] at ci
      rw [hy] at cj
      have HX : Hid (l.getD i 0 = x) := hx
      have HY : Hid (k.getD i 0 = y) := hy
      clear hx hy
      by_cases hxy : x = y
      · have HXY : Hid (x = y) := hxy
        have k1 : (x != y) = false := by rw [bne_eq_false_iff_eq]; exact hxy
        clear hxy
        go_wp2_with fail
        go_quiet (fail)
        go_wp2_with fail
        go_roundg (l.length - (i + 1))
        case measure => have := HI.out; have := HIL.out; omega
        case rel => exact ⟨i + 1, by first | rfl | (rw [show (i : Int) + 1 = ((i + 1 : Nat) : Int) by omega]), below_drewN HB.out _, ⟨HIL.out, rfl⟩, fun j hj => (by omega : j < i ∨ j = i).elim (HR.out j) (fun e => by rw [e, HX.out, HY.out]; exact HXY.out)⟩
      · have HXY : Hid (x ≠ y) := hxy
        have k1 : (x != y) = true := by rw [bne_iff_ne]; exact hxy
        clear hxy
        have HNE : Hid (decide (l = k) = false) := decide_eq_false (fun e => HXY.out (by rw [← HX.out, ← HY.out, e]))
        go_wp2_with fail
        go_quiet (fail)
        go_wp2_with fail
        go_ret
        exact ⟨by rw [HNE.out]; rfl, below_drewN HB.out _⟩
    · have e1 : decide ((i : Int) < (l.length : Int)) = false := by rw [decide_eq_false_iff_not]; omega
      have e2 : decide (i < l.length) = false := by rw [decide_eq_false_iff_not]; omega
      have HE : Hid (l = k) := list_ext 0 _ _ HN.out (fun j hj => HR.out j (by have := HI.out; omega))
      clear hi
      go_wp2_with fail
      go_ret
      exact ⟨by rw [decide_eq_true HE.out]; rfl, HB.out⟩

set_option maxRecDepth 100000 in
set_option maxHeartbeats 4000000 in
theorem eq40_any {v u : Value} {l k : List (ByteArray)} (w : World) (h : Rw w v l.length (qC l)) (h' : Rw w u k.length (qC k)) (hl : l.length ≤ 4611686018427387904) :
    Calls Try.prog 40 #[v, u] w fun e w' => e = .returned (.bool (decide (l = k))) ∧ Below w.heap.size w w' := by
  obtain ⟨a1, g1, o1, d1, rfl, -, -, f2, f3⟩ := h
  obtain ⟨a2, g2, o2, d2, rfl, -, -, f5, f6⟩ := h'
  have HL : Hid (l.length ≤ 4611686018427387904) := hl
  have HA : Hid ((0 < l.length → a1 = some ⟨g1, o1, none⟩) ∧ (0 < k.length → a2 = some ⟨g2, o2, none⟩)) := ⟨f2, f5⟩
  have HC : Hid ((∀ j u, (qC l)[j]? = some u → w.cell? ⟨g1, o1 + j, none⟩ = some u) ∧ (∀ j u, (qC k)[j]? = some u → w.cell? ⟨g2, o2 + j, none⟩ = some u)) := ⟨f3, f6⟩
  clear hl f2 f3 f5 f6
  by_cases n3 : l.length = k.length
  rotate_left
  · have HZ : Hid (¬ l.length = k.length) := n3
    have z0 : ((l.length : Int) != (k.length : Int)) = true := by rw [bne_iff_ne]; omega
    have z1 : (l.length != k.length) = true := by rw [bne_iff_ne]; omega
    clear n3
    rw [decide_eq_false (show ¬ l = k from fun e => HZ.out (by rw [e]))]
    go_enter Try.func40, Try.ntmps40
    go_wp2_with fail
    go_ret
    exact ⟨rfl, Below.refl _ _⟩
  have HN : Hid (l.length = k.length) := n3
  have z3 : ((l.length : Int) != (k.length : Int)) = false := by rw [bne_eq_false_iff_eq]; omega
  have z4 : (l.length != k.length) = false := by rw [bne_eq_false_iff_eq]; omega
  clear n3
  go_enter Try.func40, Try.ntmps40
  go_wp2_with fail
  clear z3 z4
  go_loopg [13] l.length (fun gm v wr => ∃ i : Nat, v = .int .i64 (i : Int) ∧ Hid (Below w.heap.size w wr) ∧ Hid (i ≤ l.length ∧ gm = l.length - i) ∧ Hid (∀ j, j < i → l.getD j ⟨#[]⟩ = k.getD j ⟨#[]⟩))
  case atStart => exact ⟨0, rfl, Below.refl _ _, ⟨Nat.zero_le _, rfl⟩, fun j hj => by omega⟩
  case round =>
    obtain ⟨i, rfl, HB, HI, HR⟩ := hrel
    by_cases hi : i < l.length
    · have hi2 : i < k.length := by have := HN.out; omega
      obtain rfl := HA.out.1 (by omega)
      obtain rfl := HA.out.2 (by omega)
      have ci := below_cell HB.out (HC.out.1 i _ (qC_get l i hi))
      have cj := below_cell HB.out (HC.out.2 i _ (qC_get k i hi2))
      have e1 : decide ((i : Int) < (l.length : Int)) = true := by rw [decide_eq_true_eq]; omega
      have e2 : decide (i < l.length) = true := by rw [decide_eq_true_eq]; omega
      have e3 : decide ((i : Int) < (k.length : Int)) = true := by rw [decide_eq_true_eq]; omega
      have e4 : (i : Int) < (k.length : Int) := by omega
      have e5 : (i : Int) < (l.length : Int) := by omega
      have HIL : Hid (i < l.length) := hi
      have hwr := w64n i (by have := HL.out; omega)
      clear hi hi2
      obtain ⟨x, hx⟩ : ∃ x, l.getD i ⟨#[]⟩ = x := ⟨_, rfl⟩
      obtain ⟨y, hy⟩ : ∃ y, k.getD i ⟨#[]⟩ = y := ⟨_, rfl⟩
      rw [hx] at ci
      rw [hy] at cj
      have HX : Hid (l.getD i ⟨#[]⟩ = x) := hx
      have HY : Hid (k.getD i ⟨#[]⟩ = y) := hy
      clear hx hy
      by_cases hxy : x = y
      · have HXY : Hid (x = y) := hxy
        have k0 : decide (x = y) = true := by rw [decide_eq_true_eq]; exact hxy
        have k1 : (x.toList != y.toList) = false := by rw [bne, str_eq, k0]; rfl
        have k2 : (x.toList == y.toList) = true := by rw [str_eq]; exact k0
        clear hxy
        go_wp2_with fail
        go_quiet (fail)
        go_wp2_with fail
        go_roundg (l.length - (i + 1))
        case measure => have := HI.out; have := HIL.out; omega
        case rel => exact ⟨i + 1, by first | rfl | (rw [show (i : Int) + 1 = ((i + 1 : Nat) : Int) by omega]), below_drewN HB.out _, ⟨HIL.out, rfl⟩, fun j hj => (by omega : j < i ∨ j = i).elim (HR.out j) (fun e => by rw [e, HX.out, HY.out]; exact HXY.out)⟩
      · have HXY : Hid (x ≠ y) := hxy
        have k0 : decide (x = y) = false := by rw [decide_eq_false_iff_not]; exact hxy
        have k1 : (x.toList != y.toList) = true := by rw [bne, str_eq, k0]; rfl
        have k2 : (x.toList == y.toList) = false := by rw [str_eq]; exact k0
        clear hxy
        have HNE : Hid (decide (l = k) = false) := decide_eq_false (fun e => HXY.out (by rw [← HX.out, ← HY.out, e]))
        go_wp2_with fail
        go_quiet (fail)
        go_wp2_with fail
        go_ret
        exact ⟨by rw [HNE.out]; rfl, below_drewN HB.out _⟩
    · have e1 : decide ((i : Int) < (l.length : Int)) = false := by rw [decide_eq_false_iff_not]; omega
      have e2 : decide (i < l.length) = false := by rw [decide_eq_false_iff_not]; omega
      have HE : Hid (l = k) := list_ext ⟨#[]⟩ _ _ HN.out (fun j hj => HR.out j (by have := HI.out; omega))
      clear hi
      go_wp2_with fail
      go_ret
      exact ⟨by rw [decide_eq_true HE.out]; rfl, HB.out⟩

set_option maxRecDepth 100000 in
set_option maxHeartbeats 4000000 in
theorem eq41_any {v u : Value} {l k : List (Int × ByteArray)} (w : World) (h : Rw w v l.length (fC l)) (h' : Rw w u k.length (fC k)) (hl : l.length ≤ 4611686018427387904) :
    Calls Try.prog 41 #[v, u] w fun e w' => e = .returned (.bool (decide (l = k))) ∧ Below w.heap.size w w' := by
  obtain ⟨a1, g1, o1, d1, rfl, -, -, f2, f3⟩ := h
  obtain ⟨a2, g2, o2, d2, rfl, -, -, f5, f6⟩ := h'
  have HL : Hid (l.length ≤ 4611686018427387904) := hl
  have HA : Hid ((0 < l.length → a1 = some ⟨g1, o1, none⟩) ∧ (0 < k.length → a2 = some ⟨g2, o2, none⟩)) := ⟨f2, f5⟩
  have HC : Hid ((∀ j u, (fC l)[j]? = some u → w.cell? ⟨g1, o1 + j, none⟩ = some u) ∧ (∀ j u, (fC k)[j]? = some u → w.cell? ⟨g2, o2 + j, none⟩ = some u)) := ⟨f3, f6⟩
  clear hl f2 f3 f5 f6
  by_cases n3 : l.length = k.length
  rotate_left
  · have HZ : Hid (¬ l.length = k.length) := n3
    have z0 : ((l.length : Int) != (k.length : Int)) = true := by rw [bne_iff_ne]; omega
    have z1 : (l.length != k.length) = true := by rw [bne_iff_ne]; omega
    clear n3
    rw [decide_eq_false (show ¬ l = k from fun e => HZ.out (by rw [e]))]
    go_enter Try.func41, Try.ntmps41
    go_wp2_with fail
    go_ret
    exact ⟨rfl, Below.refl _ _⟩
  have HN : Hid (l.length = k.length) := n3
  have z3 : ((l.length : Int) != (k.length : Int)) = false := by rw [bne_eq_false_iff_eq]; omega
  have z4 : (l.length != k.length) = false := by rw [bne_eq_false_iff_eq]; omega
  clear n3
  go_enter Try.func41, Try.ntmps41
  go_wp2_with fail
  clear z3 z4
  go_loopg [13] l.length (fun gm v wr => ∃ i : Nat, v = .int .i64 (i : Int) ∧ Hid (Below w.heap.size w wr) ∧ Hid (i ≤ l.length ∧ gm = l.length - i) ∧ Hid (∀ j, j < i → l.getD j (0, ⟨#[]⟩) = k.getD j (0, ⟨#[]⟩)))
  case atStart => exact ⟨0, rfl, Below.refl _ _, ⟨Nat.zero_le _, rfl⟩, fun j hj => by omega⟩
  case round =>
    obtain ⟨i, rfl, HB, HI, HR⟩ := hrel
    by_cases hi : i < l.length
    · have hi2 : i < k.length := by have := HN.out; omega
      obtain rfl := HA.out.1 (by omega)
      obtain rfl := HA.out.2 (by omega)
      have ci := below_cell HB.out (HC.out.1 (i * 2) _ (fC_get l i hi).1)
      have ci2 := below_cell HB.out (HC.out.1 (i * 2 + 1) _ (fC_get l i hi).2)
      have cj := below_cell HB.out (HC.out.2 (i * 2) _ (fC_get k i hi2).1)
      have cj2 := below_cell HB.out (HC.out.2 (i * 2 + 1) _ (fC_get k i hi2).2)
      rw [← Nat.add_assoc] at ci2 cj2
      have e1 : decide ((i : Int) < (l.length : Int)) = true := by rw [decide_eq_true_eq]; omega
      have e2 : decide (i < l.length) = true := by rw [decide_eq_true_eq]; omega
      have e3 : decide ((i : Int) < (k.length : Int)) = true := by rw [decide_eq_true_eq]; omega
      have e4 : (i : Int) < (k.length : Int) := by omega
      have e5 : (i : Int) < (l.length : Int) := by omega
      have HIL : Hid (i < l.length) := hi
      have hwr := w64n i (by have := HL.out; omega)
      clear hi hi2
      obtain ⟨x, hx⟩ : ∃ x, l.getD i (0, ⟨#[]⟩) = x := ⟨_, rfl⟩
      obtain ⟨y, hy⟩ : ∃ y, k.getD i (0, ⟨#[]⟩) = y := ⟨_, rfl⟩
      rw [hx] at ci ci2
      rw [hy] at cj cj2
      have HX : Hid (l.getD i (0, ⟨#[]⟩) = x) := hx
      have HY : Hid (k.getD i (0, ⟨#[]⟩) = y) := hy
      clear hx hy
      have hnq := fr_neq x.1 y.1 x.2 y.2
      by_cases hxy : x = y
      · have HXY : Hid (x = y) := hxy
        have k0 : (!(decide (x.1 = y.1) && decide (x.2 = y.2))) = false := by rw [hxy]; simp
        rw [k0] at hnq
        clear hxy k0
        go_wp2_with fail
        go_quiet (fail)
        go_wp2_with fail
        go_roundg (l.length - (i + 1))
        case measure => have := HI.out; have := HIL.out; omega
        case rel => exact ⟨i + 1, by first | rfl | (rw [show (i : Int) + 1 = ((i + 1 : Nat) : Int) by omega]), below_drewN HB.out _, ⟨HIL.out, rfl⟩, fun j hj => (by omega : j < i ∨ j = i).elim (HR.out j) (fun e => by rw [e, HX.out, HY.out]; exact HXY.out)⟩
      · have HXY : Hid (x ≠ y) := hxy
        have k0 : (!(decide (x.1 = y.1) && decide (x.2 = y.2))) = true := by rw [Bool.not_eq_true', Bool.and_eq_false_iff, decide_eq_false_iff_not, decide_eq_false_iff_not]; exact (Classical.not_and_iff_not_or_not.1 (fun hh => hxy (Prod.ext hh.1 hh.2)))
        rw [k0] at hnq
        clear hxy k0
        have HNE : Hid (decide (l = k) = false) := decide_eq_false (fun e => HXY.out (by rw [← HX.out, ← HY.out, e]))
        go_wp2_with fail
        go_quiet (fail)
        go_wp2_with fail
        go_ret
        exact ⟨by rw [HNE.out]; rfl, below_drewN HB.out _⟩
    · have e1 : decide ((i : Int) < (l.length : Int)) = false := by rw [decide_eq_false_iff_not]; omega
      have e2 : decide (i < l.length) = false := by rw [decide_eq_false_iff_not]; omega
      have HE : Hid (l = k) := list_ext (0, ⟨#[]⟩) _ _ HN.out (fun j hj => HR.out j (by have := HI.out; omega))
      clear hi
      go_wp2_with fail
      go_ret
      exact ⟨by rw [decide_eq_true HE.out]; rfl, HB.out⟩
end Go.Proofs.Ytkaciochlemjiaa
namespace Go.Proofs.Ytkaciochlemjiaa
open Go.RowKit Go.Maps

set_option maxRecDepth 100000 in
set_option maxHeartbeats 8000000 in
theorem same_any {vi vq vf ui uq uf : Value} {s t : Stt} (w : World) (h : Stm w vi vq vf s) (k : Stm w ui uq uf t) (hs1 : s.ind.length ≤ 4611686018427387904) (hs2 : s.que.length ≤ 4611686018427387904) (hs3 : s.frm.length ≤ 4611686018427387904) :
    Calls Try.prog 17 #[sv vi vq vf s, sv ui uq uf t] w fun e w' => e = .returned (.bool (decide (s = t))) ∧ Below w.heap.size w w' := by
  obtain ⟨a1, c1, a2, c2, a3, c3, rfl, rfl, rfl⟩ := h.form
  obtain ⟨x1, y1, x2, y2, x3, y3, rfl, rfl, rfl⟩ := k.form
  obtain ⟨W1, hW1⟩ : ∃ W1, W1 = (w.alloc (.cells #[.slice a1 s.ind.length c1, .int .i64 s.pen, .slice a2 s.que.length c2, .slice a3 s.frm.length c3, .int .u16 (s.flg : Int)] 27)).alloc (.cells #[.slice x1 t.ind.length y1, .int .i64 t.pen, .slice x2 t.que.length y2, .slice x3 t.frm.length y3, .int .u16 (t.flg : Int)] 27) := ⟨_, rfl⟩
  have HB : Hid (Below w.heap.size w W1) := by rw [hW1]; exact below_trans (bel_up _ _) (bel_up _ _)
  have HP1 : Hid (W1.heap[w.heap.size]? = some (.cells #[.slice a1 s.ind.length c1, .int .i64 s.pen, .slice a2 s.que.length c2, .slice a3 s.frm.length c3, .int .u16 (s.flg : Int)] 27 (0, 0))) := by
    rw [hW1, (bel_up _ _).block _ (by simp)]; exact heap_new w _
  have HP2 : Hid (W1.heap[w.heap.size + 1]? = some (.cells #[.slice x1 t.ind.length y1, .int .i64 t.pen, .slice x2 t.que.length y2, .slice x3 t.frm.length y3, .int .u16 (t.flg : Int)] 27 (0, 0))) := by
    rw [hW1]
    have := heap_new (w.alloc (.cells #[.slice a1 s.ind.length c1, .int .i64 s.pen, .slice a2 s.que.length c2, .slice a3 s.frm.length c3, .int .u16 (s.flg : Int)] 27)) (.cells #[.slice x1 t.ind.length y1, .int .i64 t.pen, .slice x2 t.que.length y2, .slice x3 t.frm.length y3, .int .u16 (t.flg : Int)] 27)
    rw [World.size_alloc] at this
    exact this
  have HPA : Hid (∀ W, Below W1.heap.size W1 W → W.heap[w.heap.size]? = some (.cells #[.slice a1 s.ind.length c1, .int .i64 s.pen, .slice a2 s.que.length c2, .slice a3 s.frm.length c3, .int .u16 (s.flg : Int)] 27 (0, 0)) ∧ W.heap[w.heap.size + 1]? = some (.cells #[.slice x1 t.ind.length y1, .int .i64 t.pen, .slice x2 t.que.length y2, .slice x3 t.frm.length y3, .int .u16 (t.flg : Int)] 27 (0, 0))) := fun W hW => ⟨(hW.block _ (lt_of_heap HP1.out)).trans HP1.out, (hW.block _ (lt_of_heap HP2.out)).trans HP2.out⟩
  have HW : Hid (W1 = (w.alloc (.cells #[.slice a1 s.ind.length c1, .int .i64 s.pen, .slice a2 s.que.length c2, .slice a3 s.frm.length c3, .int .u16 (s.flg : Int)] 27)).alloc (.cells #[.slice x1 t.ind.length y1, .int .i64 t.pen, .slice x2 t.que.length y2, .slice x3 t.frm.length y3, .int .u16 (t.flg : Int)] 27)) := hW1
  have HS : Hid (Stm W1 (.slice a1 s.ind.length c1) (.slice a2 s.que.length c2) (.slice a3 s.frm.length c3) s) := h.up HB.out
  have HT : Hid (Stm W1 (.slice x1 t.ind.length y1) (.slice x2 t.que.length y2) (.slice x3 t.frm.length y3) t) := k.up HB.out
  have HN : Hid (s.ind.length ≤ 4611686018427387904 ∧ s.que.length ≤ 4611686018427387904 ∧ s.frm.length ≤ 4611686018427387904) := ⟨hs1, hs2, hs3⟩
  obtain ⟨r, hr⟩ : ∃ r, decide (s = t) = r := ⟨_, rfl⟩
  have HR : Hid (decide (s = t) = r) := hr
  rw [hr]
  clear h k hW1 hs1 hs2 hs3 hr
  go_enter Try.func17, Try.ntmps17
  go_upto_region 1 with fail
  rw [← HW.out]
  obtain ⟨p0, p1, p2, p3, p4⟩ := box_cells HP1.out
  obtain ⟨q0, q1, q2, q3, q4⟩ := box_cells HP2.out
  go_wp2_with fail
  refine (eq39_any W1 HS.out.i HT.out.i HN.out.1).mono ?_
  rintro e w2 ⟨rfl, hb⟩
  have B2 : Hid (Below W1.heap.size W1 w2) := hb
  clear hb p0 p1 p2 p3 p4 q0 q1 q2 q3 q4
  obtain ⟨p0, p1, p2, p3, p4⟩ := box_cells (HPA.out w2 B2.out).1
  obtain ⟨q0, q1, q2, q3, q4⟩ := box_cells (HPA.out w2 B2.out).2
  by_cases n1 : s.ind = t.ind
  rotate_left
  · have d1 : decide (s.ind = t.ind) = false := decide_eq_false n1
    have HF : Hid (r = false) := by rw [← HR.out]; exact decide_eq_false (fun e => n1 (by rw [e]))
    rw [d1]
    clear n1 d1
    go_wp2_with fail
    go_ret
    exact ⟨by rw [HF.out]; rfl, below_trans HB.out B2.out⟩
  have d1 : decide (s.ind = t.ind) = true := decide_eq_true n1
  have N1 : Hid (s.ind = t.ind) := n1
  rw [d1]
  clear n1 d1
  by_cases n2 : s.pen = t.pen
  rotate_left
  · have d2 : (s.pen == t.pen) = false := by rw [beq_eq_false_iff_ne]; exact n2
    have HF : Hid (r = false) := by rw [← HR.out]; exact decide_eq_false (fun e => n2 (by rw [e]))
    clear n2
    go_wp2_with fail
    go_ret
    exact ⟨by rw [HF.out]; rfl, below_trans HB.out B2.out⟩
  have d2 : (s.pen == t.pen) = true := by rw [beq_iff_eq]; exact n2
  have N2 : Hid (s.pen = t.pen) := n2
  clear n2
  go_wp2_with fail
  refine (eq40_any w2 (HS.out.up B2.out).q (HT.out.up B2.out).q HN.out.2.1).mono ?_
  rintro e w3 ⟨rfl, hb⟩
  have B3 : Hid (Below W1.heap.size W1 w3) := below_trans B2.out hb
  clear hb p0 p1 p2 p3 p4 q0 q1 q2 q3 q4 d2
  obtain ⟨p0, p1, p2, p3, p4⟩ := box_cells (HPA.out w3 B3.out).1
  obtain ⟨q0, q1, q2, q3, q4⟩ := box_cells (HPA.out w3 B3.out).2
  by_cases n3 : s.que = t.que
  rotate_left
  · have d3 : decide (s.que = t.que) = false := decide_eq_false n3
    have HF : Hid (r = false) := by rw [← HR.out]; exact decide_eq_false (fun e => n3 (by rw [e]))
    rw [d3]
    clear n3 d3
    go_wp2_with fail
    go_ret
    exact ⟨by rw [HF.out]; rfl, below_trans HB.out B3.out⟩
  have d3 : decide (s.que = t.que) = true := decide_eq_true n3
  have N3 : Hid (s.que = t.que) := n3
  rw [d3]
  clear n3 d3
  go_wp2_with fail
  refine (eq41_any w3 (HS.out.up B3.out).f (HT.out.up B3.out).f HN.out.2.2).mono ?_
  rintro e w4 ⟨rfl, hb⟩
  have B4 : Hid (Below W1.heap.size W1 w4) := below_trans B3.out hb
  clear hb p0 p1 p2 p3 p4 q0 q1 q2 q3 q4
  obtain ⟨p0, p1, p2, p3, p4⟩ := box_cells (HPA.out w4 B4.out).1
  obtain ⟨q0, q1, q2, q3, q4⟩ := box_cells (HPA.out w4 B4.out).2
  by_cases n4 : s.frm = t.frm
  rotate_left
  · have d4 : decide (s.frm = t.frm) = false := decide_eq_false n4
    have HF : Hid (r = false) := by rw [← HR.out]; exact decide_eq_false (fun e => n4 (by rw [e]))
    rw [d4]
    clear n4 d4
    go_wp2_with fail
    go_ret
    exact ⟨by rw [HF.out]; rfl, below_trans HB.out B4.out⟩
  have d4 : decide (s.frm = t.frm) = true := decide_eq_true n4
  have N4 : Hid (s.frm = t.frm) := n4
  rw [d4]
  clear n4 d4
  by_cases n5 : s.flg = t.flg
  rotate_left
  · have d5 : ((s.flg : Int) == (t.flg : Int)) = false := by rw [beq_eq_false_iff_ne]; omega
    have d6 : (s.flg == t.flg) = false := by rw [beq_eq_false_iff_ne]; omega
    have HF : Hid (r = false) := by rw [← HR.out]; exact decide_eq_false (fun e => n5 (by rw [e]))
    clear n5
    go_wp2_with fail
    go_ret
    exact ⟨by rw [HF.out]; rfl, below_trans HB.out B4.out⟩
  have d5 : ((s.flg : Int) == (t.flg : Int)) = true := by rw [beq_iff_eq]; omega
  have d6 : (s.flg == t.flg) = true := by rw [beq_iff_eq]; omega
  have HF : Hid (r = true) := by
    rw [← HR.out]
    refine decide_eq_true ?_
    obtain ⟨s1, s2, s3, s4, s5⟩ := s
    obtain ⟨t1, t2, t3, t4, t5⟩ := t
    have e1 := N1.out
    have e2 := N2.out
    have e3 := N3.out
    have e4 := N4.out
    simp only at e1 e2 e3 e4 n5
    subst e1 e2 e3 e4 n5
    rfl
  clear n5
  go_wp2_with fail
  go_ret
  exact ⟨by rw [HF.out]; rfl, below_trans HB.out B4.out⟩
end Go.Proofs.Ytkaciochlemjiaa
