import Derived.ChangeKeysEq
import Derived.Laws.StructEq
import Derived.Test.YtdchopljojlcpaaProg
import Derived.Test.YtdchopljojlcpaaShelf
import Derived.Test.YtdchopljojlcpaaHle
namespace Go.Proofs.Ytdchopljojlcpaa
open Go.RowKit

theorem loop_is (d : ByteArray) : ∀ n i r, n = d.size - i → ByteArray.toList.loop d i r = r.reverse ++ d.data.toList.drop i := by
  intro n
  induction n with
  | zero =>
    intro i r h
    unfold ByteArray.toList.loop
    rw [if_neg (by omega), List.drop_eq_nil_of_le (by rw [Array.length_toList]; show d.size ≤ i; omega)]
    simp
  | succ n ih =>
    intro i r h
    unfold ByteArray.toList.loop
    have hl : d.data.toList.length = d.size := Array.length_toList
    rw [if_pos (by omega), ih _ _ (by omega), List.drop_eq_getElem_cons (by omega : i < d.data.toList.length)]
    have e : d.get! i = d.data.toList[i]'(by omega) := by
      rw [get_bang d i (by omega), Array.getElem_toList]; rfl
    rw [e]
    simp
theorem toL_eq (d : ByteArray) : d.toList = d.data.toList := by
  unfold ByteArray.toList
  rw [loop_is d d.size 0 [] (by omega)]; simp
theorem str_eq (x y : ByteArray) : (x.toList == y.toList) = decide (x = y) := by
  rw [toL_eq, toL_eq]
  by_cases h : x = y
  · subst h; simp
  · rw [decide_eq_false h, beq_eq_false_iff_ne]
    intro e
    exact h (ByteArray.ext (Array.toList_inj.1 e))
theorem fields54 : ((Try.prog.fieldsOf 58).toList.map fun f => (f.name == "_", f.type, f.offset)) = [(false, 3, 0), (false, 9, 1)] := by kernel_rfl
theorem under54 : Try.prog.underlying 58 = some (.struct (Try.prog.fieldsOf 58)) := by kernel_rfl
theorem stood54 : Try.prog.stoodInHeld 58 = false := by kernel_rfl
/-- Two frames side by side. -/
theorem fr_neq (m n : Int) (d e : ByteArray) (W : World) : (binOp .neq 58 (.agg #[.int .i64 m, .string d]) (.agg #[.int .i64 n, .string e])).run Try.prog W = .ok (.bool (!(decide (m = n) && decide (d = e)))) W := by
  obtain ⟨f0, f1, hl, n0, n1, t0, t1, o0, o1⟩ : ∃ f0 f1, (Try.prog.fieldsOf 58).toList = [f0, f1] ∧ (f0.name == "_") = false ∧ (f1.name == "_") = false ∧ f0.type = 3 ∧ f1.type = 9 ∧ f0.offset = 0 ∧ f1.offset = 1 := by
    have h := fields54
    generalize (Try.prog.fieldsOf 58).toList = l at h ⊢
    rcases l with _ | ⟨f0, _ | ⟨f1, _ | ⟨f2, l⟩⟩⟩
    · cases h
    · simp only [List.map_cons, List.map_nil, List.cons.injEq, reduceCtorEq, and_false] at h
    · simp only [List.map_cons, List.map_nil, List.cons.injEq, Prod.mk.injEq, and_true] at h
      obtain ⟨⟨a1, a2, a3⟩, ⟨b1, b2, b3⟩⟩ := h
      exact ⟨f0, f1, rfl, a1, b1, a2, b2, a3, b3⟩
    · simp only [List.map_cons, List.cons.injEq, reduceCtorEq, and_false] at h
  have m0 : ¬ f0.name = "_" := by simpa using n0
  have m1 : ¬ f1.name = "_" := by simpa using n1
  have pI : ∀ (t : TypeId) (xs : Array Value) (j : Nat) (v : Value), (∀ W : World, (isAgg t).run Try.prog W = .ok false W) → xs[j]? = some v → ∀ W : World, (part t xs j).run Try.prog W = .ok v W := by
    intro t xs j v ht hj W
    simp only [part, Sem.run_bind, ht, Result.andThen_ok, hj]
    rfl
  have g0 := fun W => pI 3 #[.int .i64 m, .string d] 0 (.int .i64 m) Try.isAgg3 rfl W
  have g1 := fun W => pI 9 #[.int .i64 m, .string d] 1 (.string d) Try.isAgg9 rfl W
  have k0 := fun W => pI 3 #[.int .i64 n, .string e] 0 (.int .i64 n) Try.isAgg3 rfl W
  have k1 := fun W => pI 9 #[.int .i64 n, .string e] 1 (.string e) Try.isAgg9 rfl W
  have eI : ∀ W : World, (Op.equalIn 9999 3 (.int .i64 m) (.int .i64 n)).run Try.prog W = .ok (decide (m = n)) W := by
    intro W
    rw [run_equalIn_int W 9998 3 .i64 .i64 _ _ Try.underlying3]
    rw [show (m == n) = decide (m = n) by by_cases h : m = n <;> simp [h]]
  have eS : ∀ W : World, (Op.equalIn 9999 9 (.string d) (.string e)).run Try.prog W = .ok (decide (d = e)) W := by
    intro W
    rw [run_equalIn_string W 9998 9 _ _ Try.underlying9, str_eq]
  rw [run_neq_struct, run_equalIn_agg W 9999 58 _ _ under54 stood54, hl]
  simp only [Op.eqFields, m0, m1, t0, t1, o0, o1, Sem.run_bind, g0, k0, eI, Result.andThen_ok, ne_eq, not_false_eq_true, if_true]
  cases decide (m = n)
  · simp
  · simp only [Sem.run_bind, g1, k1, eS, Result.andThen_ok, Bool.not_true, Bool.false_eq_true, if_false]
    cases decide (d = e)
    · simp
    · simp
theorem list_ext {α : Type} (d : α) (l k : List α) (hl : l.length = k.length) (h : ∀ j, j < l.length → l.getD j d = k.getD j d) : l = k := by
  apply List.ext_getElem hl
  intro j h1 h2
  have := h j h1
  rw [List.getD_eq_getElem?_getD, List.getD_eq_getElem?_getD, List.getElem?_eq_getElem h1, List.getElem?_eq_getElem h2] at this
  exact this
set_option maxRecDepth 100000 in
set_option maxHeartbeats 8000000 in
theorem rsame_any {vi vq vf ui uq uf : Value} {s t : Stt} (w : World) (h : Stm w vi vq vf s) (k : Stm w ui uq uf t) (hs1 : s.ind.length ≤ 4611686018427387904) (hs2 : s.que.length ≤ 4611686018427387904) (hs3 : s.frm.length ≤ 4611686018427387904) :
    Calls Try.prog 22 #[sv vi vq vf s, sv ui uq uf t] w fun e w' => e = .returned (.bool (decide (s = t))) ∧ Below w.heap.size w w' := by
  obtain ⟨a1, c1, a2, c2, a3, c3, rfl, rfl, rfl⟩ := h.form
  obtain ⟨x1, y1, x2, y2, x3, y3, rfl, rfl, rfl⟩ := k.form
  obtain ⟨W1, hW1⟩ : ∃ W1, W1 = (w.alloc (.cells #[.slice a1 s.ind.length c1, .int .i64 s.pen, .slice a2 s.que.length c2, .slice a3 s.frm.length c3, .int .u16 (s.flg : Int)] 33)).alloc (.cells #[.slice x1 t.ind.length y1, .int .i64 t.pen, .slice x2 t.que.length y2, .slice x3 t.frm.length y3, .int .u16 (t.flg : Int)] 33) := ⟨_, rfl⟩
  have HB : Hid (Below w.heap.size w W1) := by rw [hW1]; exact below_trans (bel_up _ _) (bel_up _ _)
  have hh1 : W1.heap[w.heap.size]? = some (.cells #[.slice a1 s.ind.length c1, .int .i64 s.pen, .slice a2 s.que.length c2, .slice a3 s.frm.length c3, .int .u16 (s.flg : Int)] 33 (0, 0)) := by
    rw [hW1, (bel_up _ _).block _ (by simp)]; exact heap_new w _
  have hh2 : W1.heap[w.heap.size + 1]? = some (.cells #[.slice x1 t.ind.length y1, .int .i64 t.pen, .slice x2 t.que.length y2, .slice x3 t.frm.length y3, .int .u16 (t.flg : Int)] 33 (0, 0)) := by
    rw [hW1]
    have := heap_new (w.alloc (.cells #[.slice a1 s.ind.length c1, .int .i64 s.pen, .slice a2 s.que.length c2, .slice a3 s.frm.length c3, .int .u16 (s.flg : Int)] 33)) (.cells #[.slice x1 t.ind.length y1, .int .i64 t.pen, .slice x2 t.que.length y2, .slice x3 t.frm.length y3, .int .u16 (t.flg : Int)] 33)
    rw [World.size_alloc] at this
    exact this
  have p0 : W1.cell? ⟨w.heap.size, 0, none⟩ = some (.slice a1 s.ind.length c1) := by rw [Lib.cell_of_heap hh1]; rfl
  have p1 : W1.cell? ⟨w.heap.size, 1, none⟩ = some (.int .i64 s.pen) := by rw [Lib.cell_of_heap hh1]; rfl
  have p2 : W1.cell? ⟨w.heap.size, 2, none⟩ = some (.slice a2 s.que.length c2) := by rw [Lib.cell_of_heap hh1]; rfl
  have p3 : W1.cell? ⟨w.heap.size, 3, none⟩ = some (.slice a3 s.frm.length c3) := by rw [Lib.cell_of_heap hh1]; rfl
  have p4 : W1.cell? ⟨w.heap.size, 4, none⟩ = some (.int .u16 (s.flg : Int)) := by rw [Lib.cell_of_heap hh1]; rfl
  have q0 : W1.cell? ⟨w.heap.size + 1, 0, none⟩ = some (.slice x1 t.ind.length y1) := by rw [Lib.cell_of_heap hh2]; rfl
  have q1 : W1.cell? ⟨w.heap.size + 1, 1, none⟩ = some (.int .i64 t.pen) := by rw [Lib.cell_of_heap hh2]; rfl
  have q2 : W1.cell? ⟨w.heap.size + 1, 2, none⟩ = some (.slice x2 t.que.length y2) := by rw [Lib.cell_of_heap hh2]; rfl
  have q3 : W1.cell? ⟨w.heap.size + 1, 3, none⟩ = some (.slice x3 t.frm.length y3) := by rw [Lib.cell_of_heap hh2]; rfl
  have q4 : W1.cell? ⟨w.heap.size + 1, 4, none⟩ = some (.int .u16 (t.flg : Int)) := by rw [Lib.cell_of_heap hh2]; rfl
  have HP : Hid (∀ W, Below W1.heap.size W1 W → W.cell? ⟨w.heap.size, 0, none⟩ = some (.slice a1 s.ind.length c1) ∧ W.cell? ⟨w.heap.size, 2, none⟩ = some (.slice a2 s.que.length c2) ∧ W.cell? ⟨w.heap.size, 3, none⟩ = some (.slice a3 s.frm.length c3)) := fun W hW => ⟨below_cell hW p0, below_cell hW p2, below_cell hW p3⟩
  have HQ : Hid (∀ W, Below W1.heap.size W1 W → W.cell? ⟨w.heap.size + 1, 0, none⟩ = some (.slice x1 t.ind.length y1) ∧ W.cell? ⟨w.heap.size + 1, 2, none⟩ = some (.slice x2 t.que.length y2) ∧ W.cell? ⟨w.heap.size + 1, 3, none⟩ = some (.slice x3 t.frm.length y3)) := fun W hW => ⟨below_cell hW q0, below_cell hW q2, below_cell hW q3⟩
  have HW : Hid (W1 = (w.alloc (.cells #[.slice a1 s.ind.length c1, .int .i64 s.pen, .slice a2 s.que.length c2, .slice a3 s.frm.length c3, .int .u16 (s.flg : Int)] 33)).alloc (.cells #[.slice x1 t.ind.length y1, .int .i64 t.pen, .slice x2 t.que.length y2, .slice x3 t.frm.length y3, .int .u16 (t.flg : Int)] 33)) := hW1
  have HS : Hid (Stm W1 (.slice a1 s.ind.length c1) (.slice a2 s.que.length c2) (.slice a3 s.frm.length c3) s) := h.up HB.out
  have HT : Hid (Stm W1 (.slice x1 t.ind.length y1) (.slice x2 t.que.length y2) (.slice x3 t.frm.length y3) t) := k.up HB.out
  have HN : Hid (s.ind.length ≤ 4611686018427387904 ∧ s.que.length ≤ 4611686018427387904 ∧ s.frm.length ≤ 4611686018427387904) := ⟨hs1, hs2, hs3⟩
  clear h k hW1 hh1 hh2 hs1 hs2 hs3
  by_cases n1 : s.pen = t.pen
  rotate_left
  · have HZ : Hid (¬ s.pen = t.pen) := n1
    have z0 : (s.pen != t.pen) = true := by rw [bne_iff_ne]; omega
    clear n1
    rw [decide_eq_false (show ¬ s = t from fun e => HZ.out (by rw [e]))]
    go_enter Try.func22, Try.ntmps22
    go_upto_region 1 with fail
    rw [← HW.out]
    go_wp2_with fail
    go_ret
    exact ⟨rfl, HB.out⟩
  have HN1 : Hid (s.pen = t.pen) := n1
  have z1 : (s.pen != t.pen) = false := by rw [bne_eq_false_iff_eq]; omega
  clear n1
  by_cases n2 : s.flg = t.flg
  rotate_left
  · have HZ : Hid (¬ s.flg = t.flg) := n2
    have z0 : ((s.flg : Int) != (t.flg : Int)) = true := by rw [bne_iff_ne]; omega
    clear n2
    rw [decide_eq_false (show ¬ s = t from fun e => HZ.out (by rw [e]))]
    go_enter Try.func22, Try.ntmps22
    go_upto_region 1 with fail
    rw [← HW.out]
    go_wp2_with fail
    go_ret
    exact ⟨rfl, HB.out⟩
  have HN2 : Hid (s.flg = t.flg) := n2
  have z2 : ((s.flg : Int) != (t.flg : Int)) = false := by rw [bne_eq_false_iff_eq]; omega
  clear n2
  by_cases n3 : s.ind.length = t.ind.length
  rotate_left
  · have HZ : Hid (¬ s.ind.length = t.ind.length) := n3
    have z0 : ((s.ind.length : Int) != (t.ind.length : Int)) = true := by rw [bne_iff_ne]; omega
    clear n3
    rw [decide_eq_false (show ¬ s = t from fun e => HZ.out (by rw [e]))]
    go_enter Try.func22, Try.ntmps22
    go_upto_region 1 with fail
    rw [← HW.out]
    go_wp2_with fail
    go_ret
    exact ⟨rfl, HB.out⟩
  have HN3 : Hid (s.ind.length = t.ind.length) := n3
  have z3 : ((s.ind.length : Int) != (t.ind.length : Int)) = false := by rw [bne_eq_false_iff_eq]; omega
  clear n3
  by_cases n4 : s.que.length = t.que.length
  rotate_left
  · have HZ : Hid (¬ s.que.length = t.que.length) := n4
    have z0 : ((s.que.length : Int) != (t.que.length : Int)) = true := by rw [bne_iff_ne]; omega
    clear n4
    rw [decide_eq_false (show ¬ s = t from fun e => HZ.out (by rw [e]))]
    go_enter Try.func22, Try.ntmps22
    go_upto_region 1 with fail
    rw [← HW.out]
    go_wp2_with fail
    go_ret
    exact ⟨rfl, HB.out⟩
  have HN4 : Hid (s.que.length = t.que.length) := n4
  have z4 : ((s.que.length : Int) != (t.que.length : Int)) = false := by rw [bne_eq_false_iff_eq]; omega
  clear n4
  by_cases n5 : s.frm.length = t.frm.length
  rotate_left
  · have HZ : Hid (¬ s.frm.length = t.frm.length) := n5
    have z0 : ((s.frm.length : Int) != (t.frm.length : Int)) = true := by rw [bne_iff_ne]; omega
    clear n5
    rw [decide_eq_false (show ¬ s = t from fun e => HZ.out (by rw [e]))]
    go_enter Try.func22, Try.ntmps22
    go_upto_region 1 with fail
    rw [← HW.out]
    go_wp2_with fail
    go_ret
    exact ⟨rfl, HB.out⟩
  have HN5 : Hid (s.frm.length = t.frm.length) := n5
  have z5 : ((s.frm.length : Int) != (t.frm.length : Int)) = false := by rw [bne_eq_false_iff_eq]; omega
  clear n5
  have HE : Hid (s.pen = t.pen ∧ s.flg = t.flg ∧ s.ind.length = t.ind.length ∧ s.que.length = t.que.length ∧ s.frm.length = t.frm.length) := ⟨HN1.out, HN2.out, HN3.out, HN4.out, HN5.out⟩
  go_enter Try.func22, Try.ntmps22
  go_upto_region 1 with fail
  rw [← HW.out]
  go_upto_region 4 with fail
  clear p0 p1 p2 p3 p4 q0 q1 q2 q3 q4 z1 z2 z3 z4 z5
  go_loopg [5] s.ind.length (fun gm v wr => ∃ i : Nat, v = .int .i64 (i : Int) ∧ Hid (Below W1.heap.size W1 wr) ∧ Hid (i ≤ s.ind.length ∧ gm = s.ind.length - i) ∧ Hid (∀ j, j < i → s.ind.getD j 0 = t.ind.getD j 0))
  case atStart => exact ⟨0, rfl, Below.refl _ _, ⟨Nat.zero_le _, rfl⟩, fun j hj => by omega⟩
  case round =>
    obtain ⟨i, rfl, HBW, HI, HRind⟩ := hrel
    obtain ⟨p0, p2, p3⟩ := HP.out _ HBW.out
    obtain ⟨q0, q2, q3⟩ := HQ.out _ HBW.out
    by_cases hi : i < s.ind.length
    · have hi2 : i < t.ind.length := by have := HE.out.2.2.1; omega
      obtain ⟨b1, g1, o1, d1, f1, -, -, f2, f3⟩ := HS.out.i
      obtain ⟨b2, g2, o2, d2, f4, -, -, f5, f6⟩ := HT.out.i
      obtain ⟨rfl, -, rfl⟩ := Value.slice.inj f1
      obtain ⟨rfl, -, rfl⟩ := Value.slice.inj f4
      obtain rfl := f2 (by omega)
      obtain rfl := f5 (by omega)
      have ci := below_cell HBW.out (f3 i _ (iC_get s.ind i hi))
      have cj := below_cell HBW.out (f6 i _ (iC_get t.ind i hi2))
      have e1 : decide ((i : Int) < (s.ind.length : Int)) = true := by rw [decide_eq_true_eq]; omega
      have e2 : decide (i < s.ind.length) = true := by rw [decide_eq_true_eq]; omega
      have e3 : decide ((i : Int) < (t.ind.length : Int)) = true := by rw [decide_eq_true_eq]; omega
      have e4 : (i : Int) < (t.ind.length : Int) := by omega
      have e5 : (i : Int) < (s.ind.length : Int) := by omega
      have HIL : Hid (i < s.ind.length) := hi
      have hwr := w64n i (by have := HN.out.1; omega)
      clear f1 f2 f3 f4 f5 f6
      obtain ⟨x, hx⟩ : ∃ x, s.ind.getD i 0 = x := ⟨_, rfl⟩
      obtain ⟨y, hy⟩ : ∃ y, t.ind.getD i 0 = y := ⟨_, rfl⟩
      rw [hx] at ci
      rw [hy] at cj
      have HX : Hid (s.ind.getD i 0 = x) := hx
      have HY : Hid (t.ind.getD i 0 = y) := hy
      clear hx hy hi hi2
      by_cases hxy : x = y
      · have HXY : Hid (x = y) := hxy
        have k1 : (x != y) = false := by rw [bne_eq_false_iff_eq]; exact hxy
        clear hxy
        go_wp2_with fail
        go_region
        go_wp2_with fail
        go_roundg (s.ind.length - (i + 1))
        case measure => have := HI.out; have := HIL.out; omega
        case rel => exact ⟨i + 1, by first | rfl | (rw [show (i : Int) + 1 = ((i + 1 : Nat) : Int) by omega]), Below.drew HBW.out, ⟨HIL.out, rfl⟩, fun j hj => (by omega : j < i ∨ j = i).elim (HRind.out j) (fun e => by rw [e, HX.out, HY.out]; exact HXY.out)⟩
      · have HXY : Hid (x ≠ y) := hxy
        have k1 : (x != y) = true := by rw [bne_iff_ne]; exact hxy
        clear hxy
        have HNE : Hid (decide (s = t) = false) := decide_eq_false (fun e => HXY.out (by rw [← HX.out, ← HY.out, e]))
        go_wp2_with fail
        go_region
        go_wp2_with fail
        go_ret
        exact ⟨by rw [HNE.out]; rfl, below_trans HB.out (Below.drew HBW.out)⟩
    · have e1 : decide ((i : Int) < (s.ind.length : Int)) = false := by rw [decide_eq_false_iff_not]; omega
      have e2 : decide (i < s.ind.length) = false := by rw [decide_eq_false_iff_not]; omega
      have HILind : Hid (i = s.ind.length) := by have := HI.out; show i = s.ind.length; omega
      clear hi
      have HLind : Hid (s.ind = t.ind) := list_ext 0 _ _ HE.out.2.2.1 (fun j hj => HRind.out j (by rw [HILind.out]; exact hj))
      clear HRind HILind
      go_upto_region 9 with fail
      clear p0 p2 p3 q0 q2 q3 e1 e2
      go_loopg [6] s.que.length (fun gm v wr => ∃ i : Nat, v = .int .i64 (i : Int) ∧ Hid (Below W1.heap.size W1 wr) ∧ Hid (i ≤ s.que.length ∧ gm = s.que.length - i) ∧ Hid (∀ j, j < i → s.que.getD j ⟨#[]⟩ = t.que.getD j ⟨#[]⟩))
      case atStart => exact ⟨0, rfl, HBW.out, ⟨Nat.zero_le _, rfl⟩, fun j hj => by omega⟩
      case round =>
        obtain ⟨i, rfl, HBW, HI, HRque⟩ := hrel
        obtain ⟨p0, p2, p3⟩ := HP.out _ HBW.out
        obtain ⟨q0, q2, q3⟩ := HQ.out _ HBW.out
        by_cases hi : i < s.que.length
        · have hi2 : i < t.que.length := by have := HE.out.2.2.2.1; omega
          obtain ⟨b1, g1, o1, d1, f1, -, -, f2, f3⟩ := HS.out.q
          obtain ⟨b2, g2, o2, d2, f4, -, -, f5, f6⟩ := HT.out.q
          obtain ⟨rfl, -, rfl⟩ := Value.slice.inj f1
          obtain ⟨rfl, -, rfl⟩ := Value.slice.inj f4
          obtain rfl := f2 (by omega)
          obtain rfl := f5 (by omega)
          have ci := below_cell HBW.out (f3 i _ (qC_get s.que i hi))
          have cj := below_cell HBW.out (f6 i _ (qC_get t.que i hi2))
          have e1 : decide ((i : Int) < (s.que.length : Int)) = true := by rw [decide_eq_true_eq]; omega
          have e2 : decide (i < s.que.length) = true := by rw [decide_eq_true_eq]; omega
          have e3 : decide ((i : Int) < (t.que.length : Int)) = true := by rw [decide_eq_true_eq]; omega
          have e4 : (i : Int) < (t.que.length : Int) := by omega
          have e5 : (i : Int) < (s.que.length : Int) := by omega
          have HIL : Hid (i < s.que.length) := hi
          have hwr := w64n i (by have := HN.out.2.1; omega)
          clear f1 f2 f3 f4 f5 f6
          obtain ⟨x, hx⟩ : ∃ x, s.que.getD i ⟨#[]⟩ = x := ⟨_, rfl⟩
          obtain ⟨y, hy⟩ : ∃ y, t.que.getD i ⟨#[]⟩ = y := ⟨_, rfl⟩
          rw [hx] at ci
          rw [hy] at cj
          have HX : Hid (s.que.getD i ⟨#[]⟩ = x) := hx
          have HY : Hid (t.que.getD i ⟨#[]⟩ = y) := hy
          clear hx hy hi hi2
          by_cases hxy : x = y
          · have HXY : Hid (x = y) := hxy
            have k1 : (x.toList == y.toList) = true := by rw [str_eq, decide_eq_true hxy]
            have k2 : (x.toList != y.toList) = false := by unfold bne; rw [k1]; rfl
            clear hxy
            go_wp2_with fail
            go_region
            go_wp2_with fail
            go_roundg (s.que.length - (i + 1))
            case measure => have := HI.out; have := HIL.out; omega
            case rel => exact ⟨i + 1, by first | rfl | (rw [show (i : Int) + 1 = ((i + 1 : Nat) : Int) by omega]), Below.drew HBW.out, ⟨HIL.out, rfl⟩, fun j hj => (by omega : j < i ∨ j = i).elim (HRque.out j) (fun e => by rw [e, HX.out, HY.out]; exact HXY.out)⟩
          · have HXY : Hid (x ≠ y) := hxy
            have k1 : (x.toList == y.toList) = false := by rw [str_eq, decide_eq_false hxy]
            have k2 : (x.toList != y.toList) = true := by unfold bne; rw [k1]; rfl
            clear hxy
            have HNE : Hid (decide (s = t) = false) := decide_eq_false (fun e => HXY.out (by rw [← HX.out, ← HY.out, e]))
            go_wp2_with fail
            go_region
            go_wp2_with fail
            go_ret
            exact ⟨by rw [HNE.out]; rfl, below_trans HB.out (Below.drew HBW.out)⟩
        · have e1 : decide ((i : Int) < (s.que.length : Int)) = false := by rw [decide_eq_false_iff_not]; omega
          have e2 : decide (i < s.que.length) = false := by rw [decide_eq_false_iff_not]; omega
          have HILque : Hid (i = s.que.length) := by have := HI.out; show i = s.que.length; omega
          clear hi
          have HLque : Hid (s.que = t.que) := list_ext ⟨#[]⟩ _ _ HE.out.2.2.2.1 (fun j hj => HRque.out j (by rw [HILque.out]; exact hj))
          clear HRque HILque
          go_upto_region 14 with fail
          clear p0 p2 p3 q0 q2 q3 e1 e2
          go_loopg [7] s.frm.length (fun gm v wr => ∃ i : Nat, v = .int .i64 (i : Int) ∧ Hid (Below W1.heap.size W1 wr) ∧ Hid (i ≤ s.frm.length ∧ gm = s.frm.length - i) ∧ Hid (∀ j, j < i → s.frm.getD j (0, ⟨#[]⟩) = t.frm.getD j (0, ⟨#[]⟩)))
          case atStart => exact ⟨0, rfl, HBW.out, ⟨Nat.zero_le _, rfl⟩, fun j hj => by omega⟩
          case round =>
            obtain ⟨i, rfl, HBW, HI, HRfrm⟩ := hrel
            obtain ⟨p0, p2, p3⟩ := HP.out _ HBW.out
            obtain ⟨q0, q2, q3⟩ := HQ.out _ HBW.out
            by_cases hi : i < s.frm.length
            · have hi2 : i < t.frm.length := by have := HE.out.2.2.2.2; omega
              obtain ⟨b1, g1, o1, d1, f1, -, -, f2, f3⟩ := HS.out.f
              obtain ⟨b2, g2, o2, d2, f4, -, -, f5, f6⟩ := HT.out.f
              obtain ⟨rfl, -, rfl⟩ := Value.slice.inj f1
              obtain ⟨rfl, -, rfl⟩ := Value.slice.inj f4
              obtain rfl := f2 (by omega)
              obtain rfl := f5 (by omega)
              have ci := below_cell HBW.out (f3 (i * 2) _ (fC_get s.frm i hi).1)
              have ci' := below_cell HBW.out (f3 (i * 2 + 1) _ (fC_get s.frm i hi).2)
              have cj := below_cell HBW.out (f6 (i * 2) _ (fC_get t.frm i hi2).1)
              have cj' := below_cell HBW.out (f6 (i * 2 + 1) _ (fC_get t.frm i hi2).2)
              rw [← Nat.add_assoc] at ci' cj'
              have e1 : decide ((i : Int) < (s.frm.length : Int)) = true := by rw [decide_eq_true_eq]; omega
              have e2 : decide (i < s.frm.length) = true := by rw [decide_eq_true_eq]; omega
              have e3 : decide ((i : Int) < (t.frm.length : Int)) = true := by rw [decide_eq_true_eq]; omega
              have e4 : (i : Int) < (t.frm.length : Int) := by omega
              have e5 : (i : Int) < (s.frm.length : Int) := by omega
              have HIL : Hid (i < s.frm.length) := hi
              have hwr := w64n i (by have := HN.out.2.2; omega)
              clear f1 f2 f3 f4 f5 f6
              obtain ⟨x, hx⟩ : ∃ x, s.frm.getD i (0, ⟨#[]⟩) = x := ⟨_, rfl⟩
              obtain ⟨y, hy⟩ : ∃ y, t.frm.getD i (0, ⟨#[]⟩) = y := ⟨_, rfl⟩
              rw [hx] at ci ci'
              rw [hy] at cj cj'
              have HX : Hid (s.frm.getD i (0, ⟨#[]⟩) = x) := hx
              have HY : Hid (t.frm.getD i (0, ⟨#[]⟩) = y) := hy
              clear hx hy hi hi2
              by_cases hxy : x = y
              · have HXY : Hid (x = y) := hxy
                have k1 : ∀ W : World, (binOp .neq 58 (.agg #[.int .i64 x.1, .string x.2]) (.agg #[.int .i64 y.1, .string y.2])).run Try.prog W = .ok (.bool false) W := fun W => by rw [fr_neq, hxy]; simp
                clear hxy
                go_wp2_with fail
                go_region
                go_wp2_with fail
                go_roundg (s.frm.length - (i + 1))
                case measure => have := HI.out; have := HIL.out; omega
                case rel => exact ⟨i + 1, by first | rfl | (rw [show (i : Int) + 1 = ((i + 1 : Nat) : Int) by omega]), Below.drew HBW.out, ⟨HIL.out, rfl⟩, fun j hj => (by omega : j < i ∨ j = i).elim (HRfrm.out j) (fun e => by rw [e, HX.out, HY.out]; exact HXY.out)⟩
              · have HXY : Hid (x ≠ y) := hxy
                have k1 : ∀ W : World, (binOp .neq 58 (.agg #[.int .i64 x.1, .string x.2]) (.agg #[.int .i64 y.1, .string y.2])).run Try.prog W = .ok (.bool true) W := fun W => by
                  rw [fr_neq]
                  have : (decide (x.1 = y.1) && decide (x.2 = y.2)) = false := by
                    by_cases h1 : x.1 = y.1
                    · by_cases h2 : x.2 = y.2
                      · exact absurd (Prod.ext h1 h2) hxy
                      · simp [h2]
                    · simp [h1]
                  rw [this]; rfl
                clear hxy
                have HNE : Hid (decide (s = t) = false) := decide_eq_false (fun e => HXY.out (by rw [← HX.out, ← HY.out, e]))
                go_wp2_with fail
                go_region
                go_wp2_with fail
                go_ret
                exact ⟨by rw [HNE.out]; rfl, below_trans HB.out (Below.drew HBW.out)⟩
            · have e1 : decide ((i : Int) < (s.frm.length : Int)) = false := by rw [decide_eq_false_iff_not]; omega
              have e2 : decide (i < s.frm.length) = false := by rw [decide_eq_false_iff_not]; omega
              have HILfrm : Hid (i = s.frm.length) := by have := HI.out; show i = s.frm.length; omega
              clear hi
              have HLfrm : Hid (s.frm = t.frm) := list_ext (0, ⟨#[]⟩) _ _ HE.out.2.2.2.2 (fun j hj => HRfrm.out j (by rw [HILfrm.out]; exact hj))
              have HEQ : Hid (s = t) := by
                obtain ⟨h1, h2, _⟩ := HE.out
                have h3 := HLind.out
                have h4 := HLque.out
                have h5 := HLfrm.out
                cases s; cases t; simp_all [Hid]
              go_wp2_with fail
              go_ret
              exact ⟨by rw [decide_eq_true HEQ.out]; rfl, below_trans HB.out HBW.out⟩
end Go.Proofs.Ytdchopljojlcpaa
