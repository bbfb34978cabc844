import Derived.Test.YtkaciochlemjiabDow
namespace Go.Proofs.Ytkaciochlemjiab
open Go.RowKit Go.Maps

/-- The cells of a row of actions. -/
def aC : List (Int × Int × Int) → List Value
  | [] => []
  | a :: l => [Value.int .i64 a.1, Value.int .i64 a.2.1, Value.int .i64 a.2.2] ++ aC l
theorem aC_len (l : List (Int × Int × Int)) : (aC l).length = l.length * 3 := by
  induction l with
  | nil => rfl
  | cons m l ih => simp only [aC, List.length_append, ih, List.length_cons, List.length_nil]; omega
theorem aC_get (l : List (Int × Int × Int)) : ∀ i (_ : i < l.length), (aC l)[i * 3]? = some (.int .i64 (l.getD i (0, 0, 0)).1) ∧ (aC l)[i * 3 + 1]? = some (.int .i64 (l.getD i (0, 0, 0)).2.1) ∧ (aC l)[i * 3 + 2]? = some (.int .i64 (l.getD i (0, 0, 0)).2.2) := by
  induction l with
  | nil => intro i hi; cases hi
  | cons m l ih =>
    intro i hi
    cases i with
    | zero => exact ⟨rfl, rfl, rfl⟩
    | succ i =>
      obtain ⟨h0, h1, h2⟩ := ih i (by simp at hi; omega)
      have e : (i + 1) * 3 = (i * 3) + 3 := by omega
      have e1 : (i + 1) * 3 + 1 = (i * 3 + 1) + 3 := by omega
      have e2 : (i + 1) * 3 + 2 = (i * 3 + 2) + 3 := by omega
      refine ⟨?_, ?_, ?_⟩
      · rw [e]
        show ([Value.int .i64 m.1, Value.int .i64 m.2.1, Value.int .i64 m.2.2] ++ aC l)[(i * 3) + 3]? = _
        rw [List.getElem?_append_right (by simp)]
        simpa using h0
      · rw [e1]
        show ([Value.int .i64 m.1, Value.int .i64 m.2.1, Value.int .i64 m.2.2] ++ aC l)[(i * 3 + 1) + 3]? = _
        rw [List.getElem?_append_right (by simp)]
        simpa using h1
      · rw [e2]
        show ([Value.int .i64 m.1, Value.int .i64 m.2.1, Value.int .i64 m.2.2] ++ aC l)[(i * 3 + 2) + 3]? = _
        rw [List.getElem?_append_right (by simp)]
        simpa using h2
/-- The actions one behind the other. -/
def acts (m : ByteArray) : Stt → List (Int × Int × Int) → Except Int Stt
  | s, [] => .ok s
  | s, a :: l => match act s a.1 a.2.1 a.2.2 m with
    | .ok t => acts m t l
    | .error e => .error e
theorem acts_snoc (m : ByteArray) (s : Stt) (l : List (Int × Int × Int)) (a : Int × Int × Int) : acts m s (l ++ [a]) = match acts m s l with
    | .ok t => act t a.1 a.2.1 a.2.2 m
    | .error e => .error e := by
  induction l generalizing s with
  | nil =>
    simp only [List.nil_append, acts]
    cases act s a.1 a.2.1 a.2.2 m <;> rfl
  | cons x l ih =>
    simp only [List.cons_append, acts]
    cases act s x.1 x.2.1 x.2.2 m with
    | ok t => exact ih t
    | error e => rfl
theorem acts_err (m : ByteArray) (s : Stt) (l k : List (Int × Int × Int)) (e : Int) (h : acts m s l = .error e) : acts m s (l ++ k) = .error e := by
  induction l generalizing s with
  | nil => cases h
  | cons x l ih =>
    simp only [List.cons_append, acts] at h ⊢
    cases hx : act s x.1 x.2.1 x.2.2 m with
    | ok t => rw [hx] at h; exact ih t h
    | error e' => rw [hx] at h; exact h
theorem act_flg (s : Stt) (k n mo : Int) (m : ByteArray) (h : s.flg < 65536) (t : Stt) (ht : act s k n mo m = .ok t) : t.flg < 65536 := by
  refine act_cases (P := fun x => ∀ t, x = .ok t → t.flg < 65536) s k n mo m ?_ ?_ ?_ ?_ ?_ ?_ ?_ ?_ ?_ ?_ t ht
  · intro t ht; unfold aMeasure at ht; split at ht
    · cases ht
    · cases ht; unfold Stt.settle; split <;> exact h
  · intro t ht; unfold aIndent at ht; split at ht
    · cases ht
    split at ht
    · cases ht
    · cases ht; exact h
  · intro t ht; unfold aDedent at ht; split at ht
    · cases ht
    · cases ht; unfold Stt.settle; split <;> exact h
  · intro t ht; unfold aDrop at ht; split at ht
    · cases ht
    · cases ht; exact h
  · intro t ht; unfold aEnqueue at ht; split at ht
    · cases ht
    split at ht
    · cases ht
    split at ht
    · cases ht
    · cases ht; exact h
  · intro t ht; unfold aDequeue at ht; split at ht
    · cases ht
    · cases ht; exact h
  · intro t ht; unfold aEnter at ht; split at ht
    · cases ht
    split at ht
    · cases ht
    split at ht
    · cases ht
    · cases ht; exact h
  · intro t ht; unfold aLeave at ht; split at ht
    · cases ht
    · cases ht; exact h
  · intro on t ht; unfold aTurn at ht; split at ht
    · cases ht
    · rename_i hn
      cases ht
      cases on
      · exact Nat.lt_of_le_of_lt Nat.and_le_left h
      · exact Nat.or_lt_two_pow (n := 16) h (Nat.pow_lt_pow_right (a := 2) (m := n.toNat) (n := 16) (by decide) (by omega))
  · intro t ht; cases ht
/-- The zero state. -/
def zst : Stt := ⟨[], 0, [], [], 0⟩
@[reducible] def zV : Value := .agg #[.slice none 0 0, .int .i64 0, .slice none 0 0, .slice none 0 0, .int .u16 0]
/-- What actions answer: the state behind them, or an error. -/
def As (w : World) (r : Except Int Stt) (e : Ending) (w' : World) : Prop :=
  Below w.heap.size w w' ∧ ((∃ t vi vq vf, r = .ok t ∧ e = .returned (.tuple #[sv vi vq vf t, .int .i64 0]) ∧ Own w.heap.size w' vi vq vf t) ∨ ∃ c, r = .error c ∧ e = .returned (.tuple #[zV, .int .i64 c]))
theorem Own.low {B B' : Nat} {W : World} {vi vq vf : Value} {s : Stt} (h : Own B W vi vq vf s) (hb : B' ≤ B) : Own B' W vi vq vf s := by
  have key : ∀ {e : TypeId} {size n : Nat} {v : Value} {xs : List Value}, W.ownsRow B e size v n xs → W.ownsRow B' e size v n xs := by
    intro e size n v xs h
    refine ⟨h.1, h.2.imp id ?_⟩
    rintro ⟨g, cap, cur, h1, h2, h3⟩
    exact ⟨g, cap, cur, h1, Nat.le_trans hb h2, h3⟩
  exact ⟨key h.i, key h.q, key h.f⟩

set_option maxRecDepth 100000 in
set_option maxHeartbeats 8000000 in
theorem all_any {vi vq vf va : Value} {s : Stt} {l : List (Int × Int × Int)} (m : ByteArray) (w : World) (h : Stm w vi vq vf s) (hf : s.flg < 65536) (ha : Rw w va l.length (aC l)) (hl : l.length ≤ 4611686018427387904) (hm : m.size ≤ 4611686018427387904) :
    Calls Try.prog 6 #[sv vi vq vf s, va, .string m] w fun e w' => As w (if s.shp then acts m s l else .error 65) e w' := by
  obtain ⟨a1, c1, a2, c2, a3, c3, rfl, rfl, rfl⟩ := h.form
  obtain ⟨W1, hW1⟩ : ∃ W1, W1 = (w.alloc (.cells #[.slice a1 s.ind.length c1, .int .i64 s.pen, .slice a2 s.que.length c2, .slice a3 s.frm.length c3, .int .u16 (s.flg : Int)] 27)).alloc (.cells #[.slice none 0 0, .int .i64 0, .slice none 0 0, .slice none 0 0, .int .u16 0] 27) := ⟨_, rfl⟩
  have HB1 : Hid (Below w.heap.size w W1) := by rw [hW1]; exact below_trans (bel_up _ _) (bel_up _ _)
  have HSZ : Hid (W1.heap.size = w.heap.size + 2) := by rw [hW1]; simp [Hid]
  have hp : W1.heap[w.heap.size]? = some (.cells #[.slice a1 s.ind.length c1, .int .i64 s.pen, .slice a2 s.que.length c2, .slice a3 s.frm.length c3, .int .u16 (s.flg : Int)] 27 (0, 0)) := by rw [hW1, (bel_up _ _).block _ (by simp)]; exact heap_new w _
  have hr : W1.heap[w.heap.size + 1]? = some (.cells zrC 27 (0, 0)) := by
    rw [hW1]
    have := heap_new (w.alloc (.cells #[.slice a1 s.ind.length c1, .int .i64 s.pen, .slice a2 s.que.length c2, .slice a3 s.frm.length c3, .int .u16 (s.flg : Int)] 27)) (.cells #[.slice none 0 0, .int .i64 0, .slice none 0 0, .slice none 0 0, .int .u16 0] 27)
    rw [World.size_alloc] at this
    exact this
  have HRB : Hid (W1.heap[w.heap.size + 1]? = some (.cells zrC 27 (0, 0))) := hr
  have p0 : W1.cell? ⟨w.heap.size, 0, none⟩ = some (.slice a1 s.ind.length c1) := by rw [Lib.cell_of_heap hp]; rfl
  have p1 : W1.cell? ⟨w.heap.size, 1, none⟩ = some (.int .i64 s.pen) := by rw [Lib.cell_of_heap hp]; rfl
  have p2 : W1.cell? ⟨w.heap.size, 2, none⟩ = some (.slice a2 s.que.length c2) := by rw [Lib.cell_of_heap hp]; rfl
  have p3 : W1.cell? ⟨w.heap.size, 3, none⟩ = some (.slice a3 s.frm.length c3) := by rw [Lib.cell_of_heap hp]; rfl
  have p4 : W1.cell? ⟨w.heap.size, 4, none⟩ = some (.int .u16 (s.flg : Int)) := by rw [Lib.cell_of_heap hp]; rfl
  have HP : Hid (∀ W, Below W1.heap.size W1 W → W.cell? ⟨w.heap.size, 0, none⟩ = some (.slice a1 s.ind.length c1) ∧ W.cell? ⟨w.heap.size, 1, none⟩ = some (.int .i64 s.pen) ∧ W.cell? ⟨w.heap.size, 2, none⟩ = some (.slice a2 s.que.length c2) ∧ W.cell? ⟨w.heap.size, 3, none⟩ = some (.slice a3 s.frm.length c3) ∧ W.cell? ⟨w.heap.size, 4, none⟩ = some (.int .u16 (s.flg : Int))) := fun W hW => ⟨below_cell hW p0, below_cell hW p1, below_cell hW p2, below_cell hW p3, below_cell hW p4⟩
  have HZ : Hid (∀ W, Below W1.heap.size W1 W → W.cell? ⟨w.heap.size + 1, 0, none⟩ = some (.slice none 0 0) ∧ W.cell? ⟨w.heap.size + 1, 1, none⟩ = some (.int .i64 0) ∧ W.cell? ⟨w.heap.size + 1, 2, none⟩ = some (.slice none 0 0) ∧ W.cell? ⟨w.heap.size + 1, 3, none⟩ = some (.slice none 0 0) ∧ W.cell? ⟨w.heap.size + 1, 4, none⟩ = some (.int .u16 0) ∧ ∀ k, W.frozen? ⟨w.heap.size + 1, k, none⟩ = false) := fun W hW => by
    have hq : W.heap[w.heap.size + 1]? = some (.cells zrC 27 (0, 0)) := by rw [hW.block _ (lt_of_heap HRB.out)]; exact HRB.out
    refine ⟨?_, ?_, ?_, ?_, ?_, fun k => Lib.frozen_of_heap hq k⟩
    · rw [Lib.cell_of_heap hq]; rfl
    · rw [Lib.cell_of_heap hq]; rfl
    · rw [Lib.cell_of_heap hq]; rfl
    · rw [Lib.cell_of_heap hq]; rfl
    · rw [Lib.cell_of_heap hq]; rfl
  have HW : Hid (W1 = (w.alloc (.cells #[.slice a1 s.ind.length c1, .int .i64 s.pen, .slice a2 s.que.length c2, .slice a3 s.frm.length c3, .int .u16 (s.flg : Int)] 27)).alloc (.cells #[.slice none 0 0, .int .i64 0, .slice none 0 0, .slice none 0 0, .int .u16 0] 27)) := hW1
  have HS : Hid (Stm W1 (.slice a1 s.ind.length c1) (.slice a2 s.que.length c2) (.slice a3 s.frm.length c3) s) := h.up HB1.out
  have HF : Hid (s.flg < 65536) := hf
  have HA : Hid (Rw W1 va l.length (aC l)) := ha.up HB1.out
  have HL : Hid (l.length ≤ 4611686018427387904 ∧ m.size ≤ 4611686018427387904) := ⟨hl, hm⟩
  clear h hf ha hl hm hW1 hp hr
  obtain ⟨av_, cv_, hva⟩ : ∃ a c, va = .slice a l.length c := by obtain ⟨a, _, _, c, e, _⟩ := HA.out; exact ⟨a, c, e⟩
  subst hva
  obtain ⟨R, hR⟩ : ∃ R, (if s.shp then acts m s l else .error 65) = R := ⟨_, rfl⟩
  have HR : Hid ((if s.shp then acts m s l else .error 65) = R) := hR
  rw [hR]
  clear hR
  go_enter Try.func6, Try.ntmps6
  go_upto_region 1 with fail
  rw [← HW.out]
  go_wp2_with fail
  refine (shaped_any W1 HS.out).mono ?_
  rintro e w2 ⟨rfl, hb2⟩
  have HB2 : Hid (Below W1.heap.size W1 w2) := hb2
  clear hb2 p0 p1 p2 p3 p4
  cases hs : s.shp with
  | false =>
    have HSF : Hid (s.shp = false) := hs
    clear hs
    obtain ⟨z0, z1, z2, z3, z4, zf⟩ := HZ.out _ HB2.out
    go_wp2_with fail
    (try simp only [Exit.inBlock, Exit.then])
    refine bodyPost_ret (v := .tuple #[zV, .int .i64 65]) ?_ rfl ⟨?_, .inr ⟨65, by rw [← HR.out, HSF.out]; rfl, rfl⟩⟩
    · rw [results_cell_tmp rfl]; go_simp
    · exact bel_five (below_trans HB1.out HB2.out) (Nat.le_succ _)
  | true =>
    have HSH : Hid (s.shp = true) := hs
    clear hs
    obtain ⟨p0, p1, p2, p3, p4⟩ := HP.out _ HB2.out
    go_wp2_with fail
    refine (copied_any w2 (HS.out.up HB2.out) HSH.out).mono ?_
    rintro e w3 ⟨vi', vq', vf', rfl, ho3, hb3⟩
    have HB3 : Hid (Below W1.heap.size W1 w3) := below_trans HB2.out hb3
    have HO3 : Hid (Own W1.heap.size w3 vi' vq' vf' s) := ho3.low HB2.out.size
    clear hb3 ho3 p0 p1 p2 p3 p4
    obtain ⟨e1, m1, e2, m2, e3, m3, rfl, rfl, rfl⟩ := HO3.out.stm.form
    go_upto_region 5 with fail
    obtain ⟨W4, hW4⟩ : ∃ W4, W4 = w3.alloc (.cells #[.slice e1 s.ind.length m1, .int .i64 s.pen, .slice e2 s.que.length m2, .slice e3 s.frm.length m3, .int .u16 (s.flg : Int)] 27) := ⟨_, rfl⟩
    have HB4 : Hid (Below W1.heap.size W1 W4) := by rw [hW4]; exact below_trans HB3.out (bel_up _ _)
    have HN4 : Hid (Nx W1.heap.size W4 w3.heap.size (.slice e1 s.ind.length m1) (.slice e2 s.que.length m2) (.slice e3 s.frm.length m3) s) := by
      rw [hW4]
      exact ⟨heap_new w3 _, HO3.out.up (bel_up _ _), HB3.out.size, by have := HB3.out.size; simp; omega⟩
    rw [← hW4]
    clear hW4
    go_loopg [20] l.length (fun gm v wr => ∃ (i : Nat) (t : Stt) (x y z : Value), v = .int .i64 (i : Int) ∧ Hid (i ≤ l.length ∧ gm = l.length - i) ∧ Hid (Nx W1.heap.size wr w3.heap.size x y z t) ∧ Hid (Below W1.heap.size W1 wr) ∧ Hid (acts m s (l.take i) = .ok t ∧ t.shp = true ∧ t.flg < 65536))
    case atStart => exact ⟨0, s, _, _, _, rfl, ⟨Nat.zero_le _, rfl⟩, HN4, HB4, rfl, HSH.out, HF.out⟩
    case round =>
      obtain ⟨i, t, x, y, z, rfl, HI, HN, HB, HT⟩ := hrel
      clear HN4 HB4
      by_cases hi : i < l.length
      · have e1 : decide ((i : Int) < (l.length : Int)) = true := by rw [decide_eq_true_eq]; omega
        have e2 : decide (i < l.length) = true := by rw [decide_eq_true_eq]; omega
        have e3 : (i : Int) < (l.length : Int) := by omega
        have HIL : Hid (i < l.length) := hi
        have hwr := w64n i (by have := HL.out.1; omega)
        obtain ⟨aa, g, o, cp, f1, -, -, f2, f3⟩ := HA.out
        obtain ⟨rfl, -, rfl⟩ := Value.slice.inj f1
        obtain rfl := f2 (by omega)
        obtain ⟨a, hal⟩ : ∃ a, l.getD i (0, 0, 0) = a := ⟨_, rfl⟩
        obtain ⟨g0, g1, g2⟩ := aC_get l i hi
        rw [hal] at g0 g1 g2
        have k0 := below_cell HB.out (f3 _ _ g0)
        have k1 := below_cell HB.out (f3 _ _ g1)
        have k2 := below_cell HB.out (f3 _ _ g2)
        rw [← Nat.add_assoc] at k1 k2
        have HTK : Hid (l.take (i + 1) = l.take i ++ [a]) := by rw [take_snoc l (0, 0, 0) i hi, hal]; exact rfl
        obtain ⟨ka, na, ma⟩ := a
        clear f1 f2 f3 g0 g1 g2 hal hi
        go_wp2_with fail
        obtain ⟨W5, hW5⟩ : ∃ W5, W5 = wr.alloc (.cells #[.int .i64 ka, .int .i64 na, .int .i64 ma] 38) := ⟨_, rfl⟩
        rw [← hW5]
        have HN5 : Hid (Nx W1.heap.size W5 w3.heap.size x y z t) := by rw [hW5]; exact HN.out.up (bel_up _ _)
        have HB5 : Hid (Below W1.heap.size W1 W5) := by rw [hW5]; exact HB.out.alloc HN.out.lB _
        clear hW5
        refine (do_any HN5.out HT.out.2.1 HT.out.2.2 ka na ma m HL.out.2).mono ?_
        rintro e w6 ⟨hb6, ⟨t', x', y', z', ht', rfl, hn6⟩ | ⟨c, hc, rfl⟩⟩
        · have HB6 : Hid (Below W1.heap.size W1 w6) := HB5.out.trans hb6
          have HN6 : Hid _ := hn6
          have HT6 : Hid (acts m s (l.take (i + 1)) = .ok t' ∧ t'.shp = true ∧ t'.flg < 65536) := by
            refine ⟨?_, (act_ok t ka na ma m HT.out.2.1).1 t' ht', act_flg t ka na ma m HT.out.2.2 t' ht'⟩
            rw [HTK.out, acts_snoc, HT.out.1]
            exact ht'
          clear hb6 hn6 ht' k0 k1 k2
          go_wp2_with fail
          go_roundg (l.length - (i + 1))
          case measure => have := HI.out; have := HIL.out; omega
          case rel => exact ⟨i + 1, t', x', y', z', by first | rfl | (rw [show (i : Int) + 1 = ((i + 1 : Nat) : Int) by omega]), ⟨HIL.out, rfl⟩, HN6.out, HB6, HT6⟩
        · have HB6 : Hid (Below W1.heap.size W1 w6) := HB5.out.trans hb6
          have hce := (act_ok t ka na ma m HT.out.2.1).2 c hc
          have HE : Hid (acts m s l = .error c) := by
            have h1 : acts m s (l.take (i + 1)) = .error c := by rw [HTK.out, acts_snoc, HT.out.1]; exact hc
            have := acts_err m s _ (l.drop (i + 1)) c h1
            rw [List.take_append_drop] at this
            exact this
          have c0 : (c != 0) = true := by rw [bne_iff_ne]; omega
          obtain ⟨z0, z1, z2, z3, z4, zf⟩ := HZ.out _ HB6.out
          clear hb6 hc hce k0 k1 k2
          go_wp2_with fail
          (try simp only [Exit.inBlock, Exit.then])
          refine bodyPost_ret (v := .tuple #[zV, .int .i64 c]) ?_ rfl ⟨?_, .inr ⟨c, by rw [← HR.out, HSH.out, if_pos rfl]; exact HE.out, rfl⟩⟩
          · rw [results_cell_tmp rfl]; go_simp
          · exact bel_five (below_trans HB1.out HB6.out) (Nat.le_succ _)
      · have e1 : decide ((i : Int) < (l.length : Int)) = false := by rw [decide_eq_false_iff_not]; omega
        have e2 : decide (i < l.length) = false := by rw [decide_eq_false_iff_not]; omega
        have HE : Hid (acts m s l = .ok t) := by
          have := HT.out.1
          rw [List.take_of_length_le (by omega)] at this
          exact this
        obtain ⟨z0, z1, z2, z3, z4, zf⟩ := HZ.out _ HB.out
        obtain ⟨b1, d1, b2, d2, b3, d3, rfl, rfl, rfl⟩ := HN.out.own.stm.form
        obtain ⟨k0, k1, k2, k3, k4⟩ := HN.out.cells
        clear hi
        go_wp2_with fail
        (try simp only [Exit.inBlock, Exit.then])
        have hq : wr.heap[w.heap.size + 1]? = some (.cells zrC 27 (0, 0)) := by rw [HB.out.block _ (lt_of_heap HRB.out)]; exact HRB.out
        have hown := HN.out.own.low HB1.out.size
        refine bodyPost_ret (v := .tuple #[sv (.slice b1 t.ind.length d1) (.slice b2 t.que.length d2) (.slice b3 t.frm.length d3) t, .int .i64 0]) ?_ rfl ⟨?_, .inl ⟨t, _, _, _, by rw [← HR.out, HSH.out, if_pos rfl]; exact HE.out, rfl, ⟨row_five hq hown.i (by decide), row_five hq hown.q (by decide), row_five hq hown.f (by decide)⟩⟩⟩
        · rw [results_cell_tmp rfl]; go_simp
        · exact bel_five (below_trans HB1.out HB.out) (Nat.le_succ _)
end Go.Proofs.Ytkaciochlemjiab
