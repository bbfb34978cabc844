import Derived.Test.YtkaciochlemjiaaTrm
namespace Go.Proofs.Ytkaciochlemjiaa
open Go.RowKit Go.Maps

theorem row_at {W : World} {B : Nat} {e : TypeId} {size n m g cap : Nat} {xs : List Value} (h : W.ownsRow B e size (.slice (some ⟨g, 0, none⟩) n cap) m xs) (j : Nat) (u : Value) (hu : xs[j]? = some u) : W.cell? ⟨g, j, none⟩ = some u := by
  rcases h.2 with ⟨h0, _⟩ | ⟨g', cap', cur, h0, h1, h2, h3, h4, h5, h6⟩
  · cases h0
  · obtain ⟨e1, -, -⟩ := Value.slice.inj h0
    obtain rfl : g' = g := by simpa using (Option.some.inj e1).symm
    rw [Lib.cell_of_heap h2]
    rw [← h6] at hu
    have hj : j < m * size := by
      have := (List.getElem?_eq_some_iff.1 hu).1
      rw [List.length_take] at this
      omega
    rw [List.getElem?_take_of_lt hj] at hu
    simpa using hu
/-- A state with room behind its lists is that state. -/
theorem Rmy.stm {B : Nat} {W : World} {vi vq vf : Value} {s : Stt} (h : Rmy B W vi vq vf s) : Stm W vi vq vf s := by
  obtain ⟨g1, k1, g2, k2, g3, k3, rfl, rfl, rfl, h1, h2, h3⟩ := h
  have c1 := row_cap h1
  have c2 := row_cap h2
  have c3 := row_cap h3
  refine ⟨⟨_, g1, 0, _, rfl, by omega, fun h => (by cases h), fun _ => rfl, fun j u hu => ?_⟩, ⟨_, g2, 0, _, rfl, by omega, fun h => (by cases h), fun _ => rfl, fun j u hu => ?_⟩, ⟨_, g3, 0, _, rfl, by omega, fun h => (by cases h), fun _ => rfl, fun j u hu => ?_⟩⟩
  · rw [Nat.zero_add]; exact row_at h1 j u (by rw [List.getElem?_append_left (List.getElem?_eq_some_iff.1 hu).1]; exact hu)
  · rw [Nat.zero_add]; exact row_at h2 j u (by rw [List.getElem?_append_left (List.getElem?_eq_some_iff.1 hu).1]; exact hu)
  · rw [Nat.zero_add]; exact row_at h3 j u (by rw [List.getElem?_append_left (List.getElem?_eq_some_iff.1 hu).1]; exact hu)
theorem Rmy.up {B : Nat} {W W' : World} {vi vq vf : Value} {s : Stt} (h : Rmy B W vi vq vf s) (hb : Below W.heap.size W W') : Rmy B W' vi vq vf s := by
  obtain ⟨g1, k1, g2, k2, g3, k3, rfl, rfl, rfl, h1, h2, h3⟩ := h
  exact ⟨g1, k1, g2, k2, g3, k3, rfl, rfl, rfl, row_up h1 hb, row_up h2 hb, row_up h3 hb⟩
set_option maxRecDepth 100000 in
set_option maxHeartbeats 8000000 in
theorem rooms_any {B : Nat} {vi vq vf : Value} {s : Stt} (w : World) (h : Rmy B w vi vq vf s) (l1 : s.ind.length ≤ 140737488355328) (l2 : s.que.length ≤ 140737488355328) (l3 : s.frm.length ≤ 140737488355328) :
    Calls Try.prog 23 #[sv vi vq vf s] w fun e w' => e = .returned (.bool true) ∧ Below w.heap.size w w' := by
  obtain ⟨g1, k1, g2, k2, g3, k3, rfl, rfl, rfl, h1, h2, h3⟩ := h
  obtain ⟨W1, hW1⟩ : ∃ W1, W1 = w.alloc (.cells #[.slice (some ⟨g1, 0, none⟩) s.ind.length k1, .int .i64 s.pen, .slice (some ⟨g2, 0, none⟩) s.que.length k2, .slice (some ⟨g3, 0, none⟩) s.frm.length k3, .int .u16 (s.flg : Int)] 27) := ⟨_, rfl⟩
  have HP1 : Hid (W1.heap[w.heap.size]? = some (.cells #[.slice (some ⟨g1, 0, none⟩) s.ind.length k1, .int .i64 s.pen, .slice (some ⟨g2, 0, none⟩) s.que.length k2, .slice (some ⟨g3, 0, none⟩) s.frm.length k3, .int .u16 (s.flg : Int)] 27 (0, 0))) := by rw [hW1]; exact heap_new w _
  have B1 : Hid (Below w.heap.size w W1) := by rw [hW1]; exact bel_up _ _
  have HW : Hid (W1 = w.alloc (.cells #[.slice (some ⟨g1, 0, none⟩) s.ind.length k1, .int .i64 s.pen, .slice (some ⟨g2, 0, none⟩) s.que.length k2, .slice (some ⟨g3, 0, none⟩) s.frm.length k3, .int .u16 (s.flg : Int)] 27)) := hW1
  have c1 := row_cap h1
  have c2 := row_cap h2
  have c3 := row_cap h3
  have r1 := row_up h1 B1.out
  have r2 := row_up h2 B1.out
  have r3 := row_up h3 B1.out
  obtain ⟨n1, hn1⟩ : ∃ n, s.ind.length = n := ⟨_, rfl⟩
  obtain ⟨n2, hn2⟩ : ∃ n, s.que.length = n := ⟨_, rfl⟩
  obtain ⟨n3, hn3⟩ : ∃ n, s.frm.length = n := ⟨_, rfl⟩
  have m10 := row_at r1 n1 (.int .i64 71) (by rw [List.getElem?_append_right (by rw [iC_len]; omega), iC_len, hn1]; simp)
  have m11 := row_at r1 (n1 + 1) (.int .i64 72) (by rw [List.getElem?_append_right (by rw [iC_len]; omega), iC_len, hn1]; simp)
  have m20 := row_at r2 n2 (.string ⟨#[109, 97, 114, 107]⟩) (by rw [List.getElem?_append_right (by rw [qC_len]; omega), qC_len, hn2]; simp)
  have m21 := row_at r2 (n2 + 1) (.string ⟨#[109, 97, 114, 107]⟩) (by rw [List.getElem?_append_right (by rw [qC_len]; omega), qC_len, hn2]; simp)
  have m30 := row_at r3 (n3 * 2) (.int .i64 73) (by rw [List.getElem?_append_right (by rw [fC_len]; omega), fC_len, hn3]; simp)
  have m32 := row_at r3 ((n3 + 1) * 2) (.int .i64 74) (by rw [List.getElem?_append_right (by rw [fC_len]; omega), fC_len, hn3, show (n3 + 1) * 2 - n3 * 2 = 2 by omega]; rfl)
  obtain ⟨p0, p1, p2, p3, p4⟩ := box_cells HP1.out
  rw [hn1, hn2, hn3] at HW
  rw [hn1] at p0 c1
  rw [hn2] at p2 c2
  rw [hn3] at p3 c3
  rw [hn1] at l1
  rw [hn2] at l2
  rw [hn3] at l3
  have HC : Hid (n1 + 2 ≤ k1 ∧ n2 + 2 ≤ k2 ∧ n3 + 2 ≤ k3) := ⟨c1.1, c2.1, c3.1⟩
  have t1 : ((n1 : Int) + 2).toNat = n1 + 2 := by omega
  have t2 : ((n2 : Int) + 2).toNat = n2 + 2 := by omega
  have t3 : ((n3 : Int) + 2).toNat = n3 + 2 := by omega
  have u1 : (n1 : Int) + 2 ≤ (k1 : Int) := by omega
  have u2 : (n2 : Int) + 2 ≤ (k2 : Int) := by omega
  have u3 : (n3 : Int) + 2 ≤ (k3 : Int) := by omega
  have v1 : n1 + 2 ≤ k1 := c1.1
  have v2 : n2 + 2 ≤ k2 := c2.1
  have v3 : n3 + 2 ≤ k3 := c3.1
  clear h1 h2 h3 r1 r2 r3 hW1 c1 c2 c3
  go_enter Try.func23, Try.ntmps23
  go_upto_region 1 with fail
  rw [← HW.out]
  go_wp2_with fail
  go_ret
  exact ⟨rfl, B1.out⟩
end Go.Proofs.Ytkaciochlemjiaa
namespace Go.Proofs.Ytkaciochlemjiaa
open Go.RowKit Go.Maps

/-- Nothing but three blocks has turned. -/
structure Chg (w W : World) (g1 g2 g3 : Nat) : Prop where
  os : W.os = w.os
  tape : W.tape = w.tape
  output : W.output = w.output
  size : w.heap.size ≤ W.heap.size
  block : ∀ j, j < w.heap.size → j ≠ g1 → j ≠ g2 → j ≠ g3 → W.heap[j]? = w.heap[j]?
theorem Chg.refl (w : World) (g1 g2 g3 : Nat) : Chg w w g1 g2 g3 := ⟨rfl, rfl, rfl, Nat.le_refl _, fun _ _ _ _ _ => rfl⟩
theorem Chg.up {w W W' : World} {g1 g2 g3 : Nat} (h : Chg w W g1 g2 g3) (hb : Below W.heap.size W W') : Chg w W' g1 g2 g3 :=
  ⟨hb.os.trans h.os, hb.tape.trans h.tape, hb.output.trans h.output, Nat.le_trans h.size hb.size, fun j hj a b c => (hb.block j (Nat.lt_of_lt_of_le hj h.size)).trans (h.block j hj a b c)⟩
theorem Chg.set {w W : World} {g1 g2 g3 g k : Nat} {u : Value} (h : Chg w W g1 g2 g3) (hg : g = g1 ∨ g = g2 ∨ g = g3) : Chg w (W.setCell ⟨g, k, none⟩ u) g1 g2 g3 :=
  ⟨h.os, h.tape, h.output, by simpa using h.size, fun j hj a b c => (Below.heap_setCell W ⟨g, k, none⟩ u j (fun e => by rcases hg with e' | e' | e' <;> simp_all)).trans (h.block j hj a b c)⟩
theorem Chg.below {w W : World} {B g1 g2 g3 : Nat} (h : Chg w W g1 g2 g3) (hB : B ≤ w.heap.size) (h1 : B ≤ g1) (h2 : B ≤ g2) (h3 : B ≤ g3) : Below B w W :=
  ⟨h.os, h.tape, h.output, h.size, fun j hj => h.block j (Nat.lt_of_lt_of_le hj hB) (by omega) (by omega) (by omega)⟩
abbrev mI : List Value := [.int .i64 71, .int .i64 72]
abbrev mQ : List Value := [.string ⟨#[109, 97, 114, 107]⟩, .string ⟨#[109, 97, 114, 107]⟩]
abbrev mF : List Value := [.int .i64 73, .string ⟨#[]⟩, .int .i64 74, .string ⟨#[]⟩]
/-- A state's lists are written over where they stand. -/
structure Ty (B : Nat) (w W : World) (M n1 n2 n3 g1 k1 g2 k2 g3 k3 : Nat) (sb : Array Value) : Prop where
  bs : W.heap[w.heap.size]? = some (.cells sb 27 (0, 0))
  ri : ∃ l : List Int, l.length = n1 ∧ W.ownsRow B 3 1 (.slice (some ⟨g1, 0, none⟩) (n1 + 2) k1) (n1 + 2) (iC l ++ mI)
  rq : ∃ l : List ByteArray, l.length = n2 ∧ (∀ d ∈ l, d.size ≤ M) ∧ W.ownsRow B 9 1 (.slice (some ⟨g2, 0, none⟩) (n2 + 2) k2) (n2 + 2) (qC l ++ mQ)
  rf : ∃ l : List (Int × ByteArray), l.length = n3 ∧ (∀ f ∈ l, f.2.size ≤ M) ∧ W.ownsRow B 54 2 (.slice (some ⟨g3, 0, none⟩) (n3 + 2) k3) (n3 + 2) (fC l ++ mF)
  ch : Chg w W g1 g2 g3
theorem iC_set (l : List Int) (i : Nat) (x : Int) : iC (l.set i x) = (iC l).set i (.int .i64 x) := by simp [iC, List.map_set]
theorem qC_set (l : List ByteArray) (i : Nat) (x : ByteArray) : qC (l.set i x) = (qC l).set i (.string x) := by simp [qC, List.map_set]
theorem fC_set (l : List (Int × ByteArray)) : ∀ (i : Nat) (x : Int × ByteArray), fC (l.set i x) = ((fC l).set (i * 2) (.int .i64 x.1)).set (i * 2 + 1) (.string x.2) := by
  induction l with
  | nil => intro i x; rfl
  | cons m l ih =>
    intro i x
    cases i with
    | zero => rfl
    | succ i =>
      show [Value.int .i64 m.1, Value.string m.2] ++ fC (l.set i x) = _
      rw [ih i x]
      show _ = (([Value.int .i64 m.1, Value.string m.2] ++ fC l).set ((i + 1) * 2) _).set ((i + 1) * 2 + 1) _
      rw [show (i + 1) * 2 = i * 2 + 1 + 1 by omega, show i * 2 + 1 + 1 + 1 = (i * 2 + 1) + 1 + 1 by omega]
      rfl
theorem row_blk {W : World} {B : Nat} {e : TypeId} {size n m g cap : Nat} {xs : List Value} (h : W.ownsRow B e size (.slice (some ⟨g, 0, none⟩) n cap) m xs) : B ≤ g ∧ ∃ cur, W.heap[g]? = some (.cells cur e (0, 0)) := row_tag h g rfl
theorem mem_set {α : Type} {l : List α} {i : Nat} {x y : α} (h : y ∈ l.set i x) : y ∈ l ∨ y = x := by
  rcases List.mem_or_eq_of_mem_set h with h | h
  · exact Or.inl h
  · exact Or.inr h
section
variable {B : Nat} {w W W' : World} {M n1 n2 n3 g1 k1 g2 k2 g3 k3 : Nat} {sb : Array Value}
theorem Ty.up (h : Ty B w W M n1 n2 n3 g1 k1 g2 k2 g3 k3 sb) (hb : Below W.heap.size W W') : Ty B w W' M n1 n2 n3 g1 k1 g2 k2 g3 k3 sb := by
  obtain ⟨l1, e1, r1⟩ := h.ri
  obtain ⟨l2, e2, s2, r2⟩ := h.rq
  obtain ⟨l3, e3, s3, r3⟩ := h.rf
  exact ⟨by rw [hb.block _ (lt_of_heap h.bs)]; exact h.bs, ⟨l1, e1, row_up r1 hb⟩, ⟨l2, e2, s2, row_up r2 hb⟩, ⟨l3, e3, s3, row_up r3 hb⟩, h.ch.up hb⟩
/-- A block of another kind stays under a store. -/
theorem far_blk {e t : TypeId} {size n m g cap b k : Nat} {xs : List Value} {cs : Array Value} {u : Value} (hr : W.ownsRow B e size (.slice (some ⟨g, 0, none⟩) n cap) m xs) (hb : W.heap[b]? = some (.cells cs t (0, 0))) (hne : e ≠ t) : (W.setCell ⟨g, k, none⟩ u).heap[b]? = some (.cells cs t (0, 0)) := by
  rw [Below.heap_setCell _ _ _ _ (fun e' => by subst e'; obtain ⟨_, cur, h2⟩ := row_blk hr; rw [hb] at h2; cases h2; exact hne rfl)]
  exact hb
theorem far_row {e e' : TypeId} {size size' n m n' m' g g' cap cap' k B' : Nat} {xs xs' : List Value} {u : Value} (hr : W.ownsRow B e size (.slice (some ⟨g, 0, none⟩) n cap) m xs) (hr' : W.ownsRow B' e' size' (.slice (some ⟨g', 0, none⟩) n' cap') m' xs') (hne : e' ≠ e) : (W.setCell ⟨g, k, none⟩ u).ownsRow B' e' size' (.slice (some ⟨g', 0, none⟩) n' cap') m' xs' :=
  hr'.kept grown_set (tag_ne hr' hr hne)
theorem Ty.si (h : Ty B w W M n1 n2 n3 g1 k1 g2 k2 g3 k3 sb) (i : Nat) (hi : i < n1) (x : Int) : Ty B w (W.setCell ⟨g1, i, none⟩ (.int .i64 x)) M n1 n2 n3 g1 k1 g2 k2 g3 k3 sb := by
  obtain ⟨l1, e1, r1⟩ := h.ri
  obtain ⟨l2, e2, s2, r2⟩ := h.rq
  obtain ⟨l3, e3, s3, r3⟩ := h.rf
  refine ⟨far_blk r1 h.bs (by decide), ⟨l1.set i x, by simpa using e1, ?_⟩, ⟨l2, e2, s2, far_row r1 r2 (by decide)⟩, ⟨l3, e3, s3, far_row r1 r3 (by decide)⟩, h.ch.set (Or.inl rfl)⟩
  have := (r1.stored i (.int .i64 x)).1
  rw [List.set_append_left _ _ (by rw [iC_len]; omega), ← iC_set] at this
  exact this
theorem Ty.sq (h : Ty B w W M n1 n2 n3 g1 k1 g2 k2 g3 k3 sb) (i : Nat) (hi : i < n2) (x : ByteArray) (hx : x.size ≤ M) : Ty B w (W.setCell ⟨g2, i, none⟩ (.string x)) M n1 n2 n3 g1 k1 g2 k2 g3 k3 sb := by
  obtain ⟨l1, e1, r1⟩ := h.ri
  obtain ⟨l2, e2, s2, r2⟩ := h.rq
  obtain ⟨l3, e3, s3, r3⟩ := h.rf
  refine ⟨far_blk r2 h.bs (by decide), ⟨l1, e1, far_row r2 r1 (by decide)⟩, ⟨l2.set i x, by simpa using e2, fun d hd => (mem_set hd).elim (s2 d) (fun e => by rw [e]; exact hx), ?_⟩, ⟨l3, e3, s3, far_row r2 r3 (by decide)⟩, h.ch.set (Or.inr (Or.inl rfl))⟩
  have := (r2.stored i (.string x)).1
  rw [List.set_append_left _ _ (by rw [qC_len]; omega), ← qC_set] at this
  exact this
theorem Ty.sf (h : Ty B w W M n1 n2 n3 g1 k1 g2 k2 g3 k3 sb) (i : Nat) (hi : i < n3) (x : Int × ByteArray) (hx : x.2.size ≤ M) : Ty B w ((W.setCell ⟨g3, i * 2, none⟩ (.int .i64 x.1)).setCell ⟨g3, i * 2 + 1, none⟩ (.string x.2)) M n1 n2 n3 g1 k1 g2 k2 g3 k3 sb := by
  obtain ⟨l1, e1, r1⟩ := h.ri
  obtain ⟨l2, e2, s2, r2⟩ := h.rq
  obtain ⟨l3, e3, s3, r3⟩ := h.rf
  have r3b := (r3.stored (i * 2) (.int .i64 x.1)).1
  refine ⟨far_blk r3b (far_blk r3 h.bs (by decide)) (by decide), ⟨l1, e1, far_row r3b (far_row r3 r1 (by decide)) (by decide)⟩, ⟨l2, e2, s2, far_row r3b (far_row r3 r2 (by decide)) (by decide)⟩, ⟨l3.set i x, by simpa using e3, fun d hd => (mem_set hd).elim (s3 d) (fun e => by rw [e]; exact hx), ?_⟩, (h.ch.set (Or.inr (Or.inr rfl))).set (Or.inr (Or.inr rfl))⟩
  have := (r3b.stored (i * 2 + 1) (.string x.2)).1
  rw [List.set_append_left _ _ (by rw [fC_len]; omega), List.set_append_left _ _ (by rw [List.length_set, fC_len]; omega), ← fC_set] at this
  exact this
theorem set_same {α : Type} (l : List α) (i : Nat) (x : α) (h : l[i]? = some x) : l.set i x = l := by
  apply List.ext_getElem?
  intro j
  by_cases hj : i = j
  · subst hj; rw [List.getElem?_set_self (List.getElem?_eq_some_iff.1 h).1, h]
  · rw [List.getElem?_set_ne hj]
theorem Ty.sd (h : Ty B w W M n1 n2 n3 g1 k1 g2 k2 g3 k3 sb) (i : Nat) (hi : i < n3) (x : ByteArray) (hx : x.size ≤ M) : Ty B w (W.setCell ⟨g3, i * 2 + 1, none⟩ (.string x)) M n1 n2 n3 g1 k1 g2 k2 g3 k3 sb := by
  obtain ⟨l1, e1, r1⟩ := h.ri
  obtain ⟨l2, e2, s2, r2⟩ := h.rq
  obtain ⟨l3, e3, s3, r3⟩ := h.rf
  have hl : i < l3.length := by omega
  refine ⟨far_blk r3 h.bs (by decide), ⟨l1, e1, far_row r3 r1 (by decide)⟩, ⟨l2, e2, s2, far_row r3 r2 (by decide)⟩, ⟨l3.set i ((l3.getD i (0, ⟨#[]⟩)).1, x), by simpa using e3, fun d hd => (mem_set hd).elim (s3 d) (fun e => by rw [e]; exact hx), ?_⟩, h.ch.set (Or.inr (Or.inr rfl))⟩
  have := (r3.stored (i * 2 + 1) (.string x)).1
  rw [List.set_append_left _ _ (by rw [fC_len]; omega)] at this
  rw [fC_set, set_same (fC l3) (i * 2) _ (fC_get l3 i hl).1]
  exact this
theorem Ty.mono {M' : Nat} (h : Ty B w W M n1 n2 n3 g1 k1 g2 k2 g3 k3 sb) (hm : M ≤ M') : Ty B w W M' n1 n2 n3 g1 k1 g2 k2 g3 k3 sb := by
  obtain ⟨l2, e2, s2, r2⟩ := h.rq
  obtain ⟨l3, e3, s3, r3⟩ := h.rf
  exact ⟨h.bs, h.ri, ⟨l2, e2, fun d hd => Nat.le_trans (s2 d hd) hm, r2⟩, ⟨l3, e3, fun f hf => Nat.le_trans (s3 f hf) hm, r3⟩, h.ch⟩
/-- Rows of later blocks stay. -/
theorem own_far {g k : Nat} {u ki kq kf : Value} {s : Stt} (ho : Own w.heap.size W ki kq kf s) (hg : g < w.heap.size) : Own w.heap.size (W.setCell ⟨g, k, none⟩ u) ki kq kf s := by
  have f : ∀ {e' : TypeId} {size' n' : Nat} {v' : Value} {xs' : List Value}, W.ownsRow w.heap.size e' size' v' n' xs' → (W.setCell ⟨g, k, none⟩ u).ownsRow w.heap.size e' size' v' n' xs' := fun hr => hr.kept grown_set (.inr (fun e => by have := (row_tag hr g e).1; omega))
  exact ⟨f ho.i, f ho.q, f ho.f⟩
end
end Go.Proofs.Ytkaciochlemjiaa
namespace Go.Proofs.Ytkaciochlemjiaa
open Go.RowKit Go.Maps

set_option maxRecDepth 100000 in
set_option maxHeartbeats 16000000 in
theorem wider_any {B M n1 n2 n3 g1 k1 g2 k2 g3 k3 : Nat} {pn fl : Int} (w : World) (h : Ty B w (w.alloc (.cells #[.slice (some ⟨g1, 0, none⟩) n1 k1, .int .i64 pn, .slice (some ⟨g2, 0, none⟩) n2 k2, .slice (some ⟨g3, 0, none⟩) n3 k3, .int .u16 fl] 27)) M n1 n2 n3 g1 k1 g2 k2 g3 k3 #[.slice (some ⟨g1, 0, none⟩) n1 k1, .int .i64 pn, .slice (some ⟨g2, 0, none⟩) n2 k2, .slice (some ⟨g3, 0, none⟩) n3 k3, .int .u16 fl]) (hb1 : n1 ≤ 140737488355328) (hb2 : n2 ≤ 140737488355328) (hb3 : n3 ≤ 140737488355328) (hM : M ≤ 140737488355328) :
    Calls Try.prog 26 #[.agg #[.slice (some ⟨g1, 0, none⟩) n1 k1, .int .i64 pn, .slice (some ⟨g2, 0, none⟩) n2 k2, .slice (some ⟨g3, 0, none⟩) n3 k3, .int .u16 fl]] w fun e w' => (∃ v, e = .returned v) ∧ Ty B w w' (M + n2 + n3) n1 n2 n3 g1 k1 g2 k2 g3 k3 #[.slice (some ⟨g1, 0, none⟩) n1 k1, .int .i64 pn, .slice (some ⟨g2, 0, none⟩) n2 k2, .slice (some ⟨g3, 0, none⟩) n3 k3, .int .u16 fl] := by
  obtain ⟨W1, hW1⟩ : ∃ W1, W1 = w.alloc (.cells #[.slice (some ⟨g1, 0, none⟩) n1 k1, .int .i64 pn, .slice (some ⟨g2, 0, none⟩) n2 k2, .slice (some ⟨g3, 0, none⟩) n3 k3, .int .u16 fl] 27) := ⟨_, rfl⟩
  have HW : Hid (W1 = w.alloc (.cells #[.slice (some ⟨g1, 0, none⟩) n1 k1, .int .i64 pn, .slice (some ⟨g2, 0, none⟩) n2 k2, .slice (some ⟨g3, 0, none⟩) n3 k3, .int .u16 fl] 27)) := hW1
  have HN : Hid (n1 ≤ 140737488355328 ∧ n2 ≤ 140737488355328 ∧ n3 ≤ 140737488355328 ∧ M ≤ 140737488355328) := ⟨hb1, hb2, hb3, hM⟩
  rw [← hW1] at h
  have HT1 : Hid (Ty B w W1 M n1 n2 n3 g1 k1 g2 k2 g3 k3 #[.slice (some ⟨g1, 0, none⟩) n1 k1, .int .i64 pn, .slice (some ⟨g2, 0, none⟩) n2 k2, .slice (some ⟨g3, 0, none⟩) n3 k3, .int .u16 fl]) := h
  clear h hb1 hb2 hb3 hM hW1
  go_enter Try.func26, Try.ntmps26
  go_upto_region 1 with fail
  rw [← HW.out]
  go_wp2_with fail
  go_loopg [2] n1 (fun gm v wr => ∃ i : Nat, v = .int .i64 (i : Int) ∧ Hid (i ≤ n1 ∧ gm = n1 - i) ∧ Hid (Ty B w wr M n1 n2 n3 g1 k1 g2 k2 g3 k3 #[.slice (some ⟨g1, 0, none⟩) n1 k1, .int .i64 pn, .slice (some ⟨g2, 0, none⟩) n2 k2, .slice (some ⟨g3, 0, none⟩) n3 k3, .int .u16 fl]))
  case atStart => exact ⟨0, rfl, ⟨Nat.zero_le _, rfl⟩, HT1⟩
  case round =>
    clear HT1
    obtain ⟨i, rfl, HI, HY⟩ := hrel
    obtain ⟨p0, p1, p2, p3, p4⟩ := box_cells HY.out.bs
    by_cases hi : i < n1
    · have e1 : decide ((i : Int) < (n1 : Int)) = true := by rw [decide_eq_true_eq]; omega
      have e2 : decide (i < n1) = true := by rw [decide_eq_true_eq]; omega
      have e5 : (i : Int) < (n1 : Int) := by omega
      have HIL : Hid (i < n1) := hi
      have hwr := w64n i (by have := HN.out; omega)
      clear hi
      go_upto_region 4 with fail
      obtain ⟨WD, hWD⟩ : ∃ WD, wr.drew = WD := ⟨_, rfl⟩
      have HYD : Hid (Ty B w WD M n1 n2 n3 g1 k1 g2 k2 g3 k3 #[.slice (some ⟨g1, 0, none⟩) n1 k1, .int .i64 pn, .slice (some ⟨g2, 0, none⟩) n2 k2, .slice (some ⟨g3, 0, none⟩) n3 k3, .int .u16 fl]) := by rw [← hWD]; exact HY.out.up (Below.drew (Below.refl _ _))
      have ho := rcell HYD.out.bs 0 _ rfl
      obtain ⟨l, hl, hr⟩ := HYD.out.ri
      have HL : Hid (l.length = n1) := hl
      have c0 := row_at hr (i) _ (by rw [List.getElem?_append_left (by rw [iC_len]; have := HIL.out; omega)]; exact iC_get l i (by have := HIL.out; omega))
      have fz : WD.frozen? ⟨g1, i, none⟩ = false := by obtain ⟨_, cur, hh⟩ := row_blk hr; exact Lib.frozen_of_heap hh _
      obtain ⟨x, hx⟩ : ∃ x, l.getD i 0 = x := ⟨_, rfl⟩
      rw [hx] at c0
      clear hx hr hl p0 p1 p2 p3 p4
      refine wp_region_noPanic ?_
      refine wp_region_held_drew (S := fun W => W.cell? ⟨w.heap.size, 0, none⟩ = some (.slice (some ⟨g1, 0, none⟩) n1 k1)) (by kernel_rfl) (by rw [hWD]; exact ho) (fun hHeld => ?_)
      rw [hWD] at hHeld ⊢
      clear hWD ho
      refine wpAnyH_take (i := 0) (oi := { dst := _, op := _, type := _, pos := _, after := _, guard := _ }) (v := ?_) rfl (by kernel_rfl) (by kernel_rfl) (by kernel_rfl) (fun _ _ _ h => h) (Or.inl ⟨by rfl, ?_⟩) (by assumption) ?_
      rotate_left
      · intro W hSw
        (try obtain ⟨h0, h1, h2⟩ := hSw)
        (try dsimp only at hSw)
        go_simp
        (try with_reducible rfl)
      try simp only [Act.put, List.setIfInBounds_toArray, List.set_cons_zero, List.set_cons_succ]
      refine wpAnyH_take (i := 1) (oi := { dst := _, op := _, type := _, pos := _, after := _, guard := _ }) (v := ?_) rfl (by kernel_rfl) (by kernel_rfl) (by kernel_rfl) (fun _ _ _ h => h) (Or.inl ⟨by rfl, ?_⟩) (by assumption) ?_
      rotate_left
      · intro W hSw
        (try obtain ⟨h0, h1, h2⟩ := hSw)
        (try dsimp only at hSw)
        go_simp
        (try with_reducible rfl)
      try simp only [Act.put, List.setIfInBounds_toArray, List.set_cons_zero, List.set_cons_succ]
      refine wpAnyH_take (i := 2) (oi := { dst := _, op := _, type := _, pos := _, after := _, guard := _ }) (v := ?_) rfl (by kernel_rfl) (by kernel_rfl) (by kernel_rfl) (fun _ _ _ h => h) (Or.inl ⟨by rfl, ?_⟩) (by assumption) ?_
      rotate_left
      · intro W hSw
        (try obtain ⟨h0, h1, h2⟩ := hSw)
        (try dsimp only at hSw)
        go_simp
        (try with_reducible rfl)
      try simp only [Act.put, List.setIfInBounds_toArray, List.set_cons_zero, List.set_cons_succ]
      refine wpAnyH_take (i := 3) (oi := { dst := _, op := _, type := _, pos := _, after := _, guard := _ }) (v := ?_) rfl (by kernel_rfl) (by kernel_rfl) (by kernel_rfl) (fun _ _ _ h => h) (Or.inl ⟨by rfl, ?_⟩) (by assumption) ?_
      rotate_left
      · intro W hSw
        (try obtain ⟨h0, h1, h2⟩ := hSw)
        (try dsimp only at hSw)
        go_simp
        (try with_reducible rfl)
      try simp only [Act.put, List.setIfInBounds_toArray, List.set_cons_zero, List.set_cons_succ]
      refine wpAnyH_take (i := 4) (oi := { dst := _, op := _, type := _, pos := _, after := _, guard := _ }) (v := ?_) rfl (by kernel_rfl) (by kernel_rfl) (by kernel_rfl) (fun _ _ _ h => h) (Or.inl ⟨by rfl, ?_⟩) (by assumption) ?_
      rotate_left
      · intro W hSw
        (try obtain ⟨h0, h1, h2⟩ := hSw)
        (try dsimp only at hSw)
        go_simp
        (try with_reducible rfl)
      try simp only [Act.put, List.setIfInBounds_toArray, List.set_cons_zero, List.set_cons_succ]
      refine wpAnyH_take (i := 5) (oi := { dst := _, op := _, type := _, pos := _, after := _, guard := _ }) (v := ?_) rfl (by kernel_rfl) (by kernel_rfl) (by kernel_rfl) (fun _ _ _ h => h) (Or.inl ⟨by rfl, ?_⟩) (by assumption) ?_
      rotate_left
      · intro W hSw
        (try obtain ⟨h0, h1, h2⟩ := hSw)
        (try dsimp only at hSw)
        go_simp
        (try with_reducible rfl)
      try simp only [Act.put, List.setIfInBounds_toArray, List.set_cons_zero, List.set_cons_succ]
      refine wpAnyH_take (i := 6) (oi := { dst := _, op := _, type := _, pos := _, after := _, guard := _ }) (v := ?_) rfl (by kernel_rfl) (by kernel_rfl) (by kernel_rfl) (fun _ _ _ h => h) (Or.inl ⟨by rfl, ?_⟩) (by assumption) ?_
      rotate_left
      · intro W hSw
        (try obtain ⟨h0, h1, h2⟩ := hSw)
        (try dsimp only at hSw)
        go_simp
        (try with_reducible rfl)
      try simp only [Act.put, List.setIfInBounds_toArray, List.set_cons_zero, List.set_cons_succ]
      refine wpAnyH_take (i := 9) (oi := { dst := _, op := _, type := _, pos := _, after := _, guard := _ }) (v := ?_) rfl (by kernel_rfl) (by kernel_rfl) (by kernel_rfl) (fun _ _ _ h => h) (Or.inl ⟨by rfl, ?_⟩) (by assumption) ?_
      rotate_left
      · intro W hSw
        (try obtain ⟨h0, h1, h2⟩ := hSw)
        (try dsimp only at hSw)
        go_simp
        (try with_reducible rfl)
      try simp only [Act.put, List.setIfInBounds_toArray, List.set_cons_zero, List.set_cons_succ]
      refine wpAnyH_ready (rs := [7]) (by kernel_rfl) (by simp) ?_
      refine AllReadyH.cons (o := { dst := _, op := _, type := _, pos := _, after := _, guard := _ }) rfl (fun K hK => ?_) AllReadyH.nil
      go_simp
      refine hK.out _ _ ?_ (fun hHeld => ?_)
      · exact hHeld
      clear hK K
      try simp only [Act.put, List.setIfInBounds_toArray, List.set_cons_zero, List.set_cons_succ]
      refine wpAnyH_take (i := 8) (oi := { dst := _, op := _, type := _, pos := _, after := _, guard := _ }) (v := ?_) rfl (by kernel_rfl) (by kernel_rfl) (by kernel_rfl) (fun _ _ _ h => h) (Or.inl ⟨by rfl, ?_⟩) (by assumption) ?_
      rotate_left
      · intro W hSw
        (try obtain ⟨h0, h1, h2⟩ := hSw)
        (try dsimp only at hSw)
        go_simp
        (try with_reducible rfl)
      try simp only [Act.put, List.setIfInBounds_toArray, List.set_cons_zero, List.set_cons_succ]
      refine wpAnyH_take (i := 10) (oi := { dst := _, op := _, type := _, pos := _, after := _, guard := _ }) (v := ?_) rfl (by kernel_rfl) (by kernel_rfl) (by kernel_rfl) (fun _ _ _ h => h) (Or.inl ⟨by rfl, ?_⟩) (by assumption) ?_
      rotate_left
      · intro W hSw
        (try obtain ⟨h0, h1, h2⟩ := hSw)
        (try dsimp only at hSw)
        go_simp
        (try with_reducible rfl)
      try simp only [Act.put, List.setIfInBounds_toArray, List.set_cons_zero, List.set_cons_succ]
      refine wpAnyH_take (i := 11) (oi := { dst := _, op := _, type := _, pos := _, after := _, guard := _ }) (v := ?_) rfl (by kernel_rfl) (by kernel_rfl) (by kernel_rfl) (fun _ _ _ h => h) (Or.inl ⟨by rfl, ?_⟩) (by assumption) ?_
      rotate_left
      · intro W hSw
        (try obtain ⟨h0, h1, h2⟩ := hSw)
        (try dsimp only at hSw)
        go_simp
        (try with_reducible rfl)
      try simp only [Act.put, List.setIfInBounds_toArray, List.set_cons_zero, List.set_cons_succ]
      refine wpAnyH_ready (rs := [12]) (by kernel_rfl) (by simp) ?_
      refine AllReadyH.cons (o := { dst := _, op := _, type := _, pos := _, after := _, guard := _ }) rfl (fun K hK => ?_) AllReadyH.nil
      go_simp
      refine hK.out _ _ ?_ (fun hHeld => ?_)
      · exact rcell (HYD.out.si i HIL.out _).bs 0 _ rfl
      clear hK K
      try simp only [Act.put, List.setIfInBounds_toArray, List.set_cons_zero, List.set_cons_succ]
      refine wpAnyH_done (by kernel_rfl) ?_ _
      refine NoPanic.normal ?_
      clear hHeld
      go_wp2_with fail
      go_roundg (n1 - (i + 1))
      case measure => have := HI.out; have := HIL.out; omega
      case rel => exact ⟨i + 1, by first | rfl | (rw [show (i : Int) + 1 = ((i + 1 : Nat) : Int) by omega]), ⟨HIL.out, rfl⟩, HYD.out.si i HIL.out _⟩
    · have e1 : decide ((i : Int) < (n1 : Int)) = false := by rw [decide_eq_false_iff_not]; omega
      have e2 : decide (i < n1) = false := by rw [decide_eq_false_iff_not]; omega
      have hie : i = n1 := by have := HI.out; omega
      have HYE : Hid (Ty B w wr M n1 n2 n3 g1 k1 g2 k2 g3 k3 #[.slice (some ⟨g1, 0, none⟩) n1 k1, .int .i64 pn, .slice (some ⟨g2, 0, none⟩) n2 k2, .slice (some ⟨g3, 0, none⟩) n3 k3, .int .u16 fl]) := by first | exact HY | (rw [hie] at HY; exact HY)
      clear hi HI HY hie
      have HY : Hid _ := HYE.out
      clear HYE
      go_wp2_with fail
      clear p0 p1 p2 p3 p4 e1 e2
      go_loopg [3] n2 (fun gm v wr => ∃ i : Nat, v = .int .i64 (i : Int) ∧ Hid (i ≤ n2 ∧ gm = n2 - i) ∧ Hid (Ty B w wr (M + i) n1 n2 n3 g1 k1 g2 k2 g3 k3 #[.slice (some ⟨g1, 0, none⟩) n1 k1, .int .i64 pn, .slice (some ⟨g2, 0, none⟩) n2 k2, .slice (some ⟨g3, 0, none⟩) n3 k3, .int .u16 fl]))
      case atStart => exact ⟨0, rfl, ⟨Nat.zero_le _, rfl⟩, HY⟩
      case round =>
        clear HY
        obtain ⟨i, rfl, HI, HY⟩ := hrel
        obtain ⟨p0, p1, p2, p3, p4⟩ := box_cells HY.out.bs
        by_cases hi : i < n2
        · have e1 : decide ((i : Int) < (n2 : Int)) = true := by rw [decide_eq_true_eq]; omega
          have e2 : decide (i < n2) = true := by rw [decide_eq_true_eq]; omega
          have e5 : (i : Int) < (n2 : Int) := by omega
          have HIL : Hid (i < n2) := hi
          have hwr := w64n i (by have := HN.out; omega)
          clear hi
          go_upto_region 8 with fail
          obtain ⟨WD, hWD⟩ : ∃ WD, wr.drew = WD := ⟨_, rfl⟩
          have HYD : Hid (Ty B w WD (M + i) n1 n2 n3 g1 k1 g2 k2 g3 k3 #[.slice (some ⟨g1, 0, none⟩) n1 k1, .int .i64 pn, .slice (some ⟨g2, 0, none⟩) n2 k2, .slice (some ⟨g3, 0, none⟩) n3 k3, .int .u16 fl]) := by rw [← hWD]; exact HY.out.up (Below.drew (Below.refl _ _))
          have ho := rcell HYD.out.bs 2 _ rfl
          obtain ⟨l, hl, hs, hr⟩ := HYD.out.rq
          have HL : Hid (l.length = n2) := hl
          have c0 := row_at hr (i) _ (by rw [List.getElem?_append_left (by rw [qC_len]; have := HIL.out; omega)]; exact qC_get l i (by have := HIL.out; omega))
          have fz : WD.frozen? ⟨g2, i, none⟩ = false := by obtain ⟨_, cur, hh⟩ := row_blk hr; exact Lib.frozen_of_heap hh _
          obtain ⟨x, hx⟩ : ∃ x, l.getD i ⟨#[]⟩ = x := ⟨_, rfl⟩
          rw [hx] at c0
          have HXS : Hid (x.size ≤ M + i) := by rw [← hx]; exact hs _ (mem_getD l ⟨#[]⟩ i (by have := HIL.out; omega))
          have zs : ¬ 9223372036854775807 < 1 + x.size := by have := HXS.out; have := HN.out; have := HIL.out; omega
          clear hx hr hl p0 p1 p2 p3 p4
          refine wp_region_noPanic ?_
          refine wp_region_held_drew (S := fun W => W.cell? ⟨w.heap.size, 2, none⟩ = some (.slice (some ⟨g2, 0, none⟩) n2 k2)) (by kernel_rfl) (by rw [hWD]; exact ho) (fun hHeld => ?_)
          rw [hWD] at hHeld ⊢
          clear hWD ho
          refine wpAnyH_take (i := 0) (oi := { dst := _, op := _, type := _, pos := _, after := _, guard := _ }) (v := ?_) rfl (by kernel_rfl) (by kernel_rfl) (by kernel_rfl) (fun _ _ _ h => h) (Or.inl ⟨by rfl, ?_⟩) (by assumption) ?_
          rotate_left
          · intro W hSw
            (try obtain ⟨h0, h1, h2⟩ := hSw)
            (try dsimp only at hSw)
            go_simp
            (try with_reducible rfl)
          try simp only [Act.put, List.setIfInBounds_toArray, List.set_cons_zero, List.set_cons_succ]
          refine wpAnyH_take (i := 1) (oi := { dst := _, op := _, type := _, pos := _, after := _, guard := _ }) (v := ?_) rfl (by kernel_rfl) (by kernel_rfl) (by kernel_rfl) (fun _ _ _ h => h) (Or.inl ⟨by rfl, ?_⟩) (by assumption) ?_
          rotate_left
          · intro W hSw
            (try obtain ⟨h0, h1, h2⟩ := hSw)
            (try dsimp only at hSw)
            go_simp
            (try with_reducible rfl)
          try simp only [Act.put, List.setIfInBounds_toArray, List.set_cons_zero, List.set_cons_succ]
          refine wpAnyH_take (i := 2) (oi := { dst := _, op := _, type := _, pos := _, after := _, guard := _ }) (v := ?_) rfl (by kernel_rfl) (by kernel_rfl) (by kernel_rfl) (fun _ _ _ h => h) (Or.inl ⟨by rfl, ?_⟩) (by assumption) ?_
          rotate_left
          · intro W hSw
            (try obtain ⟨h0, h1, h2⟩ := hSw)
            (try dsimp only at hSw)
            go_simp
            (try with_reducible rfl)
          try simp only [Act.put, List.setIfInBounds_toArray, List.set_cons_zero, List.set_cons_succ]
          refine wpAnyH_take (i := 3) (oi := { dst := _, op := _, type := _, pos := _, after := _, guard := _ }) (v := ?_) rfl (by kernel_rfl) (by kernel_rfl) (by kernel_rfl) (fun _ _ _ h => h) (Or.inl ⟨by rfl, ?_⟩) (by assumption) ?_
          rotate_left
          · intro W hSw
            (try obtain ⟨h0, h1, h2⟩ := hSw)
            (try dsimp only at hSw)
            go_simp
            (try with_reducible rfl)
          try simp only [Act.put, List.setIfInBounds_toArray, List.set_cons_zero, List.set_cons_succ]
          refine wpAnyH_take (i := 4) (oi := { dst := _, op := _, type := _, pos := _, after := _, guard := _ }) (v := ?_) rfl (by kernel_rfl) (by kernel_rfl) (by kernel_rfl) (fun _ _ _ h => h) (Or.inl ⟨by rfl, ?_⟩) (by assumption) ?_
          rotate_left
          · intro W hSw
            (try obtain ⟨h0, h1, h2⟩ := hSw)
            (try dsimp only at hSw)
            go_simp
            (try with_reducible rfl)
          try simp only [Act.put, List.setIfInBounds_toArray, List.set_cons_zero, List.set_cons_succ]
          refine wpAnyH_take (i := 5) (oi := { dst := _, op := _, type := _, pos := _, after := _, guard := _ }) (v := ?_) rfl (by kernel_rfl) (by kernel_rfl) (by kernel_rfl) (fun _ _ _ h => h) (Or.inl ⟨by rfl, ?_⟩) (by assumption) ?_
          rotate_left
          · intro W hSw
            (try obtain ⟨h0, h1, h2⟩ := hSw)
            (try dsimp only at hSw)
            go_simp
            (try with_reducible rfl)
          try simp only [Act.put, List.setIfInBounds_toArray, List.set_cons_zero, List.set_cons_succ]
          refine wpAnyH_take (i := 6) (oi := { dst := _, op := _, type := _, pos := _, after := _, guard := _ }) (v := ?_) rfl (by kernel_rfl) (by kernel_rfl) (by kernel_rfl) (fun _ _ _ h => h) (Or.inl ⟨by rfl, ?_⟩) (by assumption) ?_
          rotate_left
          · intro W hSw
            (try obtain ⟨h0, h1, h2⟩ := hSw)
            (try dsimp only at hSw)
            go_simp
            (try with_reducible rfl)
          try simp only [Act.put, List.setIfInBounds_toArray, List.set_cons_zero, List.set_cons_succ]
          refine wpAnyH_ready (rs := [7]) (by kernel_rfl) (by simp) ?_
          refine AllReadyH.cons (o := { dst := _, op := _, type := _, pos := _, after := _, guard := _ }) rfl (fun K hK => ?_) AllReadyH.nil
          go_simp
          refine hK.out _ _ ?_ (fun hHeld => ?_)
          · exact hHeld
          clear hK K
          try simp only [Act.put, List.setIfInBounds_toArray, List.set_cons_zero, List.set_cons_succ]
          refine wpAnyH_take (i := 8) (oi := { dst := _, op := _, type := _, pos := _, after := _, guard := _ }) (v := ?_) rfl (by kernel_rfl) (by kernel_rfl) (by kernel_rfl) (fun _ _ _ h => h) (Or.inl ⟨by rfl, ?_⟩) (by assumption) ?_
          rotate_left
          · intro W hSw
            (try obtain ⟨h0, h1, h2⟩ := hSw)
            (try dsimp only at hSw)
            go_simp
            (try with_reducible rfl)
          try simp only [Act.put, List.setIfInBounds_toArray, List.set_cons_zero, List.set_cons_succ]
          refine wpAnyH_take (i := 9) (oi := { dst := _, op := _, type := _, pos := _, after := _, guard := _ }) (v := ?_) rfl (by kernel_rfl) (by kernel_rfl) (by kernel_rfl) (fun _ _ _ h => h) (Or.inl ⟨by rfl, ?_⟩) (by assumption) ?_
          rotate_left
          · intro W hSw
            (try obtain ⟨h0, h1, h2⟩ := hSw)
            (try dsimp only at hSw)
            go_simp
            (try with_reducible rfl)
          try simp only [Act.put, List.setIfInBounds_toArray, List.set_cons_zero, List.set_cons_succ]
          refine wpAnyH_ready (rs := [10]) (by kernel_rfl) (by simp) ?_
          refine AllReadyH.cons (o := { dst := _, op := _, type := _, pos := _, after := _, guard := _ }) rfl (fun K hK => ?_) AllReadyH.nil
          go_simp
          refine hK.out _ _ ?_ (fun hHeld => ?_)
          · exact rcell ((HYD.out.mono (by omega : M + i ≤ M + (i + 1))).sq i HIL.out _ (by rw [ba_siz]; have := HXS.out; show 1 + x.size ≤ _; omega)).bs 2 _ rfl
          clear hK K
          try simp only [Act.put, List.setIfInBounds_toArray, List.set_cons_zero, List.set_cons_succ]
          refine wpAnyH_done (by kernel_rfl) ?_ _
          refine NoPanic.normal ?_
          clear hHeld
          go_wp2_with fail
          go_roundg (n2 - (i + 1))
          case measure => have := HI.out; have := HIL.out; omega
          case rel => exact ⟨i + 1, by first | rfl | (rw [show (i : Int) + 1 = ((i + 1 : Nat) : Int) by omega]), ⟨HIL.out, rfl⟩, (HYD.out.mono (by omega : M + i ≤ M + (i + 1))).sq i HIL.out _ (by rw [ba_siz]; have := HXS.out; show 1 + x.size ≤ _; omega)⟩
        · have e1 : decide ((i : Int) < (n2 : Int)) = false := by rw [decide_eq_false_iff_not]; omega
          have e2 : decide (i < n2) = false := by rw [decide_eq_false_iff_not]; omega
          have hie : i = n2 := by have := HI.out; omega
          have HYE : Hid (Ty B w wr (M + n2) n1 n2 n3 g1 k1 g2 k2 g3 k3 #[.slice (some ⟨g1, 0, none⟩) n1 k1, .int .i64 pn, .slice (some ⟨g2, 0, none⟩) n2 k2, .slice (some ⟨g3, 0, none⟩) n3 k3, .int .u16 fl]) := by first | exact HY | (rw [hie] at HY; exact HY)
          clear hi HI HY hie
          have HY : Hid _ := HYE.out
          clear HYE
          go_wp2_with fail
          clear p0 p1 p2 p3 p4 e1 e2
          go_loopg [4] n3 (fun gm v wr => ∃ i : Nat, v = .int .i64 (i : Int) ∧ Hid (i ≤ n3 ∧ gm = n3 - i) ∧ Hid (Ty B w wr (M + n2 + i) n1 n2 n3 g1 k1 g2 k2 g3 k3 #[.slice (some ⟨g1, 0, none⟩) n1 k1, .int .i64 pn, .slice (some ⟨g2, 0, none⟩) n2 k2, .slice (some ⟨g3, 0, none⟩) n3 k3, .int .u16 fl]))
          case atStart => exact ⟨0, rfl, ⟨Nat.zero_le _, rfl⟩, HY⟩
          case round =>
            clear HY
            obtain ⟨i, rfl, HI, HY⟩ := hrel
            obtain ⟨p0, p1, p2, p3, p4⟩ := box_cells HY.out.bs
            by_cases hi : i < n3
            · have e1 : decide ((i : Int) < (n3 : Int)) = true := by rw [decide_eq_true_eq]; omega
              have e2 : decide (i < n3) = true := by rw [decide_eq_true_eq]; omega
              have e5 : (i : Int) < (n3 : Int) := by omega
              have HIL : Hid (i < n3) := hi
              have hwr := w64n i (by have := HN.out; omega)
              clear hi
              go_upto_region 12 with fail
              obtain ⟨WD, hWD⟩ : ∃ WD, wr.drew = WD := ⟨_, rfl⟩
              have HYD : Hid (Ty B w WD (M + n2 + i) n1 n2 n3 g1 k1 g2 k2 g3 k3 #[.slice (some ⟨g1, 0, none⟩) n1 k1, .int .i64 pn, .slice (some ⟨g2, 0, none⟩) n2 k2, .slice (some ⟨g3, 0, none⟩) n3 k3, .int .u16 fl]) := by rw [← hWD]; exact HY.out.up (Below.drew (Below.refl _ _))
              have ho := rcell HYD.out.bs 3 _ rfl
              obtain ⟨l, hl, hs, hr⟩ := HYD.out.rf
              have HL : Hid (l.length = n3) := hl
              have c0 := row_at hr (i * 2 + 1) _ (by rw [List.getElem?_append_left (by rw [fC_len]; have := HIL.out; omega)]; exact (fC_get l i (by have := HIL.out; omega)).2)
              have fz : WD.frozen? ⟨g3, i * 2 + 1, none⟩ = false := by obtain ⟨_, cur, hh⟩ := row_blk hr; exact Lib.frozen_of_heap hh _
              obtain ⟨x, hx⟩ : ∃ x, (l.getD i (0, ⟨#[]⟩)).2 = x := ⟨_, rfl⟩
              rw [hx] at c0
              have HXS : Hid (x.size ≤ M + n2 + i) := by rw [← hx]; exact hs _ (mem_getD l (0, ⟨#[]⟩) i (by have := HIL.out; omega))
              have zs : ¬ 9223372036854775807 < 1 + x.size := by have := HXS.out; have := HN.out; have := HIL.out; omega
              clear hx hr hl p0 p1 p2 p3 p4
              refine wp_region_noPanic ?_
              refine wp_region_held_drew (S := fun W => W.cell? ⟨w.heap.size, 3, none⟩ = some (.slice (some ⟨g3, 0, none⟩) n3 k3)) (by kernel_rfl) (by rw [hWD]; exact ho) (fun hHeld => ?_)
              rw [hWD] at hHeld ⊢
              clear hWD ho
              refine wpAnyH_take (i := 0) (oi := { dst := _, op := _, type := _, pos := _, after := _, guard := _ }) (v := ?_) rfl (by kernel_rfl) (by kernel_rfl) (by kernel_rfl) (fun _ _ _ h => h) (Or.inl ⟨by rfl, ?_⟩) (by assumption) ?_
              rotate_left
              · intro W hSw
                (try obtain ⟨h0, h1, h2⟩ := hSw)
                (try dsimp only at hSw)
                go_simp
                (try with_reducible rfl)
              try simp only [Act.put, List.setIfInBounds_toArray, List.set_cons_zero, List.set_cons_succ]
              refine wpAnyH_take (i := 1) (oi := { dst := _, op := _, type := _, pos := _, after := _, guard := _ }) (v := ?_) rfl (by kernel_rfl) (by kernel_rfl) (by kernel_rfl) (fun _ _ _ h => h) (Or.inl ⟨by rfl, ?_⟩) (by assumption) ?_
              rotate_left
              · intro W hSw
                (try obtain ⟨h0, h1, h2⟩ := hSw)
                (try dsimp only at hSw)
                go_simp
                (try with_reducible rfl)
              try simp only [Act.put, List.setIfInBounds_toArray, List.set_cons_zero, List.set_cons_succ]
              refine wpAnyH_take (i := 2) (oi := { dst := _, op := _, type := _, pos := _, after := _, guard := _ }) (v := ?_) rfl (by kernel_rfl) (by kernel_rfl) (by kernel_rfl) (fun _ _ _ h => h) (Or.inl ⟨by rfl, ?_⟩) (by assumption) ?_
              rotate_left
              · intro W hSw
                (try obtain ⟨h0, h1, h2⟩ := hSw)
                (try dsimp only at hSw)
                go_simp
                (try with_reducible rfl)
              try simp only [Act.put, List.setIfInBounds_toArray, List.set_cons_zero, List.set_cons_succ]
              refine wpAnyH_take (i := 3) (oi := { dst := _, op := _, type := _, pos := _, after := _, guard := _ }) (v := ?_) rfl (by kernel_rfl) (by kernel_rfl) (by kernel_rfl) (fun _ _ _ h => h) (Or.inl ⟨by rfl, ?_⟩) (by assumption) ?_
              rotate_left
              · intro W hSw
                (try obtain ⟨h0, h1, h2⟩ := hSw)
                (try dsimp only at hSw)
                go_simp
                (try with_reducible rfl)
              try simp only [Act.put, List.setIfInBounds_toArray, List.set_cons_zero, List.set_cons_succ]
              refine wpAnyH_take (i := 4) (oi := { dst := _, op := _, type := _, pos := _, after := _, guard := _ }) (v := ?_) rfl (by kernel_rfl) (by kernel_rfl) (by kernel_rfl) (fun _ _ _ h => h) (Or.inl ⟨by rfl, ?_⟩) (by assumption) ?_
              rotate_left
              · intro W hSw
                (try obtain ⟨h0, h1, h2⟩ := hSw)
                (try dsimp only at hSw)
                go_simp
                (try with_reducible rfl)
              try simp only [Act.put, List.setIfInBounds_toArray, List.set_cons_zero, List.set_cons_succ]
              refine wpAnyH_take (i := 5) (oi := { dst := _, op := _, type := _, pos := _, after := _, guard := _ }) (v := ?_) rfl (by kernel_rfl) (by kernel_rfl) (by kernel_rfl) (fun _ _ _ h => h) (Or.inl ⟨by rfl, ?_⟩) (by assumption) ?_
              rotate_left
              · intro W hSw
                (try obtain ⟨h0, h1, h2⟩ := hSw)
                (try dsimp only at hSw)
                go_simp
                (try with_reducible rfl)
              try simp only [Act.put, List.setIfInBounds_toArray, List.set_cons_zero, List.set_cons_succ]
              refine wpAnyH_take (i := 6) (oi := { dst := _, op := _, type := _, pos := _, after := _, guard := _ }) (v := ?_) rfl (by kernel_rfl) (by kernel_rfl) (by kernel_rfl) (fun _ _ _ h => h) (Or.inl ⟨by rfl, ?_⟩) (by assumption) ?_
              rotate_left
              · intro W hSw
                (try obtain ⟨h0, h1, h2⟩ := hSw)
                (try dsimp only at hSw)
                go_simp
                (try with_reducible rfl)
              try simp only [Act.put, List.setIfInBounds_toArray, List.set_cons_zero, List.set_cons_succ]
              refine wpAnyH_take (i := 7) (oi := { dst := _, op := _, type := _, pos := _, after := _, guard := _ }) (v := ?_) rfl (by kernel_rfl) (by kernel_rfl) (by kernel_rfl) (fun _ _ _ h => h) (Or.inl ⟨by rfl, ?_⟩) (by assumption) ?_
              rotate_left
              · intro W hSw
                (try obtain ⟨h0, h1, h2⟩ := hSw)
                (try dsimp only at hSw)
                go_simp
                (try with_reducible rfl)
              try simp only [Act.put, List.setIfInBounds_toArray, List.set_cons_zero, List.set_cons_succ]
              refine wpAnyH_ready (rs := [8]) (by kernel_rfl) (by simp) ?_
              refine AllReadyH.cons (o := { dst := _, op := _, type := _, pos := _, after := _, guard := _ }) rfl (fun K hK => ?_) AllReadyH.nil
              go_simp
              refine hK.out _ _ ?_ (fun hHeld => ?_)
              · exact hHeld
              clear hK K
              try simp only [Act.put, List.setIfInBounds_toArray, List.set_cons_zero, List.set_cons_succ]
              refine wpAnyH_take (i := 9) (oi := { dst := _, op := _, type := _, pos := _, after := _, guard := _ }) (v := ?_) rfl (by kernel_rfl) (by kernel_rfl) (by kernel_rfl) (fun _ _ _ h => h) (Or.inl ⟨by rfl, ?_⟩) (by assumption) ?_
              rotate_left
              · intro W hSw
                (try obtain ⟨h0, h1, h2⟩ := hSw)
                (try dsimp only at hSw)
                go_simp
                (try with_reducible rfl)
              try simp only [Act.put, List.setIfInBounds_toArray, List.set_cons_zero, List.set_cons_succ]
              refine wpAnyH_take (i := 10) (oi := { dst := _, op := _, type := _, pos := _, after := _, guard := _ }) (v := ?_) rfl (by kernel_rfl) (by kernel_rfl) (by kernel_rfl) (fun _ _ _ h => h) (Or.inl ⟨by rfl, ?_⟩) (by assumption) ?_
              rotate_left
              · intro W hSw
                (try obtain ⟨h0, h1, h2⟩ := hSw)
                (try dsimp only at hSw)
                go_simp
                (try with_reducible rfl)
              try simp only [Act.put, List.setIfInBounds_toArray, List.set_cons_zero, List.set_cons_succ]
              refine wpAnyH_take (i := 11) (oi := { dst := _, op := _, type := _, pos := _, after := _, guard := _ }) (v := ?_) rfl (by kernel_rfl) (by kernel_rfl) (by kernel_rfl) (fun _ _ _ h => h) (Or.inl ⟨by rfl, ?_⟩) (by assumption) ?_
              rotate_left
              · intro W hSw
                (try obtain ⟨h0, h1, h2⟩ := hSw)
                (try dsimp only at hSw)
                go_simp
                (try with_reducible rfl)
              try simp only [Act.put, List.setIfInBounds_toArray, List.set_cons_zero, List.set_cons_succ]
              refine wpAnyH_ready (rs := [12]) (by kernel_rfl) (by simp) ?_
              refine AllReadyH.cons (o := { dst := _, op := _, type := _, pos := _, after := _, guard := _ }) rfl (fun K hK => ?_) AllReadyH.nil
              go_simp
              refine hK.out _ _ ?_ (fun hHeld => ?_)
              · exact rcell ((HYD.out.mono (by omega : M + n2 + i ≤ M + n2 + (i + 1))).sd i HIL.out _ (by rw [ba_siz]; have := HXS.out; show 1 + x.size ≤ _; omega)).bs 3 _ rfl
              clear hK K
              try simp only [Act.put, List.setIfInBounds_toArray, List.set_cons_zero, List.set_cons_succ]
              refine wpAnyH_done (by kernel_rfl) ?_ _
              refine NoPanic.normal ?_
              clear hHeld
              go_wp2_with fail
              go_roundg (n3 - (i + 1))
              case measure => have := HI.out; have := HIL.out; omega
              case rel => exact ⟨i + 1, by first | rfl | (rw [show (i : Int) + 1 = ((i + 1 : Nat) : Int) by omega]), ⟨HIL.out, rfl⟩, (HYD.out.mono (by omega : M + n2 + i ≤ M + n2 + (i + 1))).sd i HIL.out _ (by rw [ba_siz]; have := HXS.out; show 1 + x.size ≤ _; omega)⟩
            · have e1 : decide ((i : Int) < (n3 : Int)) = false := by rw [decide_eq_false_iff_not]; omega
              have e2 : decide (i < n3) = false := by rw [decide_eq_false_iff_not]; omega
              have hie : i = n3 := by have := HI.out; omega
              have HYE : Hid (Ty B w wr (M + n2 + n3) n1 n2 n3 g1 k1 g2 k2 g3 k3 #[.slice (some ⟨g1, 0, none⟩) n1 k1, .int .i64 pn, .slice (some ⟨g2, 0, none⟩) n2 k2, .slice (some ⟨g3, 0, none⟩) n3 k3, .int .u16 fl]) := by first | exact HY | (rw [hie] at HY; exact HY)
              clear hi HI HY hie
              have HY : Hid _ := HYE.out
              clear HYE
              go_wp2_with fail
              (try simp only [Exit.inBlock, Exit.then])
              refine bodyPost_end (results_none rfl _ _ _) rfl ?_
              exact ⟨⟨_, rfl⟩, HY.out⟩

end Go.Proofs.Ytkaciochlemjiaa
namespace Go.Proofs.Ytkaciochlemjiaa
open Go.RowKit Go.Maps

/-- The state that stands there. -/
theorem Ty.stt {B : Nat} {w W : World} {M n1 n2 n3 g1 k1 g2 k2 g3 k3 : Nat} {sb : Array Value} (h : Ty B w W M n1 n2 n3 g1 k1 g2 k2 g3 k3 sb) (pn : Int) (fl : Nat) :
    ∃ s : Stt, s.ind.length = n1 ∧ s.que.length = n2 ∧ s.frm.length = n3 ∧ s.pen = pn ∧ s.flg = fl ∧ (∀ d ∈ s.que, d.size ≤ M) ∧ (∀ f ∈ s.frm, f.2.size ≤ M) ∧ Rmy B W (.slice (some ⟨g1, 0, none⟩) n1 k1) (.slice (some ⟨g2, 0, none⟩) n2 k2) (.slice (some ⟨g3, 0, none⟩) n3 k3) s := by
  obtain ⟨l1, e1, r1⟩ := h.ri
  obtain ⟨l2, e2, s2, r2⟩ := h.rq
  obtain ⟨l3, e3, s3, r3⟩ := h.rf
  subst e1 e2 e3
  exact ⟨⟨l1, pn, l2, l3, fl⟩, rfl, rfl, rfl, rfl, rfl, s2, s3, g1, k1, g2, k2, g3, k3, rfl, rfl, rfl, r1, r2, r3⟩

set_option maxRecDepth 100000 in
set_option maxHeartbeats 16000000 in
theorem turnx_any {B M n1 n2 n3 g1 k1 g2 k2 g3 k3 : Nat} {pn : Int} {fl : Nat} (w : World) (h : Ty B w (w.alloc (.cells #[.slice (some ⟨g1, 0, none⟩) n1 k1, .int .i64 pn, .slice (some ⟨g2, 0, none⟩) n2 k2, .slice (some ⟨g3, 0, none⟩) n3 k3, .int .u16 (fl : Int)] 27)) M n1 n2 n3 g1 k1 g2 k2 g3 k3 #[.slice (some ⟨g1, 0, none⟩) n1 k1, .int .i64 pn, .slice (some ⟨g2, 0, none⟩) n2 k2, .slice (some ⟨g3, 0, none⟩) n3 k3, .int .u16 (fl : Int)]) (hb1 : n1 * 8 ≤ 140737488355328) (hb2 : n2 * 16 ≤ 140737488355328) (hb3 : n3 * 24 ≤ 140737488355328) (hg : g1 < w.heap.size ∧ g2 < w.heap.size ∧ g3 < w.heap.size) :
    Calls Try.prog 24 #[.agg #[.slice (some ⟨g1, 0, none⟩) n1 k1, .int .i64 pn, .slice (some ⟨g2, 0, none⟩) n2 k2, .slice (some ⟨g3, 0, none⟩) n3 k3, .int .u16 (fl : Int)]] w fun e w' => (∃ v, e = .returned v) ∧ Ty B w w' M n1 n2 n3 g1 k1 g2 k2 g3 k3 #[.slice (some ⟨g1, 0, none⟩) n1 k1, .int .i64 pn, .slice (some ⟨g2, 0, none⟩) n2 k2, .slice (some ⟨g3, 0, none⟩) n3 k3, .int .u16 (fl : Int)] := by
  obtain ⟨W1, hW1⟩ : ∃ W1, W1 = w.alloc (.cells #[.slice (some ⟨g1, 0, none⟩) n1 k1, .int .i64 pn, .slice (some ⟨g2, 0, none⟩) n2 k2, .slice (some ⟨g3, 0, none⟩) n3 k3, .int .u16 (fl : Int)] 27) := ⟨_, rfl⟩
  have HW : Hid (W1 = w.alloc (.cells #[.slice (some ⟨g1, 0, none⟩) n1 k1, .int .i64 pn, .slice (some ⟨g2, 0, none⟩) n2 k2, .slice (some ⟨g3, 0, none⟩) n3 k3, .int .u16 (fl : Int)] 27)) := hW1
  have HN : Hid (n1 * 8 ≤ 140737488355328 ∧ n2 * 16 ≤ 140737488355328 ∧ n3 * 24 ≤ 140737488355328) := ⟨hb1, hb2, hb3⟩
  have HGL : Hid (g1 < w.heap.size ∧ g2 < w.heap.size ∧ g3 < w.heap.size) := hg
  have HSW : Hid (w.heap.size ≤ W1.heap.size) := by rw [hW1]; exact (bel_up _ _).size
  rw [← hW1] at h
  have HT1 : Hid (Ty B w W1 M n1 n2 n3 g1 k1 g2 k2 g3 k3 #[.slice (some ⟨g1, 0, none⟩) n1 k1, .int .i64 pn, .slice (some ⟨g2, 0, none⟩) n2 k2, .slice (some ⟨g3, 0, none⟩) n3 k3, .int .u16 (fl : Int)]) := h
  obtain ⟨s, q1, q2, q3, q4, q5, q6, q7, hrm⟩ := h.stt pn fl
  have HRM : Hid _ := hrm
  have HQ : Hid ((∀ d ∈ s.que, d.size ≤ M) ∧ (∀ f ∈ s.frm, f.2.size ≤ M)) := ⟨q6, q7⟩
  have HLN : Hid (s.ind.length = n1 ∧ s.que.length = n2 ∧ s.frm.length = n3) := ⟨q1, q2, q3⟩
  have HTW := twin_any W1 hrm.stm (by rw [q1]; exact hb1) (by rw [q2]; exact hb2) (by rw [q3]; exact hb3)
  simp only [sv, q4, q5] at HTW
  have HTX : Hid _ := HTW
  obtain ⟨p0, p1, p2, p3, p4⟩ := box_cells h.bs
  clear h hb1 hb2 hb3 hW1 HTW hrm hg q6 q7
  go_enter Try.func24, Try.ntmps24
  go_upto_region 1 with fail
  rw [← HW.out]
  go_wp2_with fail
  refine Calls.mono HTX.out ?_
  rintro e w2 ⟨ui, uq, uf, rfl, ho2, hb2⟩
  obtain ⟨x1, y1, x2, y2, x3, y3, rfl, rfl, rfl⟩ := ho2.stm.form
  rw [q1, q2, q3] at ho2 ⊢
  obtain ⟨W2, hW2⟩ : ∃ W2, W2 = w2.alloc (.cells #[.slice x1 n1 y1, .int .i64 pn, .slice x2 n2 y2, .slice x3 n3 y3, .int .u16 (fl : Int)] 27) := ⟨_, rfl⟩
  have HW2 : Hid (W2 = w2.alloc (.cells #[.slice x1 n1 y1, .int .i64 pn, .slice x2 n2 y2, .slice x3 n3 y3, .int .u16 (fl : Int)] 27)) := hW2
  obtain ⟨T, hT⟩ : ∃ T, w2.heap.size = T := ⟨_, rfl⟩
  have HTT : Hid (w2.heap.size = T) := hT
  have HT2 : Hid (Ty B w W2 M n1 n2 n3 g1 k1 g2 k2 g3 k3 #[.slice (some ⟨g1, 0, none⟩) n1 k1, .int .i64 pn, .slice (some ⟨g2, 0, none⟩) n2 k2, .slice (some ⟨g3, 0, none⟩) n3 k3, .int .u16 (fl : Int)]) := by rw [hW2]; exact (HT1.out.up hb2).up (bel_up _ _)
  have HBT2 : Hid (W2.heap[T]? = some (.cells #[.slice x1 n1 y1, .int .i64 pn, .slice x2 n2 y2, .slice x3 n3 y3, .int .u16 (fl : Int)] 27 (0, 0))) := by rw [hW2, ← hT]; exact heap_new w2 _
  have HO2 : Hid (Own w.heap.size W2 (.slice x1 n1 y1) (.slice x2 n2 y2) (.slice x3 n3 y3) s) := by
    have hu := ho2.up (bel_up w2 (.cells #[.slice x1 n1 y1, .int .i64 pn, .slice x2 n2 y2, .slice x3 n3 y3, .int .u16 (fl : Int)] 27))
    rw [← hW2] at hu
    exact ⟨row_base hu.i HSW.out, row_base hu.q HSW.out, row_base hu.f HSW.out⟩
  clear hW2 hb2 ho2 p0 p1 p2 p3 p4 hT q1 q2 q3 q4 q5 HT1 HRM
  go_upto_region 2 with fail
  rw [HTT.out, ← HW2.out]
  go_wp2_with fail
  go_loopg [3] n1 (fun gm v wr => ∃ i : Nat, v = .int .i64 (i : Int) ∧ Hid (i ≤ n1 ∧ gm = n1 - i) ∧ Hid (Ty B w wr M n1 n2 n3 g1 k1 g2 k2 g3 k3 #[.slice (some ⟨g1, 0, none⟩) n1 k1, .int .i64 pn, .slice (some ⟨g2, 0, none⟩) n2 k2, .slice (some ⟨g3, 0, none⟩) n3 k3, .int .u16 (fl : Int)]) ∧ Hid (wr.heap[T]? = some (.cells #[.slice x1 n1 y1, .int .i64 pn, .slice x2 n2 y2, .slice x3 n3 y3, .int .u16 (fl : Int)] 27 (0, 0))) ∧ Hid (Own w.heap.size wr (.slice x1 n1 y1) (.slice x2 n2 y2) (.slice x3 n3 y3) s))
  case atStart => exact ⟨0, rfl, ⟨Nat.zero_le _, rfl⟩, HT2, HBT2, HO2⟩
  case round =>
    clear HT2 HBT2 HO2
    obtain ⟨i, rfl, HI, HY, HBT, HO⟩ := hrel
    obtain ⟨p0, p1, p2, p3, p4⟩ := box_cells HY.out.bs
    by_cases hi : i < n1
    · have e1 : decide ((i : Int) < (n1 : Int)) = true := by rw [decide_eq_true_eq]; omega
      have e2 : decide (i < n1) = true := by rw [decide_eq_true_eq]; omega
      have e5 : (i : Int) < (n1 : Int) := by omega
      have HIL : Hid (i < n1) := hi
      have hwr := w64n i (by have := HN.out; omega)
      obtain ⟨m, hm⟩ : ∃ m, n1 = m + 1 := ⟨n1 - 1, by omega⟩
      obtain ⟨j, hj⟩ : ∃ j, m = i + j := ⟨m - i, by omega⟩
      have e6 : (j : Int) < (n1 : Int) := by omega
      have HJL : Hid (j < n1) := by show j < n1; omega
      have HWS : Hid (IntKind.i64.wrap ((n1 : Int) - 1) = (m : Int) ∧ IntKind.i64.wrap ((m : Int) - (i : Int)) = (j : Int)) := by have := HN.out; refine ⟨?_, ?_⟩ <;> (rw [IntKind.wrap_i64]; omega)
      clear hi hm hj
      go_upto_region 5 with fail
      obtain ⟨WD, hWD⟩ : ∃ WD, wr.drew = WD := ⟨_, rfl⟩
      have HYD : Hid (Ty B w WD M n1 n2 n3 g1 k1 g2 k2 g3 k3 #[.slice (some ⟨g1, 0, none⟩) n1 k1, .int .i64 pn, .slice (some ⟨g2, 0, none⟩) n2 k2, .slice (some ⟨g3, 0, none⟩) n3 k3, .int .u16 (fl : Int)]) := by rw [← hWD]; exact HY.out.up (Below.drew (Below.refl _ _))
      have HBD : Hid (WD.heap[T]? = some (.cells #[.slice x1 n1 y1, .int .i64 pn, .slice x2 n2 y2, .slice x3 n3 y3, .int .u16 (fl : Int)] 27 (0, 0))) := by rw [← hWD]; exact HBT.out
      have HOD : Hid (Own w.heap.size WD (.slice x1 n1 y1) (.slice x2 n2 y2) (.slice x3 n3 y3) s) := by rw [← hWD]; exact HO.out.up (Below.drew (Below.refl _ _))
      have s0 := rcell HYD.out.bs 0 _ rfl
      have s1 := rcell HBD.out 0 _ rfl
      obtain ⟨h1, hc1, hxe, hxl, -, -⟩ := row_form HOD.out.i (by have := HLN.out; have := HIL.out; omega)
      obtain ⟨hx1, -, hx2⟩ := Value.slice.inj hxe
      rw [hx1] at s1
      have HX1 : Hid _ := hx1
      have kc := row_at (by have := HOD.out.i; rw [hxe] at this; exact this) j _ (iC_get s.ind j (by have := HLN.out.1; have := HJL.out; omega))
      obtain ⟨x, hx⟩ : ∃ x, s.ind.getD j 0 = x := ⟨_, rfl⟩
      rw [hx] at kc
      clear hx
      obtain ⟨l, hl, hr⟩ := HYD.out.ri
      have c0 := row_at hr i _ (by rw [List.getElem?_append_left (by rw [iC_len]; have := HIL.out; omega)]; exact iC_get l i (by have := HIL.out; omega))
      have fz : WD.frozen? ⟨g1, i, none⟩ = false := by obtain ⟨_, cur, hh⟩ := row_blk hr; exact Lib.frozen_of_heap hh i
      have HROW : Hid (WD.ownsRow B 3 1 (.slice (some ⟨g1, 0, none⟩) (n1 + 2) k1) (n1 + 2) (iC l ++ mI)) := hr
      clear hr
      clear p0 p1 p2 p3 p4 hx1 hx2 hxe hl
      refine wp_region_noPanic ?_
      refine wp_region_held_drew (S := fun W => W.cell? ⟨w.heap.size, 0, none⟩ = some (.slice (some ⟨g1, 0, none⟩) n1 k1) ∧ W.cell? ⟨T, 0, none⟩ = some (.slice (some ⟨h1, 0, none⟩) n1 y1) ∧ W.cell? ⟨h1, j, none⟩ = some (.int .i64 x)) (by kernel_rfl) (by rw [hWD]; exact ⟨s0, s1, kc⟩) (fun hHeld => ?_)
      rw [hWD] at hHeld ⊢
      clear hWD s0 s1
      obtain ⟨ws1, ws2⟩ := HWS.out
      refine wpAnyH_take (i := 0) (oi := { dst := _, op := _, type := _, pos := _, after := _, guard := _ }) (v := ?_) rfl (by kernel_rfl) (by kernel_rfl) (by kernel_rfl) (fun _ _ _ h => h) (Or.inl ⟨by rfl, ?_⟩) (by assumption) ?_
      rotate_left
      · intro W hSw
        obtain ⟨h0, h1, h2⟩ := hSw
        go_simp
        (try with_reducible rfl)
      try simp only [Act.put, List.setIfInBounds_toArray, List.set_cons_zero, List.set_cons_succ]
      refine wpAnyH_take (i := 1) (oi := { dst := _, op := _, type := _, pos := _, after := _, guard := _ }) (v := ?_) rfl (by kernel_rfl) (by kernel_rfl) (by kernel_rfl) (fun _ _ _ h => h) (Or.inl ⟨by rfl, ?_⟩) (by assumption) ?_
      rotate_left
      · intro W hSw
        obtain ⟨h0, h1, h2⟩ := hSw
        go_simp
        (try with_reducible rfl)
      try simp only [Act.put, List.setIfInBounds_toArray, List.set_cons_zero, List.set_cons_succ]
      refine wpAnyH_take (i := 2) (oi := { dst := _, op := _, type := _, pos := _, after := _, guard := _ }) (v := ?_) rfl (by kernel_rfl) (by kernel_rfl) (by kernel_rfl) (fun _ _ _ h => h) (Or.inl ⟨by rfl, ?_⟩) (by assumption) ?_
      rotate_left
      · intro W hSw
        obtain ⟨h0, h1, h2⟩ := hSw
        go_simp
        (try with_reducible rfl)
      try simp only [Act.put, List.setIfInBounds_toArray, List.set_cons_zero, List.set_cons_succ]
      refine wpAnyH_take (i := 3) (oi := { dst := _, op := _, type := _, pos := _, after := _, guard := _ }) (v := ?_) rfl (by kernel_rfl) (by kernel_rfl) (by kernel_rfl) (fun _ _ _ h => h) (Or.inl ⟨by rfl, ?_⟩) (by assumption) ?_
      rotate_left
      · intro W hSw
        obtain ⟨h0, h1, h2⟩ := hSw
        go_simp
        (try with_reducible rfl)
      try simp only [Act.put, List.setIfInBounds_toArray, List.set_cons_zero, List.set_cons_succ]
      refine wpAnyH_take (i := 4) (oi := { dst := _, op := _, type := _, pos := _, after := _, guard := _ }) (v := ?_) rfl (by kernel_rfl) (by kernel_rfl) (by kernel_rfl) (fun _ _ _ h => h) (Or.inl ⟨by rfl, ?_⟩) (by assumption) ?_
      rotate_left
      · intro W hSw
        obtain ⟨h0, h1, h2⟩ := hSw
        go_simp
        (try with_reducible rfl)
      try simp only [Act.put, List.setIfInBounds_toArray, List.set_cons_zero, List.set_cons_succ]
      refine wpAnyH_take (i := 5) (oi := { dst := _, op := _, type := _, pos := _, after := _, guard := _ }) (v := ?_) rfl (by kernel_rfl) (by kernel_rfl) (by kernel_rfl) (fun _ _ _ h => h) (Or.inl ⟨by rfl, ?_⟩) (by assumption) ?_
      rotate_left
      · intro W hSw
        obtain ⟨h0, h1, h2⟩ := hSw
        go_simp
        (try with_reducible rfl)
      try simp only [Act.put, List.setIfInBounds_toArray, List.set_cons_zero, List.set_cons_succ]
      refine wpAnyH_take (i := 6) (oi := { dst := _, op := _, type := _, pos := _, after := _, guard := _ }) (v := ?_) rfl (by kernel_rfl) (by kernel_rfl) (by kernel_rfl) (fun _ _ _ h => h) (Or.inl ⟨by rfl, ?_⟩) (by assumption) ?_
      rotate_left
      · intro W hSw
        obtain ⟨h0, h1, h2⟩ := hSw
        go_simp
        (try with_reducible rfl)
      try simp only [Act.put, List.setIfInBounds_toArray, List.set_cons_zero, List.set_cons_succ]
      refine wpAnyH_take (i := 7) (oi := { dst := _, op := _, type := _, pos := _, after := _, guard := _ }) (v := ?_) rfl (by kernel_rfl) (by kernel_rfl) (by kernel_rfl) (fun _ _ _ h => h) (Or.inl ⟨by rfl, ?_⟩) (by assumption) ?_
      rotate_left
      · intro W hSw
        obtain ⟨h0, h1, h2⟩ := hSw
        go_simp
        (try with_reducible rfl)
      try simp only [Act.put, List.setIfInBounds_toArray, List.set_cons_zero, List.set_cons_succ]
      refine wpAnyH_take (i := 8) (oi := { dst := _, op := _, type := _, pos := _, after := _, guard := _ }) (v := ?_) rfl (by kernel_rfl) (by kernel_rfl) (by kernel_rfl) (fun _ _ _ h => h) (Or.inl ⟨by rfl, ?_⟩) (by assumption) ?_
      rotate_left
      · intro W hSw
        obtain ⟨h0, h1, h2⟩ := hSw
        go_simp
        (try with_reducible rfl)
      try simp only [Act.put, List.setIfInBounds_toArray, List.set_cons_zero, List.set_cons_succ]
      refine wpAnyH_take (i := 9) (oi := { dst := _, op := _, type := _, pos := _, after := _, guard := _ }) (v := ?_) rfl (by kernel_rfl) (by kernel_rfl) (by kernel_rfl) (fun _ _ _ h => h) (Or.inl ⟨by rfl, ?_⟩) (by assumption) ?_
      rotate_left
      · intro W hSw
        obtain ⟨h0, h1, h2⟩ := hSw
        go_simp
        (try with_reducible rfl)
      try simp only [Act.put, List.setIfInBounds_toArray, List.set_cons_zero, List.set_cons_succ]
      refine wpAnyH_take (i := 10) (oi := { dst := _, op := _, type := _, pos := _, after := _, guard := _ }) (v := ?_) rfl (by kernel_rfl) (by kernel_rfl) (by kernel_rfl) (fun _ _ _ h => h) (Or.inl ⟨by rfl, ?_⟩) (by assumption) ?_
      rotate_left
      · intro W hSw
        obtain ⟨h0, h1, h2⟩ := hSw
        go_simp
        (try with_reducible rfl)
      try simp only [Act.put, List.setIfInBounds_toArray, List.set_cons_zero, List.set_cons_succ]
      refine wpAnyH_take (i := 11) (oi := { dst := _, op := _, type := _, pos := _, after := _, guard := _ }) (v := ?_) rfl (by kernel_rfl) (by kernel_rfl) (by kernel_rfl) (fun _ _ _ h => h) (Or.inl ⟨by rfl, ?_⟩) (by assumption) ?_
      rotate_left
      · intro W hSw
        obtain ⟨h0, h1, h2⟩ := hSw
        go_simp
        (try with_reducible rfl)
      try simp only [Act.put, List.setIfInBounds_toArray, List.set_cons_zero, List.set_cons_succ]
      refine wpAnyH_take (i := 12) (oi := { dst := _, op := _, type := _, pos := _, after := _, guard := _ }) (v := ?_) rfl (by kernel_rfl) (by kernel_rfl) (by kernel_rfl) (fun _ _ _ h => h) (Or.inl ⟨by rfl, ?_⟩) (by assumption) ?_
      rotate_left
      · intro W hSw
        obtain ⟨h0, h1, h2⟩ := hSw
        go_simp
        (try with_reducible rfl)
      try simp only [Act.put, List.setIfInBounds_toArray, List.set_cons_zero, List.set_cons_succ]
      refine wpAnyH_take (i := 13) (oi := { dst := _, op := _, type := _, pos := _, after := _, guard := _ }) (v := ?_) rfl (by kernel_rfl) (by kernel_rfl) (by kernel_rfl) (fun _ _ _ h => h) (Or.inl ⟨by rfl, ?_⟩) (by assumption) ?_
      rotate_left
      · intro W hSw
        obtain ⟨h0, h1, h2⟩ := hSw
        go_simp
        (try with_reducible rfl)
      try simp only [Act.put, List.setIfInBounds_toArray, List.set_cons_zero, List.set_cons_succ]
      refine wpAnyH_ready (rs := [14]) (by kernel_rfl) (by simp) ?_
      refine AllReadyH.cons (o := { dst := _, op := _, type := _, pos := _, after := _, guard := _ }) rfl (fun K hK => ?_) AllReadyH.nil
      go_simp
      have HYN : Hid (Ty B w (WD.setCell ⟨g1, i, none⟩ (.int .i64 x)) M n1 n2 n3 g1 k1 g2 k2 g3 k3 #[.slice (some ⟨g1, 0, none⟩) n1 k1, .int .i64 pn, .slice (some ⟨g2, 0, none⟩) n2 k2, .slice (some ⟨g3, 0, none⟩) n3 k3, .int .u16 (fl : Int)]) := HYD.out.si i HIL.out x
      have HBN : Hid ((WD.setCell ⟨g1, i, none⟩ (.int .i64 x)).heap[T]? = some (.cells #[.slice x1 n1 y1, .int .i64 pn, .slice x2 n2 y2, .slice x3 n3 y3, .int .u16 (fl : Int)] 27 (0, 0))) := far_blk HROW.out HBD.out (by decide)
      have HON : Hid (Own w.heap.size (WD.setCell ⟨g1, i, none⟩ (.int .i64 x)) (.slice x1 n1 y1) (.slice x2 n2 y2) (.slice x3 n3 y3) s) := own_far HOD.out HGL.out.1
      refine hK.out _ _ ?_ (fun hHeld => ?_)
      · exact ⟨rcell HYN.out.bs 0 _ rfl, by have := rcell HBN.out 0 _ rfl; rw [HX1.out] at this; exact this, by rw [World.cell?_setCell_other _ _ _ _ (fun h => by have h2 := HGL.out.1; first | exact absurd (show h1 = g1 from congrArg Addr.block h) (by omega) | exact absurd (show g1 = h1 from congrArg Addr.block h) (by omega))]; exact kc⟩
      clear hK K
      try simp only [Act.put, List.setIfInBounds_toArray, List.set_cons_zero, List.set_cons_succ]
      refine wpAnyH_done (by kernel_rfl) ?_ _
      refine NoPanic.normal ?_
      clear hHeld
      go_wp2_with fail
      go_roundg (n1 - (i + 1))
      case measure => have := HI.out; have := HIL.out; omega
      case rel => exact ⟨i + 1, by first | rfl | (rw [show (i : Int) + 1 = ((i + 1 : Nat) : Int) by omega]), ⟨HIL.out, rfl⟩, HYN, HBN, HON⟩
    · have e1 : decide ((i : Int) < (n1 : Int)) = false := by rw [decide_eq_false_iff_not]; omega
      have e2 : decide (i < n1) = false := by rw [decide_eq_false_iff_not]; omega
      clear hi HI
      go_wp2_with fail
      clear p0 p1 p2 p3 p4 e1 e2
      go_loopg [4] n2 (fun gm v wr => ∃ i : Nat, v = .int .i64 (i : Int) ∧ Hid (i ≤ n2 ∧ gm = n2 - i) ∧ Hid (Ty B w wr M n1 n2 n3 g1 k1 g2 k2 g3 k3 #[.slice (some ⟨g1, 0, none⟩) n1 k1, .int .i64 pn, .slice (some ⟨g2, 0, none⟩) n2 k2, .slice (some ⟨g3, 0, none⟩) n3 k3, .int .u16 (fl : Int)]) ∧ Hid (wr.heap[T]? = some (.cells #[.slice x1 n1 y1, .int .i64 pn, .slice x2 n2 y2, .slice x3 n3 y3, .int .u16 (fl : Int)] 27 (0, 0))) ∧ Hid (Own w.heap.size wr (.slice x1 n1 y1) (.slice x2 n2 y2) (.slice x3 n3 y3) s))
      case atStart => exact ⟨0, rfl, ⟨Nat.zero_le _, rfl⟩, HY, HBT, HO⟩
      case round =>
        clear HY HBT HO
        obtain ⟨i, rfl, HI, HY, HBT, HO⟩ := hrel
        obtain ⟨p0, p1, p2, p3, p4⟩ := box_cells HY.out.bs
        by_cases hi : i < n2
        · have e1 : decide ((i : Int) < (n2 : Int)) = true := by rw [decide_eq_true_eq]; omega
          have e2 : decide (i < n2) = true := by rw [decide_eq_true_eq]; omega
          have e5 : (i : Int) < (n2 : Int) := by omega
          have HIL : Hid (i < n2) := hi
          have hwr := w64n i (by have := HN.out; omega)
          obtain ⟨m, hm⟩ : ∃ m, n2 = m + 1 := ⟨n2 - 1, by omega⟩
          obtain ⟨j, hj⟩ : ∃ j, m = i + j := ⟨m - i, by omega⟩
          have e6 : (j : Int) < (n2 : Int) := by omega
          have HJL : Hid (j < n2) := by show j < n2; omega
          have HWS : Hid (IntKind.i64.wrap ((n2 : Int) - 1) = (m : Int) ∧ IntKind.i64.wrap ((m : Int) - (i : Int)) = (j : Int)) := by have := HN.out; refine ⟨?_, ?_⟩ <;> (rw [IntKind.wrap_i64]; omega)
          clear hi hm hj
          go_upto_region 9 with fail
          obtain ⟨WD, hWD⟩ : ∃ WD, wr.drew = WD := ⟨_, rfl⟩
          have HYD : Hid (Ty B w WD M n1 n2 n3 g1 k1 g2 k2 g3 k3 #[.slice (some ⟨g1, 0, none⟩) n1 k1, .int .i64 pn, .slice (some ⟨g2, 0, none⟩) n2 k2, .slice (some ⟨g3, 0, none⟩) n3 k3, .int .u16 (fl : Int)]) := by rw [← hWD]; exact HY.out.up (Below.drew (Below.refl _ _))
          have HBD : Hid (WD.heap[T]? = some (.cells #[.slice x1 n1 y1, .int .i64 pn, .slice x2 n2 y2, .slice x3 n3 y3, .int .u16 (fl : Int)] 27 (0, 0))) := by rw [← hWD]; exact HBT.out
          have HOD : Hid (Own w.heap.size WD (.slice x1 n1 y1) (.slice x2 n2 y2) (.slice x3 n3 y3) s) := by rw [← hWD]; exact HO.out.up (Below.drew (Below.refl _ _))
          have s0 := rcell HYD.out.bs 2 _ rfl
          have s1 := rcell HBD.out 2 _ rfl
          obtain ⟨h1, hc1, hxe, hxl, -, -⟩ := row_form HOD.out.q (by have := HLN.out; have := HIL.out; omega)
          obtain ⟨hx1, -, hx2⟩ := Value.slice.inj hxe
          rw [hx1] at s1
          have HX1 : Hid _ := hx1
          have kc := row_at (by have := HOD.out.q; rw [hxe] at this; exact this) j _ (qC_get s.que j (by have := HLN.out.2.1; have := HJL.out; omega))
          have HXS : Hid (_) := HQ.out.1 _ (mem_getD s.que ⟨#[]⟩ j (by have := HLN.out.2.1; have := HJL.out; omega))
          obtain ⟨x, hx⟩ : ∃ x, s.que.getD j ⟨#[]⟩ = x := ⟨_, rfl⟩
          rw [hx] at kc HXS
          clear hx
          obtain ⟨l, hl, hs, hr⟩ := HYD.out.rq
          have c0 := row_at hr i _ (by rw [List.getElem?_append_left (by rw [qC_len]; have := HIL.out; omega)]; exact qC_get l i (by have := HIL.out; omega))
          have fz : WD.frozen? ⟨g2, i, none⟩ = false := by obtain ⟨_, cur, hh⟩ := row_blk hr; exact Lib.frozen_of_heap hh i
          have HROW : Hid (WD.ownsRow B 9 1 (.slice (some ⟨g2, 0, none⟩) (n2 + 2) k2) (n2 + 2) (qC l ++ mQ)) := hr
          clear hr hs
          clear p0 p1 p2 p3 p4 hx1 hx2 hxe hl
          refine wp_region_noPanic ?_
          refine wp_region_held_drew (S := fun W => W.cell? ⟨w.heap.size, 2, none⟩ = some (.slice (some ⟨g2, 0, none⟩) n2 k2) ∧ W.cell? ⟨T, 2, none⟩ = some (.slice (some ⟨h1, 0, none⟩) n2 y2) ∧ W.cell? ⟨h1, j, none⟩ = some (.string x)) (by kernel_rfl) (by rw [hWD]; exact ⟨s0, s1, kc⟩) (fun hHeld => ?_)
          rw [hWD] at hHeld ⊢
          clear hWD s0 s1
          obtain ⟨ws1, ws2⟩ := HWS.out
          refine wpAnyH_take (i := 0) (oi := { dst := _, op := _, type := _, pos := _, after := _, guard := _ }) (v := ?_) rfl (by kernel_rfl) (by kernel_rfl) (by kernel_rfl) (fun _ _ _ h => h) (Or.inl ⟨by rfl, ?_⟩) (by assumption) ?_
          rotate_left
          · intro W hSw
            obtain ⟨h0, h1, h2⟩ := hSw
            go_simp
            (try with_reducible rfl)
          try simp only [Act.put, List.setIfInBounds_toArray, List.set_cons_zero, List.set_cons_succ]
          refine wpAnyH_take (i := 1) (oi := { dst := _, op := _, type := _, pos := _, after := _, guard := _ }) (v := ?_) rfl (by kernel_rfl) (by kernel_rfl) (by kernel_rfl) (fun _ _ _ h => h) (Or.inl ⟨by rfl, ?_⟩) (by assumption) ?_
          rotate_left
          · intro W hSw
            obtain ⟨h0, h1, h2⟩ := hSw
            go_simp
            (try with_reducible rfl)
          try simp only [Act.put, List.setIfInBounds_toArray, List.set_cons_zero, List.set_cons_succ]
          refine wpAnyH_take (i := 2) (oi := { dst := _, op := _, type := _, pos := _, after := _, guard := _ }) (v := ?_) rfl (by kernel_rfl) (by kernel_rfl) (by kernel_rfl) (fun _ _ _ h => h) (Or.inl ⟨by rfl, ?_⟩) (by assumption) ?_
          rotate_left
          · intro W hSw
            obtain ⟨h0, h1, h2⟩ := hSw
            go_simp
            (try with_reducible rfl)
          try simp only [Act.put, List.setIfInBounds_toArray, List.set_cons_zero, List.set_cons_succ]
          refine wpAnyH_take (i := 3) (oi := { dst := _, op := _, type := _, pos := _, after := _, guard := _ }) (v := ?_) rfl (by kernel_rfl) (by kernel_rfl) (by kernel_rfl) (fun _ _ _ h => h) (Or.inl ⟨by rfl, ?_⟩) (by assumption) ?_
          rotate_left
          · intro W hSw
            obtain ⟨h0, h1, h2⟩ := hSw
            go_simp
            (try with_reducible rfl)
          try simp only [Act.put, List.setIfInBounds_toArray, List.set_cons_zero, List.set_cons_succ]
          refine wpAnyH_take (i := 4) (oi := { dst := _, op := _, type := _, pos := _, after := _, guard := _ }) (v := ?_) rfl (by kernel_rfl) (by kernel_rfl) (by kernel_rfl) (fun _ _ _ h => h) (Or.inl ⟨by rfl, ?_⟩) (by assumption) ?_
          rotate_left
          · intro W hSw
            obtain ⟨h0, h1, h2⟩ := hSw
            go_simp
            (try with_reducible rfl)
          try simp only [Act.put, List.setIfInBounds_toArray, List.set_cons_zero, List.set_cons_succ]
          refine wpAnyH_take (i := 5) (oi := { dst := _, op := _, type := _, pos := _, after := _, guard := _ }) (v := ?_) rfl (by kernel_rfl) (by kernel_rfl) (by kernel_rfl) (fun _ _ _ h => h) (Or.inl ⟨by rfl, ?_⟩) (by assumption) ?_
          rotate_left
          · intro W hSw
            obtain ⟨h0, h1, h2⟩ := hSw
            go_simp
            (try with_reducible rfl)
          try simp only [Act.put, List.setIfInBounds_toArray, List.set_cons_zero, List.set_cons_succ]
          refine wpAnyH_take (i := 6) (oi := { dst := _, op := _, type := _, pos := _, after := _, guard := _ }) (v := ?_) rfl (by kernel_rfl) (by kernel_rfl) (by kernel_rfl) (fun _ _ _ h => h) (Or.inl ⟨by rfl, ?_⟩) (by assumption) ?_
          rotate_left
          · intro W hSw
            obtain ⟨h0, h1, h2⟩ := hSw
            go_simp
            (try with_reducible rfl)
          try simp only [Act.put, List.setIfInBounds_toArray, List.set_cons_zero, List.set_cons_succ]
          refine wpAnyH_take (i := 7) (oi := { dst := _, op := _, type := _, pos := _, after := _, guard := _ }) (v := ?_) rfl (by kernel_rfl) (by kernel_rfl) (by kernel_rfl) (fun _ _ _ h => h) (Or.inl ⟨by rfl, ?_⟩) (by assumption) ?_
          rotate_left
          · intro W hSw
            obtain ⟨h0, h1, h2⟩ := hSw
            go_simp
            (try with_reducible rfl)
          try simp only [Act.put, List.setIfInBounds_toArray, List.set_cons_zero, List.set_cons_succ]
          refine wpAnyH_take (i := 8) (oi := { dst := _, op := _, type := _, pos := _, after := _, guard := _ }) (v := ?_) rfl (by kernel_rfl) (by kernel_rfl) (by kernel_rfl) (fun _ _ _ h => h) (Or.inl ⟨by rfl, ?_⟩) (by assumption) ?_
          rotate_left
          · intro W hSw
            obtain ⟨h0, h1, h2⟩ := hSw
            go_simp
            (try with_reducible rfl)
          try simp only [Act.put, List.setIfInBounds_toArray, List.set_cons_zero, List.set_cons_succ]
          refine wpAnyH_take (i := 9) (oi := { dst := _, op := _, type := _, pos := _, after := _, guard := _ }) (v := ?_) rfl (by kernel_rfl) (by kernel_rfl) (by kernel_rfl) (fun _ _ _ h => h) (Or.inl ⟨by rfl, ?_⟩) (by assumption) ?_
          rotate_left
          · intro W hSw
            obtain ⟨h0, h1, h2⟩ := hSw
            go_simp
            (try with_reducible rfl)
          try simp only [Act.put, List.setIfInBounds_toArray, List.set_cons_zero, List.set_cons_succ]
          refine wpAnyH_take (i := 10) (oi := { dst := _, op := _, type := _, pos := _, after := _, guard := _ }) (v := ?_) rfl (by kernel_rfl) (by kernel_rfl) (by kernel_rfl) (fun _ _ _ h => h) (Or.inl ⟨by rfl, ?_⟩) (by assumption) ?_
          rotate_left
          · intro W hSw
            obtain ⟨h0, h1, h2⟩ := hSw
            go_simp
            (try with_reducible rfl)
          try simp only [Act.put, List.setIfInBounds_toArray, List.set_cons_zero, List.set_cons_succ]
          refine wpAnyH_take (i := 11) (oi := { dst := _, op := _, type := _, pos := _, after := _, guard := _ }) (v := ?_) rfl (by kernel_rfl) (by kernel_rfl) (by kernel_rfl) (fun _ _ _ h => h) (Or.inl ⟨by rfl, ?_⟩) (by assumption) ?_
          rotate_left
          · intro W hSw
            obtain ⟨h0, h1, h2⟩ := hSw
            go_simp
            (try with_reducible rfl)
          try simp only [Act.put, List.setIfInBounds_toArray, List.set_cons_zero, List.set_cons_succ]
          refine wpAnyH_take (i := 12) (oi := { dst := _, op := _, type := _, pos := _, after := _, guard := _ }) (v := ?_) rfl (by kernel_rfl) (by kernel_rfl) (by kernel_rfl) (fun _ _ _ h => h) (Or.inl ⟨by rfl, ?_⟩) (by assumption) ?_
          rotate_left
          · intro W hSw
            obtain ⟨h0, h1, h2⟩ := hSw
            go_simp
            (try with_reducible rfl)
          try simp only [Act.put, List.setIfInBounds_toArray, List.set_cons_zero, List.set_cons_succ]
          refine wpAnyH_take (i := 13) (oi := { dst := _, op := _, type := _, pos := _, after := _, guard := _ }) (v := ?_) rfl (by kernel_rfl) (by kernel_rfl) (by kernel_rfl) (fun _ _ _ h => h) (Or.inl ⟨by rfl, ?_⟩) (by assumption) ?_
          rotate_left
          · intro W hSw
            obtain ⟨h0, h1, h2⟩ := hSw
            go_simp
            (try with_reducible rfl)
          try simp only [Act.put, List.setIfInBounds_toArray, List.set_cons_zero, List.set_cons_succ]
          refine wpAnyH_ready (rs := [14]) (by kernel_rfl) (by simp) ?_
          refine AllReadyH.cons (o := { dst := _, op := _, type := _, pos := _, after := _, guard := _ }) rfl (fun K hK => ?_) AllReadyH.nil
          go_simp
          have HYN : Hid (Ty B w (WD.setCell ⟨g2, i, none⟩ (.string x)) M n1 n2 n3 g1 k1 g2 k2 g3 k3 #[.slice (some ⟨g1, 0, none⟩) n1 k1, .int .i64 pn, .slice (some ⟨g2, 0, none⟩) n2 k2, .slice (some ⟨g3, 0, none⟩) n3 k3, .int .u16 (fl : Int)]) := HYD.out.sq i HIL.out x HXS.out
          have HBN : Hid ((WD.setCell ⟨g2, i, none⟩ (.string x)).heap[T]? = some (.cells #[.slice x1 n1 y1, .int .i64 pn, .slice x2 n2 y2, .slice x3 n3 y3, .int .u16 (fl : Int)] 27 (0, 0))) := far_blk HROW.out HBD.out (by decide)
          have HON : Hid (Own w.heap.size (WD.setCell ⟨g2, i, none⟩ (.string x)) (.slice x1 n1 y1) (.slice x2 n2 y2) (.slice x3 n3 y3) s) := own_far HOD.out HGL.out.2.1
          refine hK.out _ _ ?_ (fun hHeld => ?_)
          · exact ⟨rcell HYN.out.bs 2 _ rfl, by have := rcell HBN.out 2 _ rfl; rw [HX1.out] at this; exact this, by rw [World.cell?_setCell_other _ _ _ _ (fun h => by have h2 := HGL.out.2.1; first | exact absurd (show h1 = g2 from congrArg Addr.block h) (by omega) | exact absurd (show g2 = h1 from congrArg Addr.block h) (by omega))]; exact kc⟩
          clear hK K
          try simp only [Act.put, List.setIfInBounds_toArray, List.set_cons_zero, List.set_cons_succ]
          refine wpAnyH_done (by kernel_rfl) ?_ _
          refine NoPanic.normal ?_
          clear hHeld
          go_wp2_with fail
          go_roundg (n2 - (i + 1))
          case measure => have := HI.out; have := HIL.out; omega
          case rel => exact ⟨i + 1, by first | rfl | (rw [show (i : Int) + 1 = ((i + 1 : Nat) : Int) by omega]), ⟨HIL.out, rfl⟩, HYN, HBN, HON⟩
        · have e1 : decide ((i : Int) < (n2 : Int)) = false := by rw [decide_eq_false_iff_not]; omega
          have e2 : decide (i < n2) = false := by rw [decide_eq_false_iff_not]; omega
          clear hi HI
          go_wp2_with fail
          clear p0 p1 p2 p3 p4 e1 e2
          go_loopg [5] n3 (fun gm v wr => ∃ i : Nat, v = .int .i64 (i : Int) ∧ Hid (i ≤ n3 ∧ gm = n3 - i) ∧ Hid (Ty B w wr M n1 n2 n3 g1 k1 g2 k2 g3 k3 #[.slice (some ⟨g1, 0, none⟩) n1 k1, .int .i64 pn, .slice (some ⟨g2, 0, none⟩) n2 k2, .slice (some ⟨g3, 0, none⟩) n3 k3, .int .u16 (fl : Int)]) ∧ Hid (wr.heap[T]? = some (.cells #[.slice x1 n1 y1, .int .i64 pn, .slice x2 n2 y2, .slice x3 n3 y3, .int .u16 (fl : Int)] 27 (0, 0))) ∧ Hid (Own w.heap.size wr (.slice x1 n1 y1) (.slice x2 n2 y2) (.slice x3 n3 y3) s))
          case atStart => exact ⟨0, rfl, ⟨Nat.zero_le _, rfl⟩, HY, HBT, HO⟩
          case round =>
            clear HY HBT HO
            obtain ⟨i, rfl, HI, HY, HBT, HO⟩ := hrel
            obtain ⟨p0, p1, p2, p3, p4⟩ := box_cells HY.out.bs
            by_cases hi : i < n3
            · have e1 : decide ((i : Int) < (n3 : Int)) = true := by rw [decide_eq_true_eq]; omega
              have e2 : decide (i < n3) = true := by rw [decide_eq_true_eq]; omega
              have e5 : (i : Int) < (n3 : Int) := by omega
              have HIL : Hid (i < n3) := hi
              have hwr := w64n i (by have := HN.out; omega)
              obtain ⟨m, hm⟩ : ∃ m, n3 = m + 1 := ⟨n3 - 1, by omega⟩
              obtain ⟨j, hj⟩ : ∃ j, m = i + j := ⟨m - i, by omega⟩
              have e6 : (j : Int) < (n3 : Int) := by omega
              have HJL : Hid (j < n3) := by show j < n3; omega
              have HWS : Hid (IntKind.i64.wrap ((n3 : Int) - 1) = (m : Int) ∧ IntKind.i64.wrap ((m : Int) - (i : Int)) = (j : Int)) := by have := HN.out; refine ⟨?_, ?_⟩ <;> (rw [IntKind.wrap_i64]; omega)
              clear hi hm hj
              go_upto_region 13 with fail
              obtain ⟨WD, hWD⟩ : ∃ WD, wr.drew = WD := ⟨_, rfl⟩
              have HYD : Hid (Ty B w WD M n1 n2 n3 g1 k1 g2 k2 g3 k3 #[.slice (some ⟨g1, 0, none⟩) n1 k1, .int .i64 pn, .slice (some ⟨g2, 0, none⟩) n2 k2, .slice (some ⟨g3, 0, none⟩) n3 k3, .int .u16 (fl : Int)]) := by rw [← hWD]; exact HY.out.up (Below.drew (Below.refl _ _))
              have HBD : Hid (WD.heap[T]? = some (.cells #[.slice x1 n1 y1, .int .i64 pn, .slice x2 n2 y2, .slice x3 n3 y3, .int .u16 (fl : Int)] 27 (0, 0))) := by rw [← hWD]; exact HBT.out
              have HOD : Hid (Own w.heap.size WD (.slice x1 n1 y1) (.slice x2 n2 y2) (.slice x3 n3 y3) s) := by rw [← hWD]; exact HO.out.up (Below.drew (Below.refl _ _))
              have s0 := rcell HYD.out.bs 3 _ rfl
              have s1 := rcell HBD.out 3 _ rfl
              obtain ⟨h1, hc1, hxe, hxl, -, -⟩ := row_form HOD.out.f (by have := HLN.out; have := HIL.out; omega)
              obtain ⟨hx1, -, hx2⟩ := Value.slice.inj hxe
              rw [hx1] at s1
              have HX1 : Hid _ := hx1
              have hof : WD.ownsRow w.heap.size 54 2 (.slice (some ⟨h1, 0, none⟩) s.frm.length hc1) s.frm.length (fC s.frm) := by have := HOD.out.f; rw [hxe] at this; exact this
              have kc := row_at hof (j * 2) _ (fC_get s.frm j (by have := HLN.out.2.2; have := HJL.out; omega)).1
              have kd := row_at hof (j * 2 + 1) _ (fC_get s.frm j (by have := HLN.out.2.2; have := HJL.out; omega)).2
              have HXS : Hid (_) := HQ.out.2 _ (mem_getD s.frm (0, ⟨#[]⟩) j (by have := HLN.out.2.2; have := HJL.out; omega))
              obtain ⟨x, hx⟩ : ∃ x, s.frm.getD j (0, ⟨#[]⟩) = x := ⟨_, rfl⟩
              rw [hx] at kc kd HXS
              clear hx hof
              obtain ⟨l, hl, hs, hr⟩ := HYD.out.rf
              have c0 := row_at hr (i * 2) _ (by rw [List.getElem?_append_left (by rw [fC_len]; have := HIL.out; omega)]; exact (fC_get l i (by have := HIL.out; omega)).1)
              have c1 := row_at hr (i * 2 + 1) _ (by rw [List.getElem?_append_left (by rw [fC_len]; have := HIL.out; omega)]; exact (fC_get l i (by have := HIL.out; omega)).2)
              have fz : ∀ q, WD.frozen? ⟨g3, q, none⟩ = false := by obtain ⟨_, cur, hh⟩ := row_blk hr; exact fun q => Lib.frozen_of_heap hh q
              have HROW : Hid (WD.ownsRow B 54 2 (.slice (some ⟨g3, 0, none⟩) (n3 + 2) k3) (n3 + 2) (fC l ++ mF)) := hr
              clear hr hs
              clear p0 p1 p2 p3 p4 hx1 hx2 hxe hl
              refine wp_region_noPanic ?_
              refine wp_region_held_drew (S := fun W => W.cell? ⟨w.heap.size, 3, none⟩ = some (.slice (some ⟨g3, 0, none⟩) n3 k3) ∧ W.cell? ⟨T, 3, none⟩ = some (.slice (some ⟨h1, 0, none⟩) n3 y3) ∧ W.cell? ⟨h1, j * 2, none⟩ = some (.int .i64 x.1) ∧ W.cell? ⟨h1, j * 2 + 1, none⟩ = some (.string x.2)) (by kernel_rfl) (by rw [hWD]; exact ⟨s0, s1, kc, kd⟩) (fun hHeld => ?_)
              rw [hWD] at hHeld ⊢
              clear hWD s0 s1
              obtain ⟨ws1, ws2⟩ := HWS.out
              refine wpAnyH_take (i := 0) (oi := { dst := _, op := _, type := _, pos := _, after := _, guard := _ }) (v := ?_) rfl (by kernel_rfl) (by kernel_rfl) (by kernel_rfl) (fun _ _ _ h => h) (Or.inl ⟨by rfl, ?_⟩) (by assumption) ?_
              rotate_left
              · intro W hSw
                obtain ⟨h0, h1, h2, h3⟩ := hSw
                go_simp
                (try with_reducible rfl)
              try simp only [Act.put, List.setIfInBounds_toArray, List.set_cons_zero, List.set_cons_succ]
              refine wpAnyH_take (i := 1) (oi := { dst := _, op := _, type := _, pos := _, after := _, guard := _ }) (v := ?_) rfl (by kernel_rfl) (by kernel_rfl) (by kernel_rfl) (fun _ _ _ h => h) (Or.inl ⟨by rfl, ?_⟩) (by assumption) ?_
              rotate_left
              · intro W hSw
                obtain ⟨h0, h1, h2, h3⟩ := hSw
                go_simp
                (try with_reducible rfl)
              try simp only [Act.put, List.setIfInBounds_toArray, List.set_cons_zero, List.set_cons_succ]
              refine wpAnyH_take (i := 2) (oi := { dst := _, op := _, type := _, pos := _, after := _, guard := _ }) (v := ?_) rfl (by kernel_rfl) (by kernel_rfl) (by kernel_rfl) (fun _ _ _ h => h) (Or.inl ⟨by rfl, ?_⟩) (by assumption) ?_
              rotate_left
              · intro W hSw
                obtain ⟨h0, h1, h2, h3⟩ := hSw
                go_simp
                (try with_reducible rfl)
              try simp only [Act.put, List.setIfInBounds_toArray, List.set_cons_zero, List.set_cons_succ]
              refine wpAnyH_take (i := 3) (oi := { dst := _, op := _, type := _, pos := _, after := _, guard := _ }) (v := ?_) rfl (by kernel_rfl) (by kernel_rfl) (by kernel_rfl) (fun _ _ _ h => h) (Or.inl ⟨by rfl, ?_⟩) (by assumption) ?_
              rotate_left
              · intro W hSw
                obtain ⟨h0, h1, h2, h3⟩ := hSw
                go_simp
                (try with_reducible rfl)
              try simp only [Act.put, List.setIfInBounds_toArray, List.set_cons_zero, List.set_cons_succ]
              refine wpAnyH_take (i := 4) (oi := { dst := _, op := _, type := _, pos := _, after := _, guard := _ }) (v := ?_) rfl (by kernel_rfl) (by kernel_rfl) (by kernel_rfl) (fun _ _ _ h => h) (Or.inl ⟨by rfl, ?_⟩) (by assumption) ?_
              rotate_left
              · intro W hSw
                obtain ⟨h0, h1, h2, h3⟩ := hSw
                go_simp
                (try with_reducible rfl)
              try simp only [Act.put, List.setIfInBounds_toArray, List.set_cons_zero, List.set_cons_succ]
              refine wpAnyH_take (i := 5) (oi := { dst := _, op := _, type := _, pos := _, after := _, guard := _ }) (v := ?_) rfl (by kernel_rfl) (by kernel_rfl) (by kernel_rfl) (fun _ _ _ h => h) (Or.inl ⟨by rfl, ?_⟩) (by assumption) ?_
              rotate_left
              · intro W hSw
                obtain ⟨h0, h1, h2, h3⟩ := hSw
                go_simp
                (try with_reducible rfl)
              try simp only [Act.put, List.setIfInBounds_toArray, List.set_cons_zero, List.set_cons_succ]
              refine wpAnyH_take (i := 6) (oi := { dst := _, op := _, type := _, pos := _, after := _, guard := _ }) (v := ?_) rfl (by kernel_rfl) (by kernel_rfl) (by kernel_rfl) (fun _ _ _ h => h) (Or.inl ⟨by rfl, ?_⟩) (by assumption) ?_
              rotate_left
              · intro W hSw
                obtain ⟨h0, h1, h2, h3⟩ := hSw
                go_simp
                (try with_reducible rfl)
              try simp only [Act.put, List.setIfInBounds_toArray, List.set_cons_zero, List.set_cons_succ]
              refine wpAnyH_take (i := 7) (oi := { dst := _, op := _, type := _, pos := _, after := _, guard := _ }) (v := ?_) rfl (by kernel_rfl) (by kernel_rfl) (by kernel_rfl) (fun _ _ _ h => h) (Or.inl ⟨by rfl, ?_⟩) (by assumption) ?_
              rotate_left
              · intro W hSw
                obtain ⟨h0, h1, h2, h3⟩ := hSw
                go_simp
                (try with_reducible rfl)
              try simp only [Act.put, List.setIfInBounds_toArray, List.set_cons_zero, List.set_cons_succ]
              refine wpAnyH_take (i := 8) (oi := { dst := _, op := _, type := _, pos := _, after := _, guard := _ }) (v := ?_) rfl (by kernel_rfl) (by kernel_rfl) (by kernel_rfl) (fun _ _ _ h => h) (Or.inl ⟨by rfl, ?_⟩) (by assumption) ?_
              rotate_left
              · intro W hSw
                obtain ⟨h0, h1, h2, h3⟩ := hSw
                go_simp
                (try with_reducible rfl)
              try simp only [Act.put, List.setIfInBounds_toArray, List.set_cons_zero, List.set_cons_succ]
              refine wpAnyH_take (i := 9) (oi := { dst := _, op := _, type := _, pos := _, after := _, guard := _ }) (v := ?_) rfl (by kernel_rfl) (by kernel_rfl) (by kernel_rfl) (fun _ _ _ h => h) (Or.inl ⟨by rfl, ?_⟩) (by assumption) ?_
              rotate_left
              · intro W hSw
                obtain ⟨h0, h1, h2, h3⟩ := hSw
                go_simp
                (try with_reducible rfl)
              try simp only [Act.put, List.setIfInBounds_toArray, List.set_cons_zero, List.set_cons_succ]
              refine wpAnyH_take (i := 10) (oi := { dst := _, op := _, type := _, pos := _, after := _, guard := _ }) (v := ?_) rfl (by kernel_rfl) (by kernel_rfl) (by kernel_rfl) (fun _ _ _ h => h) (Or.inl ⟨by rfl, ?_⟩) (by assumption) ?_
              rotate_left
              · intro W hSw
                obtain ⟨h0, h1, h2, h3⟩ := hSw
                go_simp
                (try with_reducible rfl)
              try simp only [Act.put, List.setIfInBounds_toArray, List.set_cons_zero, List.set_cons_succ]
              refine wpAnyH_take (i := 11) (oi := { dst := _, op := _, type := _, pos := _, after := _, guard := _ }) (v := ?_) rfl (by kernel_rfl) (by kernel_rfl) (by kernel_rfl) (fun _ _ _ h => h) (Or.inl ⟨by rfl, ?_⟩) (by assumption) ?_
              rotate_left
              · intro W hSw
                obtain ⟨h0, h1, h2, h3⟩ := hSw
                go_simp
                (try with_reducible rfl)
              try simp only [Act.put, List.setIfInBounds_toArray, List.set_cons_zero, List.set_cons_succ]
              refine wpAnyH_take (i := 12) (oi := { dst := _, op := _, type := _, pos := _, after := _, guard := _ }) (v := ?_) rfl (by kernel_rfl) (by kernel_rfl) (by kernel_rfl) (fun _ _ _ h => h) (Or.inl ⟨by rfl, ?_⟩) (by assumption) ?_
              rotate_left
              · intro W hSw
                obtain ⟨h0, h1, h2, h3⟩ := hSw
                go_simp
                (try with_reducible rfl)
              try simp only [Act.put, List.setIfInBounds_toArray, List.set_cons_zero, List.set_cons_succ]
              refine wpAnyH_take (i := 13) (oi := { dst := _, op := _, type := _, pos := _, after := _, guard := _ }) (v := ?_) rfl (by kernel_rfl) (by kernel_rfl) (by kernel_rfl) (fun _ _ _ h => h) (Or.inl ⟨by rfl, ?_⟩) (by assumption) ?_
              rotate_left
              · intro W hSw
                obtain ⟨h0, h1, h2, h3⟩ := hSw
                go_simp
                (try with_reducible rfl)
              try simp only [Act.put, List.setIfInBounds_toArray, List.set_cons_zero, List.set_cons_succ]
              refine wpAnyH_ready (rs := [14]) (by kernel_rfl) (by simp) ?_
              refine AllReadyH.cons (o := { dst := _, op := _, type := _, pos := _, after := _, guard := _ }) rfl (fun K hK => ?_) AllReadyH.nil
              go_simp
              have HYN : Hid (Ty B w ((WD.setCell ⟨g3, i * 2, none⟩ (.int .i64 x.1)).setCell ⟨g3, i * 2 + 1, none⟩ (.string x.2)) M n1 n2 n3 g1 k1 g2 k2 g3 k3 #[.slice (some ⟨g1, 0, none⟩) n1 k1, .int .i64 pn, .slice (some ⟨g2, 0, none⟩) n2 k2, .slice (some ⟨g3, 0, none⟩) n3 k3, .int .u16 (fl : Int)]) := HYD.out.sf i HIL.out x HXS.out
              have hrs := (HROW.out.stored (i * 2) (.int .i64 x.1)).1
              have HBN : Hid (((WD.setCell ⟨g3, i * 2, none⟩ (.int .i64 x.1)).setCell ⟨g3, i * 2 + 1, none⟩ (.string x.2)).heap[T]? = some (.cells #[.slice x1 n1 y1, .int .i64 pn, .slice x2 n2 y2, .slice x3 n3 y3, .int .u16 (fl : Int)] 27 (0, 0))) := far_blk hrs (far_blk HROW.out HBD.out (by decide)) (by decide)
              have HON : Hid (Own w.heap.size ((WD.setCell ⟨g3, i * 2, none⟩ (.int .i64 x.1)).setCell ⟨g3, i * 2 + 1, none⟩ (.string x.2)) (.slice x1 n1 y1) (.slice x2 n2 y2) (.slice x3 n3 y3) s) := own_far (own_far HOD.out HGL.out.2.2) HGL.out.2.2
              have hnb : ∀ (p q : Nat), (⟨h1, p, none⟩ : Addr) ≠ ⟨g3, q, none⟩ := fun p q h => by have h2 := HGL.out.2.2; exact absurd (show h1 = g3 from congrArg Addr.block h) (by omega)
              clear hrs
              refine hK.out _ _ ?_ (fun hHeld => ?_)
              · exact ⟨rcell HYN.out.bs 3 _ rfl, by have := rcell HBN.out 3 _ rfl; rw [HX1.out] at this; exact this, by rw [World.cell?_setCell_other _ _ _ _ (by first | exact hnb _ _ | exact (hnb _ _).symm), World.cell?_setCell_other _ _ _ _ (by first | exact hnb _ _ | exact (hnb _ _).symm)]; exact kc, by rw [World.cell?_setCell_other _ _ _ _ (by first | exact hnb _ _ | exact (hnb _ _).symm), World.cell?_setCell_other _ _ _ _ (by first | exact hnb _ _ | exact (hnb _ _).symm)]; exact kd⟩
              clear hK K
              try simp only [Act.put, List.setIfInBounds_toArray, List.set_cons_zero, List.set_cons_succ]
              refine wpAnyH_done (by kernel_rfl) ?_ _
              refine NoPanic.normal ?_
              clear hHeld
              go_wp2_with fail
              go_roundg (n3 - (i + 1))
              case measure => have := HI.out; have := HIL.out; omega
              case rel => exact ⟨i + 1, by first | rfl | (rw [show (i : Int) + 1 = ((i + 1 : Nat) : Int) by omega]), ⟨HIL.out, rfl⟩, HYN, HBN, HON⟩
            · have e1 : decide ((i : Int) < (n3 : Int)) = false := by rw [decide_eq_false_iff_not]; omega
              have e2 : decide (i < n3) = false := by rw [decide_eq_false_iff_not]; omega
              clear hi HI
              go_wp2_with fail
              (try simp only [Exit.inBlock, Exit.then])
              refine bodyPost_end (results_none rfl _ _ _) rfl ?_
              exact ⟨⟨_, rfl⟩, HY.out⟩

end Go.Proofs.Ytkaciochlemjiaa
