import Derived.Test.YtkaciochlemjiaaLsh
import Derived.Test.YtkaciochlemjiaaTwn
import Derived.Test.YtkaciochlemjiaaHld
namespace Go.Proofs.Ytkaciochlemjiaa
open Go.RowKit Go.Maps

/-- A boxed state. -/
structure Bst (W : World) (b : Nat) (vi vq vf : Value) (s : Stt) : Prop where
  blk : W.heap[b]? = some (.cells #[vi, .int .i64 s.pen, vq, vf, .int .u16 (s.flg : Int)] 27 (0, 0))
  stm : Stm W vi vq vf s
theorem Bst.up {W W' : World} {b : Nat} {vi vq vf : Value} {s : Stt} (h : Bst W b vi vq vf s) (hb : Below W.heap.size W W') : Bst W' b vi vq vf s :=
  ⟨by rw [hb.block _ (lt_of_heap h.blk)]; exact h.blk, h.stm.up hb⟩
theorem Bst.new {w : World} {vi vq vf : Value} {s : Stt} (h : Stm w vi vq vf s) : Bst (w.alloc (.cells #[vi, .int .i64 s.pen, vq, vf, .int .u16 (s.flg : Int)] 27)) w.heap.size vi vq vf s :=
  ⟨heap_new w _, h.up (bel_up _ _)⟩
theorem Bst.cells {W : World} {b : Nat} {vi vq vf : Value} {s : Stt} (h : Bst W b vi vq vf s) : W.cell? ⟨b, 0, none⟩ = some vi ∧ W.cell? ⟨b, 1, none⟩ = some (.int .i64 s.pen) ∧ W.cell? ⟨b, 2, none⟩ = some vq ∧ W.cell? ⟨b, 3, none⟩ = some vf ∧ W.cell? ⟨b, 4, none⟩ = some (.int .u16 (s.flg : Int)) := box_cells h.blk
/-- What actions answer, in one. -/
theorem As.one {w w' : World} {r : Except Int Stt} {e : Ending} (h : As w r e w') (hr : ∀ c, r = .error c → c ≠ 0) : ∃ t vi vq vf c, e = .returned (.tuple #[sv vi vq vf t, .int .i64 c]) ∧ Stm w' vi vq vf t ∧ Below w.heap.size w w' ∧ ((r = .ok t ∧ c = 0) ∨ (r = .error c ∧ c ≠ 0)) := by
  obtain ⟨hb, ⟨t, vi, vq, vf, h1, h2, h3⟩ | ⟨c, h1, h2⟩⟩ := h
  · exact ⟨t, vi, vq, vf, 0, h2, h3.stm, hb, .inl ⟨h1, rfl⟩⟩
  · exact ⟨zst, .slice none 0 0, .slice none 0 0, .slice none 0 0, c, h2, zst_stm _, hb, .inr ⟨h1, hr c h1⟩⟩
theorem act_one {w w' : World} {s : Stt} {k n mo : Int} {m : ByteArray} {e : Ending} (hs : s.shp = true) (h : As w (if s.shp then act s k n mo m else .error 65) e w') : ∃ t vi vq vf c, e = .returned (.tuple #[sv vi vq vf t, .int .i64 c]) ∧ Stm w' vi vq vf t ∧ Below w.heap.size w w' ∧ ((act s k n mo m = .ok t ∧ c = 0) ∨ (act s k n mo m = .error c ∧ c ≠ 0)) := by
  rw [hs, if_pos rfl] at h
  exact As.one h (fun c hc => by have := (act_ok s k n mo m hs).2 c hc; omega)
theorem shp_small {s : Stt} (h : s.shp = true) : s.ind.length ≤ 32 ∧ s.que.length ≤ 8 ∧ s.frm.length ≤ 16 := by
  simp only [Stt.shp, Stt.oi, Stt.oq, Stt.of, Bool.and_eq_true, decide_eq_true_eq] at h
  obtain ⟨⟨⟨⟨⟨h1, _⟩, _⟩, _⟩, h4, _⟩, h5, _⟩ := h
  exact ⟨h1, h4, h5⟩
theorem rsame_yes {vi vq vf ui uq uf : Value} {s : Stt} (w : World) (h : Stm w vi vq vf s) (k : Stm w ui uq uf s) (hs : s.ind.length ≤ 4611686018427387904 ∧ s.que.length ≤ 4611686018427387904 ∧ s.frm.length ≤ 4611686018427387904) :
    Calls Try.prog 12 #[sv vi vq vf s, sv ui uq uf s] w fun e w' => e = .returned (.bool true) ∧ Below w.heap.size w w' := by
  have := rsame_any w h k hs.1 hs.2.1 hs.2.2
  rw [decide_eq_true rfl] at this
  exact this
/-- A state, or what it makes. -/
theorem As.good {w w' : World} {t : Stt} {e : Ending} (h : As w (.ok t) e w') : ∃ vi vq vf, e = .returned (.tuple #[sv vi vq vf t, .int .i64 0]) ∧ Stm w' vi vq vf t ∧ Below w.heap.size w w' := by
  obtain ⟨hb, ⟨t', vi, vq, vf, h1, h2, h3⟩ | ⟨c, h1, _⟩⟩ := h
  · cases h1; exact ⟨vi, vq, vf, h2, h3.stm, hb⟩
  · cases h1
theorem bit_mask (k j : Nat) (hk : k < 16) : (65535 - 2 ^ k).testBit j = (decide (j < 16) && !decide (k = j)) := by
  have e : 65535 - 2 ^ k = 2 ^ 16 - (2 ^ k + 1) := by
    have : 2 ^ k < 2 ^ 16 := Nat.pow_lt_pow_right (a := 2) (by decide) hk
    omega
  rw [e, Nat.testBit_two_pow_sub_succ (Nat.pow_lt_pow_right (a := 2) (by decide) hk), Nat.testBit_two_pow]
theorem low_bit (a j : Nat) (ha : a < 65536) (hj : 16 ≤ j) : a.testBit j = false := Nat.testBit_lt_two_pow (Nat.lt_of_lt_of_le ha (Nat.pow_le_pow_right (n := 2) (by decide) hj))
theorem or_off (a k : Nat) (hk : k < 16) : (a ||| 2 ^ k) &&& (65535 - 2 ^ k) = a &&& (65535 - 2 ^ k) := by
  apply Nat.eq_of_testBit_eq
  intro j
  rw [Nat.testBit_and, Nat.testBit_and, Nat.testBit_or, bit_mask k j hk, Nat.testBit_two_pow]
  by_cases h : k = j
  · subst h; simp
  · simp [h]
theorem flags (s : Stt) (k : Nat) (hf : s.flg < 65536) (hk : k < 16) : s.flg ||| 2 ^ k < 65536 ∧ s.flg &&& (65535 - 2 ^ k) < 65536 ∧ hld { s with flg := s.flg ||| 2 ^ k } 5 k false = true ∧ hld { s with flg := s.flg &&& (65535 - 2 ^ k) } 6 k false = true ∧ True ∧ True := by
  have hd : (decide (0 ≤ (k : Int)) && decide ((k : Int) < 16)) = true := by simp; omega
  refine ⟨Nat.or_lt_two_pow (n := 16) hf (Nat.pow_lt_pow_right (a := 2) (by decide) hk), Nat.lt_of_le_of_lt Nat.and_le_left hf, ?_, ?_, trivial, trivial⟩
  · show ((decide (0 ≤ (k : Int)) && decide ((k : Int) < 16)) && (s.flg ||| 2 ^ k).testBit (k : Int).toNat) = true
    rw [hd, Int.toNat_natCast, Nat.testBit_or, Nat.testBit_two_pow]
    simp
  · show ((decide (0 ≤ (k : Int)) && decide ((k : Int) < 16)) && !(s.flg &&& (65535 - 2 ^ k)).testBit (k : Int).toNat) = true
    rw [hd, Int.toNat_natCast, Nat.testBit_and, bit_mask k k hk]
    simp
theorem act_on (s : Stt) (k : Nat) (m : ByteArray) (hk : k < 16) : act s 9 k 0 m = .ok { s with flg := s.flg ||| 2 ^ k } := by
  show aTurn s k true = _
  unfold aTurn
  rw [if_neg (by omega), Int.toNat_natCast]
  rfl
theorem act_off (s : Stt) (k : Nat) (m : ByteArray) (hk : k < 16) : act s 10 k 0 m = .ok { s with flg := s.flg &&& (65535 - 2 ^ k) } := by
  show aTurn s k false = _
  unfold aTurn
  rw [if_neg (by omega), Int.toNat_natCast]
  rfl
theorem acts_on (s : Stt) (k : Nat) (m : ByteArray) (hk : k < 16) (_hf : s.flg < 65536) : acts m s [(9, (k : Int), 0), (9, (k : Int), 0)] = .ok { s with flg := s.flg ||| 2 ^ k } := by
  simp only [acts, act_on _ k m hk]
  rw [Nat.or_assoc, Nat.or_self]
theorem acts_off (s : Stt) (k : Nat) (m : ByteArray) (hk : k < 16) (_hf : s.flg < 65536) : acts m s [(9, (k : Int), 0), (10, (k : Int), 0)] = .ok { s with flg := s.flg &&& (65535 - 2 ^ k) } := by
  simp only [acts, act_on _ k m hk, act_off _ k m hk]
  rw [or_off s.flg k hk]
/-- Indent and drop. -/
theorem pair_ind (s a : Stt) (m : ByteArray) (h : act s 2 0 0 m = .ok a) : act a 4 0 0 m = .ok { s with pen := -1 } := by
  have h1 : aIndent s = .ok a := h
  unfold aIndent at h1
  split at h1
  · cases h1
  split at h1
  · cases h1
  cases h1
  show aDrop _ = _
  unfold aDrop
  rw [if_neg (by simp)]
  simp
/-- Enter and leave. -/
theorem pair_frm (s c : Stt) (n : Int) (m : ByteArray) (h : act s 7 n 3 m = .ok c) : act c 8 0 0 m = .ok s ∧ ∃ d, c.frm = s.frm ++ [(3, d)] := by
  have h1 : aEnter s n 3 m = .ok c := h
  unfold aEnter at h1
  split at h1
  · cases h1
  split at h1
  · cases h1
  split at h1
  · cases h1
  cases h1
  refine ⟨?_, _, rfl⟩
  show aLeave _ = _
  unfold aLeave
  rw [if_neg (by simp)]
  simp
/-- Enqueue into nothing and dequeue. -/
theorem pair_que (s x : Stt) (n : Int) (m : ByteArray) (h : act s 5 n 0 m = .ok x) (hq : s.que.length = 0) : act x 6 0 0 m = .ok s := by
  have h1 : aEnqueue s n m = .ok x := h
  unfold aEnqueue at h1
  split at h1
  · cases h1
  split at h1
  · cases h1
  split at h1
  · cases h1
  cases h1
  show aDequeue _ = _
  unfold aDequeue
  rw [if_neg (by simp)]
  have e : s.que = [] := List.length_eq_zero_iff.1 hq
  obtain ⟨i, p, q, f, g⟩ := s
  simp only at e
  subst e
  rfl
end Go.Proofs.Ytkaciochlemjiaa
