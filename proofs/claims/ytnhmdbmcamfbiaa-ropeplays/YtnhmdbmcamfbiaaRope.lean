import Derived.Test.YtnhmdbmcamfbiaaAhead
import Derived.Test.YtnhmdbmcamfbiaaBuild
import Derived.Deep.QuietTactic
import Derived.BigQuiet
import Derived.WalkSmall
namespace Go.Proofs.Ytnhmdbmcamfbiaa
open Go.RowKit

theorem IsTree.val {w : World} {v : Value} {t : Rp.T} (h : IsTree w v t) : ∃ u x, v = .iface u x := by
  cases h with
  | leaf s => exact ⟨_, _, rfl⟩
  | branch => exact ⟨_, _, rfl⟩
/-- A rope of a text lies at block b. -/
structure IsRope (w : World) (b : Nat) (txt : List UInt8) : Prop where
  tree : ∃ v t, w.cell? ⟨b, 0, none⟩ = some v ∧ IsTree w v t ∧ t.Bal ∧ t.text = txt
  len : txt.length ≤ 1048576
theorem IsRope.mono {w w' : World} {b : Nat} {txt : List UInt8} (h : IsRope w b txt) (hb : Below w.heap.size w w') : IsRope w' b txt := by
  obtain ⟨⟨v, t, h0, h1, h2, h3⟩, h4⟩ := h
  exact ⟨⟨v, t, below_cell hb h0, h1.mono hb, h2, h3⟩, h4⟩

theorem quiet_same {P : Program} {f : FuncId} {args : Array Value} {w : World} {n : Nat} {v : Value}
    (h : Calls P f args (w.drewN n) fun e w' => e = .returned v ∧ w.drewN n = w') : Calls P f args (w.drewN n) fun e w'' => e = .returned v ∧ ∃ m, w'' = w.drewN m :=
  h.mono fun _ _ ⟨he, hm⟩ => ⟨he, n, hm.symm⟩

/-- clamped -/
def cl (n m : Int) : Int := if n < 0 then 0 else if m < n then m else n
theorem cl_bd (n m : Int) (h : 0 ≤ m) : 0 ≤ cl n m ∧ cl n m ≤ m := by
  unfold cl
  split
  · omega
  · split <;> omega
theorem ret_int {k : IntKind} {a b : Int} (h : a = b) : Ending.returned (.int k a) = .returned (.int k b) := by rw [h]

set_option maxRecDepth 100000 in
set_option maxHeartbeats 400000 in
theorem clamp_any (n m : Int) (w : World) (hm : 0 ≤ m) :
    Calls Try.prog 29 #[.int .i64 n, .int .i64 m] w fun e w' => e = .returned (.int .i64 (cl n m)) ∧ w = w' := by
  go_enter Try.func29, Try.ntmps29
  go_wp2
  all_goals
    go_ret
    exact ⟨ret_int (by unfold cl; split <;> (try split) <;> omega), rfl⟩

set_option maxRecDepth 100000 in
set_option maxHeartbeats 400000 in
theorem len_any (b : Nat) (txt : List UInt8) (w : World) (h : IsRope w b txt) :
    Calls Try.prog 12 #[.pointer (some ⟨b, 0, none⟩)] w fun e w' => e = .returned (.int .i64 (txt.length : Int)) ∧ w = w' := by
  obtain ⟨⟨v, t, c0, ht, hB, rfl⟩, hl⟩ := h
  obtain ⟨ul, xl, fsl, fll, rfl, msl, mll, esl, ell, csl, cll⟩ := ht.face
  rw [← t.text_length] at csl
  have HL : Hid _ := csl
  clear csl cll
  go_enter Try.func12, Try.ntmps12
  go_wp2_with fail
  refine (HL.out _ (Below.refl _ _)).mono ?_
  rintro e w' ⟨rfl, rfl⟩
  go_wp2_with fail
  go_ret
  exact ⟨rfl, rfl⟩

set_option maxRecDepth 100000 in
set_option maxHeartbeats 400000 in
theorem depth_any (b : Nat) (txt : List UInt8) (w : World) (h : IsRope w b txt) :
    Calls Try.prog 13 #[.pointer (some ⟨b, 0, none⟩)] w fun e w' => ∃ d : Nat, e = .returned (.int .i64 (d : Int)) ∧ 1 ≤ d ∧ d ≤ 2 + 2 * Rp.bits txt.length ∧ w = w' := by
  obtain ⟨⟨v, t, c0, ht, hB, rfl⟩, hl⟩ := h
  obtain ⟨ul, xl, fsl, fll, rfl, msl, mll, esl, ell, csl, cll⟩ := ht.face
  have HL : Hid _ := cll
  clear csl cll
  go_enter Try.func13, Try.ntmps13
  go_wp2_with fail
  refine (HL.out _ (Below.refl _ _)).mono ?_
  rintro e w' ⟨rfl, rfl⟩
  go_wp2_with fail
  go_ret
  exact ⟨_, rfl, t.ht_pos, by rw [t.text_length]; exact t.low hB, rfl⟩

set_option maxRecDepth 100000 in
set_option maxHeartbeats 400000 in
theorem new_big (s : ByteArray) (w : World) (h : 1048576 < s.size) :
    Calls Try.prog 10 #[.string s] w fun e w' => e = .returned (.pointer none) ∧ w = w' := by
  go_enter Try.func10, Try.ntmps10
  go_wp2_with fail
  go_ret
  exact ⟨rfl, rfl⟩

theorem rope_new {w w1 : World} {v : Value} {t : Rp.T} {txt : List UInt8} (hb : Below w.heap.size w w1) (ht : IsTree w1 v t) (hB : t.Bal) (hx : t.text = txt) (hl : txt.length ≤ 1048576) :
    IsRope (w1.alloc (.cells #[v] 72)) w1.heap.size txt ∧ Below w.heap.size w (w1.alloc (.cells #[v] 72)) := by
  have hb2 : Below w1.heap.size w1 (w1.alloc (.cells #[v] 72)) := (Below.refl _ _).alloc (Nat.le_refl _) _
  exact ⟨⟨⟨v, t, by simp, ht.mono hb2, hB, hx⟩, hl⟩, below_trans hb hb2⟩

set_option maxRecDepth 100000 in
set_option maxHeartbeats 400000 in
theorem new_any (s : ByteArray) (w : World) (h : s.size ≤ 1048576) :
    Calls Try.prog 10 #[.string s] w fun e w' => ∃ b : Nat, e = .returned (.pointer (some ⟨b, 0, none⟩)) ∧ IsRope w' b s.data.toList ∧ Below w.heap.size w w' := by
  go_enter Try.func10, Try.ntmps10
  go_wp2_with fail
  refine (build_any s.size s w (Nat.le_refl _) (by omega)).mono ?_
  rintro e w1 ⟨v, t, rfl, j⟩
  obtain ⟨u, x, rfl⟩ := j.tree.val
  have J : Hid _ := j
  clear j
  go_wp2_with fail
  go_ret
  have hl : s.data.toList.length ≤ 1048576 := by rw [← Lib.size_eq]; exact h
  exact ⟨_, rfl, rope_new J.out.below J.out.tree J.out.bal J.out.text hl⟩

theorem box3 (w : World) (x y z : Value) (n : Nat) :
    ((w.alloc (.cells #[x, y, z] 30)).drewN n).cell? ⟨w.heap.size, 0, none⟩ = some x ∧ ((w.alloc (.cells #[x, y, z] 30)).drewN n).cell? ⟨w.heap.size, 1, none⟩ = some y ∧
    ((w.alloc (.cells #[x, y, z] 30)).drewN n).cell? ⟨w.heap.size, 2, none⟩ = some z ∧ Below w.heap.size w ((w.alloc (.cells #[x, y, z] 30)).drewN n) ∧ w.heap.size < ((w.alloc (.cells #[x, y, z] 30)).drewN n).heap.size :=
  ⟨by simp, by simp, by simp, below_drewN ((Below.refl _ _).alloc (Nat.le_refl _) _) n, by simp⟩

theorem Ahead.size {w w' : World} {v : Value} {h : ByteArray} {t : Rp.T} {k : Nat} (A : Ahead w w' v h t k) : h.size ≤ k := by
  obtain ⟨r, _, _, e⟩ := A.tree
  have e1 := congrArg List.length e
  rw [List.length_append, List.length_take, ← Lib.size_eq] at e1
  omega
theorem Behind.size {w w' : World} {v : Value} {h : ByteArray} {t : Rp.T} {k : Nat} (A : Behind w w' v h t k) : h.size ≤ t.len - k := by
  obtain ⟨r, _, _, e⟩ := A.tree
  have e1 := congrArg List.length e
  rw [List.length_append, List.length_drop, t.text_length, ← Lib.size_eq] at e1
  omega

theorem splice_text {r3 r4 : Rp.T} {t : List UInt8} {q3 ins q4 : ByteArray} {k k' : Nat} {a d : Int} (h3 : r3.text ++ q3.data.toList = t.take k) (h4 : q4.data.toList ++ r4.text = t.drop k') (hk : k' = a.toNat + d.toNat ∧ k = a.toNat) :
    r3.text ++ (q3 ++ ins ++ q4).data.toList ++ r4.text = t.take a.toNat ++ ins.data.toList ++ t.drop (a.toNat + d.toNat) := by
  obtain ⟨rfl, rfl⟩ := hk
  rw [← h3, ← h4]
  simp [ByteArray.data_append]

/-- the text behind an edit -/
def after (txt : List UInt8) (a d : Int) (ins : ByteArray) : List UInt8 :=
  txt.take (cl a txt.length).toNat ++ ins.data.toList ++ txt.drop ((cl a txt.length).toNat + (cl d (txt.length - cl a txt.length)).toNat)

set_option maxRecDepth 100000 in
set_option maxHeartbeats 1000000 in
theorem splice_big (b : Nat) (txt : List UInt8) (a d : Int) (ins : ByteArray) (w : World) (h : IsRope w b txt)
    (hbig : 1048576 - ((txt.length : Int) - cl d (txt.length - cl a txt.length)) < (ins.size : Int)) :
    Calls Try.prog 11 #[.pointer (some ⟨b, 0, none⟩), .agg #[.int .i64 a, .int .i64 d, .string ins]] w fun e w' => e = .returned (.tuple #[.pointer none, .int .i64 10]) ∧ Below w.heap.size w w' := by
  have hl := h.len
  obtain ⟨n, hn⟩ : ∃ n : Nat, n = txt.length := ⟨_, rfl⟩
  rw [← hn] at hbig hl
  have H1 := cl_bd a n (by omega)
  have H2 := cl_bd d (n - cl a n) (by omega)
  generalize ha : cl a n = a' at *
  generalize hd : cl d (n - a') = d' at *
  have HR : Hid _ := h
  have HA : Hid _ := ha
  have HD : Hid _ := hd
  have HN : Hid _ := hn
  clear h ha hd hn
  have hL : Hid (∀ W, Below w.heap.size w W → Calls Try.prog 12 #[.pointer (some ⟨b, 0, none⟩)] W fun e w' => e = .returned (.int .i64 (n : Int)) ∧ W = w') := fun W hW => by rw [HN.out]; exact len_any b txt W (HR.out.mono hW)
  have hC1 : Hid (∀ W, Calls Try.prog 29 #[.int .i64 a, .int .i64 n] W fun e w' => e = .returned (.int .i64 a') ∧ W = w') := fun W => by rw [← HA.out]; exact clamp_any a n W (by omega)
  have hC2 : Hid (∀ W, Calls Try.prog 29 #[.int .i64 d, .int .i64 (n - a')] W fun e w' => e = .returned (.int .i64 d') ∧ W = w') := fun W => by rw [← HD.out]; exact clamp_any d (n - a') W (by omega)
  have B0 : Hid (∀ (n : Nat), Below w.heap.size w ((w.alloc (.cells #[.int .i64 a, .int .i64 d, .string ins] 30)).drewN n)) := fun n => below_drewN ((Below.refl _ _).alloc (Nat.le_refl _) _) n
  go_enter Try.func11, Try.ntmps11
  go_wp2_with fail
  go_quiet (first | (go_at_call 12; exact quiet_same (hL.out _ (B0.out _))) | (go_at_call 29; exact quiet_same (hC1.out _)))
  obtain ⟨k0, k1, k2, b1, b1'⟩ := box3 w (.int .i64 a) (.int .i64 d) (.string ins) nq
  generalize ((w.alloc (.cells #[.int .i64 a, .int .i64 d, .string ins] 30)).drewN nq) = W1 at *
  have B1 : Hid _ := b1
  clear b1 B0
  go_wp2_with fail
  go_quiet (first | (go_at_call 12; exact quiet_same (hL.out _ (below_drewN B1.out _))) | (go_at_call 29; exact quiet_same (hC2.out _)))
  have k2' : (W1.drewN nq).cell? ⟨w.heap.size, 2, none⟩ = some (.string ins) := k2
  have b2 := below_drewN B1.out nq
  generalize W1.drewN nq = W2 at *
  have B2 : Hid _ := b2
  clear b2
  go_wp2_with fail
  refine (hL.out _ B2.out).mono ?_
  rintro e w' ⟨rfl, rfl⟩
  go_wp2_with fail
  go_ret2
  exact ⟨rfl, B2.out⟩

set_option maxRecDepth 100000 in
set_option maxHeartbeats 1000000 in
theorem splice_ok (b : Nat) (txt : List UInt8) (a d : Int) (ins : ByteArray) (w : World) (h : IsRope w b txt)
    (hbig : (ins.size : Int) ≤ 1048576 - ((txt.length : Int) - cl d (txt.length - cl a txt.length))) :
    Calls Try.prog 11 #[.pointer (some ⟨b, 0, none⟩), .agg #[.int .i64 a, .int .i64 d, .string ins]] w fun e w' => ∃ b' : Nat, e = .returned (.tuple #[.pointer (some ⟨b', 0, none⟩), .int .i64 0]) ∧ IsRope w' b' (after txt a d ins) ∧ Below w.heap.size w w' := by
  have hl := h.len
  obtain ⟨n, hn⟩ : ∃ n : Nat, n = txt.length := ⟨_, rfl⟩
  unfold after
  rw [← hn] at hbig hl
  rw [← hn]
  have H1 := cl_bd a n (by omega)
  have H2 := cl_bd d (n - cl a n) (by omega)
  generalize ha : cl a n = a' at *
  generalize hd : cl d (n - a') = d' at *
  have HR : Hid _ := h
  have HA : Hid _ := ha
  have HD : Hid _ := hd
  have HN : Hid _ := hn
  clear h ha hd hn
  have hL : Hid (∀ W, Below w.heap.size w W → Calls Try.prog 12 #[.pointer (some ⟨b, 0, none⟩)] W fun e w' => e = .returned (.int .i64 (n : Int)) ∧ W = w') := fun W hW => by rw [HN.out]; exact len_any b txt W (HR.out.mono hW)
  have hC1 : Hid (∀ W, Calls Try.prog 29 #[.int .i64 a, .int .i64 n] W fun e w' => e = .returned (.int .i64 a') ∧ W = w') := fun W => by rw [← HA.out]; exact clamp_any a n W (by omega)
  have hC2 : Hid (∀ W, Calls Try.prog 29 #[.int .i64 d, .int .i64 (n - a')] W fun e w' => e = .returned (.int .i64 d') ∧ W = w') := fun W => by rw [← HD.out]; exact clamp_any d (n - a') W (by omega)
  obtain ⟨v, t, c0, ht, hB, htx⟩ := HR.out.tree
  obtain ⟨u, x, rfl⟩ := ht.val
  have htl : t.len = n := by rw [HN.out, ← htx, t.text_length]
  have TT : Hid _ := ht
  have TX : Hid _ := htx
  have TL : Hid _ := htl
  have C0 : Hid _ := c0
  clear ht htx htl c0
  have B0 : Hid (∀ (n : Nat), Below w.heap.size w ((w.alloc (.cells #[.int .i64 a, .int .i64 d, .string ins] 30)).drewN n)) := fun n => below_drewN ((Below.refl _ _).alloc (Nat.le_refl _) _) n
  go_enter Try.func11, Try.ntmps11
  go_wp2_with fail
  go_quiet (first | (go_at_call 12; exact quiet_same (hL.out _ (B0.out _))) | (go_at_call 29; exact quiet_same (hC1.out _)))
  obtain ⟨k0, k1, k2, b1, b1'⟩ := box3 w (.int .i64 a) (.int .i64 d) (.string ins) nq
  generalize ((w.alloc (.cells #[.int .i64 a, .int .i64 d, .string ins] 30)).drewN nq) = W1 at *
  have B1 : Hid _ := b1
  clear b1 B0
  go_wp2_with fail
  go_quiet (first | (go_at_call 12; exact quiet_same (hL.out _ (below_drewN B1.out _))) | (go_at_call 29; exact quiet_same (hC2.out _)))
  have k2' : (W1.drewN nq).cell? ⟨w.heap.size, 2, none⟩ = some (.string ins) := k2
  have b2 := below_drewN B1.out nq
  have z2 : w.heap.size < (W1.drewN nq).heap.size := b1'
  generalize W1.drewN nq = W2 at *
  have B2 : Hid _ := b2
  clear b2 k0 k1 k2 b1'
  go_wp2_with fail
  refine (hL.out _ B2.out).mono ?_
  rintro e w' ⟨rfl, rfl⟩
  have c2 := below_cell B2.out C0.out
  go_wp2_with fail
  refine (ahead_any t _ _ a' (by omega) (TT.out.mono B2.out) hB (by have := TL.out; omega) (by have := TL.out; omega)).mono ?_
  rintro e W3 ⟨v3, q3, rfl, j3⟩
  have b3 : Below w.heap.size w W3 := below_trans B2.out j3.below
  have c3 := below_cell b3 C0.out
  have k3 := below_cell j3.below k2'
  have s3 : (q3.size : Int) ≤ a' := by have := j3.size; omega
  have J3 : Hid _ := j3
  have B3 : Hid _ := b3
  clear j3 b3 c2
  go_wp2_with fail
  refine (behind_any t _ _ (a' + d') (by omega) (TT.out.mono B3.out) hB (by have := TL.out; omega) (by have := TL.out; omega)).mono ?_
  rintro e W4 ⟨v4, q4, rfl, j4⟩
  have b4 : Below w.heap.size w W4 := below_trans B3.out j4.below
  have k4 := below_cell j4.below k3
  have s4 : (q4.size : Int) ≤ n - (a' + d') := by have := j4.size; have := TL.out; omega
  have s5 : q3.size + ins.size ≤ 1048576 := by omega
  have s6 : (q3 ++ ins).size = q3.size + ins.size := ByteArray.size_append
  have s7 : (q3 ++ ins).size + q4.size ≤ 1048576 := by omega
  have S6 : Hid _ := s6
  clear s6
  have J4 : Hid _ := j4
  have B4 : Hid _ := b4
  clear j4 b4 c3
  go_wp2_with fail
  refine (build_any _ (q3 ++ ins ++ q4) _ (Nat.le_refl _) (by rw [ByteArray.size_append]; omega)).mono ?_
  rintro e W5 ⟨v5, t5, rfl, j5⟩
  obtain ⟨⟨r3, x3, y3, z3⟩, m3⟩ := J3.out
  obtain ⟨⟨r4, x4, y4, z4⟩, m4⟩ := J4.out
  have lr3 : r3.len ≤ n := by
    have e1 := congrArg List.length z3
    rw [List.length_append, List.length_take, t.text_length, r3.text_length] at e1
    have := TL.out; omega
  have lr4 : r4.len ≤ n := by
    have e1 := congrArg List.length z4
    rw [List.length_append, List.length_drop, t.text_length, r4.text_length] at e1
    have := TL.out; omega
  have l5 : t5.len ≤ 1048576 := by
    have := j5.len
    rw [this, ByteArray.size_append]; omega
  have X3 : Hid _ := (x3.mono m4).mono j5.below
  have X4 : Hid _ := x4.mono j5.below
  have J5 : Hid _ := j5
  have B5 : Hid _ := below_trans B4.out j5.below
  have Z3 : Hid _ := z3
  have Z4 : Hid _ := z4
  clear j5 z3 z4 x3 x4 m3 m4 J3 J4
  go_wp2_with fail
  refine (join_any _ _ r3 t5 _ X3.out J5.out.tree y3 J5.out.bal (by omega)).mono ?_
  rintro e W6 ⟨v6, t6, rfl, j6⟩
  have l6 : t6.len ≤ 2097152 := by have := j6.len; omega
  have X4' : Hid _ := X4.out.mono j6.below
  have J6 : Hid _ := j6
  have B6 : Hid _ := below_trans B5.out j6.below
  clear j6
  go_wp2_with fail
  refine (join_any _ _ t6 r4 _ J6.out.tree X4'.out J6.out.bal y4 (by omega)).mono ?_
  rintro e W7 ⟨v7, t7, rfl, j7⟩
  obtain ⟨u7, x7, rfl⟩ := j7.tree.val
  have J7 : Hid _ := j7
  have B7 : Hid _ := below_trans B6.out j7.below
  clear j7
  go_wp2_with fail
  go_ret2
  refine ⟨_, rfl, rope_new B7.out J7.out.tree J7.out.bal ?_ ?_⟩
  · rw [J7.out.text, J6.out.text, J5.out.text, ← TX.out]
    exact splice_text Z3.out Z4.out (by omega)
  · have hn := HN.out
    have q := Lib.size_eq ins
    simp only [List.length_append, List.length_take, List.length_drop]
    omega

end Go.Proofs.Ytnhmdbmcamfbiaa
