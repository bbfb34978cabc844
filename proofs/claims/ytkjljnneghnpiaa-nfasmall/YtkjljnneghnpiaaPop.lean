namespace Go.Proofs
namespace Ytkjljnneghnpiaa
/-! Classes as sets of bytes: words, their bits, how many there are. -/
def B : List Nat → Nat
  | [] => 0
  | b :: l => b + 256 * B l
def pc : Nat → Nat → Nat
  | 0, _ => 0
  | n + 1, x => x % 2 + pc n (x / 2)
def pb (b : Nat) : Nat := b % 2 + b / 2 % 2 + b / 4 % 2 + b / 8 % 2 + b / 16 % 2 + b / 32 % 2 + b / 64 % 2 + b / 128 % 2
theorem and_split (a c d e : Nat) (ha : a < 256) (hd : d < 256) : (a + 256 * c) &&& (d + 256 * e) = (a &&& d) + 256 * (c &&& e) := by
  have had : a &&& d < 2 ^ 8 := Nat.lt_of_le_of_lt Nat.and_le_left ha
  apply Nat.eq_of_testBit_eq
  intro j
  have e1 : a + 256 * c = 2 ^ 8 * c + a := by omega
  have e2 : d + 256 * e = 2 ^ 8 * e + d := by omega
  have e3 : (a &&& d) + 256 * (c &&& e) = 2 ^ 8 * (c &&& e) + (a &&& d) := by omega
  rw [Nat.testBit_and, e1, e2, e3, Nat.testBit_two_pow_mul_add _ ha, Nat.testBit_two_pow_mul_add _ hd, Nat.testBit_two_pow_mul_add _ had]
  split
  · rw [Nat.testBit_and]
  · rw [Nat.testBit_and]
def f1 (b : Nat) : Nat := (b / 2 &&& 85) + (b &&& 85)
def f2 (b : Nat) : Nat := (b / 4 &&& 51) + (b &&& 51)
def f3 (b : Nat) : Nat := (b / 16 + b) &&& 15
theorem k1 : ∀ b, b < 256 → ((b / 2 + 128) &&& 85) = (b / 2 &&& 85) ∧ f1 b < 256 ∧ f2 b < 256 ∧ f2 (f1 b) % 16 ≤ 4 ∧ f2 (f1 b) < 80 ∧ f3 (f2 (f1 b)) = pb b ∧ pb b ≤ 8 := by decide +kernel
theorem k2 : ∀ b, b < 256 → ∀ c, c < 4 → ((b / 4 + 64 * c) &&& 51) = (b / 4 &&& 51) := by decide +kernel
theorem k3 : ∀ b, b < 80 → ∀ c, c < 5 → ((b / 16 + 16 * c + b) &&& 15) = f3 b := by decide +kernel
theorem s1 (l : List Nat) (h : ∀ b ∈ l, b < 256) : (B l / 2 &&& B (l.map fun _ => 85)) + (B l &&& B (l.map fun _ => 85)) = B (l.map f1) := by
  induction l with
  | nil => decide
  | cons b l ih =>
    have hb := h b (by simp)
    have ih := ih (fun x hx => h x (by simp [hx]))
    simp only [List.map_cons, B]
    have e : (b + 256 * B l) / 2 = (b / 2 + 128 * (B l % 2)) + 256 * (B l / 2) := by omega
    rw [e, and_split _ _ _ _ (by omega) (by omega), and_split _ _ _ _ hb (by omega)]
    have : ((b / 2 + 128 * (B l % 2)) &&& 85) = (b / 2 &&& 85) := by
      rcases Nat.mod_two_eq_zero_or_one (B l) with h0 | h0
      · rw [h0]; simp
      · rw [h0]; exact (k1 b hb).1
    rw [this]
    unfold f1 at *
    omega
theorem s2 (l : List Nat) (h : ∀ b ∈ l, b < 256) : (B l / 4 &&& B (l.map fun _ => 51)) + (B l &&& B (l.map fun _ => 51)) = B (l.map f2) := by
  induction l with
  | nil => decide
  | cons b l ih =>
    have hb := h b (by simp)
    have ih := ih (fun x hx => h x (by simp [hx]))
    simp only [List.map_cons, B]
    have e : (b + 256 * B l) / 4 = (b / 4 + 64 * (B l % 4)) + 256 * (B l / 4) := by omega
    rw [e, and_split _ _ _ _ (by omega) (by omega), and_split _ _ _ _ hb (by omega), k2 b hb _ (Nat.mod_lt _ (by omega))]
    unfold f2 at *
    omega
theorem s3 (l : List Nat) (h : ∀ b ∈ l, b < 80 ∧ b % 16 ≤ 4) : ((B l / 16 + B l) &&& B (l.map fun _ => 15)) = B (l.map f3) := by
  induction l with
  | nil => decide
  | cons b l ih =>
    have hb := h b (by simp)
    have ih := ih (fun x hx => h x (by simp [hx]))
    have hm : B l % 16 ≤ 4 := by
      cases l with
      | nil => decide
      | cons c l => have := h c (by simp); simp only [B]; omega
    simp only [List.map_cons, B]
    have e : (b + 256 * B l) / 16 + (b + 256 * B l) = (b / 16 + 16 * (B l % 16) + b) + 256 * (B l / 16 + B l) := by omega
    rw [e, and_split _ _ _ _ (by omega) (by omega), k3 b hb.1 _ (by omega), ih]
theorem pc8 (n b c : Nat) (h : b < 256) : pc (n + 8) (b + 256 * c) = pb b + pc n c := by
  have e1 : (b + 256 * c) / 2 / 2 / 2 / 2 / 2 / 2 / 2 / 2 = c := by omega
  simp only [pc, e1]
  unfold pb
  omega
theorem bytes (x : Nat) (h : x < 18446744073709551616) : ∃ l : List Nat, l.length = 8 ∧ (∀ b ∈ l, b < 256) ∧ x = B l := by
  refine ⟨[x % 256, x / 256 % 256, x / 65536 % 256, x / 16777216 % 256, x / 4294967296 % 256, x / 1099511627776 % 256, x / 281474976710656 % 256, x / 72057594037927936], rfl, ?_, ?_⟩
  · simp; omega
  · simp only [B]; omega
set_option maxHeartbeats 2000000 in
/-- bits.OnesCount64's own steps count the bits. -/
theorem ones (x x1 x2 x3 x4 x5 x6 : Nat) (h : x < 18446744073709551616) (h1 : x1 = (x / 2 &&& 6148914691236517205) + (x &&& 6148914691236517205))
    (h2 : x2 = (x1 / 4 &&& 3689348814741910323) + (x1 &&& 3689348814741910323)) (h3 : x3 = ((x2 / 16 + x2) &&& 1085102592571150095))
    (h4 : x4 = x3 + x3 / 256) (h5 : x5 = x4 + x4 / 65536) (h6 : x6 = x5 + x5 / 4294967296) :
    x6 % 128 = pc 64 x ∧ x1 < 18446744073709551616 ∧ x2 < 18446744073709551616 ∧ x2 / 16 + x2 < 18446744073709551616 ∧ x4 < 18446744073709551616 ∧ x5 < 18446744073709551616 ∧ x6 < 18446744073709551616 := by
  obtain ⟨l, hl, hb, rfl⟩ := bytes x h
  match l, hl with
  | [b0, b1, b2, b3, b4, b5, b6, b7], _ =>
    have m0 : B ([b0, b1, b2, b3, b4, b5, b6, b7].map fun _ => 85) = 6148914691236517205 := by simp [B]
    have m1 : B ((([b0, b1, b2, b3, b4, b5, b6, b7].map f1)).map fun _ => 51) = 3689348814741910323 := by simp [B]
    have m2 : B (((([b0, b1, b2, b3, b4, b5, b6, b7].map f1)).map f2).map fun _ => 15) = 1085102592571150095 := by simp [B]
    have e1 : x1 = B ([b0, b1, b2, b3, b4, b5, b6, b7].map f1) := by
      have := s1 _ hb
      rw [m0] at this
      rw [h1]; exact this
    have e2 : x2 = B (([b0, b1, b2, b3, b4, b5, b6, b7].map f1).map f2) := by
      rw [h2, e1, ← m1]
      refine s2 _ ?_
      intro b h'
      obtain ⟨a, ha, rfl⟩ := List.mem_map.1 h'
      exact (k1 a (hb a ha)).2.1
    have e3 : x3 = B ((([b0, b1, b2, b3, b4, b5, b6, b7].map f1).map f2).map f3) := by
      rw [h3, e2, ← m2]
      refine s3 _ ?_
      intro b h'
      rw [List.map_map] at h'
      obtain ⟨a, ha, rfl⟩ := List.mem_map.1 h'
      exact ⟨(k1 a (hb a ha)).2.2.2.2.1, (k1 a (hb a ha)).2.2.2.1⟩
    simp only [List.map_cons, List.map_nil, B] at e1 e2 e3
    have q0 := k1 b0 (hb b0 (by simp)); have q1 := k1 b1 (hb b1 (by simp)); have q2 := k1 b2 (hb b2 (by simp)); have q3 := k1 b3 (hb b3 (by simp))
    have q4 := k1 b4 (hb b4 (by simp)); have q5 := k1 b5 (hb b5 (by simp)); have q6 := k1 b6 (hb b6 (by simp)); have q7 := k1 b7 (hb b7 (by simp))
    have ep : pc 64 (B [b0, b1, b2, b3, b4, b5, b6, b7]) = pb b0 + (pb b1 + (pb b2 + (pb b3 + (pb b4 + (pb b5 + (pb b6 + pb b7)))))) := by
      simp only [B]
      rw [pc8 56 _ _ (hb b0 (by simp)), pc8 48 _ _ (hb b1 (by simp)), pc8 40 _ _ (hb b2 (by simp)), pc8 32 _ _ (hb b3 (by simp)), pc8 24 _ _ (hb b4 (by simp)), pc8 16 _ _ (hb b5 (by simp)), pc8 8 _ _ (hb b6 (by simp)), pc8 0 _ _ (hb b7 (by simp))]
      simp only [pc]; omega
    rw [ep]
    rw [q0.2.2.2.2.2.1, q1.2.2.2.2.2.1, q2.2.2.2.2.2.1, q3.2.2.2.2.2.1, q4.2.2.2.2.2.1, q5.2.2.2.2.2.1, q6.2.2.2.2.2.1, q7.2.2.2.2.2.1] at e3
    have r0 := q0.2.2.2.2.2.2; have r1 := q1.2.2.2.2.2.2; have r2 := q2.2.2.2.2.2.2; have r3 := q3.2.2.2.2.2.2; have r4 := q4.2.2.2.2.2.2; have r5 := q5.2.2.2.2.2.2; have r6 := q6.2.2.2.2.2.2; have r7 := q7.2.2.2.2.2.2
    have t0 := q0.2.1; have t1 := q1.2.1; have t2 := q2.2.1; have t3 := q3.2.1; have t4 := q4.2.1; have t5 := q5.2.1; have t6 := q6.2.1; have t7 := q7.2.1
    have u0 := q0.2.2.2.2.1; have u1 := q1.2.2.2.2.1; have u2 := q2.2.2.2.2.1; have u3 := q3.2.2.2.2.1; have u4 := q4.2.2.2.2.1; have u5 := q5.2.2.2.2.1; have u6 := q6.2.2.2.2.1; have u7 := q7.2.2.2.2.1
    clear q0 q1 q2 q3 q4 q5 q6 q7 hb h ep
    generalize pb b0 = p0 at *; generalize pb b1 = p1 at *; generalize pb b2 = p2 at *; generalize pb b3 = p3 at *
    generalize pb b4 = p4 at *; generalize pb b5 = p5 at *; generalize pb b6 = p6 at *; generalize pb b7 = p7 at *
    have g3 : x3 / 256 = p1 + 256 * (p2 + 256 * (p3 + 256 * (p4 + 256 * (p5 + 256 * (p6 + 256 * p7))))) := by clear h1 h2 h3 h4 h5 h6 e1 e2; omega
    have g4 : x4 = (p0 + p1) + 256 * ((p1 + p2) + 256 * ((p2 + p3) + 256 * ((p3 + p4) + 256 * ((p4 + p5) + 256 * ((p5 + p6) + 256 * ((p6 + p7) + 256 * p7)))))) := by rw [h4, g3, e3]; clear h1 h2 h3 h4 h5 h6 e1 e2 e3 g3; omega
    have g5 : x4 / 65536 = (p2 + p3) + 256 * ((p3 + p4) + 256 * ((p4 + p5) + 256 * ((p5 + p6) + 256 * ((p6 + p7) + 256 * p7)))) := by clear h1 h2 h3 h4 h5 h6 e1 e2 e3 g3; omega
    have g6 : x5 = (p0 + p1 + p2 + p3) + 256 * ((p1 + p2 + p3 + p4) + 256 * ((p2 + p3 + p4 + p5) + 256 * ((p3 + p4 + p5 + p6) + 256 * ((p4 + p5 + p6 + p7) + 256 * ((p5 + p6 + p7) + 256 * ((p6 + p7) + 256 * p7)))))) := by rw [h5, g5, g4]; clear h1 h2 h3 h4 h5 h6 e1 e2 e3 g3 g4 g5; omega
    have g7 : x5 / 4294967296 = (p4 + p5 + p6 + p7) + 256 * ((p5 + p6 + p7) + 256 * ((p6 + p7) + 256 * p7)) := by clear h1 h2 h3 h4 h5 h6 e1 e2 e3 g3 g4 g5; omega
    have g8 : x6 = (p0 + p1 + p2 + p3 + p4 + p5 + p6 + p7) + 256 * ((p1 + p2 + p3 + p4 + p5 + p6 + p7) + 256 * ((p2 + p3 + p4 + p5 + p6 + p7) + 256 * ((p3 + p4 + p5 + p6 + p7) + 256 * ((p4 + p5 + p6 + p7) + 256 * ((p5 + p6 + p7) + 256 * ((p6 + p7) + 256 * p7)))))) := by rw [h6, g7, g6]; clear h1 h2 h3 h4 h5 h6 e1 e2 e3 g3 g4 g5 g6 g7; omega
    clear h1 h2 h3 h4 h5 h6 g3 g5 g7
    refine ⟨?_, ?_, ?_, ?_, ?_, ?_, ?_⟩
    · generalize (p1 + p2 + p3 + p4 + p5 + p6 + p7) + 256 * ((p2 + p3 + p4 + p5 + p6 + p7) + 256 * ((p3 + p4 + p5 + p6 + p7) + 256 * ((p4 + p5 + p6 + p7) + 256 * ((p5 + p6 + p7) + 256 * ((p6 + p7) + 256 * p7))))) = R at g8
      clear e1 e2 e3 g4 g6 t0 t1 t2 t3 t4 t5 t6 t7 u0 u1 u2 u3 u4 u5 u6 u7
      omega
    · rw [e1]; clear e1 e2 e3 g4 g6 g8 u0 u1 u2 u3 u4 u5 u6 u7 r0 r1 r2 r3 r4 r5 r6 r7; omega
    · rw [e2]; clear e1 e2 e3 g4 g6 g8 t0 t1 t2 t3 t4 t5 t6 t7 r0 r1 r2 r3 r4 r5 r6 r7; omega
    · have : x2 < 9223372036854775808 := by rw [e2]; clear e1 e2 e3 g4 g6 g8 t0 t1 t2 t3 t4 t5 t6 t7 r0 r1 r2 r3 r4 r5 r6 r7; omega
      clear e1 e2 e3 g4 g6 g8; omega
    · rw [g4]; clear e1 e2 e3 g4 g6 g8 t0 t1 t2 t3 t4 t5 t6 t7 u0 u1 u2 u3 u4 u5 u6 u7; omega
    · rw [g6]; clear e1 e2 e3 g4 g6 g8 t0 t1 t2 t3 t4 t5 t6 t7 u0 u1 u2 u3 u4 u5 u6 u7; omega
    · rw [g8]; clear e1 e2 e3 g4 g6 g8 t0 t1 t2 t3 t4 t5 t6 t7 u0 u1 u2 u3 u4 u5 u6 u7; omega
end Ytkjljnneghnpiaa
end Go.Proofs
