import Derived.Test.YtlmfcaflfbnebaaGpo
namespace Go.Proofs.Ytlmfcaflfbnebaa
open Go.RowKit Go.Maps

theorem below_of_grown {W W' : World} (h : W.grownBy W' none) : Below W.heap.size W W' := ⟨h.os, h.tape, h.output, h.size, fun k hk => h.block k hk (by simp)⟩
@[reducible] def mks : List Value := [.int .i64 (-77), .int .i64 (-77)]
theorem w64n (i : Nat) (h : i ≤ 4611686018427387904) : IntKind.i64.wrap ((i : Int) + 1) = ((i + 1 : Nat) : Int) := by rw [IntKind.wrap_i64]; omega
theorem cell_two_new (w : World) (x y : Value) (t : TypeId) : ∀ j q, [x, y][j]? = some q → (w.alloc (.cells #[x, y] t)).cell? ((⟨w.heap.size, 0, none⟩ : Addr).add j) = some q := by
  intro j u hj
  rw [addPl, Nat.zero_add, Lib.cell_of_heap (heap_new w _)]
  simpa using hj
/-- A list with two marks behind its end, in a row of its own. -/
def Rm (B : Nat) (W : World) (g k : Nat) (l : List Int) : Prop := W.ownsRow B 3 1 (.slice (some ⟨g, 0, none⟩) (l.length + 2) k) (l.length + 2) (iC l ++ mks)

set_option maxRecDepth 100000 in
set_option maxHeartbeats 4000000 in
theorem roomyInts_any {v : Value} {l : List Int} (w : World) (h : Rw w v l.length (iC l)) (hz : l.length * 8 + 16 ≤ 140737488355328) :
    Calls Try.prog 4 #[v] w fun e w' => ∃ g k, e = .returned (.slice (some ⟨g, 0, none⟩) l.length k) ∧ Rm w.heap.size w' g k l ∧ g < w'.heap.size ∧ Below w.heap.size w w' := by
  have HR : Hid (Rw w v l.length (iC l)) := h
  obtain ⟨a, c, rfl⟩ := h.form
  clear h
  have HZ : Hid (l.length * 8 + 16 ≤ 140737488355328) := hz
  obtain ⟨i3, hi3, hx0, hx1, hx2⟩ := info_parts info3
  have HI3 : Hid (Try.prog.info? 3 = some i3 ∧ i3.zero = some (.int .i64 0) ∧ i3.size = 1 ∧ i3.bytes = 8) := ⟨hi3, hx0, hx1, hx2⟩
  clear hi3 hx0 hx1 hx2 hz
  obtain ⟨n, hn⟩ : ∃ n, l.length = n := ⟨_, rfl⟩
  have HN : Hid (l.length = n) := hn
  have hq : (iC l).length = n * 1 := by rw [iC_len, hn]
  have HQ : Hid ((iC l).length = n * 1) := hq
  have HRm : Hid (∀ W g k, W.ownsRow w.heap.size 3 1 (.slice (some ⟨g, 0, none⟩) (n + 2) k) (n + 2) (iC l ++ mks) → Rm w.heap.size W g k l) := fun W g k h => by unfold Rm; rw [HN.out]; exact h
  rw [hn] at HR HZ ⊢
  clear hn hq
  go_enter Try.func4, Try.ntmps4
  go_upto_region 3 with (at_builtin; refine wpList_copy _ rfl _ _ 22 rfl w.heap.size 3 i3 (.int .i64 0) 1 8 Try.underlying22 HI3.out.1 HI3.out.2.1 HI3.out.2.2.1 HI3.out.2.2.2 rfl (by decide) _ n (iC l) rfl rfl HR.out HQ.out (iC_one _) (by have := HZ.out; unfold maxLen; omega) (by have := HZ.out; omega) (Nat.le_refl _) ?_; intro v1 u1 ho1 hg1; obtain ⟨ea1, ma1, rfl⟩ := row_shape ho1; have HO1 : Hid _ := ho1; have HG1 : Hid _ := below_of_grown hg1; clear ho1 hg1)
  obtain ⟨W2, hW2⟩ : ∃ W2, W2 = u1.alloc (.cells #[.int .i64 (-77), .int .i64 (-77)] 3) := ⟨_, rfl⟩
  have HW2 : Hid (W2 = u1.alloc (.cells #[.int .i64 (-77), .int .i64 (-77)] 3)) := hW2
  have HB2 : Hid (Below u1.heap.size u1 W2) := by rw [hW2]; exact bel_up _ _
  have HO2 : Hid (W2.ownsRow w.heap.size 3 1 (.slice ea1 n ma1) n (iC l)) := row_up HO1.out HB2.out
  have HNW : Hid (∀ j q, mks[j]? = some q → W2.cell? ((⟨u1.heap.size, 0, none⟩ : Addr).add j) = some q) := by rw [hW2]; exact cell_two_new u1 _ _ 3
  have HBS : Hid (Below w.heap.size w W2) := below_trans HG1.out HB2.out
  clear hW2
  go_upto_region 4 with (rw [← HW2.out]; at_builtin; refine wpList_append_lies W2 rfl _ _ 22 rfl w.heap.size 3 i3 (.int .i64 0) 1 8 Try.underlying22 HI3.out.1 HI3.out.2.1 HI3.out.2.2.1 HI3.out.2.2.2 rfl (by decide) (.slice ea1 n ma1) n (iC l) rfl HO2.out ⟨u1.heap.size, 0, none⟩ 2 2 mks rfl rfl HNW.out (by simp [Value.oneCell']) (by decide) (by have := HZ.out; unfold maxLen; omega) (by have := HZ.out; omega) HBS.out.size _ rfl ?_; intro g cap w3 ho3 hg3 ha3 hl3; have HO3 : Hid _ := HRm.out _ _ _ ho3; have HC3 : Hid (n + 2 ≤ cap) := (row_cap ho3).1; have HG3 : Hid (Below w.heap.size w w3) := HBS.out.grown hg3 HBS.out.size (fun r e' => (row_tag HO2.out r e').1); have HL3 : Hid (g < w3.heap.size) := hl3; clear ho3 hg3 ha3 hl3)
  have c1 : n ≤ cap := by have := HC3.out; omega
  have c2 : (n : Int) ≤ (cap : Int) := by omega
  go_wp2_with fail
  go_ret
  exact ⟨g, cap, rfl, HO3.out, HL3.out, HG3.out⟩

set_option maxRecDepth 100000 in
set_option maxHeartbeats 4000000 in
theorem sparedInts_any {v : Value} {l : List Int} {B g k : Nat} (w : World) (h : Rm B w g k l) (hv : Rw w v l.length (iC l)) (hz : l.length ≤ 140737488355328) :
    Calls Try.prog 7 #[.slice (some ⟨g, 0, none⟩) l.length k, v] w fun e w' => e = .returned (.bool true) ∧ Below w.heap.size w w' := by
  have HK : Hid (l.length + 2 ≤ k) := (row_cap h).1
  have HC : Hid (∀ j, j < l.length → w.cell? ⟨g, j, none⟩ = some (.int .i64 (l.getD j 0))) := fun j hj => row_at h j _ (by rw [List.getElem?_append_left (by rw [iC_len]; omega)]; exact iC_get l j hj)
  have m0 : w.cell? ⟨g, l.length, none⟩ = some (.int .i64 (-77)) := row_at h _ _ (by rw [List.getElem?_append_right (by rw [iC_len]; omega), iC_len]; simp)
  have m1 : w.cell? ⟨g, l.length + 1, none⟩ = some (.int .i64 (-77)) := row_at h _ _ (by rw [List.getElem?_append_right (by rw [iC_len]; omega), iC_len, show l.length + 1 - l.length * 1 = 1 by omega]; simp)
  have HV : Hid (Rw w v l.length (iC l)) := hv
  have HZ : Hid (l.length ≤ 140737488355328) := hz
  obtain ⟨a, c, rfl⟩ := hv.form
  clear h hv hz
  obtain ⟨n, hn⟩ : ∃ n, l.length = n := ⟨_, rfl⟩
  have HN : Hid (l.length = n) := hn
  have HG : Hid (∀ j, j < n → (iC l)[j]? = some (.int .i64 (l.getD j 0))) := fun j hj => iC_get l j (by have := HN.out; omega)
  rw [hn] at HK HC m0 m1 HV HZ ⊢
  clear hn
  have HM : Hid (∀ W, Below w.heap.size w W → W.cell? ⟨g, n, none⟩ = some (.int .i64 (-77)) ∧ W.cell? ⟨g, n + 1, none⟩ = some (.int .i64 (-77))) := fun W hW => ⟨below_cell hW m0, below_cell hW m1⟩
  clear m0 m1
  go_enter Try.func7, Try.ntmps7
  go_upto_region 2 with fail
  go_loopg [5] n (fun gm v wr => ∃ i : Nat, v = .int .i64 (i : Int) ∧ Hid (Below w.heap.size w wr) ∧ Hid (i ≤ n ∧ gm = n - i))
  case atStart => exact ⟨0, rfl, Below.refl _ _, ⟨Nat.zero_le _, rfl⟩⟩
  case round =>
    obtain ⟨i, rfl, HBW, HI⟩ := hrel
    by_cases hi : i < n
    · obtain ⟨b1, g1, o1, d1, f1, -, -, f2, f3⟩ := HV.out
      obtain ⟨rfl, -, rfl⟩ := Value.slice.inj f1
      obtain rfl := f2 (by omega)
      have ci := below_cell HBW.out (HC.out i hi)
      have cj := below_cell HBW.out (f3 i _ (HG.out i hi))
      obtain ⟨x, hx⟩ : ∃ x, l.getD i 0 = x := ⟨_, rfl⟩
      rw [hx] at ci cj
      have e1 : decide ((i : Int) < (n : Int)) = true := by rw [decide_eq_true_eq]; omega
      have e2 : decide (i < n) = true := by rw [decide_eq_true_eq]; omega
      have e5 : (i : Int) < (n : Int) := by omega
      have k1 : (x != x) = false := by rw [bne_eq_false_iff_eq]
      have HIL : Hid (i < n) := hi
      have hwr := w64n i (by have := HZ.out; omega)
      clear f1 f2 f3 hx
      go_wp2_with fail
      go_region
      go_wp2_with fail
      go_roundg (n - (i + 1))
      case measure => have := HI.out; have := HIL.out; omega
      case rel => exact ⟨i + 1, by first | rfl | (rw [show (i : Int) + 1 = ((i + 1 : Nat) : Int) by omega]), Below.drew HBW.out, ⟨HIL.out, rfl⟩⟩
    · have e1 : decide ((i : Int) < (n : Int)) = false := by rw [decide_eq_false_iff_not]; omega
      have e2 : decide (i < n) = false := by rw [decide_eq_false_iff_not]; omega
      clear hi
      obtain ⟨m0, m1⟩ := HM.out _ HBW.out
      have t1 : ((n : Int) + 2).toNat = n + 2 := by omega
      have u1 : (n : Int) + 2 ≤ (k : Int) := by have := HK.out; omega
      have v1 : n + 2 ≤ k := HK.out
      have w1 : IntKind.i64.wrap ((n : Int) + 2) = (n : Int) + 2 := by have := HZ.out; rw [IntKind.wrap_i64]; omega
      have w2 : IntKind.i64.wrap ((n : Int) + 1) = (n : Int) + 1 := by have := HZ.out; rw [IntKind.wrap_i64]; omega
      go_wp2_with fail
      go_ret
      exact ⟨rfl, HBW.out⟩
end Go.Proofs.Ytlmfcaflfbnebaa
