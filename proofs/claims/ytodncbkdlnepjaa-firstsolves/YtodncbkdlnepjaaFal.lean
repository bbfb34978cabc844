import Derived.Test.YtodncbkdlnepjaaFar
namespace Go.Proofs.Ytodncbkdlnepjaa
open Go.RowKit Go.Maps

theorem u64_wrap (n : Int) (h0 : 0 ≤ n) (h1 : n < 2 ^ 64) : IntKind.u64.wrap n = n := by simp [IntKind.wrap, IntKind.bits, IntKind.signed]; omega
theorem u64_or (a b : Nat) (ha : a < 2 ^ 64) (hb : b < 2 ^ 64) : bits .or .u64 (a : Int) (b : Int) = ((a ||| b : Nat) : Int) := (bits_nat .u64 64 (by decide) u64_wrap a b ha hb).2
/-- A row of symbols in memory. -/
def nC (l : List Nat) : List Value := l.map fun (x : Nat) => Value.int .i64 (x : Int)
theorem nC_app (l k : List Nat) : nC (l ++ k) = nC l ++ nC k := by simp [nC]
theorem nC_len (l : List Nat) : (nC l).length = l.length * 1 := by simp [nC]
theorem nC_get (l : List Nat) (i : Nat) (h : i < l.length) : (nC l)[i]? = some (.int .i64 (l.getD i 0 : Int)) := by
  simp [nC, List.getD_eq_getElem?_getD, List.getElem?_eq_getElem h]
theorem nC_one (l : List Nat) : ∀ u ∈ nC l, u.oneCell' = true := fun u hu => by
  obtain ⟨x, _, rfl⟩ := List.mem_map.1 hu; rfl
theorem drop_getD {α : Type} (l : List α) (d : α) (i : Nat) (h : i < l.length) : l.drop i = l.getD i d :: l.drop (i + 1) := by
  rw [List.drop_eq_getElem_cons h, List.getD_eq_getElem?_getD, List.getElem?_eq_getElem h]; rfl

set_option maxRecDepth 100000 in
set_option maxHeartbeats 4000000 in
theorem along_any {v : Value} {l : List Nat} {b : Nat} {S : Ss} (w : World) (h : Sb w b S) (hS : ∀ x, (S x).1 < 2 ^ 64) (hr : Rw w v l.length (nC l)) (hl : l.length ≤ 4611686018427387904) (hx : ∀ x ∈ l, x < 192) :
    Calls Try.prog 30 #[.pointer (some ⟨b, 0, none⟩), v] w fun e w' => e = .returned (.agg #[.int .u64 ((alg S l).1 : Int), .bool (alg S l).2]) ∧ Below w.heap.size w w' := by
  have HB : Hid (Sb w b S) := h
  have HS : Hid _ := hS
  have HV : Hid (Rw w v l.length (nC l)) := hr
  have HL : Hid _ := hl
  have HX : Hid _ := hx
  obtain ⟨a, c, rfl⟩ := hr.form
  clear h hS hr hl hx
  obtain ⟨n, hn⟩ : ∃ n, l.length = n := ⟨_, rfl⟩
  have HN : Hid (l.length = n) := hn
  rw [hn] at HV HL ⊢
  clear hn
  go_enter Try.func30, Try.ntmps30
  go_upto_region 3 with fail
  obtain ⟨W1, hW1⟩ : ∃ W1, W1 = (w.alloc (.cells #[.int .u64 0, .bool false] 63)).alloc (.cells #[.int .u64 0, .bool false] 63) := ⟨_, rfl⟩
  rw [← hW1]
  have H0 : Hid (W1.heap[w.heap.size]? = some (.cells #[.int .u64 0, .bool false] 63 (0, 0))) := by
    show W1.heap[_]? = _
    rw [hW1, (bel_up _ _).block _ (by simp)]; exact heap_new w _
  have H1 : Hid (W1.heap[w.heap.size + 1]? = some (.cells #[.int .u64 0, .bool false] 63 (0, 0))) := by
    have := heap_new (w.alloc (.cells #[.int .u64 0, .bool false] 63)) (.cells #[.int .u64 0, .bool false] 63)
    rw [World.size_alloc, ← hW1] at this
    exact this
  have HB1 : Hid (Below w.heap.size w W1) := by rw [hW1]; exact below_trans (bel_up _ _) (bel_up _ _)
  clear hW1
  obtain ⟨o0, ho0⟩ : ∃ o0, w.heap.size = o0 := ⟨_, rfl⟩
  obtain ⟨o1, ho1⟩ : ∃ o1, o0 + 1 = o1 := ⟨_, rfl⟩
  have HO : Hid (w.heap.size = o0 ∧ o0 + 1 = o1) := ⟨ho0, ho1⟩
  rw [ho0] at H0 H1 ⊢
  rw [ho1] at H1 ⊢
  clear ho0 ho1
  go_loopg [10] n (fun gm v10 wr => ∃ i : Nat, v10 = .int .i64 (i : Int) ∧ ∃ acc : Nat, Hid (Below w.heap.size w wr) ∧ Hid (i ≤ n ∧ gm = n - i) ∧ Hid (wr.heap[o0]? = some (.cells #[.int .u64 0, .bool false] 63 (0, 0))) ∧ Hid (wr.heap[o1]? = some (.cells #[.int .u64 (acc : Int), .bool false] 63 (0, 0))) ∧ Hid (acc < 2 ^ 64 ∧ acc ||| (alg S (l.drop i)).1 = (alg S l).1 ∧ (alg S (l.drop i)).2 = (alg S l).2))
  case atStart =>
    exact ⟨0, rfl, 0, HB1, ⟨Nat.zero_le _, rfl⟩, H0, H1, ⟨by decide, by rw [List.drop_zero, Nat.zero_or], by rw [List.drop_zero]⟩⟩
  case round =>
    clear H0 H1 HB1
    obtain ⟨i, rfl, acc, HBW, HI, H0, H1, HA⟩ := hrel
    have hne : ¬ o0 = o1 := by have := HO.out; omega
    have hne' : ¬ o1 = o0 := by have := HO.out; omega
    have c0 := rcell H1.out 0 (.int .u64 (acc : Int)) rfl
    have c1 := rcell H1.out 1 (.bool false) rfl
    have f0 : wr.frozen? ⟨o1, 0, none⟩ = false := Lib.frozen_of_heap H1.out 0
    have f1 : wr.frozen? ⟨o1, 1, none⟩ = false := Lib.frozen_of_heap H1.out 1
    have c2 := rcell H0.out 0 (.int .u64 0) rfl
    have c3 := rcell H0.out 1 (.bool false) rfl
    have f2 : wr.frozen? ⟨o0, 0, none⟩ = false := Lib.frozen_of_heap H0.out 0
    have f3 : wr.frozen? ⟨o0, 1, none⟩ = false := Lib.frozen_of_heap H0.out 1
    by_cases hi : i < n
    · obtain ⟨g, o, cap, e0, hc⟩ := HV.out.place (by omega)
      obtain ⟨rfl, -, rfl⟩ := Value.slice.inj e0
      have hil : i < l.length := by have := HN.out; omega
      have k0 := below_cell HBW.out (hc _ _ (nC_get l i hil))
      have hx2 := HX.out _ (mem_getD hil 0)
      obtain ⟨x, hx⟩ : ∃ x, l.getD i 0 = x := ⟨_, rfl⟩
      rw [hx] at k0 hx2
      have HXE : Hid (l.getD i 0 = x) := hx
      obtain ⟨k1, k2⟩ := (HB.out.up HBW.out).get x hx2
      have hor := u64_or acc (S x).1 HA.out.1 (HS.out x)
      have e1 : decide ((i : Int) < (n : Int)) = true := by rw [decide_eq_true_eq]; omega
      have e2 : decide (i < n) = true := by rw [decide_eq_true_eq]; omega
      have e5 : (i : Int) < (n : Int) := by omega
      have e6 : i < n := hi
      have e7 : (x : Int) < 192 := by omega
      have HIL : Hid (i < n) := hi
      have hwr := w64n i (by have := HL.out; omega)
      clear e0 hc hx hil hi
      go_upto_region 5 with fail
      go_region
      obtain ⟨m, hm⟩ : ∃ m, acc ||| (S x).1 = m := ⟨_, rfl⟩
      have HM : Hid (acc ||| (S x).1 = m) := hm
      rw [hm]
      obtain ⟨W3, hW3⟩ : ∃ W3, W3 = (wr.setCell ⟨o1, 0, none⟩ (.int .u64 (m : Int))).drew := ⟨_, rfl⟩
      rw [← hW3]
      have HB3 : Hid (Below w.heap.size w W3) := by rw [hW3]; exact (HBW.out.setCell (p := ⟨o1, 0, none⟩) (by have := HO.out; show w.heap.size ≤ o1; omega) _).drew
      have H3 : Hid (W3.heap[o1]? = some (.cells #[.int .u64 (m : Int), .bool false] 63 (0, 0))) := by rw [hW3]; exact blk_set (.int .u64 (m : Int)) H1.out
      have H4 : Hid (W3.heap[o0]? = some (.cells #[.int .u64 0, .bool false] 63 (0, 0))) := by
        rw [hW3]
        exact (Below.heap_setCell wr ⟨o1, 0, none⟩ _ o0 (by have := HO.out; show o0 ≠ o1; omega)).trans H0.out
      clear hW3 hm hor c0 c1 c2 c3 f0 f1 f2 f3 k0 k1 k2 e1 e2 e5 e6
      have c0 := rcell H3.out 0 (.int .u64 (m : Int)) rfl
      have c1 := rcell H3.out 1 (.bool false) rfl
      have c2 := rcell H4.out 0 (.int .u64 0) rfl
      have c3 := rcell H4.out 1 (.bool false) rfl
      have f2 : W3.frozen? ⟨o0, 0, none⟩ = false := Lib.frozen_of_heap H4.out 0
      have f3 : W3.frozen? ⟨o0, 1, none⟩ = false := Lib.frozen_of_heap H4.out 1
      have k2 := ((HB.out.up HB3.out).get x hx2).2
      have HMB : Hid (m < 2 ^ 64) := by rw [← HM.out]; exact Nat.or_lt_two_pow HA.out.1 (HS.out x)
      have HDR : Hid (l.drop i = x :: l.drop (i + 1)) := by show l.drop i = _; rw [drop_getD l 0 i (by have := HN.out; have := HIL.out; omega), HXE.out]
      cases hv : (S x).2 with
      | false =>
        rw [hv] at k2
        have HVV : Hid (alg S l = (m, false)) := by
          have := HA.out
          rw [HDR.out, alg_no S x _ hv] at this
          exact Prod.ext (by rw [← this.2.1]; exact HM.out) this.2.2.symm
        clear hv
        go_wp2_with fail
        (try simp only [Exit.inBlock, Exit.then])
        refine bodyPost_ret (v := .agg #[.int .u64 (m : Int), .bool false]) ?_ rfl ⟨by rw [HVV.out], ?_⟩
        · rw [results_cell1 rfl]; go_simp
        · exact (HB3.out.setCell (p := ⟨o0, 0, none⟩) (by have := HO.out; show w.heap.size ≤ o0; omega) _).setCell (p := ⟨o0, 1, none⟩) (by have := HO.out; show w.heap.size ≤ o0; omega) _
      | true =>
        rw [hv] at k2
        have HVV : Hid (m ||| (alg S (l.drop (i + 1))).1 = (alg S l).1 ∧ (alg S (l.drop (i + 1))).2 = (alg S l).2) := by
          have := HA.out
          rw [HDR.out, alg_yes S x _ hv] at this
          refine ⟨?_, this.2.2⟩
          rw [← this.2.1, ← HM.out, Nat.or_assoc]
        clear hv
        go_wp2_with fail
        go_roundg (n - (i + 1))
        case measure => have := HI.out; have := HIL.out; omega
        case rel => exact ⟨i + 1, by first | rfl | (rw [show (i : Int) + 1 = ((i + 1 : Nat) : Int) by omega]), m, HB3, ⟨HIL.out, rfl⟩, H4, H3, ⟨HMB.out, HVV.out⟩⟩
    · have e1 : decide ((i : Int) < (n : Int)) = false := by rw [decide_eq_false_iff_not]; omega
      have e2 : decide (i < n) = false := by rw [decide_eq_false_iff_not]; omega
      have HIN : Hid (i = n) := by have := HI.out; show i = n; omega
      have HVV : Hid (alg S l = (acc, true)) := by
        have := HA.out
        rw [HIN.out, ← HN.out, List.drop_length, alg_nil] at this
        exact Prod.ext (by rw [← this.2.1]; exact Nat.or_zero _) this.2.2.symm
      clear hi
      go_wp2_with fail
      (try simp only [Exit.inBlock, Exit.then])
      refine bodyPost_ret (v := .agg #[.int .u64 (acc : Int), .bool true]) ?_ rfl ⟨by rw [HVV.out], ?_⟩
      · rw [results_cell1 rfl]; go_simp
      · exact ((HBW.out.setCell (p := ⟨o1, 1, none⟩) (by have := HO.out; show w.heap.size ≤ o1; omega) _).setCell (p := ⟨o0, 0, none⟩) (by have := HO.out; show w.heap.size ≤ o0; omega) _).setCell (p := ⟨o0, 1, none⟩) (by have := HO.out; show w.heap.size ≤ o0; omega) _
end Go.Proofs.Ytodncbkdlnepjaa
