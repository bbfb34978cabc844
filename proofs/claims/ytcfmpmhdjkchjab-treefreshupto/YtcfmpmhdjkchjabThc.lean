import Derived.Test.YtcfmpmhdjkchjabThb
namespace Go.Proofs.Ytcfmpmhdjkchjab
open Go.RowKit Go.Maps

theorem res9u {fn : Func} {p : Tmp} (hf : fn.results = #[.cell p 75]) {tmps : Array Value} {b : Nat} (ht : tmps.getD p undef = .pointer (some ⟨b, 0, none⟩)) {W : World} {x : Nd} {v : Value} {a : Int} (h : W.heap[b]? = some (.cells (tA x v a) 75 (0, 0))) (hv : ∃ ad n cp, v = .slice ad n cp) : (results fn tmps).run Try.prog W = .ok (.agg (tA x v a)) W := by
  obtain ⟨ad, n, cp, rfl⟩ := hv
  rw [results_cell1 hf, ht]
  have r0 := rcell h 0 (.string x.nm) rfl
  have r1 := rcell h 1 (.bool x.nd) rfl
  have r2 := rcell h 2 (.string x.fd) rfl
  have r3 := rcell h 3 (.int .i64 x.fr) rfl
  have r4 := rcell h 4 (.int .i64 x.tt) rfl
  have r5 := rcell h 5 (.int .i64 x.kd) rfl
  have r6 := rcell h 6 (.int .i64 x.lf) rfl
  have r7 := rcell h 7 (.slice ad n cp) rfl
  have r8 := rcell h 8 (.int .i64 a) rfl
  unfold tA
  clear h
  go_simp
/-- The head of trees. -/
def ufr (xs : List It) (e : Int) : Int := if xs.length = 0 then e else (xs.getD 0 itd).y.fr
def uto (xs : List It) (e : Int) : Int := if xs.length = 0 then e else (xs.getD (xs.length - 1) itd).y.tt
def und (nm : ByteArray) (xs : List It) (e : Int) : Nd := ⟨nm, true, ⟨#[]⟩, ufr xs e, uto xs e, 0, -1⟩
set_option maxRecDepth 100000 in
set_option maxHeartbeats 8000000 in
theorem runder_any {v : Value} {xs : List It} (hs : xs.length < 4611686018427387904) (nm : ByteArray) (e : Int) (w : World) (h : Rw w v xs.length (flat itf xs)) :
    Calls Try.prog 23 #[.string nm, v, .int .i64 e] w fun r w' => r = .returned (.agg (tA (und nm xs e) v 0)) ∧ Below w.heap.size w w' := by
  have HM : Hid (Rw w v xs.length (flat itf xs)) := h
  have HS : Hid (xs.length < 4611686018427387904) := hs
  obtain ⟨ad, cp, rfl⟩ := h.form
  clear h hs
  have HUN : Hid (und nm xs e = ⟨nm, true, ⟨#[]⟩, ufr xs e, uto xs e, 0, -1⟩) := rfl
  obtain ⟨k, hk⟩ : ∃ k, xs.length = k := ⟨_, rfl⟩
  have HK : Hid (xs.length = k) := hk
  have HIT : Hid (∀ i, i < k → ∃ g o, ad = some ⟨g, o, none⟩ ∧ ∀ W', Below w.heap.size w W' → W'.cell? ⟨g, o + i * 9 + 3, none⟩ = some (.int .i64 (xs.getD i itd).y.fr) ∧ W'.cell? ⟨g, o + i * 9 + 4, none⟩ = some (.int .i64 (xs.getD i itd).y.tt)) := fun i hi => by
    have hrw := HM.out
    obtain ⟨g, o, e1, h9⟩ := items_nine hrw i (by rw [hk]; exact hi)
    exact ⟨g, o, e1, fun W' hW => ⟨(h9 W' hW).2.2.2.1, (h9 W' hW).2.2.2.2.1⟩⟩
  rw [hk] at HS ⊢
  clear hk HM
  obtain ⟨W1, hW1⟩ : ∃ W1, W1 = (w.alloc (.cells #[.string ⟨#[]⟩, .bool false, .string ⟨#[]⟩, .int .i64 0, .int .i64 0, .int .i64 0, .int .i64 0, .slice none 0 0, .int .i64 0] 75)).alloc (.cells #[.string nm, .bool true, .string ⟨#[]⟩, .int .i64 e, .int .i64 e, .int .i64 0, .int .i64 (-1)] 65) := ⟨_, rfl⟩
  have HB1 : Hid (Below w.heap.size w W1) := by rw [hW1]; exact below_trans (bel_up _ _) (bel_up _ _)
  have HX1 : Hid (W1.heap[w.heap.size + 1]? = some (.cells #[.string nm, .bool true, .string ⟨#[]⟩, .int .i64 e, .int .i64 e, .int .i64 0, .int .i64 (-1)] 65 (0, 0))) := by rw [hW1]; have h7 := heap_new (w.alloc (.cells #[.string ⟨#[]⟩, .bool false, .string ⟨#[]⟩, .int .i64 0, .int .i64 0, .int .i64 0, .int .i64 0, .slice none 0 0, .int .i64 0] 75)) (.cells #[.string nm, .bool true, .string ⟨#[]⟩, .int .i64 e, .int .i64 e, .int .i64 0, .int .i64 (-1)] 65); rw [show (w.alloc (.cells #[.string ⟨#[]⟩, .bool false, .string ⟨#[]⟩, .int .i64 0, .int .i64 0, .int .i64 0, .int .i64 0, .slice none 0 0, .int .i64 0] 75)).heap.size = w.heap.size + 1 by simp] at h7; exact h7
  have HZ1 : Hid (W1.heap[w.heap.size]? = some (.cells #[.string ⟨#[]⟩, .bool false, .string ⟨#[]⟩, .int .i64 0, .int .i64 0, .int .i64 0, .int .i64 0, .slice none 0 0, .int .i64 0] 75 (0, 0))) := by rw [hW1, (bel_up _ _).block w.heap.size (by simp)]; exact heap_new _ _
  go_enter Try.func23, Try.ntmps23
  go_upto_region 2 with fail
  rw [← hW1]
  clear hW1
  obtain ⟨rb, hrb⟩ : ∃ rb, w.heap.size = rb := ⟨_, rfl⟩
  have HRL : Hid (w.heap.size ≤ rb) := by rw [hrb]; exact Nat.le_refl _
  have HNL : Hid (w.heap.size ≤ rb + 1) := by rw [hrb]; exact Nat.le_succ _
  rw [hrb] at HX1 HZ1 ⊢
  clear hrb
  rcases Nat.eq_zero_or_pos k with hz | hz
  · subst hz
    have HEQ : Hid (ufr xs e = e ∧ uto xs e = e) := ⟨by unfold ufr; rw [if_pos HK.out], by unfold uto; rw [if_pos HK.out]⟩
    have x0 := rcell HX1.out 0 _ rfl
    have x1 := rcell HX1.out 1 _ rfl
    have x2 := rcell HX1.out 2 _ rfl
    have x3 := rcell HX1.out 3 _ rfl
    have x4 := rcell HX1.out 4 _ rfl
    have x5 := rcell HX1.out 5 _ rfl
    have x6 := rcell HX1.out 6 _ rfl
    have y0 := rcell HZ1.out 0 _ rfl
    have y1 := rcell HZ1.out 1 _ rfl
    have y2 := rcell HZ1.out 2 _ rfl
    have y3 := rcell HZ1.out 3 _ rfl
    have y4 := rcell HZ1.out 4 _ rfl
    have y5 := rcell HZ1.out 5 _ rfl
    have y6 := rcell HZ1.out 6 _ rfl
    have y7 := rcell HZ1.out 7 _ rfl
    have y8 := rcell HZ1.out 8 _ rfl
    have ff := fun j => Lib.frozen_of_heap HZ1.out j
    go_wp2_with fail
    (try simp only [Exit.inBlock, Exit.then])
    have z8 := put9_heap (e := 75) (v0 := .string nm) (v1 := .bool true) (v2 := .string ⟨#[]⟩) (v3 := .int .i64 e) (v4 := .int .i64 e) (v5 := .int .i64 0) (v6 := .int .i64 (-1)) (v7 := .slice ad 0 cp) (v8 := .int .i64 0) HZ1.out
    refine bodyPost_ret (v := .agg (tA ⟨nm, true, ⟨#[]⟩, e, e, 0, -1⟩ (.slice ad 0 cp) 0)) (res9u (fn := Try.f23) (p := 6) Try.results23 rfl z8 ⟨_, _, _, rfl⟩) rfl ⟨by rw [HUN.out, HEQ.out.1, HEQ.out.2], (bel_put (bel_put (bel_put (bel_put (bel_put (bel_put (bel_put (bel_put (bel_put HB1.out HRL.out) HRL.out) HRL.out) HRL.out) HRL.out) HRL.out) HRL.out) HRL.out) HRL.out)⟩
  · have f1 : decide ((k : Int) > 0) = true := by rw [decide_eq_true_eq]; omega
    have f2 : decide ((0 : Int) < (k : Int)) = true := f1
    have f3 : decide (0 < k) = true := by rw [decide_eq_true_eq]; exact hz
    have b1 : (0 : Int) < (k : Int) := by omega
    have b2 : 0 < k := hz
    obtain ⟨q, hq⟩ : ∃ q, k = q + 1 := ⟨k - 1, by omega⟩
    have hwk : IntKind.i64.wrap ((k : Int) - 1) = (q : Int) := by have := HS.out; rw [IntKind.wrap_i64]; omega
    have b3 : (q : Int) < (k : Int) := by omega
    have b4 : q < k := by omega
    have HEQ : Hid (ufr xs e = (xs.getD 0 itd).y.fr ∧ uto xs e = (xs.getD q itd).y.tt) := ⟨by unfold ufr; rw [if_neg (by rw [HK.out]; omega)], by unfold uto; rw [if_neg (by rw [HK.out]; omega), HK.out, hq]; rfl⟩
    obtain ⟨g, o, rfl, h0⟩ := HIT.out 0 hz
    obtain ⟨g', o', e9, h1⟩ := HIT.out q b4
    obtain ⟨rfl, rfl⟩ : g = g' ∧ o = o' := by cases e9; exact ⟨rfl, rfl⟩
    obtain ⟨A0, hA0⟩ : ∃ A0, (xs.getD 0 itd).y.fr = A0 := ⟨_, rfl⟩
    obtain ⟨A1, hA1⟩ : ∃ A1, (xs.getD q itd).y.tt = A1 := ⟨_, rfl⟩
    rw [hA0, hA1] at HEQ
    rw [hA0] at h0
    rw [hA1] at h1
    have H0 : Hid (∀ W', Below w.heap.size w W' → W'.cell? ⟨g, o + 3, none⟩ = some (.int .i64 A0)) := fun W' hW => by have h7 := (h0 W' hW).1; simpa using h7
    have H1 : Hid (∀ W', Below w.heap.size w W' → W'.cell? ⟨g, o + q * 9 + 4, none⟩ = some (.int .i64 A1)) := fun W' hW => (h1 W' hW).2
    clear h0 h1 hA0 hA1 e9 hz hq HIT
    have c0 := H0.out W1 HB1.out
    have x3 := rcell HX1.out 3 _ rfl
    have ff := fun j => Lib.frozen_of_heap HX1.out j
    go_upto_region 4 with fail
    clear c0 x3 ff
    obtain ⟨W2, hW2⟩ : ∃ W2, W2 = W1.setCell ⟨rb + 1, 3, none⟩ (.int .i64 A0) := ⟨_, rfl⟩
    have HB2 : Hid (Below w.heap.size w W2) := by rw [hW2]; exact bel_put HB1.out HNL.out
    have HX2 : Hid (W2.heap[rb + 1]? = some (.cells #[.string nm, .bool true, .string ⟨#[]⟩, .int .i64 A0, .int .i64 e, .int .i64 0, .int .i64 (-1)] 65 (0, 0))) := by rw [hW2]; exact blk_set (k := 3) (.int .i64 A0) HX1.out
    have HZ2 : Hid (W2.heap[rb]? = some (.cells #[.string ⟨#[]⟩, .bool false, .string ⟨#[]⟩, .int .i64 0, .int .i64 0, .int .i64 0, .int .i64 0, .slice none 0 0, .int .i64 0] 75 (0, 0))) := by rw [hW2, grown_set.block rb (lt_of_heap HZ1.out) (fun e => by cases e)]; exact HZ1.out
    rw [← hW2]
    clear hW2
    have c1 := H1.out W2 HB2.out
    have x4 := rcell HX2.out 4 _ rfl
    have ff := fun j => Lib.frozen_of_heap HX2.out j
    go_upto_region 5 with fail
    clear c1 x4 ff
    obtain ⟨W3, hW3⟩ : ∃ W3, W3 = W2.setCell ⟨rb + 1, 4, none⟩ (.int .i64 A1) := ⟨_, rfl⟩
    have HB3 : Hid (Below w.heap.size w W3) := by rw [hW3]; exact bel_put HB2.out HNL.out
    have HX3 : Hid (W3.heap[rb + 1]? = some (.cells #[.string nm, .bool true, .string ⟨#[]⟩, .int .i64 A0, .int .i64 A1, .int .i64 0, .int .i64 (-1)] 65 (0, 0))) := by rw [hW3]; exact blk_set (k := 4) (.int .i64 A1) HX2.out
    have HZ3 : Hid (W3.heap[rb]? = some (.cells #[.string ⟨#[]⟩, .bool false, .string ⟨#[]⟩, .int .i64 0, .int .i64 0, .int .i64 0, .int .i64 0, .slice none 0 0, .int .i64 0] 75 (0, 0))) := by rw [hW3, grown_set.block rb (lt_of_heap HZ2.out) (fun e => by cases e)]; exact HZ2.out
    rw [← hW3]
    clear hW3
    have x0 := rcell HX3.out 0 _ rfl
    have x1 := rcell HX3.out 1 _ rfl
    have x2 := rcell HX3.out 2 _ rfl
    have x3 := rcell HX3.out 3 _ rfl
    have x4 := rcell HX3.out 4 _ rfl
    have x5 := rcell HX3.out 5 _ rfl
    have x6 := rcell HX3.out 6 _ rfl
    have y0 := rcell HZ3.out 0 _ rfl
    have y1 := rcell HZ3.out 1 _ rfl
    have y2 := rcell HZ3.out 2 _ rfl
    have y3 := rcell HZ3.out 3 _ rfl
    have y4 := rcell HZ3.out 4 _ rfl
    have y5 := rcell HZ3.out 5 _ rfl
    have y6 := rcell HZ3.out 6 _ rfl
    have y7 := rcell HZ3.out 7 _ rfl
    have y8 := rcell HZ3.out 8 _ rfl
    have ff := fun j => Lib.frozen_of_heap HZ3.out j
    go_wp2_with fail
    (try simp only [Exit.inBlock, Exit.then])
    have z8 := put9_heap (e := 75) (v0 := .string nm) (v1 := .bool true) (v2 := .string ⟨#[]⟩) (v3 := .int .i64 A0) (v4 := .int .i64 A1) (v5 := .int .i64 0) (v6 := .int .i64 (-1)) (v7 := .slice (some ⟨g, o, none⟩) k cp) (v8 := .int .i64 0) HZ3.out
    refine bodyPost_ret (v := .agg (tA ⟨nm, true, ⟨#[]⟩, A0, A1, 0, -1⟩ (.slice (some ⟨g, o, none⟩) k cp) 0)) (res9u (fn := Try.f23) (p := 6) Try.results23 rfl z8 ⟨_, _, _, rfl⟩) rfl ⟨by rw [HUN.out, HEQ.out.1, HEQ.out.2], (bel_put (bel_put (bel_put (bel_put (bel_put (bel_put (bel_put (bel_put (bel_put HB3.out HRL.out) HRL.out) HRL.out) HRL.out) HRL.out) HRL.out) HRL.out) HRL.out) HRL.out)⟩
end Go.Proofs.Ytcfmpmhdjkchjab
