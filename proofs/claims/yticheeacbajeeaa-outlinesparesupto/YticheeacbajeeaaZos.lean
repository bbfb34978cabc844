import Derived.Shelf.SlGeneric
import Derived.Shelf.SlSortCmp.WholeK
import Derived.Test.YticheeacbajeeaaProg
import Derived.Test.YticheeacbajeeaaZof
import Derived.Shelf.SlSortCmp.NoneTotal
import Derived.Test.YticheeacbajeeaaOlg
import Derived.Lib.SliceRun
/-
  DERIVED: THE SHELF's CONTRACTS AT THIS DUMP, IN PLAIN WORDS (tools/lay-plain.mjs out of 'YticheeacbajeeaaShg.lean', which tools/lay-shelf.mjs wrote): THE SAME DECLARATIONS UNDER THE SAME NAMES: 'import', 'namespace', 'open', 'def', 'theorem' AND NOTHING ELSE: no command of the shelf's: FOR A HAND-IN. Each laying: the table of numbers ('.._ren') and one theorem, a field a fact of the dump's own or the kernel's comparison; each contract: ONE APPLICATION.
-/
namespace Go.Proofs
open Go.Shelf
def Try.sortG_ren : Go.Shelf.Ren := ⟨fun | 6 => 42 | 15 => 56 | 14 => 55 | 28 => 69 | 29 => 70 | 20 => 61 | 21 => 62 | 22 => 63 | 23 => 64 | 24 => 65 | 25 => 66 | 26 => 67 | 27 => 68 | 46 => 76 | 47 => 77 | 48 => 78 | 49 => 79 | 50 => 80 | 57 => 88 | n => n, fun | 22 => 53 | 24 => 57 | 25 => 100 | 3 => 3 | 39 => 115 | 0 => 0 | 53 => 133 | 55 => 135 | 4 => 4 | 46 => 127 | 45 => 126 | 50 => 105 | 5 => 5 | 9 => 9 | 66 => 142 | 70 => 146 | 76 => 152 | 77 => 79 | n => n, fun | n => n⟩
theorem Try.sortG : Go.Proofs.SlLaysF0.n6 Try.prog Try.sortG_ren := {
  mixed := by kernel_rfl
  f6 := ⟨Try.f42.name, by decide, Try.func42.trans (congrArg some (by kernel_rfl))⟩
  f14 := ⟨Try.f55.name, by decide, Try.func55.trans (congrArg some (by kernel_rfl))⟩
  f15 := Try.func56.trans (congrArg some (by kernel_rfl))
  f20 := ⟨Try.f61.name, by decide, Try.func61.trans (congrArg some (by kernel_rfl))⟩
  f21 := ⟨Try.f62.name, by decide, Try.func62.trans (congrArg some (by kernel_rfl))⟩
  f22 := ⟨Try.f63.name, by decide, Try.func63.trans (congrArg some (by kernel_rfl))⟩
  f23 := ⟨Try.f64.name, by decide, Try.func64.trans (congrArg some (by kernel_rfl))⟩
  f24 := ⟨Try.f65.name, by decide, Try.func65.trans (congrArg some (by kernel_rfl))⟩
  f25 := ⟨Try.f66.name, by decide, Try.func66.trans (congrArg some (by kernel_rfl))⟩
  f26 := ⟨Try.f67.name, by decide, Try.func67.trans (congrArg some (by kernel_rfl))⟩
  f27 := ⟨Try.f68.name, by decide, Try.func68.trans (congrArg some (by kernel_rfl))⟩
  f28 := Try.func69.trans (congrArg some (by kernel_rfl))
  f29 := Try.func70.trans (congrArg some (by kernel_rfl))
  f46 := ⟨Try.f76.name, by decide, Try.func76.trans (congrArg some (by kernel_rfl))⟩
  f47 := Try.func77.trans (congrArg some (by kernel_rfl))
  f48 := Try.func78.trans (congrArg some (by kernel_rfl))
  f49 := ⟨Try.f79.name, by decide, Try.func79.trans (congrArg some (by kernel_rfl))⟩
  f50 := ⟨Try.f80.name, by decide, Try.func80.trans (congrArg some (by kernel_rfl))⟩
  f57 := ⟨Try.f88.name, by decide, Try.func88.trans (congrArg some (by kernel_rfl))⟩
  t0 := Try.underlying0
  a0 := Try.isAgg0
  z0 := Try.sizeOf0
  v0 := Try.zeroValue0
  t3 := Try.underlying3
  a3 := Try.isAgg3
  z3 := Try.sizeOf3
  v3 := Try.zeroValue3
  t4 := Try.underlying4
  a4 := Try.isAgg4
  z4 := Try.sizeOf4
  v4 := Try.zeroValue4
  t5 := Try.underlying5
  a5 := Try.isAgg5
  z5 := Try.sizeOf5
  v5 := Try.zeroValue5
  t9 := Try.underlying9
  a9 := Try.isAgg9
  z9 := Try.sizeOf9
  v9 := Try.zeroValue9
  t22 := Try.underlying53
  a22 := Try.isAgg53
  z22 := Try.sizeOf53
  v22 := Try.zeroValue53
  t25 := Try.underlying100
  a25 := Try.isAgg100
  z25 := Try.sizeOf100
  v25 := Try.zeroValue100
  t39 := Try.underlying115
  a39 := Try.isAgg115
  z39 := Try.sizeOf115
  v39 := Try.zeroValue115
  t45 := Try.underlying126
  a45 := Try.isAgg126
  z45 := Try.sizeOf126
  v45 := Try.zeroValue126
  t46 := Try.underlying127
  a46 := Try.isAgg127
  z46 := Try.sizeOf127
  v46 := Try.zeroValue127
  t50 := Try.underlying105
  a50 := Try.isAgg105
  z50 := Try.sizeOf105
  v50 := Try.zeroValue105
  t53 := Try.underlying133
  a53 := Try.isAgg133
  z53 := Try.sizeOf133
  v53 := Try.zeroValue133
  t55 := Try.underlying135
  a55 := Try.isAgg135
  z55 := Try.sizeOf135
  v55 := Try.zeroValue135
  t66 := Try.underlying142
  a66 := Try.isAgg142
  z66 := Try.sizeOf142
  v66 := Try.zeroValue142
  t70 := Try.underlying146
  a70 := Try.isAgg146
  z70 := Try.sizeOf146
  v70 := Try.zeroValue146
  t76 := Try.underlying152
  a76 := Try.isAgg152
  z76 := Try.sizeOf152
  v76 := Try.zeroValue152
  t77 := Try.underlying79
  a77 := Try.isAgg79
  z77 := Try.sizeOf79
  v77 := Try.zeroValue79 }
end Go.Proofs
namespace Go.Proofs.Yticheeacbajeeaa
open Go.RowKit Go.Maps

theorem cmpF_flt (x y : Fd) : cmpF x y < 0 ↔ flt x y := by
  unfold cmpF orI cmpI flt
  split <;> (try split at *) <;> (try split) <;> (try split at *) <;> omega
theorem ltF (x y : Fd) : Go.Proofs.ltOf cmpF x y = decide (x.1 < y.1 ∨ (x.1 = y.1 ∧ y.2 < x.2)) := by
  unfold Go.Proofs.ltOf
  rw [decide_eq_decide]
  exact cmpF_flt x y
theorem swoF : Go.Sort.SWO (Go.Proofs.ltOf cmpF) where
  irrefl x := by rw [ltF, decide_eq_false_iff_not]; omega
  trans x y z h1 h2 := by rw [ltF, decide_eq_true_eq] at *; omega
  ntrans x y z h1 h2 := by rw [ltF, decide_eq_false_iff_not] at *; omega

set_option maxRecDepth 100000 in
/-- slices.SortFunc of the folds. -/
theorem sort_any (B : Nat) (W : World) (v : Value) (m : Nat) (Q : List Fd) (hq : Q.length = m) (hm : m < 4611686018427387904) (h : W.ownsRow B 57 2 v m (flat fdf Q)) :
    Calls Try.prog 42 #[v, .func (.func 43) #[] #[]] W fun e w' => e = .returned (.tuple #[]) ∧ ∃ D : List Fd, D.Perm Q ∧ D.Pairwise (fun a b => ¬ flt b a) ∧ w'.ownsRow B 57 2 v m (flat fdf D) ∧ Below B W w' := by
  obtain ⟨a, c, rfl⟩ := row_shape h
  rcases Nat.eq_zero_or_pos m with h0 | h0
  · subst h0
    have hcon := AnyF.slices_SortFunc_none Try.sortG a c (.func (.func 43) #[] #[]) W
    change Calls Try.prog 42 _ _ _ at hcon
    refine hcon.mono ?_
    rintro e w' ⟨rfl, rfl⟩
    obtain rfl := List.eq_nil_of_length_eq_zero hq
    exact ⟨rfl, [], List.Perm.refl _, List.Pairwise.nil, h, Below.refl _ _⟩
  · obtain ⟨g, rfl⟩ : ∃ g, a = some ⟨g, 0, none⟩ := by
      rcases h.2 with ⟨h1, h2⟩ | ⟨g, cap, cur, h1, -⟩
      · omega
      · exact ⟨g, (Value.slice.inj h1).1⟩
    have hlt : g < W.heap.size := (h.lt g rfl).2
    have eg : ∀ args w, (callFunc 43 args).run Try.prog w = .ok (.enter 43 args) w := enters_of Try.func43 (by kernel_rfl) rfl
    have hcon := AnyQ.slices_SortFunc Try.sortG 2 Try.isAgg57 Try.sizeOf57 fdf fdf_len fdf_one cmpF swoF 43 #[] g 0 c Q.toArray W eg (fun _ _ _ _ x y => clo_any x y _) (holdsK_own h hq) hlt (by rw [List.size_toArray, hq]; exact hm)
    change Calls Try.prog 42 _ _ _ at hcon
    rw [List.size_toArray, hq] at hcon
    refine hcon.mono ?_
    rintro e w' ⟨rfl, d', n, os, hp, hs, rfl⟩
    obtain ⟨hp1, -, hp3⟩ := hp
    have hp1 : d'.size = m := by rw [hp1, List.size_toArray]; exact hq
    have hDl : d'.toList.length = m := by rw [Array.length_toList]; exact hp1
    have hperm : d'.toList.Perm Q := by
      have e1 : (d'.extract 0 m).toList = d'.toList := by rw [Array.toList_extract, List.extract_eq_take_drop, Nat.sub_zero, List.drop_zero]; exact List.take_of_length_le (by omega)
      have e2 : (Q.toArray.extract 0 m).toList = Q := by rw [Array.toList_extract, List.extract_eq_take_drop, Nat.sub_zero, List.drop_zero]; exact List.take_of_length_le (Nat.le_of_eq hq)
      rw [e1, e2] at hp3
      exact hp3
    obtain ⟨k1, k2⟩ := sorted_world (m := n) (os := os) h hDl
    refine ⟨rfl, d'.toList, hperm, ?_, k1, k2⟩
    rw [List.pairwise_iff_getElem]
    intro i j hi hj hij
    have h9 := hs i j (Nat.zero_le _) hij (by rw [hDl] at hj; exact hj)
    rw [ltF, decide_eq_false_iff_not] at h9
    rw [getElem!_pos d' i (by rw [Array.length_toList] at hi; exact hi), getElem!_pos d' j (by rw [Array.length_toList] at hj; exact hj)] at h9
    exact h9

end Go.Proofs.Yticheeacbajeeaa
namespace Go.Proofs.Yticheeacbajeeaa
open Go.RowKit Go.Maps

set_option maxRecDepth 100000 in
set_option maxHeartbeats 4000000 in
/-- The same first row? -/
theorem clo2_any (x0 x1 y0 y1 : Int) (b : Bool) (hb : (x0 == y0) = b) (w : World) : Calls Try.prog 47 #[.agg #[.int .i64 x0, .int .i64 x1], .agg #[.int .i64 y0, .int .i64 y1]] w fun e w' => e = .returned (.bool b) ∧ Below w.heap.size w w' := by
  go_enter Try.func47, Try.ntmps47
  go_wp2_with fail
  go_ret
  refine ⟨by rfl, ?_⟩
  exact below_trans (bel_up _ _) (bel_up _ _)
theorem cpk_none {D : List Fd} {i : Nat} (h : kp D i = false) : cpk D (i + 1) = cpk D i := by rw [cpk_step, h]; simp
theorem cpk_some {D : List Fd} {i : Nat} (h : kp D i = true) : cpk D (i + 1) = cpk D i ++ [D.getD i fdz] := by rw [cpk_step, if_pos h]
theorem take_fd (D : List Fd) (i : Nat) (h : i < D.length) : D.take (i + 1) = D.take i ++ [D.getD i fdz] := by
  rw [List.take_add_one, List.getD_eq_getElem?_getD, List.getElem?_eq_getElem h]; rfl
theorem kp_succ (D : List Fd) (p : Nat) : kp D (p + 1) = decide ((D.getD (p + 1) fdz).1 ≠ (D.getD p fdz).1) := by
  unfold kp; rw [decide_eq_false (show ¬ p + 1 = 0 by omega), Bool.false_or]; rfl
theorem cpk_one {D : List Fd} (h : 0 < D.length) : cpk D 1 = D.take 1 := by
  rw [cpk_some (show kp D 0 = true from rfl), take_fd D 0 h]; rfl
theorem run_clear_two {P : Program} (w : World) (t e ty : TypeId) (z : Value) (ht : P.underlying t = some (.slice e)) (hv : ∀ w, (zeroValue e).run P w = .ok z w) (hz : z.cells = #[.int .i64 0, .int .i64 0]) (b o n c : Nat) (hn : 0 < n)
    (hc : ∀ j, j < n * 2 → (w.cell? ⟨b, o + j, none⟩).isSome = true) (hf : ∀ j, j < n * 2 → w.frozen? ⟨b, o + j, none⟩ = false) :
    (Builtin.clear_ #[t] ty #[.slice (some ⟨b, o, none⟩) n c]).run P w = .ok (.tuple #[]) (w.setCells b o (List.replicate (n * 2) (.int .i64 0))) := by
  have hzc : (Builtin.zeroCells z.cells n).toList = List.replicate (n * 2) (.int .i64 0) := by
    rw [hz]
    simp [Builtin.zeroCells]
    apply List.ext_getElem
    · simp
    · intro i h1 h2
      have : i % 2 = 0 ∨ i % 2 = 1 := by omega
      rcases this with h | h <;> simp [h]
  have hst := run_storeCells_cells (P := P) b o (List.replicate (n * 2) (.int .i64 0)) 0 w (by simpa using hc) (by simpa using hf) (by intro v hv'; rw [List.eq_of_mem_replicate hv']; rfl)
  simp only [Nat.add_zero] at hst
  obtain ⟨m, rfl⟩ : ∃ m, n = m + 1 := ⟨n - 1, by omega⟩
  simp [Builtin.clear_, run_underlying ht, hv, hzc, hst]
theorem flat_set2 : ∀ (E : List Fd) (q a b : Nat), q < E.length → ((flat fdf E).set (q * 2) (.int .i64 (a : Int))).set (q * 2 + 1) (.int .i64 (b : Int)) = flat fdf (E.set q (a, b))
  | [], q, a, b, h => by simp at h
  | x :: E, 0, a, b, h => by simp [flat, fdf]
  | x :: E, q + 1, a, b, h => by
    have ih := flat_set2 E q a b (by simpa using h)
    rw [show (q + 1) * 2 = q * 2 + 1 + 1 by omega]
    simp only [flat, fdf, List.cons_append, List.nil_append, List.set_cons_succ] at ih ⊢
    rw [ih]
theorem flat_take2 (E : List Fd) (q : Nat) : (flat fdf E).take (q * 2) = flat fdf (E.take q) := by
  induction E generalizing q with
  | nil => simp [flat]
  | cons x E ih =>
    cases q with
    | zero => simp [flat]
    | succ q =>
      rw [show (q + 1) * 2 = q * 2 + 1 + 1 by omega]
      have := ih q
      simp only [flat, fdf, List.cons_append, List.nil_append, List.take_succ_cons] at this ⊢
      rw [this]
theorem take_set (E : List Fd) (q : Nat) (x : Fd) (h : q < E.length) : (E.set q x).take (q + 1) = E.take q ++ [x] := by
  rw [List.take_add_one, List.getElem?_set_self (by exact h), List.take_set_of_le (by omega)]; rfl
theorem getD_set (E : List Fd) (q j : Nat) (x : Fd) (h : q ≠ j) : (E.set q x).getD j fdz = E.getD j fdz := by
  rw [List.getD_eq_getElem?_getD, List.getD_eq_getElem?_getD, List.getElem?_set_ne h]
theorem row_pre {W : World} {B g n q cap : Nat} {e : TypeId} {s : Nat} {xs : List Value} (h : W.ownsRow B e s (.slice (some ⟨g, 0, none⟩) n cap) n xs) (hq : q ≤ n) : W.ownsRow B e s (.slice (some ⟨g, 0, none⟩) q cap) q (xs.take (q * s)) := by
  obtain ⟨hl, h1 | ⟨g', cap', cur, e', h1, h2, h3, h4, h5, h6⟩⟩ := h
  · cases h1.1
  · have hm : q * s ≤ n * s := Nat.mul_le_mul_right s hq
    obtain ⟨ha, -, hc⟩ := Value.slice.inj e'
    obtain ⟨rfl, -, -⟩ := Addr.mk.inj (Option.some.inj ha)
    obtain rfl := hc
    refine ⟨by rw [List.length_take]; omega, .inr ⟨g, cap, cur, rfl, h1, h2, by omega, h4, h5, ?_⟩⟩
    rw [← h6, List.take_take, Nat.min_eq_left hm]
theorem row_past {B g q cap : Nat} {e : TypeId} {s : Nat} {xs : List Value} : ∀ (vs : List Value) (o : Nat) (W : World), q * s ≤ o → W.ownsRow B e s (.slice (some ⟨g, 0, none⟩) q cap) q xs → (W.setCells g o vs).ownsRow B e s (.slice (some ⟨g, 0, none⟩) q cap) q xs
  | [], o, W, ho, h => h
  | v :: vs, o, W, ho, h => by
    have h1 := row_set h o v
    rw [List.set_eq_of_length_le (by rw [h.1]; exact ho)] at h1
    exact row_past vs (o + 1) (W.setCell ⟨g, o, none⟩ v) (by omega) h1
theorem zeroF (w : World) : (zeroValue 57).run Try.prog w = .ok (.agg #[.int .i64 0, .int .i64 0]) w := by kernel_rfl
theorem enters2 : ∀ args W, (callFunc 47 args).run Try.prog W = .ok (.enter 47 args) W := enters_of Try.func47 (by kernel_rfl) rfl
theorem compact_few {B n : Nat} {v : Value} {D : List Fd} (w : World) (hn : D.length = n) (h2 : n < 2) (h : w.ownsRow B 57 2 v n (flat fdf D)) : Calls Try.prog 46 #[v, .func (.func 47) #[] #[]] w fun e w' => e = .returned v ∧ cpk D n = D ∧ w' = w := by
  have HE : Hid (cpk D n = D) := by
    show _ = _
    have : n = 0 ∨ n = 1 := by omega
    rcases this with rfl | rfl
    · rw [List.eq_nil_of_length_eq_zero hn]; rfl
    · rw [cpk_one (by omega), List.take_of_length_le (by omega)]
  obtain ⟨a, c, rfl⟩ := row_shape h
  have e1 : decide ((n : Int) < 2) = true := by rw [decide_eq_true_eq]; omega
  have e2 : decide (n < 2) = true := by rw [decide_eq_true_eq]; omega
  clear h
  go_enter Try.func46, Try.ntmps46
  go_wp2_with fail
  go_ret
  exact ⟨rfl, HE.out, rfl⟩
set_option maxRecDepth 100000 in
set_option maxHeartbeats 16000000 in
theorem compact_any {B g n cap : Nat} {D : List Fd} (w : World) (hB : B ≤ g) (hn : D.length = n) (h2 : 2 ≤ n) (hs : n ≤ 4398046511104) (hc : n ≤ cap) (h : w.ownsRow B 57 2 (.slice (some ⟨g, 0, none⟩) n cap) n (flat fdf D)) :
    Calls Try.prog 46 #[.slice (some ⟨g, 0, none⟩) n cap, .func (.func 47) #[] #[]] w fun e w' => ∃ c, e = .returned (.slice (some ⟨g, 0, none⟩) c cap) ∧ (cpk D n).length = c ∧ w'.ownsRow B 57 2 (.slice (some ⟨g, 0, none⟩) c cap) c (flat fdf (cpk D n)) ∧ Below B w w' := by
  have HB0 : Hid (B ≤ g) := hB
  have HN : Hid (D.length = n ∧ 2 ≤ n ∧ n ≤ 4398046511104 ∧ n ≤ cap) := ⟨hn, h2, hs, hc⟩
  have HO0 : Hid (w.ownsRow B 57 2 (.slice (some ⟨g, 0, none⟩) n cap) n (flat fdf D)) := h
  have HWB : Hid (B ≤ w.heap.size) := by have := (h.lt g rfl).2; show _ ≤ _; omega
  have eg := enters2
  have e1 : decide ((n : Int) < 2) = false := by rw [decide_eq_false_iff_not]; omega
  have e2 : decide (n < 2) = false := by rw [decide_eq_false_iff_not]; omega
  clear hB hn h2 hs hc h
  go_enter Try.func46, Try.ntmps46
  go_upto_region 4 with fail
  clear e1 e2
  go_loopg [5] (n - 1) (fun gm v5 wr => ∃ i : Nat, v5 = .int .i64 (i : Int) ∧ Hid (1 ≤ i ∧ i ≤ n ∧ gm = n - i) ∧ Hid (cpk D i = D.take i) ∧ Hid (wr.ownsRow B 57 2 (.slice (some ⟨g, 0, none⟩) n cap) n (flat fdf D)) ∧ Hid (Below w.heap.size w wr))
  case atStart => exact ⟨1, rfl, ⟨Nat.le_refl _, by have := HN.out; omega, rfl⟩, cpk_one (by have := HN.out; omega), HO0, Below.refl _ _⟩
  case round =>
    obtain ⟨i, rfl, HI, HP, HO, HB⟩ := hrel
    by_cases hi : i < n
    · have e1 : decide ((i : Int) < (n : Int)) = true := by rw [decide_eq_true_eq]; omega
      have e2 : decide (i < n) = true := by rw [decide_eq_true_eq]; omega
      obtain ⟨p, hp⟩ : ∃ p, i = p + 1 := ⟨i - 1, by have := HI.out; omega⟩
      have HPI : Hid (i = p + 1) := hp
      have HIL : Hid (i < n ∧ i < D.length ∧ p < D.length) := ⟨hi, by rw [HN.out.1]; exact hi, by rw [HN.out.1]; omega⟩
      have b1 : (i : Int) < (n : Int) := by omega
      have b2 : i < n := hi
      have b3 : (p : Int) < (n : Int) := by omega
      have b4 : p < n := by omega
      have hwm : IntKind.i64.wrap ((i : Int) - 1) = (p : Int) := by rw [IntKind.wrap_i64]; have := HN.out; omega
      have hwi := w64n i (by have := HN.out; omega)
      obtain ⟨r1, r2⟩ := fdf_get D i HIL.out.2.1
      obtain ⟨r3, r4⟩ := fdf_get D p HIL.out.2.2
      have HKP : Hid (kp D i = decide ((D.getD i fdz).1 ≠ (D.getD p fdz).1)) := by rw [hp]; exact kp_succ D p
      obtain ⟨x, hx⟩ : ∃ x, (D.getD i fdz).1 = x := ⟨_, rfl⟩
      obtain ⟨x', hx'⟩ : ∃ x, (D.getD i fdz).2 = x := ⟨_, rfl⟩
      obtain ⟨y, hy⟩ : ∃ x, (D.getD p fdz).1 = x := ⟨_, rfl⟩
      obtain ⟨y', hy'⟩ : ∃ x, (D.getD p fdz).2 = x := ⟨_, rfl⟩
      rw [hx] at r1 HKP
      rw [hx'] at r2
      rw [hy] at r3 HKP
      rw [hy'] at r4
      have hd : Below wr.heap.size wr wr.drew := Below.drew (Below.refl _ _)
      have HC : Hid (wr.drew.cell? ⟨g, i * 2, none⟩ = some (.int .i64 (x : Int)) ∧ wr.drew.cell? ⟨g, i * 2 + 1, none⟩ = some (.int .i64 (x' : Int)) ∧ wr.drew.cell? ⟨g, p * 2, none⟩ = some (.int .i64 (y : Int)) ∧ wr.drew.cell? ⟨g, p * 2 + 1, none⟩ = some (.int .i64 (y' : Int))) := ⟨below_cell hd (row_at HO.out _ _ r1), below_cell hd (row_at HO.out _ _ r2), below_cell hd (row_at HO.out _ _ r3), below_cell hd (row_at HO.out _ _ r4)⟩
      obtain ⟨bb, hbb⟩ : ∃ bb, ((x : Int) == (y : Int)) = bb := ⟨_, rfl⟩
      have CLO : Hid (∀ W, Calls Try.prog 47 #[.agg #[.int .i64 (x : Int), .int .i64 (x' : Int)], .agg #[.int .i64 (y : Int), .int .i64 (y' : Int)]] W fun e w' => e = .returned (.bool bb) ∧ Below W.heap.size W w') := fun W => clo2_any _ _ _ _ bb hbb W
      have HKB : Hid (kp D i = !bb) := by
        show _ = _
        rw [HKP.out, ← hbb]
        by_cases e : x = y
        · rw [e]; simp
        · rw [decide_eq_true e]
          have : ((x : Int) == (y : Int)) = false := by rw [beq_eq_false_iff_ne]; omega
          rw [this]; rfl
      clear hi hp r1 r2 r3 r4 hx hx' hy hy' hd hbb HKP
      go_upto_region 6 with fail
      refine wp_region_noPanic ?_
      refine wp_region_held_drew (S := fun W => W.cell? ⟨g, i * 2, none⟩ = some (.int .i64 (x : Int)) ∧ W.cell? ⟨g, i * 2 + 1, none⟩ = some (.int .i64 (x' : Int)) ∧ W.cell? ⟨g, p * 2, none⟩ = some (.int .i64 (y : Int)) ∧ W.cell? ⟨g, p * 2 + 1, none⟩ = some (.int .i64 (y' : Int))) (by kernel_rfl) HC.out (fun hHeld => ?_)
      refine wpAnyH_take (i := 0) (oi := { dst := _, op := _, type := _, pos := _, after := _, guard := _ }) (v := ?_) rfl (by kernel_rfl) (by kernel_rfl) (by kernel_rfl) (fun _ _ _ h => h) (Or.inl ⟨by rfl, ?_⟩) (by assumption) ?_
      rotate_left
      · intro W hSw
        (try dsimp only at hSw)
        go_simp
        (try with_reducible rfl)
      try simp only [Act.put, List.setIfInBounds_toArray, List.set_cons_zero, List.set_cons_succ]
      refine wpAnyH_take (i := 1) (oi := { dst := _, op := _, type := _, pos := _, after := _, guard := _ }) (v := ?_) rfl (by kernel_rfl) (by kernel_rfl) (by kernel_rfl) (fun _ _ _ h => h) (Or.inl ⟨by rfl, ?_⟩) (by assumption) ?_
      rotate_left
      · intro W hSw
        (try dsimp only at hSw)
        go_simp
        (try with_reducible rfl)
      try simp only [Act.put, List.setIfInBounds_toArray, List.set_cons_zero, List.set_cons_succ]
      refine wpAnyH_take (i := 2) (oi := { dst := _, op := _, type := _, pos := _, after := _, guard := _ }) (v := ?_) rfl (by kernel_rfl) (by kernel_rfl) (by kernel_rfl) (fun _ _ _ h => h) (Or.inl ⟨by rfl, ?_⟩) (by assumption) ?_
      rotate_left
      · intro W hSw
        (try dsimp only at hSw)
        go_simp
        (try with_reducible rfl)
      try simp only [Act.put, List.setIfInBounds_toArray, List.set_cons_zero, List.set_cons_succ]
      refine wpAnyH_take (i := 3) (oi := { dst := _, op := _, type := _, pos := _, after := _, guard := _ }) (v := ?_) rfl (by kernel_rfl) (by kernel_rfl) (by kernel_rfl) (fun _ _ _ h => h) (Or.inl ⟨by rfl, ?_⟩) (by assumption) ?_
      rotate_left
      · intro W hSw
        (try dsimp only at hSw)
        obtain ⟨c1, c2, c3, c4⟩ := hSw
        go_simp
        (try with_reducible rfl)
      try simp only [Act.put, List.setIfInBounds_toArray, List.set_cons_zero, List.set_cons_succ]
      refine wpAnyH_take (i := 4) (oi := { dst := _, op := _, type := _, pos := _, after := _, guard := _ }) (v := ?_) rfl (by kernel_rfl) (by kernel_rfl) (by kernel_rfl) (fun _ _ _ h => h) (Or.inl ⟨by rfl, ?_⟩) (by assumption) ?_
      rotate_left
      · intro W hSw
        (try dsimp only at hSw)
        obtain ⟨c1, c2, c3, c4⟩ := hSw
        go_simp
        (try with_reducible rfl)
      try simp only [Act.put, List.setIfInBounds_toArray, List.set_cons_zero, List.set_cons_succ]
      refine wpAnyH_take (i := 5) (oi := { dst := _, op := _, type := _, pos := _, after := _, guard := _ }) (v := ?_) rfl (by kernel_rfl) (by kernel_rfl) (by kernel_rfl) (fun _ _ _ h => h) (Or.inl ⟨by rfl, ?_⟩) (by assumption) ?_
      rotate_left
      · intro W hSw
        (try dsimp only at hSw)
        go_simp
        (try with_reducible rfl)
      try simp only [Act.put, List.setIfInBounds_toArray, List.set_cons_zero, List.set_cons_succ]
      refine wpAnyH_take (i := 6) (oi := { dst := _, op := _, type := _, pos := _, after := _, guard := _ }) (v := ?_) rfl (by kernel_rfl) (by kernel_rfl) (by kernel_rfl) (fun _ _ _ h => h) (Or.inl ⟨by rfl, ?_⟩) (by assumption) ?_
      rotate_left
      · intro W hSw
        (try dsimp only at hSw)
        go_simp
        (try with_reducible rfl)
      try simp only [Act.put, List.setIfInBounds_toArray, List.set_cons_zero, List.set_cons_succ]
      refine wpAnyH_take (i := 7) (oi := { dst := _, op := _, type := _, pos := _, after := _, guard := _ }) (v := ?_) rfl (by kernel_rfl) (by kernel_rfl) (by kernel_rfl) (fun _ _ _ h => h) (Or.inl ⟨by rfl, ?_⟩) (by assumption) ?_
      rotate_left
      · intro W hSw
        (try dsimp only at hSw)
        go_simp
        (try with_reducible rfl)
      try simp only [Act.put, List.setIfInBounds_toArray, List.set_cons_zero, List.set_cons_succ]
      refine wpAnyH_take (i := 8) (oi := { dst := _, op := _, type := _, pos := _, after := _, guard := _ }) (v := ?_) rfl (by kernel_rfl) (by kernel_rfl) (by kernel_rfl) (fun _ _ _ h => h) (Or.inl ⟨by rfl, ?_⟩) (by assumption) ?_
      rotate_left
      · intro W hSw
        (try dsimp only at hSw)
        obtain ⟨c1, c2, c3, c4⟩ := hSw
        go_simp
        (try with_reducible rfl)
      try simp only [Act.put, List.setIfInBounds_toArray, List.set_cons_zero, List.set_cons_succ]
      refine wpAnyH_take (i := 9) (oi := { dst := _, op := _, type := _, pos := _, after := _, guard := _ }) (v := ?_) rfl (by kernel_rfl) (by kernel_rfl) (by kernel_rfl) (fun _ _ _ h => h) (Or.inl ⟨by rfl, ?_⟩) (by assumption) ?_
      rotate_left
      · intro W hSw
        (try dsimp only at hSw)
        obtain ⟨c1, c2, c3, c4⟩ := hSw
        go_simp
        (try with_reducible rfl)
      try simp only [Act.put, List.setIfInBounds_toArray, List.set_cons_zero, List.set_cons_succ]
      refine wpAnyH_ready (rs := [10]) (by kernel_rfl) (by simp) ?_
      refine AllReadyH.cons (o := { dst := _, op := _, type := _, pos := _, after := _, guard := _ }) rfl (fun K hK => ?_) AllReadyH.nil
      go_simp
      refine (CLO.out _).mono ?_
      rintro e wf ⟨rfl, hb⟩
      have HBF : Hid (Below wr.heap.size wr wf) := (Below.drew (Below.refl _ _)).trans hb
      clear hb
      go_wp2_with fail
      refine hK.out _ _ ?_ (fun hHeld => ?_)
      · exact ⟨below_cell HBF.out HC.out.1, below_cell HBF.out HC.out.2.1, below_cell HBF.out HC.out.2.2.1, below_cell HBF.out HC.out.2.2.2⟩
      clear hK K
      try simp only [Act.put, List.setIfInBounds_toArray, List.set_cons_zero, List.set_cons_succ]
      refine wpAnyH_done (by kernel_rfl) ?_ _
      clear hHeld
      refine NoPanic.normal ?_
      have HOF : Hid (wf.ownsRow B 57 2 (.slice (some ⟨g, 0, none⟩) n cap) n (flat fdf D)) := row_up HO.out HBF.out
      have HBW : Hid (Below w.heap.size w wf) := below_trans HB.out HBF.out
      cases bb with
      | false =>
        have HP2 : Hid (cpk D (i + 1) = D.take (i + 1)) := by
          show _ = _
          rw [cpk_some HKB.out, HP.out, take_fd D i HIL.out.2.1]
        go_wp2_with fail
        go_roundg (n - (i + 1))
        case measure => have := HI.out; have := HIL.out; omega
        case rel => exact ⟨i + 1, by simp, ⟨by omega, HIL.out.1, rfl⟩, HP2, HOF, HBW⟩
      | true =>
        have HP2 : Hid (cpk D (i + 1) = D.take i) := by
          show _ = _
          rw [cpk_none HKB.out, HP.out]
        have bc : i < cap := by have := HN.out; omega
        have bc1 : ¬ i = cap := by omega
        have bc2 : ¬ cap = i := by omega
        have bc3 : ¬ cap - i = 0 := by omega
        have bc4 : ¬ cap ≤ i := by omega
        have bc5 : ¬ ((i : Int) = (cap : Int)) := by omega
        have bc6 : ¬ ((cap : Int) = (i : Int)) := by omega
        go_upto_region 9 with fail
        clear bc bc1 bc2 bc3 bc4 bc5 bc6
        have HIN : Hid (i < n) := HIL.out.1
        obtain ⟨z, hz⟩ : ∃ z, n - i = z := ⟨_, rfl⟩
        obtain ⟨cz, hcz⟩ : ∃ cz, cap - i = cz := ⟨_, rfl⟩
        have HZ : Hid (n = i + z ∧ z ≤ cz) := ⟨by have := HIN.out; omega, by have := HN.out; have := HIN.out; omega⟩
        rw [hz, hcz]
        have HBB : Hid (Below B w wf) := HBW.out.mono HWB.out
        clear hz hcz HC CLO hwm hwi e1 e2 b1 b2 b3 b4 HBW HB HBF HKB
        go_loopg [5, 7] (n - (i + 1)) (fun gm v5 v7 wr => ∃ (q k : Nat) (E : List Fd), v5 = .int .i64 (q : Int) ∧ v7 = .int .i64 (k : Int) ∧ Hid (1 ≤ k ∧ i + k ≤ n ∧ gm = n - (i + k) ∧ q + 1 ≤ i + k) ∧ Hid (E.length = n ∧ E.take q = cpk D (i + k) ∧ (cpk D (i + k)).length = q ∧ ∀ j, q ≤ j → E.getD j fdz = D.getD j fdz) ∧ Hid (wr.ownsRow B 57 2 (.slice (some ⟨g, 0, none⟩) n cap) n (flat fdf E)) ∧ Hid (Below B w wr))
        case atStart =>
          exact ⟨i, 1, D, rfl, rfl, ⟨Nat.le_refl _, by have := HIN.out; omega, rfl, Nat.le_refl _⟩, ⟨HN.out.1, HP2.out.symm, by rw [HP2.out, List.length_take]; have := HIL.out; omega, fun _ _ => rfl⟩, HOF, HBB⟩
        case round =>
          clear HOF HBB
          obtain ⟨q, k, E, rfl, rfl, HK, HE, HO, HB⟩ := hrel
          by_cases hk : k < z
          · have e1 : decide ((k : Int) < (z : Int)) = true := by rw [decide_eq_true_eq]; omega
            have e2 : decide (k < z) = true := by rw [decide_eq_true_eq]; omega
            obtain ⟨l, hl⟩ : ∃ l, k = l + 1 := ⟨k - 1, by have := HK.out; omega⟩
            have HKL : Hid (k = l + 1 ∧ i + k < n ∧ i + l < n ∧ q < n) := ⟨hl, by have := HZ.out; omega, by have := HZ.out; omega, by have := HZ.out; have := HK.out; omega⟩
            have b1 : (k : Int) < (z : Int) := by omega
            have b2 : k < z := hk
            have b3 : (l : Int) < (z : Int) := by omega
            have b4 : l < z := by omega
            have hwm : IntKind.i64.wrap ((k : Int) - 1) = (l : Int) := by rw [IntKind.wrap_i64]; have := HN.out; have := HKL.out; omega
            have hwi := w64n k (by have := HN.out; have := HKL.out; omega)
            have hwq := w64n q (by have := HN.out; have := HKL.out; omega)
            obtain ⟨r1, r2⟩ := fdf_get E (i + k) (by rw [HE.out.1]; exact HKL.out.2.1)
            obtain ⟨r3, r4⟩ := fdf_get E (i + l) (by rw [HE.out.1]; exact HKL.out.2.2.1)
            obtain ⟨r5, r6⟩ := fdf_get E q (by rw [HE.out.1]; exact HKL.out.2.2.2)
            rw [HE.out.2.2.2 (i + k) (by have := HK.out; omega)] at r1 r2
            rw [HE.out.2.2.2 (i + l) (by have := HK.out; have := HKL.out; omega)] at r3 r4
            have HKP : Hid (kp D (i + k) = decide ((D.getD (i + k) fdz).1 ≠ (D.getD (i + l) fdz).1)) := by rw [hl, ← Nat.add_assoc]; exact kp_succ D (i + l)
            obtain ⟨X, hX⟩ : ∃ X, D.getD (i + k) fdz = X := ⟨_, rfl⟩
            have HXX : Hid (D.getD (i + k) fdz = X) := hX
            rw [hX] at r1 r2 HKP
            obtain ⟨x, x'⟩ := X
            obtain ⟨y, hy⟩ : ∃ x, (D.getD (i + l) fdz).1 = x := ⟨_, rfl⟩
            obtain ⟨y', hy'⟩ : ∃ x, (D.getD (i + l) fdz).2 = x := ⟨_, rfl⟩
            obtain ⟨u0, hu0⟩ : ∃ x, (E.getD q fdz).1 = x := ⟨_, rfl⟩
            obtain ⟨u1, hu1⟩ : ∃ x, (E.getD q fdz).2 = x := ⟨_, rfl⟩
            rw [hy] at r3 HKP
            rw [hy'] at r4
            rw [hu0] at r5
            rw [hu1] at r6
            dsimp only at r1 r2 HKP
            rw [Nat.add_mul] at r1 r2 r3 r4
            have hd : Below wr.heap.size wr wr.drew := Below.drew (Below.refl _ _)
            have HC : Hid (wr.drew.cell? ⟨g, i * 2 + k * 2, none⟩ = some (.int .i64 (x : Int)) ∧ wr.drew.cell? ⟨g, i * 2 + k * 2 + 1, none⟩ = some (.int .i64 (x' : Int)) ∧ wr.drew.cell? ⟨g, i * 2 + l * 2, none⟩ = some (.int .i64 (y : Int)) ∧ wr.drew.cell? ⟨g, i * 2 + l * 2 + 1, none⟩ = some (.int .i64 (y' : Int))) := ⟨below_cell hd (row_at HO.out _ _ r1), below_cell hd (row_at HO.out _ _ r2), below_cell hd (row_at HO.out _ _ r3), below_cell hd (row_at HO.out _ _ r4)⟩
            have HQ : Hid (wr.drew.cell? ⟨g, q * 2, none⟩ = some (.int .i64 (u0 : Int)) ∧ wr.drew.cell? ⟨g, q * 2 + 1, none⟩ = some (.int .i64 (u1 : Int))) := ⟨below_cell hd (row_at HO.out _ _ r5), below_cell hd (row_at HO.out _ _ r6)⟩
            obtain ⟨bb, hbb⟩ : ∃ bb, ((x : Int) == (y : Int)) = bb := ⟨_, rfl⟩
            have CLO : Hid (∀ W, Calls Try.prog 47 #[.agg #[.int .i64 (x : Int), .int .i64 (x' : Int)], .agg #[.int .i64 (y : Int), .int .i64 (y' : Int)]] W fun e w' => e = .returned (.bool bb) ∧ Below W.heap.size W w') := fun W => clo2_any _ _ _ _ bb hbb W
            have HKB : Hid (kp D (i + k) = !bb) := by
              show _ = _
              rw [HKP.out, ← hbb]
              by_cases e : x = y
              · rw [e]; simp
              · rw [decide_eq_true e]
                have : ((x : Int) == (y : Int)) = false := by rw [beq_eq_false_iff_ne]; omega
                rw [this]; rfl
            clear hk hl r1 r2 r3 r4 r5 r6 hX hy hy' hu0 hu1 hd hbb HKP
            go_upto_region 11 with fail
            refine wp_region_noPanic ?_
            refine wp_region_held_drew (S := fun W => W.cell? ⟨g, i * 2 + k * 2, none⟩ = some (.int .i64 (x : Int)) ∧ W.cell? ⟨g, i * 2 + k * 2 + 1, none⟩ = some (.int .i64 (x' : Int)) ∧ W.cell? ⟨g, i * 2 + l * 2, none⟩ = some (.int .i64 (y : Int)) ∧ W.cell? ⟨g, i * 2 + l * 2 + 1, none⟩ = some (.int .i64 (y' : Int))) (by kernel_rfl) HC.out (fun hHeld => ?_)
            refine wpAnyH_take (i := 0) (oi := { dst := _, op := _, type := _, pos := _, after := _, guard := _ }) (v := ?_) rfl (by kernel_rfl) (by kernel_rfl) (by kernel_rfl) (fun _ _ _ h => h) (Or.inl ⟨by rfl, ?_⟩) (by assumption) ?_
            rotate_left
            · intro W hSw
              (try dsimp only at hSw)
              go_simp
              (try with_reducible rfl)
            try simp only [Act.put, List.setIfInBounds_toArray, List.set_cons_zero, List.set_cons_succ]
            refine wpAnyH_take (i := 1) (oi := { dst := _, op := _, type := _, pos := _, after := _, guard := _ }) (v := ?_) rfl (by kernel_rfl) (by kernel_rfl) (by kernel_rfl) (fun _ _ _ h => h) (Or.inl ⟨by rfl, ?_⟩) (by assumption) ?_
            rotate_left
            · intro W hSw
              (try dsimp only at hSw)
              go_simp
              (try with_reducible rfl)
            try simp only [Act.put, List.setIfInBounds_toArray, List.set_cons_zero, List.set_cons_succ]
            refine wpAnyH_take (i := 2) (oi := { dst := _, op := _, type := _, pos := _, after := _, guard := _ }) (v := ?_) rfl (by kernel_rfl) (by kernel_rfl) (by kernel_rfl) (fun _ _ _ h => h) (Or.inl ⟨by rfl, ?_⟩) (by assumption) ?_
            rotate_left
            · intro W hSw
              (try dsimp only at hSw)
              go_simp
              (try with_reducible rfl)
            try simp only [Act.put, List.setIfInBounds_toArray, List.set_cons_zero, List.set_cons_succ]
            refine wpAnyH_take (i := 3) (oi := { dst := _, op := _, type := _, pos := _, after := _, guard := _ }) (v := ?_) rfl (by kernel_rfl) (by kernel_rfl) (by kernel_rfl) (fun _ _ _ h => h) (Or.inl ⟨by rfl, ?_⟩) (by assumption) ?_
            rotate_left
            · intro W hSw
              (try dsimp only at hSw)
              obtain ⟨c1, c2, c3, c4⟩ := hSw
              go_simp
              (try with_reducible rfl)
            try simp only [Act.put, List.setIfInBounds_toArray, List.set_cons_zero, List.set_cons_succ]
            refine wpAnyH_take (i := 4) (oi := { dst := _, op := _, type := _, pos := _, after := _, guard := _ }) (v := ?_) rfl (by kernel_rfl) (by kernel_rfl) (by kernel_rfl) (fun _ _ _ h => h) (Or.inl ⟨by rfl, ?_⟩) (by assumption) ?_
            rotate_left
            · intro W hSw
              (try dsimp only at hSw)
              obtain ⟨c1, c2, c3, c4⟩ := hSw
              go_simp
              (try with_reducible rfl)
            try simp only [Act.put, List.setIfInBounds_toArray, List.set_cons_zero, List.set_cons_succ]
            refine wpAnyH_take (i := 5) (oi := { dst := _, op := _, type := _, pos := _, after := _, guard := _ }) (v := ?_) rfl (by kernel_rfl) (by kernel_rfl) (by kernel_rfl) (fun _ _ _ h => h) (Or.inl ⟨by rfl, ?_⟩) (by assumption) ?_
            rotate_left
            · intro W hSw
              (try dsimp only at hSw)
              go_simp
              (try with_reducible rfl)
            try simp only [Act.put, List.setIfInBounds_toArray, List.set_cons_zero, List.set_cons_succ]
            refine wpAnyH_take (i := 6) (oi := { dst := _, op := _, type := _, pos := _, after := _, guard := _ }) (v := ?_) rfl (by kernel_rfl) (by kernel_rfl) (by kernel_rfl) (fun _ _ _ h => h) (Or.inl ⟨by rfl, ?_⟩) (by assumption) ?_
            rotate_left
            · intro W hSw
              (try dsimp only at hSw)
              go_simp
              (try with_reducible rfl)
            try simp only [Act.put, List.setIfInBounds_toArray, List.set_cons_zero, List.set_cons_succ]
            refine wpAnyH_take (i := 7) (oi := { dst := _, op := _, type := _, pos := _, after := _, guard := _ }) (v := ?_) rfl (by kernel_rfl) (by kernel_rfl) (by kernel_rfl) (fun _ _ _ h => h) (Or.inl ⟨by rfl, ?_⟩) (by assumption) ?_
            rotate_left
            · intro W hSw
              (try dsimp only at hSw)
              go_simp
              (try with_reducible rfl)
            try simp only [Act.put, List.setIfInBounds_toArray, List.set_cons_zero, List.set_cons_succ]
            refine wpAnyH_take (i := 8) (oi := { dst := _, op := _, type := _, pos := _, after := _, guard := _ }) (v := ?_) rfl (by kernel_rfl) (by kernel_rfl) (by kernel_rfl) (fun _ _ _ h => h) (Or.inl ⟨by rfl, ?_⟩) (by assumption) ?_
            rotate_left
            · intro W hSw
              (try dsimp only at hSw)
              obtain ⟨c1, c2, c3, c4⟩ := hSw
              go_simp
              (try with_reducible rfl)
            try simp only [Act.put, List.setIfInBounds_toArray, List.set_cons_zero, List.set_cons_succ]
            refine wpAnyH_take (i := 9) (oi := { dst := _, op := _, type := _, pos := _, after := _, guard := _ }) (v := ?_) rfl (by kernel_rfl) (by kernel_rfl) (by kernel_rfl) (fun _ _ _ h => h) (Or.inl ⟨by rfl, ?_⟩) (by assumption) ?_
            rotate_left
            · intro W hSw
              (try dsimp only at hSw)
              obtain ⟨c1, c2, c3, c4⟩ := hSw
              go_simp
              (try with_reducible rfl)
            try simp only [Act.put, List.setIfInBounds_toArray, List.set_cons_zero, List.set_cons_succ]
            refine wpAnyH_ready (rs := [10]) (by kernel_rfl) (by simp) ?_
            refine AllReadyH.cons (o := { dst := _, op := _, type := _, pos := _, after := _, guard := _ }) rfl (fun K hK => ?_) AllReadyH.nil
            go_simp
            refine (CLO.out _).mono ?_
            rintro e wf ⟨rfl, hb⟩
            have HBF : Hid (Below wr.heap.size wr wf) := (Below.drew (Below.refl _ _)).trans hb
            clear hb
            go_wp2_with fail
            refine hK.out _ _ ?_ (fun hHeld => ?_)
            · exact ⟨below_cell HBF.out HC.out.1, below_cell HBF.out HC.out.2.1, below_cell HBF.out HC.out.2.2.1, below_cell HBF.out HC.out.2.2.2⟩
            clear hK K
            try simp only [Act.put, List.setIfInBounds_toArray, List.set_cons_zero, List.set_cons_succ]
            refine wpAnyH_take (i := 11) (oi := { dst := _, op := _, type := _, pos := _, after := _, guard := _ }) (v := ?_) rfl (by kernel_rfl) (by kernel_rfl) (by kernel_rfl) (fun _ _ _ h => h) (Or.inl ⟨by rfl, ?_⟩) (by assumption) ?_
            rotate_left
            · intro W hSw
              (try dsimp only at hSw)
              go_simp
              (try with_reducible rfl)
            try simp only [Act.put, List.setIfInBounds_toArray, List.set_cons_zero, List.set_cons_succ]
            refine wpAnyH_done (by kernel_rfl) ?_ _
            clear hHeld
            refine NoPanic.normal ?_
            have HCF : Hid (wf.cell? ⟨g, i * 2 + k * 2, none⟩ = some (.int .i64 (x : Int)) ∧ wf.cell? ⟨g, i * 2 + k * 2 + 1, none⟩ = some (.int .i64 (x' : Int))) := ⟨below_cell HBF.out HC.out.1, below_cell HBF.out HC.out.2.1⟩
            have HOF : Hid (wf.ownsRow B 57 2 (.slice (some ⟨g, 0, none⟩) n cap) n (flat fdf E)) := row_up HO.out HBF.out
            have HBW : Hid (Below B w wf) := HB.out.trans (HBF.out.mono (by have := HB.out.size; have := HWB.out; omega))
            cases bb with
            | true =>
              have HP3 : Hid (cpk D (i + (k + 1)) = cpk D (i + k)) := cpk_none HKB.out
              go_wp2_with fail
              go_roundg (n - (i + (k + 1)))
              case measure => have := HK.out; have := HKL.out; omega
              case rel => exact ⟨q, k + 1, E, rfl, by simp, ⟨by omega, by have := HKL.out; omega, rfl, by have := HK.out; omega⟩, ⟨HE.out.1, by rw [HP3.out]; exact HE.out.2.1, by rw [HP3.out]; exact HE.out.2.2.1, HE.out.2.2.2⟩, HOF, HBW⟩
            | false =>
              have HP3 : Hid (cpk D (i + (k + 1)) = cpk D (i + k) ++ [(x, x')]) := by
                have h9 := cpk_some HKB.out
                rw [HXX.out] at h9
                exact h9
              have hdf : Below wr.drew.heap.size wr.drew wf ∨ True := Or.inr trivial
              obtain ⟨_, cur, hcur⟩ := row_tag HOF.out g rfl
              have f0 := Lib.frozen_of_heap hcur (q * 2)
              have f1 := Lib.frozen_of_heap hcur (q * 2 + 1)
              have s1 := row_at HOF.out (q * 2) _ (fdf_get E q (by rw [HE.out.1]; exact HKL.out.2.2.2)).1
              have s2 := row_at HOF.out (q * 2 + 1) _ (fdf_get E q (by rw [HE.out.1]; exact HKL.out.2.2.2)).2
              have g1 : wf.cell? ⟨g, i * 2 + k * 2, none⟩ = some (.int .i64 (x : Int)) := HCF.out.1
              have g2 : wf.cell? ⟨g, i * 2 + k * 2 + 1, none⟩ = some (.int .i64 (x' : Int)) := HCF.out.2
              have d1 : (q : Int) < (n : Int) := by have := HKL.out; omega
              have d2 : q < n := HKL.out.2.2.2
              obtain ⟨u2, hu2⟩ : ∃ x, (E.getD q fdz).1 = x := ⟨_, rfl⟩
              obtain ⟨u3, hu3⟩ : ∃ x, (E.getD q fdz).2 = x := ⟨_, rfl⟩
              rw [hu2] at s1
              rw [hu3] at s2
              clear hcur hu2 hu3 hdf
              go_wp2_with fail
              go_roundg (n - (i + (k + 1)))
              case measure => have := HK.out; have := HKL.out; omega
              case rel =>
                refine ⟨q + 1, k + 1, E.set q (x, x'), by simp, by simp, ⟨by omega, by have := HKL.out; omega, rfl, by have := HK.out; omega⟩, ⟨by rw [List.length_set]; exact HE.out.1, ?_, ?_, ?_⟩, ?_, ?_⟩
                · rw [HP3.out, take_set E q _ (by rw [HE.out.1]; exact HKL.out.2.2.2), HE.out.2.1]
                · rw [HP3.out, List.length_append, HE.out.2.2.1]; rfl
                · intro j hj
                  rw [getD_set E q j _ (by omega)]
                  exact HE.out.2.2.2 j (by omega)
                · show World.ownsRow _ _ _ _ _ _ _
                  rw [← flat_set2 E q x x' (by rw [HE.out.1]; exact HKL.out.2.2.2)]
                  exact row_set (row_set HOF.out (q * 2) _) (q * 2 + 1) _
                · exact Below.setCell (Below.setCell HBW.out HB0.out _) HB0.out _
          · have e1 : decide ((k : Int) < (z : Int)) = false := by rw [decide_eq_false_iff_not]; omega
            have e2 : decide (k < z) = false := by rw [decide_eq_false_iff_not]; omega
            have hik : i + k = n := by have := HK.out; have := HZ.out; omega
            have HQ : Hid (q ≤ n ∧ q < n ∧ E.take q = cpk D n ∧ (cpk D n).length = q) := by
              have h9 := HE.out
              rw [hik] at h9
              exact ⟨by have := HK.out; omega, by have := HK.out; omega, h9.2.1, h9.2.2.1⟩
            obtain ⟨_, cur, hcur⟩ := row_tag HO.out g rfl
            have hcl := fun ty => run_clear_two (P := Try.prog) wr 53 57 ty _ Try.underlying53 zeroF rfl g (q * 2) (n - q) (cap - q) (by have := HQ.out; omega) (fun j hj => by
              have hjl : q * 2 + j < (flat fdf E).length := by rw [flat_len fdf_len, HE.out.1]; have := HQ.out; omega
              rw [row_at HO.out (q * 2 + j) _ (List.getElem?_eq_getElem hjl)]; rfl) (fun j hj => Lib.frozen_of_heap hcur _)
            have d1 : (q : Int) ≤ (n : Int) := by have := HQ.out; omega
            have d2 : q ≤ n := HQ.out.1
            have d3 : (n : Int) ≤ (cap : Int) := by have := HN.out; omega
            have d4 : n ≤ cap := HN.out.2.2.2
            have d5 : (q : Int) ≤ (cap : Int) := by omega
            have d6 : q ≤ cap := by omega
            have bc : q < cap := by have := HN.out; have := HQ.out; omega
            have bc1 : ¬ q = cap := by omega
            have bc2 : ¬ cap = q := by omega
            have bc3 : ¬ cap - q = 0 := by omega
            have bc4 : ¬ cap ≤ q := by omega
            have bc5 : ¬ ((q : Int) = (cap : Int)) := by omega
            have bc6 : ¬ ((cap : Int) = (q : Int)) := by omega
            clear hk hcur hik
            go_wp2_with fail
            go_ret
            refine ⟨q, rfl, HQ.out.2.2.2, ?_, bel_cells HB0.out _ _ _ HB.out⟩
            rw [← HQ.out.2.2.1, ← flat_take2]
            exact row_past _ _ _ (Nat.le_refl _) (row_pre HO.out HQ.out.1)
    · have e1 : decide ((i : Int) < (n : Int)) = false := by rw [decide_eq_false_iff_not]; omega
      have e2 : decide (i < n) = false := by rw [decide_eq_false_iff_not]; omega
      have HE : Hid (cpk D n = D) := by
        have hin : i = n := by have := HI.out; omega
        have h9 := HP.out
        rw [hin, List.take_of_length_le (by rw [HN.out.1]; exact Nat.le_refl _)] at h9
        exact h9
      clear hi
      go_wp2_with fail
      go_ret
      exact ⟨n, rfl, by rw [HE.out]; exact HN.out.1, by rw [HE.out]; exact HO.out, HB.out.mono HWB.out⟩
end Go.Proofs.Yticheeacbajeeaa
