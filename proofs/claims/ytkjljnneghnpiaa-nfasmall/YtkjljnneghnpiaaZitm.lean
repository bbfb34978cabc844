import Derived.Test.YtkjljnneghnpiaaZyd
namespace Go.Proofs.Ytkjljnneghnpiaa.Rg
open Go.RowKit
theorem AtC.fp {B b : Nat} {W W' : World} {k : Nat} {m : Nat → Bool} (h : AtC W k m) (hf : FP B b W W') (hk : k ≠ b) : AtC W' k m := ⟨hf.kept k _ _ _ h.h hk (by decide)⟩
theorem AtC.set4 {W : World} {k : Nat} {m : Nat → Bool} (h : AtC W k m) (m' : Nat → Bool) : AtC ((((W.setCell ⟨k, 0, none⟩ (.int .u64 (wd m' 0 : Nat))).setCell ⟨k, 1, none⟩ (.int .u64 (wd m' 1 : Nat))).setCell ⟨k, 2, none⟩ (.int .u64 (wd m' 2 : Nat))).setCell ⟨k, 3, none⟩ (.int .u64 (wd m' 3 : Nat))) k m' := by
  have hh := h.h
  refine ⟨?_⟩
  simp [World.setCell, Array.getElem?_modify, hh]
theorem fp_set4 {B b : Nat} {W0 W : World} (h : FP B b W0 W) (k : Nat) (x y z u : Value) (hk : W0.heap.size ≤ k) (hB : B ≤ W0.heap.size) : FP B b W0 ((((W.setCell ⟨k, 0, none⟩ x).setCell ⟨k, 1, none⟩ y).setCell ⟨k, 2, none⟩ z).setCell ⟨k, 3, none⟩ u) := by
  refine ⟨((((h.bel.setCell (Nat.le_trans hB hk) _).setCell (Nat.le_trans hB hk) _).setCell (Nat.le_trans hB hk) _).setCell (Nat.le_trans hB hk) _), ?_⟩
  intro j vs t fz h1 h2 h3
  have hj := lt_of_heap h1
  have hjk : j ≠ k := by omega
  rw [Below.heap_setCell _ _ _ _ hjk, Below.heap_setCell _ _ _ _ hjk, Below.heap_setCell _ _ _ _ hjk, Below.heap_setCell _ _ _ _ hjk]
  exact h.kept j vs t fz h1 h2 h3
theorem IsP.aside {B b : Nat} {s : ByteArray} {i opn : Nat} {nds : List Nd} {lg : Bool} {w : World} (h : IsP B b s i opn nds lg w) (k o : Nat) (v : Value) (m : Nat → Bool) (hk : AtC w k m) : IsP B b s i opn nds lg (w.setCell ⟨k, o, none⟩ v) := by
  obtain ⟨u, hu, ho⟩ := h.h
  have hkb : k ≠ b := by
    rintro rfl
    have := hk.h
    rw [hu] at this
    cases this
  refine ⟨h.le, by simpa using h.sz, u, ?_, own_set ho hk.h (by decide)⟩
  rw [Below.heap_setCell _ _ _ _ (fun e => hkb e.symm)]
  exact hu
theorem IsP.aside4 {B b : Nat} {s : ByteArray} {i opn : Nat} {nds : List Nd} {lg : Bool} {w : World} (h : IsP B b s i opn nds lg w) (k : Nat) (m m' : Nat → Bool) (hk : AtC w k m) : IsP B b s i opn nds lg ((((w.setCell ⟨k, 0, none⟩ (.int .u64 (wd m' 0 : Nat))).setCell ⟨k, 1, none⟩ (.int .u64 (wd m' 1 : Nat))).setCell ⟨k, 2, none⟩ (.int .u64 (wd m' 2 : Nat))).setCell ⟨k, 3, none⟩ (.int .u64 (wd m' 3 : Nat))) := by
  obtain ⟨u, hu, ho⟩ := h.h
  have hkb : k ≠ b := by
    rintro rfl
    have := hk.h
    rw [hu] at this
    cases this
  have hh := hk.h
  refine ⟨h.le, by simpa using h.sz, u, ?_, ?_⟩
  · rw [Below.heap_setCell _ _ _ _ (fun e => hkb e.symm), Below.heap_setCell _ _ _ _ (fun e => hkb e.symm), Below.heap_setCell _ _ _ _ (fun e => hkb e.symm), Below.heap_setCell _ _ _ _ (fun e => hkb e.symm)]
    exact hu
  · refine ho.kept (row := some k) ⟨rfl, rfl, rfl, by simp [World.setCell], fun j _ hj => ?_⟩ (Or.inr (own_ne ho hh (by decide)))
    have hjk : j ≠ k := fun e => hj (by simp [e])
    rw [Below.heap_setCell _ _ _ _ hjk, Below.heap_setCell _ _ _ _ hjk, Below.heap_setCell _ _ _ _ hjk, Below.heap_setCell _ _ _ _ hjk]
/-- The digits. -/
def mdig (b : Nat) : Bool := decide (48 ≤ b) && decide (b ≤ 57)
theorem digits_any (w : World) : Calls Try.prog 74 #[] w fun e w' => e = .returned (CV mdig) ∧ Below w.heap.size w w' := by
  go_enter Try.func74, Try.ntmps74
  go_wp2_with fail
  refine (span_any 48 57 (by omega) (by omega) _).mono ?_
  rintro e w1 ⟨rfl, hb1⟩
  have hR := ((BoxC.new w (fun _ => false) 40).mono (by simp only [wd_none]; exact hb1))
  have HB : Hid _ := below_trans (bel_up _ _) hb1
  clear hb1
  obtain ⟨b0, b1, b2, b3, bf⟩ := hR
  go_wp2_with fail
  refine bodyPost_ret (v := CV mdig) ?_ rfl ⟨rfl, ?_⟩
  · rw [results_cell1 rfl]; go_simp; exact ⟨rfl, rfl, rfl, rfl⟩
  · exact bel_set4 HB.out (Nat.le_refl _) _ _ _ _
theorem u64_join (m m' : Nat → Bool) (i : Nat) : bits .or .u64 (wd m i : Nat) (wd m' i : Nat) = ((wd (fun k => m k || m' k) i : Nat) : Int) := by
  rw [(u64_nat _ _ (wd_lt m _) (wd_lt m' _)).2, wd_join]
set_option maxRecDepth 100000 in
set_option maxHeartbeats 1000000 in
theorem join_any (m m' : Nat → Bool) (w : World) : Calls Try.prog 71 #[CV m, CV m'] w fun e w' => e = .returned (CV fun b => m b || m' b) ∧ Below w.heap.size w w' := by
  go_enter Try.func71, Try.ntmps71
  go_wp2_with fail
  go_loopg [8] 4 (fun g v wr => ∃ k : Nat, v = .int .i64 (k : Int) ∧ k ≤ 4 ∧ g = 4 - k ∧ BoxC wr w.heap.size (fun b => if b < 64 * k then m b || m' b else m b) ∧ BoxC wr (w.heap.size + 2) (fun _ => false) ∧ Below w.heap.size w wr)
  case atStart =>
    refine ⟨0, rfl, by omega, rfl, ?_, ?_, ?_⟩
    · have h := ((BoxC.new w m 40).up (.cells #[.int .u64 (wd m' 0 : Nat), .int .u64 (wd m' 1 : Nat), .int .u64 (wd m' 2 : Nat), .int .u64 (wd m' 3 : Nat)] 40)).up (.cells #[.int .u64 0, .int .u64 0, .int .u64 0, .int .u64 0] 40)
      simpa using h
    · have h := BoxC.new ((w.alloc (.cells #[.int .u64 (wd m 0 : Nat), .int .u64 (wd m 1 : Nat), .int .u64 (wd m 2 : Nat), .int .u64 (wd m 3 : Nat)] 40)).alloc (.cells #[.int .u64 (wd m' 0 : Nat), .int .u64 (wd m' 1 : Nat), .int .u64 (wd m' 2 : Nat), .int .u64 (wd m' 3 : Nat)] 40)) (fun _ => false) 40
      simp only [wd_none] at h
      rw [World.size_alloc, World.size_alloc] at h
      exact h
    · exact below_trans (below_trans (bel_up _ _) (bel_up _ _)) (bel_up _ _)
  case round =>
    obtain ⟨k, rfl, hk, hg, hx, hr, hbel⟩ := hrel
    have HG : Hid _ := hg
    have HX : Hid _ := hx
    have HR : Hid _ := hr
    have HB : Hid _ := hbel
    clear hg hbel
    have put : ∀ K, K < 4 → BoxC wr w.heap.size (fun b => if b < 64 * K then m b || m' b else m b) → BoxC (wr.setCell ⟨w.heap.size, K, none⟩ (.int .u64 (bits .or .u64 (wd (fun b => if b < 64 * K then m b || m' b else m b) K : Nat) (wd m' K : Nat)))) w.heap.size (fun b => if b < 64 * (K + 1) then m b || m' b else m b) := by
      intro K hK hX
      rw [u64_join]
      have e : wd (fun k => (if k < 64 * K then m k || m' k else m k) || m' k) K = wd (fun b => if b < 64 * (K + 1) then m b || m' b else m b) K := wd_congr _ _ _ (fun j hj => by rw [if_pos (by omega : 64 * K + j < 64 * (K + 1)), if_neg (by omega)])
      rw [e]
      refine hX.put K hK (fun i hi => wd_congr _ _ _ (fun j hj => ?_))
      have : 64 * i + j < 64 * (K + 1) ↔ 64 * i + j < 64 * K := by omega
      simp only [this]
    have PUT : Hid _ := put
    clear put
    rcases (by omega : k = 0 ∨ k = 1 ∨ k = 2 ∨ k = 3 ∨ k = 4) with rfl | rfl | rfl | rfl | rfl
    · obtain ⟨a0, a1, a2, a3, af⟩ := hx
      obtain ⟨q0, q1, q2, q3⟩ := agg4 (.int .u64 (wd m' 0 : Nat)) (.int .u64 (wd m' 1 : Nat)) (.int .u64 (wd m' 2 : Nat)) (.int .u64 (wd m' 3 : Nat))
      clear hr hk
      go_wp2_with fail
      go_roundg 3
      case measure => have := HG.out; omega
      case rel => exact ⟨1, rfl, by omega, rfl, PUT.out 0 (by omega) HX.out, HR.out.aside _ _ (by dsimp only; omega), HB.out.setCell (Nat.le_refl _) _⟩
    · obtain ⟨a0, a1, a2, a3, af⟩ := hx
      obtain ⟨q0, q1, q2, q3⟩ := agg4 (.int .u64 (wd m' 0 : Nat)) (.int .u64 (wd m' 1 : Nat)) (.int .u64 (wd m' 2 : Nat)) (.int .u64 (wd m' 3 : Nat))
      clear hr hk
      go_wp2_with fail
      go_roundg 2
      case measure => have := HG.out; omega
      case rel => exact ⟨2, rfl, by omega, rfl, PUT.out 1 (by omega) HX.out, HR.out.aside _ _ (by dsimp only; omega), HB.out.setCell (Nat.le_refl _) _⟩
    · obtain ⟨a0, a1, a2, a3, af⟩ := hx
      obtain ⟨q0, q1, q2, q3⟩ := agg4 (.int .u64 (wd m' 0 : Nat)) (.int .u64 (wd m' 1 : Nat)) (.int .u64 (wd m' 2 : Nat)) (.int .u64 (wd m' 3 : Nat))
      clear hr hk
      go_wp2_with fail
      go_roundg 1
      case measure => have := HG.out; omega
      case rel => exact ⟨3, rfl, by omega, rfl, PUT.out 2 (by omega) HX.out, HR.out.aside _ _ (by dsimp only; omega), HB.out.setCell (Nat.le_refl _) _⟩
    · obtain ⟨a0, a1, a2, a3, af⟩ := hx
      obtain ⟨q0, q1, q2, q3⟩ := agg4 (.int .u64 (wd m' 0 : Nat)) (.int .u64 (wd m' 1 : Nat)) (.int .u64 (wd m' 2 : Nat)) (.int .u64 (wd m' 3 : Nat))
      clear hr hk
      go_wp2_with fail
      go_roundg 0
      case measure => have := HG.out; omega
      case rel => exact ⟨4, rfl, by omega, rfl, PUT.out 3 (by omega) HX.out, HR.out.aside _ _ (by dsimp only; omega), HB.out.setCell (Nat.le_refl _) _⟩
    · obtain ⟨a0, a1, a2, a3, af⟩ := hx
      obtain ⟨b0, b1, b2, b3, bf⟩ := hr
      go_wp2_with fail
      (try simp only [Exit.inBlock, Exit.then])
      have e : ∀ i, i < 4 → wd (fun b => if b < 256 then m b || m' b else m b) i = wd (fun b => m b || m' b) i := fun i hi => wd_congr _ _ _ (fun j hj => by rw [if_pos (by omega)])
      simp only [e 0 (by omega), e 1 (by omega), e 2 (by omega), e 3 (by omega)]
      refine bodyPost_ret (v := CV fun b => m b || m' b) ?_ rfl ⟨rfl, ?_⟩
      · rw [results_cell1 rfl]; go_simp
      · exact bel_set4 HB.out (by omega) _ _ _ _
/-- The sets' bytes. -/
def mlet (b : Nat) : Bool := ((decide (97 ≤ b) && decide (b ≤ 122)) || (decide (65 ≤ b) && decide (b ≤ 90))) || (mdig b || (decide (95 ≤ b) && decide (b ≤ 95)))
def mblk (b : Nat) : Bool := (decide (9 ≤ b) && decide (b ≤ 10)) || ((decide (13 ≤ b) && decide (b ≤ 13)) || (decide (32 ≤ b) && decide (b ≤ 32)))
theorem letters_any (w : World) : Calls Try.prog 75 #[] w fun e w' => e = .returned (CV mlet) ∧ Below w.heap.size w w' := by
  go_enter Try.func75, Try.ntmps75
  have W0 : Hid (Below w.heap.size w (w.alloc (.cells #[.int .u64 0, .int .u64 0, .int .u64 0, .int .u64 0] 40)) ∧ BoxC (w.alloc (.cells #[.int .u64 0, .int .u64 0, .int .u64 0, .int .u64 0] 40)) w.heap.size (fun _ => false)) := by
    have h := BoxC.new w (fun _ => false) 40
    simp only [wd_none] at h
    exact ⟨bel_up _ _, h⟩
  go_wp2_with fail
  refine (span_any 97 122 (by omega) (by omega) _).mono ?_
  rintro e w1 ⟨rfl, hb1⟩
  have W1 : Hid (Below w.heap.size w w1 ∧ BoxC w1 w.heap.size (fun _ => false)) := ⟨below_trans W0.out.1 hb1, W0.out.2.mono hb1⟩
  clear hb1 W0
  go_wp2_with fail
  refine (span_any 65 90 (by omega) (by omega) _).mono ?_
  rintro e w2 ⟨rfl, hb2⟩
  have W2 : Hid (Below w.heap.size w w2 ∧ BoxC w2 w.heap.size (fun _ => false)) := ⟨below_trans W1.out.1 hb2, W1.out.2.mono hb2⟩
  clear hb2 W1
  go_wp2_with fail
  refine (join_any _ _ _).mono ?_
  rintro e w3 ⟨rfl, hb3⟩
  have W3 : Hid (Below w.heap.size w w3 ∧ BoxC w3 w.heap.size (fun _ => false)) := ⟨below_trans W2.out.1 hb3, W2.out.2.mono hb3⟩
  clear hb3 W2
  go_wp2_with fail
  refine (digits_any _).mono ?_
  rintro e w4 ⟨rfl, hb4⟩
  have W4 : Hid (Below w.heap.size w w4 ∧ BoxC w4 w.heap.size (fun _ => false)) := ⟨below_trans W3.out.1 hb4, W3.out.2.mono hb4⟩
  clear hb4 W3
  go_wp2_with fail
  refine (span_any 95 95 (by omega) (by omega) _).mono ?_
  rintro e w5 ⟨rfl, hb5⟩
  have W5 : Hid (Below w.heap.size w w5 ∧ BoxC w5 w.heap.size (fun _ => false)) := ⟨below_trans W4.out.1 hb5, W4.out.2.mono hb5⟩
  clear hb5 W4
  go_wp2_with fail
  refine (join_any _ _ _).mono ?_
  rintro e w6 ⟨rfl, hb6⟩
  have W6 : Hid (Below w.heap.size w w6 ∧ BoxC w6 w.heap.size (fun _ => false)) := ⟨below_trans W5.out.1 hb6, W5.out.2.mono hb6⟩
  clear hb6 W5
  go_wp2_with fail
  refine (join_any _ _ _).mono ?_
  rintro e w7 ⟨rfl, hb7⟩
  have W7 : Hid (Below w.heap.size w w7 ∧ BoxC w7 w.heap.size (fun _ => false)) := ⟨below_trans W6.out.1 hb7, W6.out.2.mono hb7⟩
  clear hb7 W6
  obtain ⟨b0, b1, b2, b3, bf⟩ := W7.out.2
  go_wp2_with fail
  refine bodyPost_ret (v := CV mlet) ?_ rfl ⟨rfl, ?_⟩
  · rw [results_cell1 rfl]; go_simp; exact ⟨rfl, rfl, rfl, rfl⟩
  · exact bel_set4 W7.out.1 (Nat.le_refl _) _ _ _ _
theorem blanks_any (w : World) : Calls Try.prog 76 #[] w fun e w' => e = .returned (CV mblk) ∧ Below w.heap.size w w' := by
  go_enter Try.func76, Try.ntmps76
  have W0 : Hid (Below w.heap.size w (w.alloc (.cells #[.int .u64 0, .int .u64 0, .int .u64 0, .int .u64 0] 40)) ∧ BoxC (w.alloc (.cells #[.int .u64 0, .int .u64 0, .int .u64 0, .int .u64 0] 40)) w.heap.size (fun _ => false)) := by
    have h := BoxC.new w (fun _ => false) 40
    simp only [wd_none] at h
    exact ⟨bel_up _ _, h⟩
  go_wp2_with fail
  refine (span_any 9 10 (by omega) (by omega) _).mono ?_
  rintro e w1 ⟨rfl, hb1⟩
  have W1 : Hid (Below w.heap.size w w1 ∧ BoxC w1 w.heap.size (fun _ => false)) := ⟨below_trans W0.out.1 hb1, W0.out.2.mono hb1⟩
  clear hb1 W0
  go_wp2_with fail
  refine (span_any 13 13 (by omega) (by omega) _).mono ?_
  rintro e w2 ⟨rfl, hb2⟩
  have W2 : Hid (Below w.heap.size w w2 ∧ BoxC w2 w.heap.size (fun _ => false)) := ⟨below_trans W1.out.1 hb2, W1.out.2.mono hb2⟩
  clear hb2 W1
  go_wp2_with fail
  refine (span_any 32 32 (by omega) (by omega) _).mono ?_
  rintro e w3 ⟨rfl, hb3⟩
  have W3 : Hid (Below w.heap.size w w3 ∧ BoxC w3 w.heap.size (fun _ => false)) := ⟨below_trans W2.out.1 hb3, W2.out.2.mono hb3⟩
  clear hb3 W2
  go_wp2_with fail
  refine (join_any _ _ _).mono ?_
  rintro e w4 ⟨rfl, hb4⟩
  have W4 : Hid (Below w.heap.size w w4 ∧ BoxC w4 w.heap.size (fun _ => false)) := ⟨below_trans W3.out.1 hb4, W3.out.2.mono hb4⟩
  clear hb4 W3
  go_wp2_with fail
  refine (join_any _ _ _).mono ?_
  rintro e w5 ⟨rfl, hb5⟩
  have W5 : Hid (Below w.heap.size w w5 ∧ BoxC w5 w.heap.size (fun _ => false)) := ⟨below_trans W4.out.1 hb5, W4.out.2.mono hb5⟩
  clear hb5 W4
  obtain ⟨b0, b1, b2, b3, bf⟩ := W5.out.2
  go_wp2_with fail
  refine bodyPost_ret (v := CV mblk) ?_ rfl ⟨rfl, ?_⟩
  · rw [results_cell1 rfl]; go_simp; exact ⟨rfl, rfl, rfl, rfl⟩
  · exact bel_set4 W5.out.1 (Nat.le_refl _) _ _ _ _
theorem pk_list (s : ByteArray) (i : Nat) : pk s i = (s.data.toList.getD i 0).toNat := by
  unfold pk
  split
  · rename_i h
    rw [get_bang s i h]
    have h' : i < s.data.toList.length := by rw [Array.length_toList]; exact h
    simp only [List.getD_eq_getElem?_getD, List.getElem?_eq_getElem h', Option.getD_some]
    rfl
  · rename_i h
    have h' : s.data.toList.length ≤ i := by rw [Array.length_toList]; exact Nat.le_of_not_lt h
    simp [List.getD_eq_getElem?_getD, List.getElem?_eq_none h']
theorem pref2 (s : ByteArray) (i : Nat) (a c : UInt8) (ha : a ≠ 0) (hc : c ≠ 0) : Lib.hasPrefix (s.extract i s.size).data.toList [a, c] = (pk s i == a.toNat && pk s (i + 1) == c.toNat) := by
  have e : (s.extract i s.size).data.toList = s.data.toList.drop i := by
    simp
    rw [List.take_of_length_le]
    rw [List.length_drop, Array.length_toList]
    exact Nat.le_refl _
  have key : ∀ L : List UInt8, Lib.hasPrefix L [a, c] = ((L.getD 0 0).toNat == a.toNat && (L.getD 1 0).toNat == c.toNat) := by
    have n0 : ∀ u : UInt8, u ≠ 0 → (((0 : UInt8).toNat == u.toNat) = false) := by
      intro u hu
      rw [beq_eq_false_iff_ne]
      intro h
      exact hu (UInt8.toNat_inj.1 h.symm)
    have nn : ∀ u v : UInt8, ((v.toNat == u.toNat) = (u == v)) := by
      intro u v
      by_cases h : u = v
      · subst h; simp
      · have h1 : (u == v) = false := by simpa using h
        rw [h1, beq_eq_false_iff_ne]
        intro h2
        exact h (UInt8.toNat_inj.1 h2.symm)
    intro L
    unfold Lib.hasPrefix
    match L with
    | [] =>
      rw [show ([] : List UInt8).getD 0 0 = 0 by rfl, n0 a ha]
      rfl
    | [x] =>
      show (a == x && false) = _
      rw [show [x].getD 1 0 = 0 by rfl, n0 c hc]
      simp
    | x :: y :: t =>
      show (a == x && (c == y && true)) = (x.toNat == a.toNat && y.toNat == c.toNat)
      rw [nn, nn, Bool.and_true]
  rw [e, key, pk_list, pk_list]
  simp [List.getD_eq_getElem?_getD, List.getElem?_drop]
/-- A set, if one is next. -/
def psets (s : ByteArray) (i : Nat) : Option (Nat → Bool) :=
  if pk s i = 92 then (if pk s (i + 1) = 100 then some mdig else if pk s (i + 1) = 119 then some mlet else if pk s (i + 1) = 115 then some mblk else none) else none
/-- What set answers. -/
def SetRes (B b : Nat) (s : ByteArray) (i opn : Nat) (nds : List Nd) (lg : Bool) (w : World) (e : Ending) (w' : World) : Prop :=
  match psets s i with
  | some m => e = .returned (.tuple #[CV m, .bool true]) ∧ IsP B b s (i + 2) opn nds lg w' ∧ FP B b w w' ∧ i + 2 ≤ s.size
  | none => e = .returned (.tuple #[CV fun _ => false, .bool false]) ∧ IsP B b s i opn nds lg w' ∧ FP B b w w'
theorem two_boxes (w : World) : AtC ((w.alloc (.cells #[.int .u64 0, .int .u64 0, .int .u64 0, .int .u64 0] 40)).alloc (.cells #[.int .u64 0, .int .u64 0, .int .u64 0, .int .u64 0] 40)) w.heap.size (fun _ => false) ∧ AtC ((w.alloc (.cells #[.int .u64 0, .int .u64 0, .int .u64 0, .int .u64 0] 40)).alloc (.cells #[.int .u64 0, .int .u64 0, .int .u64 0, .int .u64 0] 40)) (w.heap.size + 1) (fun _ => false) := by
  have h1 := AtC.new w (fun _ => false)
  simp only [wd_none] at h1
  have h2 := AtC.new (w.alloc (.cells #[.int .u64 0, .int .u64 0, .int .u64 0, .int .u64 0] 40)) (fun _ => false)
  simp only [wd_none] at h2
  rw [World.size_alloc] at h2
  exact ⟨h1.mono (bel_up _ _), h2⟩
set_option maxRecDepth 100000 in
set_option maxHeartbeats 4000000 in
theorem pset_any (B b : Nat) (s : ByteArray) (i opn : Nat) (nds : List Nd) (lg : Bool) (w : World) (h : IsP B b s i opn nds lg w) (hi : i ≤ s.size) (hs : s.size < 1000000000000000) :
    Calls Try.prog 67 #[.pointer (some ⟨b, 0, none⟩)] w fun e w' => SetRes B b s i opn nds lg w e w' := by
  have h1 := h.mono (bel_up w (.cells #[.int .u64 0, .int .u64 0, .int .u64 0, .int .u64 0] 40))
  have H2 : Hid (IsP B b s i opn nds lg ((w.alloc (.cells #[.int .u64 0, .int .u64 0, .int .u64 0, .int .u64 0] 40)).alloc (.cells #[.int .u64 0, .int .u64 0, .int .u64 0, .int .u64 0] 40)).drew) := (h1.mono (bel_up _ _)).drew
  have A2 : Hid _ := two_boxes w
  have B2 : Hid (Below w.heap.size w ((w.alloc (.cells #[.int .u64 0, .int .u64 0, .int .u64 0, .int .u64 0] 40)).alloc (.cells #[.int .u64 0, .int .u64 0, .int .u64 0, .int .u64 0] 40)).drew) := Below.drew (below_trans (bel_up _ _) (bel_up _ _))
  obtain ⟨c0, c1, c2, c4, cf⟩ := h1.cells
  have pd := pref2 s i 92 100 (by decide) (by decide)
  have pw := pref2 s i 92 119 (by decide) (by decide)
  have ps := pref2 s i 92 115 (by decide) (by decide)
  have HSZ : Hid _ := h.sz
  have HLE : Hid _ := h.le
  have HBL : Hid _ := h.lt
  have HW : Hid (i + 2 < 9223372036854775807) := by exact (by omega : i + 2 < 9223372036854775807)
  have IN : Hid (pk s (i + 1) ≠ 0 → i + 2 ≤ s.size) := fun h0 => pk_in h0
  clear h h1 hs
  go_enter Try.func67, Try.ntmps67
  go_wp2_with fail
  go_region
  go_wp2_with fail
  obtain ⟨wa, hwa⟩ : ∃ wa, ((w.alloc (.cells #[.int .u64 0, .int .u64 0, .int .u64 0, .int .u64 0] 40)).alloc (.cells #[.int .u64 0, .int .u64 0, .int .u64 0, .int .u64 0] 40)).drew = wa := ⟨_, rfl⟩
  have A3 : Hid (AtC wa w.heap.size (fun _ => false) ∧ AtC wa (w.heap.size + 1) (fun _ => false)) := by
    rw [← hwa]
    exact ⟨⟨A2.out.1.h⟩, ⟨A2.out.2.h⟩⟩
  rw [hwa] at H2 B2 ⊢
  clear hwa A2 c0 c1 c2 c4 cf
  refine (Try.strings_HasPrefix (s.extract i s.size) ⟨#[92, 100]⟩ wa).mono ?_
  rintro e w1 ⟨rfl, rfl⟩
  rw [show (ByteArray.mk #[92, 100]).data.toList = [92, 100] by rfl, pd]
  by_cases h92 : pk s i = 92
  · by_cases hd : pk s (i + 1) = 100
    · rw [show (pk s i == (92 : UInt8).toNat && pk s (i + 1) == (100 : UInt8).toNat) = true by rw [h92, hd]; rfl]
      go_wp2_with fail
      refine (digits_any _).mono ?_
      rintro e w2 ⟨rfl, hb2⟩
      have H3 : Hid _ := H2.out.mono hb2
      have A4 : Hid (AtC w2 w.heap.size (fun _ => false) ∧ AtC w2 (w.heap.size + 1) (fun _ => false)) := ⟨A3.out.1.mono hb2, A3.out.2.mono hb2⟩
      have F3 : Hid (FP B b w w2) := FP.of (below_trans B2.out hb2) HSZ.out
      clear hb2 A3 H2 B2
      have H4 : Hid _ := H3.out.aside4 (w.heap.size + 1) _ mdig A4.out.2
      have A5 : Hid _ := A4.out.2.set4 mdig
      have F4 : Hid _ := fp_set4 F3.out (w.heap.size + 1) (.int .u64 (wd mdig 0 : Nat)) (.int .u64 (wd mdig 1 : Nat)) (.int .u64 (wd mdig 2 : Nat)) (.int .u64 (wd mdig 3 : Nat)) (by omega) HSZ.out
      have A6 : Hid (AtC ((((w2.setCell ⟨w.heap.size + 1, 0, none⟩ (.int .u64 (wd mdig 0 : Nat))).setCell ⟨w.heap.size + 1, 1, none⟩ (.int .u64 (wd mdig 1 : Nat))).setCell ⟨w.heap.size + 1, 2, none⟩ (.int .u64 (wd mdig 2 : Nat))).setCell ⟨w.heap.size + 1, 3, none⟩ (.int .u64 (wd mdig 3 : Nat))) w.heap.size (fun _ => false)) := by
        refine ⟨?_⟩
        have hne : w.heap.size ≠ w.heap.size + 1 := by omega
        rw [Below.heap_setCell _ _ _ _ hne, Below.heap_setCell _ _ _ _ hne, Below.heap_setCell _ _ _ _ hne, Below.heap_setCell _ _ _ _ hne]
        exact A4.out.1.h
      obtain ⟨d0, d1, d2, d3, df⟩ := A4.out.2.box
      go_upto_region 10 with fail
      obtain ⟨wb, hwb⟩ : ∃ wb, (((w2.setCell ⟨w.heap.size + 1, 0, none⟩ (.int .u64 (wd mdig 0 : Nat))).setCell ⟨w.heap.size + 1, 1, none⟩ (.int .u64 (wd mdig 1 : Nat))).setCell ⟨w.heap.size + 1, 2, none⟩ (.int .u64 (wd mdig 2 : Nat))).setCell ⟨w.heap.size + 1, 3, none⟩ (.int .u64 (wd mdig 3 : Nat)) = wb := ⟨_, rfl⟩
      rw [hwb] at H4 A5 F4 A6 ⊢
      clear hwb d0 d1 d2 d3 df H3 A4 F3
      obtain ⟨c0, c1, c2, c4, cf⟩ := H4.out.cells
      obtain ⟨d0, d1, d2, d3, df⟩ := A5.out.box
      obtain ⟨e0, e1, e2, e3, ef⟩ := A6.out.box
      have n1 : ¬ b = w.heap.size + 1 := by have := HBL.out; omega
      have n2 : ¬ w.heap.size + 1 = b := by have := HBL.out; omega
      have n3 : ¬ b = w.heap.size := by have := HBL.out; omega
      have n4 : ¬ w.heap.size = b := by have := HBL.out; omega
      have hw2 : wrap64 ((i : Int) + 2) = ((i + 2 : Nat) : Int) := by have := HW.out; unfold wrap64; omega
      go_wp2_with fail
      have hr : psets s i = some mdig := by unfold psets; rw [if_pos h92, if_pos hd]
      unfold SetRes
      rw [hr]
      refine bodyPost_ret (v := .tuple #[CV mdig, .bool true]) ?_ rfl ⟨rfl, ?_, ?_, ?_⟩
      · rw [results_cell_tmp rfl]; go_simp
      · refine IsP.aside4 (H4.out.at_ (i + 2)) w.heap.size (fun _ => false) mdig ?_
        exact ⟨by rw [Below.heap_setCell _ _ _ _ (by have := HBL.out; dsimp only; omega)]; exact A6.out.h⟩
      · exact fp_set4 (F4.out.trans (FP.set _ _ _ HLE.out)) w.heap.size _ _ _ _ (Nat.le_refl _) HSZ.out
      · exact IN.out (by rw [hd]; decide)
    · rw [show (pk s i == (92 : UInt8).toNat && pk s (i + 1) == (100 : UInt8).toNat) = false by
        have : (pk s (i + 1) == (100 : UInt8).toNat) = false := by rw [beq_eq_false_iff_ne]; exact hd
        rw [this, Bool.and_false]]
      go_wp2_with fail
      refine (Try.strings_HasPrefix (s.extract i s.size) ⟨#[92, 119]⟩ _).mono ?_
      rintro e w1 ⟨rfl, rfl⟩
      rw [show (ByteArray.mk #[92, 119]).data.toList = [92, 119] by rfl, pw]
      by_cases hw : pk s (i + 1) = 119
      · rw [show (pk s i == (92 : UInt8).toNat && pk s (i + 1) == (119 : UInt8).toNat) = true by rw [h92, hw]; rfl]
        go_wp2_with fail
        refine (letters_any _).mono ?_
        rintro e w2 ⟨rfl, hb2⟩
        have H3 : Hid _ := H2.out.mono hb2
        have A4 : Hid (AtC w2 w.heap.size (fun _ => false) ∧ AtC w2 (w.heap.size + 1) (fun _ => false)) := ⟨A3.out.1.mono hb2, A3.out.2.mono hb2⟩
        have F3 : Hid (FP B b w w2) := FP.of (below_trans B2.out hb2) HSZ.out
        clear hb2 A3 H2 B2
        have H4 : Hid _ := H3.out.aside4 (w.heap.size + 1) _ mlet A4.out.2
        have A5 : Hid _ := A4.out.2.set4 mlet
        have F4 : Hid _ := fp_set4 F3.out (w.heap.size + 1) (.int .u64 (wd mlet 0 : Nat)) (.int .u64 (wd mlet 1 : Nat)) (.int .u64 (wd mlet 2 : Nat)) (.int .u64 (wd mlet 3 : Nat)) (by omega) HSZ.out
        have A6 : Hid (AtC ((((w2.setCell ⟨w.heap.size + 1, 0, none⟩ (.int .u64 (wd mlet 0 : Nat))).setCell ⟨w.heap.size + 1, 1, none⟩ (.int .u64 (wd mlet 1 : Nat))).setCell ⟨w.heap.size + 1, 2, none⟩ (.int .u64 (wd mlet 2 : Nat))).setCell ⟨w.heap.size + 1, 3, none⟩ (.int .u64 (wd mlet 3 : Nat))) w.heap.size (fun _ => false)) := by
          refine ⟨?_⟩
          have hne : w.heap.size ≠ w.heap.size + 1 := by omega
          rw [Below.heap_setCell _ _ _ _ hne, Below.heap_setCell _ _ _ _ hne, Below.heap_setCell _ _ _ _ hne, Below.heap_setCell _ _ _ _ hne]
          exact A4.out.1.h
        obtain ⟨d0, d1, d2, d3, df⟩ := A4.out.2.box
        go_upto_region 10 with fail
        obtain ⟨wb, hwb⟩ : ∃ wb, (((w2.setCell ⟨w.heap.size + 1, 0, none⟩ (.int .u64 (wd mlet 0 : Nat))).setCell ⟨w.heap.size + 1, 1, none⟩ (.int .u64 (wd mlet 1 : Nat))).setCell ⟨w.heap.size + 1, 2, none⟩ (.int .u64 (wd mlet 2 : Nat))).setCell ⟨w.heap.size + 1, 3, none⟩ (.int .u64 (wd mlet 3 : Nat)) = wb := ⟨_, rfl⟩
        rw [hwb] at H4 A5 F4 A6 ⊢
        clear hwb d0 d1 d2 d3 df H3 A4 F3
        obtain ⟨c0, c1, c2, c4, cf⟩ := H4.out.cells
        obtain ⟨d0, d1, d2, d3, df⟩ := A5.out.box
        obtain ⟨e0, e1, e2, e3, ef⟩ := A6.out.box
        have n1 : ¬ b = w.heap.size + 1 := by have := HBL.out; omega
        have n2 : ¬ w.heap.size + 1 = b := by have := HBL.out; omega
        have n3 : ¬ b = w.heap.size := by have := HBL.out; omega
        have n4 : ¬ w.heap.size = b := by have := HBL.out; omega
        have hw2 : wrap64 ((i : Int) + 2) = ((i + 2 : Nat) : Int) := by have := HW.out; unfold wrap64; omega
        go_wp2_with fail
        have hr : psets s i = some mlet := by unfold psets; rw [if_pos h92, if_neg hd, if_pos hw]
        unfold SetRes
        rw [hr]
        refine bodyPost_ret (v := .tuple #[CV mlet, .bool true]) ?_ rfl ⟨rfl, ?_, ?_, ?_⟩
        · rw [results_cell_tmp rfl]; go_simp
        · refine IsP.aside4 (H4.out.at_ (i + 2)) w.heap.size (fun _ => false) mlet ?_
          exact ⟨by rw [Below.heap_setCell _ _ _ _ (by have := HBL.out; dsimp only; omega)]; exact A6.out.h⟩
        · exact fp_set4 (F4.out.trans (FP.set _ _ _ HLE.out)) w.heap.size _ _ _ _ (Nat.le_refl _) HSZ.out
        · exact IN.out (by rw [hw]; decide)
      · rw [show (pk s i == (92 : UInt8).toNat && pk s (i + 1) == (119 : UInt8).toNat) = false by
          have : (pk s (i + 1) == (119 : UInt8).toNat) = false := by rw [beq_eq_false_iff_ne]; exact hw
          rw [this, Bool.and_false]]
        go_wp2_with fail
        refine (Try.strings_HasPrefix (s.extract i s.size) ⟨#[92, 115]⟩ _).mono ?_
        rintro e w1 ⟨rfl, rfl⟩
        rw [show (ByteArray.mk #[92, 115]).data.toList = [92, 115] by rfl, ps]
        by_cases hs : pk s (i + 1) = 115
        · rw [show (pk s i == (92 : UInt8).toNat && pk s (i + 1) == (115 : UInt8).toNat) = true by rw [h92, hs]; rfl]
          go_wp2_with fail
          refine (blanks_any _).mono ?_
          rintro e w2 ⟨rfl, hb2⟩
          have H3 : Hid _ := H2.out.mono hb2
          have A4 : Hid (AtC w2 w.heap.size (fun _ => false) ∧ AtC w2 (w.heap.size + 1) (fun _ => false)) := ⟨A3.out.1.mono hb2, A3.out.2.mono hb2⟩
          have F3 : Hid (FP B b w w2) := FP.of (below_trans B2.out hb2) HSZ.out
          clear hb2 A3 H2 B2
          have H4 : Hid _ := H3.out.aside4 (w.heap.size + 1) _ mblk A4.out.2
          have A5 : Hid _ := A4.out.2.set4 mblk
          have F4 : Hid _ := fp_set4 F3.out (w.heap.size + 1) (.int .u64 (wd mblk 0 : Nat)) (.int .u64 (wd mblk 1 : Nat)) (.int .u64 (wd mblk 2 : Nat)) (.int .u64 (wd mblk 3 : Nat)) (by omega) HSZ.out
          have A6 : Hid (AtC ((((w2.setCell ⟨w.heap.size + 1, 0, none⟩ (.int .u64 (wd mblk 0 : Nat))).setCell ⟨w.heap.size + 1, 1, none⟩ (.int .u64 (wd mblk 1 : Nat))).setCell ⟨w.heap.size + 1, 2, none⟩ (.int .u64 (wd mblk 2 : Nat))).setCell ⟨w.heap.size + 1, 3, none⟩ (.int .u64 (wd mblk 3 : Nat))) w.heap.size (fun _ => false)) := by
            refine ⟨?_⟩
            have hne : w.heap.size ≠ w.heap.size + 1 := by omega
            rw [Below.heap_setCell _ _ _ _ hne, Below.heap_setCell _ _ _ _ hne, Below.heap_setCell _ _ _ _ hne, Below.heap_setCell _ _ _ _ hne]
            exact A4.out.1.h
          obtain ⟨d0, d1, d2, d3, df⟩ := A4.out.2.box
          go_upto_region 10 with fail
          obtain ⟨wb, hwb⟩ : ∃ wb, (((w2.setCell ⟨w.heap.size + 1, 0, none⟩ (.int .u64 (wd mblk 0 : Nat))).setCell ⟨w.heap.size + 1, 1, none⟩ (.int .u64 (wd mblk 1 : Nat))).setCell ⟨w.heap.size + 1, 2, none⟩ (.int .u64 (wd mblk 2 : Nat))).setCell ⟨w.heap.size + 1, 3, none⟩ (.int .u64 (wd mblk 3 : Nat)) = wb := ⟨_, rfl⟩
          rw [hwb] at H4 A5 F4 A6 ⊢
          clear hwb d0 d1 d2 d3 df H3 A4 F3
          obtain ⟨c0, c1, c2, c4, cf⟩ := H4.out.cells
          obtain ⟨d0, d1, d2, d3, df⟩ := A5.out.box
          obtain ⟨e0, e1, e2, e3, ef⟩ := A6.out.box
          have n1 : ¬ b = w.heap.size + 1 := by have := HBL.out; omega
          have n2 : ¬ w.heap.size + 1 = b := by have := HBL.out; omega
          have n3 : ¬ b = w.heap.size := by have := HBL.out; omega
          have n4 : ¬ w.heap.size = b := by have := HBL.out; omega
          have hw2 : wrap64 ((i : Int) + 2) = ((i + 2 : Nat) : Int) := by have := HW.out; unfold wrap64; omega
          go_wp2_with fail
          have hr : psets s i = some mblk := by unfold psets; rw [if_pos h92, if_neg hd, if_neg hw, if_pos hs]
          unfold SetRes
          rw [hr]
          refine bodyPost_ret (v := .tuple #[CV mblk, .bool true]) ?_ rfl ⟨rfl, ?_, ?_, ?_⟩
          · rw [results_cell_tmp rfl]; go_simp
          · refine IsP.aside4 (H4.out.at_ (i + 2)) w.heap.size (fun _ => false) mblk ?_
            exact ⟨by rw [Below.heap_setCell _ _ _ _ (by have := HBL.out; dsimp only; omega)]; exact A6.out.h⟩
          · exact fp_set4 (F4.out.trans (FP.set _ _ _ HLE.out)) w.heap.size _ _ _ _ (Nat.le_refl _) HSZ.out
          · exact IN.out (by rw [hs]; decide)
        · rw [show (pk s i == (92 : UInt8).toNat && pk s (i + 1) == (115 : UInt8).toNat) = false by
            have : (pk s (i + 1) == (115 : UInt8).toNat) = false := by rw [beq_eq_false_iff_ne]; exact hs
            rw [this, Bool.and_false]]
          have hr : psets s i = none := by unfold psets; rw [if_pos h92, if_neg hd, if_neg hw, if_neg hs]
          have HR : Hid _ := hr
          obtain ⟨d0, d1, d2, d3, df⟩ := A3.out.2.box
          obtain ⟨e0, e1, e2, e3, ef⟩ := A3.out.1.box
          clear hr pd pw ps
          go_wp2_with fail
          unfold SetRes
          rw [HR.out]
          refine bodyPost_ret (v := .tuple #[CV fun _ => false, .bool false]) ?_ rfl ⟨rfl, ?_, ?_⟩
          · rw [results_cell_tmp rfl]; go_simp
          · exact H2.out.aside4 w.heap.size _ (fun _ => false) A3.out.1
          · exact fp_set4 (FP.of B2.out HSZ.out) w.heap.size _ _ _ _ (Nat.le_refl _) HSZ.out
  · have f : ∀ c : Nat, (pk s i == (92 : UInt8).toNat && pk s (i + 1) == c) = false := by
      intro c
      have : (pk s i == (92 : UInt8).toNat) = false := by rw [beq_eq_false_iff_ne]; exact h92
      rw [this, Bool.false_and]
    rw [f]
    rw [f] at pw ps
    go_wp2_with fail
    refine (Try.strings_HasPrefix (s.extract i s.size) ⟨#[92, 119]⟩ _).mono ?_
    rintro e w1 ⟨rfl, rfl⟩
    rw [show (ByteArray.mk #[92, 119]).data.toList = [92, 119] by rfl, pw]
    go_wp2_with fail
    refine (Try.strings_HasPrefix (s.extract i s.size) ⟨#[92, 115]⟩ _).mono ?_
    rintro e w1 ⟨rfl, rfl⟩
    rw [show (ByteArray.mk #[92, 115]).data.toList = [92, 115] by rfl, ps]
    have hr : psets s i = none := by unfold psets; rw [if_neg h92]
    have HR : Hid _ := hr
    obtain ⟨d0, d1, d2, d3, df⟩ := A3.out.2.box
    obtain ⟨e0, e1, e2, e3, ef⟩ := A3.out.1.box
    clear hr pd pw ps
    go_wp2_with fail
    unfold SetRes
    rw [HR.out]
    refine bodyPost_ret (v := .tuple #[CV fun _ => false, .bool false]) ?_ rfl ⟨rfl, ?_, ?_⟩
    · rw [results_cell_tmp rfl]; go_simp
    · exact H2.out.aside4 w.heap.size _ (fun _ => false) A3.out.1
    · exact fp_set4 (FP.of B2.out HSZ.out) w.heap.size _ _ _ _ (Nat.le_refl _) HSZ.out
end Go.Proofs.Ytkjljnneghnpiaa.Rg
