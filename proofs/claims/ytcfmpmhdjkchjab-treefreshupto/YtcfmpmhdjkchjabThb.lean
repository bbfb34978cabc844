import Derived.Test.YtcfmpmhdjkchjabTha
import Derived.Test.YtcfmpmhdjkchjabTgi
import Derived.Lib.Strings
namespace Go.Proofs.Ytcfmpmhdjkchjab
open Go.RowKit Go.Maps

theorem get_bang0 (s : ByteArray) (i : Nat) (hi : i < s.size) : s.get! i = s[i] := by
  unfold ByteArray.get!
  show s.data[i]! = s.data[i]
  exact getElem!_pos s.data i hi
theorem idx_fact0 (s : ByteArray) (hi : 0 < s.size) : ∀ W : World, (Instr.index 9 (.string s) (.int .i64 0)).run Try.prog W = .ok (.int .u8 ((s.get! 0).toNat : Int)) W := by
  intro W
  rw [run_index_string W 9 s .i64 _ Try.underlying9, dif_pos ⟨by omega, by omega⟩]
  simp only [Int.toNat_zero, get_bang0 s 0 hi]
theorem hpf_no {s : ByteArray} (h : s.size = 0) : hpf s = false := by
  unfold hpf
  have : s.data.toList = [] := List.length_eq_zero_iff.1 (by rw [Array.length_toList]; exact h)
  rw [this]; rfl
theorem hpf_yes {s : ByteArray} (h : 0 < s.size) : hpf s = ((s.get! 0).toNat == 95) := by
  have e : s.data.toList[0]? = some (s.get! 0) := by
    rw [get_bang0 s 0 h, List.getElem?_eq_getElem (by rw [Array.length_toList]; exact h)]
    simp [ByteArray.getElem_eq_getElem_data]
  obtain ⟨x, l, hl⟩ : ∃ x l, s.data.toList = x :: l := by
    cases hd : s.data.toList with
    | nil => rw [hd] at e; cases e
    | cons x l => exact ⟨x, l, rfl⟩
  rw [hl] at e
  have e2 : x = s.get! 0 := by simpa using e
  have e3 : hpf s = (decide ((1 : Nat) ≤ s.size) && (s.data.toList.take 1 == [95])) := by
    unfold hpf
    rw [← Lib.hasPrefix_of_take, ← Lib.size_eq]; rfl
  rw [e3, hl, e2, decide_eq_true (by omega), Bool.true_and]
  show ([s.get! 0] == [95]) = _
  by_cases hh : s.get! 0 = 95
  · rw [hh]; rfl
  · have h2 : ¬ (s.get! 0).toNat = 95 := fun e3 => hh (UInt8.toNat_inj.1 e3)
    rw [beq_eq_false_iff_ne.2 (fun e => hh (by simpa using e)), beq_eq_false_iff_ne.2 h2]
set_option maxRecDepth 100000 in
set_option maxHeartbeats 8000000 in
theorem rhidden_any {v0 v1 v2 : Value} {Te : List Td} {Sy : List Sd} {P : List Pd} (w : World) (h : Gx w v0 v1 v2 Te Sy P) (z : Int) :
    Calls Try.prog 42 #[.agg #[v0, v1, v2], .int .i64 z] w fun e w' => e = .returned (.bool (hdn Te z)) ∧ Below w.heap.size w w' := by
  have HG : Hid (Gx w v0 v1 v2 Te Sy P) := h
  obtain ⟨a0, c0, a1, c1, a2, c2, rfl, rfl, rfl⟩ := h.form
  clear h
  obtain ⟨n0, hn0⟩ : ∃ n, Te.length = n := ⟨_, rfl⟩
  have HN0 : Hid (Te.length = n0) := hn0
  have HGT : Hid (∀ i, i < n0 → ∀ W, Below w.heap.size w W → ∃ g o, a0 = some ⟨g, o, none⟩ ∧ W.cell? ⟨g, o + i * 2, none⟩ = some (.string (Te.getD i tdd).1) ∧ W.cell? ⟨g, o + i * 2 + 1, none⟩ = some (.bool (Te.getD i tdd).2)) := fun i hi W hb => (HG.out.up hb).term i (by rw [hn0]; exact hi)
  rw [hn0]
  clear hn0
  by_cases h0 : z < 0
  · have HE : Hid (hdn Te z = false) := by show _ = _; unfold hdn itk; rw [decide_eq_false (by omega)]; rfl
    have e1 : decide (z < 0) = true := by rw [decide_eq_true_eq]; exact h0
    go_enter Try.func42, Try.ntmps42
    go_wp2_with fail
    go_ret
    exact ⟨ret_bool HE.out.symm, bel_up _ _⟩
  · have e1 : decide (z < 0) = false := by rw [decide_eq_false_iff_not]; exact h0
    by_cases h1 : (n0 : Int) ≤ z
    · have HE : Hid (hdn Te z = false) := by show _ = _; unfold hdn itk; rw [HN0.out, show decide (z < (n0 : Int)) = false by rw [decide_eq_false_iff_not]; omega, Bool.and_false]; rfl
      have e2 : decide (z ≥ (n0 : Int)) = true := by rw [decide_eq_true_eq]; exact h1
      have e3 : decide ((n0 : Int) ≤ z) = true := e2
      go_enter Try.func42, Try.ntmps42
      go_wp2_with fail
      go_ret
      exact ⟨ret_bool HE.out.symm, bel_up _ _⟩
    · obtain ⟨i, rfl⟩ : ∃ i : Nat, z = (i : Int) := ⟨z.toNat, by omega⟩
      have hi : i < n0 := by omega
      have e2 : decide ((i : Int) ≥ (n0 : Int)) = false := by rw [decide_eq_false_iff_not]; omega
      have e3 : decide ((n0 : Int) ≤ (i : Int)) = false := e2
      have e4 : decide (n0 ≤ i) = false := by rw [decide_eq_false_iff_not]; omega
      have b1 : (i : Int) < (n0 : Int) := by omega
      have b2 : i < n0 := hi
      have HE : Hid (hdn Te (i : Int) = (!(Te.getD i tdd).2 && hpf (Te.getD i tdd).1)) := by
        show _ = _
        unfold hdn itk
        rw [HN0.out, decide_eq_true (by omega : (0 : Int) ≤ (i : Int)), decide_eq_true b1]
        rfl
      obtain ⟨W1, hW1⟩ : ∃ W1, W1 = w.alloc (.cells #[.slice a0 n0 c0, .slice a1 Sy.length c1, .slice a2 P.length c2] 27) := ⟨_, rfl⟩
      have HB1 : Hid (Below w.heap.size w W1) := by rw [hW1]; exact bel_up _ _
      have HX1 : Hid (W1.heap[w.heap.size]? = some (.cells #[.slice a0 n0 c0, .slice a1 Sy.length c1, .slice a2 P.length c2] 27 (0, 0))) := by rw [hW1]; exact heap_new _ _
      obtain ⟨g, o, rfl, q0, q1⟩ := HGT.out i hi W1 HB1.out
      obtain ⟨s, hs⟩ : ∃ s, (Te.getD i tdd).1 = s := ⟨_, rfl⟩
      obtain ⟨lt, hlt⟩ : ∃ lt, (Te.getD i tdd).2 = lt := ⟨_, rfl⟩
      rw [hs] at q0 HE
      rw [hlt] at q1 HE
      clear hs hlt h0 h1 hi HGT
      go_enter Try.func42, Try.ntmps42
      go_upto_region 1 with fail
      rw [← hW1]
      clear hW1
      have x0 := rcell HX1.out 0 _ rfl
      cases lt with
      | true =>
        go_wp2_with fail
        go_ret
        exact ⟨ret_bool HE.out.symm, HB1.out⟩
      | false =>
        rcases Nat.eq_zero_or_pos s.size with hz | hz
        · have HH : Hid (hpf s = false) := hpf_no hz
          have f1 : decide ((s.size : Int) > 0) = false := by rw [decide_eq_false_iff_not]; omega
          have f2 : decide ((0 : Int) < (s.size : Int)) = false := f1
          have f3 : decide (0 < s.size) = false := by rw [decide_eq_false_iff_not]; omega
          clear hz
          go_wp2_with fail
          go_ret
          exact ⟨ret_bool (by rw [HE.out, HH.out]; rfl), HB1.out⟩
        · have HH : Hid (hpf s = ((s.get! 0).toNat == 95)) := hpf_yes hz
          have f1 : decide ((s.size : Int) > 0) = true := by rw [decide_eq_true_eq]; omega
          have f2 : decide ((0 : Int) < (s.size : Int)) = true := f1
          have f3 : decide (0 < s.size) = true := by rw [decide_eq_true_eq]; omega
          have hidx := idx_fact0 s hz
          obtain ⟨m, hm⟩ : ∃ m, (s.get! 0).toNat = m := ⟨_, rfl⟩
          rw [hm] at hidx HH
          clear hz hm
          by_cases h95 : m = 95
          · subst h95
            go_wp2_with fail
            go_ret
            exact ⟨ret_bool (by rw [HE.out, HH.out]; rfl), HB1.out⟩
          · have k1 : ((m : Int) == 95) = false := by rw [beq_eq_false_iff_ne]; omega
            have HK : Hid ((m == 95) = false) := by show _ = _; rw [beq_eq_false_iff_ne]; exact h95
            clear h95
            go_wp2_with fail
            go_ret
            exact ⟨ret_bool (by rw [HE.out, HH.out, HK.out]; rfl), HB1.out⟩
/-- What kind a symbol is of. -/
def kdd (Te : List Td) (Sy : List Sd) (z : Int) : Int := if z < 0 ∨ (Te.length : Int) + (Sy.length : Int) ≤ z then 2 else if z < (Te.length : Int) then 0 else if (Sy.getD (z - (Te.length : Int)).toNat sdd).2 = 1 then 1 else 2
theorem kdd_hnd (Te : List Td) (Sy : List Sd) (z : Int) : (kdd Te Sy z == 2) = !hnd Te Sy z := by
  unfold kdd hnd itk ish
  by_cases h0 : z < 0
  · rw [if_pos (Or.inl h0), show decide (0 ≤ z) = false by rw [decide_eq_false_iff_not]; omega, show decide ((Te.length : Int) ≤ z) = false by rw [decide_eq_false_iff_not]; omega]
    rfl
  · by_cases h1 : (Te.length : Int) + (Sy.length : Int) ≤ z
    · rw [if_pos (Or.inr h1), show decide (z < (Te.length : Int)) = false by rw [decide_eq_false_iff_not]; omega, show decide (z - (Te.length : Int) < (Sy.length : Int)) = false by rw [decide_eq_false_iff_not]; omega]
      simp
    · rw [if_neg (by omega)]
      by_cases h2 : z < (Te.length : Int)
      · rw [if_pos h2, show decide (0 ≤ z) = true by rw [decide_eq_true_eq]; omega, show decide (z < (Te.length : Int)) = true by rw [decide_eq_true_eq]; omega]
        rfl
      · rw [if_neg h2, show decide (z < (Te.length : Int)) = false by rw [decide_eq_false_iff_not]; omega, show decide ((Te.length : Int) ≤ z) = true by rw [decide_eq_true_eq]; omega, show decide (0 ≤ z - (Te.length : Int)) = true by rw [decide_eq_true_eq]; omega, show decide (z - (Te.length : Int) < (Sy.length : Int)) = true by rw [decide_eq_true_eq]; omega]
        by_cases h3 : (Sy.getD (z - (Te.length : Int)).toNat sdd).2 = 1
        · rw [if_pos h3, h3]; simp
        · rw [if_neg h3, show ((Sy.getD (z - (Te.length : Int)).toNat sdd).2 == 1) = false by rw [beq_eq_false_iff_ne]; exact h3]; simp
set_option maxRecDepth 100000 in
set_option maxHeartbeats 8000000 in
theorem rkind_any {v0 v1 v2 : Value} {Te : List Td} {Sy : List Sd} {P : List Pd} (w : World) (h : Gx w v0 v1 v2 Te Sy P) (hg : Gs Te Sy P) (z : Int) :
    Calls Try.prog 41 #[.agg #[v0, v1, v2], .int .i64 z] w fun e w' => e = .returned (.int .i64 (kdd Te Sy z)) ∧ Below w.heap.size w w' := by
  have HG : Hid (Gx w v0 v1 v2 Te Sy P) := h
  obtain ⟨a0, c0, a1, c1, a2, c2, rfl, rfl, rfl⟩ := h.form
  have HGS : Hid (Te.length * 24 + 4096 ≤ 140737488355328 ∧ Sy.length * 24 + 4096 ≤ 140737488355328) := ⟨hg.t, hg.s⟩
  clear h hg
  have HKN : Hid (kdd Te Sy z = if z < 0 ∨ (Te.length : Int) + (Sy.length : Int) ≤ z then 2 else if z < (Te.length : Int) then 0 else if (Sy.getD (z - (Te.length : Int)).toNat sdd).2 = 1 then 1 else 2) := rfl
  obtain ⟨n0, hn0⟩ : ∃ n, Te.length = n := ⟨_, rfl⟩
  obtain ⟨n1, hn1⟩ : ∃ n, Sy.length = n := ⟨_, rfl⟩
  have HGT : Hid (∀ i, i < n1 → ∀ W, Below w.heap.size w W → ∃ g o, a1 = some ⟨g, o, none⟩ ∧ W.cell? ⟨g, o + i * 2 + 1, none⟩ = some (.int .i64 (Sy.getD i sdd).2)) := fun i hi W hb => by
    obtain ⟨g, o, e, _, h7⟩ := (HG.out.up hb).sym i (by rw [hn1]; exact hi)
    exact ⟨g, o, e, h7⟩
  rw [hn0, hn1] at HKN HGS ⊢
  clear hn0 hn1 HG
  have hwa : IntKind.i64.wrap ((n0 : Int) + (n1 : Int)) = ((n0 + n1 : Nat) : Int) := by have := HGS.out; rw [IntKind.wrap_i64]; omega
  by_cases h0 : z < 0
  · have HE : Hid (kdd Te Sy z = 2) := by rw [HKN.out, if_pos (Or.inl h0)]; exact rfl
    have e1 : decide (z < 0) = true := by rw [decide_eq_true_eq]; exact h0
    go_enter Try.func41, Try.ntmps41
    go_wp2_with fail
    go_ret
    exact ⟨ret_int HE.out.symm, bel_up _ _⟩
  · have e1 : decide (z < 0) = false := by rw [decide_eq_false_iff_not]; exact h0
    obtain ⟨i, rfl⟩ : ∃ i : Nat, z = (i : Int) := ⟨z.toNat, by omega⟩
    by_cases h1 : n0 + n1 ≤ i
    · have HE : Hid (kdd Te Sy (i : Int) = 2) := by rw [HKN.out, if_pos (Or.inr (by omega))]; exact rfl
      have e2 : decide ((i : Int) ≥ ((n0 + n1 : Nat) : Int)) = true := by rw [decide_eq_true_eq]; omega
      have e3 : decide ((i : Int) ≥ (n0 : Int) + (n1 : Int)) = true := by rw [decide_eq_true_eq]; omega
      have e4 : decide ((n0 : Int) + (n1 : Int) ≤ (i : Int)) = true := e3
      have e5 : decide (n0 + n1 ≤ i) = true := by rw [decide_eq_true_eq]; omega
      go_enter Try.func41, Try.ntmps41
      go_wp2_with fail
      go_ret
      exact ⟨ret_int HE.out.symm, bel_up _ _⟩
    · have e2 : decide ((i : Int) ≥ ((n0 + n1 : Nat) : Int)) = false := by rw [decide_eq_false_iff_not]; omega
      have e3 : decide ((i : Int) ≥ (n0 : Int) + (n1 : Int)) = false := by rw [decide_eq_false_iff_not]; omega
      have e4 : decide ((n0 : Int) + (n1 : Int) ≤ (i : Int)) = false := e3
      have e5 : decide (n0 + n1 ≤ i) = false := by rw [decide_eq_false_iff_not]; omega
      have hk0 := HKN.out
      rw [if_neg (by omega)] at hk0
      by_cases h2 : i < n0
      · have HE : Hid (kdd Te Sy (i : Int) = 0) := by rw [hk0, if_pos (by omega)]; exact rfl
        have f1 : decide ((i : Int) < (n0 : Int)) = true := by rw [decide_eq_true_eq]; omega
        have f2 : decide (i < n0) = true := by rw [decide_eq_true_eq]; omega
        clear hk0 HKN
        go_enter Try.func41, Try.ntmps41
        go_wp2_with fail
        go_ret
        exact ⟨ret_int HE.out.symm, bel_up _ _⟩
      · have f1 : decide ((i : Int) < (n0 : Int)) = false := by rw [decide_eq_false_iff_not]; omega
        have f2 : decide (i < n0) = false := by rw [decide_eq_false_iff_not]; omega
        obtain ⟨j, rfl⟩ : ∃ j, i = n0 + j := ⟨i - n0, by omega⟩
        rw [if_neg (by omega), show (((n0 + j : Nat) : Int) - (n0 : Int)).toNat = j by omega] at hk0
        have hws : IntKind.i64.wrap (((n0 + j : Nat) : Int) - (n0 : Int)) = (j : Int) := by have := HGS.out; rw [IntKind.wrap_i64]; omega
        have hws2 : IntKind.i64.wrap ((n0 : Int) + (j : Int) - (n0 : Int)) = (j : Int) := by have := HGS.out; rw [IntKind.wrap_i64]; omega
        have b1 : (j : Int) < (n1 : Int) := by omega
        have b2 : j < n1 := by omega
        obtain ⟨W1, hW1⟩ : ∃ W1, W1 = w.alloc (.cells #[.slice a0 n0 c0, .slice a1 n1 c1, .slice a2 P.length c2] 27) := ⟨_, rfl⟩
        have HB1 : Hid (Below w.heap.size w W1) := by rw [hW1]; exact bel_up _ _
        have HX1 : Hid (W1.heap[w.heap.size]? = some (.cells #[.slice a0 n0 c0, .slice a1 n1 c1, .slice a2 P.length c2] 27 (0, 0))) := by rw [hW1]; exact heap_new _ _
        obtain ⟨g, o, rfl, q1⟩ := HGT.out j b2 W1 HB1.out
        obtain ⟨s, hs⟩ : ∃ s, (Sy.getD j sdd).2 = s := ⟨_, rfl⟩
        rw [hs] at q1 hk0
        clear hs h0 h1 h2 HGT HKN
        have HE : Hid (kdd Te Sy ((n0 + j : Nat) : Int) = if s = 1 then 1 else 2) := hk0
        clear hk0
        go_enter Try.func41, Try.ntmps41
        go_upto_region 1 with fail
        rw [← hW1]
        clear hW1
        have x0 := rcell HX1.out 0 _ rfl
        have x1 := rcell HX1.out 1 _ rfl
        by_cases h3 : s = 1
        · subst h3
          go_wp2_with fail
          go_ret
          exact ⟨ret_int (by have h7 := HE.out; (first | rw [if_pos rfl] at h7 | rw [if_pos trivial] at h7); first | exact h7.symm | (rw [Int.natCast_add] at h7; exact h7.symm)), HB1.out⟩
        · have k1 : (s == 1) = false := by rw [beq_eq_false_iff_ne]; exact h3
          have HK : Hid (¬ s = 1) := h3
          clear h3
          go_wp2_with fail
          go_ret
          exact ⟨ret_int (by have h7 := HE.out; rw [if_neg HK.out] at h7; first | exact h7.symm | (rw [Int.natCast_add] at h7; exact h7.symm)), HB1.out⟩
end Go.Proofs.Ytcfmpmhdjkchjab
