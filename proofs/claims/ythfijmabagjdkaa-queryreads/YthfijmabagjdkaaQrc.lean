import Derived.Test.YthfijmabagjdkaaQrb
import Derived.Test.YthfijmabagjdkaaSam
namespace Go.Proofs.Ythfijmabagjdkaa.Qy
open Go.RowKit Go.Maps

set_option maxRecDepth 100000 in
set_option maxHeartbeats 4000000 in
theorem capd_any {b : Nat} (x : Pn) (t : ByteArray) (w : World) (hb : w.cell? ⟨b, 0, none⟩ = some (.string t)) : Calls Try.prog 65 #[pV x, .pointer (some ⟨b, 0, none⟩)] w fun e w' => e = .returned (.bool (decide (x.cp = t))) ∧ Below w.heap.size w w' := by
  obtain ⟨nm, lit, fd, cp, kd⟩ := x
  obtain ⟨W1, hW1⟩ : ∃ W1, W1 = w.alloc (.cells #[.string nm, .bool lit, .string fd, .string cp, .int .i64 kd] 46) := ⟨_, rfl⟩
  have B1 : Hid (Below w.heap.size w W1) := by rw [hW1]; exact bel_up _ _
  have c1 := below_cell B1.out hb
  have c2 : W1.cell? ⟨w.heap.size, 3, none⟩ = some (.string cp) := by rw [hW1]; exact rcell (heap_new w _) 3 _ rfl
  clear hb
  go_enter Try.func65, Try.ntmps65
  go_upto_region 1 with fail
  rw [← hW1]
  clear hW1
  go_wp2_with fail
  go_ret
  exact ⟨ret_bool (by first | exact str_eq _ _ | exact bs_beq _ _ | rfl), B1.out⟩
theorem ixc_drop (l : List Pn) (t : ByteArray) (i : Nat) (hi : i < l.length) : ixc (l.drop i) t i = if (l.getD i pz).cp = t then (i : Int) else ixc (l.drop (i + 1)) t (i + 1) := by
  rw [List.drop_eq_getElem_cons hi]
  have : l.getD i pz = l[i] := by simp [List.getD, List.getElem?_eq_getElem hi]
  rw [this]
  rfl
set_option maxRecDepth 100000 in
set_option maxHeartbeats 8000000 in
theorem index_any {b : Nat} {v : Value} {l : List Pn} (t : ByteArray) (w : World) (h : Ps w v l) (hl : l.length ≤ 1000000000000000) (hb : w.cell? ⟨b, 0, none⟩ = some (.string t)) : Calls Try.prog 64 #[v, .func (.func 65) #[] #[.pointer (some ⟨b, 0, none⟩)]] w fun e w' => e = .returned (.int .i64 (ixc l t 0)) ∧ Below w.heap.size w w' := by
  have HP : Hid (Ps w v l) := h
  have HB : Hid _ := hb
  obtain ⟨A, hA⟩ : ∃ A, ixc l t 0 = A := ⟨_, rfl⟩
  have HA : Hid (ixc l t 0 = A) := hA
  rw [hA]
  obtain ⟨a, cap, rfl⟩ := h.form
  obtain ⟨n, hn⟩ : ∃ n, l.length = n := ⟨_, rfl⟩
  rw [hn] at HP hl ⊢
  have HN : Hid (l.length = n) := hn
  have HL : Hid (n ≤ 1000000000000000) := hl
  clear h hb hA hn hl
  go_enter Try.func64, Try.ntmps64
  go_wp2_with fail
  go_loopg [8] n (fun gm v8 wr => ∃ i : Nat, v8 = .int .i64 (i : Int) ∧ Hid (i ≤ n ∧ gm = n - i) ∧ Hid (ixc (l.drop i) t i = A) ∧ Hid (Below w.heap.size w wr))
  case atStart => exact ⟨0, rfl, ⟨Nat.zero_le _, rfl⟩, HA, Below.refl _ _⟩
  case round =>
    obtain ⟨i, rfl, HII, HI, HW⟩ := hrel
    by_cases hi : i < n
    · have e1 : decide ((i : Int) < (n : Int)) = true := by rw [decide_eq_true_eq]; omega
      have e2 : decide (i < n) = true := by rw [decide_eq_true_eq]; omega
      have e3 : (i : Int) < (n : Int) := by omega
      have HIL : Hid (i < n) := hi
      have hil : i < l.length := by rw [HN.out]; exact hi
      obtain ⟨g, o, rfl, c0, c1, c2, c3, c4⟩ := (HP.out.up HW.out).all i hil
      have h1 := HI.out
      rw [ixc_drop l t i hil] at h1
      obtain ⟨x, hx⟩ : ∃ x, l.getD i pz = x := ⟨_, rfl⟩
      rw [hx] at h1 c0 c1 c2 c3 c4
      have HS : Hid (Calls Try.prog 65 #[pV x, .pointer (some ⟨b, 0, none⟩)] wr fun e w' => e = .returned (.bool (decide (x.cp = t))) ∧ Below wr.heap.size wr w') := capd_any x t wr (below_cell HW.out HB.out)
      unfold pV at HS
      have hwi := w64n i (by have := HL.out; omega)
      by_cases hc : x.cp = t
      · rw [if_pos hc] at h1
        rw [decide_eq_true hc] at HS
        have H1 : Hid _ := h1
        clear hi hil h1 hx hc
        go_wp2_with (go_at_call 65; refine Calls.mono HS.out ?_; rintro e w2 ⟨rfl, hb2⟩; have HB2 : Hid _ := hb2; clear hb2)
        go_ret
        exact ⟨ret_int (show (i : Int) = A from H1.out), below_trans HW.out HB2.out⟩
      · rw [if_neg hc] at h1
        rw [decide_eq_false hc] at HS
        have H1 : Hid _ := h1
        clear hi hil h1 hx hc
        go_wp2_with (go_at_call 65; refine Calls.mono HS.out ?_; rintro e w2 ⟨rfl, hb2⟩; have HB2 : Hid _ := hb2; clear hb2)
        go_roundg (n - (i + 1))
        case measure => have := HII.out; have := HIL.out; omega
        case rel => exact ⟨i + 1, by simp, ⟨HIL.out, rfl⟩, H1.out, below_trans HW.out HB2.out⟩
    · have e1 : decide ((i : Int) < (n : Int)) = false := by rw [decide_eq_false_iff_not]; omega
      have e2 : decide (i < n) = false := by rw [decide_eq_false_iff_not]; omega
      have hd : l.drop i = [] := List.drop_eq_nil_of_le (by rw [HN.out]; omega)
      have h1 := HI.out
      rw [hd] at h1
      have HE : Hid (-1 = A) := h1
      clear hi hd h1
      go_wp2_with fail
      go_ret
      exact ⟨ret_int HE.out, HW.out⟩
theorem bs_empty (t : ByteArray) : t.toList.isEmpty = decide (t = ⟨#[]⟩) := by
  rw [toL_eq]
  by_cases h : t = ⟨#[]⟩
  · subst h; rfl
  · rw [decide_eq_false h]
    cases hl : t.data.toList with
    | nil => exact absurd (ByteArray.ext (by rw [← Array.toList_inj, hl])) h
    | cons a b => rfl
set_option maxRecDepth 100000 in
set_option maxHeartbeats 4000000 in
theorem captured_any {v : Value} {l : List Pn} (t : ByteArray) (w : World) (h : Ps w v l) (hl : l.length ≤ 1000000000000000) : Calls Try.prog 59 #[v, .string t] w fun e w' => e = .returned (.int .i64 (cap l t)) ∧ Below w.heap.size w w' := by
  obtain ⟨W1, hW1⟩ : ∃ W1, W1 = w.alloc (.cells #[.string t] 9) := ⟨_, rfl⟩
  have B1 : Hid (Below w.heap.size w W1) := by rw [hW1]; exact bel_up _ _
  have c1 : W1.cell? ⟨w.heap.size, 0, none⟩ = some (.string t) := by rw [hW1]; exact rcell (heap_new w _) 0 _ rfl
  have HI : Hid _ := index_any t W1 (h.up B1.out) hl c1
  obtain ⟨a, cp, rfl⟩ := h.form
  by_cases ht : t = ⟨#[]⟩
  · have HE : Hid (cap l t = -1) := if_pos ht
    subst ht
    rw [HE.out]
    clear h hl HI
    go_enter Try.func59, Try.ntmps59
    go_upto_region 1 with fail
    rw [← hW1]
    clear hW1
    go_wp2_with fail
    go_ret
    exact ⟨rfl, B1.out⟩
  · have HE : Hid (cap l t = ixc l t 0) := if_neg ht
    rw [HE.out]
    have d1 : t.toList.isEmpty = false := by rw [bs_empty]; exact decide_eq_false ht
    clear h hl ht
    go_enter Try.func59, Try.ntmps59
    go_upto_region 1 with fail
    rw [← hW1]
    clear hW1
    go_wp2_with (go_at_call 64; refine Calls.mono HI.out ?_; rintro e w2 ⟨rfl, hb2⟩; have HB2 : Hid _ := hb2; clear hb2)
    go_ret
    exact ⟨rfl, below_trans B1.out HB2.out⟩
end Go.Proofs.Ythfijmabagjdkaa.Qy
