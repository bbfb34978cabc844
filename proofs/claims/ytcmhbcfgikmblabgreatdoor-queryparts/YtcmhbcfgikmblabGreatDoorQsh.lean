import Derived.Test.YtcmhbcfgikmblabGreatDoorQyn
import Derived.Test.YtcmhbcfgikmblabGreatDoorQrc
namespace Go.Proofs.YtcmhbcfgikmblabGreatDoor.Qy
open Go.RowKit Go.Maps

set_option maxRecDepth 100000 in
theorem soundName_long (t : ByteArray) (h : 24 < t.size) (w : World) : Calls Tryz.prog 75 #[.string t] w fun e w' => e = .returned (.bool false) ∧ w = w' := by
  have z1 : t.toList.isEmpty = false := by
    rw [toL_eq]
    cases hl : t.data.toList with
    | nil => have := lst_siz t; rw [hl] at this; simp at this; omega
    | cons a b => rfl
  have d1 : decide ((24 : Int) < (t.size : Int)) = true := by rw [decide_eq_true_eq]; omega
  have d2 : decide (24 < t.size) = true := by rw [decide_eq_true_eq]; omega
  clear h
  go_enter Tryz.func75, Tryz.ntmps75
  go_wp2_with fail
  go_ret
  exact ⟨rfl, rfl⟩
set_option maxRecDepth 100000 in
set_option maxHeartbeats 4000000 in
theorem sound_long (t : ByteArray) (h : 24 < t.size) (w : World) : Calls Tryz.prog 52 #[.agg #[.int .i64 1, .string t, .int .i64 0, .int .i64 0]] w fun e w' => e = .returned (.bool false) ∧ Below w.heap.size w w' := by
  obtain ⟨w1, hw1⟩ : ∃ w1, w1 = w.alloc (.cells #[.int .i64 1, .string t, .int .i64 0, .int .i64 0] 77) := ⟨_, rfl⟩
  have HB1 : Hid (Below w.heap.size w w1) := by rw [hw1]; exact bel_up _ _
  have hb := heap_new w (.cells #[.int .i64 1, .string t, .int .i64 0, .int .i64 0] 77)
  rw [← hw1] at hb
  have q0 := rcell hb 0 _ rfl
  have q1 := rcell hb 1 _ rfl
  have HS : Hid _ := soundName_long t h w1
  clear h hb
  go_enter Tryz.func52, Tryz.ntmps52
  go_upto_region 1 with fail
  rw [← hw1]
  clear hw1
  go_wp2_with (go_at_call 75; refine Calls.mono HS.out ?_; rintro e w2 ⟨rfl, rfl⟩)
  go_ret
  exact ⟨rfl, HB1.out⟩
set_option maxRecDepth 100000 in
set_option maxHeartbeats 4000000 in
theorem spell_long (t : ByteArray) (h : 24 < t.size) (w : World) : Calls Tryz.prog 53 #[.agg #[.int .i64 1, .string t, .int .i64 0, .int .i64 0]] w fun e w' => e = .returned (.string ⟨#[]⟩) ∧ Below w.heap.size w w' := by
  obtain ⟨w1, hw1⟩ : ∃ w1, w1 = w.alloc (.cells #[.int .i64 1, .string t, .int .i64 0, .int .i64 0] 77) := ⟨_, rfl⟩
  have HB1 : Hid (Below w.heap.size w w1) := by rw [hw1]; exact bel_up _ _
  have hb := heap_new w (.cells #[.int .i64 1, .string t, .int .i64 0, .int .i64 0] 77)
  rw [← hw1] at hb
  have q0 := rcell hb 0 _ rfl
  have q1 := rcell hb 1 _ rfl
  have q2 := rcell hb 2 _ rfl
  have q3 := rcell hb 3 _ rfl
  have HS : Hid _ := sound_long t h w1
  clear h hb
  go_enter Tryz.func53, Tryz.ntmps53
  go_upto_region 1 with fail
  rw [← hw1]
  clear hw1
  go_wp2_with (go_at_call 52; refine Calls.mono HS.out ?_; rintro e w2 ⟨rfl, hb2⟩; have HB2 : Hid _ := hb2; clear hb2)
  go_ret
  exact ⟨rfl, below_trans HB1.out HB2.out⟩
/-- What a name is spelt as. -/
theorem spellName_any (t : ByteArray) (w : World) : Calls Tryz.prog 53 #[.agg #[.int .i64 1, .string t, .int .i64 0, .int .i64 0]] w fun e w' => e = .returned (.string (if snm t.data.toList then t else ⟨#[]⟩)) ∧ Below w.heap.size w w' := by
  by_cases h : 24 < t.size
  · have e : snm t.data.toList = false := by
      unfold snm
      rw [lst_siz, decide_eq_false (show ¬ t.size ≤ 24 by omega)]
      simp
    rw [e]
    exact spell_long t h w
  · have h1 := spell_any ⟨1, t.data.toList, 0, 0⟩ (by show t.data.toList.length ≤ _; rw [lst_siz]; omega) w (fun _ h4 => by simp at h4)
    have e1 : (⟨t.data.toList.toArray⟩ : ByteArray) = t := by simp
    have e2 : (⟨(spl ⟨1, t.data.toList, 0, 0⟩).toArray⟩ : ByteArray) = if snm t.data.toList then t else ⟨#[]⟩ := by
      unfold spl snd
      simp only [if_true]
      cases snm t.data.toList with
      | false => rfl
      | true => simp
    simp only [e1] at h1
    rw [e2] at h1
    exact h1
set_option maxRecDepth 100000 in
theorem qname_any (t : ByteArray) (w : World) : Calls Tryz.prog 48 #[.string t] w fun e w' => e = .returned (.agg #[.int .i64 1, .string t, .int .i64 0, .int .i64 0]) ∧ Below w.heap.size w w' := by
  obtain ⟨w1, hw1⟩ : ∃ w1, w1 = w.alloc (.cells #[.int .i64 0, .string ⟨#[]⟩, .int .i64 0, .int .i64 0] 77) := ⟨_, rfl⟩
  have HB1 : Hid (Below w.heap.size w w1) := by rw [hw1]; exact bel_up _ _
  have hb := heap_new w (.cells #[.int .i64 0, .string ⟨#[]⟩, .int .i64 0, .int .i64 0] 77)
  rw [← hw1] at hb
  have q0 := rcell hb 0 _ rfl
  have q1 := rcell hb 1 _ rfl
  have q2 := rcell hb 2 _ rfl
  have q3 := rcell hb 3 _ rfl
  have f0 := Lib.frozen_of_heap hb 0
  have f1 := Lib.frozen_of_heap hb 1
  have f2 := Lib.frozen_of_heap hb 2
  have f3 := Lib.frozen_of_heap hb 3
  clear hb
  go_enter Tryz.func48, Tryz.ntmps48
  go_upto_region 1 with fail
  rw [← hw1]
  clear hw1
  go_wp2_with fail
  refine bodyPost_ret (v := .agg #[.int .i64 1, .string t, .int .i64 0, .int .i64 0]) ?_ rfl ⟨rfl, ?_⟩
  · rw [results_cell1 rfl]; go_simp
  · exact Below.setCell (Below.setCell (Below.setCell (Below.setCell HB1.out (Nat.le_refl _) _) (Nat.le_refl _) _) (Nat.le_refl _) _) (Nat.le_refl _) _
theorem ba_beq (x y : ByteArray) : (x == y) = decide (x = y) := bs_beq x y
set_option maxRecDepth 100000 in
set_option maxHeartbeats 4000000 in
theorem nameOr_any (t : ByteArray) (w : World) : Calls Tryz.prog 41 #[.string t] w fun e w' => e = .returned (.bool (nmN t)) ∧ Below w.heap.size w w' := by
  obtain ⟨V, hV⟩ : ∃ V, nmN t = V := ⟨_, rfl⟩
  rw [hV]
  unfold nmN at hV
  by_cases h0 : t = ⟨#[]⟩
  · rw [decide_eq_true h0, Bool.true_or] at hV
    subst h0 hV
    go_enter Tryz.func41, Tryz.ntmps41
    go_wp2_with fail
    go_ret
    exact ⟨rfl, Below.refl _ _⟩
  · rw [decide_eq_false h0, Bool.false_or] at hV
    have d0 : t.toList.isEmpty = false := by rw [bs_empty]; exact decide_eq_false h0
    by_cases h1 : t = ⟨#[95]⟩
    · rw [decide_eq_true h1] at hV
      subst h1
      have : V = false := by rw [← hV]; rfl
      subst this
      clear hV
      go_enter Tryz.func41, Tryz.ntmps41
      go_wp2_with fail
      go_ret
      exact ⟨rfl, Below.refl _ _⟩
    · rw [decide_eq_false h1] at hV
      have d1 : (t.toList == [95]) = false := by
        have := str_eq t ⟨#[95]⟩
        rw [decide_eq_false h1, toL_eq ⟨#[95]⟩] at this
        exact this
      have HN : Hid _ := qname_any t w
      have HV : Hid (snm t.data.toList = V) := by show _ = V; rw [← hV]; rfl
      have HD0 : Hid (t.toList.isEmpty = false) := d0
      clear hV h0 h1
      cases V with
      | true =>
        go_enter Tryz.func41, Tryz.ntmps41
        go_wp2_with first | (go_at_call 48; refine Calls.mono HN.out ?_; rintro e w2 ⟨rfl, hb⟩; have HB2 : Hid (Below w.heap.size w w2) := hb; clear hb) | (go_at_call 53; refine (spellName_any t _).mono ?_; rintro e w3 ⟨rfl, hb⟩; have HB3 : Hid (Below w.heap.size w w3) := below_trans HB2.out hb; clear hb; rw [HV.out, if_pos rfl])
        go_ret
        exact ⟨rfl, HB3.out⟩
      | false =>
        go_enter Tryz.func41, Tryz.ntmps41
        go_wp2_with first | (go_at_call 48; refine Calls.mono HN.out ?_; rintro e w2 ⟨rfl, hb⟩; have HB2 : Hid (Below w.heap.size w w2) := hb; clear hb) | (go_at_call 53; refine (spellName_any t _).mono ?_; rintro e w3 ⟨rfl, hb⟩; have HB3 : Hid (Below w.heap.size w w3) := below_trans HB2.out hb; clear hb; rw [HV.out, if_neg (by decide)])
        go_ret
        exact ⟨rfl, HB3.out⟩
end Go.Proofs.YtcmhbcfgikmblabGreatDoor.Qy
