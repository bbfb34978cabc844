import Derived.Test.YtbkhhegmmkcbbaaDoorSlp
import Derived.Test.YtbkhhegmmkcbbaaDoorSit
import Derived.Lib.ItoaLen
import Derived.Lib.AppendIntMem
namespace Go.Proofs.YtbkhhegmmkcbbaaDoor
open Go.RowKit Go.Maps

/-- The table of powers of ten. -/
def Tab (w : World) : Prop := Lib.TabIs Tryd.prog w "internal/strconv.uint64pow10" .u64 Lib.pow10Tab
theorem gPow : Tryd.prog.globalNamed "internal/strconv.uint64pow10" = some 0 := by kernel_rfl
theorem Tab.up {W W' : World} (h : Tab W) (hb : Below W.heap.size W W') : Tab W' := by
  unfold Tab Lib.TabIs World.var? at h ⊢
  rw [gPow] at h ⊢
  simp only [Option.bind_some] at h ⊢
  have hlt : 0 < W.heap.size := by
    rcases Nat.lt_or_ge 0 W.heap.size with h1 | h1
    · exact h1
    · rw [Array.getElem?_eq_none h1] at h
      cases h
  rw [hb.block 0 hlt]
  exact h
theorem itoa_tab (n : Nat) (h1 : n ≤ 9223372036854775807) (w : World) (ht : Tab w) : Calls Tryd.prog 11 #[.int .i64 (n : Int)] w fun e w' => e = .returned (.string ⟨(Lib.itoa (n : Int)).toArray⟩) ∧ Below w.heap.size w w' :=
  (Tryd.strconv_Itoa n (by omega) (by omega) w ht).mono fun _ _ ⟨he, k, os, hw⟩ => ⟨he, by rw [hw]; exact Lib.below_grow _ _ (Nat.le_refl _) k os⟩
theorem cnm_add (i : Nat) : (⟨#[99]⟩ : ByteArray) ++ (⟨(Lib.itoa (i : Int)).toArray⟩ : ByteArray) = cnm i := by
  apply ByteArray.ext
  rw [ByteArray.data_append]
  unfold cnm
  simp
theorem cid_at {O : List Pa} {c : ByteArray} {i : Nat} (hi : i < O.length) (h : ∀ j, j < i → (O.getD j paz).cl ≠ c) (e : (O.getD i paz).cl = c) : cid O c = some i := by
  unfold cid
  refine List.findIdx?_eq_some_iff_getElem.2 ⟨hi, ?_, fun j hj => ?_⟩
  · rw [List.getD_eq_getElem?_getD, List.getElem?_eq_getElem hi] at e
    exact decide_eq_true e
  · have h1 := h j hj
    rw [List.getD_eq_getElem?_getD, List.getElem?_eq_getElem (by omega : j < O.length)] at h1
    simpa using h1
theorem cid_no {O : List Pa} {c : ByteArray} (h : ∀ j, j < O.length → (O.getD j paz).cl ≠ c) : cid O c = none := by
  unfold cid
  rw [List.findIdx?_eq_none_iff]
  intro x hx
  obtain ⟨j, hj, rfl⟩ := List.getElem_of_mem hx
  have h1 := h j hj
  rw [List.getD_eq_getElem?_getD, List.getElem?_eq_getElem hj] at h1
  simpa using h1
set_option maxRecDepth 100000 in
set_option maxHeartbeats 16000000 in
/-- called. -/
theorem called_any {v : Value} {O : List Pa} (w : World) (h : Pl w v O) (ht : Tab w) (hl : O.length * 32 ≤ 140737488355328) (c : ByteArray) : Calls Tryd.prog 6 #[v, .string c] w fun e w' => e = .returned (.string (cld O c)) ∧ Below w.heap.size w w' := by
  have HP : Hid (Pl w v O) := h
  have HT : Hid (Tab w) := ht
  obtain ⟨pa, pc, rfl⟩ := h.form
  obtain ⟨n, hn⟩ : ∃ n, O.length = n := ⟨_, rfl⟩
  have HN : Hid (O.length = n ∧ n * 32 ≤ 140737488355328) := ⟨hn, by rw [← hn]; exact hl⟩
  rw [hn] at HP ⊢
  obtain ⟨R, hR⟩ : ∃ R, cld O c = R := ⟨_, rfl⟩
  have HR : Hid (cld O c = R) := hR
  rw [hR]
  clear h ht hl hn hR
  go_enter Tryd.func6, Tryd.ntmps6
  go_upto_region 2 with fail
  go_loopg [5] n (fun gm v5 wr => ∃ i : Nat, v5 = .int .i64 (i : Int) ∧ Hid (i ≤ n ∧ gm = n - i) ∧ Hid (c ≠ ⟨#[]⟩ → ∀ j, j < i → (O.getD j paz).cl ≠ c) ∧ Hid (Below w.heap.size w wr))
  case atStart => exact ⟨0, rfl, ⟨Nat.zero_le _, rfl⟩, fun _ j hj => absurd hj (Nat.not_lt_zero _), Below.refl _ _⟩
  case round =>
    obtain ⟨i, rfl, HI, HX, HB⟩ := hrel
    obtain ⟨w0, hw0⟩ : ∃ w0, w0 = wr := ⟨_, rfl⟩
    rw [← hw0] at HB ⊢
    clear hw0
    by_cases hi : i < n
    · have e1 : decide ((i : Int) < (n : Int)) = true := by rw [decide_eq_true_eq]; omega
      have e2 : decide (i < n) = true := by rw [decide_eq_true_eq]; omega
      have b0 : (0 : Int) ≤ (i : Int) := by omega
      have b1 : (i : Int) < (n : Int) := by omega
      have b2 : i < n := hi
      have HIL : Hid (i < n) := hi
      have hwi : IntKind.i64.wrap ((i : Int) + 1) = (i : Int) + 1 := by have := HN.out; rw [IntKind.wrap_i64]; omega
      obtain ⟨g1, o1, rfl, hc1⟩ := HP.out.two i (by rw [HN.out.1]; exact hi)
      obtain ⟨d, hd⟩ : ∃ d, (O.getD i paz).cl = d := ⟨_, rfl⟩
      have HD : Hid ((O.getD i paz).cl = d) := hd
      obtain ⟨-, k1⟩ := hc1 w0 HB.out
      rw [hd] at k1
      clear hi hc1 hd
      by_cases h1 : d = c
      · subst h1
        by_cases h2 : d = ⟨#[]⟩
        · subst h2
          go_wp2_with fail
          go_roundg (n - (i + 1))
          case measure => have := HI.out; have := HIL.out; omega
          case rel => exact ⟨i + 1, by push_cast; rfl, ⟨HIL.out, rfl⟩, fun k => absurd rfl k, HB.out⟩
        · have f3 : (!d.toList.isEmpty) = true := by rw [emp_ne h2]; rfl
          have HRI : Hid (cnm i = R) := by
            have h9 := HR.out
            unfold cld at h9
            rw [if_neg h2, cid_at (by rw [HN.out.1]; exact HIL.out) (HX.out h2) HD.out] at h9
            exact h9
          have HIT : Hid _ := itoa_tab i (by have := HN.out; have := HIL.out; omega) w0 (HT.out.up HB.out)
          have hsz : (⟨(Lib.itoa (i : Int)).toArray⟩ : ByteArray).size ≤ 21 := Lib.itoa_length_le i (by omega) (by have := HN.out; have := HIL.out; omega)
          obtain ⟨s, hs⟩ : ∃ s, (⟨(Lib.itoa (i : Int)).toArray⟩ : ByteArray) = s := ⟨_, rfl⟩
          rw [hs] at HIT hsz
          have HSZ : Hid (s.size ≤ 21) := hsz
          have HS : Hid (⟨#[99]⟩ ++ s = R) := by show _ = _; rw [← hs, cnm_add]; exact HRI.out
          have z1 : ¬ 9223372036854775807 < 1 + s.size := by omega
          clear hs hsz h2
          go_wp2_with (go_at_call 11; refine Calls.mono HIT.out ?_; rintro e w5 ⟨rfl, hb5⟩; have HB5 : Hid (Below w.heap.size w w5) := below_trans HB.out hb5; clear hb5)
          go_ret
          obtain rfl := HS.out
          exact ⟨rfl, HB5.out⟩
      · have f1 : (d.toList == c.toList) = false := cl_ne h1
        have HNE : Hid (d ≠ c) := h1
        clear h1
        go_wp2_with fail
        go_roundg (n - (i + 1))
        case measure => have := HI.out; have := HIL.out; omega
        case rel =>
          refine ⟨i + 1, by push_cast; rfl, ⟨HIL.out, rfl⟩, fun k j hj => ?_, HB.out⟩
          rcases Nat.lt_or_ge j i with q | q
          · exact HX.out k j q
          · rw [show j = i by omega, HD.out]; exact HNE.out
    · have e1 : decide ((i : Int) < (n : Int)) = false := by rw [decide_eq_false_iff_not]; omega
      have e2 : decide (i < n) = false := by rw [decide_eq_false_iff_not]; exact hi
      have HE : Hid (R = ⟨#[]⟩) := by
        show _ = _
        rw [← HR.out]
        unfold cld
        by_cases h0 : c = ⟨#[]⟩
        · rw [if_pos h0]
        · rw [if_neg h0, cid_no fun j hj => HX.out h0 j (by have := HN.out; omega)]
      clear hi
      go_wp2_with fail
      go_ret
      obtain rfl := HE.out
      exact ⟨rfl, HB.out⟩
end Go.Proofs.YtbkhhegmmkcbbaaDoor
