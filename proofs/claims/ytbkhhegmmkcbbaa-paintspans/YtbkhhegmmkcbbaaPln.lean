import Derived.Test.YtbkhhegmmkcbbaaPcs
namespace Go.Proofs.Ytbkhhegmmkcbbaa
open Go.RowKit Go.Maps

def lnC (L : List Pa) (t : ByteArray) : ByteArray := match fs L t with
  | some k => (L.getD k paz).cl
  | none => ⟨#[]⟩
theorem fs_first {L : List Pa} {t : ByteArray} {i : Nat} (hi : i < L.length) (h : fs (L.take i) t = none) (e : (L.getD i paz).nm = t) : fs L t = some i := by
  have h1 := fs_step L i hi t
  rw [h] at h1
  simp only [if_pos e] at h1
  unfold fs at h1 ⊢
  have h2 : L = L.take (i + 1) ++ L.drop (i + 1) := (List.take_append_drop _ _).symm
  rw [h2, List.findIdx?_append, h1]
  rfl
theorem fs_pass {L : List Pa} {t : ByteArray} {i : Nat} (hi : i < L.length) (h : fs (L.take i) t = none) (e : (L.getD i paz).nm ≠ t) : fs (L.take (i + 1)) t = none := by
  rw [fs_step L i hi t, h]
  simp only [if_neg e]
set_option maxRecDepth 100000 in
set_option maxHeartbeats 8000000 in
theorem line_any {v : Value} {L : List Pa} (w : World) (h : Pl w v L) (hl : L.length * 32 ≤ 140737488355328) (t : ByteArray) : Calls Try.prog 35 #[.agg (lgA v), .string t] w fun e w' => e = .returned (.tuple #[.string (lnC L t), .bool (fs L t).isSome]) ∧ Below w.heap.size w w' := by
  have HP : Hid (Pl w v L) := h
  obtain ⟨a, cap, rfl⟩ := h.form
  obtain ⟨W1, hW1⟩ : ∃ W1, W1 = w.alloc (.cells (lgA (.slice a L.length cap)) 41) := ⟨_, rfl⟩
  have HB1 : Hid (Below w.heap.size w W1) := by rw [hW1]; exact bel_up _ _
  have HH1 : Hid (W1.heap[w.heap.size]? = some (.cells (lgA (.slice a L.length cap)) 41 (0, 0))) := by rw [hW1]; exact heap_new w _
  have hkey : (lgA (.slice a L.length cap))[8]? = some (.slice a L.length cap) := rfl
  have c8 := rcell HH1.out 8 _ hkey
  unfold lgA at hW1 ⊢
  obtain ⟨n, hn⟩ : ∃ n, L.length = n := ⟨_, rfl⟩
  have HN : Hid (L.length = n) := hn
  have HL : Hid (n * 32 ≤ 140737488355328) := by rw [← hn]; exact hl
  rw [hn] at HP hW1 c8 HH1 ⊢
  obtain ⟨lb, hlb⟩ : ∃ lb, w.heap.size = lb := ⟨_, rfl⟩
  rw [hlb] at c8
  obtain ⟨RS, hRS⟩ : ∃ RS, lnC L t = RS := ⟨_, rfl⟩
  obtain ⟨RB, hRB⟩ : ∃ RB, (fs L t).isSome = RB := ⟨_, rfl⟩
  have HR : Hid (lnC L t = RS ∧ (fs L t).isSome = RB) := ⟨hRS, hRB⟩
  rw [hRS, hRB]
  clear h hl hkey hn hRS hRB
  go_enter Try.func35, Try.ntmps35
  go_upto_region 1 with fail
  rw [← hW1]
  clear hW1 hlb
  go_upto_region 2 with fail
  go_loopg [6] n (fun gm v6 wr => ∃ i : Nat, v6 = .int .i64 (i : Int) ∧ Hid (i ≤ n ∧ gm = n - i) ∧ Hid (fs (L.take i) t = none) ∧ W1 = wr)
  case atStart => exact ⟨0, rfl, ⟨Nat.zero_le _, rfl⟩, rfl, rfl⟩
  case round =>
    obtain ⟨i, rfl, HI, HF, hw9⟩ := hrel
    subst hw9
    by_cases hi : i < n
    · have e1 : decide ((i : Int) < (n : Int)) = true := by rw [decide_eq_true_eq]; omega
      have e2 : decide (i < n) = true := by rw [decide_eq_true_eq]; omega
      have e3 : (i : Int) < (n : Int) := by omega
      have HIL : Hid (i < n) := hi
      have hil : i < L.length := by rw [HN.out]; exact hi
      obtain ⟨g, o, rfl, hc⟩ := HP.out.two i hil
      obtain ⟨c0, c1⟩ := hc W1 HB1.out
      have hwi := w64n i (by have := HL.out; omega)
      by_cases hx : (L.getD i paz).nm = t
      · have d1 : ((L.getD i paz).nm.toList == t.toList) = true := by rw [str_eq]; exact decide_eq_true hx
        have h9 := fs_first hil HF.out hx
        have hR := HR.out
        unfold lnC at hR
        rw [h9] at hR
        simp only [Option.isSome_some] at hR
        obtain ⟨r1, r2⟩ := hR
        rw [r1] at c1
        rw [hx] at c0
        subst r2
        clear r1 hi hil hc d1 hx h9
        go_wp2_with fail
        go_ret2
        exact ⟨rfl, HB1.out⟩
      · have d1 : ((L.getD i paz).nm.toList == t.toList) = false := by rw [str_eq]; exact decide_eq_false hx
        have HF2 : Hid (fs (L.take (i + 1)) t = none) := fs_pass hil HF.out hx
        obtain ⟨x, hxx⟩ : ∃ x, L.getD i paz = x := ⟨_, rfl⟩
        rw [hxx] at c0 c1 d1
        clear hi hil hc hx hxx
        go_wp2_with fail
        go_roundg (n - (i + 1))
        case measure => have := HI.out; have := HIL.out; omega
        case rel => exact ⟨i + 1, by simp, ⟨HIL.out, rfl⟩, HF2, rfl⟩
    · have e1 : decide ((i : Int) < (n : Int)) = false := by rw [decide_eq_false_iff_not]; omega
      have e2 : decide (i < n) = false := by rw [decide_eq_false_iff_not]; omega
      have hE : fs L t = none := by have h9 := HF.out; rw [List.take_of_length_le (by rw [HN.out]; omega)] at h9; exact h9
      have hR := HR.out
      unfold lnC at hR
      rw [hE] at hR
      obtain ⟨r1, r2⟩ := hR
      have r3 : RB = false := r2.symm
      have r4 : RS = ⟨#[]⟩ := r1.symm
      subst r3 r4
      clear r1 r2 hi hE
      go_wp2_with fail
      go_ret2
      exact ⟨rfl, HB1.out⟩
end Go.Proofs.Ytbkhhegmmkcbbaa
