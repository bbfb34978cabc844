import Derived.Test.YtdchopljojlcpaaProg
import Derived.Test.YtdchopljojlcpaaShelf
import Derived.Test.YtdchopljojlcpaaBas
namespace Go.Proofs.Ytdchopljojlcpaa
open Go.RowKit

theorem loop_ne (d : ByteArray) : ∀ n i r, n = d.size - i → (ByteArray.toList.loop d i r).length = r.length + n := by
  intro n
  induction n with
  | zero => intro i r h; unfold ByteArray.toList.loop; rw [if_neg (by omega)]; simp
  | succ n ih => intro i r h; unfold ByteArray.toList.loop; rw [if_pos (by omega), ih _ _ (by omega)]; simp; omega
theorem toL_len (d : ByteArray) : d.toList.length = d.size := by
  unfold ByteArray.toList
  rw [loop_ne d d.size 0 [] (by omega)]; simp
theorem toL_emp (d : ByteArray) (h : 0 < d.size) : d.toList.isEmpty = false := by
  have := toL_len d
  cases hl : d.toList with
  | nil => rw [hl] at this; simp at this; omega
  | cons a l => rfl
theorem idx_nl (d : ByteArray) : decide (Lib.indexByte d.data.toList 10 < 0) = !hasNl d := by
  unfold hasNl
  generalize d.data.toList = l
  have h : ∀ l : List UInt8, (Lib.indexByte l 10 < 0 ↔ l.contains 10 = false) ∧ -1 ≤ Lib.indexByte l 10 := by
    intro l
    induction l with
    | nil => simp [Lib.indexByte]
    | cons b l ih =>
      by_cases hb : b = 10
      · subst hb; simp [Lib.indexByte]
      · have hb' : (b == 10) = false := by simpa using hb
        have e : ((10 : UInt8) == b) = false := by simpa using (fun h : 10 = b => hb h.symm)
        simp only [List.contains_cons, e, Bool.false_or, Lib.indexByte, hb', Bool.false_eq_true, if_false]
        by_cases h1 : Lib.indexByte l 10 = -1
        · have h2 : (Lib.indexByte l 10 == -1) = true := by simpa using h1
          rw [h2, if_pos rfl]
          exact ⟨⟨fun _ => ih.1.1 (by omega), fun _ => by omega⟩, by omega⟩
        · have h2 : (Lib.indexByte l 10 == -1) = false := by simpa using h1
          rw [h2, if_neg (by simp)]
          have h3 := ih.2
          refine ⟨⟨fun h => by omega, fun h => ?_⟩, by omega⟩
          have := ih.1.2 h
          omega
  have := (h l).1
  by_cases c : Lib.indexByte l 10 < 0
  · rw [decide_eq_true c, this.1 c]; rfl
  · rw [decide_eq_false c]
    cases hc : l.contains 10
    · exact absurd (this.2 hc) c
    · rfl
set_option maxHeartbeats 1000000 in
theorem mode_any (n : Int) (w : World) : Calls Try.prog 34 #[.int .i64 n] w fun e w' => e = .returned (.bool (isM n)) ∧ w' = w := by
  unfold isM
  by_cases c0 : 0 ≤ n
  · have d0 : decide (0 ≤ n) = true := by simpa using c0
    rw [d0]
    go_enter Try.func34, Try.ntmps34
    go_wp2_with fail
    go_ret
    exact ⟨rfl, rfl⟩
  · have d0 : decide (0 ≤ n) = false := by simpa using c0
    rw [d0]
    go_enter Try.func34, Try.ntmps34
    go_wp2_with fail
    go_ret
    exact ⟨rfl, rfl⟩
set_option maxHeartbeats 1000000 in
theorem wait_any (d : ByteArray) (w : World) : Calls Try.prog 33 #[.string d] w fun e w' => e = .returned (.bool (wai d)) ∧ w' = w := by
  unfold wai
  by_cases c0 : 0 < d.size
  · have d0 : decide (0 < d.size) = true := by simpa using c0
    have n1 := toL_emp d c0
    rw [d0]
    by_cases c1 : d.size ≤ 16
    · have d1 : decide (d.size ≤ 16) = true := by simpa using c1
      have d2 : decide ((d.size : Int) ≤ 16) = true := by rw [decide_eq_true_eq]; omega
      rw [d1, ← idx_nl]
      go_enter Try.func33, Try.ntmps33
      go_wp2_with (go_at_call 38; refine (Try.strings_IndexByte _ _ _).mono ?_; rintro e w' ⟨rfl, rfl⟩)
      go_ret
      exact ⟨rfl, rfl⟩
    · have d1 : decide (d.size ≤ 16) = false := by simpa using c1
      have d2 : decide ((d.size : Int) ≤ 16) = false := by rw [decide_eq_false_iff_not]; omega
      rw [d1]
      go_enter Try.func33, Try.ntmps33
      go_wp2_with fail
      go_ret
      exact ⟨rfl, rfl⟩
  · have d0 : decide (0 < d.size) = false := by simpa using c0
    have n0 : d = ⟨#[]⟩ := by
      have : d.size = 0 := by omega
      exact ByteArray.ext (Array.eq_empty_of_size_eq_zero this)
    subst n0
    go_enter Try.func33, Try.ntmps33
    go_wp2_with fail
    go_ret
    exact ⟨rfl, rfl⟩
theorem take_snoc {α : Type} (l : List α) (d : α) (i : Nat) (h : i < l.length) : l.take (i + 1) = l.take i ++ [l.getD i d] := by
  rw [List.take_add_one, List.getElem?_eq_getElem h, List.getD_eq_getElem?_getD, List.getElem?_eq_getElem h]; rfl
theorem ris_snoc (l : List Int) (i : Nat) (h : i < l.length) : ris 0 (l.take (i + 1)) = (ris 0 (l.take i) && decide ((l.take i).getLastD 0 < l.getD i 0) && decide (l.getD i 0 ≤ 65536)) := by
  rw [take_snoc l 0 i h, ris_app]
theorem last_snoc (l : List Int) (i : Nat) (h : i < l.length) : (l.take (i + 1)).getLastD 0 = l.getD i 0 := by
  rw [take_snoc l 0 i h]; simp
theorem w64n (k : Nat) (h : k < 9223372036854775807) : IntKind.i64.wrap ((k : Int) + 1) = ((k + 1 : Nat) : Int) := by rw [IntKind.wrap_i64]; omega
set_option maxRecDepth 100000 in
set_option maxHeartbeats 2000000 in
theorem rising_any {v : Value} {l : List Int} (w : World) (h : Rw w v l.length (iC l)) : Calls Try.prog 23 #[v] w fun e w' => e = .returned (.bool (decide (l.length ≤ 32) && ris 0 l)) ∧ w' = w := by
  obtain ⟨a, g, o, cap, rfl, hcap, ha0, ha1, hc⟩ := h
  by_cases c0 : l.length ≤ 32
  · have d0 : decide (l.length ≤ 32) = true := by simpa using c0
    have d1 : decide ((32 : Int) < (l.length : Int)) = false := by rw [decide_eq_false_iff_not]; omega
    have d2 : decide (32 < l.length) = false := by rw [decide_eq_false_iff_not]; omega
    rw [d0]
    have HL : Hid (l.length ≤ 32) := c0
    have HC : Hid (∀ i, i < l.length → w.cell? ⟨g, o + i, none⟩ = some (.int .i64 (l.getD i 0))) := fun i hi => hc i _ (iC_get l i hi)
    have HA : Hid (0 < l.length → a = some ⟨g, o, none⟩) := ha1
    clear c0 hc ha0 ha1 hcap
    go_enter Try.func23, Try.ntmps23
    go_wp2_with fail
    go_loopg [3, 11] l.length (fun gm v3 v11 wr => ∃ i : Nat, v3 = .int .i64 ((l.take i).getLastD 0) ∧ v11 = .int .i64 (i : Int) ∧ wr = w ∧ Hid (i ≤ l.length ∧ gm = l.length - i) ∧ Hid (ris 0 (l.take i) = true))
    case atStart => exact ⟨0, rfl, rfl, rfl, ⟨Nat.zero_le _, rfl⟩, rfl⟩
    case round =>
      obtain ⟨i, rfl, rfl, rfl, HI, HR⟩ := hrel
      by_cases hi : i < l.length
      · obtain rfl := HA.out (by omega)
        have e1 : decide ((i : Int) < (l.length : Int)) = true := by rw [decide_eq_true_eq]; omega
        have e2 : decide (i < l.length) = true := by rw [decide_eq_true_eq]; omega
        have ci := HC.out i hi
        have HIL : Hid (i < l.length) := hi
        have hwr := w64n i (by have := HL.out; omega)
        have HS : Hid (ris 0 (l.take (i + 1)) = (ris 0 (l.take i) && decide ((l.take i).getLastD 0 < l.getD i 0) && decide (l.getD i 0 ≤ 65536))) := ris_snoc l i hi
        have HT : Hid ((l.take (i + 1)).getLastD 0 = l.getD i 0) := last_snoc l i hi
        clear hi
        obtain ⟨x, hx⟩ : ∃ x, l.getD i 0 = x := ⟨_, rfl⟩
        obtain ⟨y, hy⟩ : ∃ y, (l.take i).getLastD 0 = y := ⟨_, rfl⟩
        rw [hx] at ci HS HT
        rw [hy] at HS ⊢
        clear hx hy
        by_cases h1 : x ≤ y
        · have k1 : decide (x ≤ y) = true := by simpa using h1
          have HX : Hid (x ≤ y) := h1
          clear h1
          go_wp2_with fail
          go_ret
          refine ⟨ret_bool ?_, rfl⟩
          cases hr : ris 0 l
          · rfl
          · have := ris_take 0 l (i + 1) hr
            rw [HS.out, decide_eq_false (by have := HX.out; omega)] at this
            simp at this
        · have k1 : decide (x ≤ y) = false := by simpa using h1
          have HX : Hid (y < x) := by show y < x; omega
          clear h1
          by_cases h2 : 65536 < x
          · have k2 : decide (65536 < x) = true := by simpa using h2
            have HX2 : Hid (65536 < x) := h2
            clear h2
            go_wp2_with fail
            go_ret
            refine ⟨ret_bool ?_, rfl⟩
            cases hr : ris 0 l
            · rfl
            · have := ris_take 0 l (i + 1) hr
              rw [HS.out, decide_eq_false (by have := HX2.out; omega : ¬ x ≤ 65536)] at this
              simp at this
          · have k2 : decide (65536 < x) = false := by simpa using h2
            have HX2 : Hid (x ≤ 65536) := by show x ≤ 65536; omega
            clear h2
            go_wp2_with fail
            go_roundg (l.length - (i + 1))
            case measure => have := HI.out; have := HIL.out; omega
            case rel => exact ⟨i + 1, by rw [HT.out], by first | rfl | (rw [show (i : Int) + 1 = ((i + 1 : Nat) : Int) by omega]), rfl, ⟨HIL.out, rfl⟩, by rw [HS.out, HR.out, decide_eq_true HX.out, decide_eq_true HX2.out]; rfl⟩
      · have e1 : decide ((i : Int) < (l.length : Int)) = false := by rw [decide_eq_false_iff_not]; omega
        have e2 : decide (i < l.length) = false := by rw [decide_eq_false_iff_not]; omega
        have HIL : Hid (i = l.length) := by have := HI.out; show i = l.length; omega
        clear hi
        go_wp2_with fail
        go_ret
        refine ⟨ret_bool ?_, rfl⟩
        have := HR.out
        rw [HIL.out, List.take_length] at this
        rw [this]; rfl
  · have d0 : decide (l.length ≤ 32) = false := by simpa using c0
    have d1 : decide ((32 : Int) < (l.length : Int)) = true := by rw [decide_eq_true_eq]; omega
    have d2 : decide (32 < l.length) = true := by rw [decide_eq_true_eq]; omega
    rw [d0]
    go_enter Try.func23, Try.ntmps23
    go_wp2_with fail
    go_ret
    exact ⟨rfl, rfl⟩
theorem all_snoc {α : Type} (p : α → Bool) (l : List α) (d : α) (i : Nat) (h : i < l.length) : (l.take (i + 1)).all p = ((l.take i).all p && p (l.getD i d)) := by
  rw [take_snoc l d i h]; simp
set_option maxRecDepth 100000 in
set_option maxHeartbeats 2000000 in
theorem queue_any {v : Value} {l : List ByteArray} (w : World) (h : Rw w v l.length (qC l)) : Calls Try.prog 24 #[v] w fun e w' => e = .returned (.bool (decide (l.length ≤ 8) && l.all wai)) ∧ w' = w := by
  obtain ⟨a, g, o, cap, rfl, hcap, ha0, ha1, hc⟩ := h
  by_cases c0 : l.length ≤ 8
  · have d0 : decide (l.length ≤ 8) = true := by simpa using c0
    have d1 : decide ((8 : Int) < (l.length : Int)) = false := by rw [decide_eq_false_iff_not]; omega
    have d2 : decide (8 < l.length) = false := by rw [decide_eq_false_iff_not]; omega
    rw [d0]
    have HL : Hid (l.length ≤ 8) := c0
    have HC : Hid (∀ i, i < l.length → w.cell? ⟨g, o + i, none⟩ = some (.string (l.getD i ⟨#[]⟩))) := fun i hi => hc i _ (qC_get l i hi)
    have HA : Hid (0 < l.length → a = some ⟨g, o, none⟩) := ha1
    clear c0 hc ha0 ha1 hcap
    go_enter Try.func24, Try.ntmps24
    go_wp2_with fail
    go_loopg [10] l.length (fun gm v11 wr => ∃ i : Nat, v11 = .int .i64 (i : Int) ∧ wr = w ∧ Hid (i ≤ l.length ∧ gm = l.length - i) ∧ Hid ((l.take i).all wai = true))
    case atStart => exact ⟨0, rfl, rfl, ⟨Nat.zero_le _, rfl⟩, rfl⟩
    case round =>
      obtain ⟨i, rfl, rfl, HI, HR⟩ := hrel
      by_cases hi : i < l.length
      · obtain rfl := HA.out (by omega)
        have e1 : decide ((i : Int) < (l.length : Int)) = true := by rw [decide_eq_true_eq]; omega
        have e2 : decide (i < l.length) = true := by rw [decide_eq_true_eq]; omega
        have ci := HC.out i hi
        have HIL : Hid (i < l.length) := hi
        have hwr := w64n i (by have := HL.out; omega)
        have HS : Hid ((l.take (i + 1)).all wai = ((l.take i).all wai && wai (l.getD i ⟨#[]⟩))) := all_snoc wai l _ i hi
        clear hi
        obtain ⟨x, hx⟩ : ∃ x, l.getD i ⟨#[]⟩ = x := ⟨_, rfl⟩
        rw [hx] at ci HS
        clear hx
        cases hx : wai x with
        | false =>
          have HX : Hid (wai x = false) := hx
          go_wp2_with (go_at_call 33; refine (wait_any _ _).mono ?_; rintro e w' ⟨rfl, rfl⟩; rw [HX.out])
          go_ret
          refine ⟨ret_bool ?_, rfl⟩
          cases hr : l.all wai
          · rfl
          · have := all_take wai l (i + 1) hr
            rw [HS.out, HX.out] at this
            simp at this
        | true =>
          have HX : Hid (wai x = true) := hx
          clear hx
          go_wp2_with (go_at_call 33; refine (wait_any _ _).mono ?_; rintro e w' ⟨rfl, rfl⟩; rw [HX.out])
          go_roundg (l.length - (i + 1))
          case measure => have := HI.out; have := HIL.out; omega
          case rel => exact ⟨i + 1, by first | rfl | (rw [show (i : Int) + 1 = ((i + 1 : Nat) : Int) by omega]), rfl, ⟨HIL.out, rfl⟩, by rw [HS.out, HR.out, HX.out]; rfl⟩
      · have e1 : decide ((i : Int) < (l.length : Int)) = false := by rw [decide_eq_false_iff_not]; omega
        have e2 : decide (i < l.length) = false := by rw [decide_eq_false_iff_not]; omega
        have HIL : Hid (i = l.length) := by have := HI.out; show i = l.length; omega
        clear hi
        go_wp2_with fail
        go_ret
        refine ⟨ret_bool ?_, rfl⟩
        have := HR.out
        rw [HIL.out, List.take_length] at this
        rw [this]; rfl
  · have d0 : decide (l.length ≤ 8) = false := by simpa using c0
    have d1 : decide ((8 : Int) < (l.length : Int)) = true := by rw [decide_eq_true_eq]; omega
    have d2 : decide (8 < l.length) = true := by rw [decide_eq_true_eq]; omega
    rw [d0]
    go_enter Try.func24, Try.ntmps24
    go_wp2_with fail
    go_ret
    exact ⟨rfl, rfl⟩
set_option maxRecDepth 100000 in
set_option maxHeartbeats 2000000 in
theorem frames_any {v : Value} {l : List (Int × ByteArray)} (w : World) (h : Rw w v l.length (fC l)) : Calls Try.prog 25 #[v] w fun e w' => e = .returned (.bool (decide (l.length ≤ 16) && l.all okF1)) ∧ Below w.heap.size w w' := by
  obtain ⟨a, g, o, cap, rfl, hcap, ha0, ha1, hc⟩ := h
  by_cases c0 : l.length ≤ 16
  · have d0 : decide (l.length ≤ 16) = true := by simpa using c0
    have d1 : decide ((16 : Int) < (l.length : Int)) = false := by rw [decide_eq_false_iff_not]; omega
    have d2 : decide (16 < l.length) = false := by rw [decide_eq_false_iff_not]; omega
    rw [d0]
    have HL : Hid (l.length ≤ 16) := c0
    have HC : Hid (∀ i, i < l.length → w.cell? ⟨g, o + i * 2, none⟩ = some (.int .i64 (l.getD i (0, ⟨#[]⟩)).1) ∧ w.cell? ⟨g, o + i * 2 + 1, none⟩ = some (.string (l.getD i (0, ⟨#[]⟩)).2)) := fun i hi => ⟨hc (i * 2) _ (fC_get l i hi).1, by rw [Nat.add_assoc]; exact hc (i * 2 + 1) _ (fC_get l i hi).2⟩
    have HA : Hid (0 < l.length → a = some ⟨g, o, none⟩) := ha1
    clear c0 hc ha0 ha1 hcap
    go_enter Try.func25, Try.ntmps25
    go_wp2_with fail
    go_loopg [10] l.length (fun gm v11 wr => ∃ i : Nat, v11 = .int .i64 (i : Int) ∧ Hid (Below w.heap.size w wr) ∧ Hid (i ≤ l.length ∧ gm = l.length - i) ∧ Hid ((l.take i).all okF1 = true))
    case atStart => exact ⟨0, rfl, Below.refl _ _, ⟨Nat.zero_le _, rfl⟩, rfl⟩
    case round =>
      obtain ⟨i, rfl, HB, HI, HR⟩ := hrel
      by_cases hi : i < l.length
      · obtain rfl := HA.out (by omega)
        have e1 : decide ((i : Int) < (l.length : Int)) = true := by rw [decide_eq_true_eq]; omega
        have e2 : decide (i < l.length) = true := by rw [decide_eq_true_eq]; omega
        have ci := below_cell HB.out (HC.out i hi).1
        have cj := below_cell HB.out (HC.out i hi).2
        have HIL : Hid (i < l.length) := hi
        have hwr := w64n i (by have := HL.out; omega)
        have HS : Hid ((l.take (i + 1)).all okF1 = ((l.take i).all okF1 && okF1 (l.getD i (0, ⟨#[]⟩)))) := all_snoc okF1 l _ i hi
        clear hi
        obtain ⟨x, hx⟩ : ∃ x, l.getD i (0, ⟨#[]⟩) = x := ⟨_, rfl⟩
        rw [hx] at ci cj HS
        clear hx
        obtain ⟨x1, x2⟩ := x
        have HBF : Hid (∀ W, Below (wr.alloc (.cells #[.int .i64 x1, .string x2] 58)).heap.size (wr.alloc (.cells #[.int .i64 x1, .string x2] 58)) W → Below w.heap.size w W) := fun W hW => below_trans HB.out (below_trans (bel_up _ _) hW)
        cases hx : isM x1 with
        | false =>
          have HX : Hid (okF1 (x1, x2) = false) := by unfold okF1; simp [hx, Hid]
          have HM : Hid (isM x1 = false) := hx
          clear hx
          go_wp2_with (go_at_call 34; refine (mode_any _ _).mono ?_; rintro e w' ⟨rfl, rfl⟩; rw [HM.out])
          go_ret
          refine ⟨ret_bool ?_, ?_⟩
          · cases hr : l.all okF1
            · rfl
            · have := all_take okF1 l (i + 1) hr
              rw [HS.out, HX.out] at this
              simp at this
          · exact HBF.out _ (Below.refl _ _)
        | true =>
          have HM : Hid (isM x1 = true) := hx
          clear hx
          by_cases h2 : x2.size ≤ 16
          · have HX : Hid (okF1 (x1, x2) = true) := by unfold okF1; simp [HM.out, h2, Hid]
            have k1 : decide ((16 : Int) < (x2.size : Int)) = false := by rw [decide_eq_false_iff_not]; omega
            have k2 : decide (16 < x2.size) = false := by rw [decide_eq_false_iff_not]; omega
            clear h2
            go_wp2_with (go_at_call 34; refine (mode_any _ _).mono ?_; rintro e w' ⟨rfl, rfl⟩; rw [HM.out])
            go_roundg (l.length - (i + 1))
            case measure => have := HI.out; have := HIL.out; omega
            case rel => exact ⟨i + 1, by first | rfl | (rw [show (i : Int) + 1 = ((i + 1 : Nat) : Int) by omega]), HBF.out _ (Below.refl _ _), ⟨HIL.out, rfl⟩, by rw [HS.out, HR.out, HX.out]; rfl⟩
          · have HX : Hid (okF1 (x1, x2) = false) := by unfold okF1; simp [HM.out, Hid]; omega
            have k1 : decide ((16 : Int) < (x2.size : Int)) = true := by rw [decide_eq_true_eq]; omega
            have k2 : decide (16 < x2.size) = true := by rw [decide_eq_true_eq]; omega
            clear h2
            go_wp2_with (go_at_call 34; refine (mode_any _ _).mono ?_; rintro e w' ⟨rfl, rfl⟩; rw [HM.out])
            go_ret
            refine ⟨ret_bool ?_, ?_⟩
            · cases hr : l.all okF1
              · rfl
              · have := all_take okF1 l (i + 1) hr
                rw [HS.out, HX.out] at this
                simp at this
            · exact HBF.out _ (Below.refl _ _)
      · have e1 : decide ((i : Int) < (l.length : Int)) = false := by rw [decide_eq_false_iff_not]; omega
        have e2 : decide (i < l.length) = false := by rw [decide_eq_false_iff_not]; omega
        have HIL : Hid (i = l.length) := by have := HI.out; show i = l.length; omega
        clear hi
        go_wp2_with fail
        go_ret
        refine ⟨ret_bool ?_, HB.out⟩
        have := HR.out
        rw [HIL.out, List.take_length] at this
        rw [this]; rfl
  · have d0 : decide (l.length ≤ 16) = false := by simpa using c0
    have d1 : decide ((16 : Int) < (l.length : Int)) = true := by rw [decide_eq_true_eq]; omega
    have d2 : decide (16 < l.length) = true := by rw [decide_eq_true_eq]; omega
    rw [d0]
    go_enter Try.func25, Try.ntmps25
    go_wp2_with fail
    go_ret
    exact ⟨rfl, Below.refl _ _⟩
end Go.Proofs.Ytdchopljojlcpaa
