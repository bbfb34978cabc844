import Derived.Test.YtkjcnnecdclgfaaSpl
import Derived.Lib.Strings
namespace Go.Proofs.Ytkjcnnecdclgfaa
open Go.RowKit
theorem of_toNat (b : Nat) (h : b < 256) : (UInt8.ofNat b).toNat = b := by simp; omega
theorem conv_new (L : List UInt8) (W : World) (n : Nat) (hn : n = L.length) : (convert 39 9 (.slice (some ⟨W.heap.size, 0, none⟩) n n)).run Try.prog (W.alloc (.cells (L.map fun x => Value.int .u8 (x.toNat : Int)).toArray 5)) = .ok (ST L) (W.alloc (.cells (L.map fun x => Value.int .u8 (x.toNat : Int)).toArray 5)) := by
  subst hn
  have := run_convert_bytes_arg (P := Try.prog) (W.alloc (.cells (L.map fun x => Value.int .u8 (x.toNat : Int)).toArray 5)) 39 5 Try.underlying39 Try.underlying5 W.heap.size 0 L.length L.length (L.map fun x => (x.toNat : Int)) (by simp) (fun i hi => by
    rw [Nat.zero_add, World.cell?_alloc_at _ _ _ _ (by simp)]
    simp [hi]) 9 Try.underlying9
  rw [this]
  have e : strOfNums (L.map fun x => (x.toNat : Int)) = ⟨L.toArray⟩ := by
    apply WideShapes.bytes_inj
    unfold strOfNums
    rw [List.map_map]
    conv => rhs; rw [← List.map_id L.toArray.toList]
    apply List.map_congr_left
    intro x _
    simp
  rw [e]
theorem conv_1 (W : World) (x : UInt8) : (convert 39 9 (.slice (some ⟨W.heap.size, 0, none⟩) 1 1)).run Try.prog (W.alloc (.cells #[.int .u8 (x.toNat : Int)] 5)) = .ok (ST [x]) (W.alloc (.cells #[.int .u8 (x.toNat : Int)] 5)) := conv_new [x] W 1 rfl
theorem conv_2 (W : World) (x y : UInt8) : (convert 39 9 (.slice (some ⟨W.heap.size, 0, none⟩) 2 2)).run Try.prog (W.alloc (.cells #[.int .u8 (x.toNat : Int), .int .u8 (y.toNat : Int)] 5)) = .ok (ST [x, y]) (W.alloc (.cells #[.int .u8 (x.toNat : Int), .int .u8 (y.toNat : Int)] 5)) := conv_new [x, y] W 2 rfl
theorem hex_fact (b : Nat) (h : b < 256) : (∀ W : World, (Instr.index 9 (.string ⟨#[48, 49, 50, 51, 52, 53, 54, 55, 56, 57, 97, 98, 99, 100, 101, 102]⟩) (.int .i64 ((b : Int) / 16))).run Try.prog W = .ok (.int .u8 ((hx.getD (b / 16) 0).toNat : Int)) W) ∧
    (∀ W : World, (Instr.index 9 (.string ⟨#[48, 49, 50, 51, 52, 53, 54, 55, 56, 57, 97, 98, 99, 100, 101, 102]⟩) (.int .i64 ((b : Int) % 16))).run Try.prog W = .ok (.int .u8 ((hx.getD (b % 16) 0).toNat : Int)) W) := by
  have f1 := idx_fact ⟨hx.toArray⟩ (b / 16) (by show b / 16 < 16; omega)
  have f2 := idx_fact ⟨hx.toArray⟩ (b % 16) (by show b % 16 < 16; omega)
  rw [st_get hx _ (by show _ < 16; omega)] at f1 f2
  exact ⟨f1, f2⟩
set_option maxRecDepth 100000 in
set_option maxHeartbeats 1000000 in
theorem spell_any (b : Nat) (hb : b < 256) (l : List UInt8) (hl : l.length < 1000) (w : World) : Calls Try.prog 33 #[.int .i64 (b : Int), ST l] w fun e w' => e = .returned (ST (spl b l)) ∧ Below w.heap.size w w' := by
  have HB : Hid _ := hb
  have HL : Hid _ := hl
  clear hb hl
  by_cases h10 : b = 10
  · subst h10
    go_enter Try.func33, Try.ntmps33
    go_wp2_with fail
    go_ret
    exact ⟨rfl, Below.refl _ _⟩
  by_cases h9 : b = 9
  · subst h9
    go_enter Try.func33, Try.ntmps33
    go_wp2_with fail
    go_ret
    exact ⟨rfl, Below.refl _ _⟩
  by_cases h13 : b = 13
  · subst h13
    go_enter Try.func33, Try.ntmps33
    go_wp2_with fail
    go_ret
    exact ⟨rfl, Below.refl _ _⟩
  have k10 : ((b : Int) == 10) = false := by rw [beq_eq_false_iff_ne]; omega
  have k9 : ((b : Int) == 9) = false := by rw [beq_eq_false_iff_ne]; omega
  have k13 : ((b : Int) == 13) = false := by rw [beq_eq_false_iff_ne]; omega
  by_cases hlow : b < 32 ∨ 126 < b
  · have e : spl b l = [92, 120, hx.getD (b / 16) 0, hx.getD (b % 16) 0] := by
      unfold spl
      rw [if_neg h10, if_neg h9, if_neg h13, if_pos hlow]
    rw [e]
    have HLOW : Hid _ := hlow
    obtain ⟨f1, f2⟩ := hex_fact b HB.out
    generalize hx.getD (b / 16) 0 = x at *
    generalize hx.getD (b % 16) 0 = y at *
    clear h10 h9 h13 hlow e
    rcases HLOW.out with h | h
    · have hI : decide ((b : Int) < 32) = true := by rw [decide_eq_true_eq]; omega
      clear h
      have w1 : wrap64 ((b : Int) / 16) = (b : Int) / 16 := by have := HB.out; unfold wrap64; omega
      have w2 : IntKind.i64.wrap ((b : Int) / 16) = (b : Int) / 16 := by have := HB.out; rw [IntKind.wrap_i64]; omega
      have cv : (convert 39 9 (.slice (some ⟨w.heap.size, 0, none⟩) 2 2)).run Try.prog (w.alloc (.cells #[.int .u8 (x.toNat : Int), .int .u8 (y.toNat : Int)] 5)).drew = .ok (ST [x, y]) (w.alloc (.cells #[.int .u8 (x.toNat : Int), .int .u8 (y.toNat : Int)] 5)).drew := conv_2 w.drew x y
      go_enter Try.func33, Try.ntmps33
      go_wp2_with fail
      go_region
      go_wp2_with fail
      go_ret
      exact ⟨by simp [st_app], Below.drew (bel_up _ _)⟩
    · have hI : decide ((b : Int) < 32) = false := by rw [decide_eq_false_iff_not]; omega
      have hJ : decide ((126 : Int) < (b : Int)) = true := by rw [decide_eq_true_eq]; omega
      clear h
      have w1 : wrap64 ((b : Int) / 16) = (b : Int) / 16 := by have := HB.out; unfold wrap64; omega
      have w2 : IntKind.i64.wrap ((b : Int) / 16) = (b : Int) / 16 := by have := HB.out; rw [IntKind.wrap_i64]; omega
      have cv : (convert 39 9 (.slice (some ⟨w.heap.size, 0, none⟩) 2 2)).run Try.prog (w.alloc (.cells #[.int .u8 (x.toNat : Int), .int .u8 (y.toNat : Int)] 5)).drew = .ok (ST [x, y]) (w.alloc (.cells #[.int .u8 (x.toNat : Int), .int .u8 (y.toNat : Int)] 5)).drew := conv_2 w.drew x y
      go_enter Try.func33, Try.ntmps33
      go_wp2_with fail
      go_region
      go_wp2_with fail
      go_ret
      exact ⟨by simp [st_app], Below.drew (bel_up _ _)⟩
  · have n1 : decide ((b : Int) < 32) = false := by rw [decide_eq_false_iff_not]; omega
    have n2 : decide ((126 : Int) < (b : Int)) = false := by rw [decide_eq_false_iff_not]; omega
    obtain ⟨c, hcb⟩ : ∃ c, c = UInt8.ofNat b := ⟨_, rfl⟩
    have n8 : IntKind.u8.wrap (b : Int) = ((c.toNat : Nat) : Int) := by rw [hcb, IntKind.wrap_u8, of_toNat b HB.out]; have := HB.out; omega
    by_cases hc : l.contains c = true
    · have e : spl b l = [92, c] := by
        unfold spl
        rw [if_neg h10, if_neg h9, if_neg h13, if_neg hlow, ← hcb, if_pos hc]
      rw [e]
      clear h10 h9 h13 hlow e hcb
      have HC : Hid _ := hc
      clear hc
      go_enter Try.func33, Try.ntmps33
      go_wp2_with fail
      refine (among_any c l HL.out _).mono ?_
      rintro e w1 ⟨rfl, rfl⟩
      rw [HC.out]
      have cv : _ = _ := conv_2 w1 92 c
      rw [show ((92 : UInt8).toNat : Int) = 92 by rfl] at cv
      go_wp2_with fail
      go_ret
      exact ⟨rfl, bel_up _ _⟩
    · have e : spl b l = [c] := by
        unfold spl
        rw [if_neg h10, if_neg h9, if_neg h13, if_neg hlow, ← hcb, if_neg hc]
      rw [e]
      clear h10 h9 h13 hlow e hcb
      have hc' : l.contains c = false := by simpa using hc
      have HC : Hid _ := hc'
      clear hc hc'
      go_enter Try.func33, Try.ntmps33
      go_wp2_with fail
      refine (among_any c l HL.out _).mono ?_
      rintro e w1 ⟨rfl, rfl⟩
      rw [HC.out]
      have cv : _ = _ := conv_1 w1 c
      go_wp2_with fail
      go_ret
      exact ⟨rfl, bel_up _ _⟩
end Go.Proofs.Ytkjcnnecdclgfaa
