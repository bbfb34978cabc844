import Derived.Test.YtkjcnnecdclgfaaDoorBld
namespace Go.Proofs.YtkjcnnecdclgfaaDoor
open Go.RowKit
/-- A writer that has written these bytes. -/
structure IsW (B b : Nat) (rv : Value) (l : List UInt8) (w : World) : Prop where
  h : IsWr B b rv (Lib.byteCells l) w
theorem bc_app (l k : List UInt8) : Lib.byteCells (l ++ k) = Lib.byteCells l ++ Lib.byteCells k := by simp [Lib.byteCells]
theorem wB (B b : Nat) (rv : Value) (l : List UInt8) (c : UInt8) (w : World) (h : IsW B b rv l w) (hl : l.length ≤ 100000000) (hB : B ≤ w.heap.size) :
    Calls Tryd.prog 42 #[.pointer (some ⟨b, 1, none⟩), .int .u8 (c.toNat : Int)] w fun e w' => e = .returned .nilIface ∧ IsW B b rv (l ++ [c]) w' ∧ Fr B b w w' ∧ B ≤ w'.heap.size := by
  refine (writeByte_any B b rv _ _ w h.h (by rw [Lib.byteCells_length]; omega) hB).mono ?_
  rintro e w' ⟨rfl, h1, h2⟩
  refine ⟨rfl, ⟨?_⟩, h2, Nat.le_trans hB h2.bel.size⟩
  show IsWr B b rv (Lib.byteCells (l ++ [c])) w'
  rw [bc_app]
  exact h1
theorem wS (B b : Nat) (rv : Value) (l t : List UInt8) (w : World) (h : IsW B b rv l w) (hl : l.length ≤ 100000000) (ht : t.length ≤ 100) (hB : B ≤ w.heap.size) :
    Calls Tryd.prog 40 #[.pointer (some ⟨b, 1, none⟩), ST t] w fun e w' => (∃ v, e = .returned v) ∧ IsW B b rv (l ++ t) w' ∧ Fr B b w w' ∧ B ≤ w'.heap.size := by
  refine (writeString_any B b rv _ _ w h.h (by rw [Lib.byteCells_length, st_size]; omega) hB).mono ?_
  rintro e w' ⟨hv, h1, h2⟩
  refine ⟨hv, ⟨?_⟩, h2, Nat.le_trans hB h2.bel.size⟩
  show IsWr B b rv (Lib.byteCells (l ++ t)) w'
  rw [bc_app]
  exact h1

theorem hex8 (n : Nat) (h : n < 256) : (∀ W : World, (Instr.index 9 (.string ⟨#[48, 49, 50, 51, 52, 53, 54, 55, 56, 57, 97, 98, 99, 100, 101, 102]⟩) (.int .u8 ((n : Int) / 16))).run Tryd.prog W = .ok (.int .u8 ((hx.getD (n / 16) 0).toNat : Int)) W) ∧
    (∀ W : World, (Instr.index 9 (.string ⟨#[48, 49, 50, 51, 52, 53, 54, 55, 56, 57, 97, 98, 99, 100, 101, 102]⟩) (.int .u8 ((n : Int) % 16))).run Tryd.prog W = .ok (.int .u8 ((hx.getD (n % 16) 0).toNat : Int)) W) := by
  have g : ∀ i : Nat, i < 16 → ∀ W : World, (Instr.index 9 (.string ⟨hx.toArray⟩) (.int .u8 (i : Int))).run Tryd.prog W = .ok (.int .u8 ((hx.getD i 0).toNat : Int)) W := by
    intro i hi W
    rw [run_index_string W 9 _ .u8 _ Tryd.underlying9, dif_pos ⟨by omega, by show (i : Int) < 16; omega⟩]
    have e : ((i : Int)).toNat = i := by omega
    rw [← st_get hx i hi, get_bang _ i (by show i < 16; exact hi)]
    simp only [e]
  exact ⟨g (n / 16) (by omega), g (n % 16) (by omega)⟩
theorem IsW.drew {B b : Nat} {rv : Value} {l : List UInt8} {w : World} (h : IsW B b rv l w) : IsW B b rv l w.drew := ⟨h.h⟩
theorem Fr.dr {B b : Nat} {w : World} : Fr B b w w.drew := ⟨Below.drew (Below.refl _ _), fun _ _ _ _ h _ _ => h⟩
set_option maxRecDepth 100000 in
set_option maxHeartbeats 1000000 in
theorem single_any (B b : Nat) (rv : Value) (l : List UInt8) (n : Nat) (hn : n < 256) (mk : List UInt8) (w : World) (h : IsW B b rv l w) (hl : l.length ≤ 90000000) (hB : B ≤ w.heap.size) :
    Calls Tryd.prog 57 #[.pointer (some ⟨b, 0, none⟩), .int .i64 (n : Int), ST mk] w fun e w' => e = .returned (.tuple #[]) ∧ IsW B b rv (l ++ spl n mk) w' ∧ Fr B b w w' ∧ B ≤ w'.heap.size := by
  have HN : Hid _ := hn
  have HW : Hid _ := h
  have HL : Hid _ := hl
  have HB : Hid _ := hB
  clear hn h hl hB
  obtain ⟨c, hc⟩ : ∃ c, c = UInt8.ofNat n := ⟨_, rfl⟩
  have hcn : c.toNat = n := by rw [hc]; exact of_toNat n HN.out
  have n8 : IntKind.u8.wrap (n : Int) = (n : Int) := by rw [IntKind.wrap_u8]; have := HN.out; omega
  by_cases h10 : n = 10
  · subst h10
    clear hc hcn c n8
    go_enter Tryd.func57, Tryd.ntmps57
    go_wp2_with fail
    refine (wS B b rv l [92, 110] _ HW.out (by have := HL.out; omega) (by decide) HB.out).mono ?_
    rintro e w1 ⟨⟨v, rfl⟩, h1, h2, h3⟩
    go_wp2_with fail
    go_end0
    exact ⟨rfl, h1, h2, h3⟩
  by_cases h9 : n = 9
  · subst h9
    clear hc hcn c n8
    go_enter Tryd.func57, Tryd.ntmps57
    go_wp2_with fail
    refine (wS B b rv l [92, 116] _ HW.out (by have := HL.out; omega) (by decide) HB.out).mono ?_
    rintro e w1 ⟨⟨v, rfl⟩, h1, h2, h3⟩
    go_wp2_with fail
    go_end0
    exact ⟨rfl, h1, h2, h3⟩
  by_cases h13 : n = 13
  · subst h13
    clear hc hcn c n8
    go_enter Tryd.func57, Tryd.ntmps57
    go_wp2_with fail
    refine (wS B b rv l [92, 114] _ HW.out (by have := HL.out; omega) (by decide) HB.out).mono ?_
    rintro e w1 ⟨⟨v, rfl⟩, h1, h2, h3⟩
    go_wp2_with fail
    go_end0
    exact ⟨rfl, h1, h2, h3⟩
  have k10 : ((n : Int) == 10) = false := by rw [beq_eq_false_iff_ne]; omega
  have k9 : ((n : Int) == 9) = false := by rw [beq_eq_false_iff_ne]; omega
  have k13 : ((n : Int) == 13) = false := by rw [beq_eq_false_iff_ne]; omega
  by_cases hlow : n < 32 ∨ 126 < n
  · have e : spl n mk = [92, 120, hx.getD (n / 16) 0, hx.getD (n % 16) 0] := by
      unfold spl
      rw [if_neg h10, if_neg h9, if_neg h13, if_pos hlow]
    rw [e]
    have hp : (decide (32 ≤ n) && decide (n ≤ 126) && !mk.contains (UInt8.ofNat n)) = false := by
      rcases hlow with h | h
      · have : decide (32 ≤ n) = false := by rw [decide_eq_false_iff_not]; omega
        rw [this]; rfl
      · have : decide (n ≤ 126) = false := by rw [decide_eq_false_iff_not]; omega
        rw [this]; simp
    have HP : Hid _ := hp
    have HLOW : Hid _ := hlow
    obtain ⟨f1, f2⟩ := hex8 n HN.out
    have h15 : bits .and .u8 (n : Int) 15 = (n : Int) % 16 := u8_and15 (n : Int) (by omega) (by have := HN.out; omega)
    generalize hx.getD (n / 16) 0 = x at *
    generalize hx.getD (n % 16) 0 = y at *
    clear h10 h9 h13 hlow e hp hcn hc
    go_enter Tryd.func57, Tryd.ntmps57
    go_wp2_with fail
    refine (plain_any n HN.out mk _).mono ?_
    rintro e w0 ⟨rfl, rfl⟩
    rw [HP.out]
    rcases HLOW.out with h | h
    · have hI : decide ((32 : Int) ≤ (n : Int)) = false := by rw [decide_eq_false_iff_not]; omega
      clear h
      go_wp2_with fail
      refine (wS B b rv l [92, 120] _ HW.out (by have := HL.out; omega) (by decide) HB.out).mono ?_
      rintro e w1 ⟨⟨v, rfl⟩, h1, h2, h3⟩
      have H1 : Hid (IsW B b rv (l ++ [92, 120]) w1) := h1
      have H2 : Hid _ := h2
      have H3 : Hid _ := h3
      clear h1 h2 h3
      go_wp2_with fail
      refine wp_region_noPanic ?_
      refine wp_region_held_drew (S := fun _ => True) (by kernel_rfl) trivial (fun hHeld => ?_)
      refine wpAnyH_take (i := 0) (oi := { dst := _, op := _, type := _, pos := _, after := _, guard := _ }) (v := ?_) rfl (by kernel_rfl) (by kernel_rfl) (by kernel_rfl) (fun _ _ _ h => h) (Or.inl ⟨by rfl, ?_⟩) (by assumption) ?_
      rotate_left
      · intro W hSw
        (try dsimp only at hSw)
        go_simp
        (try with_reducible rfl)
      try simp only [Act.put, List.setIfInBounds_toArray, List.set_cons_zero, List.set_cons_succ]
      refine wpAnyH_take (i := 1) (oi := { dst := _, op := _, type := _, pos := _, after := _, guard := _ }) (v := ?_) rfl (by kernel_rfl) (by kernel_rfl) (by kernel_rfl) (fun _ _ _ h => h) (Or.inl ⟨by rfl, ?_⟩) (by assumption) ?_
      rotate_left
      · intro W hSw
        (try dsimp only at hSw)
        go_simp
        (try with_reducible rfl)
      try simp only [Act.put, List.setIfInBounds_toArray, List.set_cons_zero, List.set_cons_succ]
      refine wpAnyH_take (i := 2) (oi := { dst := _, op := _, type := _, pos := _, after := _, guard := _ }) (v := ?_) rfl (by kernel_rfl) (by kernel_rfl) (by kernel_rfl) (fun _ _ _ h => h) (Or.inl ⟨by rfl, ?_⟩) (by assumption) ?_
      rotate_left
      · intro W hSw
        (try dsimp only at hSw)
        go_simp
        (try with_reducible rfl)
      try simp only [Act.put, List.setIfInBounds_toArray, List.set_cons_zero, List.set_cons_succ]
      refine wpAnyH_take (i := 3) (oi := { dst := _, op := _, type := _, pos := _, after := _, guard := _ }) (v := ?_) rfl (by kernel_rfl) (by kernel_rfl) (by kernel_rfl) (fun _ _ _ h => h) (Or.inl ⟨by rfl, ?_⟩) (by assumption) ?_
      rotate_left
      · intro W hSw
        (try dsimp only at hSw)
        go_simp
        (try with_reducible rfl)
      try simp only [Act.put, List.setIfInBounds_toArray, List.set_cons_zero, List.set_cons_succ]
      refine wpAnyH_take (i := 4) (oi := { dst := _, op := _, type := _, pos := _, after := _, guard := _ }) (v := ?_) rfl (by kernel_rfl) (by kernel_rfl) (by kernel_rfl) (fun _ _ _ h => h) (Or.inl ⟨by rfl, ?_⟩) (by assumption) ?_
      rotate_left
      · intro W hSw
        (try dsimp only at hSw)
        go_simp
        (try with_reducible rfl)
      try simp only [Act.put, List.setIfInBounds_toArray, List.set_cons_zero, List.set_cons_succ]
      refine wpAnyH_take (i := 5) (oi := { dst := _, op := _, type := _, pos := _, after := _, guard := _ }) (v := ?_) rfl (by kernel_rfl) (by kernel_rfl) (by kernel_rfl) (fun _ _ _ h => h) (Or.inl ⟨by rfl, ?_⟩) (by assumption) ?_
      rotate_left
      · intro W hSw
        (try dsimp only at hSw)
        go_simp
        (try with_reducible rfl)
      try simp only [Act.put, List.setIfInBounds_toArray, List.set_cons_zero, List.set_cons_succ]
      refine wpAnyH_ready (rs := [6]) (by kernel_rfl) (by simp) ?_
      refine AllReadyH.cons (o := { dst := _, op := _, type := _, pos := _, after := _, guard := _ }) rfl (fun K hK => ?_) AllReadyH.nil
      go_simp
      refine (wB B b rv (l ++ [92, 120]) x _ H1.out.drew (by simp only [List.length_append, List.length_cons, List.length_nil]; have := HL.out; omega) H3.out).mono ?_
      rintro e w2 ⟨rfl, h1, h2, h3⟩
      go_wp2_with fail
      refine hK.out _ _ ?_ (fun hHeld => ?_)
      · exact trivial
      clear hK K
      try simp only [Act.put, List.setIfInBounds_toArray, List.set_cons_zero, List.set_cons_succ]
      refine wpAnyH_done (by kernel_rfl) ?_ _
      refine NoPanic.normal ?_
      have K1 : Hid (IsW B b rv (l ++ [92, 120] ++ [x]) w2) := h1
      have K2 : Hid _ := (H2.out.trans Fr.dr).trans h2
      clear H1 H3
      have H3 : Hid _ := h3
      clear h1 h2 h3
      go_wp2_with fail
      refine wp_region_noPanic ?_
      refine wp_region_held_drew (S := fun _ => True) (by kernel_rfl) trivial (fun hHeld => ?_)
      refine wpAnyH_take (i := 0) (oi := { dst := _, op := _, type := _, pos := _, after := _, guard := _ }) (v := ?_) rfl (by kernel_rfl) (by kernel_rfl) (by kernel_rfl) (fun _ _ _ h => h) (Or.inl ⟨by rfl, ?_⟩) (by assumption) ?_
      rotate_left
      · intro W hSw
        (try dsimp only at hSw)
        go_simp
        (try with_reducible rfl)
      try simp only [Act.put, List.setIfInBounds_toArray, List.set_cons_zero, List.set_cons_succ]
      refine wpAnyH_take (i := 1) (oi := { dst := _, op := _, type := _, pos := _, after := _, guard := _ }) (v := ?_) rfl (by kernel_rfl) (by kernel_rfl) (by kernel_rfl) (fun _ _ _ h => h) (Or.inl ⟨by rfl, ?_⟩) (by assumption) ?_
      rotate_left
      · intro W hSw
        (try dsimp only at hSw)
        go_simp
        (try with_reducible rfl)
      try simp only [Act.put, List.setIfInBounds_toArray, List.set_cons_zero, List.set_cons_succ]
      refine wpAnyH_take (i := 2) (oi := { dst := _, op := _, type := _, pos := _, after := _, guard := _ }) (v := ?_) rfl (by kernel_rfl) (by kernel_rfl) (by kernel_rfl) (fun _ _ _ h => h) (Or.inl ⟨by rfl, ?_⟩) (by assumption) ?_
      rotate_left
      · intro W hSw
        (try dsimp only at hSw)
        go_simp
        (try with_reducible rfl)
      try simp only [Act.put, List.setIfInBounds_toArray, List.set_cons_zero, List.set_cons_succ]
      refine wpAnyH_take (i := 3) (oi := { dst := _, op := _, type := _, pos := _, after := _, guard := _ }) (v := ?_) rfl (by kernel_rfl) (by kernel_rfl) (by kernel_rfl) (fun _ _ _ h => h) (Or.inl ⟨by rfl, ?_⟩) (by assumption) ?_
      rotate_left
      · intro W hSw
        (try dsimp only at hSw)
        go_simp
        (try with_reducible rfl)
      try simp only [Act.put, List.setIfInBounds_toArray, List.set_cons_zero, List.set_cons_succ]
      refine wpAnyH_take (i := 4) (oi := { dst := _, op := _, type := _, pos := _, after := _, guard := _ }) (v := ?_) rfl (by kernel_rfl) (by kernel_rfl) (by kernel_rfl) (fun _ _ _ h => h) (Or.inl ⟨by rfl, ?_⟩) (by assumption) ?_
      rotate_left
      · intro W hSw
        (try dsimp only at hSw)
        go_simp
        (try with_reducible rfl)
      try simp only [Act.put, List.setIfInBounds_toArray, List.set_cons_zero, List.set_cons_succ]
      refine wpAnyH_take (i := 5) (oi := { dst := _, op := _, type := _, pos := _, after := _, guard := _ }) (v := ?_) rfl (by kernel_rfl) (by kernel_rfl) (by kernel_rfl) (fun _ _ _ h => h) (Or.inl ⟨by rfl, ?_⟩) (by assumption) ?_
      rotate_left
      · intro W hSw
        (try dsimp only at hSw)
        go_simp
        (try with_reducible rfl)
      try simp only [Act.put, List.setIfInBounds_toArray, List.set_cons_zero, List.set_cons_succ]
      refine wpAnyH_ready (rs := [6]) (by kernel_rfl) (by simp) ?_
      refine AllReadyH.cons (o := { dst := _, op := _, type := _, pos := _, after := _, guard := _ }) rfl (fun K hK => ?_) AllReadyH.nil
      go_simp
      refine (wB B b rv (l ++ [92, 120] ++ [x]) y _ K1.out.drew (by simp only [List.length_append, List.length_cons, List.length_nil]; have := HL.out; omega) H3.out).mono ?_
      rintro e w3 ⟨rfl, h1, h2, h3⟩
      go_wp2_with fail
      refine hK.out _ _ ?_ (fun hHeld => ?_)
      · exact trivial
      clear hK K
      try simp only [Act.put, List.setIfInBounds_toArray, List.set_cons_zero, List.set_cons_succ]
      refine wpAnyH_done (by kernel_rfl) ?_ _
      refine NoPanic.normal ?_
      have L1 : Hid (IsW B b rv (l ++ [92, 120] ++ [x] ++ [y]) w3) := h1
      have L2 : Hid _ := (K2.out.trans Fr.dr).trans h2
      have L3 : Hid _ := h3
      clear h1 h2 h3
      go_wp2_with fail
      go_end0
      refine ⟨rfl, ?_, L2.out, L3.out⟩
      have := L1.out
      rw [show l ++ [92, 120] ++ [x] ++ [y] = l ++ [92, 120, x, y] by simp] at this
      exact this
    · have hI : decide ((32 : Int) ≤ (n : Int)) = true := by rw [decide_eq_true_eq]; omega
      have hJ : decide ((n : Int) ≤ 126) = false := by rw [decide_eq_false_iff_not]; omega
      clear h
      go_wp2_with fail
      refine (wS B b rv l [92, 120] _ HW.out (by have := HL.out; omega) (by decide) HB.out).mono ?_
      rintro e w1 ⟨⟨v, rfl⟩, h1, h2, h3⟩
      have H1 : Hid (IsW B b rv (l ++ [92, 120]) w1) := h1
      have H2 : Hid _ := h2
      have H3 : Hid _ := h3
      clear h1 h2 h3
      go_wp2_with fail
      refine wp_region_noPanic ?_
      refine wp_region_held_drew (S := fun _ => True) (by kernel_rfl) trivial (fun hHeld => ?_)
      refine wpAnyH_take (i := 0) (oi := { dst := _, op := _, type := _, pos := _, after := _, guard := _ }) (v := ?_) rfl (by kernel_rfl) (by kernel_rfl) (by kernel_rfl) (fun _ _ _ h => h) (Or.inl ⟨by rfl, ?_⟩) (by assumption) ?_
      rotate_left
      · intro W hSw
        (try dsimp only at hSw)
        go_simp
        (try with_reducible rfl)
      try simp only [Act.put, List.setIfInBounds_toArray, List.set_cons_zero, List.set_cons_succ]
      refine wpAnyH_take (i := 1) (oi := { dst := _, op := _, type := _, pos := _, after := _, guard := _ }) (v := ?_) rfl (by kernel_rfl) (by kernel_rfl) (by kernel_rfl) (fun _ _ _ h => h) (Or.inl ⟨by rfl, ?_⟩) (by assumption) ?_
      rotate_left
      · intro W hSw
        (try dsimp only at hSw)
        go_simp
        (try with_reducible rfl)
      try simp only [Act.put, List.setIfInBounds_toArray, List.set_cons_zero, List.set_cons_succ]
      refine wpAnyH_take (i := 2) (oi := { dst := _, op := _, type := _, pos := _, after := _, guard := _ }) (v := ?_) rfl (by kernel_rfl) (by kernel_rfl) (by kernel_rfl) (fun _ _ _ h => h) (Or.inl ⟨by rfl, ?_⟩) (by assumption) ?_
      rotate_left
      · intro W hSw
        (try dsimp only at hSw)
        go_simp
        (try with_reducible rfl)
      try simp only [Act.put, List.setIfInBounds_toArray, List.set_cons_zero, List.set_cons_succ]
      refine wpAnyH_take (i := 3) (oi := { dst := _, op := _, type := _, pos := _, after := _, guard := _ }) (v := ?_) rfl (by kernel_rfl) (by kernel_rfl) (by kernel_rfl) (fun _ _ _ h => h) (Or.inl ⟨by rfl, ?_⟩) (by assumption) ?_
      rotate_left
      · intro W hSw
        (try dsimp only at hSw)
        go_simp
        (try with_reducible rfl)
      try simp only [Act.put, List.setIfInBounds_toArray, List.set_cons_zero, List.set_cons_succ]
      refine wpAnyH_take (i := 4) (oi := { dst := _, op := _, type := _, pos := _, after := _, guard := _ }) (v := ?_) rfl (by kernel_rfl) (by kernel_rfl) (by kernel_rfl) (fun _ _ _ h => h) (Or.inl ⟨by rfl, ?_⟩) (by assumption) ?_
      rotate_left
      · intro W hSw
        (try dsimp only at hSw)
        go_simp
        (try with_reducible rfl)
      try simp only [Act.put, List.setIfInBounds_toArray, List.set_cons_zero, List.set_cons_succ]
      refine wpAnyH_take (i := 5) (oi := { dst := _, op := _, type := _, pos := _, after := _, guard := _ }) (v := ?_) rfl (by kernel_rfl) (by kernel_rfl) (by kernel_rfl) (fun _ _ _ h => h) (Or.inl ⟨by rfl, ?_⟩) (by assumption) ?_
      rotate_left
      · intro W hSw
        (try dsimp only at hSw)
        go_simp
        (try with_reducible rfl)
      try simp only [Act.put, List.setIfInBounds_toArray, List.set_cons_zero, List.set_cons_succ]
      refine wpAnyH_ready (rs := [6]) (by kernel_rfl) (by simp) ?_
      refine AllReadyH.cons (o := { dst := _, op := _, type := _, pos := _, after := _, guard := _ }) rfl (fun K hK => ?_) AllReadyH.nil
      go_simp
      refine (wB B b rv (l ++ [92, 120]) x _ H1.out.drew (by simp only [List.length_append, List.length_cons, List.length_nil]; have := HL.out; omega) H3.out).mono ?_
      rintro e w2 ⟨rfl, h1, h2, h3⟩
      go_wp2_with fail
      refine hK.out _ _ ?_ (fun hHeld => ?_)
      · exact trivial
      clear hK K
      try simp only [Act.put, List.setIfInBounds_toArray, List.set_cons_zero, List.set_cons_succ]
      refine wpAnyH_done (by kernel_rfl) ?_ _
      refine NoPanic.normal ?_
      have K1 : Hid (IsW B b rv (l ++ [92, 120] ++ [x]) w2) := h1
      have K2 : Hid _ := (H2.out.trans Fr.dr).trans h2
      clear H1 H3
      have H3 : Hid _ := h3
      clear h1 h2 h3
      go_wp2_with fail
      refine wp_region_noPanic ?_
      refine wp_region_held_drew (S := fun _ => True) (by kernel_rfl) trivial (fun hHeld => ?_)
      refine wpAnyH_take (i := 0) (oi := { dst := _, op := _, type := _, pos := _, after := _, guard := _ }) (v := ?_) rfl (by kernel_rfl) (by kernel_rfl) (by kernel_rfl) (fun _ _ _ h => h) (Or.inl ⟨by rfl, ?_⟩) (by assumption) ?_
      rotate_left
      · intro W hSw
        (try dsimp only at hSw)
        go_simp
        (try with_reducible rfl)
      try simp only [Act.put, List.setIfInBounds_toArray, List.set_cons_zero, List.set_cons_succ]
      refine wpAnyH_take (i := 1) (oi := { dst := _, op := _, type := _, pos := _, after := _, guard := _ }) (v := ?_) rfl (by kernel_rfl) (by kernel_rfl) (by kernel_rfl) (fun _ _ _ h => h) (Or.inl ⟨by rfl, ?_⟩) (by assumption) ?_
      rotate_left
      · intro W hSw
        (try dsimp only at hSw)
        go_simp
        (try with_reducible rfl)
      try simp only [Act.put, List.setIfInBounds_toArray, List.set_cons_zero, List.set_cons_succ]
      refine wpAnyH_take (i := 2) (oi := { dst := _, op := _, type := _, pos := _, after := _, guard := _ }) (v := ?_) rfl (by kernel_rfl) (by kernel_rfl) (by kernel_rfl) (fun _ _ _ h => h) (Or.inl ⟨by rfl, ?_⟩) (by assumption) ?_
      rotate_left
      · intro W hSw
        (try dsimp only at hSw)
        go_simp
        (try with_reducible rfl)
      try simp only [Act.put, List.setIfInBounds_toArray, List.set_cons_zero, List.set_cons_succ]
      refine wpAnyH_take (i := 3) (oi := { dst := _, op := _, type := _, pos := _, after := _, guard := _ }) (v := ?_) rfl (by kernel_rfl) (by kernel_rfl) (by kernel_rfl) (fun _ _ _ h => h) (Or.inl ⟨by rfl, ?_⟩) (by assumption) ?_
      rotate_left
      · intro W hSw
        (try dsimp only at hSw)
        go_simp
        (try with_reducible rfl)
      try simp only [Act.put, List.setIfInBounds_toArray, List.set_cons_zero, List.set_cons_succ]
      refine wpAnyH_take (i := 4) (oi := { dst := _, op := _, type := _, pos := _, after := _, guard := _ }) (v := ?_) rfl (by kernel_rfl) (by kernel_rfl) (by kernel_rfl) (fun _ _ _ h => h) (Or.inl ⟨by rfl, ?_⟩) (by assumption) ?_
      rotate_left
      · intro W hSw
        (try dsimp only at hSw)
        go_simp
        (try with_reducible rfl)
      try simp only [Act.put, List.setIfInBounds_toArray, List.set_cons_zero, List.set_cons_succ]
      refine wpAnyH_take (i := 5) (oi := { dst := _, op := _, type := _, pos := _, after := _, guard := _ }) (v := ?_) rfl (by kernel_rfl) (by kernel_rfl) (by kernel_rfl) (fun _ _ _ h => h) (Or.inl ⟨by rfl, ?_⟩) (by assumption) ?_
      rotate_left
      · intro W hSw
        (try dsimp only at hSw)
        go_simp
        (try with_reducible rfl)
      try simp only [Act.put, List.setIfInBounds_toArray, List.set_cons_zero, List.set_cons_succ]
      refine wpAnyH_ready (rs := [6]) (by kernel_rfl) (by simp) ?_
      refine AllReadyH.cons (o := { dst := _, op := _, type := _, pos := _, after := _, guard := _ }) rfl (fun K hK => ?_) AllReadyH.nil
      go_simp
      refine (wB B b rv (l ++ [92, 120] ++ [x]) y _ K1.out.drew (by simp only [List.length_append, List.length_cons, List.length_nil]; have := HL.out; omega) H3.out).mono ?_
      rintro e w3 ⟨rfl, h1, h2, h3⟩
      go_wp2_with fail
      refine hK.out _ _ ?_ (fun hHeld => ?_)
      · exact trivial
      clear hK K
      try simp only [Act.put, List.setIfInBounds_toArray, List.set_cons_zero, List.set_cons_succ]
      refine wpAnyH_done (by kernel_rfl) ?_ _
      refine NoPanic.normal ?_
      have L1 : Hid (IsW B b rv (l ++ [92, 120] ++ [x] ++ [y]) w3) := h1
      have L2 : Hid _ := (K2.out.trans Fr.dr).trans h2
      have L3 : Hid _ := h3
      clear h1 h2 h3
      go_wp2_with fail
      go_end0
      refine ⟨rfl, ?_, L2.out, L3.out⟩
      have := L1.out
      rw [show l ++ [92, 120] ++ [x] ++ [y] = l ++ [92, 120, x, y] by simp] at this
      exact this
  · by_cases hcc : mk.contains c = true
    · have e : spl n mk = [92, c] := by
        unfold spl
        rw [if_neg h10, if_neg h9, if_neg h13, if_neg hlow, ← hc, if_pos hcc]
      rw [e]
      have hp : (decide (32 ≤ n) && decide (n ≤ 126) && !mk.contains (UInt8.ofNat n)) = false := by rw [← hc, hcc]; simp
      have HP : Hid _ := hp
      have hI : decide ((32 : Int) ≤ (n : Int)) = true := by rw [decide_eq_true_eq]; omega
      have hJ : decide ((n : Int) ≤ 126) = true := by rw [decide_eq_true_eq]; omega
      have HCN : Hid _ := hcn
      clear h10 h9 h13 hlow e hp hcn hc hcc
      go_enter Tryd.func57, Tryd.ntmps57
      go_wp2_with fail
      refine (plain_any n HN.out mk _).mono ?_
      rintro e w0 ⟨rfl, rfl⟩
      rw [HP.out]
      go_wp2_with fail
      refine (wB B b rv l 92 _ HW.out (by have := HL.out; omega) HB.out).mono ?_
      rintro e w1 ⟨rfl, h1, h2, h3⟩
      have H1 : Hid (IsW B b rv (l ++ [92]) w1) := h1
      have H2 : Hid _ := h2
      have H3 : Hid _ := h3
      clear h1 h2 h3
      go_wp2_with fail
      rw [← HCN.out]
      refine (wB B b rv (l ++ [92]) c _ H1.out (by simp only [List.length_append, List.length_cons, List.length_nil]; have := HL.out; omega) H3.out).mono ?_
      rintro e w2 ⟨rfl, h1, h2, h3⟩
      have K1 : Hid (IsW B b rv (l ++ [92] ++ [c]) w2) := h1
      have K2 : Hid _ := H2.out.trans h2
      have K3 : Hid _ := h3
      clear h1 h2 h3
      go_wp2_with fail
      go_end0
      refine ⟨rfl, ?_, K2.out, K3.out⟩
      have := K1.out
      rw [show l ++ [92] ++ [c] = l ++ [92, c] by simp] at this
      exact this
    · have e : spl n mk = [c] := by
        unfold spl
        rw [if_neg h10, if_neg h9, if_neg h13, if_neg hlow, ← hc, if_neg hcc]
      rw [e]
      have hp : (decide (32 ≤ n) && decide (n ≤ 126) && !mk.contains (UInt8.ofNat n)) = true := by
        have a1 : decide (32 ≤ n) = true := by rw [decide_eq_true_eq]; omega
        have a2 : decide (n ≤ 126) = true := by rw [decide_eq_true_eq]; omega
        rw [← hc, a1, a2]
        simpa using hcc
      have HP : Hid _ := hp
      have HCN : Hid _ := hcn
      clear h10 h9 h13 hlow e hp hcn hc hcc
      go_enter Tryd.func57, Tryd.ntmps57
      go_wp2_with fail
      refine (plain_any n HN.out mk _).mono ?_
      rintro e w0 ⟨rfl, rfl⟩
      rw [HP.out]
      go_wp2_with fail
      rw [← HCN.out]
      refine (wB B b rv l c _ HW.out (by have := HL.out; omega) HB.out).mono ?_
      rintro e w1 ⟨rfl, h1, h2, h3⟩
      have K1 : Hid (IsW B b rv (l ++ [c]) w1) := h1
      have K2 : Hid _ := h2
      have K3 : Hid _ := h3
      clear h1 h2 h3
      go_wp2_with fail
      go_end0
      exact ⟨rfl, K1.out, K2.out, K3.out⟩
end Go.Proofs.YtkjcnnecdclgfaaDoor
