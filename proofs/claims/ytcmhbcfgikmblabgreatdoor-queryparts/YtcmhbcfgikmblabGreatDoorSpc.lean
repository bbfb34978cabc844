import Derived.Test.YtcmhbcfgikmblabGreatDoorSva
import Derived.Laws.BitsLemmas
namespace Go.Proofs.YtcmhbcfgikmblabGreatDoor
open Go.RowKit Go.Maps

def dgt (n : Nat) : UInt8 := [48, 49, 50, 51, 52, 53, 54, 55, 56, 57, 97, 98, 99, 100, 101, 102].getD n 0
/-- A byte of a string, as it is written. -/
def wrt (x : UInt8) : List UInt8 :=
  if x = 34 then [92, 34] else if x = 92 then [92, 92] else if x = 10 then [92, 110] else if x = 9 then [92, 116] else if x = 13 then [92, 114]
  else if x.toNat < 32 ∨ 126 < x.toNat then [92, 120, dgt (x.toNat / 16), dgt (x.toNat % 16)] else [x]
def idx5 : List Nat := [34, 92, 10, 9, 13]
theorem ix_fact : ∀ n : Fin 256, Lib.indexByte [34, 92, 10, 9, 13] (Nat.toUInt8 n.val) = (if n.val = 34 then 0 else if n.val = 92 then 1 else if n.val = 10 then 2 else if n.val = 9 then 3 else if n.val = 13 then 4 else -1) := by decide +kernel
theorem hi_fact : ∀ n : Fin 256, ((⟨#[48, 49, 50, 51, 52, 53, 54, 55, 56, 57, 97, 98, 99, 100, 101, 102]⟩ : ByteArray).get! (n.val / 16)) = dgt (n.val / 16) ∧ ((⟨#[48, 49, 50, 51, 52, 53, 54, 55, 56, 57, 97, 98, 99, 100, 101, 102]⟩ : ByteArray).get! (n.val % 16)) = dgt (n.val % 16) := by decide +kernel
theorem and_fact : ∀ n : Fin 256, bits .and .u8 (n.val : Int) 15 = ((n.val % 16 : Nat) : Int) := by decide +kernel
theorem idx8_fact (s : ByteArray) (i : Nat) (hi : i < s.size) : ∀ W : World, (Instr.index 9 (.string s) (.int .u8 (i : Int))).run Tryz.prog W = .ok (.int .u8 ((s.get! i).toNat : Int)) W := by
  intro W
  rw [run_index_string W 9 s .u8 _ Tryz.underlying9, dif_pos ⟨by omega, by omega⟩]
  have e : ((i : Int)).toNat = i := by omega
  simp only [e, get_bang s i hi]
theorem byt_apps {B : Nat} {W : World} {v : Value} {l r : List UInt8} (h : W.ownsRow B 5 1 v (l.length + r.length) (Lib.byteCells l ++ Lib.byteCells r)) : Byt B W v (l ++ r) := by
  unfold Byt
  rw [List.length_append]
  have e : Lib.byteCells (l ++ r) = Lib.byteCells l ++ Lib.byteCells r := by simp [Lib.byteCells]
  rw [e]
  exact h
theorem cells_new (w : World) (l : List Value) (t : TypeId) : ∀ j v, l[j]? = some v → (w.alloc (.cells l.toArray t)).cell? ((⟨w.heap.size, 0, none⟩ : Addr).add j) = some v := by
  intro j u hj
  rw [addPl, Nat.zero_add, Lib.cell_of_heap (heap_new w _)]
  simpa using hj

set_option maxRecDepth 100000 in
set_option maxHeartbeats 8000000 in
theorem written_any {B : Nat} {v : Value} {l : List UInt8} (x : UInt8) (w : World) (h : Byt B w v l) (hB : B ≤ w.heap.size) (hl : l.length ≤ 1000000000000) : Calls Tryz.prog 89 #[v, .int .u8 (x.toNat : Int)] w fun e w' => ∃ v', e = .returned v' ∧ Byt B w' v' (l ++ wrt x) ∧ Below B w w' := by
  obtain ⟨i5, hi5, hx0, hx1, hx2⟩ := info_parts info5
  have HH : Hid (Byt B w v l) := h
  have HB : Hid (B ≤ w.heap.size) := hB
  have HL : Hid (l.length ≤ 1000000000000) := hl
  obtain ⟨ra, rc, rfl⟩ := row_shape h
  obtain ⟨n, hn⟩ : ∃ n, x.toNat = n := ⟨_, rfl⟩
  have hn8 : n < 256 := by rw [← hn]; exact UInt8.toNat_lt x
  have hxn : x = Nat.toUInt8 n := by rw [← hn]; simp
  have hix := ix_fact ⟨n, hn8⟩
  simp only at hix
  have HIX : Hid _ := Tryz.strings_IndexByte ⟨#[34, 92, 10, 9, 13]⟩ (n : Int) w
  have hwrt : wrt x = if n = 34 then [92, 34] else if n = 92 then [92, 92] else if n = 10 then [92, 110] else if n = 9 then [92, 116] else if n = 13 then [92, 114] else if n < 32 ∨ 126 < n then [92, 120, dgt (n / 16), dgt (n % 16)] else [x] := by
    unfold wrt
    rw [hn]
    have e : ∀ m : Nat, m < 256 → (x = Nat.toUInt8 m ↔ n = m) := fun m hm => by
      constructor
      · intro h1
        have := congrArg UInt8.toNat h1
        rw [hn] at this
        simp at this
        omega
      · intro h1; rw [hxn, h1]
    have e34 := e 34 (by omega)
    have e92 := e 92 (by omega)
    have e10 := e 10 (by omega)
    have e9 := e 9 (by omega)
    have e13 := e 13 (by omega)
    have f34 : (x = 34) = (n = 34) := propext e34
    have f92 : (x = 92) = (n = 92) := propext e92
    have f10 : (x = 10) = (n = 10) := propext e10
    have f9 : (x = 9) = (n = 9) := propext e9
    have f13 : (x = 13) = (n = 13) := propext e13
    simp only [f34, f92, f10, f9, f13]
  rw [hn]
  have HW : Hid _ := hwrt
  have HIY : Hid (Calls Tryz.prog 81 #[.string ⟨#[34, 92, 10, 9, 13]⟩, .int .u8 (n : Int)] w fun e w' => e = .returned (.int .i64 (if n = 34 then 0 else if n = 92 then 1 else if n = 10 then 2 else if n = 9 then 3 else if n = 13 then 4 else -1)) ∧ w' = w) := by
    rw [← hix]
    exact HIX.out
  clear h hB hl hix HIX hwrt hxn
  by_cases c5 : n = 34 ∨ n = 92 ∨ n = 10 ∨ n = 9 ∨ n = 13
  · rcases c5 with rfl | rfl | rfl | rfl | rfl
    · have HW2 : Hid (wrt x = [92, 34]) := HW.out
      have HIZ : Hid (Calls Tryz.prog 81 #[.string ⟨#[34, 92, 10, 9, 13]⟩, .int .u8 34] w fun e w' => e = .returned (.int .i64 0) ∧ w' = w) := HIY.out
      clear HIY HW hn hn8
      go_enter Tryz.func89, Tryz.ntmps89
      go_wp2_with fail
      refine HIZ.out.mono ?_
      rintro e w9 ⟨rfl, hw9⟩
      rw [hw9]
      clear hw9 w9
      have HROW : Hid ((w.alloc (.cells #[.int .u8 92, .int .u8 34] 5)).ownsRow B 5 1 (.slice ra l.length rc) l.length (Lib.byteCells l)) := HH.out.alloc _
      go_wp2_with (at_builtin; refine wpList_append_own_at _ rfl _ _ 93 rfl B 5 i5 (.int .u8 0) 1 1 Tryz.underlying93 hi5 hx0 hx1 hx2 rfl (by decide) _ _ _ rfl HROW.out ⟨w.heap.size, 0, none⟩ 2 2 [.int .u8 92, .int .u8 34] rfl rfl (cells_new _ [.int .u8 92, .int .u8 34] _) (by simp [Value.oneCell']) (by have := HL.out; unfold maxLen; omega) (by have := HL.out; omega) (by have := HB.out; simp; omega) ?_; intro v5 w5 ho5 hg5 _ ha5; have HO5 : Hid (Byt B w5 v5 (l ++ [92, 34])) := byt_apps ho5; have HG5 : Hid (w.grownBy w5 (Value.ownBlock (.slice ra l.length rc))) := (World.grownBy_alloc _ _ _).trans hg5; obtain ⟨qa, qc, rfl⟩ := row_shape ho5; clear ho5 hg5 ha5)
      go_ret
      refine ⟨_, rfl, ?_, (Below.refl _ _).grown HG5.out HB.out (fun r e => (row_tag HH.out r e).1)⟩
      rw [HW2.out]
      exact HO5.out
    · have HW2 : Hid (wrt x = [92, 92]) := HW.out
      have HIZ : Hid (Calls Tryz.prog 81 #[.string ⟨#[34, 92, 10, 9, 13]⟩, .int .u8 92] w fun e w' => e = .returned (.int .i64 1) ∧ w' = w) := HIY.out
      clear HIY HW hn hn8
      go_enter Tryz.func89, Tryz.ntmps89
      go_wp2_with fail
      refine HIZ.out.mono ?_
      rintro e w9 ⟨rfl, hw9⟩
      rw [hw9]
      clear hw9 w9
      have HROW : Hid ((w.alloc (.cells #[.int .u8 92, .int .u8 92] 5)).ownsRow B 5 1 (.slice ra l.length rc) l.length (Lib.byteCells l)) := HH.out.alloc _
      go_wp2_with (at_builtin; refine wpList_append_own_at _ rfl _ _ 93 rfl B 5 i5 (.int .u8 0) 1 1 Tryz.underlying93 hi5 hx0 hx1 hx2 rfl (by decide) _ _ _ rfl HROW.out ⟨w.heap.size, 0, none⟩ 2 2 [.int .u8 92, .int .u8 92] rfl rfl (cells_new _ [.int .u8 92, .int .u8 92] _) (by simp [Value.oneCell']) (by have := HL.out; unfold maxLen; omega) (by have := HL.out; omega) (by have := HB.out; simp; omega) ?_; intro v5 w5 ho5 hg5 _ ha5; have HO5 : Hid (Byt B w5 v5 (l ++ [92, 92])) := byt_apps ho5; have HG5 : Hid (w.grownBy w5 (Value.ownBlock (.slice ra l.length rc))) := (World.grownBy_alloc _ _ _).trans hg5; obtain ⟨qa, qc, rfl⟩ := row_shape ho5; clear ho5 hg5 ha5)
      go_ret
      refine ⟨_, rfl, ?_, (Below.refl _ _).grown HG5.out HB.out (fun r e => (row_tag HH.out r e).1)⟩
      rw [HW2.out]
      exact HO5.out
    · have HW2 : Hid (wrt x = [92, 110]) := HW.out
      have HIZ : Hid (Calls Tryz.prog 81 #[.string ⟨#[34, 92, 10, 9, 13]⟩, .int .u8 10] w fun e w' => e = .returned (.int .i64 2) ∧ w' = w) := HIY.out
      clear HIY HW hn hn8
      go_enter Tryz.func89, Tryz.ntmps89
      go_wp2_with fail
      refine HIZ.out.mono ?_
      rintro e w9 ⟨rfl, hw9⟩
      rw [hw9]
      clear hw9 w9
      have HROW : Hid ((w.alloc (.cells #[.int .u8 92, .int .u8 110] 5)).ownsRow B 5 1 (.slice ra l.length rc) l.length (Lib.byteCells l)) := HH.out.alloc _
      go_wp2_with (at_builtin; refine wpList_append_own_at _ rfl _ _ 93 rfl B 5 i5 (.int .u8 0) 1 1 Tryz.underlying93 hi5 hx0 hx1 hx2 rfl (by decide) _ _ _ rfl HROW.out ⟨w.heap.size, 0, none⟩ 2 2 [.int .u8 92, .int .u8 110] rfl rfl (cells_new _ [.int .u8 92, .int .u8 110] _) (by simp [Value.oneCell']) (by have := HL.out; unfold maxLen; omega) (by have := HL.out; omega) (by have := HB.out; simp; omega) ?_; intro v5 w5 ho5 hg5 _ ha5; have HO5 : Hid (Byt B w5 v5 (l ++ [92, 110])) := byt_apps ho5; have HG5 : Hid (w.grownBy w5 (Value.ownBlock (.slice ra l.length rc))) := (World.grownBy_alloc _ _ _).trans hg5; obtain ⟨qa, qc, rfl⟩ := row_shape ho5; clear ho5 hg5 ha5)
      go_ret
      refine ⟨_, rfl, ?_, (Below.refl _ _).grown HG5.out HB.out (fun r e => (row_tag HH.out r e).1)⟩
      rw [HW2.out]
      exact HO5.out
    · have HW2 : Hid (wrt x = [92, 116]) := HW.out
      have HIZ : Hid (Calls Tryz.prog 81 #[.string ⟨#[34, 92, 10, 9, 13]⟩, .int .u8 9] w fun e w' => e = .returned (.int .i64 3) ∧ w' = w) := HIY.out
      clear HIY HW hn hn8
      go_enter Tryz.func89, Tryz.ntmps89
      go_wp2_with fail
      refine HIZ.out.mono ?_
      rintro e w9 ⟨rfl, hw9⟩
      rw [hw9]
      clear hw9 w9
      have HROW : Hid ((w.alloc (.cells #[.int .u8 92, .int .u8 116] 5)).ownsRow B 5 1 (.slice ra l.length rc) l.length (Lib.byteCells l)) := HH.out.alloc _
      go_wp2_with (at_builtin; refine wpList_append_own_at _ rfl _ _ 93 rfl B 5 i5 (.int .u8 0) 1 1 Tryz.underlying93 hi5 hx0 hx1 hx2 rfl (by decide) _ _ _ rfl HROW.out ⟨w.heap.size, 0, none⟩ 2 2 [.int .u8 92, .int .u8 116] rfl rfl (cells_new _ [.int .u8 92, .int .u8 116] _) (by simp [Value.oneCell']) (by have := HL.out; unfold maxLen; omega) (by have := HL.out; omega) (by have := HB.out; simp; omega) ?_; intro v5 w5 ho5 hg5 _ ha5; have HO5 : Hid (Byt B w5 v5 (l ++ [92, 116])) := byt_apps ho5; have HG5 : Hid (w.grownBy w5 (Value.ownBlock (.slice ra l.length rc))) := (World.grownBy_alloc _ _ _).trans hg5; obtain ⟨qa, qc, rfl⟩ := row_shape ho5; clear ho5 hg5 ha5)
      go_ret
      refine ⟨_, rfl, ?_, (Below.refl _ _).grown HG5.out HB.out (fun r e => (row_tag HH.out r e).1)⟩
      rw [HW2.out]
      exact HO5.out
    · have HW2 : Hid (wrt x = [92, 114]) := HW.out
      have HIZ : Hid (Calls Tryz.prog 81 #[.string ⟨#[34, 92, 10, 9, 13]⟩, .int .u8 13] w fun e w' => e = .returned (.int .i64 4) ∧ w' = w) := HIY.out
      clear HIY HW hn hn8
      go_enter Tryz.func89, Tryz.ntmps89
      go_wp2_with fail
      refine HIZ.out.mono ?_
      rintro e w9 ⟨rfl, hw9⟩
      rw [hw9]
      clear hw9 w9
      have HROW : Hid ((w.alloc (.cells #[.int .u8 92, .int .u8 114] 5)).ownsRow B 5 1 (.slice ra l.length rc) l.length (Lib.byteCells l)) := HH.out.alloc _
      go_wp2_with (at_builtin; refine wpList_append_own_at _ rfl _ _ 93 rfl B 5 i5 (.int .u8 0) 1 1 Tryz.underlying93 hi5 hx0 hx1 hx2 rfl (by decide) _ _ _ rfl HROW.out ⟨w.heap.size, 0, none⟩ 2 2 [.int .u8 92, .int .u8 114] rfl rfl (cells_new _ [.int .u8 92, .int .u8 114] _) (by simp [Value.oneCell']) (by have := HL.out; unfold maxLen; omega) (by have := HL.out; omega) (by have := HB.out; simp; omega) ?_; intro v5 w5 ho5 hg5 _ ha5; have HO5 : Hid (Byt B w5 v5 (l ++ [92, 114])) := byt_apps ho5; have HG5 : Hid (w.grownBy w5 (Value.ownBlock (.slice ra l.length rc))) := (World.grownBy_alloc _ _ _).trans hg5; obtain ⟨qa, qc, rfl⟩ := row_shape ho5; clear ho5 hg5 ha5)
      go_ret
      refine ⟨_, rfl, ?_, (Below.refl _ _).grown HG5.out HB.out (fun r e => (row_tag HH.out r e).1)⟩
      rw [HW2.out]
      exact HO5.out
  · have n1 : ¬ n = 34 := fun e => c5 (.inl e)
    have n2 : ¬ n = 92 := fun e => c5 (.inr (.inl e))
    have n3 : ¬ n = 10 := fun e => c5 (.inr (.inr (.inl e)))
    have n4 : ¬ n = 9 := fun e => c5 (.inr (.inr (.inr (.inl e))))
    have n5 : ¬ n = 13 := fun e => c5 (.inr (.inr (.inr (.inr e))))
    have hW := HW.out
    rw [if_neg n1, if_neg n2, if_neg n3, if_neg n4, if_neg n5] at hW
    have HIZ : Hid (Calls Tryz.prog 81 #[.string ⟨#[34, 92, 10, 9, 13]⟩, .int .u8 (n : Int)] w fun e w' => e = .returned (.int .i64 (-1)) ∧ w' = w) := by
      have h := HIY.out
      rw [if_neg n1, if_neg n2, if_neg n3, if_neg n4, if_neg n5] at h
      exact h
    by_cases c6 : n < 32 ∨ 126 < n
    · rw [if_pos c6] at hW
      obtain ⟨ha1, ha2⟩ := hi_fact ⟨n, hn8⟩
      have hand := and_fact ⟨n, hn8⟩
      simp only at ha1 ha2 hand
      have hi1 := idx8_fact ⟨#[48, 49, 50, 51, 52, 53, 54, 55, 56, 57, 97, 98, 99, 100, 101, 102]⟩ (n / 16) (by show n / 16 < 16; omega)
      have hi2 := idx8_fact ⟨#[48, 49, 50, 51, 52, 53, 54, 55, 56, 57, 97, 98, 99, 100, 101, 102]⟩ (n % 16) (by show n % 16 < 16; omega)
      rw [ha1] at hi1
      rw [ha2] at hi2
      have HW2 : Hid (wrt x = [92, 120, dgt (n / 16), dgt (n % 16)]) := hW
      obtain ⟨a, ea⟩ : ∃ a, n / 16 = a := ⟨_, rfl⟩
      obtain ⟨b, eb⟩ : ∃ b, n % 16 = b := ⟨_, rfl⟩
      rw [ea, eb] at HW2
      rw [ea] at hi1
      rw [eb] at hi2 hand
      have hdv : ((n : Int) / 16) = (a : Int) := by omega
      obtain ⟨p, hp⟩ : ∃ p, dgt a = p := ⟨_, rfl⟩
      obtain ⟨q, hq⟩ : ∃ q, dgt b = q := ⟨_, rfl⟩
      rw [hp] at hi1 HW2
      rw [hq] at hi2 HW2
      have ha16 : a < 16 := by omega
      have hb16 : b < 16 := by omega
      have HT : Hid (a < 16 ∧ b < 16) := ⟨ha16, hb16⟩
      by_cases c7 : n < 32
      · have l1 : decide ((n : Int) < 32) = true := by rw [decide_eq_true_eq]; omega
        have l2 : decide (n < 32) = true := by rw [decide_eq_true_eq]; omega
        clear c5 c6 c7 HIY HW hW n1 n2 n3 n4 n5 ha1 ha2 hn hn8 ea eb hp hq ha16 hb16
        go_enter Tryz.func89, Tryz.ntmps89
        go_wp2_with fail
        refine HIZ.out.mono ?_
        rintro e w9 ⟨rfl, hw9⟩
        rw [hw9]
        clear hw9 w9
        go_upto_region 5 with fail
        obtain ⟨WD, hWD⟩ : ∃ WD, w.drew = WD := ⟨_, rfl⟩
        have HBD : Hid (Below B w WD) := by rw [← hWD]; exact Below.drew (Below.refl _ _)
        have HHD : Hid (Byt B WD (.slice ra l.length rc) l) := by rw [← hWD]; exact row_up HH.out (Below.drew (Below.refl _ _))
        have HSD : Hid (B ≤ WD.heap.size) := by rw [← hWD]; exact HB.out
        refine wp_region_noPanic ?_
        refine wp_region_held_drew (S := fun _ => True) (by kernel_rfl) trivial (fun hHeld => ?_)
        rw [hWD]
        clear hWD
        refine wpAnyH_take (i := 0) (oi := { dst := _, op := _, type := _, pos := _, after := _, guard := _ }) (v := ?_) rfl (by kernel_rfl) (by kernel_rfl) (by kernel_rfl) (fun _ _ _ h => h) (Or.inl ⟨by rfl, ?_⟩) (by assumption) ?_
        rotate_left
        · intro W hSw
          (try dsimp only at hSw)
          go_simp
          (try with_reducible rfl)
        try simp only [Act.put, List.setIfInBounds_toArray, List.set_cons_zero, List.set_cons_succ]
        refine wpAnyH_take (i := 1) (oi := { dst := _, op := _, type := _, pos := _, after := _, guard := _ }) (v := ?_) rfl (by kernel_rfl) (by kernel_rfl) (by kernel_rfl) (fun _ _ _ h => h) (Or.inl ⟨by rfl, ?_⟩) (by assumption) ?_
        rotate_left
        · intro W hSw
          (try dsimp only at hSw)
          go_simp
          (try with_reducible rfl)
        try simp only [Act.put, List.setIfInBounds_toArray, List.set_cons_zero, List.set_cons_succ]
        refine wpAnyH_take (i := 2) (oi := { dst := _, op := _, type := _, pos := _, after := _, guard := _ }) (v := ?_) rfl (by kernel_rfl) (by kernel_rfl) (by kernel_rfl) (fun _ _ _ h => h) (Or.inl ⟨by rfl, ?_⟩) (by assumption) ?_
        rotate_left
        · intro W hSw
          (try dsimp only at hSw)
          go_simp
          (try with_reducible rfl)
        try simp only [Act.put, List.setIfInBounds_toArray, List.set_cons_zero, List.set_cons_succ]
        refine wpAnyH_take (i := 3) (oi := { dst := _, op := _, type := _, pos := _, after := _, guard := _ }) (v := ?_) rfl (by kernel_rfl) (by kernel_rfl) (by kernel_rfl) (fun _ _ _ h => h) (Or.inl ⟨by rfl, ?_⟩) (by assumption) ?_
        rotate_left
        · intro W hSw
          (try dsimp only at hSw)
          go_simp
          (try with_reducible rfl)
        try simp only [Act.put, List.setIfInBounds_toArray, List.set_cons_zero, List.set_cons_succ]
        refine wpAnyH_take (i := 4) (oi := { dst := _, op := _, type := _, pos := _, after := _, guard := _ }) (v := ?_) rfl (by kernel_rfl) (by kernel_rfl) (by kernel_rfl) (fun _ _ _ h => h) (Or.inl ⟨by rfl, ?_⟩) (by assumption) ?_
        rotate_left
        · intro W hSw
          (try dsimp only at hSw)
          go_simp
          (try with_reducible rfl)
        try simp only [Act.put, List.setIfInBounds_toArray, List.set_cons_zero, List.set_cons_succ]
        refine wpAnyH_take (i := 5) (oi := { dst := _, op := _, type := _, pos := _, after := _, guard := _ }) (v := ?_) rfl (by kernel_rfl) (by kernel_rfl) (by kernel_rfl) (fun _ _ _ h => h) (Or.inl ⟨by rfl, ?_⟩) (by assumption) ?_
        rotate_left
        · intro W hSw
          (try dsimp only at hSw)
          go_simp
          (try with_reducible rfl)
        try simp only [Act.put, List.setIfInBounds_toArray, List.set_cons_zero, List.set_cons_succ]
        refine wpAnyH_take (i := 6) (oi := { dst := _, op := _, type := _, pos := _, after := _, guard := _ }) (v := ?_) rfl (by kernel_rfl) (by kernel_rfl) (by kernel_rfl) (fun _ _ _ h => h) (Or.inl ⟨by rfl, ?_⟩) (by assumption) ?_
        rotate_left
        · intro W hSw
          (try dsimp only at hSw)
          go_simp
          (try with_reducible rfl)
        try simp only [Act.put, List.setIfInBounds_toArray, List.set_cons_zero, List.set_cons_succ]
        refine wpAnyH_ready (rs := [7]) (by kernel_rfl) (by simp) ?_
        refine AllReadyH.cons (o := { dst := _, op := _, type := _, pos := _, after := _, guard := _ }) rfl (fun K hK => ?_) AllReadyH.nil
        go_simp
        refine hK.out _ _ ?_ (fun hHeld => ?_)
        · exact trivial
        clear hK K
        try simp only [Act.put, List.setIfInBounds_toArray, List.set_cons_zero, List.set_cons_succ]
        refine wpAnyH_ready (rs := [8]) (by kernel_rfl) (by simp) ?_
        refine AllReadyH.cons (o := { dst := _, op := _, type := _, pos := _, after := _, guard := _ }) rfl (fun K hK => ?_) AllReadyH.nil
        refine step_append_lies _ rfl (.tmp 21) (.tmp 28) 93 rfl B 5 i5 _ 1 1 Tryz.underlying93 hi5 hx0 hx1 hx2 rfl (by decide) (.slice ra l.length rc) _ _ rfl (HHD.out.alloc _) ⟨WD.heap.size, 0, none⟩ 4 4 [.int .u8 92, .int .u8 120, .int .u8 (p.toNat : Int), .int .u8 (q.toNat : Int)] rfl rfl (cells_new _ [.int .u8 92, .int .u8 120, .int .u8 (p.toNat : Int), .int .u8 (q.toNat : Int)] _) (by simp [Value.oneCell']) (by decide) (by have := HL.out; unfold maxLen; omega) (by have := HL.out; omega) (by have := HSD.out; simp; omega) (WD.heap.size + 1) (by simp) ?_
        intro g' cap' w' h2 h3 h4 _
        have HO5 : Hid (Byt B w' (.slice (some ⟨g', 0, none⟩) (l.length + 4) cap') (l ++ [92, 120, p, q])) := byt_apps h2
        have HG5 : Hid (WD.grownBy w' (Value.ownBlock (.slice ra l.length rc))) := (World.grownBy_alloc _ _ _).trans h3
        clear h2 h3 h4
        refine hK.out _ _ ?_ (fun hHeld => ?_)
        · exact trivial
        clear hK K
        try simp only [Act.put, List.setIfInBounds_toArray, List.set_cons_zero, List.set_cons_succ]
        refine wpAnyH_take (i := 9) (oi := { dst := _, op := _, type := _, pos := _, after := _, guard := _ }) (v := ?_) rfl (by kernel_rfl) (by kernel_rfl) (by kernel_rfl) (fun _ _ _ h => h) (Or.inl ⟨by rfl, ?_⟩) (by assumption) ?_
        rotate_left
        · intro W hSw
          (try dsimp only at hSw)
          go_simp
          (try with_reducible rfl)
        try simp only [Act.put, List.setIfInBounds_toArray, List.set_cons_zero, List.set_cons_succ]
        refine wpAnyH_done (by kernel_rfl) ?_ _
        clear hHeld
        refine NoPanic.normal ?_
        go_wp2_with fail
        go_ret
        refine ⟨_, rfl, ?_, HBD.out.trans ((Below.refl _ _).grown HG5.out HSD.out (fun r e => (row_tag HHD.out r e).1))⟩
        rw [HW2.out]
        exact HO5.out
      · have l1 : decide ((n : Int) < 32) = false := by rw [decide_eq_false_iff_not]; omega
        have l2 : decide (n < 32) = false := by rw [decide_eq_false_iff_not]; omega
        have l3 : decide ((126 : Int) < (n : Int)) = true := by rw [decide_eq_true_eq]; omega
        have l4 : decide (126 < n) = true := by rw [decide_eq_true_eq]; omega
        clear c5 c6 c7 HIY HW hW n1 n2 n3 n4 n5 ha1 ha2 hn hn8 ea eb hp hq ha16 hb16
        go_enter Tryz.func89, Tryz.ntmps89
        go_wp2_with fail
        refine HIZ.out.mono ?_
        rintro e w9 ⟨rfl, hw9⟩
        rw [hw9]
        clear hw9 w9
        go_upto_region 5 with fail
        obtain ⟨WD, hWD⟩ : ∃ WD, w.drew = WD := ⟨_, rfl⟩
        have HBD : Hid (Below B w WD) := by rw [← hWD]; exact Below.drew (Below.refl _ _)
        have HHD : Hid (Byt B WD (.slice ra l.length rc) l) := by rw [← hWD]; exact row_up HH.out (Below.drew (Below.refl _ _))
        have HSD : Hid (B ≤ WD.heap.size) := by rw [← hWD]; exact HB.out
        refine wp_region_noPanic ?_
        refine wp_region_held_drew (S := fun _ => True) (by kernel_rfl) trivial (fun hHeld => ?_)
        rw [hWD]
        clear hWD
        refine wpAnyH_take (i := 0) (oi := { dst := _, op := _, type := _, pos := _, after := _, guard := _ }) (v := ?_) rfl (by kernel_rfl) (by kernel_rfl) (by kernel_rfl) (fun _ _ _ h => h) (Or.inl ⟨by rfl, ?_⟩) (by assumption) ?_
        rotate_left
        · intro W hSw
          (try dsimp only at hSw)
          go_simp
          (try with_reducible rfl)
        try simp only [Act.put, List.setIfInBounds_toArray, List.set_cons_zero, List.set_cons_succ]
        refine wpAnyH_take (i := 1) (oi := { dst := _, op := _, type := _, pos := _, after := _, guard := _ }) (v := ?_) rfl (by kernel_rfl) (by kernel_rfl) (by kernel_rfl) (fun _ _ _ h => h) (Or.inl ⟨by rfl, ?_⟩) (by assumption) ?_
        rotate_left
        · intro W hSw
          (try dsimp only at hSw)
          go_simp
          (try with_reducible rfl)
        try simp only [Act.put, List.setIfInBounds_toArray, List.set_cons_zero, List.set_cons_succ]
        refine wpAnyH_take (i := 2) (oi := { dst := _, op := _, type := _, pos := _, after := _, guard := _ }) (v := ?_) rfl (by kernel_rfl) (by kernel_rfl) (by kernel_rfl) (fun _ _ _ h => h) (Or.inl ⟨by rfl, ?_⟩) (by assumption) ?_
        rotate_left
        · intro W hSw
          (try dsimp only at hSw)
          go_simp
          (try with_reducible rfl)
        try simp only [Act.put, List.setIfInBounds_toArray, List.set_cons_zero, List.set_cons_succ]
        refine wpAnyH_take (i := 3) (oi := { dst := _, op := _, type := _, pos := _, after := _, guard := _ }) (v := ?_) rfl (by kernel_rfl) (by kernel_rfl) (by kernel_rfl) (fun _ _ _ h => h) (Or.inl ⟨by rfl, ?_⟩) (by assumption) ?_
        rotate_left
        · intro W hSw
          (try dsimp only at hSw)
          go_simp
          (try with_reducible rfl)
        try simp only [Act.put, List.setIfInBounds_toArray, List.set_cons_zero, List.set_cons_succ]
        refine wpAnyH_take (i := 4) (oi := { dst := _, op := _, type := _, pos := _, after := _, guard := _ }) (v := ?_) rfl (by kernel_rfl) (by kernel_rfl) (by kernel_rfl) (fun _ _ _ h => h) (Or.inl ⟨by rfl, ?_⟩) (by assumption) ?_
        rotate_left
        · intro W hSw
          (try dsimp only at hSw)
          go_simp
          (try with_reducible rfl)
        try simp only [Act.put, List.setIfInBounds_toArray, List.set_cons_zero, List.set_cons_succ]
        refine wpAnyH_take (i := 5) (oi := { dst := _, op := _, type := _, pos := _, after := _, guard := _ }) (v := ?_) rfl (by kernel_rfl) (by kernel_rfl) (by kernel_rfl) (fun _ _ _ h => h) (Or.inl ⟨by rfl, ?_⟩) (by assumption) ?_
        rotate_left
        · intro W hSw
          (try dsimp only at hSw)
          go_simp
          (try with_reducible rfl)
        try simp only [Act.put, List.setIfInBounds_toArray, List.set_cons_zero, List.set_cons_succ]
        refine wpAnyH_take (i := 6) (oi := { dst := _, op := _, type := _, pos := _, after := _, guard := _ }) (v := ?_) rfl (by kernel_rfl) (by kernel_rfl) (by kernel_rfl) (fun _ _ _ h => h) (Or.inl ⟨by rfl, ?_⟩) (by assumption) ?_
        rotate_left
        · intro W hSw
          (try dsimp only at hSw)
          go_simp
          (try with_reducible rfl)
        try simp only [Act.put, List.setIfInBounds_toArray, List.set_cons_zero, List.set_cons_succ]
        refine wpAnyH_ready (rs := [7]) (by kernel_rfl) (by simp) ?_
        refine AllReadyH.cons (o := { dst := _, op := _, type := _, pos := _, after := _, guard := _ }) rfl (fun K hK => ?_) AllReadyH.nil
        go_simp
        refine hK.out _ _ ?_ (fun hHeld => ?_)
        · exact trivial
        clear hK K
        try simp only [Act.put, List.setIfInBounds_toArray, List.set_cons_zero, List.set_cons_succ]
        refine wpAnyH_ready (rs := [8]) (by kernel_rfl) (by simp) ?_
        refine AllReadyH.cons (o := { dst := _, op := _, type := _, pos := _, after := _, guard := _ }) rfl (fun K hK => ?_) AllReadyH.nil
        refine step_append_lies _ rfl (.tmp 21) (.tmp 28) 93 rfl B 5 i5 _ 1 1 Tryz.underlying93 hi5 hx0 hx1 hx2 rfl (by decide) (.slice ra l.length rc) _ _ rfl (HHD.out.alloc _) ⟨WD.heap.size, 0, none⟩ 4 4 [.int .u8 92, .int .u8 120, .int .u8 (p.toNat : Int), .int .u8 (q.toNat : Int)] rfl rfl (cells_new _ [.int .u8 92, .int .u8 120, .int .u8 (p.toNat : Int), .int .u8 (q.toNat : Int)] _) (by simp [Value.oneCell']) (by decide) (by have := HL.out; unfold maxLen; omega) (by have := HL.out; omega) (by have := HSD.out; simp; omega) (WD.heap.size + 1) (by simp) ?_
        intro g' cap' w' h2 h3 h4 _
        have HO5 : Hid (Byt B w' (.slice (some ⟨g', 0, none⟩) (l.length + 4) cap') (l ++ [92, 120, p, q])) := byt_apps h2
        have HG5 : Hid (WD.grownBy w' (Value.ownBlock (.slice ra l.length rc))) := (World.grownBy_alloc _ _ _).trans h3
        clear h2 h3 h4
        refine hK.out _ _ ?_ (fun hHeld => ?_)
        · exact trivial
        clear hK K
        try simp only [Act.put, List.setIfInBounds_toArray, List.set_cons_zero, List.set_cons_succ]
        refine wpAnyH_take (i := 9) (oi := { dst := _, op := _, type := _, pos := _, after := _, guard := _ }) (v := ?_) rfl (by kernel_rfl) (by kernel_rfl) (by kernel_rfl) (fun _ _ _ h => h) (Or.inl ⟨by rfl, ?_⟩) (by assumption) ?_
        rotate_left
        · intro W hSw
          (try dsimp only at hSw)
          go_simp
          (try with_reducible rfl)
        try simp only [Act.put, List.setIfInBounds_toArray, List.set_cons_zero, List.set_cons_succ]
        refine wpAnyH_done (by kernel_rfl) ?_ _
        clear hHeld
        refine NoPanic.normal ?_
        go_wp2_with fail
        go_ret
        refine ⟨_, rfl, ?_, HBD.out.trans ((Below.refl _ _).grown HG5.out HSD.out (fun r e => (row_tag HHD.out r e).1))⟩
        rw [HW2.out]
        exact HO5.out
    · rw [if_neg c6] at hW
      have HW2 : Hid (wrt x = [x]) := hW
      have l1 : decide ((n : Int) < 32) = false := by rw [decide_eq_false_iff_not]; omega
      have l2 : decide (n < 32) = false := by rw [decide_eq_false_iff_not]; omega
      have l3 : decide ((126 : Int) < (n : Int)) = false := by rw [decide_eq_false_iff_not]; omega
      have l4 : decide (126 < n) = false := by rw [decide_eq_false_iff_not]; omega
      have HXN : Hid ((n : Int) = ((x.toNat : Nat) : Int)) := by rw [hn]; exact rfl
      clear c5 c6 HIY HW hW n1 n2 n3 n4 n5 hn hn8
      go_enter Tryz.func89, Tryz.ntmps89
      go_wp2_with fail
      refine HIZ.out.mono ?_
      rintro e w9 ⟨rfl, hw9⟩
      rw [hw9]
      clear hw9 w9
      have HROW : Hid ((w.alloc (.cells #[.int .u8 (n : Int)] 5)).ownsRow B 5 1 (.slice ra l.length rc) l.length (Lib.byteCells l)) := HH.out.alloc _
      go_wp2_with (at_builtin; refine wpList_append_own_at _ rfl _ _ 93 rfl B 5 i5 (.int .u8 0) 1 1 Tryz.underlying93 hi5 hx0 hx1 hx2 rfl (by decide) _ _ _ rfl HROW.out ⟨w.heap.size, 0, none⟩ 1 1 [.int .u8 (n : Int)] rfl rfl (cell_one_new _ _ _) (by simp [Value.oneCell']) (by have := HL.out; unfold maxLen; omega) (by have := HL.out; omega) (by have := HB.out; simp; omega) ?_; intro v5 w5 ho5 hg5 _ ha5; have ho6 := ho5; rw [HXN.out] at ho6; have HO5 : Hid (Byt B w5 v5 (l ++ [x])) := byt_app ho6; have HG5 : Hid (w.grownBy w5 (Value.ownBlock (.slice ra l.length rc))) := (World.grownBy_alloc _ _ _).trans hg5; obtain ⟨qa, qc, rfl⟩ := row_shape ho5; clear ho5 ho6 hg5 ha5)
      go_ret
      refine ⟨_, rfl, ?_, (Below.refl _ _).grown HG5.out HB.out (fun r e => (row_tag HH.out r e).1)⟩
      rw [HW2.out]
      exact HO5.out
end Go.Proofs.YtcmhbcfgikmblabGreatDoor
