import Derived.Test.YtgdmoeocgflhgaaDoorDpu
namespace Go.Proofs.YtgdmoeocgflhgaaDoor
open Go.RowKit Go.Maps

/-- The sentinel, in its variable. -/
def Sn (W : World) (sa : Addr) : Prop := W.cell? ⟨0, 0, none⟩ = some (.iface 111 (.pointer (some sa)))
theorem Sn.up {W W' : World} {sa : Addr} (h : Sn W sa) (hb : Below W.heap.size W W') : Sn W' sa := below_cell hb h
/-- The reader in its block. -/
def Rd (W : World) (r : Nat) (s : ByteArray) (p : Nat) : Prop := W.heap[r]? = some (.cells #[.string s, .int .i64 (p : Int)] 61 (0, 0))
/-- An error that tells a place: one that was met in a count, or a refusal. -/
def Er (W : World) (sa : Addr) (e : Value) (p : Nat) : Prop :=
  (∃ b, e = .iface 37 (.pointer (some ⟨b, 0, none⟩)) ∧ W.heap[b]? = some (.cells #[.int .i64 (p : Int), .iface 111 (.pointer (some sa))] 43 (0, 0))) ∨
  (∃ b, e = .iface 55 (.pointer (some ⟨b, 0, none⟩)) ∧ W.heap[b]? = some (.cells #[.int .i64 131, .int .i64 (p : Int)] 58 (0, 0)))
/-- Nothing but the reader's block has turned. -/
abbrev Fr (W W' : World) (r : Nat) : Prop := W.grownBy W' (some r)
theorem Fr.of_below {W W' : World} {r : Nat} (h : Below W.heap.size W W') : Fr W W' r := (grown_of_below h).but (some r)
theorem Fr.blk {W W' : World} {r b : Nat} {o : Obj} (h : Fr W W' r) (hb : W.heap[b]? = some o) (hne : b ≠ r) : W'.heap[b]? = some o := (h.block b (lt_of_heap hb) (fun e => hne (Option.some.inj e))).trans hb
theorem Fr.cel {W W' : World} {r : Nat} {a : Addr} {v : Value} (h : Fr W W' r) (hc : W.cell? a = some v) (hne : a.block ≠ r) : W'.cell? a = some v := h.cell hc (fun e => hne (Option.some.inj e))
theorem Er.fr {W W' : World} {sa : Addr} {e : Value} {p r : Nat} {cs : Array Value} (h : Er W sa e p) (hf : Fr W W' r) (hr : W.heap[r]? = some (.cells cs 61 (0, 0))) : Er W' sa e p := by
  rcases h with ⟨b, e1, hb⟩ | ⟨b, e1, hb⟩
  · exact Or.inl ⟨b, e1, hf.blk hb (fun q => by rw [q, hr] at hb; cases hb)⟩
  · exact Or.inr ⟨b, e1, hf.blk hb (fun q => by rw [q, hr] at hb; cases hb)⟩
theorem Er.up {W W' : World} {sa : Addr} {e : Value} {p : Nat} (h : Er W sa e p) (hb : Below W.heap.size W W') : Er W' sa e p := by
  rcases h with ⟨b, e1, h1⟩ | ⟨b, e1, h1⟩
  · exact Or.inl ⟨b, e1, (hb.block _ (lt_of_heap h1)).trans h1⟩
  · exact Or.inr ⟨b, e1, (hb.block _ (lt_of_heap h1)).trans h1⟩
theorem Er.form {W : World} {sa : Addr} {e : Value} {p : Nat} (h : Er W sa e p) : ∃ t v, e = .iface t v := by
  rcases h with ⟨b, e1, h1⟩ | ⟨b, e1, h1⟩
  · exact ⟨_, _, e1⟩
  · exact ⟨_, _, e1⟩
theorem Rd.up {W W' : World} {r p : Nat} {s : ByteArray} (h : Rd W r s p) (hb : Below W.heap.size W W') : Rd W' r s p := (hb.block _ (lt_of_heap h)).trans h
theorem u64_wrap' (n : Nat) (h : n < 2 ^ 64) : IntKind.u64.wrap (n : Int) = (n : Int) := by
  have h1 : ((n : Nat) : Int) < ((2 ^ 64 : Nat) : Int) := by exact_mod_cast h
  exact u64_wrap _ (by omega) (by simpa using h1)
set_option maxRecDepth 100000 in
set_option maxHeartbeats 4000000 in
/-- A refusal at a place. -/
theorem broken_any (p : Nat) (sa : Addr) (w : World) : Calls Tryd.prog 11 #[.int .i64 (p : Int)] w fun e w' => ∃ ev, e = .returned ev ∧ Er w' sa ev p ∧ Below w.heap.size w w' := by
  go_enter Tryd.func11, Tryd.ntmps11
  go_wp2_with fail
  go_ret
  exact ⟨_, rfl, Or.inr ⟨w.heap.size, rfl, heap_new _ _⟩, bel_up _ _⟩
/-- What the first count of a text comes to. -/
def fcV (sa : Addr) : Option (Nat × Nat) → Value
  | none => .tuple #[.int .u64 0, .int .i64 0, .iface 111 (.pointer (some sa))]
  | some (v, z) => .tuple #[.int .u64 (v : Nat), .int .i64 (z : Nat), .nilIface]
theorem or_add (n b k : Nat) (hn : n < 2 ^ (7 * k)) : n ||| b * 2 ^ (7 * k) = n + b * 2 ^ (7 * k) := by
  have h := Nat.shiftLeft_add_eq_or_of_lt hn b
  rw [Nat.shiftLeft_eq] at h
  rw [Nat.or_comm, ← h, Nat.add_comm]
theorem cr_nil (k n : Nat) : cr k n [] = none := rfl
theorem ba_len (x : ByteArray) : x.data.toList.length = x.size := by rw [Array.length_toList]; rfl
theorem shl_run (c i : Nat) (hi : i < 9) (W : World) : Sem.run Tryd.prog (Op.shift BinOp.shl IntKind.u64 ((c : Int) % 128) IntKind.i64 (7 * (i : Int))) W = Result.ok (Value.int .u64 ((c % 128 * 2 ^ (7 * i) : Nat) : Int)) W ∧ c % 128 * 2 ^ (7 * i) < 2 ^ 63 := by
  have h63 : c % 128 * 2 ^ (7 * i) < 2 ^ 63 := by
    have h1 : c % 128 * 2 ^ (7 * i) < 128 * 2 ^ (7 * i) := Nat.mul_lt_mul_of_pos_right (Nat.mod_lt _ (by decide)) (Nat.pow_pos (by decide))
    have h2 : 128 * 2 ^ (7 * i) = 2 ^ (7 * i + 7) := by rw [Nat.pow_add]; omega
    have h3 : (2 : Nat) ^ (7 * i + 7) ≤ 2 ^ 63 := Nat.pow_le_pow_right (by decide) (by omega)
    omega
  refine ⟨?_, h63⟩
  go_simp
  rw [show (7 * (i : Int)).toNat = 7 * i by omega]
  have h4 : ((c % 128 * 2 ^ (7 * i) : Nat) : Int) = (c : Int) % 128 * 2 ^ (7 * i) := by simp
  rw [← h4]
  exact u64_wrap' _ (by omega)
theorem sum_lt (c i n : Nat) (hn : n < 2 ^ (7 * i)) : n + c % 128 * 2 ^ (7 * i) < 2 ^ (7 * (i + 1)) := by
  have hp : (2 : Nat) ^ (7 * (i + 1)) = 128 * 2 ^ (7 * i) := by rw [show 7 * (i + 1) = 7 * i + 7 by omega, Nat.pow_add]; omega
  rw [hp]
  have h1 : c % 128 * 2 ^ (7 * i) ≤ 127 * 2 ^ (7 * i) := Nat.mul_le_mul_right _ (by have := Nat.mod_lt c (by decide : 0 < 128); omega)
  omega
theorem pow7 (i : Nat) (h : i < 9) : (2 : Nat) ^ (7 * i) ≤ 2 ^ 63 := Nat.pow_le_pow_right (by decide) (by omega)
set_option maxRecDepth 100000 in
set_option maxHeartbeats 8000000 in
theorem firstCount_any (x : ByteArray) (hx : x.size ≤ 140737488355328) (sa : Addr) (w : World) (hs : Sn w sa) :
    Calls Tryd.prog 35 #[.string x] w fun e w' => e = .returned (fcV sa (cr 0 0 x.data.toList)) ∧ Below w.heap.size w w' := by
  have HX : Hid (x.size ≤ 140737488355328) := hx
  have HSN : Hid (Sn w sa) := hs
  clear hx hs
  obtain ⟨R, hR⟩ : ∃ R, fcV sa (cr 0 0 x.data.toList) = R := ⟨_, rfl⟩
  have HR : Hid (fcV sa (cr 0 0 x.data.toList) = R) := hR
  rw [hR]
  clear hR
  by_cases h9 : 9 ≤ x.size
  · have f1 : decide ((x.size : Int) < 9) = false := by rw [decide_eq_false_iff_not]; omega
    have f2 : decide (x.size < 9) = false := by rw [decide_eq_false_iff_not]; omega
    have f3 : decide ((9 : Int) ≤ (x.size : Int)) = true := by rw [decide_eq_true_eq]; omega
    have f4 : min (9 : Int) (x.size : Int) = 9 := by omega
    go_enter Tryd.func35, Tryd.ntmps35
    go_upto_region 3 with fail
    go_loopg [5, 10] (9) (fun gm v5 v10 wr => ∃ (i n : Nat), v5 = .int .u64 (n : Int) ∧ v10 = .int .i64 (i : Int) ∧ Hid (Below w.heap.size w wr) ∧ Hid (i ≤ 9 ∧ gm = 9 - i) ∧ Hid (n < 2 ^ (7 * i)) ∧ Hid (cr 0 0 x.data.toList = cr i n (x.data.toList.drop i)))
    case atStart => exact ⟨0, 0, rfl, rfl, Below.refl _ _, ⟨Nat.zero_le _, rfl⟩, by show (0 : Nat) < 1; omega, by show _ = _; rw [List.drop_zero]⟩
    case round =>
      obtain ⟨i, n, rfl, rfl, HBW, HI, HN, HC⟩ := hrel
      have k0 : wr.cell? ⟨0, 0, none⟩ = some (.iface 111 (.pointer (some sa))) := below_cell HBW.out HSN.out
      by_cases hi : i < 9
      · have hix : i < x.size := by omega
        have hi9 : i < 9 := by omega
        have HDR : Hid (x.data.toList.drop i = x[i] :: x.data.toList.drop (i + 1)) := by
          show _ = _
          rw [List.drop_eq_getElem_cons (by simpa using hix)]
          rfl
        obtain ⟨b, hb⟩ : ∃ b, x[i] = b := ⟨_, rfl⟩
        rw [hb] at HDR
        have HCB : Hid (cr 0 0 x.data.toList = cr i n (b :: x.data.toList.drop (i + 1))) := by show _ = _; rw [HC.out, HDR.out]
        have hbl : b.toNat < 256 := UInt8.toNat_lt b
        obtain ⟨c, hc⟩ : ∃ c, b.toNat = c := ⟨_, rfl⟩
        have HBC : Hid (b.toNat = c) := hc
        rw [hc] at hbl
        have e1 : decide ((i : Int) < (9 : Int)) = true := by rw [decide_eq_true_eq]; omega
        have e2 : decide (i < 9) = true := by rw [decide_eq_true_eq]; omega
        have e3 : (i : Int) < (x.size : Int) := by omega
        have hwr := w64n i (by omega)
        have hw7 : IntKind.i64.wrap ((i : Int) * 7) = ((7 * i : Nat) : Int) := by rw [IntKind.wrap_i64]; omega
        have HIL : Hid (i < 9 ∧ i < 9) := ⟨hi, hi9⟩
        have HSL : Hid (n + c % 128 * 2 ^ (7 * i) < 2 ^ (7 * (i + 1))) := sum_lt c i n HN.out
        have hsr := fun W => (shl_run c i hi9 W).1
        have hM63 := (shl_run c i hi9 w).2
        have HORP : Hid (n ||| c % 128 * 2 ^ (7 * i) = n + c % 128 * 2 ^ (7 * i)) := or_add n (c % 128) i HN.out
        have HN63 : Hid (n < 2 ^ 63) := Nat.lt_of_lt_of_le HN.out (pow7 i hi9)
        have HM1 : Hid (c < 128 → c % 128 = c) := fun h => Nat.mod_eq_of_lt h
        have HCR : Hid (c < 128 → c * 2 ^ (7 * i) = c % 128 * 2 ^ (7 * i)) := fun h => by rw [Nat.mod_eq_of_lt h]
        obtain ⟨M, hM⟩ : ∃ M, c % 128 * 2 ^ (7 * i) = M := ⟨_, rfl⟩
        have HMM : Hid (c % 128 * 2 ^ (7 * i) = M) := hM
        rw [hM] at HSL hM63 HORP HCR
        have hsh : ∀ W : World, Sem.run Tryd.prog (Op.shift BinOp.shl IntKind.u64 ((c : Int) % 128) IntKind.i64 (7 * (i : Int))) W = Result.ok (Value.int .u64 (M : Int)) W := fun W => by have h9 := hsr W; rw [hM] at h9; exact h9
        have hsw : IntKind.u64.wrap ((c : Int) % 128 * 2 ^ (7 * i)) = (M : Int) := by
          have h4 : ((c % 128 * 2 ^ (7 * i) : Nat) : Int) = (c : Int) % 128 * 2 ^ (7 * i) := by simp
          rw [← h4, hM]
          exact u64_wrap' _ (by omega)
        have hor : bits .or .u64 (n : Int) (M : Int) = ((n + M : Nat) : Int) := by
          have h1 := HN63.out
          rw [u64_or n M (Nat.lt_trans h1 (by decide)) (Nat.lt_trans hM63 (by decide)), HORP.out]
        obtain ⟨n2, hn2⟩ : ∃ n2, n + M = n2 := ⟨_, rfl⟩
        have HN2 : Hid (n + M = n2) := hn2
        rw [hn2] at hor HSL
        clear hi hi9 hsr hM63 hn2 hM
        by_cases h128 : 128 ≤ c
        · have f128 : decide ((128 : Int) ≤ (c : Int)) = true := by rw [decide_eq_true_eq]; omega
          have f128' : decide (128 ≤ c) = true := by rw [decide_eq_true_eq]; omega
          have HC2 : Hid (cr 0 0 x.data.toList = cr (i + 1) n2 (x.data.toList.drop (i + 1))) := by
            show _ = _
            rw [HCB.out, cr_more HIL.out.2 (by rw [HBC.out]; exact h128), HBC.out, HMM.out, HN2.out]
          clear h128
          go_wp2_with fail
          go_roundg (9 - (i + 1))
          case measure => have := HI.out; have := HIL.out; omega
          case rel => exact ⟨i + 1, n2, rfl, by first | rfl | (rw [show (i : Int) + 1 = ((i + 1 : Nat) : Int) by omega]), HBW, ⟨HIL.out.1, rfl⟩, HSL, HC2⟩
        · have f128 : decide ((128 : Int) ≤ (c : Int)) = false := by rw [decide_eq_false_iff_not]; omega
          have f128' : decide (128 ≤ c) = false := by rw [decide_eq_false_iff_not]; omega
          by_cases hz : c = 0 ∧ 0 < i
          · have HZZ : Hid (c = 0 ∧ 0 < i) := hz
            have hz2 := HZZ.out.2
            have g1 : ((c : Int) == 0) = true := by rw [HZZ.out.1]; rfl
            have g2 : decide ((0 : Int) < (i : Int)) = true := by rw [decide_eq_true_eq]; omega
            have g2' : decide (0 < i) = true := by rw [decide_eq_true_eq]; omega
            have HNO : Hid (cr 0 0 x.data.toList = none) := by show _ = _; rw [HCB.out, cr_zero (by rw [HBC.out]; exact HZZ.out.1) hz2]
            clear h128 hz hz2
            go_upto_region 8 with fail
            obtain ⟨WD, hWD⟩ : ∃ WD, wr.drew = WD := ⟨_, rfl⟩
            have BD : Hid (Below wr.heap.size wr WD) := by rw [← hWD]; exact Below.drew (Below.refl _ _)
            have kd : WD.cell? ⟨0, 0, none⟩ = some (.iface 111 (.pointer (some sa))) := below_cell BD.out k0
            refine wp_region_noPanic ?_
            refine wp_region_held_drew (S := fun W => W.cell? ⟨0, 0, none⟩ = some (.iface 111 (.pointer (some sa)))) (by kernel_rfl) (by rw [hWD]; exact kd) (fun hHeld => ?_)
            rw [hWD] at hHeld ⊢
            clear hWD
            refine wpAnyH_take (i := 0) (oi := { dst := _, op := _, type := _, pos := _, after := _, guard := _ }) (v := ?_) rfl (by kernel_rfl) (by kernel_rfl) (by kernel_rfl) (fun _ _ _ h => h) (Or.inl ⟨by rfl, ?_⟩) (by assumption) ?_
            rotate_left
            · intro W hSw
              (try dsimp only at hSw)
              go_simp
              (try with_reducible rfl)
            try simp only [Act.put, List.setIfInBounds_toArray, List.set_cons_zero, List.set_cons_succ]
            refine wpAnyH_take (i := 1) (oi := { dst := _, op := _, type := _, pos := _, after := _, guard := _ }) (v := ?_) rfl (by kernel_rfl) (by kernel_rfl) (by kernel_rfl) (fun _ _ _ h => h) (Or.inl ⟨by rfl, ?_⟩) (by assumption) ?_
            rotate_left
            · intro W hSw
              (try dsimp only at hSw)
              go_simp
              (try with_reducible rfl)
            try simp only [Act.put, List.setIfInBounds_toArray, List.set_cons_zero, List.set_cons_succ]
            refine wpAnyH_take (i := 2) (oi := { dst := _, op := _, type := _, pos := _, after := _, guard := _ }) (v := ?_) rfl (by kernel_rfl) (by kernel_rfl) (by kernel_rfl) (fun _ _ _ h => h) (Or.inl ⟨by rfl, ?_⟩) (by assumption) ?_
            rotate_left
            · intro W hSw
              (try dsimp only at hSw)
              go_simp
              (try with_reducible rfl)
            try simp only [Act.put, List.setIfInBounds_toArray, List.set_cons_zero, List.set_cons_succ]
            refine wpAnyH_take (i := 3) (oi := { dst := _, op := _, type := _, pos := _, after := _, guard := _ }) (v := ?_) rfl (by kernel_rfl) (by kernel_rfl) (by kernel_rfl) (fun _ _ _ h => h) (Or.inl ⟨by rfl, ?_⟩) (by assumption) ?_
            rotate_left
            · intro W hSw
              (try dsimp only at hSw)
              go_simp
              (try with_reducible rfl)
            try simp only [Act.put, List.setIfInBounds_toArray, List.set_cons_zero, List.set_cons_succ]
            refine wpAnyH_done (by kernel_rfl) ?_ _
            refine NoPanic.normal ?_
            clear hHeld
            go_wp2_with fail
            exact bodyPost_ret (v := .tuple #[.int .u64 0, .int .i64 0, .iface 111 (.pointer (some sa))]) (by simp [results, Tryd.results35, go_sem]) rfl ⟨by rw [← HR.out, HNO.out]; rfl, below_trans HBW.out BD.out⟩
          · have HYE : Hid (cr 0 0 x.data.toList = some (n2, i + 1)) := by
              show _ = _
              rw [HCB.out, cr_last HIL.out.2 (by rw [HBC.out]; omega) (by rw [HBC.out]; exact hz), HBC.out, HCR.out (by omega), HN2.out]
            by_cases hc0 : c = 0
            · have g1 : ((c : Int) == 0) = true := by rw [hc0]; rfl
              have g2 : decide ((0 : Int) < (i : Int)) = false := by rw [decide_eq_false_iff_not]; omega
              have g2' : decide (0 < i) = false := by rw [decide_eq_false_iff_not]; omega
              clear h128 hz hc0
              go_wp2_with fail
              exact bodyPost_ret (v := .tuple #[.int .u64 (n2 : Int), .int .i64 ((i + 1 : Nat) : Int), .nilIface]) (by simp [results, Tryd.results35, go_sem]) rfl ⟨by rw [← HR.out, HYE.out]; rfl, HBW.out⟩
            · have g1 : ((c : Int) == 0) = false := by rw [beq_eq_false_iff_ne]; omega
              clear h128 hz hc0
              go_wp2_with fail
              exact bodyPost_ret (v := .tuple #[.int .u64 (n2 : Int), .int .i64 ((i + 1 : Nat) : Int), .nilIface]) (by simp [results, Tryd.results35, go_sem]) rfl ⟨by rw [← HR.out, HYE.out]; rfl, HBW.out⟩
      · have e1 : decide ((i : Int) < (9 : Int)) = false := by rw [decide_eq_false_iff_not]; omega
        have e2 : decide (i < 9) = false := by rw [decide_eq_false_iff_not]; omega
        have HNO : Hid (cr 0 0 x.data.toList = none) := by
          have := HI.out
          show _ = _
          rw [HC.out]
          exact cr_nine (by omega)
        clear hi
        go_upto_region 11 with fail
        obtain ⟨WD, hWD⟩ : ∃ WD, wr.drew = WD := ⟨_, rfl⟩
        have BD : Hid (Below wr.heap.size wr WD) := by rw [← hWD]; exact Below.drew (Below.refl _ _)
        have kd : WD.cell? ⟨0, 0, none⟩ = some (.iface 111 (.pointer (some sa))) := below_cell BD.out k0
        refine wp_region_noPanic ?_
        refine wp_region_held_drew (S := fun W => W.cell? ⟨0, 0, none⟩ = some (.iface 111 (.pointer (some sa)))) (by kernel_rfl) (by rw [hWD]; exact kd) (fun hHeld => ?_)
        rw [hWD] at hHeld ⊢
        clear hWD
        refine wpAnyH_take (i := 0) (oi := { dst := _, op := _, type := _, pos := _, after := _, guard := _ }) (v := ?_) rfl (by kernel_rfl) (by kernel_rfl) (by kernel_rfl) (fun _ _ _ h => h) (Or.inl ⟨by rfl, ?_⟩) (by assumption) ?_
        rotate_left
        · intro W hSw
          (try dsimp only at hSw)
          go_simp
          (try with_reducible rfl)
        try simp only [Act.put, List.setIfInBounds_toArray, List.set_cons_zero, List.set_cons_succ]
        refine wpAnyH_take (i := 1) (oi := { dst := _, op := _, type := _, pos := _, after := _, guard := _ }) (v := ?_) rfl (by kernel_rfl) (by kernel_rfl) (by kernel_rfl) (fun _ _ _ h => h) (Or.inl ⟨by rfl, ?_⟩) (by assumption) ?_
        rotate_left
        · intro W hSw
          (try dsimp only at hSw)
          go_simp
          (try with_reducible rfl)
        try simp only [Act.put, List.setIfInBounds_toArray, List.set_cons_zero, List.set_cons_succ]
        refine wpAnyH_take (i := 2) (oi := { dst := _, op := _, type := _, pos := _, after := _, guard := _ }) (v := ?_) rfl (by kernel_rfl) (by kernel_rfl) (by kernel_rfl) (fun _ _ _ h => h) (Or.inl ⟨by rfl, ?_⟩) (by assumption) ?_
        rotate_left
        · intro W hSw
          (try dsimp only at hSw)
          go_simp
          (try with_reducible rfl)
        try simp only [Act.put, List.setIfInBounds_toArray, List.set_cons_zero, List.set_cons_succ]
        refine wpAnyH_take (i := 3) (oi := { dst := _, op := _, type := _, pos := _, after := _, guard := _ }) (v := ?_) rfl (by kernel_rfl) (by kernel_rfl) (by kernel_rfl) (fun _ _ _ h => h) (Or.inl ⟨by rfl, ?_⟩) (by assumption) ?_
        rotate_left
        · intro W hSw
          (try dsimp only at hSw)
          go_simp
          (try with_reducible rfl)
        try simp only [Act.put, List.setIfInBounds_toArray, List.set_cons_zero, List.set_cons_succ]
        refine wpAnyH_done (by kernel_rfl) ?_ _
        refine NoPanic.normal ?_
        clear hHeld
        go_wp2_with fail
        exact bodyPost_ret (v := .tuple #[.int .u64 0, .int .i64 0, .iface 111 (.pointer (some sa))]) (by simp [results, Tryd.results35, go_sem]) rfl ⟨by rw [← HR.out, HNO.out]; rfl, below_trans HBW.out BD.out⟩
  · have f1 : decide ((x.size : Int) < 9) = true := by rw [decide_eq_true_eq]; omega
    have f2 : decide (x.size < 9) = true := by rw [decide_eq_true_eq]; omega
    have f3 : decide ((9 : Int) ≤ (x.size : Int)) = false := by rw [decide_eq_false_iff_not]; omega
    have f4 : min (9 : Int) (x.size : Int) = (x.size : Int) := by omega
    go_enter Tryd.func35, Tryd.ntmps35
    go_upto_region 3 with fail
    go_loopg [5, 10] (x.size) (fun gm v5 v10 wr => ∃ (i n : Nat), v5 = .int .u64 (n : Int) ∧ v10 = .int .i64 (i : Int) ∧ Hid (Below w.heap.size w wr) ∧ Hid (i ≤ x.size ∧ gm = x.size - i) ∧ Hid (n < 2 ^ (7 * i)) ∧ Hid (cr 0 0 x.data.toList = cr i n (x.data.toList.drop i)))
    case atStart => exact ⟨0, 0, rfl, rfl, Below.refl _ _, ⟨Nat.zero_le _, rfl⟩, by show (0 : Nat) < 1; omega, by show _ = _; rw [List.drop_zero]⟩
    case round =>
      obtain ⟨i, n, rfl, rfl, HBW, HI, HN, HC⟩ := hrel
      have k0 : wr.cell? ⟨0, 0, none⟩ = some (.iface 111 (.pointer (some sa))) := below_cell HBW.out HSN.out
      by_cases hi : i < x.size
      · have hix : i < x.size := by omega
        have hi9 : i < 9 := by omega
        have HDR : Hid (x.data.toList.drop i = x[i] :: x.data.toList.drop (i + 1)) := by
          show _ = _
          rw [List.drop_eq_getElem_cons (by simpa using hix)]
          rfl
        obtain ⟨b, hb⟩ : ∃ b, x[i] = b := ⟨_, rfl⟩
        rw [hb] at HDR
        have HCB : Hid (cr 0 0 x.data.toList = cr i n (b :: x.data.toList.drop (i + 1))) := by show _ = _; rw [HC.out, HDR.out]
        have hbl : b.toNat < 256 := UInt8.toNat_lt b
        obtain ⟨c, hc⟩ : ∃ c, b.toNat = c := ⟨_, rfl⟩
        have HBC : Hid (b.toNat = c) := hc
        rw [hc] at hbl
        have e1 : decide ((i : Int) < (x.size : Int)) = true := by rw [decide_eq_true_eq]; omega
        have e2 : decide (i < x.size) = true := by rw [decide_eq_true_eq]; omega
        have e3 : (i : Int) < (x.size : Int) := by omega
        have hwr := w64n i (by omega)
        have hw7 : IntKind.i64.wrap ((i : Int) * 7) = ((7 * i : Nat) : Int) := by rw [IntKind.wrap_i64]; omega
        have HIL : Hid (i < x.size ∧ i < 9) := ⟨hi, hi9⟩
        have HSL : Hid (n + c % 128 * 2 ^ (7 * i) < 2 ^ (7 * (i + 1))) := sum_lt c i n HN.out
        have hsr := fun W => (shl_run c i hi9 W).1
        have hM63 := (shl_run c i hi9 w).2
        have HORP : Hid (n ||| c % 128 * 2 ^ (7 * i) = n + c % 128 * 2 ^ (7 * i)) := or_add n (c % 128) i HN.out
        have HN63 : Hid (n < 2 ^ 63) := Nat.lt_of_lt_of_le HN.out (pow7 i hi9)
        have HM1 : Hid (c < 128 → c % 128 = c) := fun h => Nat.mod_eq_of_lt h
        have HCR : Hid (c < 128 → c * 2 ^ (7 * i) = c % 128 * 2 ^ (7 * i)) := fun h => by rw [Nat.mod_eq_of_lt h]
        obtain ⟨M, hM⟩ : ∃ M, c % 128 * 2 ^ (7 * i) = M := ⟨_, rfl⟩
        have HMM : Hid (c % 128 * 2 ^ (7 * i) = M) := hM
        rw [hM] at HSL hM63 HORP HCR
        have hsh : ∀ W : World, Sem.run Tryd.prog (Op.shift BinOp.shl IntKind.u64 ((c : Int) % 128) IntKind.i64 (7 * (i : Int))) W = Result.ok (Value.int .u64 (M : Int)) W := fun W => by have h9 := hsr W; rw [hM] at h9; exact h9
        have hsw : IntKind.u64.wrap ((c : Int) % 128 * 2 ^ (7 * i)) = (M : Int) := by
          have h4 : ((c % 128 * 2 ^ (7 * i) : Nat) : Int) = (c : Int) % 128 * 2 ^ (7 * i) := by simp
          rw [← h4, hM]
          exact u64_wrap' _ (by omega)
        have hor : bits .or .u64 (n : Int) (M : Int) = ((n + M : Nat) : Int) := by
          have h1 := HN63.out
          rw [u64_or n M (Nat.lt_trans h1 (by decide)) (Nat.lt_trans hM63 (by decide)), HORP.out]
        obtain ⟨n2, hn2⟩ : ∃ n2, n + M = n2 := ⟨_, rfl⟩
        have HN2 : Hid (n + M = n2) := hn2
        rw [hn2] at hor HSL
        clear hi hi9 hsr hM63 hn2 hM
        by_cases h128 : 128 ≤ c
        · have f128 : decide ((128 : Int) ≤ (c : Int)) = true := by rw [decide_eq_true_eq]; omega
          have f128' : decide (128 ≤ c) = true := by rw [decide_eq_true_eq]; omega
          have HC2 : Hid (cr 0 0 x.data.toList = cr (i + 1) n2 (x.data.toList.drop (i + 1))) := by
            show _ = _
            rw [HCB.out, cr_more HIL.out.2 (by rw [HBC.out]; exact h128), HBC.out, HMM.out, HN2.out]
          clear h128
          go_wp2_with fail
          go_roundg (x.size - (i + 1))
          case measure => have := HI.out; have := HIL.out; omega
          case rel => exact ⟨i + 1, n2, rfl, by first | rfl | (rw [show (i : Int) + 1 = ((i + 1 : Nat) : Int) by omega]), HBW, ⟨HIL.out.1, rfl⟩, HSL, HC2⟩
        · have f128 : decide ((128 : Int) ≤ (c : Int)) = false := by rw [decide_eq_false_iff_not]; omega
          have f128' : decide (128 ≤ c) = false := by rw [decide_eq_false_iff_not]; omega
          by_cases hz : c = 0 ∧ 0 < i
          · have HZZ : Hid (c = 0 ∧ 0 < i) := hz
            have hz2 := HZZ.out.2
            have g1 : ((c : Int) == 0) = true := by rw [HZZ.out.1]; rfl
            have g2 : decide ((0 : Int) < (i : Int)) = true := by rw [decide_eq_true_eq]; omega
            have g2' : decide (0 < i) = true := by rw [decide_eq_true_eq]; omega
            have HNO : Hid (cr 0 0 x.data.toList = none) := by show _ = _; rw [HCB.out, cr_zero (by rw [HBC.out]; exact HZZ.out.1) hz2]
            clear h128 hz hz2
            go_upto_region 8 with fail
            obtain ⟨WD, hWD⟩ : ∃ WD, wr.drew = WD := ⟨_, rfl⟩
            have BD : Hid (Below wr.heap.size wr WD) := by rw [← hWD]; exact Below.drew (Below.refl _ _)
            have kd : WD.cell? ⟨0, 0, none⟩ = some (.iface 111 (.pointer (some sa))) := below_cell BD.out k0
            refine wp_region_noPanic ?_
            refine wp_region_held_drew (S := fun W => W.cell? ⟨0, 0, none⟩ = some (.iface 111 (.pointer (some sa)))) (by kernel_rfl) (by rw [hWD]; exact kd) (fun hHeld => ?_)
            rw [hWD] at hHeld ⊢
            clear hWD
            refine wpAnyH_take (i := 0) (oi := { dst := _, op := _, type := _, pos := _, after := _, guard := _ }) (v := ?_) rfl (by kernel_rfl) (by kernel_rfl) (by kernel_rfl) (fun _ _ _ h => h) (Or.inl ⟨by rfl, ?_⟩) (by assumption) ?_
            rotate_left
            · intro W hSw
              (try dsimp only at hSw)
              go_simp
              (try with_reducible rfl)
            try simp only [Act.put, List.setIfInBounds_toArray, List.set_cons_zero, List.set_cons_succ]
            refine wpAnyH_take (i := 1) (oi := { dst := _, op := _, type := _, pos := _, after := _, guard := _ }) (v := ?_) rfl (by kernel_rfl) (by kernel_rfl) (by kernel_rfl) (fun _ _ _ h => h) (Or.inl ⟨by rfl, ?_⟩) (by assumption) ?_
            rotate_left
            · intro W hSw
              (try dsimp only at hSw)
              go_simp
              (try with_reducible rfl)
            try simp only [Act.put, List.setIfInBounds_toArray, List.set_cons_zero, List.set_cons_succ]
            refine wpAnyH_take (i := 2) (oi := { dst := _, op := _, type := _, pos := _, after := _, guard := _ }) (v := ?_) rfl (by kernel_rfl) (by kernel_rfl) (by kernel_rfl) (fun _ _ _ h => h) (Or.inl ⟨by rfl, ?_⟩) (by assumption) ?_
            rotate_left
            · intro W hSw
              (try dsimp only at hSw)
              go_simp
              (try with_reducible rfl)
            try simp only [Act.put, List.setIfInBounds_toArray, List.set_cons_zero, List.set_cons_succ]
            refine wpAnyH_take (i := 3) (oi := { dst := _, op := _, type := _, pos := _, after := _, guard := _ }) (v := ?_) rfl (by kernel_rfl) (by kernel_rfl) (by kernel_rfl) (fun _ _ _ h => h) (Or.inl ⟨by rfl, ?_⟩) (by assumption) ?_
            rotate_left
            · intro W hSw
              (try dsimp only at hSw)
              go_simp
              (try with_reducible rfl)
            try simp only [Act.put, List.setIfInBounds_toArray, List.set_cons_zero, List.set_cons_succ]
            refine wpAnyH_done (by kernel_rfl) ?_ _
            refine NoPanic.normal ?_
            clear hHeld
            go_wp2_with fail
            exact bodyPost_ret (v := .tuple #[.int .u64 0, .int .i64 0, .iface 111 (.pointer (some sa))]) (by simp [results, Tryd.results35, go_sem]) rfl ⟨by rw [← HR.out, HNO.out]; rfl, below_trans HBW.out BD.out⟩
          · have HYE : Hid (cr 0 0 x.data.toList = some (n2, i + 1)) := by
              show _ = _
              rw [HCB.out, cr_last HIL.out.2 (by rw [HBC.out]; omega) (by rw [HBC.out]; exact hz), HBC.out, HCR.out (by omega), HN2.out]
            by_cases hc0 : c = 0
            · have g1 : ((c : Int) == 0) = true := by rw [hc0]; rfl
              have g2 : decide ((0 : Int) < (i : Int)) = false := by rw [decide_eq_false_iff_not]; omega
              have g2' : decide (0 < i) = false := by rw [decide_eq_false_iff_not]; omega
              clear h128 hz hc0
              go_wp2_with fail
              exact bodyPost_ret (v := .tuple #[.int .u64 (n2 : Int), .int .i64 ((i + 1 : Nat) : Int), .nilIface]) (by simp [results, Tryd.results35, go_sem]) rfl ⟨by rw [← HR.out, HYE.out]; rfl, HBW.out⟩
            · have g1 : ((c : Int) == 0) = false := by rw [beq_eq_false_iff_ne]; omega
              clear h128 hz hc0
              go_wp2_with fail
              exact bodyPost_ret (v := .tuple #[.int .u64 (n2 : Int), .int .i64 ((i + 1 : Nat) : Int), .nilIface]) (by simp [results, Tryd.results35, go_sem]) rfl ⟨by rw [← HR.out, HYE.out]; rfl, HBW.out⟩
      · have e1 : decide ((i : Int) < (x.size : Int)) = false := by rw [decide_eq_false_iff_not]; omega
        have e2 : decide (i < x.size) = false := by rw [decide_eq_false_iff_not]; omega
        have HNO : Hid (cr 0 0 x.data.toList = none) := by
          have := HI.out
          show _ = _
          rw [HC.out]
          rw [List.drop_of_length_le (by rw [ba_len]; omega)]
          exact cr_nil i n
        clear hi
        go_upto_region 11 with fail
        obtain ⟨WD, hWD⟩ : ∃ WD, wr.drew = WD := ⟨_, rfl⟩
        have BD : Hid (Below wr.heap.size wr WD) := by rw [← hWD]; exact Below.drew (Below.refl _ _)
        have kd : WD.cell? ⟨0, 0, none⟩ = some (.iface 111 (.pointer (some sa))) := below_cell BD.out k0
        refine wp_region_noPanic ?_
        refine wp_region_held_drew (S := fun W => W.cell? ⟨0, 0, none⟩ = some (.iface 111 (.pointer (some sa)))) (by kernel_rfl) (by rw [hWD]; exact kd) (fun hHeld => ?_)
        rw [hWD] at hHeld ⊢
        clear hWD
        refine wpAnyH_take (i := 0) (oi := { dst := _, op := _, type := _, pos := _, after := _, guard := _ }) (v := ?_) rfl (by kernel_rfl) (by kernel_rfl) (by kernel_rfl) (fun _ _ _ h => h) (Or.inl ⟨by rfl, ?_⟩) (by assumption) ?_
        rotate_left
        · intro W hSw
          (try dsimp only at hSw)
          go_simp
          (try with_reducible rfl)
        try simp only [Act.put, List.setIfInBounds_toArray, List.set_cons_zero, List.set_cons_succ]
        refine wpAnyH_take (i := 1) (oi := { dst := _, op := _, type := _, pos := _, after := _, guard := _ }) (v := ?_) rfl (by kernel_rfl) (by kernel_rfl) (by kernel_rfl) (fun _ _ _ h => h) (Or.inl ⟨by rfl, ?_⟩) (by assumption) ?_
        rotate_left
        · intro W hSw
          (try dsimp only at hSw)
          go_simp
          (try with_reducible rfl)
        try simp only [Act.put, List.setIfInBounds_toArray, List.set_cons_zero, List.set_cons_succ]
        refine wpAnyH_take (i := 2) (oi := { dst := _, op := _, type := _, pos := _, after := _, guard := _ }) (v := ?_) rfl (by kernel_rfl) (by kernel_rfl) (by kernel_rfl) (fun _ _ _ h => h) (Or.inl ⟨by rfl, ?_⟩) (by assumption) ?_
        rotate_left
        · intro W hSw
          (try dsimp only at hSw)
          go_simp
          (try with_reducible rfl)
        try simp only [Act.put, List.setIfInBounds_toArray, List.set_cons_zero, List.set_cons_succ]
        refine wpAnyH_take (i := 3) (oi := { dst := _, op := _, type := _, pos := _, after := _, guard := _ }) (v := ?_) rfl (by kernel_rfl) (by kernel_rfl) (by kernel_rfl) (fun _ _ _ h => h) (Or.inl ⟨by rfl, ?_⟩) (by assumption) ?_
        rotate_left
        · intro W hSw
          (try dsimp only at hSw)
          go_simp
          (try with_reducible rfl)
        try simp only [Act.put, List.setIfInBounds_toArray, List.set_cons_zero, List.set_cons_succ]
        refine wpAnyH_done (by kernel_rfl) ?_ _
        refine NoPanic.normal ?_
        clear hHeld
        go_wp2_with fail
        exact bodyPost_ret (v := .tuple #[.int .u64 0, .int .i64 0, .iface 111 (.pointer (some sa))]) (by simp [results, Tryd.results35, go_sem]) rfl ⟨by rw [← HR.out, HNO.out]; rfl, below_trans HBW.out BD.out⟩
end Go.Proofs.YtgdmoeocgflhgaaDoor
