import Derived.Test.YtkjljnneghnpiaaBase
namespace Go.Proofs.Ytkjljnneghnpiaa.Rg
open Go.RowKit
theorem info30 : (Try.prog.info? 38).map (fun i => (i.zero, i.size, i.bytes)) = some (some (.int .u64 0), 1, 8) := by kernel_rfl
theorem agg_idx (x0 x1 x2 x3 : Value) (k : Nat) (v : Value) (hk : k < 4) (hv : [x0, x1, x2, x3][k]? = some v) (W : World) : (Instr.index 40 (.agg #[x0, x1, x2, x3]) (.int .i64 (k : Int))).run Try.prog W = .ok v W := by
  obtain ⟨i0, hi, hz0, hz1, hz2⟩ := info_parts info30
  have h : (0 : Int) ≤ (k : Int) ∧ (k : Int) < ((4 : Nat) : Int) := by omega
  simp [Instr.index, run_underlying Try.underlying40, asIntOf, h, sizeOf, typeInfo, hi, hz1, go_sem, part]
  rw [if_pos hk, hv]
  rfl
theorem agg4 (x0 x1 x2 x3 : Value) : (∀ W : World, (Instr.index 40 (.agg #[x0, x1, x2, x3]) (.int .i64 0)).run Try.prog W = .ok x0 W) ∧ (∀ W : World, (Instr.index 40 (.agg #[x0, x1, x2, x3]) (.int .i64 1)).run Try.prog W = .ok x1 W) ∧ (∀ W : World, (Instr.index 40 (.agg #[x0, x1, x2, x3]) (.int .i64 2)).run Try.prog W = .ok x2 W) ∧ (∀ W : World, (Instr.index 40 (.agg #[x0, x1, x2, x3]) (.int .i64 3)).run Try.prog W = .ok x3 W) :=
  ⟨fun W => agg_idx x0 x1 x2 x3 0 x0 (by omega) rfl W, fun W => agg_idx x0 x1 x2 x3 1 x1 (by omega) rfl W, fun W => agg_idx x0 x1 x2 x3 2 x2 (by omega) rfl W, fun W => agg_idx x0 x1 x2 x3 3 x3 (by omega) rfl W⟩
set_option maxRecDepth 100000 in
set_option maxHeartbeats 1000000 in
theorem rest_any (m : Nat → Bool) (w : World) : Calls Try.prog 72 #[CV m] w fun e w' => e = .returned (CV fun b => !m b) ∧ Below w.heap.size w w' := by
  go_enter Try.func72, Try.ntmps72
  go_wp2_with fail
  go_loopg [6] 4 (fun g v wr => ∃ k : Nat, v = .int .i64 (k : Int) ∧ k ≤ 4 ∧ g = 4 - k ∧ BoxC wr w.heap.size (fun b => if b < 64 * k then !m b else m b) ∧ BoxC wr (w.heap.size + 1) (fun _ => false) ∧ Below w.heap.size w wr)
  case atStart =>
    refine ⟨0, rfl, by omega, rfl, ?_, ?_, ?_⟩
    · have h := (BoxC.new w m 40).up (.cells #[.int .u64 0, .int .u64 0, .int .u64 0, .int .u64 0] 40)
      simpa using h
    · have h := BoxC.new (w.alloc (.cells #[.int .u64 (wd m 0 : Nat), .int .u64 (wd m 1 : Nat), .int .u64 (wd m 2 : Nat), .int .u64 (wd m 3 : Nat)] 40)) (fun _ => false) 40
      simp only [wd_none] at h
      rw [World.size_alloc] at h
      exact h
    · exact below_trans (bel_up _ _) (bel_up _ _)
  case round =>
    obtain ⟨k, rfl, hk, hg, hx, hr, hbel⟩ := hrel
    have HG : Hid _ := hg
    have HX : Hid _ := hx
    have HR : Hid _ := hr
    have HB : Hid _ := hbel
    clear hg hbel
    have put : ∀ K, K < 4 → BoxC wr w.heap.size (fun b => if b < 64 * K then !m b else m b) → BoxC (wr.setCell ⟨w.heap.size, K, none⟩ (.int .u64 (bits .xor .u64 18446744073709551615 (wd m K : Nat)))) w.heap.size (fun b => if b < 64 * (K + 1) then !m b else m b) := by
      intro K hK hX
      rw [u64_not]
      have e : wd (fun k => !m k) K = wd (fun b => if b < 64 * (K + 1) then !m b else m b) K := wd_congr _ _ _ (fun j hj => by rw [if_pos (by omega)])
      rw [e]
      refine hX.put K hK (fun i hi => wd_congr _ _ _ (fun j hj => ?_))
      have : 64 * i + j < 64 * (K + 1) ↔ 64 * i + j < 64 * K := by omega
      simp only [this]
    have PUT : Hid _ := put
    clear put
    rcases (by omega : k = 0 ∨ k = 1 ∨ k = 2 ∨ k = 3 ∨ k = 4) with rfl | rfl | rfl | rfl | rfl
    · obtain ⟨a0, a1, a2, a3, af⟩ := hx
      obtain ⟨q0, q1, q2, q3⟩ := agg4 (.int .u64 (wd m 0 : Nat)) (.int .u64 (wd m 1 : Nat)) (.int .u64 (wd m 2 : Nat)) (.int .u64 (wd m 3 : Nat))
      clear hr hk
      go_wp2_with fail
      go_roundg 3
      case measure => have := HG.out; omega
      case rel => exact ⟨1, rfl, by omega, rfl, PUT.out 0 (by omega) HX.out, HR.out.aside _ _ (by simp), HB.out.setCell (Nat.le_refl _) _⟩
    · obtain ⟨a0, a1, a2, a3, af⟩ := hx
      obtain ⟨q0, q1, q2, q3⟩ := agg4 (.int .u64 (wd m 0 : Nat)) (.int .u64 (wd m 1 : Nat)) (.int .u64 (wd m 2 : Nat)) (.int .u64 (wd m 3 : Nat))
      clear hr hk
      go_wp2_with fail
      go_roundg 2
      case measure => have := HG.out; omega
      case rel => exact ⟨2, rfl, by omega, rfl, PUT.out 1 (by omega) HX.out, HR.out.aside _ _ (by simp), HB.out.setCell (Nat.le_refl _) _⟩
    · obtain ⟨a0, a1, a2, a3, af⟩ := hx
      obtain ⟨q0, q1, q2, q3⟩ := agg4 (.int .u64 (wd m 0 : Nat)) (.int .u64 (wd m 1 : Nat)) (.int .u64 (wd m 2 : Nat)) (.int .u64 (wd m 3 : Nat))
      clear hr hk
      go_wp2_with fail
      go_roundg 1
      case measure => have := HG.out; omega
      case rel => exact ⟨3, rfl, by omega, rfl, PUT.out 2 (by omega) HX.out, HR.out.aside _ _ (by simp), HB.out.setCell (Nat.le_refl _) _⟩
    · obtain ⟨a0, a1, a2, a3, af⟩ := hx
      obtain ⟨q0, q1, q2, q3⟩ := agg4 (.int .u64 (wd m 0 : Nat)) (.int .u64 (wd m 1 : Nat)) (.int .u64 (wd m 2 : Nat)) (.int .u64 (wd m 3 : Nat))
      clear hr hk
      go_wp2_with fail
      go_roundg 0
      case measure => have := HG.out; omega
      case rel => exact ⟨4, rfl, by omega, rfl, PUT.out 3 (by omega) HX.out, HR.out.aside _ _ (by simp), HB.out.setCell (Nat.le_refl _) _⟩
    · obtain ⟨a0, a1, a2, a3, af⟩ := hx
      obtain ⟨b0, b1, b2, b3, bf⟩ := hr
      go_wp2_with fail
      (try simp only [Exit.inBlock, Exit.then])
      have e : ∀ i, i < 4 → wd (fun b => if b < 256 then !m b else m b) i = wd (fun b => !m b) i := fun i hi => wd_congr _ _ _ (fun j hj => by rw [if_pos (by omega)])
      simp only [e 0 (by omega), e 1 (by omega), e 2 (by omega), e 3 (by omega)]
      refine bodyPost_ret (v := CV fun b => !m b) ?_ rfl ⟨rfl, ?_⟩
      · rw [results_cell1 rfl]; go_simp
      · exact bel_set4 HB.out (by omega) _ _ _ _

set_option maxHeartbeats 1000000 in
theorem span_any (lo hi : Nat) (hl : lo < 256) (hh : hi < 256) (w : World) : Calls Try.prog 69 #[.int .u8 (lo : Int), .int .u8 (hi : Int)] w fun e w' => e = .returned (CV fun b => decide (lo ≤ b) && decide (b ≤ hi)) ∧ Below w.heap.size w w' := by
  have HH : Hid _ := hh
  go_enter Try.func69, Try.ntmps69
  go_wp2_with fail
  go_loopg [6] (hi + 1 - lo) (fun g v wr => ∃ j : Nat, v = .int .i64 (j : Int) ∧ lo ≤ j ∧ (j ≤ hi + 1 ∨ j = lo) ∧ g = hi + 1 - j ∧ BoxC wr (w.heap.size + 1) (fun b => decide (lo ≤ b) && decide (b < j)) ∧ BoxC wr w.heap.size (fun _ => false) ∧ Below w.heap.size w wr)
  case atStart =>
    refine ⟨lo, rfl, Nat.le_refl _, .inr rfl, rfl, ?_, ?_, ?_⟩
    · have h := BoxC.new (w.alloc (.cells #[.int .u64 0, .int .u64 0, .int .u64 0, .int .u64 0] 40)) (fun _ => false) 40
      simp only [wd_none] at h
      rw [World.size_alloc] at h
      have e : (fun b => decide (lo ≤ b) && decide (b < lo)) = fun _ => false := by
        funext b
        by_cases h : lo ≤ b
        · have : ¬ b < lo := by omega
          simp [this]
        · simp [h]
      rw [e]
      exact h
    · have h := (BoxC.new w (fun _ => false) 40).up (.cells #[.int .u64 0, .int .u64 0, .int .u64 0, .int .u64 0] 40)
      simp only [wd_none] at h
      exact h
    · exact below_trans (bel_up _ _) (bel_up _ _)
  case round =>
    obtain ⟨j, rfl, hlj, hjh, hg, hx, hr, hbel⟩ := hrel
    have HG : Hid _ := hg
    have HX : Hid _ := hx
    have HR : Hid _ := hr
    have HB : Hid _ := hbel
    have HL : Hid _ := hlj
    have HJ : Hid _ := hjh
    clear hg hbel hlj hjh hl hh
    by_cases hj : j ≤ hi
    · have hjI : (j : Int) ≤ (hi : Int) := by omega
      have hq : j / 64 < 4 := by have := HH.out; omega
      have hc := hx.get (j / 64) hq
      have hf := hx.fr (j / 64)
      have h63 := i64_and63 j (by have := HH.out; omega)
      have hwh : wrap64 (hi : Int) = (hi : Int) := w64n _ (by have := HH.out; omega)
      clear hx hr
      go_wp2_with fail
      go_region
      go_wp2_with fail
      go_roundg (hi + 1 - (j + 1))
      case measure =>
        have := HG.out
        omega
      case rel =>
        have hl := HL.out
        refine ⟨j + 1, by simp, by omega, by omega, rfl, ?_, ?_, ?_⟩
        · have e : (fun b => (decide (lo ≤ b) && decide (b < j + 1))) = fun k => ((decide (lo ≤ k) && decide (k < j))) || k == j := by
            funext b
            by_cases h : b = j
            · subst h
              simp [hl]
            · have : b < j + 1 ↔ b < j := by omega
              simp [this, h]
          rw [u64_orw, e]
          refine BoxC.drew (HX.out.put (j / 64) hq (fun i hi => ?_))
          exact (wd_or_other _ j i hi).symm
        · exact (HR.out.aside _ _ (by simp)).drew
        · exact Below.drew (HB.out.setCell (by dsimp only; omega) _)
    · have hjI : ¬ (j : Int) ≤ (hi : Int) := by omega
      obtain ⟨a0, a1, a2, a3, af⟩ := hx
      obtain ⟨b0, b1, b2, b3, bf⟩ := hr
      have hwh : wrap64 (hi : Int) = (hi : Int) := w64n _ (by have := HH.out; omega)
      go_wp2_with fail
      (try simp only [Exit.inBlock, Exit.then])
      have e : (fun b => decide (lo ≤ b) && decide (b ≤ hi)) = fun b => decide (lo ≤ b) && decide (b < j) := by
        funext b
        have h1 := HL.out
        have h2 := HJ.out
        rcases h2 with h2 | h2
        · have : b ≤ hi ↔ b < j := by omega
          simp [this]
        · by_cases h : lo ≤ b
          · have e1 : ¬ b ≤ hi := by omega
            have e2 : ¬ b < j := by omega
            simp [e1, e2]
          · simp [h]
      rw [e]
      refine bodyPost_ret (v := CV fun b => decide (lo ≤ b) && decide (b < j)) ?_ rfl ⟨rfl, ?_⟩
      · rw [results_cell1 rfl]; go_simp
      · exact bel_set4 HB.out (by omega) _ _ _ _

theorem dot_any (w : World) : Calls Try.prog 66 #[] w fun e w' => e = .returned (CV fun b => !(b == 10)) ∧ Below w.heap.size w w' := by
  go_enter Try.func66, Try.ntmps66
  go_wp2_with fail
  refine (span_any 10 10 (by omega) (by omega) _).mono ?_
  rintro e w1 ⟨rfl, hb1⟩
  go_wp2_with fail
  refine (rest_any _ _).mono ?_
  rintro e w2 ⟨rfl, hb2⟩
  have e : (fun b => !(decide (10 ≤ b) && decide (b ≤ 10))) = fun b => !(b == 10) := by
    funext b
    by_cases h : b = 10
    · subst h; rfl
    · have : ¬ (10 ≤ b ∧ b ≤ 10) := by omega
      have h1 : (b == 10) = false := by simpa using h
      rw [h1]
      have h2 : (decide (10 ≤ b) && decide (b ≤ 10)) = false := by simpa using this
      rw [h2]
  rw [e]
  have hR := ((BoxC.new w (fun _ => false) 40).mono (by simp only [wd_none]; exact hb1)).mono hb2
  have HB : Hid _ := below_trans (below_trans (bel_up _ _) hb1) hb2
  clear hb1 hb2 e
  obtain ⟨b0, b1, b2, b3, bf⟩ := hR
  go_wp2_with fail
  refine bodyPost_ret (v := CV fun b => !(b == 10)) ?_ rfl ⟨rfl, ?_⟩
  · rw [results_cell1 rfl]; go_simp
  · exact bel_set4 HB.out (Nat.le_refl _) _ _ _ _
end Go.Proofs.Ytkjljnneghnpiaa.Rg
namespace Go.Proofs.Ytkjljnneghnpiaa.Rg
open Go.RowKit
def hx : List UInt8 := [48, 49, 50, 51, 52, 53, 54, 55, 56, 57, 97, 98, 99, 100, 101, 102]
def sgn : List UInt8 := [92, 47, 124, 42, 43, 63, 40, 41, 91, 93, 46]
def wth : List UInt8 := [92, 47, 91, 93, 45, 94]
/-- A node. -/
structure Nd where
  op : Int
  m : Nat → Bool
  a : Int
  b : Int
/-- Is the set without a byte? -/
def bl (m : Nat → Bool) : Bool := wd m 0 == 0 && wd m 1 == 0 && wd m 2 == 0 && wd m 3 == 0
/-- How many nodes stand in a node, given those of the nodes ahead. -/
def ext (n : Nd) (z : List Nat) : Option Nat :=
  if n.op = 1 ∨ n.op = 2 then (if bl n.m = decide (n.op = 2) ∧ n.a = -1 ∧ n.b = -1 then some 1 else none)
  else if n.op = 5 ∨ n.op = 6 ∨ n.op = 7 then (if bl n.m = true ∧ 1 ≤ z.length ∧ n.a = (z.length : Int) - 1 ∧ n.b = -1 then some (z.getD (z.length - 1) 0 + 1) else none)
  else if n.op = 3 ∨ n.op = 4 then (if bl n.m = true ∧ 2 ≤ z.length ∧ n.b = (z.length : Int) - 1 ∧ z.getD (z.length - 1) 0 + 1 ≤ z.length ∧ n.a = (z.length : Int) - 1 - (z.getD (z.length - 1) 0 : Nat) then some (z.getD (z.length - 1 - z.getD (z.length - 1) 0) 0 + z.getD (z.length - 1) 0 + 1) else none)
  else none
def szs : List Nd → List Nat → Option (List Nat)
  | [], z => some z
  | n :: l, z => (ext n z).bind fun s => szs l (z ++ [s])
theorem szs_app (l l' : List Nd) (z : List Nat) : szs (l ++ l') z = (szs l z).bind fun z' => szs l' z' := by
  induction l generalizing z with
  | nil => rfl
  | cons n l ih =>
    simp only [List.cons_append, szs]
    cases ext n z with
    | none => rfl
    | some s => simp only [Option.bind_some]; exact ih _
/-- A list of sizes: each node has at least itself, and no more than there are. -/
def Zok (z : List Nat) : Prop := ∀ j, j < z.length → 1 ≤ z.getD j 0 ∧ z.getD j 0 ≤ j + 1
theorem ext_ok {n : Nd} {z : List Nat} {s : Nat} (h : ext n z = some s) (hz : Zok z) : 1 ≤ s ∧ s ≤ z.length + 1 := by
  unfold ext at h
  split at h
  · split at h
    · cases h; omega
    · cases h
  · split at h
    · split at h
      · rename_i h1
        cases h
        have := hz (z.length - 1) (by omega)
        omega
      · cases h
    · split at h
      · split at h
        · rename_i h1
          cases h
          have h2 := hz (z.length - 1) (by omega)
          have h3 := hz (z.length - 1 - z.getD (z.length - 1) 0) (by omega)
          omega
        · cases h
      · cases h
theorem Zok.snoc {z : List Nat} {s : Nat} (hz : Zok z) (h : 1 ≤ s ∧ s ≤ z.length + 1) : Zok (z ++ [s]) := by
  intro j hj
  simp only [List.length_append, List.length_cons, List.length_nil] at hj
  by_cases e : j < z.length
  · have := hz j e
    rw [List.getD_eq_getElem?_getD, List.getElem?_append_left e, ← List.getD_eq_getElem?_getD]
    exact this
  · obtain rfl : j = z.length := by omega
    simp
    exact h
theorem szs_ok {l : List Nd} : ∀ {z z' : List Nat}, szs l z = some z' → Zok z → Zok z' ∧ z'.length = z.length + l.length := by
  induction l with
  | nil => intro z z' h hz; cases h; exact ⟨hz, by simp⟩
  | cons n l ih =>
    intro z z' h hz
    simp only [szs, Option.bind_eq_some_iff] at h
    obtain ⟨s, h1, h2⟩ := h
    have h3 := ih h2 (hz.snoc (ext_ok h1 hz))
    refine ⟨h3.1, ?_⟩
    rw [h3.2]
    simp
    omega
theorem zok_nil : Zok [] := fun j hj => by simp at hj
/-- Is it a well shaped tree? -/
def Sh (l : List Nd) : Bool := match szs l [] with
  | none => false
  | some z => decide (l.length ≠ 0) && decide (l.length ≤ 128) && decide (z.getD (l.length - 1) 0 = l.length)

end Go.Proofs.Ytkjljnneghnpiaa.Rg
