import Derived.Test.YtkjljnneghnpiaaProg
import Derived.Test.YtkjljnneghnpiaaPure
import Derived.WalkKit
import Derived.WalkSpells
import Derived.WalkLawsBesides
import Derived.Deep.LoopGhost
import Derived.Deep.RegionWith
import Derived.Deep.RegionHeld3
import Derived.Deep.Cut
import Derived.Deep.CutRange
import Derived.Deep.CutBlock
import Derived.Deep.QuietTactic
import Derived.BigQuiet
import Derived.WalkSmall
import Derived.Laws.ResultCell
import Derived.Laws.BitsLemmas
namespace Go.Proofs.Ytkjljnneghnpiaa
open Go.RowKit

theorem cell_lt {w : World} {a : Addr} {v : Value} (h : w.cell? a = some v) : a.block < w.heap.size := by
  rcases Nat.lt_or_ge a.block w.heap.size with h' | h'
  · exact h'
  · unfold World.cell? at h
    simp [Array.getElem?_eq_none h'] at h
theorem below_cell {w w' : World} (hb : Below w.heap.size w w') {a : Addr} {v : Value} (h : w.cell? a = some v) : w'.cell? a = some v := by
  rw [hb.cell (p := a) (cell_lt h)]; exact h
theorem below_trans {a b c : World} (h : Below a.heap.size a b) (k : Below b.heap.size b c) : Below a.heap.size a c :=
  h.trans (k.mono h.size)
theorem lt_of_heap {w : World} {b : Nat} {o : Obj} (h : w.heap[b]? = some o) : b < w.heap.size := (Array.getElem?_eq_some_iff.1 h).1
theorem ret_int {k : IntKind} {a b : Int} (h : a = b) : Ending.returned (.int k a) = .returned (.int k b) := by rw [h]
theorem ret_bool {a b : Bool} (h : a = b) : Ending.returned (.bool a) = .returned (.bool b) := by rw [h]
theorem get_bang (s : ByteArray) (i : Nat) (hi : i < s.size) : s.get! i = s[i] := by
  unfold ByteArray.get!
  show s.data[i]! = s.data[i]
  exact getElem!_pos s.data i hi
theorem idx_fact (s : ByteArray) (i : Nat) (hi : i < s.size) : ∀ W : World, (Instr.index 9 (.string s) (.int .i64 (i : Int))).run Try.prog W = .ok (.int .u8 ((s.get! i).toNat : Int)) W := by
  intro W
  rw [run_index_string W 9 s .i64 _ Try.underlying9, dif_pos ⟨by omega, by omega⟩]
  have e : ((i : Int)).toNat = i := by omega
  simp only [e, get_bang s i hi]
theorem results_cell1 {fn : Func} {p : Tmp} {ty : TypeId} (h : fn.results = #[.cell p ty]) (tmps : Array Value) (P : Program) (w : World) :
    (results fn tmps).run P w = ((asAddr (tmps.getD p undef)).run P w).andThen fun a w₁ => (loadVar ty a).run P w₁ := by
  simp only [results, h]
  simp [Sem.run_bind, Result.andThen]
theorem bel_up (w : World) (o : Obj) : Below w.heap.size w (w.alloc o) := (Below.refl _ _).alloc (Nat.le_refl _) _
theorem cell_up {w : World} {a : Addr} {v : Value} (o : Obj) (h : w.cell? a = some v) : (w.alloc o).cell? a = some v := below_cell (bel_up w o) h
theorem fr_up {w W : World} {t : TypeId} {vs : Array Value} (hW : Below (w.alloc (.cells vs t)).heap.size (w.alloc (.cells vs t)) W) (o : Nat) : W.frozen? ⟨w.heap.size, o, none⟩ = false := by
  have hs : (⟨w.heap.size, o, none⟩ : Addr).block < (w.alloc (.cells vs t)).heap.size := by simp
  rw [hW.frozen (p := ⟨w.heap.size, o, none⟩) hs]
  go_simp
theorem u64_nat (a b : Nat) (ha : a < 18446744073709551616) (hb : b < 18446744073709551616) :
    bits .and .u64 a b = ((a &&& b : Nat) : Int) ∧ bits .or .u64 a b = ((a ||| b : Nat) : Int) :=
  bits_nat .u64 64 (by decide) (fun n h0 h1 => by simp [IntKind.wrap, IntKind.bits, IntKind.signed]; omega) a b ha hb

/-- A class's value. -/
abbrev CV (m : Nat → Bool) : Value := .agg #[.int .u64 (wd m 0 : Nat), .int .u64 (wd m 1 : Nat), .int .u64 (wd m 2 : Nat), .int .u64 (wd m 3 : Nat)]

theorem cv_get (m : Nat → Bool) (k : Nat) (hk : k < 4) : [Value.int .u64 (wd m 0 : Nat), .int .u64 (wd m 1 : Nat), .int .u64 (wd m 2 : Nat), .int .u64 (wd m 3 : Nat)][k]? = some (.int .u64 (wd m k : Nat)) := by
  rcases k with _ | _ | _ | _ | k
  · rfl
  · rfl
  · rfl
  · rfl
  · omega

theorem u64_in (m : Nat → Bool) (b : Nat) : (bits .and .u64 ((wd m (b / 64) : Nat) / 2 ^ (b % 64)) 1 == 1) = m b := by
  have e : (((wd m (b / 64) : Nat) : Int) / 2 ^ (b % 64)) = ((wd m (b / 64) / 2 ^ (b % 64) : Nat) : Int) := by simp
  rw [e, show (1 : Int) = ((1 : Nat) : Int) by rfl, (u64_nat _ 1 (Nat.lt_of_le_of_lt (Nat.div_le_self _ _) (wd_lt m _)) (by decide)).1, wd_and1]
  cases m b <;> rfl
theorem u64_or (m : Nat → Bool) (b : Nat) : bits .or .u64 (wd m (b / 64) : Nat) ((2 ^ (b % 64) : Nat) : Int) = ((wd (fun k => m k || k == b) (b / 64) : Nat) : Int) := by
  rw [(u64_nat _ _ (wd_lt m _) (Nat.pow_lt_pow_right (a := 2) (m := b % 64) (n := 64) (by decide) (by omega))).2, wd_or]
theorem u64_not (m : Nat → Bool) (i : Nat) : bits .xor .u64 18446744073709551615 (wd m i : Nat) = ((wd (fun k => !m k) i : Nat) : Int) := by
  have h := wd_lt m i
  have h2 := wd_lt (fun k => !m k) i
  rw [← wd_not] at h2 ⊢
  have e : bits .xor .u64 18446744073709551615 (wd m i : Nat) = IntKind.u64.wrap ((BitVec.ofInt 64 ((18446744073709551615 : Nat) : Int) ^^^ BitVec.ofInt 64 ((wd m i : Nat) : Int)).toNat : Nat) := rfl
  rw [e, BitVec.toNat_xor, BitVec.ofInt_natCast, BitVec.ofInt_natCast, BitVec.toNat_ofNat, BitVec.toNat_ofNat, Nat.mod_eq_of_lt h]
  simp [IntKind.wrap, IntKind.bits, IntKind.signed]
  omega

theorem u64_orw (m : Nat → Bool) (b : Nat) : bits .or .u64 (wd m (b / 64) : Nat) (IntKind.u64.wrap (2 ^ (b % 64))) = ((wd (fun k => m k || k == b) (b / 64) : Nat) : Int) := by
  have h : (2 : Nat) ^ (b % 64) < 18446744073709551616 := Nat.pow_lt_pow_right (a := 2) (m := b % 64) (n := 64) (by decide) (by omega)
  have e : IntKind.u64.wrap (2 ^ (b % 64)) = ((2 ^ (b % 64) : Nat) : Int) := by
    have e1 : ((2 : Int) ^ (b % 64)) = ((2 ^ (b % 64) : Nat) : Int) := by simp
    rw [e1]
    simp only [IntKind.wrap, IntKind.bits, IntKind.signed]
    generalize (2 : Nat) ^ (b % 64) = x at *
    simp
    omega
  rw [e, u64_or]
theorem bel_set4 {w W : World} {r : Nat} (h : Below w.heap.size w W) (hr : w.heap.size ≤ r) (x y z u : Value) : Below w.heap.size w ((((W.setCell ⟨r, 0, none⟩ x).setCell ⟨r, 1, none⟩ y).setCell ⟨r, 2, none⟩ z).setCell ⟨r, 3, none⟩ u) :=
  Below.setCell (Below.setCell (Below.setCell (Below.setCell h hr _) hr _) hr _) hr _
/-- A class in a block. -/
structure BoxC (W : World) (b : Nat) (m : Nat → Bool) : Prop where
  c0 : W.cell? ⟨b, 0, none⟩ = some (.int .u64 (wd m 0 : Nat))
  c1 : W.cell? ⟨b, 1, none⟩ = some (.int .u64 (wd m 1 : Nat))
  c2 : W.cell? ⟨b, 2, none⟩ = some (.int .u64 (wd m 2 : Nat))
  c3 : W.cell? ⟨b, 3, none⟩ = some (.int .u64 (wd m 3 : Nat))
  fr : ∀ o, W.frozen? ⟨b, o, none⟩ = false
theorem BoxC.get {W : World} {b : Nat} {m : Nat → Bool} (h : BoxC W b m) (k : Nat) (hk : k < 4) : W.cell? ⟨b, k, none⟩ = some (.int .u64 (wd m k : Nat)) := by
  rcases k with _ | _ | _ | _ | k
  · exact h.c0
  · exact h.c1
  · exact h.c2
  · exact h.c3
  · omega
theorem BoxC.of {W : World} {b : Nat} {m : Nat → Bool} (h : ∀ k, k < 4 → W.cell? ⟨b, k, none⟩ = some (.int .u64 (wd m k : Nat))) (hf : ∀ o, W.frozen? ⟨b, o, none⟩ = false) : BoxC W b m :=
  ⟨h 0 (by omega), h 1 (by omega), h 2 (by omega), h 3 (by omega), hf⟩
theorem BoxC.new (w : World) (m : Nat → Bool) (t : TypeId) : BoxC (w.alloc (.cells #[.int .u64 (wd m 0 : Nat), .int .u64 (wd m 1 : Nat), .int .u64 (wd m 2 : Nat), .int .u64 (wd m 3 : Nat)] t)) w.heap.size m := by
  refine ⟨?_, ?_, ?_, ?_, fun o => ?_⟩
  · rw [World.cell?_alloc_at _ _ _ _ (by simp)]; rfl
  · rw [World.cell?_alloc_at _ _ _ _ (by simp)]; rfl
  · rw [World.cell?_alloc_at _ _ _ _ (by simp)]; rfl
  · rw [World.cell?_alloc_at _ _ _ _ (by simp)]; rfl
  · exact fr_up (Below.refl _ _) o
theorem BoxC.lt {W : World} {b : Nat} {m : Nat → Bool} (h : BoxC W b m) : b < W.heap.size := cell_lt h.c0
theorem BoxC.mono {W W' : World} {b : Nat} {m : Nat → Bool} (h : BoxC W b m) (hb : Below W.heap.size W W') : BoxC W' b m :=
  ⟨below_cell hb h.c0, below_cell hb h.c1, below_cell hb h.c2, below_cell hb h.c3, fun o => by rw [hb.frozen (p := ⟨b, o, none⟩) h.lt]; exact h.fr o⟩
theorem BoxC.up {W : World} {b : Nat} {m : Nat → Bool} (h : BoxC W b m) (o : Obj) : BoxC (W.alloc o) b m := h.mono (bel_up _ _)
theorem BoxC.put {W : World} {b : Nat} {m m' : Nat → Bool} (h : BoxC W b m) (k : Nat) (hk : k < 4) (ho : ∀ i, i ≠ k → wd m' i = wd m i) : BoxC (W.setCell ⟨b, k, none⟩ (.int .u64 (wd m' k : Nat))) b m' := by
  refine BoxC.of (fun i hi => ?_) (fun o => by rw [World.frozen?_setCell]; exact h.fr o)
  by_cases e : i = k
  · subst e
    exact World.cell?_setCell_same' _ _ _ (by rw [h.get i hk]; rfl)
  · rw [ho i e]
    rw [World.cell?_setCell_other _ _ _ _ (by intro h; cases h; exact e rfl)]
    exact h.get i hi
theorem BoxC.aside {W : World} {b : Nat} {m : Nat → Bool} (h : BoxC W b m) (p : Addr) (v : Value) (hp : p.block ≠ b) : BoxC (W.setCell p v) b m := by
  refine BoxC.of (fun i hi => ?_) (fun o => by rw [World.frozen?_setCell]; exact h.fr o)
  rw [World.cell?_setCell_other _ _ _ _ (by rintro rfl; exact hp rfl)]
  exact h.get i hi

theorem i64_and63 (j : Nat) (h : j < 256) : bits .and .i64 (j : Int) 63 = ((j % 64 : Nat) : Int) := by
  have := bits_mask .i64 8 (by decide) (fun n h0 h1 => by rw [IntKind.wrap_i64]; omega) 6 (by decide) (j : Int) (by omega) (by omega)
  simpa using this
theorem w64n (k : Nat) (h : k < 9223372036854775807) : wrap64 (k : Int) = (k : Int) := by
  unfold wrap64
  omega
theorem BoxC.drew {W : World} {b : Nat} {m : Nat → Bool} (h : BoxC W b m) : BoxC W.drew b m := h.mono (Below.drew (Below.refl _ _))
theorem w64a (k j : Nat) (h : k + j < 9223372036854775807) : wrap64 ((k : Int) + (j : Int)) = ((k + j : Nat) : Int) := by
  unfold wrap64
  omega
theorem w64 (k : Nat) (h : k < 9223372036854775807) : wrap64 ((k : Int) + 1) = ((k + 1 : Nat) : Int) := by
  unfold wrap64
  omega
set_option maxHeartbeats 1000000 in
theorem has_any (m : Nat → Bool) (b : Nat) (hb : b < 256) (w : World) : Calls Try.prog 43 #[CV m, .int .u8 (b : Int)] w fun e w' => e = .returned (.bool (m b)) ∧ Below w.heap.size w w' := by
  have hc := cv_get m (b / 64) (by omega)
  go_enter Try.func43, Try.ntmps43
  go_wp2_with fail
  go_ret
  exact ⟨ret_bool (u64_in m b), bel_up _ _⟩
end Go.Proofs.Ytkjljnneghnpiaa
