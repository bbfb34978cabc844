import Derived.Test.YtkjljnneghnpiaaZya
import Derived.Lib.IndexAny
import Derived.Deep.Strs
import Derived.Test.YtkjljnneghnpiaaZshelf
import Derived.Shelf.Strings.Builder1
import Derived.ChangeKeysEq
import Derived.Laws.StructEq
namespace Go.Proofs.Ytkjljnneghnpiaa.Rg
open Go.RowKit
/-- A string's value. -/
abbrev ST (l : List UInt8) : Value := .string ⟨l.toArray⟩
theorem plain_pure (c : UInt8) (l : List UInt8) : (Lib.indexByte l c < 0) ↔ l.contains c = false := by
  have := Lib.contains_iff_indexByte l c
  rw [this]
  simp
set_option maxHeartbeats 1000000 in
theorem plain_any (c : Nat) (hc : c < 256) (l : List UInt8) (w : World) : Calls Try.prog 78 #[.int .u8 (c : Int), ST l] w fun e w' => e = .returned (.bool (decide (32 ≤ c) && decide (c ≤ 126) && !l.contains (UInt8.ofNat c))) ∧ w' = w := by
  have HC : Hid _ := hc
  clear hc
  go_enter Try.func78, Try.ntmps78
  by_cases h1 : 32 ≤ c
  · by_cases h2 : c ≤ 126
    · have h1' : decide ((32 : Int) ≤ (c : Int)) = true := by rw [decide_eq_true_eq]; omega
      have h2' : decide ((c : Int) ≤ (126 : Int)) = true := by rw [decide_eq_true_eq]; omega
      have H1 : Hid _ := h1
      have H2 : Hid _ := h2
      clear h1 h2
      go_wp2_with fail
      refine (Try.strings_IndexByte ⟨l.toArray⟩ (c : Int) _).mono ?_
      rintro e w1 ⟨rfl, rfl⟩
      have e1 : ((c : Int).toNat.toUInt8) = UInt8.ofNat c := by simp [Nat.toUInt8]
      rw [e1]
      go_wp2_with fail
      go_ret
      refine ⟨ret_bool ?_, rfl⟩
      have := plain_pure (UInt8.ofNat c) l
      have h1 := H1.out
      have h2 := H2.out
      by_cases h : l.contains (UInt8.ofNat c) = false
      · simp only [h, this.2 h, h1, h2]; rfl
      · have h' : ¬ Lib.indexByte l (UInt8.ofNat c) < 0 := fun x => h (this.1 x)
        simp only [h', h1, h2]
        simp at h
        simp [h]
    · have h1' : decide ((32 : Int) ≤ (c : Int)) = true := by rw [decide_eq_true_eq]; omega
      have h2' : decide ((c : Int) ≤ (126 : Int)) = false := by rw [decide_eq_false_iff_not]; omega
      have H2 : Hid _ := h2
      clear h1 h2
      go_wp2_with fail
      go_ret
      refine ⟨ret_bool ?_, rfl⟩
      have h2 := H2.out
      have : decide (c ≤ 126) = false := by simpa using h2
      rw [this]
      simp
  · have h1' : decide ((32 : Int) ≤ (c : Int)) = false := by rw [decide_eq_false_iff_not]; omega
    have H1 : Hid _ := h1
    clear h1
    go_wp2_with fail
    go_ret
    refine ⟨ret_bool ?_, rfl⟩
    have h1 := H1.out
    have : decide (32 ≤ c) = false := by simpa using h1
    rw [this]
    simp

end Go.Proofs.Ytkjljnneghnpiaa.Rg
namespace Go.Proofs.Ytkjljnneghnpiaa.Rg
open Go.RowKit
open Go.RowKit Go.Shelf
/-- What writing keeps: all below B; and every block but the writer's that is no row of bytes. -/
structure Fr (B b : Nat) (W W' : World) : Prop where
  bel : Below B W W'
  kept : ∀ k vs t fz, W.heap[k]? = some (.cells vs t fz) → k ≠ b → t ≠ 5 → W'.heap[k]? = some (.cells vs t fz)
theorem Fr.refl (B b : Nat) (W : World) : Fr B b W W := ⟨Below.refl _ _, fun _ _ _ _ h _ _ => h⟩
theorem Fr.trans {B b : Nat} {W W1 W2 : World} (h : Fr B b W W1) (k : Fr B b W1 W2) : Fr B b W W2 :=
  ⟨h.bel.trans k.bel, fun j vs t fz h1 h2 h3 => k.kept j vs t fz (h.kept j vs t fz h1 h2 h3) h2 h3⟩
theorem below_heap {w w' : World} {n : Nat} (h : Below n w w') {k : Nat} {o : Obj} (hk : w.heap[k]? = some o) (hn : k < n) : w'.heap[k]? = some o := by
  rw [← hk]
  exact h.block k hn
theorem Fr.of {B b : Nat} {W W' : World} (h : Below W.heap.size W W') (hB : B ≤ W.heap.size) : Fr B b W W' :=
  ⟨h.mono hB, fun _ _ _ _ h1 _ _ => below_heap h h1 (lt_of_heap h1)⟩
theorem Fr.set {B b : Nat} (W : World) (o : Nat) (v : Value) (hB : B ≤ b) : Fr B b W (W.setCell ⟨b, o, none⟩ v) :=
  ⟨(Below.refl B W).setCell (p := ⟨b, o, none⟩) hB v, fun k _ _ _ h1 h2 _ => by rw [Below.heap_setCell _ _ _ _ (fun e => h2 e)]; exact h1⟩

/-- A writer: its list, its builder and the bytes. -/
def WrAt (B b : Nat) (rv p : Value) (bs : List Value) (w : World) : Prop :=
  B ≤ b ∧ ∃ v, w.heap[b]? = some (.cells #[rv, p, v] 43 (0, 0)) ∧ w.ownsRow B 5 1 v bs.length bs ∧ v.ownBlock ≠ some b
def IsWr (B b : Nat) (rv : Value) (bs : List Value) (w : World) : Prop :=
  WrAt B b rv (.pointer none) bs w ∨ WrAt B b rv (.pointer (some ⟨b, 1, none⟩)) bs w
theorem WrAt.put {B b : Nat} {rv p v v' : Value} {bs' : List Value} {w : World} (hB : B ≤ b) (hb : w.heap[b]? = some (.cells #[rv, p, v] 43 (0, 0))) (hown : w.ownsRow B 5 1 v' bs'.length bs') :
    WrAt B b rv p bs' (w.setCell ⟨b, 2, none⟩ v') := by
  have hne := Lib.ownBlock_ne hown hb (by decide)
  refine ⟨hB, v', ?_, ?_, hne⟩
  · simp [World.setCell, Array.getElem?_modify, hb]
  · exact hown.kept (row := some b) ⟨rfl, rfl, rfl, by simp [World.setCell], fun k _ hk => Below.heap_setCell _ _ _ _ (fun e => hk (by simp [e]))⟩ (Or.inr hne)

end Go.Proofs.Ytkjljnneghnpiaa.Rg
namespace Go.Proofs.Ytkjljnneghnpiaa.Rg
open Go.RowKit
/-- A writer that has written these bytes. -/
structure IsW (B b : Nat) (rv : Value) (l : List UInt8) (w : World) : Prop where
  h : IsWr B b rv (Lib.byteCells l) w
theorem IsW.drew {B b : Nat} {rv : Value} {l : List UInt8} {w : World} (h : IsW B b rv l w) : IsW B b rv l w.drew := ⟨h.h⟩
theorem Fr.dr {B b : Nat} {w : World} : Fr B b w w.drew := ⟨Below.drew (Below.refl _ _), fun _ _ _ _ h _ _ => h⟩
end Go.Proofs.Ytkjljnneghnpiaa.Rg
namespace Go.Proofs.Ytkjljnneghnpiaa.Rg
open Go.RowKit
/-- A class in a block, with the block's kind. -/
structure AtC (W : World) (k : Nat) (m : Nat → Bool) : Prop where
  h : W.heap[k]? = some (.cells #[.int .u64 (wd m 0 : Nat), .int .u64 (wd m 1 : Nat), .int .u64 (wd m 2 : Nat), .int .u64 (wd m 3 : Nat)] 40 (0, 0))
theorem AtC.box {W : World} {k : Nat} {m : Nat → Bool} (h : AtC W k m) : BoxC W k m :=
  ⟨by rw [Lib.cell_of_heap h.h]; rfl, by rw [Lib.cell_of_heap h.h]; rfl, by rw [Lib.cell_of_heap h.h]; rfl, by rw [Lib.cell_of_heap h.h]; rfl, fun o => Lib.frozen_of_heap h.h o⟩
theorem AtC.new (w : World) (m : Nat → Bool) : AtC (w.alloc (.cells #[.int .u64 (wd m 0 : Nat), .int .u64 (wd m 1 : Nat), .int .u64 (wd m 2 : Nat), .int .u64 (wd m 3 : Nat)] 40)) w.heap.size m := by
  refine ⟨?_⟩
  unfold World.alloc
  simp
theorem AtC.mono {W W' : World} {k : Nat} {m : Nat → Bool} (h : AtC W k m) (hb : Below W.heap.size W W') : AtC W' k m := ⟨below_heap hb h.h (lt_of_heap h.h)⟩
theorem AtC.fr {B b : Nat} {W W' : World} {k : Nat} {m : Nat → Bool} (h : AtC W k m) (hf : Fr B b W W') (hk : k ≠ b) : AtC W' k m := ⟨hf.kept k _ _ _ h.h hk (by decide)⟩
theorem own_mono {B : Nat} {e : TypeId} {sz : Nat} {v : Value} {n : Nat} {xs : List Value} {w w' : World} (h : w.ownsRow B e sz v n xs) (hb : Below w.heap.size w w') : w'.ownsRow B e sz v n xs := by
  refine ⟨h.1, ?_⟩
  rcases h.2 with h2 | ⟨g, cap, cur, h1, h2, h3, h4⟩
  · exact .inl h2
  · exact .inr ⟨g, cap, cur, h1, h2, below_heap hb h3 (lt_of_heap h3), h4⟩
theorem IsWr.mono {B b : Nat} {rv : Value} {bs : List Value} {w w' : World} (h : IsWr B b rv bs w) (hb : Below w.heap.size w w') : IsWr B b rv bs w' := by
  have key : ∀ p, WrAt B b rv p bs w → WrAt B b rv p bs w' := by
    rintro p ⟨hB, v, hbk, hown, hne⟩
    refine ⟨hB, v, below_heap hb hbk (lt_of_heap hbk), ?_, hne⟩
    exact own_mono hown hb
  rcases h with h | h
  · exact .inl (key _ h)
  · exact .inr (key _ h)
theorem IsWr.lt {B b : Nat} {rv : Value} {bs : List Value} {w : World} (h : IsWr B b rv bs w) : b < w.heap.size ∧ B ≤ b := by
  rcases h with ⟨h1, v, h2, _⟩ | ⟨h1, v, h2, _⟩
  · exact ⟨lt_of_heap h2, h1⟩
  · exact ⟨lt_of_heap h2, h1⟩
theorem IsW.mono {B b : Nat} {rv : Value} {l : List UInt8} {w w' : World} (h : IsW B b rv l w) (hb : Below w.heap.size w w') : IsW B b rv l w' := ⟨h.h.mono hb⟩
theorem IsW.lt {B b : Nat} {rv : Value} {l : List UInt8} {w : World} (h : IsW B b rv l w) : b < w.heap.size ∧ B ≤ b := h.h.lt
end Go.Proofs.Ytkjljnneghnpiaa.Rg
namespace Go.Proofs.Ytkjljnneghnpiaa.Rg
open Go.RowKit
theorem cells30 : Try.prog.cellsOf 38 = 1 := by kernel_rfl
theorem range4 : List.range 4 = [0, 1, 2, 3] := by decide
theorem eq32 (d : Nat) (x0 x1 x2 x3 y0 y1 y2 y3 : Nat) (W : World) : (Op.equalIn (d + 2) 40 (.agg #[.int .u64 (x0 : Int), .int .u64 (x1 : Int), .int .u64 (x2 : Int), .int .u64 (x3 : Int)]) (.agg #[.int .u64 (y0 : Int), .int .u64 (y1 : Int), .int .u64 (y2 : Int), .int .u64 (y3 : Int)])).run Try.prog W = .ok (decide (x0 = y0 ∧ x1 = y1 ∧ x2 = y2 ∧ x3 = y3)) W := by
  obtain ⟨i0, hi, hz0, hz1, hz2⟩ := info_parts info30
  have p : ∀ (a b c e : Value) (j : Nat) (v : Value), #[a, b, c, e][j]? = some v → ∀ W : World, (part 38 #[a, b, c, e] (j * 1)).run Try.prog W = .ok v W := by
    intro a b c e j v hj W
    simp only [part, Sem.run_bind, Try.isAgg38, Result.andThen_ok, Nat.mul_one, hj]
    rfl
  rw [run_equalIn_array W (d + 1) _ _ Try.underlying40 hi, cells30, range4]
  have q0 := fun W => p (.int .u64 (x0 : Int)) (.int .u64 (x1 : Int)) (.int .u64 (x2 : Int)) (.int .u64 (x3 : Int)) 0 (.int .u64 (x0 : Int)) rfl W
  have q1 := fun W => p (.int .u64 (x0 : Int)) (.int .u64 (x1 : Int)) (.int .u64 (x2 : Int)) (.int .u64 (x3 : Int)) 1 (.int .u64 (x1 : Int)) rfl W
  have q2 := fun W => p (.int .u64 (x0 : Int)) (.int .u64 (x1 : Int)) (.int .u64 (x2 : Int)) (.int .u64 (x3 : Int)) 2 (.int .u64 (x2 : Int)) rfl W
  have q3 := fun W => p (.int .u64 (x0 : Int)) (.int .u64 (x1 : Int)) (.int .u64 (x2 : Int)) (.int .u64 (x3 : Int)) 3 (.int .u64 (x3 : Int)) rfl W
  have r0 := fun W => p (.int .u64 (y0 : Int)) (.int .u64 (y1 : Int)) (.int .u64 (y2 : Int)) (.int .u64 (y3 : Int)) 0 (.int .u64 (y0 : Int)) rfl W
  have r1 := fun W => p (.int .u64 (y0 : Int)) (.int .u64 (y1 : Int)) (.int .u64 (y2 : Int)) (.int .u64 (y3 : Int)) 1 (.int .u64 (y1 : Int)) rfl W
  have r2 := fun W => p (.int .u64 (y0 : Int)) (.int .u64 (y1 : Int)) (.int .u64 (y2 : Int)) (.int .u64 (y3 : Int)) 2 (.int .u64 (y2 : Int)) rfl W
  have r3 := fun W => p (.int .u64 (y0 : Int)) (.int .u64 (y1 : Int)) (.int .u64 (y2 : Int)) (.int .u64 (y3 : Int)) 3 (.int .u64 (y3 : Int)) rfl W
  have e0 : ∀ (a b : Nat) (W : World), (Op.equalIn (d + 1) 38 (.int .u64 (a : Int)) (.int .u64 (b : Int))).run Try.prog W = .ok (decide (a = b)) W := by
    intro a b W
    rw [run_equalIn_int W d 38 .u64 .u64 _ _ Try.underlying38]
    have h : ((a : Int) == (b : Int)) = decide (a = b) := by
      by_cases h : a = b
      · subst h; simp
      · have h1 : ((a : Int) == (b : Int)) = false := by rw [beq_eq_false_iff_ne]; omega
        rw [h1]; simp [h]
    rw [h]
  have g : decide (x0 = y0 ∧ x1 = y1 ∧ x2 = y2 ∧ x3 = y3) = (decide (x0 = y0) && (decide (x1 = y1) && (decide (x2 = y2) && decide (x3 = y3)))) := by simp only [Bool.decide_and]
  rw [g]
  simp only [Op.eqItems, Sem.run_bind, q0, r0, e0, Result.andThen_ok]
  generalize decide (x0 = y0) = b0
  cases b0
  · simp
  simp only [Sem.run_bind, q1, r1, e0, Result.andThen_ok, Bool.not_true, Bool.false_eq_true, if_false]
  generalize decide (x1 = y1) = b1
  cases b1
  · simp
  simp only [Sem.run_bind, q2, r2, e0, Result.andThen_ok, Bool.not_true, Bool.false_eq_true, if_false]
  generalize decide (x2 = y2) = b2
  cases b2
  · simp
  simp only [Sem.run_bind, q3, r3, e0, Result.andThen_ok, Bool.not_true, Bool.false_eq_true, if_false]
  generalize decide (x3 = y3) = b3
  cases b3
  · simp
  · simp
/-- A node's value. -/
abbrev ndV (op : Int) (m : Nat → Bool) (a b : Int) : Value := .agg #[.int .i64 op, .int .u64 (wd m 0 : Nat), .int .u64 (wd m 1 : Nat), .int .u64 (wd m 2 : Nat), .int .u64 (wd m 3 : Nat), .int .i64 a, .int .i64 b]
end Go.Proofs.Ytkjljnneghnpiaa.Rg
namespace Go.Proofs.Ytkjljnneghnpiaa.Rg
open Go.RowKit
theorem getD_app1 {α : Type} (l k : List α) (j : Nat) (d : α) (h : j < l.length) : (l ++ k).getD j d = l.getD j d := by
  simp [List.getD_eq_getElem?_getD, List.getElem?_append_left h]
theorem getD_app2 {α : Type} (l k : List α) (j : Nat) (d : α) (h : l.length ≤ j) : (l ++ k).getD j d = k.getD (j - l.length) d := by
  simp [List.getD_eq_getElem?_getD, List.getElem?_append_right h]
theorem split_at {α : Type} (l : List α) (i : Nat) (h : i < l.length) : ∃ p n s, l = p ++ n :: s ∧ p.length = i ∧ n = l[i] :=
  ⟨l.take i, l[i], l.drop (i + 1), by rw [← List.drop_eq_getElem_cons h, List.take_append_drop], by rw [List.length_take]; omega, rfl⟩
end Go.Proofs.Ytkjljnneghnpiaa.Rg
namespace Go.Proofs.Ytkjljnneghnpiaa.Rg
open Go.RowKit
/-- The seven cells of a node. -/
structure NdAt (W : World) (g o : Nat) (n : Nd) : Prop where
  c0 : W.cell? ⟨g, o, none⟩ = some (.int .i64 n.op)
  c1 : W.cell? ⟨g, o + 1, none⟩ = some (.int .u64 (wd n.m 0 : Nat))
  c2 : W.cell? ⟨g, o + 2, none⟩ = some (.int .u64 (wd n.m 1 : Nat))
  c3 : W.cell? ⟨g, o + 3, none⟩ = some (.int .u64 (wd n.m 2 : Nat))
  c4 : W.cell? ⟨g, o + 4, none⟩ = some (.int .u64 (wd n.m 3 : Nat))
  c5 : W.cell? ⟨g, o + 5, none⟩ = some (.int .i64 n.a)
  c6 : W.cell? ⟨g, o + 6, none⟩ = some (.int .i64 n.b)
/-- A list of nodes in memory. -/
structure NdsAt (W : World) (g o : Nat) (re : List Nd) : Prop where
  nd : ∀ p n s, re = p ++ n :: s → NdAt W g (o + p.length * 7) n
theorem NdsAt.below {W W' : World} {g o B : Nat} {re : List Nd} (h : NdsAt W g o re) (hb : Below B W W') (hg : g < B) : NdsAt W' g o re := by
  refine ⟨fun p n s e => ?_⟩
  obtain ⟨c0, c1, c2, c3, c4, c5, c6⟩ := h.nd p n s e
  have k : ∀ j v, W.cell? ⟨g, j, none⟩ = some v → W'.cell? ⟨g, j, none⟩ = some v := fun j v hv => by rw [hb.cell (p := ⟨g, j, none⟩) hg]; exact hv
  exact ⟨k _ _ c0, k _ _ c1, k _ _ c2, k _ _ c3, k _ _ c4, k _ _ c5, k _ _ c6⟩
/-- A node in a block of its own. -/
structure AtN (W : World) (k : Nat) (op : Int) (m : Nat → Bool) (a b : Int) : Prop where
  h : W.heap[k]? = some (.cells #[.int .i64 op, .int .u64 (wd m 0 : Nat), .int .u64 (wd m 1 : Nat), .int .u64 (wd m 2 : Nat), .int .u64 (wd m 3 : Nat), .int .i64 a, .int .i64 b] 58 (0, 0))
theorem AtN.new (w : World) (op : Int) (m : Nat → Bool) (a b : Int) : AtN (w.alloc (.cells #[.int .i64 op, .int .u64 (wd m 0 : Nat), .int .u64 (wd m 1 : Nat), .int .u64 (wd m 2 : Nat), .int .u64 (wd m 3 : Nat), .int .i64 a, .int .i64 b] 58)) w.heap.size op m a b := by
  refine ⟨?_⟩
  unfold World.alloc
  simp
theorem AtN.fr {B b : Nat} {W W' : World} {k : Nat} {op : Int} {m : Nat → Bool} {x y : Int} (h : AtN W k op m x y) (hf : Fr B b W W') (hk : k ≠ b) : AtN W' k op m x y := ⟨hf.kept k _ _ _ h.h hk (by decide)⟩
theorem AtN.cells {W : World} {k : Nat} {op : Int} {m : Nat → Bool} {a b : Int} (h : AtN W k op m a b) : W.cell? ⟨k, 0, none⟩ = some (.int .i64 op) ∧ W.cell? ⟨k, 1, none⟩ = some (.int .u64 (wd m 0 : Nat)) ∧ W.cell? ⟨k, 2, none⟩ = some (.int .u64 (wd m 1 : Nat)) ∧ W.cell? ⟨k, 3, none⟩ = some (.int .u64 (wd m 2 : Nat)) ∧ W.cell? ⟨k, 4, none⟩ = some (.int .u64 (wd m 3 : Nat)) ∧ W.cell? ⟨k, 5, none⟩ = some (.int .i64 a) ∧ W.cell? ⟨k, 6, none⟩ = some (.int .i64 b) :=
  ⟨by rw [Lib.cell_of_heap h.h]; rfl, by rw [Lib.cell_of_heap h.h]; rfl, by rw [Lib.cell_of_heap h.h]; rfl, by rw [Lib.cell_of_heap h.h]; rfl, by rw [Lib.cell_of_heap h.h]; rfl, by rw [Lib.cell_of_heap h.h]; rfl, by rw [Lib.cell_of_heap h.h]; rfl⟩
end Go.Proofs.Ytkjljnneghnpiaa.Rg
