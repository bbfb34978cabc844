import Derived.Test.YtnhmdbmcamfbiaaFind
import Derived.Test.YtnhmdbmcamfbiaaAsks
import Derived.BigRegion
import Derived.Deep.RegionWith
import Derived.Deep.Cut
import Derived.Deep.CutRange
namespace Go.Proofs.Ytnhmdbmcamfbiaa
open Go.RowKit

/-- Nothing but block c has turned. -/
structure Moved (c : Nat) (w w' : World) : Prop where
  os : w'.os = w.os
  tape : w'.tape = w.tape
  output : w'.output = w.output
  size : w'.heap.size = w.heap.size
  block : ∀ k, k ≠ c → w'.heap[k]? = w.heap[k]?
theorem Moved.refl (c : Nat) (w : World) : Moved c w w := ⟨rfl, rfl, rfl, rfl, fun _ _ => rfl⟩
theorem Moved.trans {c : Nat} {a b d : World} (h : Moved c a b) (k : Moved c b d) : Moved c a d :=
  ⟨k.os.trans h.os, k.tape.trans h.tape, k.output.trans h.output, k.size.trans h.size, fun i hi => (k.block i hi).trans (h.block i hi)⟩
theorem Moved.set (c o : Nat) (w : World) (u : Value) : Moved c w (w.setCell ⟨c, o, none⟩ u) :=
  ⟨rfl, rfl, rfl, by simp [World.setCell], fun k hk => Below.heap_setCell _ _ _ _ hk⟩
theorem Moved.drewN (c : Nat) (w : World) (n : Nat) : Moved c w (w.drewN n) := ⟨rfl, rfl, rfl, rfl, fun _ _ => rfl⟩
theorem Moved.cell {c : Nat} {w w' : World} (h : Moved c w w') {a : Addr} (ha : a.block ≠ c) : w'.cell? a = w.cell? a := World.cell?_of_block (w := w) (h.block a.block ha)
theorem Moved.below {c B : Nat} {w w' : World} (h : Moved c w w') (hB : B ≤ c) : Below B w w' :=
  ⟨h.os, h.tape, h.output, by rw [h.size]; exact Nat.le_refl _, fun k hk => h.block k (by omega)⟩

theorem tree_iface {w : World} {v : Value} {t : Rp.T} (h : IsTree w v t) (n : Int) : v ≠ .int .i64 n := by
  cases h <;> simp
theorem IsTree.moved {w w' : World} {c : Nat} {n : Int} (hc : w.cell? ⟨c, 1, none⟩ = some (.int .i64 n)) (hm : Moved c w w') {v : Value} {t : Rp.T} (h : IsTree w v t) : IsTree w' v t := by
  induction h with
  | leaf s => exact .leaf s
  | branch b vl vr l r h0 h1 h2 h3 hl hr il ir =>
    have hne : b ≠ c := by
      rintro rfl
      rw [hc] at h1
      exact tree_iface hr n (by simpa using h1.symm)
    exact .branch b vl vr l r (by rw [hm.cell (by exact hne)]; exact h0) (by rw [hm.cell (by exact hne)]; exact h1) (by rw [hm.cell (by exact hne)]; exact h2) (by rw [hm.cell (by exact hne)]; exact h3) il ir
theorem IsRope.moved {w w' : World} {c b : Nat} {n : Int} {txt : List UInt8} (hc : w.cell? ⟨c, 1, none⟩ = some (.int .i64 n)) (hm : Moved c w w') (hne : b ≠ c) (h : IsRope w b txt) : IsRope w' b txt := by
  obtain ⟨⟨v, t, h0, h1, h2, h3⟩, h4⟩ := h
  exact ⟨⟨v, t, by rw [hm.cell (by exact hne)]; exact h0, h1.moved hc hm, h2, h3⟩, h4⟩

/-- A cursor. -/
structure IsCur (w : World) (c : Nat) (txt : List UInt8) (a f : Nat) : Prop where
  row : ∃ v s st, w.heap[c]? = some (.cells #[v, .int .i64 (a : Int), .int .i64 (f : Int), .string s, .int .i64 ((st : Nat) : Int)] 84 (0, 0)) ∧ (∃ t, IsTree w v t ∧ t.Bal ∧ t.text = txt) ∧ ∃ pre post, txt = pre ++ s.data.toList ++ post ∧ pre.length = st
  at_ : a ≤ txt.length
  far : f ≤ txt.length + 1
  len : txt.length ≤ 1048576

theorem IsCur.drewN {w : World} {c a f : Nat} {txt : List UInt8} (h : IsCur w c txt a f) (k : Nat) : IsCur (w.drewN k) c txt a f := by
  obtain ⟨⟨v, s, st, hr, ⟨t, h1, h2, h3⟩, hcut⟩, h4, h5, h6⟩ := h
  exact ⟨⟨v, s, st, hr, ⟨t, h1.mono (below_drewN (Below.refl _ _) k), h2, h3⟩, hcut⟩, h4, h5, h6⟩
theorem row_cells {w : World} {c : Nat} {x0 x1 x2 x3 x4 : Value} (h : w.heap[c]? = some (.cells #[x0, x1, x2, x3, x4] 84 (0, 0))) :
    w.cell? ⟨c, 0, none⟩ = some x0 ∧ w.cell? ⟨c, 1, none⟩ = some x1 ∧ w.cell? ⟨c, 2, none⟩ = some x2 ∧ w.cell? ⟨c, 3, none⟩ = some x3 ∧ w.cell? ⟨c, 4, none⟩ = some x4 ∧
    (∀ o, w.frozen? ⟨c, o, none⟩ = false) := by
  refine ⟨?_, ?_, ?_, ?_, ?_, fun o => Lib.frozen_of_heap h o⟩ <;> (rw [Lib.cell_of_heap h]; rfl)

set_option maxRecDepth 100000 in
set_option maxHeartbeats 400000 in
theorem at_any (c a f : Nat) (txt : List UInt8) (w : World) (h : IsCur w c txt a f) :
    Calls Try.prog 21 #[.pointer (some ⟨c, 0, none⟩)] w fun e w' => e = .returned (.int .i64 (a : Int)) ∧ w = w' := by
  obtain ⟨v, s, st, hr, -, -⟩ := h.row
  obtain ⟨-, c1, -, -, -, -⟩ := row_cells hr
  clear hr h
  go_enter Try.func21, Try.ntmps21
  go_wp2
  go_ret
  exact ⟨rfl, rfl⟩
set_option maxRecDepth 100000 in
set_option maxHeartbeats 400000 in
theorem far_any (c a f : Nat) (txt : List UInt8) (w : World) (h : IsCur w c txt a f) :
    Calls Try.prog 20 #[.pointer (some ⟨c, 0, none⟩)] w fun e w' => e = .returned (.int .i64 (f : Int)) ∧ w = w' := by
  obtain ⟨v, s, st, hr, -, -⟩ := h.row
  obtain ⟨-, -, c2, -, -, -⟩ := row_cells hr
  clear hr h
  go_enter Try.func20, Try.ntmps20
  go_wp2
  go_ret
  exact ⟨rfl, rfl⟩

set_option maxRecDepth 100000 in
set_option maxHeartbeats 400000 in
theorem back_at0 (c f : Nat) (txt : List UInt8) (w : World) (h : IsCur w c txt 0 f) :
    Calls Try.prog 24 #[.pointer (some ⟨c, 0, none⟩)] w fun e w' => e = .returned (.bool false) ∧ w = w' := by
  obtain ⟨v, s, st, hr, -, -⟩ := h.row
  obtain ⟨-, c1, -, -, -, -⟩ := row_cells hr
  clear hr h
  go_enter Try.func24, Try.ntmps24
  go_wp2
  go_ret
  exact ⟨rfl, rfl⟩

theorem cur_set1 {w : World} {c a f : Nat} {txt : List UInt8} (h : IsCur w c txt a f) (a' : Nat) (ha : a' ≤ txt.length) :
    IsCur (w.setCell ⟨c, 1, none⟩ (.int .i64 (a' : Int))) c txt a' f ∧ Moved c w (w.setCell ⟨c, 1, none⟩ (.int .i64 (a' : Int))) := by
  have hm := Moved.set c 1 w (.int .i64 (a' : Int))
  refine ⟨?_, hm⟩
  obtain ⟨⟨v, s, st, hr, ⟨t, h1, h2, h3⟩, hcut⟩, _, h5, h6⟩ := h
  obtain ⟨-, c1, -, -, -, -⟩ := row_cells hr
  exact ⟨⟨v, s, st, by simp [World.setCell, Array.getElem?_modify, hr], ⟨t, h1.moved c1 hm, h2, h3⟩, hcut⟩, ha, h5, h6⟩
theorem cur_set2 {w : World} {c a f : Nat} {txt : List UInt8} (h : IsCur w c txt a f) (f' : Nat) (hf : f' ≤ txt.length + 1) :
    IsCur (w.setCell ⟨c, 2, none⟩ (.int .i64 (f' : Int))) c txt a f' ∧ Moved c w (w.setCell ⟨c, 2, none⟩ (.int .i64 (f' : Int))) := by
  have hm := Moved.set c 2 w (.int .i64 (f' : Int))
  refine ⟨?_, hm⟩
  obtain ⟨⟨v, s, st, hr, ⟨t, h1, h2, h3⟩, hcut⟩, h4, _, h6⟩ := h
  obtain ⟨-, c1, -, -, -, -⟩ := row_cells hr
  exact ⟨⟨v, s, st, by simp [World.setCell, Array.getElem?_modify, hr], ⟨t, h1.moved c1 hm, h2, h3⟩, hcut⟩, h4, hf, h6⟩

set_option maxRecDepth 100000 in
set_option maxHeartbeats 400000 in
theorem back_any' (c a f : Nat) (txt : List UInt8) (w : World) (h : IsCur w c txt (a + 1) f) :
    Calls Try.prog 24 #[.pointer (some ⟨c, 0, none⟩)] w fun e w' => e = .returned (.bool true) ∧ IsCur w' c txt a f ∧ Moved c w w' := by
  have hfin := cur_set1 h a (by have := h.at_; omega)
  have h4 := h.at_
  have h6 := h.len
  obtain ⟨v, s, st, hr, -, -⟩ := h.row
  obtain ⟨-, c1, -, -, -, fz⟩ := row_cells hr
  have FIN : Hid _ := hfin
  have hne : (((a : Int) + 1) == 0) = false := by rw [beq_eq_false_iff_ne]; omega
  have ha : a ≤ 1048576 := by omega
  clear hr h hfin h4 h6
  go_enter Try.func24, Try.ntmps24
  go_wp2
  go_ret
  exact ⟨rfl, FIN.out⟩
set_option maxRecDepth 100000 in
set_option maxHeartbeats 1000000 in
theorem next_end (c f : Nat) (txt : List UInt8) (w : World) (h : IsCur w c txt txt.length f) :
    Calls Try.prog 22 #[.pointer (some ⟨c, 0, none⟩)] w fun e w' => e = .returned (.tuple #[.int .u8 0, .bool false]) ∧ IsCur w' c txt txt.length (txt.length + 1) ∧ Moved c w w' := by
  have h6 := h.len
  have FIN : Hid (∀ k, IsCur ((w.setCell ⟨c, 2, none⟩ (.int .i64 ((txt.length : Int) + 1))).drewN k) c txt txt.length (txt.length + 1) ∧ Moved c w ((w.setCell ⟨c, 2, none⟩ (.int .i64 ((txt.length : Int) + 1))).drewN k)) := by
    intro k
    obtain ⟨h1, h2⟩ := cur_set2 h (txt.length + 1) (Nat.le_refl _)
    exact ⟨h1.drewN k, h2.trans (Moved.drewN _ _ _)⟩
  obtain ⟨v, s, st, hr, ⟨t, ht, hB, htx⟩, hcut⟩ := h.row
  obtain ⟨c0, c1, c2, -, -, fz⟩ := row_cells hr
  obtain ⟨u, x, fs, fl, rfl, ms, ml, es, el, cs, cl'⟩ := ht.face
  rw [← t.text_length, htx] at cs
  have HL : Hid _ := cs
  clear cs cl' hcut hr h ml el ht htx hB
  go_enter Try.func22, Try.ntmps22
  go_wp2_with fail
  go_quiet (exact quiet_same (HL.out _ (below_drewN (Below.refl _ _) _)))
  go_wp2_with fail
  go_ret2
  exact ⟨rfl, FIN.out _⟩

theorem wrap_small (x : Int) (h0 : -1048577 ≤ x) (h1 : x ≤ 8388608) : IntKind.i64.wrap x = x := by
  rw [IntKind.wrap_i64]; omega
theorem idx_fact {txt : List UInt8} {a st : Nat} {s : ByteArray} (F : Found txt a s st) : ∀ W : World, (Instr.index 9 (.string s) (.int .i64 ((a : Int) - (st : Int)))).run Try.prog W = .ok (.int .u8 ((txt[a]?.getD 0).toNat : Int)) W := by
  intro W
  obtain ⟨hlt, hb⟩ := found_byte F
  have q1 := F.lo
  have q2 := F.hi
  rw [run_index_string W 9 s .i64 _ Try.underlying9, dif_pos ⟨by omega, by omega⟩]
  have e : ((a : Int) - (st : Int)).toNat = a - st := by omega
  simp only [e, hb]
/-- the chunk has the byte at hand -/
structure Hit (w : World) (c : Nat) (txt : List UInt8) (a f : Nat) (v : Value) (t : Rp.T) (s : ByteArray) (st : Nat) : Prop where
  row : w.heap[c]? = some (.cells #[v, .int .i64 (a : Int), .int .i64 (f : Int), .string s, .int .i64 ((st : Nat) : Int)] 84 (0, 0))
  tree : IsTree w v t
  bal : t.Bal
  text : t.text = txt
  found : Found txt a s st
  far : f ≤ txt.length + 1
  len : txt.length ≤ 1048576
theorem Found.lt {txt : List UInt8} {a st : Nat} {s : ByteArray} (F : Found txt a s st) : a < txt.length := by
  obtain ⟨⟨pre, post, e, hp⟩, lo, hi⟩ := F
  have hs := Lib.size_eq s
  rw [e, List.length_append, List.length_append]
  omega
theorem Hit.cur {w : World} {c a f st : Nat} {txt : List UInt8} {v : Value} {t : Rp.T} {s : ByteArray} (h : Hit w c txt a f v t s st) : IsCur w c txt a f :=
  ⟨⟨v, s, st, h.row, ⟨t, h.tree, h.bal, h.text⟩, h.found.cut⟩, by have := h.found.lt; omega, h.far, h.len⟩

theorem Hit.drewN {w : World} {c a f st : Nat} {txt : List UInt8} {v : Value} {t : Rp.T} {s : ByteArray} (h : Hit w c txt a f v t s st) (k : Nat) : Hit (w.drewN k) c txt a f v t s st :=
  ⟨h.row, h.tree.mono (below_drewN (Below.refl _ _) k), h.bal, h.text, h.found, h.far, h.len⟩
theorem IsCur.drew {w : World} {c a f : Nat} {txt : List UInt8} (h : IsCur w c txt a f) : IsCur w.drew c txt a f := by
  obtain ⟨⟨v, s, st, hr, ⟨t, h1, h2, h3⟩, hcut⟩, h4, h5, h6⟩ := h
  exact ⟨⟨v, s, st, hr, ⟨t, h1.mono ((Below.refl _ _).drew), h2, h3⟩, hcut⟩, h4, h5, h6⟩
theorem Moved.drew (c : Nat) (w : World) : Moved c w w.drew := ⟨rfl, rfl, rfl, rfl, fun _ _ => rfl⟩
/-- the end of Next -/
theorem hit_fin {w : World} {c a f st : Nat} {txt : List UInt8} {v : Value} {t : Rp.T} {s : ByteArray} (h : Hit w c txt a f v t s st) (x y : Int) (hx : x = (a : Int) + 1) (hy : y = ((max f (a + 1) : Nat) : Int)) (k : Nat) :
    IsCur ((((w.drewN k).setCell ⟨c, 1, none⟩ (.int .i64 x)).setCell ⟨c, 2, none⟩ (.int .i64 y)).drew) c txt (a + 1) (max f (a + 1)) ∧ Moved c w ((((w.drewN k).setCell ⟨c, 1, none⟩ (.int .i64 x)).setCell ⟨c, 2, none⟩ (.int .i64 y)).drew) := by
  subst hx hy
  have hl := h.found.lt
  have hf := h.far
  obtain ⟨h1, m1⟩ := cur_set1 (h.drewN k).cur (a + 1) (by omega)
  obtain ⟨h2, m2⟩ := cur_set2 h1 (max f (a + 1)) (by omega)
  exact ⟨h2.drew, (((Moved.drewN c w k).trans m1).trans m2).trans (Moved.drew _ _)⟩

set_option maxRecDepth 100000 in
set_option maxHeartbeats 1000000 in
theorem next_hit (c a f st : Nat) (txt : List UInt8) (w : World) (v : Value) (t : Rp.T) (s : ByteArray) (h : Hit w c txt a f v t s st) :
    Calls Try.prog 22 #[.pointer (some ⟨c, 0, none⟩)] w fun e w' => e = .returned (.tuple #[.int .u8 ((txt[a]?.getD 0).toNat : Int), .bool true]) ∧ IsCur w' c txt (a + 1) (max f (a + 1)) ∧ Moved c w w' := by
  have h6 := h.len
  have h7 := h.found.lt
  have h8 := h.far
  have ht := h.tree
  have q1 := h.found.lo
  have q2 := h.found.hi
  obtain ⟨hlt, hbyte⟩ := found_byte h.found
  obtain ⟨c0, c1, c2, c3, c4, fz⟩ := row_cells h.row
  obtain ⟨u, x, fs, fl, rfl, ms, ml, es, el, cs, cl'⟩ := ht.face
  rw [← t.text_length, h.text] at cs
  have HL : Hid _ := cs
  have FB : Hid _ := hbyte
  have HH : Hid _ := h
  have he : ((a : Int) == (txt.length : Int)) = false := by rw [beq_eq_false_iff_ne]; omega
  have hd : decide (a < st) = false := by rw [decide_eq_false_iff_not]; omega
  have hd2 : decide ((st : Int) + (s.size : Int) ≤ (a : Int)) = false := by rw [decide_eq_false_iff_not]; omega
  have hsz : s.size ≤ 1048576 := by
    obtain ⟨⟨pre, post, e, hp⟩, lo, hi⟩ := h.found
    have hs := Lib.size_eq s
    rw [e, List.length_append, List.length_append] at h6
    omega
  have hst : st ≤ 1048576 := by omega
  have hw := wrap_small ((st : Int) + (s.size : Int)) (by omega) (by omega)
  have hw2 := wrap_small ((a : Int) - (st : Int)) (by omega) (by omega)
  obtain ⟨B, hB⟩ : ∃ B : Int, B = ((txt[a]?.getD 0).toNat : Int) := ⟨_, rfl⟩
  have hidx := idx_fact h.found
  rw [← hB] at hidx
  rw [← hB]
  have hb1 : 0 ≤ (a : Int) - (st : Int) := by omega
  have hb2 : (a : Int) - (st : Int) < (s.size : Int) := by omega
  clear cs cl' h ml el ht hbyte hB
  go_enter Try.func22, Try.ntmps22
  go_wp2_with fail
  go_quiet (exact quiet_same (HL.out _ (below_drewN (Below.refl _ _) _)))
  go_wp2_with fail
  go_quiet (fail)
  go_wp2_with fail
  go_quiet (fail)
  go_wp2_with fail
  go_region
  all_goals
    go_wp2_with fail
    go_ret2
    exact ⟨rfl, hit_fin HH.out _ _ (by omega) (by omega) _⟩

theorem ret_u8 {a b : Int} {x : Bool} (h : a = b) : Ending.returned (.tuple #[.int .u8 a, .bool x]) = .returned (.tuple #[.int .u8 b, .bool x]) := by rw [h]
theorem hit_fin2 {w0 w : World} {c a f st : Nat} {txt : List UInt8} {v : Value} {t : Rp.T} {s : ByteArray} (hm : Moved c w0 w) (h : Hit w c txt a f v t s st) (x y : Int) (hx : x = (a : Int) + 1) (hy : y = ((max f (a + 1) : Nat) : Int)) (k : Nat) :
    IsCur ((((w.drewN k).setCell ⟨c, 1, none⟩ (.int .i64 x)).setCell ⟨c, 2, none⟩ (.int .i64 y)).drew) c txt (a + 1) (max f (a + 1)) ∧ Moved c w0 ((((w.drewN k).setCell ⟨c, 1, none⟩ (.int .i64 x)).setCell ⟨c, 2, none⟩ (.int .i64 y)).drew) :=
  ⟨(hit_fin h x y hx hy k).1, hm.trans (hit_fin h x y hx hy k).2⟩
/-- the chunk is another one -/
theorem hit_set {w : World} {c a f : Nat} {txt : List UInt8} {v : Value} {t : Rp.T} {s s' : ByteArray} {st st' : Nat} (hr : w.heap[c]? = some (.cells #[v, .int .i64 (a : Int), .int .i64 (f : Int), .string s, .int .i64 ((st : Nat) : Int)] 84 (0, 0)))
    (h1 : IsTree w v t) (h2 : t.Bal) (h3 : t.text = txt) (h5 : f ≤ txt.length + 1) (h6 : txt.length ≤ 1048576) (F : Found txt a s' st') :
    Hit ((w.setCell ⟨c, 3, none⟩ (.string s')).setCell ⟨c, 4, none⟩ (.int .i64 (st' : Int))) c txt a f v t s' st' ∧ Moved c w ((w.setCell ⟨c, 3, none⟩ (.string s')).setCell ⟨c, 4, none⟩ (.int .i64 (st' : Int))) := by
  have hm := (Moved.set c 3 w (.string s')).trans (Moved.set c 4 _ (.int .i64 (st' : Int)))
  obtain ⟨-, c1, -, -, -, -⟩ := row_cells hr
  refine ⟨⟨?_, h1.moved c1 hm, h2, h3, F, h5, h6⟩, hm⟩
  simp [World.setCell, Array.getElem?_modify, hr]

theorem hit_set2 {w : World} {c a f : Nat} {txt : List UInt8} {v : Value} {t : Rp.T} {s s' : ByteArray} {st st' : Nat} (k : Nat) (hr : w.heap[c]? = some (.cells #[v, .int .i64 (a : Int), .int .i64 (f : Int), .string s, .int .i64 ((st : Nat) : Int)] 84 (0, 0)))
    (h1 : IsTree w v t) (h2 : t.Bal) (h3 : t.text = txt) (h5 : f ≤ txt.length + 1) (h6 : txt.length ≤ 1048576) (F : Found txt a s' st') :
    Hit (((w.drewN k).setCell ⟨c, 3, none⟩ (.string s')).setCell ⟨c, 4, none⟩ (.int .i64 (st' : Int))) c txt a f v t s' st' ∧ Moved c w (((w.drewN k).setCell ⟨c, 3, none⟩ (.string s')).setCell ⟨c, 4, none⟩ (.int .i64 (st' : Int))) := by
  obtain ⟨h7, h8⟩ := hit_set (w := w.drewN k) hr (h1.mono (below_drewN (Below.refl _ _) k)) h2 h3 h5 h6 F
  exact ⟨h7, (Moved.drewN c w k).trans h8⟩

set_option maxRecDepth 100000 in
set_option maxHeartbeats 2000000 in
theorem next_miss (c a f : Nat) (txt : List UInt8) (w : World) (h : IsCur w c txt a f) (ha : a < txt.length)
    (v : Value) (s : ByteArray) (st : Nat) (t : Rp.T) (hr : w.heap[c]? = some (.cells #[v, .int .i64 (a : Int), .int .i64 (f : Int), .string s, .int .i64 ((st : Nat) : Int)] 84 (0, 0)))
    (ht : IsTree w v t) (hB : t.Bal) (htx : t.text = txt) (hmiss : a < st ∨ st + s.size ≤ a) (hsz : st + s.size ≤ 1048576) :
    Calls Try.prog 22 #[.pointer (some ⟨c, 0, none⟩)] w fun e w' => e = .returned (.tuple #[.int .u8 ((txt[a]?.getD 0).toNat : Int), .bool true]) ∧ IsCur w' c txt (a + 1) (max f (a + 1)) ∧ Moved c w w' := by
  have h6 := h.len
  have h8 := h.far
  obtain ⟨c0, c1, c2, c3, c4, fz⟩ := row_cells hr
  have htl : t.len = txt.length := by rw [← htx, t.text_length]
  obtain ⟨u, x, fs, fl, rfl, ms, ml, es, el, cs, cl'⟩ := ht.face
  rw [htl] at cs
  have hF : Hid (∀ k, Calls Try.prog 36 #[.iface u x, .int .i64 (a : Int)] (w.drewN k) fun e w' => ∃ s' st', e = .returned (.tuple #[.string s', .int .i64 (st' : Nat)]) ∧ Found t.text a s' st' ∧ w.drewN k = w') := fun k => find_any _ t _ a (ht.mono (below_drewN (Below.refl _ _) k)) (by omega) (by omega)
  have HL : Hid _ := cs
  have HT : Hid _ := ht
  have HX : Hid _ := htx
  have HR : Hid _ := hr
  have he : ((a : Int) == (txt.length : Int)) = false := by rw [beq_eq_false_iff_ne]; omega
  have hw := wrap_small ((st : Int) + (s.size : Int)) (by omega) (by omega)
  clear cs cl' h ml el ht htx htl hr
  rcases hmiss with hm | hm
  · have hd : decide (a < st) = true := by rw [decide_eq_true_iff]; omega
    go_enter Try.func22, Try.ntmps22
    go_wp2_with fail
    go_quiet (exact quiet_same (HL.out _ (below_drewN (Below.refl _ _) _)))
    go_wp2_with fail
    go_quiet (fail)
    go_wp2_with fail
    go_cut [4] from 5 (fun _ wc => ∃ s2 st2, Hit wc c txt a f (.iface u x) t s2 st2 ∧ Moved c w wc)
    case first =>
      go_region_with (go_at_call 36; refine (hF.out _).mono ?_; rintro e w' ⟨s2, st2, rfl, F, rfl⟩; have FF : Hid _ := F; clear F)
      all_goals
        go_wp2_with fail
        go_meet
        exact ⟨s2, st2, hit_set2 _ HR.out HT.out hB HX.out h8 h6 (by rw [← HX.out]; exact FF.out)⟩
    case rest =>
      obtain ⟨s2, st2, hh, hmv⟩ := hcut
      clear hm hw c0 c1 c2 c3 c4 fz HL he
      have h7 := hh.found.lt
      have q1 := hh.found.lo
      have q2 := hh.found.hi
      obtain ⟨c0, c1, c2, c3, c4, fz⟩ := row_cells hh.row
      have hsz2 : s2.size ≤ 1048576 := by
        obtain ⟨⟨pre, post, e, hp⟩, lo, hi⟩ := hh.found
        have hs := Lib.size_eq s2
        rw [e, List.length_append, List.length_append] at h6
        omega
      have hst2 : st2 ≤ 1048576 := by omega
      have hw2 := wrap_small ((a : Int) - (st2 : Int)) (by omega) (by omega)
      obtain ⟨B, hB⟩ : ∃ B : Int, B = ((txt[a]?.getD 0).toNat : Int) := ⟨_, rfl⟩
      have hidx := idx_fact hh.found
      rw [← hB] at hidx
      have HB : Hid _ := hB
      have hb1 : 0 ≤ (a : Int) - (st2 : Int) := by omega
      have hb2 : (a : Int) - (st2 : Int) < (s2.size : Int) := by omega
      have HH : Hid _ := hh
      have HM : Hid _ := hmv
      clear hh hmv hB
      go_wp2_with fail
      go_quiet (fail)
      go_wp2_with fail
      go_region
      all_goals
        go_wp2_with fail
        go_ret2
        refine ⟨ret_u8 HB.out, ?_⟩
        exact hit_fin2 HM.out HH.out _ _ (by omega) (by omega) _
  · have hd : decide (a < st) = false := by rw [decide_eq_false_iff_not]; omega
    have hd2 : decide ((st : Int) + (s.size : Int) ≤ (a : Int)) = true := by rw [decide_eq_true_iff]; omega
    go_enter Try.func22, Try.ntmps22
    go_wp2_with fail
    go_quiet (exact quiet_same (HL.out _ (below_drewN (Below.refl _ _) _)))
    go_wp2_with fail
    go_quiet (fail)
    go_wp2_with fail
    go_cut [4] from 5 (fun _ wc => ∃ s2 st2, Hit wc c txt a f (.iface u x) t s2 st2 ∧ Moved c w wc)
    case first =>
      go_region_with (go_at_call 36; refine (hF.out _).mono ?_; rintro e w' ⟨s2, st2, rfl, F, rfl⟩; have FF : Hid _ := F; clear F)
      all_goals
        go_wp2_with fail
        go_meet
        exact ⟨s2, st2, hit_set2 _ HR.out HT.out hB HX.out h8 h6 (by rw [← HX.out]; exact FF.out)⟩
    case rest =>
      obtain ⟨s2, st2, hh, hmv⟩ := hcut
      clear hm hw c0 c1 c2 c3 c4 fz HL he
      have h7 := hh.found.lt
      have q1 := hh.found.lo
      have q2 := hh.found.hi
      obtain ⟨c0, c1, c2, c3, c4, fz⟩ := row_cells hh.row
      have hsz2 : s2.size ≤ 1048576 := by
        obtain ⟨⟨pre, post, e, hp⟩, lo, hi⟩ := hh.found
        have hs := Lib.size_eq s2
        rw [e, List.length_append, List.length_append] at h6
        omega
      have hst2 : st2 ≤ 1048576 := by omega
      have hw2 := wrap_small ((a : Int) - (st2 : Int)) (by omega) (by omega)
      obtain ⟨B, hB⟩ : ∃ B : Int, B = ((txt[a]?.getD 0).toNat : Int) := ⟨_, rfl⟩
      have hidx := idx_fact hh.found
      rw [← hB] at hidx
      have HB : Hid _ := hB
      have hb1 : 0 ≤ (a : Int) - (st2 : Int) := by omega
      have hb2 : (a : Int) - (st2 : Int) < (s2.size : Int) := by omega
      have HH : Hid _ := hh
      have HM : Hid _ := hmv
      clear hh hmv hB
      go_wp2_with fail
      go_quiet (fail)
      go_wp2_with fail
      go_region
      all_goals
        go_wp2_with fail
        go_ret2
        refine ⟨ret_u8 HB.out, ?_⟩
        exact hit_fin2 HM.out HH.out _ _ (by omega) (by omega) _

theorem next_any (c a f : Nat) (txt : List UInt8) (w : World) (h : IsCur w c txt a f) (ha : a < txt.length) :
    Calls Try.prog 22 #[.pointer (some ⟨c, 0, none⟩)] w fun e w' => e = .returned (.tuple #[.int .u8 ((txt[a]?.getD 0).toNat : Int), .bool true]) ∧ IsCur w' c txt (a + 1) (max f (a + 1)) ∧ Moved c w w' := by
  obtain ⟨v, s, st, hr, ⟨t, ht, hB, htx⟩, hcut⟩ := h.row
  have hsz : st + s.size ≤ txt.length := by
    obtain ⟨pre, post, e, hp⟩ := hcut
    have hs := Lib.size_eq s
    rw [e, List.length_append, List.length_append]
    omega
  have h6 := h.len
  by_cases hm : a < st ∨ st + s.size ≤ a
  · exact next_miss c a f txt w h ha v s st t hr ht hB htx hm (by omega)
  · exact next_hit c a f st txt w v t s ⟨hr, ht, hB, htx, ⟨hcut, by omega, by omega⟩, h.far, h.len⟩

end Go.Proofs.Ytnhmdbmcamfbiaa
