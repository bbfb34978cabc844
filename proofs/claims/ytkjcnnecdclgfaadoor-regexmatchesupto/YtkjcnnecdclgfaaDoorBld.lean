import Derived.Shelf.Strings.Builder1
import Derived.Test.YtkjcnnecdclgfaaDoorRuns
namespace Go.Proofs.YtkjcnnecdclgfaaDoor
open Go.RowKit
open Go.RowKit Go.Shelf
/-- What writing keeps: all below B; and every block but the writer's that is no row of bytes. -/
structure Fr (B b : Nat) (W W' : World) : Prop where
  bel : Below B W W'
  kept : ∀ k vs t fz, W.heap[k]? = some (.cells vs t fz) → k ≠ b → t ≠ 5 → W'.heap[k]? = some (.cells vs t fz)
theorem Fr.refl (B b : Nat) (W : World) : Fr B b W W := ⟨Below.refl _ _, fun _ _ _ _ h _ _ => h⟩
theorem Fr.trans {B b : Nat} {W W1 W2 : World} (h : Fr B b W W1) (k : Fr B b W1 W2) : Fr B b W W2 :=
  ⟨h.bel.trans k.bel, fun j vs t fz h1 h2 h3 => k.kept j vs t fz (h.kept j vs t fz h1 h2 h3) h2 h3⟩
theorem below_heap {w w' : World} {n : Nat} (h : Below n w w') {k : Nat} {o : Obj} (hk : w.heap[k]? = some o) (hn : k < n) : w'.heap[k]? = some o := by
  rw [← hk]
  exact h.block k hn
theorem Fr.of {B b : Nat} {W W' : World} (h : Below W.heap.size W W') (hB : B ≤ W.heap.size) : Fr B b W W' :=
  ⟨h.mono hB, fun _ _ _ _ h1 _ _ => below_heap h h1 (lt_of_heap h1)⟩
theorem Fr.set {B b : Nat} (W : World) (o : Nat) (v : Value) (hB : B ≤ b) : Fr B b W (W.setCell ⟨b, o, none⟩ v) :=
  ⟨(Below.refl B W).setCell (p := ⟨b, o, none⟩) hB v, fun k _ _ _ h1 h2 _ => by rw [Below.heap_setCell _ _ _ _ (fun e => h2 e)]; exact h1⟩

/-- A writer: its list, its builder and the bytes. -/
def WrAt (B b : Nat) (rv p : Value) (bs : List Value) (w : World) : Prop :=
  B ≤ b ∧ ∃ v, w.heap[b]? = some (.cells #[rv, p, v] 60 (0, 0)) ∧ w.ownsRow B 5 1 v bs.length bs ∧ v.ownBlock ≠ some b
def IsWr (B b : Nat) (rv : Value) (bs : List Value) (w : World) : Prop :=
  WrAt B b rv (.pointer none) bs w ∨ WrAt B b rv (.pointer (some ⟨b, 1, none⟩)) bs w
theorem size41 : (Tryd.prog.info? 58).map (·.size) = some 2 := by kernel_rfl
theorem lies43 : liesAt Tryd.prog Tryd.prog.depth 60 (3 / Tryd.prog.cellsOf 60) 1 58 1 = true := by kernel_rfl
theorem info5 : (Tryd.prog.info? 5).map (fun i => (i.zero, i.size, i.bytes)) = some (some (.int .u8 0), 1, 1) := by kernel_rfl
theorem cells5 : Tryd.prog.cellsOf 5 = 1 := by kernel_rfl

set_option maxHeartbeats 1000000 in
set_option maxRecDepth 100000 in
theorem copyCheck_used (b : Nat) (w : World) (h0 : w.cell? ⟨b, 1, none⟩ = some (.pointer (some ⟨b, 1, none⟩))) :
    Calls Tryd.prog 62 #[.pointer (some ⟨b, 1, none⟩)] w fun e w' => e = .returned (.tuple #[]) ∧ w' = w := by
  obtain ⟨j, hj, _⟩ := Option.map_eq_some_iff.1 size41
  go_enter Tryd.func62, Tryd.ntmps62
  go_wp2
  rw [Lib.run_neq_ptr_same w _ Tryd.underlying56 hj]
  go_wp2
  go_end0
  exact ⟨rfl, rfl⟩
set_option maxHeartbeats 1000000 in
set_option maxRecDepth 100000 in
theorem copyCheck_fresh (b : Nat) (w : World) (h0 : w.cell? ⟨b, 1, none⟩ = some (.pointer none)) (hsh : w.shape? b = some (60, 3)) (hfz : w.frozen? ⟨b, 1, none⟩ = false) :
    Calls Tryd.prog 62 #[.pointer (some ⟨b, 1, none⟩)] w fun e w' => e = .returned (.tuple #[]) ∧ w' = w.setCell ⟨b, 1, none⟩ (.pointer (some ⟨b, 1, none⟩)) := by
  obtain ⟨j, hj, hjs⟩ := Option.map_eq_some_iff.1 size41
  go_enter Tryd.func62, Tryd.ntmps62
  go_wp2
  rw [Lib.run_to_unsafe w ⟨b, 1, none⟩ Tryd.underlying56 Tryd.underlying125 hj (by rw [hjs]; decide) hsh (by show 1 < 3; decide)]
  simp only [Result.andThen]
  rw [Oper.upon_value]
  go_wp2
  rw [run_callFunc_extern Tryd.func72 (by kernel_rfl) (by kernel_rfl) (by kernel_rfl) (e := Extern.AbiNoEscape.same) (by kernel_rfl)]
  rw [Lib.run_noEscape]
  simp only [Result.andThen]
  rw [Oper.upon_value]
  go_wp2
  rw [Lib.run_from_unsafe w ⟨b, 1, none⟩ Tryd.underlying125 Tryd.underlying56 hj hsh lies43]
  simp only [Result.andThen]
  rw [Oper.upon_value]
  go_wp2
  go_end0
  exact ⟨rfl, rfl⟩
theorem WrAt.used {B b : Nat} {rv p : Value} {bs : List Value} {w : World} (h : WrAt B b rv p bs w) (q : Value) : WrAt B b rv q bs (w.setCell ⟨b, 1, none⟩ q) := by
  obtain ⟨hB, v, hb, hown, hne⟩ := h
  refine ⟨hB, v, ?_, ?_, hne⟩
  · simp [World.setCell, Array.getElem?_modify, hb]
  · refine hown.kept (row := some b) ⟨rfl, rfl, rfl, by simp [World.setCell], fun k _ hk => Below.heap_setCell _ _ _ _ (fun e => hk (by simp [e]))⟩ ?_
    exact Or.inr hne
theorem copyCheck_any (B b : Nat) (rv : Value) (bs : List Value) (w : World) (h : IsWr B b rv bs w) :
    Calls Tryd.prog 62 #[.pointer (some ⟨b, 1, none⟩)] w fun e w' => e = .returned (.tuple #[]) ∧ WrAt B b rv (.pointer (some ⟨b, 1, none⟩)) bs w' ∧ Fr B b w w' ∧ w'.heap.size = w.heap.size := by
  rcases h with h | h
  · have h' := h
    obtain ⟨_, v, hb, _, _⟩ := h'
    refine (copyCheck_fresh b w ?_ ?_ ?_).mono ?_
    · rw [Lib.cell_of_heap hb]; rfl
    · simp [World.shape?, hb]
    · exact Lib.frozen_of_heap hb 1
    rintro e w' ⟨rfl, rfl⟩
    exact ⟨rfl, h.used _, Fr.set _ _ _ h.1, by simp⟩
  · have h' := h
    obtain ⟨_, v, hb, _, _⟩ := h'
    refine (copyCheck_used b w ?_).mono ?_
    · rw [Lib.cell_of_heap hb]; rfl
    rintro e w' ⟨rfl, rfl⟩
    exact ⟨rfl, h, Fr.refl _ _ _, rfl⟩
theorem WrAt.put {B b : Nat} {rv p v v' : Value} {bs' : List Value} {w : World} (hB : B ≤ b) (hb : w.heap[b]? = some (.cells #[rv, p, v] 60 (0, 0))) (hown : w.ownsRow B 5 1 v' bs'.length bs') :
    WrAt B b rv p bs' (w.setCell ⟨b, 2, none⟩ v') := by
  have hne := Lib.ownBlock_ne hown hb (by decide)
  refine ⟨hB, v', ?_, ?_, hne⟩
  · simp [World.setCell, Array.getElem?_modify, hb]
  · exact hown.kept (row := some b) ⟨rfl, rfl, rfl, by simp [World.setCell], fun k _ hk => Below.heap_setCell _ _ _ _ (fun e => hk (by simp [e]))⟩ (Or.inr hne)

set_option maxHeartbeats 2000000 in
set_option maxRecDepth 100000 in
theorem writeByte_any (B b : Nat) (rv : Value) (bs : List Value) (c : Int) (w : World) (h : IsWr B b rv bs w) (hlen : bs.length + 1 ≤ 140737488355328) (hBw : B ≤ w.heap.size) :
    Calls Tryd.prog 42 #[.pointer (some ⟨b, 1, none⟩), .int .u8 c] w fun e w' => e = .returned .nilIface ∧ IsWr B b rv (bs ++ [.int .u8 c]) w' ∧ Fr B b w w' := by
  obtain ⟨i0, hi, hz0, hz1, hz2⟩ := info_parts info5
  go_enter Tryd.func42, Tryd.ntmps42
  go_wp2_with fail
  refine (copyCheck_any B b rv bs _ h).mono ?_
  rintro e w1 ⟨rfl, h1, hf1, hs1⟩
  obtain ⟨hB, v, hbk, hown, hne⟩ := h1
  have c1 : w1.cell? ⟨b, 2, none⟩ = some v := by rw [Lib.cell_of_heap hbk]; rfl
  have HF1 : Hid _ := hf1
  have HBK : Hid _ := hbk
  have HS1 : Hid _ := hs1
  clear hf1 hbk hs1 h
  go_wp2_with (at_builtin; refine wpList_append_own _ rfl _ _ 36 rfl B 5 i0 (.int .u8 0) 1 1 Tryd.underlying36 hi hz0 hz1 hz2 rfl (by decide) _ _ _ rfl (hown.alloc _) ⟨w1.heap.size, 0, none⟩ 1 1 [.int .u8 c] rfl rfl ?c1 ?c2 ?c3 ?c4 ?c5 ?_)
  case c1 =>
    intro j u hj
    match j, hj with
    | 0, hj => simp at hj; subst hj; simp [Addr.add]
  case c2 => intro u hu; simp at hu; subst hu; rfl
  case c3 => unfold maxLen; omega
  case c4 => omega
  case c5 => have := HS1.out; simp; omega
  intro v' w2 hown' hgrow _
  have hbk := HBK.out
  have hlt : b < w1.heap.size := lt_of_heap hbk
  have hb2 : w2.heap[b]? = some (.cells #[rv, .pointer (some ⟨b, 1, none⟩), v] 60 (0, 0)) := by
    rw [hgrow.block b (by simp; omega) (fun e => hne e.symm), Lib.alloc_old w1 _ b hlt]
    exact hbk
  have d1 : w2.cell? ⟨b, 2, none⟩ = some v := by rw [Lib.cell_of_heap hb2]; rfl
  have f1 : w2.frozen? ⟨b, 2, none⟩ = false := Lib.frozen_of_heap hb2 2
  obtain ⟨g, cap, rfl⟩ : ∃ g cap, v' = .slice (some ⟨g, 0, none⟩) (bs.length + 1) cap := by
    rcases hown'.2 with ⟨_, h0⟩ | ⟨g, cap, cur, hv, _⟩
    · omega
    · exact ⟨g, cap, hv⟩
  have HF2 : Hid (Fr B b w1 w2) := by
    refine ⟨((Below.refl B w1).alloc (by have := HS1.out; omega) _).grown hgrow (by have := HS1.out; simp; omega) (fun k hk => (hown.lt k hk).1), ?_⟩
    intro k vs t fz h1 h2 h3
    have hk := lt_of_heap h1
    rw [hgrow.block k (by simp; omega) (fun e => Lib.ownBlock_ne hown h1 h3 e.symm), Lib.alloc_old w1 _ k hk]
    exact h1
  have HB2 : Hid _ := hb2
  have HO : Hid _ := hown'
  clear hbk hb2 hown' hgrow
  go_wp2_with fail
  go_ret
  refine ⟨rfl, ?_, ?_⟩
  · exact .inr (WrAt.put hB HB2.out (bs' := bs ++ [.int .u8 c]) (by rw [show (bs ++ [Value.int .u8 c]).length = bs.length + 1 by simp]; exact HO.out))
  · exact (HF1.out.trans HF2.out).trans (Fr.set _ _ _ hB)

set_option maxHeartbeats 2000000 in
set_option maxRecDepth 100000 in
theorem writeString_any (B b : Nat) (rv : Value) (bs : List Value) (s : ByteArray) (w : World) (h : IsWr B b rv bs w) (hlen : bs.length + s.size ≤ 140737488355328) (hBw : B ≤ w.heap.size) :
    Calls Tryd.prog 40 #[.pointer (some ⟨b, 1, none⟩), .string s] w fun e w' => (∃ v, e = .returned v) ∧ IsWr B b rv (bs ++ Lib.strCells s) w' ∧ Fr B b w w' := by
  obtain ⟨i0, hi, hz0, hz1, hz2⟩ := info_parts info5
  go_enter Tryd.func40, Tryd.ntmps40
  go_wp2_with fail
  refine (copyCheck_any B b rv bs _ h).mono ?_
  rintro e w1 ⟨rfl, h1, hf1, hs1⟩
  obtain ⟨hB, v, hbk, hown, hne⟩ := h1
  have c1 : w1.cell? ⟨b, 2, none⟩ = some v := by rw [Lib.cell_of_heap hbk]; rfl
  have HF1 : Hid _ := hf1
  have HBK : Hid _ := hbk
  have HS1 : Hid _ := hs1
  clear hf1 hbk hs1 h
  go_wp2_with (at_builtin; refine Lib.wpList_append_own_string _ rfl _ _ 36 9 rfl B 5 i0 Tryd.underlying36 Tryd.underlying9 hi hz0 hz1 hz2 _ _ _ rfl hown s rfl ?c3 ?c4 ?c5 ?_)
  case c3 => unfold maxLen; omega
  case c4 => omega
  case c5 => have := HS1.out; omega
  intro v' w2 hown' hgrow _
  have hbk := HBK.out
  have hlt : b < w1.heap.size := lt_of_heap hbk
  have hb2 : w2.heap[b]? = some (.cells #[rv, .pointer (some ⟨b, 1, none⟩), v] 60 (0, 0)) := by
    rw [hgrow.block b hlt (fun e => hne e.symm)]
    exact hbk
  have d1 : w2.cell? ⟨b, 2, none⟩ = some v := by rw [Lib.cell_of_heap hb2]; rfl
  have f1 : w2.frozen? ⟨b, 2, none⟩ = false := Lib.frozen_of_heap hb2 2
  obtain ⟨ao, n', cap, rfl⟩ : ∃ ao n' cap, v' = .slice ao n' cap := by
    rcases hown'.2 with ⟨hv, _⟩ | ⟨g, cap, cur, hv, _⟩
    · exact ⟨_, _, _, hv⟩
    · exact ⟨_, _, _, hv⟩
  have HF2 : Hid (Fr B b w1 w2) := by
    refine ⟨(Below.refl B w1).grown hgrow (by have := HS1.out; omega) (fun k hk => (hown.lt k hk).1), ?_⟩
    intro k vs t fz h1 h2 h3
    rw [hgrow.block k (lt_of_heap h1) (fun e => Lib.ownBlock_ne hown h1 h3 e.symm)]
    exact h1
  have HB2 : Hid _ := hb2
  have HO : Hid _ := hown'
  clear hbk hb2 hown' hgrow
  go_wp2_with fail
  go_ret2
  refine ⟨⟨_, rfl⟩, ?_, ?_⟩
  · exact .inr (WrAt.put hB HB2.out (bs' := bs ++ Lib.strCells s) (by rw [show (bs ++ Lib.strCells s).length = bs.length + s.size by rw [List.length_append, Lib.strCells_length]]; exact HO.out))
  · exact (HF1.out.trans HF2.out).trans (Fr.set _ _ _ hB)

set_option maxHeartbeats 1000000 in
set_option maxRecDepth 100000 in
theorem bstring_any (B b : Nat) (rv : Value) (l : List UInt8) (w : World) (h : IsWr B b rv (Lib.byteCells l) w) (h0 : l ≠ []) :
    Calls Tryd.prog 27 #[.pointer (some ⟨b, 1, none⟩)] w fun e w' => e = .returned (.string ⟨l.toArray⟩) ∧ Below B w w' := by
  obtain ⟨p, hB, v, hbk, hown, hne⟩ : ∃ p, WrAt B b rv p (Lib.byteCells l) w := by
    rcases h with h | h
    · exact ⟨_, h⟩
    · exact ⟨_, h⟩
  have hl0 : l.length ≠ 0 := by simpa using h0
  rw [Lib.byteCells_length] at hown
  obtain ⟨g, cap, cur, rfl, hbg, hg, hnc, hcm, hcs, htake⟩ : ∃ g cap cur, v = .slice (some ⟨g, 0, none⟩) l.length cap ∧ B ≤ g ∧ w.heap[g]? = some (.cells cur 5 (0, 0)) ∧ l.length ≤ cap ∧ cap ≤ maxLen ∧ cur.size = cap * 1 ∧ cur.toList.take (l.length * 1) = Lib.byteCells l := by
    rcases hown.2 with ⟨_, hz⟩ | ⟨g, cap, cur, hv, r⟩
    · exact absurd hz hl0
    · exact ⟨g, cap, cur, hv, r⟩
  have c1 : w.drew.cell? ⟨b, 2, none⟩ = some (.slice (some ⟨g, 0, none⟩) l.length cap) := by
    have : w.drew.heap[b]? = some (.cells #[rv, p, .slice (some ⟨g, 0, none⟩) l.length cap] 60 (0, 0)) := hbk
    rw [Lib.cell_of_heap this]; rfl
  have hSD : (Builtin.unsafeSliceData_ #[36] 99 #[.slice (some ⟨g, 0, none⟩) l.length cap]).run Tryd.prog w.drew = .ok (.pointer (some ⟨g, 0, none⟩)) w.drew :=
    Lib.run_unsafeSliceData_row _ _ _ _ _ _ (by omega)
  have hUS : (Builtin.unsafeString_ #[99, 3] 9 #[.pointer (some ⟨g, 0, none⟩), .int .i64 l.length]).run Tryd.prog w.drew = .ok (.string ⟨l.toArray⟩) (w.drew.freeze ⟨g, 0, none⟩ l.length) := by
    refine Lib.run_unsafeString_row w.drew 99 3 9 5 Tryd.underlying99 cells5 g cur.size (by have hg' : w.drew.heap[g]? = some (.cells cur 5 (0, 0)) := hg; simp [World.shape?, hg']) l h0 (by omega) (by unfold maxLen at hcm; omega) ?_
    intro j x hx
    have := hown.cells (g := g) rfl j (.int .u8 x.toNat) (by simp [Lib.byteCells, hx])
    exact this
  have HG : Hid _ := hbg
  clear hbk hown hne hl0 hg hnc hcm hcs htake hbg h h0
  go_enter Tryd.func27, Tryd.ntmps27
  go_wp2
  go_region
  all_goals (go_wp2; go_ret; exact ⟨rfl, Lib.below_freeze (Below.drew (Below.refl B w)) (p := ⟨g, 0, none⟩) HG.out _⟩)
end Go.Proofs.YtkjcnnecdclgfaaDoor
