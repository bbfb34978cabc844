import Derived.Test.YtbhlaheidlnppaaRefb
import Derived.Laws.OwnMore
namespace Go.Proofs.Ytbhlaheidlnppaa
open Go.RowKit

theorem grown_none {w w' : World} (h : Below w.heap.size w w') : w.grownBy w' none := ⟨h.os, h.tape, h.output, h.size, fun k hk _ => h.block k hk⟩
theorem own_mono {w w' : World} {base : Nat} {e : TypeId} {z : Nat} {v : Value} {n : Nat} {xs : List Value} (h : w.ownsRow base e z v n xs) (hb : Below w.heap.size w w') : w'.ownsRow base e z v n xs :=
  h.kept (grown_none hb) (by cases hv : v.ownBlock <;> simp)

/-- the cells of marks, of rows -/
def mcells (M : List (Nat × Nat)) : List Value := M.flatMap fun m => [.int .i64 (m.1 : Int), .int .i64 (m.2 : Int)]
def rcells (T : List ((Nat × Nat) × Value)) : List Value := T.flatMap fun x => [.int .i64 (x.1.1 : Int), .int .i64 (x.1.2 : Int), x.2]
theorem mcells_len (M : List (Nat × Nat)) : (mcells M).length = M.length * 2 := by
  induction M with
  | nil => rfl
  | cons m M ih => simp only [mcells, List.flatMap_cons, List.length_append, List.length_cons] at *; simp at *; omega
theorem rcells_len (T : List ((Nat × Nat) × Value)) : (rcells T).length = T.length * 3 := by
  induction T with
  | nil => rfl
  | cons m M ih => simp only [rcells, List.flatMap_cons, List.length_append, List.length_cons] at *; simp at *; omega
theorem mcells_at (M : List (Nat × Nat)) (i : Nat) (m : Nat × Nat) (h : M[i]? = some m) : (mcells M)[i * 2]? = some (.int .i64 (m.1 : Int)) ∧ (mcells M)[i * 2 + 1]? = some (.int .i64 (m.2 : Int)) := by
  induction M generalizing i with
  | nil => simp at h
  | cons a M ih =>
    cases i with
    | zero =>
      simp at h
      subst h
      simp [mcells]
    | succ i =>
      have := ih i (by simpa using h)
      rw [show (i + 1) * 2 = i * 2 + 1 + 1 by omega]
      simpa [mcells] using this
theorem rcells_at (T : List ((Nat × Nat) × Value)) (i : Nat) (x : (Nat × Nat) × Value) (h : T[i]? = some x) :
    (rcells T)[i * 3]? = some (.int .i64 (x.1.1 : Int)) ∧ (rcells T)[i * 3 + 1]? = some (.int .i64 (x.1.2 : Int)) ∧ (rcells T)[i * 3 + 2]? = some x.2 := by
  induction T generalizing i with
  | nil => simp at h
  | cons a T ih =>
    cases i with
    | zero =>
      simp at h
      subst h
      simp [rcells]
    | succ i =>
      have := ih i (by simpa using h)
      rw [show (i + 1) * 3 = i * 3 + 1 + 1 + 1 by omega]
      simpa [rcells] using this
theorem mcells_app (M N : List (Nat × Nat)) : mcells (M ++ N) = mcells M ++ mcells N := by simp [mcells]
theorem rcells_app (M N : List ((Nat × Nat) × Value)) : rcells (M ++ N) = rcells M ++ rcells N := by simp [rcells]

/-- marks of a line -/
def Mk (w : World) (v : Value) (line : ByteArray) : Prop := ∃ M : List (Nat × Nat), (∀ m ∈ M, Bd line m.1 m.2) ∧ M.length ≤ line.size ∧ w.ownsRow 0 65 2 v M.length (mcells M)
theorem Mk.mono {w w' : World} {v : Value} {l : ByteArray} (h : Mk w v l) (hb : Below w.heap.size w w') : Mk w' v l := by
  obtain ⟨M, h1, hl, h2⟩ := h
  exact ⟨M, h1, hl, own_mono h2 hb⟩

/-- an index of a text lies at block b -/
structure Ix (w : World) (b : Nat) (s : ByteArray) (T : List ((Nat × Nat) × Value)) : Prop where
  text : w.cell? ⟨b, 0, none⟩ = some (.string s)
  rows : ∃ rv, w.cell? ⟨b, 1, none⟩ = some rv ∧ w.ownsRow 0 58 3 rv T.length (rcells T)
  marks : ∀ x ∈ T, Mk w x.2 (s.extract x.1.1 x.1.2)
  rw : Rw s 0 s.size (T.map (·.1))
  size : s.size ≤ 1099511627776
theorem Ix.mono {w w' : World} {b : Nat} {s : ByteArray} {T : List ((Nat × Nat) × Value)} (h : Ix w b s T) (hb : Below w.heap.size w w') : Ix w' b s T := by
  obtain ⟨h1, ⟨rv, h2, h3⟩, h4, h5, h6⟩ := h
  exact ⟨below_cell hb h1, ⟨rv, below_cell hb h2, own_mono h3 hb⟩, fun x hx => (h4 x hx).mono hb, h5, h6⟩

/-- its cells -/
structure IxC (w : World) (b g cap : Nat) (s : ByteArray) (T : List ((Nat × Nat) × Value)) : Prop where
  c0 : w.cell? ⟨b, 0, none⟩ = some (.string s)
  c1 : w.cell? ⟨b, 1, none⟩ = some (.slice (some ⟨g, 0, none⟩) T.length cap)
  row : ∀ (i : Nat) (x : (Nat × Nat) × Value), T[i]? = some x → w.cell? ⟨g, i * 3, none⟩ = some (.int .i64 (x.1.1 : Int)) ∧ w.cell? ⟨g, i * 3 + 1, none⟩ = some (.int .i64 (x.1.2 : Int)) ∧ w.cell? ⟨g, i * 3 + 2, none⟩ = some x.2
  pos : 0 < T.length
  len : T.length ≤ 1099511627777
  cap : T.length ≤ cap
theorem own_form {w : World} {base e z : Nat} {v : Value} {n : Nat} {xs : List Value} (h : w.ownsRow base e z v n xs) (hn : 0 < n) :
    ∃ g cap, v = .slice (some ⟨g, 0, none⟩) n cap ∧ n ≤ cap ∧ base ≤ g ∧ g < w.heap.size := by
  obtain ⟨h1, h2⟩ := h
  rcases h2 with ⟨_, h2⟩ | ⟨g, cap, cur, rfl, hg, hh, hcap, _⟩
  · omega
  · exact ⟨g, cap, rfl, hcap, hg, lt_of_heap hh⟩
theorem Ix.cells {w : World} {b : Nat} {s : ByteArray} {T : List ((Nat × Nat) × Value)} (h : Ix w b s T) : ∃ g cap, IxC w b g cap s T := by
  obtain ⟨h1, ⟨rv, h2, h3⟩, h4, h5, h6⟩ := h
  have hp : 0 < T.length := by have := h5.pos; simpa using this
  obtain ⟨g, cap, rfl, hc, _, _⟩ := own_form h3 hp
  refine ⟨g, cap, h1, h2, fun i x hx => ?_, hp, by have := h5.len; simp at this; omega, hc⟩
  have hi : i < T.length := (List.getElem?_eq_some_iff.1 hx).1
  obtain ⟨a1, a2, a3⟩ := rcells_at T i x hx
  exact ⟨by rw [h3.cellAt _ (by omega)]; exact a1, by rw [h3.cellAt _ (by omega)]; exact a2, by rw [h3.cellAt _ (by omega)]; exact a3⟩

set_option maxRecDepth 100000 in
set_option maxHeartbeats 400000 in
theorem rows_any (b : Nat) (s : ByteArray) (T : List ((Nat × Nat) × Value)) (w : World) (h : Ix w b s T) :
    Calls Try.prog 12 #[.pointer (some ⟨b, 0, none⟩)] w fun e w' => e = .returned (.int .i64 (T.length : Int)) ∧ w = w' := by
  obtain ⟨g, cap, C⟩ := h.cells
  have c1 := C.c1
  clear h C
  go_enter Try.func12, Try.ntmps12
  go_wp2_with fail
  go_ret
  exact ⟨rfl, rfl⟩

theorem Mk.form {w : World} {v : Value} {l : ByteArray} (h : Mk w v l) : ∃ p n c, v = .slice p n c := by
  obtain ⟨M, _, _, _, h2⟩ := h
  rcases h2 with ⟨rfl, _⟩ | ⟨g, cap, cur, rfl, _⟩
  · exact ⟨_, _, _, rfl⟩
  · exact ⟨_, _, _, rfl⟩
theorem Ix.mem {w : World} {b : Nat} {s : ByteArray} {T : List ((Nat × Nat) × Value)} (h : Ix w b s T) {n : Nat} {x : (Nat × Nat) × Value} (hx : T[n]? = some x) : Mk w x.2 (s.extract x.1.1 x.1.2) := h.marks x (List.mem_of_getElem? hx)

set_option maxRecDepth 100000 in
set_option maxHeartbeats 400000 in
theorem row_some (b : Nat) (s : ByteArray) (T : List ((Nat × Nat) × Value)) (n : Nat) (x : (Nat × Nat) × Value) (w : World) (h : Ix w b s T) (hx : T[n]? = some x) :
    Calls Try.prog 10 #[.pointer (some ⟨b, 0, none⟩), .int .i64 (n : Int)] w fun e w' => e = .returned (.tuple #[.agg #[.int .i64 (x.1.1 : Int), .int .i64 (x.1.2 : Int)], .bool true]) ∧ Below w.heap.size w w' := by
  obtain ⟨g, cap, C⟩ := (h.mono (bel_up w (.cells #[.int .i64 0, .int .i64 0] 25))).cells
  have c1 := C.c1
  obtain ⟨r0, r1, r2⟩ := C.row n x hx
  have hn : n < T.length := (List.getElem?_eq_some_iff.1 hx).1
  have hl := C.len
  obtain ⟨mp, mn, mc, he⟩ := (h.mem hx).form
  obtain ⟨⟨a, e⟩, v⟩ := x
  simp only at he r0 r1 r2 ⊢
  subst he
  clear h C hx
  go_enter Try.func10, Try.ntmps10
  go_wp2_with fail
  (try simp only [Exit.inBlock, Exit.then])
  refine bodyPost_ret (v := .tuple #[.agg #[.int .i64 (a : Int), .int .i64 (e : Int)], .bool true]) ?_ rfl ⟨rfl, ?_⟩
  · rw [results_cell_tmp rfl]; go_simp
  · (repeat' (first | exact Below.refl _ _ | refine Below.drew ?_ | refine Below.alloc ?_ (by simp <;> omega) _ | refine Below.setCell ?_ (by simp <;> omega) _))
set_option maxRecDepth 100000 in
set_option maxHeartbeats 400000 in
theorem row_none (b : Nat) (s : ByteArray) (T : List ((Nat × Nat) × Value)) (n : Int) (w : World) (h : Ix w b s T) (hn : n < 0 ∨ (T.length : Int) ≤ n) :
    Calls Try.prog 10 #[.pointer (some ⟨b, 0, none⟩), .int .i64 n] w fun e w' => e = .returned (.tuple #[.agg #[.int .i64 0, .int .i64 0], .bool false]) ∧ Below w.heap.size w w' := by
  obtain ⟨g, cap, C⟩ := (h.mono (bel_up w (.cells #[.int .i64 0, .int .i64 0] 25))).cells
  have c1 := C.c1
  have hl := C.len
  clear h C
  by_cases h0 : n < 0
  · clear hn
    go_enter Try.func10, Try.ntmps10
    go_wp2_with fail
    (try simp only [Exit.inBlock, Exit.then])
    refine bodyPost_ret (v := .tuple #[.agg #[.int .i64 0, .int .i64 0], .bool false]) ?_ rfl ⟨rfl, ?_⟩
    · rw [results_cell_tmp rfl]; go_simp
    · (repeat' (first | exact Below.refl _ _ | refine Below.drew ?_ | refine Below.alloc ?_ (by simp <;> omega) _ | refine Below.setCell ?_ (by simp <;> omega) _))
  · have h1 : (T.length : Int) ≤ n := by omega
    clear hn
    go_enter Try.func10, Try.ntmps10
    go_wp2_with fail
    (try simp only [Exit.inBlock, Exit.then])
    refine bodyPost_ret (v := .tuple #[.agg #[.int .i64 0, .int .i64 0], .bool false]) ?_ rfl ⟨rfl, ?_⟩
    · rw [results_cell_tmp rfl]; go_simp
    · (repeat' (first | exact Below.refl _ _ | refine Below.drew ?_ | refine Below.alloc ?_ (by simp <;> omega) _ | refine Below.setCell ?_ (by simp <;> omega) _))

set_option maxRecDepth 100000 in
set_option maxHeartbeats 400000 in
theorem clamp_any (n m : Int) (w : World) (hm : 0 ≤ m) :
    Calls Try.prog 29 #[.int .i64 n, .int .i64 m] w fun e w' => e = .returned (.int .i64 (cl n m)) ∧ w = w' := by
  go_enter Try.func29, Try.ntmps29
  go_wp2
  all_goals
    go_ret
    exact ⟨ret_int (by unfold cl; split <;> (try split) <;> omega), rfl⟩

end Go.Proofs.Ytbhlaheidlnppaa
