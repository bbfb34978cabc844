import Derived.Test.YthfijmabagjdkaaQra
import Derived.Test.YthfijmabagjdkaaQrp
namespace Go.Proofs.Ythfijmabagjdkaa.Qy
open Go.RowKit Go.Maps

/-! The reference's reader in memory. -/
structure Rm where
  at_ : Nat
  ns : List Pn
  cs : List Cd
  e : Int
  po : Nat
/-- Only blocks of S have turned. -/
structure Kr (w w' : World) (S : Nat → Prop) : Prop where
  os : w'.os = w.os
  tape : w'.tape = w.tape
  output : w'.output = w.output
  size : w.heap.size ≤ w'.heap.size
  block : ∀ j, j < w.heap.size → ¬S j → w'.heap[j]? = w.heap[j]?
theorem Kr.refl (w : World) (S : Nat → Prop) : Kr w w S := ⟨rfl, rfl, rfl, Nat.le_refl _, fun _ _ _ => rfl⟩
theorem Kr.trans {a b c : World} {S S' : Nat → Prop} (h : Kr a b S) (k : Kr b c S') (hs : ∀ j, S' j → S j ∨ a.heap.size ≤ j) : Kr a c S :=
  ⟨k.os.trans h.os, k.tape.trans h.tape, k.output.trans h.output, Nat.le_trans h.size k.size, fun j hj hn => by
    rw [k.block j (Nat.lt_of_lt_of_le hj h.size) (fun e => (hs j e).elim hn (fun q => by omega)), h.block j hj hn]⟩
theorem Kr.mono {w w' : World} {S S' : Nat → Prop} (h : Kr w w' S) (hs : ∀ j, S j → S' j) : Kr w w' S' := ⟨h.os, h.tape, h.output, h.size, fun j hj hn => h.block j hj (fun e => hn (hs j e))⟩
theorem Kr.below {w w' : World} {S : Nat → Prop} {B : Nat} (h : Kr w w' S) (hs : ∀ j, S j → B ≤ j) (hB : B ≤ w.heap.size) : Below B w w' := ⟨h.os, h.tape, h.output, h.size, fun j hj => h.block j (by omega) (fun e => by have := hs j e; omega)⟩
theorem Kr.of_below {w w' : World} {S : Nat → Prop} (h : Below w.heap.size w w') : Kr w w' S := ⟨h.os, h.tape, h.output, h.size, fun j hj _ => h.block j hj⟩
theorem Kr.of_grown {w w' : World} {row : Option Nat} (h : w.grownBy w' row) : Kr w w' (fun j => row = some j) := ⟨h.os, h.tape, h.output, h.size, fun j hj hn => h.block j hj (fun e => hn e.symm)⟩
theorem Kr.set (w : World) (b k : Nat) (v : Value) : Kr w (w.setCell ⟨b, k, none⟩ v) (fun j => j = b) := (Kr.of_grown (grown_set (W := w) (b := b) (k := k) (v := v))).mono fun j e => by injection e with e; exact e.symm
/-- The words, below a block. -/
def WL (B : Nat) (W : World) (vl : Value) (L : List Wd) : Prop := ∃ ad cap, vl = .slice ad L.length cap ∧ ∀ i, i < L.length → ∃ g o, ad = some ⟨g, o, none⟩ ∧ g < B ∧ W.cell? ⟨g, o + i * 4, none⟩ = some (.int .i64 (L.getD i w0).k) ∧ W.cell? ⟨g, o + i * 4 + 1, none⟩ = some (.string ⟨(L.getD i w0).t.toArray⟩) ∧ W.cell? ⟨g, o + i * 4 + 3, none⟩ = some (.int .i64 (L.getD i w0).a)
theorem WL.up {B : Nat} {W W' : World} {vl : Value} {L : List Wd} (h : WL B W vl L) (hb : Below B W W') : WL B W' vl L := by
  obtain ⟨ad, cap, e, hc⟩ := h
  refine ⟨ad, cap, e, fun i hi => ?_⟩
  obtain ⟨g, o, e2, hg, c0, c1, c3⟩ := hc i hi
  exact ⟨g, o, e2, hg, bel_cell hb c0 hg, bel_cell hb c1 hg, bel_cell hb c3 hg⟩
structure Rr (B : Nat) (W : World) (r : Nat) (vl vn vc : Value) (L : List Wd) (m : Rm) : Prop where
  lt : B ≤ r
  blk : W.heap[r]? = some (.cells #[vl, .int .i64 (m.at_ : Int), vn, vc, .int .i64 m.e, .int .i64 (m.po : Int)] 38 (0, 0))
  wl : WL B W vl L
  ns : W.ownsRow B 46 5 vn m.ns.length (flat pf m.ns)
  cs : W.ownsRow B 48 4 vc m.cs.length (flat cf m.cs)
theorem Rr.size {B : Nat} {W : World} {r : Nat} {vl vn vc : Value} {L : List Wd} {m : Rm} (h : Rr B W r vl vn vc L m) : B ≤ W.heap.size ∧ r < W.heap.size := by
  have := lt_of_heap h.blk
  have := h.lt
  exact ⟨by omega, by omega⟩
theorem Rr.up {B : Nat} {W W' : World} {r : Nat} {vl vn vc : Value} {L : List Wd} {m : Rm} (h : Rr B W r vl vn vc L m) (hb : Below W.heap.size W W') : Rr B W' r vl vn vc L m :=
  ⟨h.lt, (hb.block _ (lt_of_heap h.blk)).trans h.blk, h.wl.up (hb.mono h.size.1), row_up h.ns hb, row_up h.cs hb⟩
theorem Rr.drew {B : Nat} {W : World} {r : Nat} {vl vn vc : Value} {L : List Wd} {m : Rm} (h : Rr B W r vl vn vc L m) : Rr B W.drew r vl vn vc L m := h.up (Below.drew (Below.refl _ _))
theorem Rr.set1 {B : Nat} {W : World} {r : Nat} {vl vn vc : Value} {L : List Wd} {m : Rm} (a : Nat) (h : Rr B W r vl vn vc L m) : Rr B (W.setCell ⟨r, 1, none⟩ (.int .i64 (a : Int))) r vl vn vc L ⟨a, m.ns, m.cs, m.e, m.po⟩ :=
  ⟨h.lt, by rw [blk_set _ h.blk]; rfl, h.wl.up (Below.setCell (Below.refl _ _) h.lt _), (row_off h.blk h.ns (by decide)).1, (row_off h.blk h.cs (by decide)).1⟩
theorem Rr.set4 {B : Nat} {W : World} {r : Nat} {vl vn vc : Value} {L : List Wd} {m : Rm} (c : Int) (h : Rr B W r vl vn vc L m) : Rr B (W.setCell ⟨r, 4, none⟩ (.int .i64 c)) r vl vn vc L ⟨m.at_, m.ns, m.cs, c, m.po⟩ :=
  ⟨h.lt, by rw [blk_set _ h.blk]; rfl, h.wl.up (Below.setCell (Below.refl _ _) h.lt _), (row_off h.blk h.ns (by decide)).1, (row_off h.blk h.cs (by decide)).1⟩
theorem Rr.set5 {B : Nat} {W : World} {r : Nat} {vl vn vc : Value} {L : List Wd} {m : Rm} (p : Nat) (h : Rr B W r vl vn vc L m) : Rr B (W.setCell ⟨r, 5, none⟩ (.int .i64 (p : Int))) r vl vn vc L ⟨m.at_, m.ns, m.cs, m.e, p⟩ :=
  ⟨h.lt, by rw [blk_set _ h.blk]; rfl, h.wl.up (Below.setCell (Below.refl _ _) h.lt _), (row_off h.blk h.ns (by decide)).1, (row_off h.blk h.cs (by decide)).1⟩
theorem Rr.open {B : Nat} {W : World} {r : Nat} {vl vn vc : Value} {L : List Wd} {m : Rm} (h : Rr B W r vl vn vc L m) : W.cell? ⟨r, 0, none⟩ = some vl ∧ W.cell? ⟨r, 1, none⟩ = some (.int .i64 (m.at_ : Int)) ∧ W.cell? ⟨r, 2, none⟩ = some vn ∧ W.cell? ⟨r, 3, none⟩ = some vc ∧ W.cell? ⟨r, 4, none⟩ = some (.int .i64 m.e) ∧ W.cell? ⟨r, 5, none⟩ = some (.int .i64 (m.po : Int)) :=
  ⟨rcell h.blk 0 _ rfl, rcell h.blk 1 _ rfl, rcell h.blk 2 _ rfl, rcell h.blk 3 _ rfl, rcell h.blk 4 _ rfl, rcell h.blk 5 _ rfl⟩
theorem Rr.froz {B : Nat} {W : World} {r : Nat} {vl vn vc : Value} {L : List Wd} {m : Rm} (h : Rr B W r vl vn vc L m) (k : Nat) : W.frozen? ⟨r, k, none⟩ = false := Lib.frozen_of_heap h.blk k
/-- What a word is asked. -/
def seR (L : List Wd) (i : Nat) (k : Int) (t : List UInt8) : Bool := decide (i < L.length) && ((L.getD i w0).k == k && decide ((L.getD i w0).t = t))
def nmR (L : List Wd) (i : Nat) : Bool := decide (i < L.length) && ((L.getD i w0).k == 1 && !decide ((L.getD i w0).t = [95]))
theorem isE (l : List UInt8) : decide (l = []) = l.isEmpty := by cases l <;> simp
def txR (L : List Wd) (i : Nat) : Bool := decide (i < L.length) && ((L.getD i w0).k == 2 && !decide ((L.getD i w0).t = []))
set_option maxRecDepth 100000 in
set_option maxHeartbeats 4000000 in
theorem rsees_any {B r : Nat} {vl vn vc : Value} {L : List Wd} {m : Rm} (i : Nat) (k : Int) (t : List UInt8) (w : World) (h : Rr B w r vl vn vc L m) : Calls Try.prog 17 #[.pointer (some ⟨r, 0, none⟩), .int .i64 (i : Int), .int .i64 k, .string ⟨t.toArray⟩] w fun e w' => e = .returned (.bool (seR L i k t)) ∧ w = w' := by
  obtain ⟨k0, -⟩ := h.open
  obtain ⟨ad, cap, rfl, hc⟩ := h.wl
  obtain ⟨n, hn⟩ : ∃ n, L.length = n := ⟨_, rfl⟩
  obtain ⟨V, hV⟩ : ∃ V, seR L i k t = V := ⟨_, rfl⟩
  have hse : seR L i k t = (decide (i < n) && ((L.getD i w0).k == k && decide ((L.getD i w0).t = t))) := by unfold seR; rw [hn]
  rw [hV] at hse
  rw [hV]
  rw [hn] at k0 hc
  by_cases q0 : i < n
  · obtain ⟨g, o, rfl, -, c0, c1, -⟩ := hc i q0
    obtain ⟨x, hx⟩ : ∃ x, L.getD i w0 = x := ⟨_, rfl⟩
    rw [hx] at c0 c1 hse
    rw [decide_eq_true q0, Bool.true_and] at hse
    have HV : Hid (V = ((x.k == k) && decide (x.t = t))) := hse
    have e1 : decide ((i : Int) < (n : Int)) = true := by rw [decide_eq_true_eq]; omega
    have e2 : decide (i < n) = true := decide_eq_true q0
    have b0 : (0 : Int) ≤ (i : Int) := by omega
    have b1 : (i : Int) < (n : Int) := by omega
    have b2 : i < n := q0
    clear h hc hx hse hV hn q0
    by_cases q1 : x.k = k
    · have f1 : (x.k == k) = true := by simpa using q1
      have HV2 : Hid (V = decide (x.t = t)) := by rw [HV.out, f1, Bool.true_and]; exact rfl
      clear q1
      go_enter Try.func17, Try.ntmps17
      go_wp2_with fail
      go_ret
      exact ⟨by rw [HV2.out]; exact ret_bool (lst_dec _ _), rfl⟩
    · have f1 : (x.k == k) = false := by simpa using q1
      have HV2 : Hid (V = false) := by rw [HV.out, f1, Bool.false_and]; exact rfl
      clear q1
      go_enter Try.func17, Try.ntmps17
      go_wp2_with fail
      go_ret
      exact ⟨by rw [HV2.out]; rfl, rfl⟩
  · rw [decide_eq_false q0, Bool.false_and] at hse
    have HV2 : Hid (V = false) := hse
    have e1 : decide ((i : Int) < (n : Int)) = false := by rw [decide_eq_false_iff_not]; omega
    have e2 : decide (i < n) = false := decide_eq_false q0
    clear h hc hse hV hn q0
    go_enter Try.func17, Try.ntmps17
    go_wp2_with fail
    go_ret
    exact ⟨by rw [HV2.out]; rfl, rfl⟩
set_option maxRecDepth 100000 in
set_option maxHeartbeats 4000000 in
theorem rnamed_any {B r : Nat} {vl vn vc : Value} {L : List Wd} {m : Rm} (i : Nat) (w : World) (h : Rr B w r vl vn vc L m) : Calls Try.prog 16 #[.pointer (some ⟨r, 0, none⟩), .int .i64 (i : Int)] w fun e w' => e = .returned (.bool (nmR L i)) ∧ w = w' := by
  obtain ⟨k0, -⟩ := h.open
  obtain ⟨ad, cap, rfl, hc⟩ := h.wl
  obtain ⟨n, hn⟩ : ∃ n, L.length = n := ⟨_, rfl⟩
  obtain ⟨V, hV⟩ : ∃ V, nmR L i = V := ⟨_, rfl⟩
  have hse : nmR L i = (decide (i < n) && ((L.getD i w0).k == 1 && !decide ((L.getD i w0).t = [95]))) := by unfold nmR; rw [hn]
  rw [hV] at hse
  rw [hV]
  rw [hn] at k0 hc
  by_cases q0 : i < n
  · obtain ⟨g, o, rfl, -, c0, c1, -⟩ := hc i q0
    obtain ⟨x, hx⟩ : ∃ x, L.getD i w0 = x := ⟨_, rfl⟩
    rw [hx] at c0 c1 hse
    rw [decide_eq_true q0, Bool.true_and] at hse
    have HV : Hid (V = ((x.k == 1) && !decide (x.t = [95]))) := hse
    have e1 : decide ((i : Int) < (n : Int)) = true := by rw [decide_eq_true_eq]; omega
    have e2 : decide (i < n) = true := decide_eq_true q0
    have b0 : (0 : Int) ≤ (i : Int) := by omega
    have b1 : (i : Int) < (n : Int) := by omega
    have b2 : i < n := q0
    clear h hc hx hse hV hn q0
    by_cases q1 : x.k = 1
    · have f1 : (x.k == 1) = true := by simpa using q1
      have HV2 : Hid (V = !decide (x.t = [95])) := by rw [HV.out, f1, Bool.true_and]; exact rfl
      rw [q1] at c0
      clear q1 f1
      go_enter Try.func16, Try.ntmps16
      go_wp2_with fail
      go_ret
      exact ⟨by rw [HV2.out, ← lst_dec]; rfl, rfl⟩
    · have f1 : (x.k == 1) = false := by simpa using q1
      have HV2 : Hid (V = false) := by rw [HV.out, f1, Bool.false_and]; exact rfl
      clear q1
      go_enter Try.func16, Try.ntmps16
      go_wp2_with fail
      go_ret
      exact ⟨by rw [HV2.out]; rfl, rfl⟩
  · rw [decide_eq_false q0, Bool.false_and] at hse
    have HV2 : Hid (V = false) := hse
    have e1 : decide ((i : Int) < (n : Int)) = false := by rw [decide_eq_false_iff_not]; omega
    have e2 : decide (i < n) = false := decide_eq_false q0
    clear h hc hse hV hn q0
    go_enter Try.func16, Try.ntmps16
    go_wp2_with fail
    go_ret
    exact ⟨by rw [HV2.out]; rfl, rfl⟩
set_option maxRecDepth 100000 in
set_option maxHeartbeats 4000000 in
theorem rtext_any {B r : Nat} {vl vn vc : Value} {L : List Wd} {m : Rm} (i : Nat) (w : World) (h : Rr B w r vl vn vc L m) : Calls Try.prog 18 #[.pointer (some ⟨r, 0, none⟩), .int .i64 (i : Int)] w fun e w' => e = .returned (.bool (txR L i)) ∧ w = w' := by
  obtain ⟨k0, -⟩ := h.open
  obtain ⟨ad, cap, rfl, hc⟩ := h.wl
  obtain ⟨n, hn⟩ : ∃ n, L.length = n := ⟨_, rfl⟩
  obtain ⟨V, hV⟩ : ∃ V, txR L i = V := ⟨_, rfl⟩
  have hse : txR L i = (decide (i < n) && ((L.getD i w0).k == 2 && !decide ((L.getD i w0).t = []))) := by unfold txR; rw [hn]
  rw [hV] at hse
  rw [hV]
  rw [hn] at k0 hc
  by_cases q0 : i < n
  · obtain ⟨g, o, rfl, -, c0, c1, -⟩ := hc i q0
    obtain ⟨x, hx⟩ : ∃ x, L.getD i w0 = x := ⟨_, rfl⟩
    rw [hx] at c0 c1 hse
    rw [decide_eq_true q0, Bool.true_and] at hse
    have HV : Hid (V = ((x.k == 2) && !decide (x.t = []))) := hse
    have e1 : decide ((i : Int) < (n : Int)) = true := by rw [decide_eq_true_eq]; omega
    have e2 : decide (i < n) = true := decide_eq_true q0
    have b0 : (0 : Int) ≤ (i : Int) := by omega
    have b1 : (i : Int) < (n : Int) := by omega
    have b2 : i < n := q0
    clear h hc hx hse hV hn q0
    by_cases q1 : x.k = 2
    · have f1 : (x.k == 2) = true := by simpa using q1
      have HV2 : Hid (V = !decide (x.t = [])) := by rw [HV.out, f1, Bool.true_and]; exact rfl
      rw [q1] at c0
      clear q1 f1
      go_enter Try.func18, Try.ntmps18
      go_wp2_with fail
      go_ret
      exact ⟨by rw [HV2.out, isE]; rfl, rfl⟩
    · have f1 : (x.k == 2) = false := by simpa using q1
      have HV2 : Hid (V = false) := by rw [HV.out, f1, Bool.false_and]; exact rfl
      clear q1
      go_enter Try.func18, Try.ntmps18
      go_wp2_with fail
      go_ret
      exact ⟨by rw [HV2.out]; rfl, rfl⟩
  · rw [decide_eq_false q0, Bool.false_and] at hse
    have HV2 : Hid (V = false) := hse
    have e1 : decide ((i : Int) < (n : Int)) = false := by rw [decide_eq_false_iff_not]; omega
    have e2 : decide (i < n) = false := decide_eq_false q0
    clear h hc hse hV hn q0
    go_enter Try.func18, Try.ntmps18
    go_wp2_with fail
    go_ret
    exact ⟨by rw [HV2.out]; rfl, rfl⟩
set_option maxRecDepth 100000 in
set_option maxHeartbeats 4000000 in
/-- stop: the first error. -/
theorem rstop_any {B r : Nat} {vl vn vc : Value} {L : List Wd} {m : Rm} (c : Int) (p : Nat) (w : World) (h : Rr B w r vl vn vc L m) (he : m.e = 0) : Calls Try.prog 19 #[.pointer (some ⟨r, 0, none⟩), .int .i64 c, .int .i64 (p : Int)] w fun e w' => e = .returned (.tuple #[]) ∧ Rr B w' r vl vn vc L ⟨m.at_, m.ns, m.cs, c, p⟩ ∧ Kr w w' (fun j => j = r) := by
  obtain ⟨-, -, -, -, k4, k5⟩ := h.open
  rw [he] at k4
  have f4 := h.froz 4
  have f5 := h.froz 5
  have HR : Hid (Rr B w r vl vn vc L m) := h
  have f5' : (w.setCell ⟨r, 4, none⟩ (.int .i64 c)).frozen? ⟨r, 5, none⟩ = false := (h.set4 c).froz 5
  clear h he
  go_enter Try.func19, Try.ntmps19
  go_wp2_with fail
  refine bodyPost_end (v := .tuple #[]) (by simp [results, Try.results19, go_sem]) rfl ?_
  exact ⟨rfl, (HR.out.set4 c).set5 p, (Kr.set _ _ _ _).trans (Kr.set _ _ _ _) (fun j e => .inl e)⟩
end Go.Proofs.Ythfijmabagjdkaa.Qy
