import Derived.Test.YthfijmabagjdkaaChr
namespace Go.Proofs.Ythfijmabagjdkaa
open Go.RowKit Go.Maps

/-- The cutter, as data. -/
structure Cs where
  s : ByteArray
  p : Int
  f : Int
  n : Int
  bs : List UInt8
  ws : List Wd
  co : Int
  pl : Int
def cC (vb vw : Value) (c : Cs) : Array Value := #[.string c.s, .int .i64 c.p, .int .i64 c.f, .int .i64 c.n, vb, vw, .int .i64 c.co, .int .i64 c.pl]
/-- The cutter in memory. -/
structure Cu (B : Nat) (W : World) (b : Nat) (vb vw : Value) (c : Cs) : Prop where
  blk : W.heap[b]? = some (.cells (cC vb vw c) 60 (0, 0))
  hb : Byt B W vb c.bs
  hw : Wow B W vw c.ws
  lo : B ≤ b
theorem Cu.up {B : Nat} {W W' : World} {b : Nat} {vb vw : Value} {c : Cs} (h : Cu B W b vb vw c) (hb : Below W.heap.size W W') : Cu B W' b vb vw c :=
  ⟨by rw [hb.block b (lt_of_heap h.blk)]; exact h.blk, row_up h.hb hb, row_up h.hw hb, h.lo⟩
theorem Cu.drew {B : Nat} {W : World} {b : Nat} {vb vw : Value} {c : Cs} (h : Cu B W b vb vw c) : Cu B W.drew b vb vw c := h.up (Below.drew (Below.refl _ _))
theorem Cu.cell {B : Nat} {W : World} {b : Nat} {vb vw : Value} {c : Cs} (h : Cu B W b vb vw c) (k : Nat) (v : Value) (hk : (cC vb vw c)[k]? = some v) : W.cell? ⟨b, k, none⟩ = some v := by
  rw [Lib.cell_of_heap h.blk]; exact hk
theorem Cu.c0 {B : Nat} {W : World} {b : Nat} {vb vw : Value} {c : Cs} (h : Cu B W b vb vw c) : W.cell? ⟨b, 0, none⟩ = some (.string c.s) := h.cell 0 _ rfl
theorem Cu.c1 {B : Nat} {W : World} {b : Nat} {vb vw : Value} {c : Cs} (h : Cu B W b vb vw c) : W.cell? ⟨b, 1, none⟩ = some (.int .i64 c.p) := h.cell 1 _ rfl
theorem Cu.c2 {B : Nat} {W : World} {b : Nat} {vb vw : Value} {c : Cs} (h : Cu B W b vb vw c) : W.cell? ⟨b, 2, none⟩ = some (.int .i64 c.f) := h.cell 2 _ rfl
theorem Cu.c3 {B : Nat} {W : World} {b : Nat} {vb vw : Value} {c : Cs} (h : Cu B W b vb vw c) : W.cell? ⟨b, 3, none⟩ = some (.int .i64 c.n) := h.cell 3 _ rfl
theorem Cu.c4 {B : Nat} {W : World} {b : Nat} {vb vw : Value} {c : Cs} (h : Cu B W b vb vw c) : W.cell? ⟨b, 4, none⟩ = some (vb) := h.cell 4 _ rfl
theorem Cu.c5 {B : Nat} {W : World} {b : Nat} {vb vw : Value} {c : Cs} (h : Cu B W b vb vw c) : W.cell? ⟨b, 5, none⟩ = some (vw) := h.cell 5 _ rfl
theorem Cu.c6 {B : Nat} {W : World} {b : Nat} {vb vw : Value} {c : Cs} (h : Cu B W b vb vw c) : W.cell? ⟨b, 6, none⟩ = some (.int .i64 c.co) := h.cell 6 _ rfl
theorem Cu.c7 {B : Nat} {W : World} {b : Nat} {vb vw : Value} {c : Cs} (h : Cu B W b vb vw c) : W.cell? ⟨b, 7, none⟩ = some (.int .i64 c.pl) := h.cell 7 _ rfl
theorem Cu.frz {B : Nat} {W : World} {b : Nat} {vb vw : Value} {c : Cs} (h : Cu B W b vb vw c) (k : Nat) : W.frozen? ⟨b, k, none⟩ = false := Lib.frozen_of_heap h.blk k
theorem Cu.lt {B : Nat} {W : World} {b : Nat} {vb vw : Value} {c : Cs} (h : Cu B W b vb vw c) : b < W.heap.size := lt_of_heap h.blk
theorem Cu.nb {B : Nat} {W : World} {b : Nat} {vb vw : Value} {c : Cs} (h : Cu B W b vb vw c) : vb.ownBlock ≠ some b := tag_ne_blk h.hb h.blk (by decide)
theorem Cu.nw {B : Nat} {W : World} {b : Nat} {vb vw : Value} {c : Cs} (h : Cu B W b vb vw c) : vw.ownBlock ≠ some b := tag_ne_blk h.hw h.blk (by decide)
theorem own_none_or {v : Value} {b : Nat} (h : v.ownBlock ≠ some b) : v.ownBlock = none ∨ v.ownBlock ≠ some b := .inr h
/-- A store into the cutter. -/
theorem Cu.set {B : Nat} {W : World} {b : Nat} {vb vw vb' vw' : Value} {c c' : Cs} (h : Cu B W b vb vw c) (k : Nat) (v : Value) (e : (cC vb vw c).setIfInBounds k v = cC vb' vw' c') (hb : Byt B W vb' c'.bs) (hw : Wow B W vw' c'.ws) (nb : vb'.ownBlock ≠ some b) (nw : vw'.ownBlock ≠ some b) : Cu B (W.setCell ⟨b, k, none⟩ v) b vb' vw' c' :=
  ⟨by rw [blk_set _ h.blk, e], hb.kept grown_set (.inr nb), hw.kept grown_set (.inr nw), h.lo⟩
theorem Cu.setp {B : Nat} {W : World} {b : Nat} {vb vw : Value} {c : Cs} (h : Cu B W b vb vw c) (x : Int) : Cu B (W.setCell ⟨b, 1, none⟩ (.int .i64 x)) b vb vw { c with p := x } := h.set 1 _ rfl h.hb h.hw h.nb h.nw
theorem Cu.setf {B : Nat} {W : World} {b : Nat} {vb vw : Value} {c : Cs} (h : Cu B W b vb vw c) (x : Int) : Cu B (W.setCell ⟨b, 2, none⟩ (.int .i64 x)) b vb vw { c with f := x } := h.set 2 _ rfl h.hb h.hw h.nb h.nw
theorem Cu.setn {B : Nat} {W : World} {b : Nat} {vb vw : Value} {c : Cs} (h : Cu B W b vb vw c) (x : Int) : Cu B (W.setCell ⟨b, 3, none⟩ (.int .i64 x)) b vb vw { c with n := x } := h.set 3 _ rfl h.hb h.hw h.nb h.nw
theorem Cu.setc {B : Nat} {W : World} {b : Nat} {vb vw : Value} {c : Cs} (h : Cu B W b vb vw c) (x : Int) : Cu B (W.setCell ⟨b, 6, none⟩ (.int .i64 x)) b vb vw { c with co := x } := h.set 6 _ rfl h.hb h.hw h.nb h.nw
theorem Cu.setl {B : Nat} {W : World} {b : Nat} {vb vw : Value} {c : Cs} (h : Cu B W b vb vw c) (x : Int) : Cu B (W.setCell ⟨b, 7, none⟩ (.int .i64 x)) b vb vw { c with pl := x } := h.set 7 _ rfl h.hb h.hw h.nb h.nw
theorem Cu.shapes {B : Nat} {W : World} {b : Nat} {vb vw : Value} {c : Cs} (h : Cu B W b vb vw c) : ∃ a1 c1 a2 c2, vb = .slice a1 c.bs.length c1 ∧ vw = .slice a2 c.ws.length c2 := by
  obtain ⟨a1, c1, e1⟩ := row_shape h.hb
  obtain ⟨a2, c2, e2⟩ := row_shape h.hw
  exact ⟨a1, c1, a2, c2, e1, e2⟩
/-- What is read at a place. -/
def rd (s : ByteArray) (k : Nat) : Int := if k < s.size then nI (s.get! k) else -1
theorem rd_ok (s : ByteArray) (k : Nat) : okb (rd s k) := by
  unfold rd
  split
  · exact .inr ⟨(s.get! k).toNat, UInt8.toNat_lt _, rfl⟩
  · exact .inl rfl

set_option maxRecDepth 100000 in
set_option maxHeartbeats 4000000 in
theorem read_any {B b : Nat} {vb vw : Value} {c : Cs} (k : Nat) (hk : c.p + 1 = (k : Int)) (hk2 : k ≤ 4611686018427387904) (w : World) (h : Cu B w b vb vw c) :
    Calls Try.prog 31 #[.pointer (some ⟨b, 0, none⟩)] w fun e w' => e = .returned (.int .i64 (rd c.s k)) ∧ Cu B w' b vb vw { c with p := (k : Int) } ∧ Below B w w' := by
  have k1 := h.c1
  have f1 := h.frz 1
  have hwr : IntKind.i64.wrap (c.p + 1) = (k : Int) := by rw [IntKind.wrap_i64]; omega
  have HH : Hid (Cu B w b vb vw c) := h
  clear hk h
  go_enter Try.func31, Try.ntmps31
  go_upto_region 2 with fail
  obtain ⟨W1, hW1⟩ : ∃ W1, W1 = w.setCell ⟨b, 1, none⟩ (.int .i64 (k : Int)) := ⟨_, rfl⟩
  rw [← hW1]
  have H1 : Hid (Cu B W1 b vb vw { c with p := (k : Int) }) := by rw [hW1]; exact HH.out.setp _
  have HB : Hid (Below B w W1) := by rw [hW1]; exact (Below.refl _ _).setCell HH.out.lo _
  clear hW1 k1 f1 hwr HH
  have k0 := H1.out.c0
  have k1 := H1.out.c1
  by_cases hl : k < c.s.size
  · have d1 : decide ((c.s.size : Int) ≤ (k : Int)) = false := by rw [decide_eq_false_iff_not]; omega
    have d2 : decide (c.s.size ≤ k) = false := by rw [decide_eq_false_iff_not]; omega
    have hix := idx_fact c.s k hl
    have HR : Hid (rd c.s k = nI (c.s.get! k)) := by unfold rd; rw [if_pos hl]; exact rfl
    have hb256 := UInt8.toNat_lt (c.s.get! k)
    clear hk2
    go_region
    have j0 := H1.out.drew.c0
    have j1 := H1.out.drew.c1
    clear k0 k1
    go_upto_region 4 with fail
    go_region
    go_wp2_with fail
    go_ret
    refine ⟨ret_int ?_, H1.out.drew.drew, HB.out.trans (Below.drew (Below.drew (Below.refl _ _)))⟩
    rw [HR.out]
    rfl
  · have d1 : decide ((c.s.size : Int) ≤ (k : Int)) = true := by rw [decide_eq_true_eq]; omega
    have d2 : decide (c.s.size ≤ k) = true := by rw [decide_eq_true_eq]; omega
    have HR : Hid (rd c.s k = -1) := by unfold rd; rw [if_neg hl]; exact rfl
    clear hk2
    go_region
    go_wp2_with fail
    go_ret
    refine ⟨ret_int ?_, H1.out.drew, HB.out.trans (Below.drew (Below.refl _ _))⟩
    rw [HR.out]

set_option maxRecDepth 100000 in
set_option maxHeartbeats 4000000 in
theorem fail_any {B b : Nat} {vb vw : Value} {c : Cs} (x y : Int) (w : World) (h : Cu B w b vb vw c) :
    Calls Try.prog 37 #[.pointer (some ⟨b, 0, none⟩), .int .i64 x, .int .i64 y] w fun e w' => e = .returned (.tuple #[]) ∧ Cu B w' b vb vw { c with co := x, pl := y } ∧ Below B w w' := by
  have k1 := h.c6
  have f1 := h.frz 6
  have k2 := (h.setc x).c7
  have f2 := (h.setc x).frz 7
  have HH : Hid (Cu B w b vb vw c) := h
  clear h
  go_enter Try.func37, Try.ntmps37
  go_wp2_with fail
  go_end0
  exact ⟨rfl, (HH.out.setc x).setl y, ((Below.refl _ _).setCell HH.out.lo _).setCell HH.out.lo _⟩
end Go.Proofs.Ythfijmabagjdkaa
