import Derived.Test.YtcmhbcfgikmblabGreatDoorShv
namespace Go.Proofs.YtcmhbcfgikmblabGreatDoor
open Go.RowKit Go.Maps

/-- The cutter, as data. -/
structure Cs where
  s : ByteArray
  p : Int
  f : Int
  n : Int
  bs : List UInt8
  ws : List Wd
  co : Int
  pl : Int
def cC (vb vw : Value) (c : Cs) : Array Value := #[.string c.s, .int .i64 c.p, .int .i64 c.f, .int .i64 c.n, vb, vw, .int .i64 c.co, .int .i64 c.pl]
/-- The cutter in memory. -/
structure Cu (B : Nat) (W : World) (b : Nat) (vb vw : Value) (c : Cs) : Prop where
  blk : W.heap[b]? = some (.cells (cC vb vw c) 95 (0, 0))
  hb : Byt B W vb c.bs
  hw : Wow B W vw c.ws
  lo : B ≤ b
theorem Cu.up {B : Nat} {W W' : World} {b : Nat} {vb vw : Value} {c : Cs} (h : Cu B W b vb vw c) (hb : Below W.heap.size W W') : Cu B W' b vb vw c :=
  ⟨by rw [hb.block b (lt_of_heap h.blk)]; exact h.blk, row_up h.hb hb, row_up h.hw hb, h.lo⟩
theorem Cu.drew {B : Nat} {W : World} {b : Nat} {vb vw : Value} {c : Cs} (h : Cu B W b vb vw c) : Cu B W.drew b vb vw c := h.up (Below.drew (Below.refl _ _))
theorem Cu.cell {B : Nat} {W : World} {b : Nat} {vb vw : Value} {c : Cs} (h : Cu B W b vb vw c) (k : Nat) (v : Value) (hk : (cC vb vw c)[k]? = some v) : W.cell? ⟨b, k, none⟩ = some v := by
  rw [Lib.cell_of_heap h.blk]; exact hk
theorem Cu.c0 {B : Nat} {W : World} {b : Nat} {vb vw : Value} {c : Cs} (h : Cu B W b vb vw c) : W.cell? ⟨b, 0, none⟩ = some (.string c.s) := h.cell 0 _ rfl
theorem Cu.c1 {B : Nat} {W : World} {b : Nat} {vb vw : Value} {c : Cs} (h : Cu B W b vb vw c) : W.cell? ⟨b, 1, none⟩ = some (.int .i64 c.p) := h.cell 1 _ rfl
theorem Cu.c2 {B : Nat} {W : World} {b : Nat} {vb vw : Value} {c : Cs} (h : Cu B W b vb vw c) : W.cell? ⟨b, 2, none⟩ = some (.int .i64 c.f) := h.cell 2 _ rfl
theorem Cu.c3 {B : Nat} {W : World} {b : Nat} {vb vw : Value} {c : Cs} (h : Cu B W b vb vw c) : W.cell? ⟨b, 3, none⟩ = some (.int .i64 c.n) := h.cell 3 _ rfl
theorem Cu.c4 {B : Nat} {W : World} {b : Nat} {vb vw : Value} {c : Cs} (h : Cu B W b vb vw c) : W.cell? ⟨b, 4, none⟩ = some (vb) := h.cell 4 _ rfl
theorem Cu.c5 {B : Nat} {W : World} {b : Nat} {vb vw : Value} {c : Cs} (h : Cu B W b vb vw c) : W.cell? ⟨b, 5, none⟩ = some (vw) := h.cell 5 _ rfl
theorem Cu.c6 {B : Nat} {W : World} {b : Nat} {vb vw : Value} {c : Cs} (h : Cu B W b vb vw c) : W.cell? ⟨b, 6, none⟩ = some (.int .i64 c.co) := h.cell 6 _ rfl
theorem Cu.c7 {B : Nat} {W : World} {b : Nat} {vb vw : Value} {c : Cs} (h : Cu B W b vb vw c) : W.cell? ⟨b, 7, none⟩ = some (.int .i64 c.pl) := h.cell 7 _ rfl
theorem Cu.frz {B : Nat} {W : World} {b : Nat} {vb vw : Value} {c : Cs} (h : Cu B W b vb vw c) (k : Nat) : W.frozen? ⟨b, k, none⟩ = false := Lib.frozen_of_heap h.blk k
theorem Cu.lt {B : Nat} {W : World} {b : Nat} {vb vw : Value} {c : Cs} (h : Cu B W b vb vw c) : b < W.heap.size := lt_of_heap h.blk
theorem Cu.nb {B : Nat} {W : World} {b : Nat} {vb vw : Value} {c : Cs} (h : Cu B W b vb vw c) : vb.ownBlock ≠ some b := tag_ne_blk h.hb h.blk (by decide)
theorem Cu.nw {B : Nat} {W : World} {b : Nat} {vb vw : Value} {c : Cs} (h : Cu B W b vb vw c) : vw.ownBlock ≠ some b := tag_ne_blk h.hw h.blk (by decide)
theorem own_none_or {v : Value} {b : Nat} (h : v.ownBlock ≠ some b) : v.ownBlock = none ∨ v.ownBlock ≠ some b := .inr h
/-- A store into the cutter. -/
theorem Cu.set {B : Nat} {W : World} {b : Nat} {vb vw vb' vw' : Value} {c c' : Cs} (h : Cu B W b vb vw c) (k : Nat) (v : Value) (e : (cC vb vw c).setIfInBounds k v = cC vb' vw' c') (hb : Byt B W vb' c'.bs) (hw : Wow B W vw' c'.ws) (nb : vb'.ownBlock ≠ some b) (nw : vw'.ownBlock ≠ some b) : Cu B (W.setCell ⟨b, k, none⟩ v) b vb' vw' c' :=
  ⟨by rw [blk_set _ h.blk, e], hb.kept grown_set (.inr nb), hw.kept grown_set (.inr nw), h.lo⟩
theorem Cu.setp {B : Nat} {W : World} {b : Nat} {vb vw : Value} {c : Cs} (h : Cu B W b vb vw c) (x : Int) : Cu B (W.setCell ⟨b, 1, none⟩ (.int .i64 x)) b vb vw { c with p := x } := h.set 1 _ rfl h.hb h.hw h.nb h.nw
theorem Cu.setf {B : Nat} {W : World} {b : Nat} {vb vw : Value} {c : Cs} (h : Cu B W b vb vw c) (x : Int) : Cu B (W.setCell ⟨b, 2, none⟩ (.int .i64 x)) b vb vw { c with f := x } := h.set 2 _ rfl h.hb h.hw h.nb h.nw
theorem Cu.setn {B : Nat} {W : World} {b : Nat} {vb vw : Value} {c : Cs} (h : Cu B W b vb vw c) (x : Int) : Cu B (W.setCell ⟨b, 3, none⟩ (.int .i64 x)) b vb vw { c with n := x } := h.set 3 _ rfl h.hb h.hw h.nb h.nw
theorem Cu.setc {B : Nat} {W : World} {b : Nat} {vb vw : Value} {c : Cs} (h : Cu B W b vb vw c) (x : Int) : Cu B (W.setCell ⟨b, 6, none⟩ (.int .i64 x)) b vb vw { c with co := x } := h.set 6 _ rfl h.hb h.hw h.nb h.nw
theorem Cu.setl {B : Nat} {W : World} {b : Nat} {vb vw : Value} {c : Cs} (h : Cu B W b vb vw c) (x : Int) : Cu B (W.setCell ⟨b, 7, none⟩ (.int .i64 x)) b vb vw { c with pl := x } := h.set 7 _ rfl h.hb h.hw h.nb h.nw
theorem Cu.shapes {B : Nat} {W : World} {b : Nat} {vb vw : Value} {c : Cs} (h : Cu B W b vb vw c) : ∃ a1 c1 a2 c2, vb = .slice a1 c.bs.length c1 ∧ vw = .slice a2 c.ws.length c2 := by
  obtain ⟨a1, c1, e1⟩ := row_shape h.hb
  obtain ⟨a2, c2, e2⟩ := row_shape h.hw
  exact ⟨a1, c1, a2, c2, e1, e2⟩
/-- What is read at a place. -/
def rd (s : ByteArray) (k : Nat) : Int := if k < s.size then nI (s.get! k) else -1
theorem rd_ok (s : ByteArray) (k : Nat) : okb (rd s k) := by
  unfold rd
  split
  · exact .inr ⟨(s.get! k).toNat, UInt8.toNat_lt _, rfl⟩
  · exact .inl rfl

set_option maxRecDepth 100000 in
set_option maxHeartbeats 4000000 in
theorem read_any {B b : Nat} {vb vw : Value} {c : Cs} (k : Nat) (hk : c.p + 1 = (k : Int)) (hk2 : k ≤ 4611686018427387904) (w : World) (h : Cu B w b vb vw c) :
    Calls Tryz.prog 55 #[.pointer (some ⟨b, 0, none⟩)] w fun e w' => e = .returned (.int .i64 (rd c.s k)) ∧ Cu B w' b vb vw { c with p := (k : Int) } ∧ Below B w w' := by
  have k1 := h.c1
  have f1 := h.frz 1
  have hwr : IntKind.i64.wrap (c.p + 1) = (k : Int) := by rw [IntKind.wrap_i64]; omega
  have HH : Hid (Cu B w b vb vw c) := h
  clear hk h
  go_enter Tryz.func55, Tryz.ntmps55
  go_upto_region 2 with fail
  obtain ⟨W1, hW1⟩ : ∃ W1, W1 = w.setCell ⟨b, 1, none⟩ (.int .i64 (k : Int)) := ⟨_, rfl⟩
  rw [← hW1]
  have H1 : Hid (Cu B W1 b vb vw { c with p := (k : Int) }) := by rw [hW1]; exact HH.out.setp _
  have HB : Hid (Below B w W1) := by rw [hW1]; exact (Below.refl _ _).setCell HH.out.lo _
  clear hW1 k1 f1 hwr HH
  have k0 := H1.out.c0
  have k1 := H1.out.c1
  by_cases hl : k < c.s.size
  · have d1 : decide ((c.s.size : Int) ≤ (k : Int)) = false := by rw [decide_eq_false_iff_not]; omega
    have d2 : decide (c.s.size ≤ k) = false := by rw [decide_eq_false_iff_not]; omega
    have hix := idx_fact c.s k hl
    have HR : Hid (rd c.s k = nI (c.s.get! k)) := by unfold rd; rw [if_pos hl]; exact rfl
    have hb256 := UInt8.toNat_lt (c.s.get! k)
    clear hk2
    go_region
    have j0 := H1.out.drew.c0
    have j1 := H1.out.drew.c1
    clear k0 k1
    go_upto_region 4 with fail
    go_region
    go_wp2_with fail
    go_ret
    refine ⟨ret_int ?_, H1.out.drew.drew, HB.out.trans (Below.drew (Below.drew (Below.refl _ _)))⟩
    rw [HR.out]
    rfl
  · have d1 : decide ((c.s.size : Int) ≤ (k : Int)) = true := by rw [decide_eq_true_eq]; omega
    have d2 : decide (c.s.size ≤ k) = true := by rw [decide_eq_true_eq]; omega
    have HR : Hid (rd c.s k = -1) := by unfold rd; rw [if_neg hl]; exact rfl
    clear hk2
    go_region
    go_wp2_with fail
    go_ret
    refine ⟨ret_int ?_, H1.out.drew, HB.out.trans (Below.drew (Below.refl _ _))⟩
    rw [HR.out]

set_option maxRecDepth 100000 in
set_option maxHeartbeats 4000000 in
theorem fail_any {B b : Nat} {vb vw : Value} {c : Cs} (x y : Int) (w : World) (h : Cu B w b vb vw c) :
    Calls Tryz.prog 61 #[.pointer (some ⟨b, 0, none⟩), .int .i64 x, .int .i64 y] w fun e w' => e = .returned (.tuple #[]) ∧ Cu B w' b vb vw { c with co := x, pl := y } ∧ Below B w w' := by
  have k1 := h.c6
  have f1 := h.frz 6
  have k2 := (h.setc x).c7
  have f2 := (h.setc x).frz 7
  have HH : Hid (Cu B w b vb vw c) := h
  clear h
  go_enter Tryz.func61, Tryz.ntmps61
  go_wp2_with fail
  go_end0
  exact ⟨rfl, (HH.out.setc x).setl y, ((Below.refl _ _).setCell HH.out.lo _).setCell HH.out.lo _⟩
end Go.Proofs.YtcmhbcfgikmblabGreatDoor
namespace Go.Proofs.YtcmhbcfgikmblabGreatDoor
open Go.RowKit Go.Maps

/-- Two digits of base 16 from a place on: the byte or -1, and the last place that was read. -/
def td (s : ByteArray) (k : Nat) : Int × Nat := if hxv (rd s k) = -1 then (-1, k) else if hxv (rd s (k + 1)) = -1 then (-1, k + 1) else (16 * hxv (rd s k) + hxv (rd s (k + 1)), k + 1)
/-- An escape behind its backslash. -/
def es (s : ByteArray) (k : Nat) : Int × Nat := if rd s k = 120 then td s (k + 1) else (emv (rd s k), k)
theorem hxv_lo (b : Int) : hxv b = -1 ∨ ∃ n : Nat, n < 16 ∧ hxv b = (n : Int) := by
  unfold hxv isD
  split
  · rename_i h
    simp at h
    exact .inr ⟨(b - 48).toNat, by omega, by omega⟩
  · split
    · exact .inr ⟨(b - 87).toNat, by omega, by omega⟩
    · split
      · exact .inr ⟨(b - 55).toNat, by omega, by omega⟩
      · exact .inl rfl
theorem or_all : ∀ h l : Fin 16, bits .or .i64 ((h.val : Int) * 16) (l.val : Int) = 16 * (h.val : Int) + (l.val : Int) := by decide +kernel

set_option maxRecDepth 100000 in
set_option maxHeartbeats 4000000 in
theorem two_any {B b : Nat} {vb vw : Value} {c : Cs} (k : Nat) (hk : c.p + 1 = (k : Int)) (hk2 : k ≤ 4611686018427387000) (w : World) (h : Cu B w b vb vw c) :
    Calls Tryz.prog 92 #[.pointer (some ⟨b, 0, none⟩)] w fun e w' => e = .returned (.int .i64 (td c.s k).1) ∧ Cu B w' b vb vw { c with p := ((td c.s k).2 : Int) } ∧ Below B w w' := by
  have HH : Hid (Cu B w b vb vw c) := h
  have HK : Hid (c.p + 1 = (k : Int)) := hk
  have HK2 : Hid (k ≤ 4611686018427387000) := hk2
  obtain ⟨x, hx⟩ : ∃ x, rd c.s k = x := ⟨_, rfl⟩
  obtain ⟨y, hy⟩ : ∃ y, rd c.s (k + 1) = y := ⟨_, rfl⟩
  have HX : Hid (rd c.s k = x) := hx
  have HY : Hid (rd c.s (k + 1) = y) := hy
  have HT : Hid (td c.s k = if hxv x = -1 then (-1, k) else if hxv y = -1 then (-1, k + 1) else (16 * hxv x + hxv y, k + 1)) := by unfold td; rw [hx, hy]; exact rfl
  clear h hk hk2 hx hy
  go_enter Tryz.func92, Tryz.ntmps92
  go_wp2_with fail
  refine (read_any k HK.out (by have := HK2.out; omega) w HH.out).mono ?_
  rintro e w1 ⟨rfl, h1, b1⟩
  rw [HX.out]
  have H1 : Hid (Cu B w1 b vb vw { c with p := (k : Int) }) := h1
  have B1 : Hid (Below B w w1) := b1
  clear h1 b1 HH
  go_wp2_with fail
  refine (base16_any x (by rw [← HX.out]; exact rd_ok _ _) w1).mono ?_
  rintro e w2 ⟨rfl, rfl⟩
  rcases hxv_lo x with h1 | ⟨m, hm, h1⟩
  · rw [h1]
    go_wp2_with fail
    go_ret
    rw [HT.out, if_pos h1]
    exact ⟨rfl, H1.out, B1.out⟩
  · rw [h1]
    have n1 : ¬ ((m : Int) = -1) := by omega
    have HN1 : Hid (hxv x = (m : Int)) := h1
    clear h1
    go_wp2_with fail
    refine (read_any (k + 1) (by simp) (by have := HK2.out; omega) w2 H1.out).mono ?_
    rintro e w3 ⟨rfl, h3, b3⟩
    have H3 : Hid (Cu B w3 b vb vw { c with p := ((k + 1 : Nat) : Int) }) := h3
    have B3 : Hid (Below B w w3) := B1.out.trans b3
    clear h3 b3 H1 B1
    have HYo := HY.out
    simp only [] at HYo ⊢
    rw [HYo]
    go_wp2_with fail
    refine (base16_any y (by rw [← HY.out]; exact rd_ok _ _) w3).mono ?_
    rintro e w4 ⟨rfl, rfl⟩
    rcases hxv_lo y with h2 | ⟨q, hq, h2⟩
    · rw [h2]
      go_wp2_with fail
      go_ret
      rw [HT.out, HN1.out, if_neg (by omega), if_pos h2]
      exact ⟨rfl, H3.out, B3.out⟩
    · rw [h2]
      have n2 : ¬ ((q : Int) = -1) := by omega
      have HO : Hid (bits .or .i64 ((m : Int) * 16) (q : Int) = 16 * (m : Int) + (q : Int)) := or_all ⟨m, hm⟩ ⟨q, hq⟩
      have hwm : IntKind.i64.wrap ((m : Int) * 16) = (m : Int) * 16 := by rw [IntKind.wrap_i64]; omega
      have HN2 : Hid (hxv y = (q : Int)) := h2
      clear h2
      go_wp2_with fail
      go_ret
      rw [HT.out, HN1.out, HN2.out, if_neg (by omega), if_neg (by omega)]
      exact ⟨ret_int HO.out, H3.out, B3.out⟩
theorem em_none {b : Int} (h : ∀ i, i < 5 → b ≠ (((⟨#[34, 92, 110, 116, 114]⟩ : ByteArray).get! i).toNat : Int)) : emv b = -1 := by
  have h0 : b ≠ 34 := h 0 (by omega)
  have h1 : b ≠ 92 := h 1 (by omega)
  have h2 : b ≠ 110 := h 2 (by omega)
  have h3 : b ≠ 116 := h 3 (by omega)
  have h4 : b ≠ 114 := h 4 (by omega)
  unfold emv
  rw [if_neg h0, if_neg h1, if_neg h2, if_neg h3, if_neg h4]
theorem em_some : ∀ i : Fin 5, emv (((⟨#[34, 92, 110, 116, 114]⟩ : ByteArray).get! i.val).toNat : Int) = (((⟨#[34, 92, 10, 9, 13]⟩ : ByteArray).get! i.val).toNat : Int) := by decide +kernel

set_option maxRecDepth 100000 in
set_option maxHeartbeats 4000000 in
theorem esc_any {B b : Nat} {vb vw : Value} {c : Cs} (k : Nat) (hk : c.p + 1 = (k : Int)) (hk2 : k ≤ 4611686018427386000) (w : World) (h : Cu B w b vb vw c) :
    Calls Tryz.prog 82 #[.pointer (some ⟨b, 0, none⟩)] w fun e w' => e = .returned (.int .i64 (es c.s k).1) ∧ Cu B w' b vb vw { c with p := ((es c.s k).2 : Int) } ∧ Below B w w' := by
  have HH : Hid (Cu B w b vb vw c) := h
  have HK : Hid (c.p + 1 = (k : Int)) := hk
  have HK2 : Hid (k ≤ 4611686018427386000) := hk2
  obtain ⟨x, hx⟩ : ∃ x, rd c.s k = x := ⟨_, rfl⟩
  have HX : Hid (rd c.s k = x) := hx
  have HT : Hid (es c.s k = if x = 120 then td c.s (k + 1) else (emv x, k)) := by unfold es; rw [hx]; exact rfl
  clear h hk hk2 hx
  go_enter Tryz.func82, Tryz.ntmps82
  go_wp2_with fail
  refine (read_any k HK.out (by have := HK2.out; omega) w HH.out).mono ?_
  rintro e w1 ⟨rfl, h1, b1⟩
  rw [HX.out]
  have H1 : Hid (Cu B w1 b vb vw { c with p := (k : Int) }) := h1
  have B1 : Hid (Below B w w1) := b1
  clear h1 b1 HH
  by_cases h120 : x = 120
  · have HT2 : Hid (es c.s k = td c.s (k + 1)) := by show _ = _; rw [HT.out, if_pos h120]
    clear HT
    subst h120
    go_wp2_with fail
    refine (two_any (k + 1) (by simp) (by have := HK2.out; omega) w1 H1.out).mono ?_
    rintro e w2 ⟨rfl, h2, b2⟩
    have H2 : Hid (Cu B w2 b vb vw { c with p := ((td c.s (k + 1)).2 : Int) }) := h2
    have B2 : Hid (Below B w w2) := B1.out.trans b2
    clear h2 b2
    go_wp2_with fail
    go_ret
    rw [HT2.out]
    exact ⟨rfl, H2.out, B2.out⟩
  · have HT2 : Hid (es c.s k = (emv x, k)) := by show _ = _; rw [HT.out, if_neg h120]
    clear HT
    go_wp2_with fail
    go_loopg [11] 6 (fun gm v11 wr => ∃ j : Nat, v11 = .int .i64 (j : Int) ∧ Hid (j ≤ 5 ∧ gm = 6 - j) ∧ Hid (∀ i, i < j → x ≠ (((⟨#[34, 92, 110, 116, 114]⟩ : ByteArray).get! i).toNat : Int)) ∧ wr = w1)
    case atStart => exact ⟨0, rfl, ⟨by omega, rfl⟩, (fun i hi => by omega), rfl⟩
    case round =>
      obtain ⟨j, rfl, HJ, HA, rfl⟩ := hrel
      by_cases hj : j < 5
      · have d1 : decide ((j : Int) < 5) = true := by rw [decide_eq_true_eq]; omega
        have d2 : decide (j < 5) = true := by rw [decide_eq_true_eq]; omega
        have hi1 := idx_fact ⟨#[34, 92, 110, 116, 114]⟩ j hj
        have hi2 := idx_fact ⟨#[34, 92, 10, 9, 13]⟩ j hj
        have HES : Hid (emv (((⟨#[34, 92, 110, 116, 114]⟩ : ByteArray).get! j).toNat : Int) = (((⟨#[34, 92, 10, 9, 13]⟩ : ByteArray).get! j).toNat : Int)) := em_some ⟨j, hj⟩
        have HJL : Hid (j < 5) := hj
        obtain ⟨y, hy⟩ : ∃ y, ((⟨#[34, 92, 110, 116, 114]⟩ : ByteArray).get! j) = y := ⟨_, rfl⟩
        obtain ⟨z, hz⟩ : ∃ z, ((⟨#[34, 92, 10, 9, 13]⟩ : ByteArray).get! j) = z := ⟨_, rfl⟩
        rw [hy] at hi1 HES
        rw [hz] at hi2 HES
        have HY : Hid (((⟨#[34, 92, 110, 116, 114]⟩ : ByteArray).get! j) = y) := hy
        have hy2 := UInt8.toNat_lt y
        have hz2 := UInt8.toNat_lt z
        clear hj hy hz
        by_cases hxy : x = (y.toNat : Int)
        · have d3 : (x == (y.toNat : Int)) = true := by rw [beq_iff_eq]; exact hxy
          have HXY : Hid (x = (y.toNat : Int)) := hxy
          clear hxy
          go_wp2_with fail
          go_ret
          rw [HT2.out, HXY.out, HES.out]
          exact ⟨rfl, H1.out, B1.out⟩
        · have d3 : (x == (y.toNat : Int)) = false := by rw [beq_eq_false_iff_ne]; exact hxy
          have HXY : Hid (x ≠ (y.toNat : Int)) := hxy
          have hwj := w64n j (by have := HJL.out; omega)
          clear hxy
          go_wp2_with fail
          go_roundg (6 - (j + 1))
          case measure => have := HJ.out; have := HJL.out; omega
          case rel =>
            refine ⟨j + 1, by simp, ⟨HJL.out, rfl⟩, ?_, rfl⟩
            intro i hi
            rcases Nat.lt_or_ge i j with h | h
            · exact HA.out i h
            · obtain rfl : i = j := by omega
              rw [HY.out]; exact HXY.out
      · have d1 : decide ((j : Int) < 5) = false := by rw [decide_eq_false_iff_not]; omega
        have d2 : decide (j < 5) = false := by rw [decide_eq_false_iff_not]; omega
        have HM : Hid (emv x = -1) := em_none (fun i hi => HA.out i (by have := HJ.out; omega))
        clear hj
        go_wp2_with fail
        go_ret
        rw [HT2.out, HM.out]
        exact ⟨rfl, H1.out, B1.out⟩
end Go.Proofs.YtcmhbcfgikmblabGreatDoor
namespace Go.Proofs.YtcmhbcfgikmblabGreatDoor
open Go.RowKit Go.Maps

theorem cell_four_new (w : World) (x y z u : Value) (t : TypeId) : ∀ j v, [x, y, z, u][j]? = some v → (w.alloc (.cells #[x, y, z, u] t)).cell? ((⟨w.heap.size, 0, none⟩ : Addr).add j) = some v := by
  intro j u hj
  rw [addPl, Nat.zero_add, Lib.cell_of_heap (heap_new w _)]
  simpa using hj
theorem cell_one_new (w : World) (x : Value) (t : TypeId) : ∀ j v, [x][j]? = some v → (w.alloc (.cells #[x] t)).cell? ((⟨w.heap.size, 0, none⟩ : Addr).add j) = some v := by
  intro j u hj
  rw [addPl, Nat.zero_add, Lib.cell_of_heap (heap_new w _)]
  simpa using hj
theorem cell_up {w : World} {a : Addr} {v : Value} (o : Obj) (h : w.cell? a = some v) : (w.alloc o).cell? a = some v := below_cell (bel_up w o) h
theorem Cu.lB {B : Nat} {W : World} {b : Nat} {vb vw : Value} {c : Cs} (h : Cu B W b vb vw c) : B ≤ W.heap.size := Nat.le_of_lt (Nat.lt_of_le_of_lt h.lo h.lt)
theorem Cu.appW {B : Nat} {W W2 : World} {b : Nat} {vb vw v' : Value} {c : Cs} (h : Cu B W b vb vw c) {x : Wd} (hg : W.grownBy W2 vw.ownBlock) (hr : Wow B W2 v' (c.ws ++ [x])) : Cu B (W2.setCell ⟨b, 5, none⟩ v') b vb v' { c with ws := c.ws ++ [x] } ∧ Below B W (W2.setCell ⟨b, 5, none⟩ v') := by
  have hb2 := (hg.block b h.lt (fun e => h.nw e.symm)).trans h.blk
  have hB2 : Below B W W2 := (Below.refl B W).grown hg h.lB (fun k e => (row_tag h.hw k e).1)
  have h2 : Byt B W2 vb c.bs := h.hb.kept hg (tag_ne h.hb h.hw (by decide))
  exact ⟨⟨by rw [blk_set v' hb2]; rfl, h2.kept grown_set (.inr h.nb), hr.kept grown_set (.inr (tag_ne_blk hr hb2 (by decide))), h.lo⟩, hB2.trans ((Below.refl B W2).setCell (p := ⟨b, 5, none⟩) h.lo _)⟩
theorem Cu.appB {B : Nat} {W W2 : World} {b : Nat} {vb vw v' : Value} {c : Cs} (h : Cu B W b vb vw c) {x : UInt8} (hg : W.grownBy W2 vb.ownBlock) (hr : Byt B W2 v' (c.bs ++ [x])) : Cu B (W2.setCell ⟨b, 4, none⟩ v') b v' vw { c with bs := c.bs ++ [x] } ∧ Below B W (W2.setCell ⟨b, 4, none⟩ v') := by
  have hb2 := (hg.block b h.lt (fun e => h.nb e.symm)).trans h.blk
  have hB2 : Below B W W2 := (Below.refl B W).grown hg h.lB (fun k e => (row_tag h.hb k e).1)
  have h2 : Wow B W2 vw c.ws := h.hw.kept hg (tag_ne h.hw h.hb (by decide))
  exact ⟨⟨by rw [blk_set v' hb2]; rfl, hr.kept grown_set (.inr (tag_ne_blk hr hb2 (by decide))), h2.kept grown_set (.inr h.nw), h.lo⟩, hB2.trans ((Below.refl B W2).setCell (p := ⟨b, 4, none⟩) h.lo _)⟩
theorem byt_zero {B : Nat} {W : World} {g cap : Nat} {l : List UInt8} (h : Byt B W (.slice (some ⟨g, 0, none⟩) l.length cap) l) : Byt B W (.slice (some ⟨g, 0, none⟩) 0 cap) [] := by
  obtain ⟨_, h1 | ⟨g', cap', cur, e, h1, h2, h3, h4, h5, h6⟩⟩ := h
  · cases h1.1
  · injection e with e1 e2 e3
    injection e1 with e1
    injection e1 with e1
    subst e1 e3
    exact ⟨rfl, .inr ⟨g, cap, cur, rfl, h1, h2, Nat.zero_le _, h4, h5, by simp [Lib.byteCells]⟩⟩
theorem clone_any (s : ByteArray) (w : World) (hlim : s.size ≤ 281474976710656) : Calls Tryz.prog 80 #[.string s] w fun e w' => e = .returned (.string s) ∧ Below w.heap.size w w' := by
  go_enter Tryz.func80, Tryz.ntmps80
  go_wp2_with (go_at_call 90; refine (Tryz.stringslite_Clone _ _ hlim).mono ?_; rintro e w' ⟨rfl, hb⟩; have HB : Hid _ := hb; clear hb)
  go_ret
  exact ⟨rfl, HB.out⟩
/-- The error of a word that is whole, or what was there. -/
def ce (kd : Int) (z : Nat) (c : Cs) : Int × Int := if kd = 1 ∧ 24 < z then (83, c.f) else if 65535 < c.n then (84, c.f) else (c.co, c.pl)
/-- The cutter behind a word. -/
def cw (c : Cs) (kd : Int) (t : ByteArray) : Cs := { c with ws := c.ws ++ [⟨kd, t.data.toList, c.n, c.f⟩], n := 0, bs := [], co := (ce kd t.size c).1, pl := (ce kd t.size c).2 }

set_option maxRecDepth 100000 in
set_option maxHeartbeats 8000000 in
theorem cut_any {B b : Nat} {vb vw : Value} {c : Cs} (kd : Int) (t : ByteArray) (ht : t.size ≤ 1000000000000) (hl : c.ws.length ≤ 1000000000000) (w : World) (h : Cu B w b vb vw c) :
    Calls Tryz.prog 60 #[.pointer (some ⟨b, 0, none⟩), .int .i64 kd, .string t] w fun e w' => e = .returned (.tuple #[]) ∧ Below B w w' ∧ ∃ vb' vw', Cu B w' b vb' vw' (cw c kd t) := by
  have HH : Hid (Cu B w b vb vw c) := h
  have HT : Hid (t.size ≤ 281474976710656) := by show t.size ≤ 281474976710656; omega
  have HL : Hid (c.ws.length ≤ 1000000000000) := hl
  obtain ⟨iE, hi3, hx0, hx1, hx2⟩ := info_parts infoW
  have HIE : Hid (Tryz.prog.info? 77 = some iE ∧ iE.zero = some (.agg #[.int .i64 0, .string ⟨#[]⟩, .int .i64 0, .int .i64 0]) ∧ iE.size = 4 ∧ iE.bytes = 40) := ⟨hi3, hx0, hx1, hx2⟩
  obtain ⟨E, hE⟩ : ∃ E, ce kd t.size c = E := ⟨_, rfl⟩
  have HC : Hid (cw c kd t = { c with ws := c.ws ++ [⟨kd, t.data.toList, c.n, c.f⟩], n := 0, bs := [], co := E.1, pl := E.2 }) := by unfold cw; rw [hE]; exact rfl
  clear h ht hl hi3 hx0 hx1 hx2
  go_enter Tryz.func60, Tryz.ntmps60
  go_upto_block 0 with fail
  go_cut [] from 3 (fun wd => Hid (Cu B wd b vb vw { c with co := E.1, pl := E.2 }) ∧ Hid (Below B w wd))
  case first =>
    have k2 := HH.out.c2
    have k3 := HH.out.c3
    unfold ce at hE
    by_cases c1 : kd = 1 ∧ 24 < t.size
    · obtain ⟨rfl, c2⟩ := c1
      rw [if_pos ⟨rfl, c2⟩] at hE
      subst hE
      have d1 : decide ((24 : Int) < (t.size : Int)) = true := by rw [decide_eq_true_eq]; omega
      have d2 : decide (24 < t.size) = true := by rw [decide_eq_true_eq]; omega
      clear c2
      go_wp2_with fail
      refine (fail_any 83 c.f w HH.out).mono ?_
      rintro e w1 ⟨rfl, h1, b1⟩
      have H1 : Hid _ := h1
      have B1 : Hid _ := b1
      clear h1 b1 k2 k3
      go_wp2_with fail
      go_meet
      exact ⟨H1, B1⟩
    · rw [if_neg c1] at hE
      by_cases c2 : 65535 < c.n
      · rw [if_pos c2] at hE
        subst hE
        have d1 : decide ((65535 : Int) < c.n) = true := by rw [decide_eq_true_eq]; exact c2
        by_cases hkd : kd = 1
        · subst hkd
          have hz : ¬ 24 < t.size := fun h => c1 ⟨rfl, h⟩
          have d2 : decide ((24 : Int) < (t.size : Int)) = false := by rw [decide_eq_false_iff_not]; omega
          have d3 : decide (24 < t.size) = false := by rw [decide_eq_false_iff_not]; omega
          clear c1 c2 hz
          go_wp2_with fail
          refine (fail_any 84 c.f w HH.out).mono ?_
          rintro e w1 ⟨rfl, h1, b1⟩
          have H1 : Hid _ := h1
          have B1 : Hid _ := b1
          clear h1 b1 k2 k3
          go_wp2_with fail
          go_meet
          exact ⟨H1, B1⟩
        · clear c1 c2
          go_wp2_with fail
          refine (fail_any 84 c.f w HH.out).mono ?_
          rintro e w1 ⟨rfl, h1, b1⟩
          have H1 : Hid _ := h1
          have B1 : Hid _ := b1
          clear h1 b1 k2 k3
          go_wp2_with fail
          go_meet
          exact ⟨H1, B1⟩
      · rw [if_neg c2] at hE
        subst hE
        have d1 : decide ((65535 : Int) < c.n) = false := by rw [decide_eq_false_iff_not]; exact c2
        by_cases hkd : kd = 1
        · subst hkd
          have hz : ¬ 24 < t.size := fun h => c1 ⟨rfl, h⟩
          have d2 : decide ((24 : Int) < (t.size : Int)) = false := by rw [decide_eq_false_iff_not]; omega
          have d3 : decide (24 < t.size) = false := by rw [decide_eq_false_iff_not]; omega
          clear c1 c2 hz
          go_wp2_with fail
          go_meet
          exact ⟨HH, Below.refl _ _⟩
        · clear c1 c2
          go_wp2_with fail
          go_meet
          exact ⟨HH, Below.refl _ _⟩
  case rest =>
    obtain ⟨H1, B1⟩ := hcut
    clear HH hE
    go_upto_region 4 with fail
    obtain ⟨c', hc'⟩ : ∃ c', { c with co := E.1, pl := E.2 } = c' := ⟨_, rfl⟩
    have HWS : Hid (c'.ws = c.ws) := by rw [← hc']; exact rfl
    have HCN : Hid (c'.n = c.n ∧ c'.f = c.f) := by rw [← hc']; exact ⟨rfl, rfl⟩
    have HC2 : Hid (cw c kd t = { c' with ws := c'.ws ++ [⟨kd, t.data.toList, c'.n, c'.f⟩], n := 0, bs := [] }) := by rw [← hc']; exact HC.out
    rw [hc'] at H1
    have HL2 : Hid (c'.ws.length ≤ 1000000000000) := by rw [HWS.out]; exact HL.out
    clear hc' HC HL HWS HCN
    obtain ⟨x, hx⟩ : ∃ x : Wd, x = ⟨kd, t.data.toList, c'.n, c'.f⟩ := ⟨_, rfl⟩
    have HX : Hid (wC [x] = [.int .i64 kd, .string t, .int .i64 c'.n, .int .i64 c'.f]) := by rw [hx]; exact rfl
    rw [← hx] at HC2
    clear hx
    go_cut [] from 3 (fun wd => ∃ v', Hid (Cu B wd b vb v' { c' with ws := c'.ws ++ [x] }) ∧ Hid (Below B w wd))
    case first =>
      obtain ⟨a1, q1, a2, q2, rfl, rfl⟩ := H1.out.shapes
      obtain ⟨WD, hWD⟩ : ∃ WD, wc.drew = WD := ⟨_, rfl⟩
      have HMD : Hid (Cu B WD b (.slice a1 c'.bs.length q1) (.slice a2 c'.ws.length q2) c') := by rw [← hWD]; exact H1.out.drew
      have HBD : Hid (Below B w WD) := by rw [← hWD]; exact B1.out.trans (Below.drew (Below.refl _ _))
      clear H1 B1
      have k0 := HMD.out.c5
      refine wp_region_noPanic ?_
      refine wp_region_held_drew (S := fun W => W.cell? ⟨b, 3, none⟩ = some (.int .i64 c'.n) ∧ W.cell? ⟨b, 2, none⟩ = some (.int .i64 c'.f)) (by kernel_rfl) (by rw [hWD]; exact ⟨HMD.out.c3, HMD.out.c2⟩) (fun hHeld => ?_)
      rw [hWD] at hHeld ⊢
      clear hWD
      refine wpAnyH_take (i := 0) (oi := { dst := _, op := _, type := _, pos := _, after := _, guard := _ }) (v := ?_) rfl (by kernel_rfl) (by kernel_rfl) (by kernel_rfl) (fun _ _ _ h => h) (Or.inl ⟨by rfl, ?_⟩) (by assumption) ?_
      rotate_left
      · intro W hSw
        (try dsimp only at hSw)
        go_simp
        (try with_reducible rfl)
      try simp only [Act.put, List.setIfInBounds_toArray, List.set_cons_zero, List.set_cons_succ]
      refine wpAnyH_take (i := 1) (oi := { dst := _, op := _, type := _, pos := _, after := _, guard := _ }) (v := ?_) rfl (by kernel_rfl) (by kernel_rfl) (by kernel_rfl) (fun _ _ _ h => h) (Or.inl ⟨by rfl, ?_⟩) (by assumption) ?_
      rotate_left
      · intro W hSw
        (try dsimp only at hSw)
        go_simp
        (try with_reducible rfl)
      try simp only [Act.put, List.setIfInBounds_toArray, List.set_cons_zero, List.set_cons_succ]
      refine wpAnyH_take (i := 2) (oi := { dst := _, op := _, type := _, pos := _, after := _, guard := _ }) (v := ?_) rfl (by kernel_rfl) (by kernel_rfl) (by kernel_rfl) (fun _ _ _ h => h) (Or.inl ⟨by rfl, ?_⟩) (by assumption) ?_
      rotate_left
      · intro W hSw
        (try dsimp only at hSw)
        go_simp
        (try with_reducible rfl)
      try simp only [Act.put, List.setIfInBounds_toArray, List.set_cons_zero, List.set_cons_succ]
      refine wpAnyH_take (i := 3) (oi := { dst := _, op := _, type := _, pos := _, after := _, guard := _ }) (v := ?_) rfl (by kernel_rfl) (by kernel_rfl) (by kernel_rfl) (fun _ _ _ h => h) (Or.inl ⟨by rfl, ?_⟩) (by assumption) ?_
      rotate_left
      · intro W hSw
        (try dsimp only at hSw)
        go_simp
        (try with_reducible rfl)
      try simp only [Act.put, List.setIfInBounds_toArray, List.set_cons_zero, List.set_cons_succ]
      refine wpAnyH_take (i := 5) (oi := { dst := _, op := _, type := _, pos := _, after := _, guard := _ }) (v := ?_) rfl (by kernel_rfl) (by kernel_rfl) (by kernel_rfl) (fun _ _ _ h => h) (Or.inl ⟨by rfl, ?_⟩) (by assumption) ?_
      rotate_left
      · intro W hSw
        (try dsimp only at hSw)
        go_simp
        (try with_reducible rfl)
      try simp only [Act.put, List.setIfInBounds_toArray, List.set_cons_zero, List.set_cons_succ]
      refine wpAnyH_take (i := 6) (oi := { dst := _, op := _, type := _, pos := _, after := _, guard := _ }) (v := ?_) rfl (by kernel_rfl) (by kernel_rfl) (by kernel_rfl) (fun _ _ _ h => h) (Or.inl ⟨by rfl, ?_⟩) (by assumption) ?_
      rotate_left
      · intro W hSw
        (try dsimp only at hSw)
        go_simp
        (try with_reducible rfl)
      try simp only [Act.put, List.setIfInBounds_toArray, List.set_cons_zero, List.set_cons_succ]
      refine wpAnyH_take (i := 8) (oi := { dst := _, op := _, type := _, pos := _, after := _, guard := _ }) (v := ?_) rfl (by kernel_rfl) (by kernel_rfl) (by kernel_rfl) (fun _ _ _ h => h) (Or.inl ⟨by rfl, ?_⟩) (by assumption) ?_
      rotate_left
      · intro W hSw
        (try dsimp only at hSw)
        go_simp
        (try with_reducible rfl)
      try simp only [Act.put, List.setIfInBounds_toArray, List.set_cons_zero, List.set_cons_succ]
      refine wpAnyH_take (i := 9) (oi := { dst := _, op := _, type := _, pos := _, after := _, guard := _ }) (v := ?_) rfl (by kernel_rfl) (by kernel_rfl) (by kernel_rfl) (fun _ _ _ h => h) (Or.inl ⟨by rfl, ?_⟩) (by assumption) ?_
      rotate_left
      · intro W hSw
        (try dsimp only at hSw)
        go_simp
        (try with_reducible rfl)
      try simp only [Act.put, List.setIfInBounds_toArray, List.set_cons_zero, List.set_cons_succ]
      refine wpAnyH_take (i := 10) (oi := { dst := _, op := _, type := _, pos := _, after := _, guard := _ }) (v := ?_) rfl (by kernel_rfl) (by kernel_rfl) (by kernel_rfl) (fun _ _ _ h => h) (Or.inl ⟨by rfl, ?_⟩) (by assumption) ?_
      rotate_left
      · intro W hSw
        (try dsimp only at hSw)
        go_simp
        (try with_reducible rfl)
      try simp only [Act.put, List.setIfInBounds_toArray, List.set_cons_zero, List.set_cons_succ]
      refine wpAnyH_take (i := 11) (oi := { dst := _, op := _, type := _, pos := _, after := _, guard := _ }) (v := ?_) rfl (by kernel_rfl) (by kernel_rfl) (by kernel_rfl) (fun _ _ _ h => h) (Or.inl ⟨by rfl, ?_⟩) (by assumption) ?_
      rotate_left
      · intro W hSw
        (try dsimp only at hSw)
        obtain ⟨hs1, hs2⟩ := hSw
        go_simp
        (try with_reducible rfl)
      try simp only [Act.put, List.setIfInBounds_toArray, List.set_cons_zero, List.set_cons_succ]
      refine wpAnyH_take (i := 12) (oi := { dst := _, op := _, type := _, pos := _, after := _, guard := _ }) (v := ?_) rfl (by kernel_rfl) (by kernel_rfl) (by kernel_rfl) (fun _ _ _ h => h) (Or.inl ⟨by rfl, ?_⟩) (by assumption) ?_
      rotate_left
      · intro W hSw
        (try dsimp only at hSw)
        go_simp
        (try with_reducible rfl)
      try simp only [Act.put, List.setIfInBounds_toArray, List.set_cons_zero, List.set_cons_succ]
      refine wpAnyH_take (i := 13) (oi := { dst := _, op := _, type := _, pos := _, after := _, guard := _ }) (v := ?_) rfl (by kernel_rfl) (by kernel_rfl) (by kernel_rfl) (fun _ _ _ h => h) (Or.inl ⟨by rfl, ?_⟩) (by assumption) ?_
      rotate_left
      · intro W hSw
        (try dsimp only at hSw)
        go_simp
        (try with_reducible rfl)
      try simp only [Act.put, List.setIfInBounds_toArray, List.set_cons_zero, List.set_cons_succ]
      refine wpAnyH_take (i := 14) (oi := { dst := _, op := _, type := _, pos := _, after := _, guard := _ }) (v := ?_) rfl (by kernel_rfl) (by kernel_rfl) (by kernel_rfl) (fun _ _ _ h => h) (Or.inl ⟨by rfl, ?_⟩) (by assumption) ?_
      rotate_left
      · intro W hSw
        (try dsimp only at hSw)
        go_simp
        (try with_reducible rfl)
      try simp only [Act.put, List.setIfInBounds_toArray, List.set_cons_zero, List.set_cons_succ]
      refine wpAnyH_take (i := 15) (oi := { dst := _, op := _, type := _, pos := _, after := _, guard := _ }) (v := ?_) rfl (by kernel_rfl) (by kernel_rfl) (by kernel_rfl) (fun _ _ _ h => h) (Or.inl ⟨by rfl, ?_⟩) (by assumption) ?_
      rotate_left
      · intro W hSw
        (try dsimp only at hSw)
        obtain ⟨hs1, hs2⟩ := hSw
        go_simp
        (try with_reducible rfl)
      try simp only [Act.put, List.setIfInBounds_toArray, List.set_cons_zero, List.set_cons_succ]
      refine wpAnyH_ready (rs := [4, 7]) (by kernel_rfl) (by simp) ?_
      refine AllReadyH.cons (o := { dst := _, op := _, type := _, pos := _, after := _, guard := _ }) rfl (fun K hK => ?_) (AllReadyH.cons (o := { dst := _, op := _, type := _, pos := _, after := _, guard := _ }) rfl (fun K hK => ?_) (AllReadyH.nil))
      · go_simp
        refine hK.out _ _ ?_ (fun hHeld => ?_)
        · exact hHeld
        clear hK K
        try simp only [Act.put, List.setIfInBounds_toArray, List.set_cons_zero, List.set_cons_succ]
        refine wpAnyH_ready (rs := [7]) (by kernel_rfl) (by simp) ?_
        refine AllReadyH.cons (o := { dst := _, op := _, type := _, pos := _, after := _, guard := _ }) rfl (fun K hK => ?_) AllReadyH.nil
        go_simp
        refine (clone_any t _ HT.out).mono ?_
        rintro e w6 ⟨rfl, hb6⟩
        have HM6 : Hid (Cu B w6 b (.slice a1 c'.bs.length q1) (.slice a2 c'.ws.length q2) c') := HMD.out.up hb6
        have HB6 : Hid (Below B w w6) := HBD.out.trans (hb6.mono HMD.out.lB)
        have k6 := HM6.out.c5
        clear hb6 k0
        go_wp2_with fail
        refine hK.out _ _ ?_ (fun hHeld => ?_)
        · exact ⟨HM6.out.c3, HM6.out.c2⟩
        clear hK K
        try simp only [Act.put, List.setIfInBounds_toArray, List.set_cons_zero, List.set_cons_succ]
        refine wpAnyH_take (i := 16) (oi := { dst := _, op := _, type := _, pos := _, after := _, guard := _ }) (v := ?_) rfl (by kernel_rfl) (by kernel_rfl) (by kernel_rfl) (fun _ _ _ h => h) (Or.inl ⟨by rfl, ?_⟩) (by assumption) ?_
        rotate_left
        · intro W hSw
          (try dsimp only at hSw)
          go_simp
          (try with_reducible rfl)
        try simp only [Act.put, List.setIfInBounds_toArray, List.set_cons_zero, List.set_cons_succ]
        refine wpAnyH_ready (rs := [17]) (by kernel_rfl) (by simp) ?_
        refine AllReadyH.cons (o := { dst := _, op := _, type := _, pos := _, after := _, guard := _ }) rfl (fun K hK => ?_) AllReadyH.nil
        go_simp
        refine hK.out _ _ ?_ (fun hHeld => ?_)
        · exact ⟨cell_up _ hHeld.1, cell_up _ hHeld.2⟩
        clear hK K
        try simp only [Act.put, List.setIfInBounds_toArray, List.set_cons_zero, List.set_cons_succ]
        have k0a : (w6.alloc (.cells #[.int .i64 kd, .string t, .int .i64 c'.n, .int .i64 c'.f] 77)).cell? ⟨b, 5, none⟩ = some (.slice a2 c'.ws.length q2) := cell_up _ k6
        refine wpAnyH_ready (rs := [18]) (by kernel_rfl) (by simp) ?_
        refine AllReadyH.cons (o := { dst := _, op := _, type := _, pos := _, after := _, guard := _ }) rfl (fun K hK => ?_) AllReadyH.nil
        refine step_append_lies _ rfl (.tmp 36) (.tmp 49) 72 rfl B 77 iE _ 4 40 Tryz.underlying72 HIE.out.1 HIE.out.2.1 HIE.out.2.2.1 HIE.out.2.2.2 rfl (by decide) (.slice a2 c'.ws.length q2) _ _ rfl (HM6.out.hw.alloc _) ⟨w6.heap.size, 0, none⟩ 1 1 [.int .i64 kd, .string t, .int .i64 c'.n, .int .i64 c'.f] rfl rfl (cell_four_new _ _ _ _ _ _) (by simp [Value.oneCell']) (by decide) (by have := HL2.out; unfold maxLen; omega) (by have := HL2.out; omega) (by have := HM6.out.lB; simp; omega) (w6.heap.size + 1) (by simp) ?_
        intro g' cap' w' h2 h3 h4 _
        have HO : Hid (Wow B w' (.slice (some ⟨g', 0, none⟩) (c'.ws.length + 1) cap') (c'.ws ++ [x])) := by show World.ownsRow _ _ _ _ _ _ _; rw [wC_app, List.length_append, HX.out]; exact h2
        have HG : Hid (w6.grownBy w' (Value.ownBlock (.slice a2 c'.ws.length q2))) := (World.grownBy_alloc _ _ _).trans h3
        have k0b : w'.cell? ⟨b, 5, none⟩ = some (.slice a2 c'.ws.length q2) := h3.cell k0a (fun e => HM6.out.nw e.symm)
        have f0b : w'.frozen? ⟨b, 5, none⟩ = false := Lib.frozen_of_heap ((HG.out.block b HM6.out.lt (fun e => HM6.out.nw e.symm)).trans HM6.out.blk) 5
        have s0b : w'.cell? ⟨b, 3, none⟩ = some (.int .i64 c'.n) ∧ w'.cell? ⟨b, 2, none⟩ = some (.int .i64 c'.f) := ⟨h3.cell hHeld.1 (fun e => HM6.out.nw e.symm), h3.cell hHeld.2 (fun e => HM6.out.nw e.symm)⟩
        clear h2 h3 h4 k6 k0a
        refine hK.out _ _ ?_ (fun hHeld => ?_)
        · exact s0b
        clear hK K
        try simp only [Act.put, List.setIfInBounds_toArray, List.set_cons_zero, List.set_cons_succ]
        clear s0b
        refine wpAnyH_take (i := 19) (oi := { dst := _, op := _, type := _, pos := _, after := _, guard := _ }) (v := ?_) rfl (by kernel_rfl) (by kernel_rfl) (by kernel_rfl) (fun _ _ _ h => h) (Or.inl ⟨by rfl, ?_⟩) (by assumption) ?_
        rotate_left
        · intro W hSw
          (try dsimp only at hSw)
          go_simp
          (try with_reducible rfl)
        try simp only [Act.put, List.setIfInBounds_toArray, List.set_cons_zero, List.set_cons_succ]
        refine wpAnyH_take (i := 20) (oi := { dst := _, op := _, type := _, pos := _, after := _, guard := _ }) (v := ?_) rfl (by kernel_rfl) (by kernel_rfl) (by kernel_rfl) (fun _ _ _ h => h) (Or.inl ⟨by rfl, ?_⟩) (by assumption) ?_
        rotate_left
        · intro W hSw
          (try dsimp only at hSw)
          go_simp
          (try with_reducible rfl)
        try simp only [Act.put, List.setIfInBounds_toArray, List.set_cons_zero, List.set_cons_succ]
        refine wpAnyH_ready (rs := [21]) (by kernel_rfl) (by simp) ?_
        refine AllReadyH.cons (o := { dst := _, op := _, type := _, pos := _, after := _, guard := _ }) rfl (fun K hK => ?_) AllReadyH.nil
        go_simp
        refine hK.out _ _ ?_ (fun hHeld => ?_)
        · exact ⟨by rw [World.cell?_setCell_other _ _ _ _ (fun h => by cases h)]; exact hHeld.1, by rw [World.cell?_setCell_other _ _ _ _ (fun h => by cases h)]; exact hHeld.2⟩
        clear hK K
        try simp only [Act.put, List.setIfInBounds_toArray, List.set_cons_zero, List.set_cons_succ]
        refine wpAnyH_done (by kernel_rfl) ?_ _
        clear hHeld k0b f0b
        refine NoPanic.normal ?_
        obtain ⟨hq1, hq2⟩ := HM6.out.appW HG.out HO.out
        have HQ1 : Hid _ := hq1
        have HQ2 : Hid _ := HB6.out.trans hq2
        clear hq1 hq2
        go_wp2_with fail
        go_meet
        exact ⟨_, HQ1, HQ2⟩
      · go_simp
        refine (clone_any t _ HT.out).mono ?_
        rintro e w6 ⟨rfl, hb6⟩
        have HM6 : Hid (Cu B w6 b (.slice a1 c'.bs.length q1) (.slice a2 c'.ws.length q2) c') := HMD.out.up hb6
        have HB6 : Hid (Below B w w6) := HBD.out.trans (hb6.mono HMD.out.lB)
        have k6 := HM6.out.c5
        clear hb6 k0
        go_wp2_with fail
        refine hK.out _ _ ?_ (fun hHeld => ?_)
        · exact ⟨HM6.out.c3, HM6.out.c2⟩
        clear hK K
        try simp only [Act.put, List.setIfInBounds_toArray, List.set_cons_zero, List.set_cons_succ]
        refine wpAnyH_take (i := 16) (oi := { dst := _, op := _, type := _, pos := _, after := _, guard := _ }) (v := ?_) rfl (by kernel_rfl) (by kernel_rfl) (by kernel_rfl) (fun _ _ _ h => h) (Or.inl ⟨by rfl, ?_⟩) (by assumption) ?_
        rotate_left
        · intro W hSw
          (try dsimp only at hSw)
          go_simp
          (try with_reducible rfl)
        try simp only [Act.put, List.setIfInBounds_toArray, List.set_cons_zero, List.set_cons_succ]
        refine wpAnyH_ready (rs := [4, 17]) (by kernel_rfl) (by simp) ?_
        refine AllReadyH.cons (o := { dst := _, op := _, type := _, pos := _, after := _, guard := _ }) rfl (fun K hK => ?_) (AllReadyH.cons (o := { dst := _, op := _, type := _, pos := _, after := _, guard := _ }) rfl (fun K hK => ?_) (AllReadyH.nil))
        · go_simp
          refine hK.out _ _ ?_ (fun hHeld => ?_)
          · exact hHeld
          clear hK K
          try simp only [Act.put, List.setIfInBounds_toArray, List.set_cons_zero, List.set_cons_succ]
          refine wpAnyH_ready (rs := [17]) (by kernel_rfl) (by simp) ?_
          refine AllReadyH.cons (o := { dst := _, op := _, type := _, pos := _, after := _, guard := _ }) rfl (fun K hK => ?_) AllReadyH.nil
          go_simp
          refine hK.out _ _ ?_ (fun hHeld => ?_)
          · exact ⟨cell_up _ hHeld.1, cell_up _ hHeld.2⟩
          clear hK K
          try simp only [Act.put, List.setIfInBounds_toArray, List.set_cons_zero, List.set_cons_succ]
          have k0a : (w6.alloc (.cells #[.int .i64 kd, .string t, .int .i64 c'.n, .int .i64 c'.f] 77)).cell? ⟨b, 5, none⟩ = some (.slice a2 c'.ws.length q2) := cell_up _ k6
          refine wpAnyH_ready (rs := [18]) (by kernel_rfl) (by simp) ?_
          refine AllReadyH.cons (o := { dst := _, op := _, type := _, pos := _, after := _, guard := _ }) rfl (fun K hK => ?_) AllReadyH.nil
          refine step_append_lies _ rfl (.tmp 36) (.tmp 49) 72 rfl B 77 iE _ 4 40 Tryz.underlying72 HIE.out.1 HIE.out.2.1 HIE.out.2.2.1 HIE.out.2.2.2 rfl (by decide) (.slice a2 c'.ws.length q2) _ _ rfl (HM6.out.hw.alloc _) ⟨w6.heap.size, 0, none⟩ 1 1 [.int .i64 kd, .string t, .int .i64 c'.n, .int .i64 c'.f] rfl rfl (cell_four_new _ _ _ _ _ _) (by simp [Value.oneCell']) (by decide) (by have := HL2.out; unfold maxLen; omega) (by have := HL2.out; omega) (by have := HM6.out.lB; simp; omega) (w6.heap.size + 1) (by simp) ?_
          intro g' cap' w' h2 h3 h4 _
          have HO : Hid (Wow B w' (.slice (some ⟨g', 0, none⟩) (c'.ws.length + 1) cap') (c'.ws ++ [x])) := by show World.ownsRow _ _ _ _ _ _ _; rw [wC_app, List.length_append, HX.out]; exact h2
          have HG : Hid (w6.grownBy w' (Value.ownBlock (.slice a2 c'.ws.length q2))) := (World.grownBy_alloc _ _ _).trans h3
          have k0b : w'.cell? ⟨b, 5, none⟩ = some (.slice a2 c'.ws.length q2) := h3.cell k0a (fun e => HM6.out.nw e.symm)
          have f0b : w'.frozen? ⟨b, 5, none⟩ = false := Lib.frozen_of_heap ((HG.out.block b HM6.out.lt (fun e => HM6.out.nw e.symm)).trans HM6.out.blk) 5
          have s0b : w'.cell? ⟨b, 3, none⟩ = some (.int .i64 c'.n) ∧ w'.cell? ⟨b, 2, none⟩ = some (.int .i64 c'.f) := ⟨h3.cell hHeld.1 (fun e => HM6.out.nw e.symm), h3.cell hHeld.2 (fun e => HM6.out.nw e.symm)⟩
          clear h2 h3 h4 k6 k0a
          refine hK.out _ _ ?_ (fun hHeld => ?_)
          · exact s0b
          clear hK K
          try simp only [Act.put, List.setIfInBounds_toArray, List.set_cons_zero, List.set_cons_succ]
          clear s0b
          refine wpAnyH_take (i := 19) (oi := { dst := _, op := _, type := _, pos := _, after := _, guard := _ }) (v := ?_) rfl (by kernel_rfl) (by kernel_rfl) (by kernel_rfl) (fun _ _ _ h => h) (Or.inl ⟨by rfl, ?_⟩) (by assumption) ?_
          rotate_left
          · intro W hSw
            (try dsimp only at hSw)
            go_simp
            (try with_reducible rfl)
          try simp only [Act.put, List.setIfInBounds_toArray, List.set_cons_zero, List.set_cons_succ]
          refine wpAnyH_take (i := 20) (oi := { dst := _, op := _, type := _, pos := _, after := _, guard := _ }) (v := ?_) rfl (by kernel_rfl) (by kernel_rfl) (by kernel_rfl) (fun _ _ _ h => h) (Or.inl ⟨by rfl, ?_⟩) (by assumption) ?_
          rotate_left
          · intro W hSw
            (try dsimp only at hSw)
            go_simp
            (try with_reducible rfl)
          try simp only [Act.put, List.setIfInBounds_toArray, List.set_cons_zero, List.set_cons_succ]
          refine wpAnyH_ready (rs := [21]) (by kernel_rfl) (by simp) ?_
          refine AllReadyH.cons (o := { dst := _, op := _, type := _, pos := _, after := _, guard := _ }) rfl (fun K hK => ?_) AllReadyH.nil
          go_simp
          refine hK.out _ _ ?_ (fun hHeld => ?_)
          · exact ⟨by rw [World.cell?_setCell_other _ _ _ _ (fun h => by cases h)]; exact hHeld.1, by rw [World.cell?_setCell_other _ _ _ _ (fun h => by cases h)]; exact hHeld.2⟩
          clear hK K
          try simp only [Act.put, List.setIfInBounds_toArray, List.set_cons_zero, List.set_cons_succ]
          refine wpAnyH_done (by kernel_rfl) ?_ _
          clear hHeld k0b f0b
          refine NoPanic.normal ?_
          obtain ⟨hq1, hq2⟩ := HM6.out.appW HG.out HO.out
          have HQ1 : Hid _ := hq1
          have HQ2 : Hid _ := HB6.out.trans hq2
          clear hq1 hq2
          go_wp2_with fail
          go_meet
          exact ⟨_, HQ1, HQ2⟩
        · go_simp
          refine hK.out _ _ ?_ (fun hHeld => ?_)
          · exact ⟨cell_up _ hHeld.1, cell_up _ hHeld.2⟩
          clear hK K
          try simp only [Act.put, List.setIfInBounds_toArray, List.set_cons_zero, List.set_cons_succ]
          have k0a : (w6.alloc (.cells #[.int .i64 kd, .string t, .int .i64 c'.n, .int .i64 c'.f] 77)).cell? ⟨b, 5, none⟩ = some (.slice a2 c'.ws.length q2) := cell_up _ k6
          refine wpAnyH_ready (rs := [4]) (by kernel_rfl) (by simp) ?_
          refine AllReadyH.cons (o := { dst := _, op := _, type := _, pos := _, after := _, guard := _ }) rfl (fun K hK => ?_) AllReadyH.nil
          go_simp
          refine hK.out _ _ ?_ (fun hHeld => ?_)
          · exact hHeld
          clear hK K
          try simp only [Act.put, List.setIfInBounds_toArray, List.set_cons_zero, List.set_cons_succ]
          refine wpAnyH_ready (rs := [18]) (by kernel_rfl) (by simp) ?_
          refine AllReadyH.cons (o := { dst := _, op := _, type := _, pos := _, after := _, guard := _ }) rfl (fun K hK => ?_) AllReadyH.nil
          refine step_append_lies _ rfl (.tmp 36) (.tmp 49) 72 rfl B 77 iE _ 4 40 Tryz.underlying72 HIE.out.1 HIE.out.2.1 HIE.out.2.2.1 HIE.out.2.2.2 rfl (by decide) (.slice a2 c'.ws.length q2) _ _ rfl (HM6.out.hw.alloc _) ⟨w6.heap.size, 0, none⟩ 1 1 [.int .i64 kd, .string t, .int .i64 c'.n, .int .i64 c'.f] rfl rfl (cell_four_new _ _ _ _ _ _) (by simp [Value.oneCell']) (by decide) (by have := HL2.out; unfold maxLen; omega) (by have := HL2.out; omega) (by have := HM6.out.lB; simp; omega) (w6.heap.size + 1) (by simp) ?_
          intro g' cap' w' h2 h3 h4 _
          have HO : Hid (Wow B w' (.slice (some ⟨g', 0, none⟩) (c'.ws.length + 1) cap') (c'.ws ++ [x])) := by show World.ownsRow _ _ _ _ _ _ _; rw [wC_app, List.length_append, HX.out]; exact h2
          have HG : Hid (w6.grownBy w' (Value.ownBlock (.slice a2 c'.ws.length q2))) := (World.grownBy_alloc _ _ _).trans h3
          have k0b : w'.cell? ⟨b, 5, none⟩ = some (.slice a2 c'.ws.length q2) := h3.cell k0a (fun e => HM6.out.nw e.symm)
          have f0b : w'.frozen? ⟨b, 5, none⟩ = false := Lib.frozen_of_heap ((HG.out.block b HM6.out.lt (fun e => HM6.out.nw e.symm)).trans HM6.out.blk) 5
          have s0b : w'.cell? ⟨b, 3, none⟩ = some (.int .i64 c'.n) ∧ w'.cell? ⟨b, 2, none⟩ = some (.int .i64 c'.f) := ⟨h3.cell hHeld.1 (fun e => HM6.out.nw e.symm), h3.cell hHeld.2 (fun e => HM6.out.nw e.symm)⟩
          clear h2 h3 h4 k6 k0a
          refine hK.out _ _ ?_ (fun hHeld => ?_)
          · exact s0b
          clear hK K
          try simp only [Act.put, List.setIfInBounds_toArray, List.set_cons_zero, List.set_cons_succ]
          clear s0b
          refine wpAnyH_take (i := 19) (oi := { dst := _, op := _, type := _, pos := _, after := _, guard := _ }) (v := ?_) rfl (by kernel_rfl) (by kernel_rfl) (by kernel_rfl) (fun _ _ _ h => h) (Or.inl ⟨by rfl, ?_⟩) (by assumption) ?_
          rotate_left
          · intro W hSw
            (try dsimp only at hSw)
            go_simp
            (try with_reducible rfl)
          try simp only [Act.put, List.setIfInBounds_toArray, List.set_cons_zero, List.set_cons_succ]
          refine wpAnyH_take (i := 20) (oi := { dst := _, op := _, type := _, pos := _, after := _, guard := _ }) (v := ?_) rfl (by kernel_rfl) (by kernel_rfl) (by kernel_rfl) (fun _ _ _ h => h) (Or.inl ⟨by rfl, ?_⟩) (by assumption) ?_
          rotate_left
          · intro W hSw
            (try dsimp only at hSw)
            go_simp
            (try with_reducible rfl)
          try simp only [Act.put, List.setIfInBounds_toArray, List.set_cons_zero, List.set_cons_succ]
          refine wpAnyH_ready (rs := [21]) (by kernel_rfl) (by simp) ?_
          refine AllReadyH.cons (o := { dst := _, op := _, type := _, pos := _, after := _, guard := _ }) rfl (fun K hK => ?_) AllReadyH.nil
          go_simp
          refine hK.out _ _ ?_ (fun hHeld => ?_)
          · exact ⟨by rw [World.cell?_setCell_other _ _ _ _ (fun h => by cases h)]; exact hHeld.1, by rw [World.cell?_setCell_other _ _ _ _ (fun h => by cases h)]; exact hHeld.2⟩
          clear hK K
          try simp only [Act.put, List.setIfInBounds_toArray, List.set_cons_zero, List.set_cons_succ]
          refine wpAnyH_done (by kernel_rfl) ?_ _
          clear hHeld k0b f0b
          refine NoPanic.normal ?_
          obtain ⟨hq1, hq2⟩ := HM6.out.appW HG.out HO.out
          have HQ1 : Hid _ := hq1
          have HQ2 : Hid _ := HB6.out.trans hq2
          clear hq1 hq2
          go_wp2_with fail
          go_meet
          exact ⟨_, HQ1, HQ2⟩
    case rest =>
      obtain ⟨v', H2, B2⟩ := hcut
      clear H1 B1
      have HC3 : Hid (cw c kd t = { ({ c' with ws := c'.ws ++ [x] } : Cs) with n := 0, bs := [] }) := HC2.out
      obtain ⟨d, hd⟩ : ∃ d : Cs, { c' with ws := c'.ws ++ [x] } = d := ⟨_, rfl⟩
      rw [hd] at H2 HC3
      clear hd HC2 HX HL2
      obtain ⟨a1, q1, a2, q2, rfl, rfl⟩ := H2.out.shapes
      go_upto_region 5 with fail
      have k3 := H2.out.drew.c3
      have f3 := H2.out.drew.frz 3
      have k4 := H2.out.drew.c4
      have f4 := H2.out.drew.frz 4
      have j3 := H2.out.c3
      have g3 := H2.out.frz 3
      have j4 := H2.out.c4
      have g4 := H2.out.frz 4
      have HB3 : Hid (Below B w wc.drew) := B2.out.trans (Below.drew (Below.refl _ _))
      cases a1 with
      | none =>
        have hz : d.bs = [] ∧ q1 = 0 := by
          rcases H2.out.hb.2 with ⟨h1, h2⟩ | ⟨g, cap, cur, h1, _⟩
          · injection h1 with h3 h4 h5
            exact ⟨List.length_eq_zero_iff.1 h2, h5⟩
          · cases h1
        obtain ⟨hz1, rfl⟩ := hz
        have HD : Hid (Cu B wc.drew b (.slice none 0 0) (.slice a2 d.ws.length q2) d) := by have := H2.out.drew; rw [hz1] at this; exact this
        rw [hz1] at k4 j4
        have HZ : Hid (Byt B wc.drew (.slice none 0 0) []) := by have := HD.out.hb; rw [hz1] at this; exact this
        have HF1 : Hid (Cu B ((wc.drew.setCell ⟨b, 3, none⟩ (.int .i64 0)).setCell ⟨b, 4, none⟩ (.slice none 0 0)) b (.slice none 0 0) (.slice a2 d.ws.length q2) (cw c kd t)) := by
          rw [HC3.out]
          exact (HD.out.setn 0).set 4 _ rfl (HZ.out.kept grown_set (.inr HD.out.nb)) (HD.out.hw.kept grown_set (.inr HD.out.nw)) HD.out.nb HD.out.nw
        have HF2 : Hid (Cu B ((wc.drew.setCell ⟨b, 4, none⟩ (.slice none 0 0)).setCell ⟨b, 3, none⟩ (.int .i64 0)) b (.slice none 0 0) (.slice a2 d.ws.length q2) (cw c kd t)) := by
          rw [HC3.out]
          exact (HD.out.set (c' := { d with bs := [] }) 4 _ rfl HZ.out HD.out.hw HD.out.nb HD.out.nw).setn 0
        clear hz1
        go_region
        go_wp2_with fail
        all_goals
          go_end0
          first
            | exact ⟨rfl, (HB3.out.setCell HD.out.lo _).setCell HD.out.lo _, _, _, HF1.out⟩
            | exact ⟨rfl, (HB3.out.setCell HD.out.lo _).setCell HD.out.lo _, _, _, HF2.out⟩
      | some p =>
        have hz : p = ⟨p.block, 0, none⟩ := by
          rcases H2.out.hb.2 with ⟨h1, h2⟩ | ⟨g, cap, cur, h1, _⟩
          · cases h1
          · injection h1 with h3 h4 h5
            injection h3 with h3
            rw [h3]
        obtain ⟨g, hg⟩ : ∃ g, p.block = g := ⟨_, rfl⟩
        rw [hg] at hz
        subst hz
        clear hg
        have HD : Hid (Cu B wc.drew b (.slice (some ⟨g, 0, none⟩) d.bs.length q1) (.slice a2 d.ws.length q2) d) := H2.out.drew
        have HZ : Hid (Byt B wc.drew (.slice (some ⟨g, 0, none⟩) 0 q1) []) := byt_zero HD.out.hb
        have HF1 : Hid (Cu B ((wc.drew.setCell ⟨b, 3, none⟩ (.int .i64 0)).setCell ⟨b, 4, none⟩ (.slice (some ⟨g, 0, none⟩) 0 q1)) b (.slice (some ⟨g, 0, none⟩) 0 q1) (.slice a2 d.ws.length q2) (cw c kd t)) := by
          rw [HC3.out]
          exact (HD.out.setn 0).set 4 _ rfl (HZ.out.kept grown_set (.inr HD.out.nb)) (HD.out.hw.kept grown_set (.inr HD.out.nw)) HD.out.nb HD.out.nw
        have HF2 : Hid (Cu B ((wc.drew.setCell ⟨b, 4, none⟩ (.slice (some ⟨g, 0, none⟩) 0 q1)).setCell ⟨b, 3, none⟩ (.int .i64 0)) b (.slice (some ⟨g, 0, none⟩) 0 q1) (.slice a2 d.ws.length q2) (cw c kd t)) := by
          rw [HC3.out]
          exact (HD.out.set (c' := { d with bs := [] }) 4 _ rfl HZ.out HD.out.hw HD.out.nb HD.out.nw).setn 0
        go_region
        go_wp2_with fail
        all_goals
          go_end0
          first
            | exact ⟨rfl, (HB3.out.setCell HD.out.lo _).setCell HD.out.lo _, _, _, HF1.out⟩
            | exact ⟨rfl, (HB3.out.setCell HD.out.lo _).setCell HD.out.lo _, _, _, HF2.out⟩
end Go.Proofs.YtcmhbcfgikmblabGreatDoor
