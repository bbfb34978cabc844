import Derived.Test.YthlbajkbpceglaaTbh
import Derived.Test.YthlbajkbpceglaaTbl
namespace Go.Proofs.Ythlbajkbpceglaa
open Go.RowKit Go.Maps

/-- A table that is well shaped, row by row. -/
structure Sx (A : List (Value × List Ak)) (G : List (Value × List Int)) (n tk sy : Nat) : Prop where
  a : A.length = n
  g : G.length = n
  n1 : 1 ≤ n
  n2 : n ≤ 2048
  t2 : tk ≤ 64
  s2 : sy ≤ 128
  ra : ∀ i, i < n → (A.getD i nrd).2.length = tk ∧ ∀ x ∈ (A.getD i nrd).2, fts n x = true
  rg : ∀ i, i < n → (G.getD i nrd).2.length = sy ∧ ∀ x ∈ (G.getD i nrd).2, gok n x = true
theorem sx_of {A : List (Value × List Ak)} {G : List (Value × List Int)} (h : shd (A.map Prod.snd) (G.map Prod.snd) = true) : Sx A G A.length (A.getD 0 nrd).2.length (G.getD 0 nrd).2.length := by
  unfold shd at h
  simp only [Bool.and_eq_true, decide_eq_true_eq, List.all_eq_true, List.mem_range, List.length_map, snd_getD] at h
  obtain ⟨⟨h1, h2, h3⟩, ⟨h4, h5, h6⟩, h7⟩ := h
  refine ⟨rfl, h3, h1, h2, h5, h6, fun i hi => ?_, fun i hi => ?_⟩
  · have := h7 i hi
    unfold rok at this
    simp only [Bool.and_eq_true, decide_eq_true_eq, List.all_eq_true] at this
    exact ⟨this.1, this.2.2.1⟩
  · have := h7 i hi
    unfold rok at this
    simp only [Bool.and_eq_true, decide_eq_true_eq, List.all_eq_true] at this
    exact ⟨this.2.1, this.2.2.2⟩
def aimg (l : List Ak) : List UInt8 := l.flatMap fun x => nm (cnt x)
def gimg (l : List Int) : List UInt8 := l.flatMap fun x => nm (x + 1).toNat
def hdr (n tk sy : Nat) : List UInt8 := [84, 1] ++ nm n ++ nm tk ++ nm sy
/-- The image of a table. -/
def img (n tk sy : Nat) (T : List (List Ak)) (U : List (List Int)) : List UInt8 := hdr n tk sy ++ T.flatMap aimg ++ U.flatMap gimg
theorem aimg_step (l : List Ak) (j : Nat) (h : j < l.length) : aimg (l.take (j + 1)) = aimg (l.take j) ++ nm (cnt (l.getD j akd)) := by
  rw [take_getD l akd j h, aimg, aimg, List.flatMap_append]
  simp
theorem gimg_step (l : List Int) (j : Nat) (h : j < l.length) : gimg (l.take (j + 1)) = gimg (l.take j) ++ nm (l.getD j 0 + 1).toNat := by
  rw [take_getD l 0 j h, gimg, gimg, List.flatMap_append]
  simp
theorem rows_step {α : Type} (f : List α → List UInt8) (T : List (List α)) (i : Nat) (h : i < T.length) : (T.take (i + 1)).flatMap f = (T.take i).flatMap f ++ f (T.getD i []) := by
  rw [take_getD T [] i h, List.flatMap_append]
  simp
theorem take_snds {α : Type} (L : List (Value × List α)) : (L.map Prod.snd).take L.length = L.map Prod.snd := List.take_of_length_le (by rw [List.length_map]; exact Nat.le_refl _)
theorem nm_two (n : Nat) (h : n < 16384) : (nm n).length ≤ 2 := nm_len n 2 (by omega) (by omega)
theorem hdr_len (n tk sy : Nat) (h1 : n ≤ 2048) (h2 : tk ≤ 64) (h3 : sy ≤ 128) : (hdr n tk sy).length ≤ 8 := by
  have e1 := nm_two n (by omega)
  have e2 := nm_two tk (by omega)
  have e3 := nm_two sy (by omega)
  unfold hdr
  simp only [List.length_append, List.length_cons, List.length_nil]
  omega
theorem pow9 : (128 : Nat) ^ 9 = 9223372036854775808 := by decide
/-- The box of a table stays where only a row of bytes has grown. -/
theorem box_gr {B n tb : Nat} {w w' : World} {v v' : Value} {xs : List Value} {cs : Array Value} (h : Gr w w' v v') (ho : w.ownsRow B 5 1 v n xs) (hb : w.heap[tb]? = some (.cells cs 25 (0, 0))) : w'.heap[tb]? = some (.cells cs 25 (0, 0)) :=
  (h.1.block tb (lt_of_heap hb) (fun q => tag_ne_blk ho hb (by decide) q.symm)).trans hb
theorem gr_bel {B n : Nat} {w0 w w' : World} {v v' : Value} {xs : List Value} (h : Gr w w' v v') (ho : w.ownsRow B 5 1 v n xs) (hb : Below B w0 w) (hB : B ≤ w0.heap.size) : Below B w0 w' :=
  hb.grown h.1 (Nat.le_trans hB hb.size) (fun r e => (row_tag ho r e).1)
set_option maxRecDepth 100000 in
set_option maxHeartbeats 16000000 in
theorem image_any {v0 v1 : Value} {A : List (Value × List Ak)} {G : List (Value × List Int)} {n tk sy : Nat} (w : World) (h : Tb w v0 v1 A G) (hx : Sx A G n tk sy) :
    Calls Try.prog 14 #[.agg #[v0, v1]] w fun e w' => ∃ v', e = .returned v' ∧ Byt w.heap.size w' v' (img n tk sy (A.map Prod.snd) (G.map Prod.snd)) ∧ Below w.heap.size w w' := by
  have HT : Hid (Tb w v0 v1 A G) := h
  have HS : Hid (Sx A G n tk sy) := hx
  obtain ⟨a0, c0, a1, c1, rfl, rfl⟩ := h.form
  clear h hx
  rw [HS.out.a, HS.out.g] at HT ⊢
  obtain ⟨g, oo, cap, a, c, q0, q1, q2, q3⟩ := HT.out.a.at 0 (by rw [HS.out.a]; exact HS.out.n1)
  obtain ⟨rfl, -, rfl⟩ := Value.slice.inj q0
  obtain ⟨g', oo', cap', a', c', p0, p1, p2, p3⟩ := HT.out.g.at 0 (by rw [HS.out.g]; exact HS.out.n1)
  obtain ⟨rfl, -, rfl⟩ := Value.slice.inj p0
  rw [(HS.out.ra 0 HS.out.n1).1, Nat.add_zero] at q2
  rw [(HS.out.rg 0 HS.out.n1).1, Nat.add_zero] at p2
  have HC0 : Hid (w.cell? ⟨g, oo, none⟩ = some (.slice a tk c)) := q2
  have HC1 : Hid (w.cell? ⟨g', oo', none⟩ = some (.slice a' sy c')) := p2
  clear q0 q1 q2 q3 p0 p1 p2 p3
  obtain ⟨W0, hW0⟩ : ∃ W0, W0 = w.alloc (.cells #[.slice (some ⟨g, oo, none⟩) n c0, .slice (some ⟨g', oo', none⟩) n c1] 25) := ⟨_, rfl⟩
  have HB0 : Hid (Below w.heap.size w W0) := by rw [hW0]; exact bel_up _ _
  have HX0 : Hid (W0.heap[w.heap.size]? = some (.cells #[.slice (some ⟨g, oo, none⟩) n c0, .slice (some ⟨g', oo', none⟩) n c1] 25 (0, 0))) := by rw [hW0]; exact heap_new _ _
  have e5 : (0 : Int) < (n : Int) := by have := HS.out.n1; omega
  have e6 : 0 < n := HS.out.n1
  go_enter Try.func14, Try.ntmps14
  go_upto_region 1 with fail
  rw [← hW0]
  clear hW0
  obtain ⟨tb, htb⟩ : ∃ tb, w.heap.size = tb := ⟨_, rfl⟩
  rw [htb] at HX0 ⊢
  clear htb
  have kc := fun (w : World) (C : Array Value) (n c : Nat) => Lib.run_convert_bytes_const (P := Try.prog) w 41 5 C n c Try.underlying41 Try.underlying5
  go_upto_region 2 with fail
  clear kc
  obtain ⟨W1, hW1⟩ : ∃ W1, W1 = W0.alloc (.cells #[.int .u8 84, .int .u8 1] 5 (2, 3)) := ⟨_, rfl⟩
  (try simp only [List.size_toArray, List.length_cons, List.length_nil, Nat.zero_add, Nat.reduceAdd])
  rw [← hW1]
  have HM1 : Hid (W1.heap[W0.heap.size]? = some (.cells #[.int .u8 84, .int .u8 1] 5 (2, 3))) := by rw [hW1]; exact heap_new _ _
  have HM2 : Hid (W1.cell? ⟨W0.heap.size, 0, none⟩ = some (.int .u8 84) ∧ W1.cell? ⟨W0.heap.size, 1, none⟩ = some (.int .u8 1)) := ⟨by show World.cell? _ _ = _; rw [Lib.cell_of_heap HM1.out]; rfl, by show World.cell? _ _ = _; rw [Lib.cell_of_heap HM1.out]; rfl⟩
  have HU1 : Hid (Below W0.heap.size W0 W1) := by rw [hW1]; exact bel_up _ _
  have HB1 : Hid (Below w.heap.size w W1) := below_trans HB0.out HU1.out
  have HX1 : Hid (W1.heap[tb]? = some (.cells #[.slice (some ⟨g, oo, none⟩) n c0, .slice (some ⟨g', oo', none⟩) n c1] 25 (0, 0))) := (HU1.out.block _ (lt_of_heap HX0.out)).trans HX0.out
  clear hW1 HB0 HX0 HU1
  have HNL : Hid ((nm n).length ≤ 2 ∧ (nm tk).length ≤ 2 ∧ (nm sy).length ≤ 2) := ⟨nm_two n (by have := HS.out.n2; omega), nm_two tk (by have := HS.out.t2; omega), nm_two sy (by have := HS.out.s2; omega)⟩
  have x0 := rcell HX1.out 0 _ rfl
  have x1 := rcell HX1.out 1 _ rfl
  go_upto_region 3 with (go_at_call 18; refine (firstCount_any n (by have := HS.out.n2; rw [pow9]; omega) W1 HM2.out.1 HM2.out.2).mono ?_; rintro e W2 ⟨u2, rfl, hy, hb⟩; have HY2' : Hid (Byt w.heap.size W2 u2 ([84, 1] ++ nm n)) := row_base hy HB1.out.size; have HU2 : Hid (Below W1.heap.size W1 W2) := hb; clear hy hb)
  clear x0 x1
  have HX2 : Hid (W2.heap[tb]? = some (.cells #[.slice (some ⟨g, oo, none⟩) n c0, .slice (some ⟨g', oo', none⟩) n c1] 25 (0, 0))) := (HU2.out.block _ (lt_of_heap HX1.out)).trans HX1.out
  have HB2 : Hid (Below w.heap.size w W2) := below_trans HB1.out HU2.out
  obtain ⟨l2, hl2⟩ : ∃ l, [84, 1] ++ nm n = l := ⟨_, rfl⟩
  have HL2 : Hid ([84, 1] ++ nm n = l2) := hl2
  rw [hl2] at HY2'
  clear hl2
  obtain ⟨m2, hm2⟩ : ∃ m, l2.length = m := ⟨_, rfl⟩
  have HMM2 : Hid (l2.length = m2) := hm2
  clear hm2
  have HZ2 : Hid (m2 ≤ 6) := by have h1 := HMM2.out; have h2 := HNL.out; rw [← HL2.out] at h1; simp only [List.length_append, List.length_cons, List.length_nil] at h1; show _ ≤ _; omega
  obtain ⟨z2, y2, hz⟩ := row_shape HY2'.out
  rw [HMM2.out] at hz
  subst hz
  have HY2 : Hid (Byt w.heap.size W2 (.slice z2 m2 y2) l2) := HY2'.out
  clear HY2'
  clear HX1 HB1 HU2 HM1 HM2
  have x0 := rcell HX2.out 0 _ rfl
  have x1 := rcell HX2.out 1 _ rfl
  have y0 := below_cell HB2.out HC0.out
  have y1 := below_cell HB2.out HC1.out
  go_upto_region 4 with (go_at_call 18; refine (appendCount_any (l := l2) tk (by have := HS.out.t2; rw [pow9]; omega) W2 HY2.out (by have := HMM2.out; have := HZ2.out; omega) HB2.out.size).mono ?_; rintro e W3 ⟨u3, rfl, hy, hg⟩; have HY3' : Hid (Byt w.heap.size W3 u3 (l2 ++ nm tk)) := hy; have HG3 : Hid (Gr W2 W3 (.slice z2 m2 y2) u3) := hg; clear hy hg)
  clear x0 x1 y0 y1
  have HX3 : Hid (W3.heap[tb]? = some (.cells #[.slice (some ⟨g, oo, none⟩) n c0, .slice (some ⟨g', oo', none⟩) n c1] 25 (0, 0))) := box_gr HG3.out HY2.out HX2.out
  have HB3 : Hid (Below w.heap.size w W3) := gr_bel HG3.out HY2.out HB2.out (Nat.le_refl _)
  obtain ⟨l3, hl3⟩ : ∃ l, l2 ++ nm tk = l := ⟨_, rfl⟩
  have HL3 : Hid (l2 ++ nm tk = l3) := hl3
  rw [hl3] at HY3'
  clear hl3
  obtain ⟨m3, hm3⟩ : ∃ m, l3.length = m := ⟨_, rfl⟩
  have HMM3 : Hid (l3.length = m3) := hm3
  clear hm3
  have HZ3 : Hid (m3 ≤ 8) := by have h1 := HMM3.out; have h2 := HNL.out; have h3 := HMM2.out; have h4 := HZ2.out; rw [← HL3.out] at h1; simp only [List.length_append] at h1; show _ ≤ _; omega
  obtain ⟨z3, y3, hz⟩ := row_shape HY3'.out
  rw [HMM3.out] at hz
  subst hz
  have HY3 : Hid (Byt w.heap.size W3 (.slice z3 m3 y3) l3) := HY3'.out
  clear HY3'
  clear HX2 HB2 HY2 HG3
  have x0 := rcell HX3.out 0 _ rfl
  have x1 := rcell HX3.out 1 _ rfl
  have y0 := below_cell HB3.out HC0.out
  have y1 := below_cell HB3.out HC1.out
  go_upto_region 5 with (go_at_call 18; refine (appendCount_any (l := l3) sy (by have := HS.out.s2; rw [pow9]; omega) W3 HY3.out (by have := HMM3.out; have := HZ3.out; omega) HB3.out.size).mono ?_; rintro e W4 ⟨u4, rfl, hy, hg⟩; have HY4' : Hid (Byt w.heap.size W4 u4 (l3 ++ nm sy)) := hy; have HG4 : Hid (Gr W3 W4 (.slice z3 m3 y3) u4) := hg; clear hy hg)
  clear x0 x1 y0 y1
  have HX4 : Hid (W4.heap[tb]? = some (.cells #[.slice (some ⟨g, oo, none⟩) n c0, .slice (some ⟨g', oo', none⟩) n c1] 25 (0, 0))) := box_gr HG4.out HY3.out HX3.out
  have HB4 : Hid (Below w.heap.size w W4) := gr_bel HG4.out HY3.out HB3.out (Nat.le_refl _)
  obtain ⟨l4, hl4⟩ : ∃ l, l3 ++ nm sy = l := ⟨_, rfl⟩
  have HL4 : Hid (l3 ++ nm sy = l4) := hl4
  rw [hl4] at HY4'
  clear hl4
  obtain ⟨m4, hm4⟩ : ∃ m, l4.length = m := ⟨_, rfl⟩
  have HMM4 : Hid (l4.length = m4) := hm4
  clear hm4
  have HZ4 : Hid (m4 ≤ 10) := by have h1 := HMM4.out; have h2 := HNL.out; have h3 := HMM3.out; have h4 := HZ3.out; rw [← HL4.out] at h1; simp only [List.length_append] at h1; show _ ≤ _; omega
  obtain ⟨z4, y4, hz⟩ := row_shape HY4'.out
  rw [HMM4.out] at hz
  subst hz
  have HY4 : Hid (Byt w.heap.size W4 (.slice z4 m4 y4) l4) := HY4'.out
  clear HY4'
  clear HX3 HB3 HY3 HG4
  have HHD : Hid (hdr n tk sy = l4) := by show _ = _; rw [← HL4.out, ← HL3.out, ← HL2.out]; rfl
  have HHL : Hid (l4.length ≤ 10) := by have := HMM4.out; have := HZ4.out; show _ ≤ _; omega
  obtain ⟨hd, hhd⟩ : ∃ x, l4 = x := ⟨_, rfl⟩
  have HY : Hid (Byt w.heap.size W4 (.slice z4 m4 y4) hd) := by rw [← hhd]; exact HY4.out
  rw [hhd] at HHD HHL
  clear hhd HY4
  have x0 := rcell HX4.out 0 _ rfl
  go_upto_region 6 with fail
  clear x0
  go_loopg [3, 36] n (fun gm v3 v36 wr => ∃ i : Nat, v36 = .int .i64 (i : Int) ∧ ∃ (ra : Option Addr) (m rc : Nat), v3 = .slice ra m rc ∧ Hid (Below w.heap.size w wr) ∧ Hid (i ≤ n ∧ gm = n - i) ∧ Hid (wr.heap[tb]? = some (.cells #[.slice (some ⟨g, oo, none⟩) n c0, .slice (some ⟨g', oo', none⟩) n c1] 25 (0, 0))) ∧ ∃ q : List UInt8, Hid (q = hd ++ ((A.map Prod.snd).take i).flatMap aimg) ∧ Hid (q.length ≤ 10 + i * 128) ∧ Hid (Byt w.heap.size wr (.slice ra m rc) q))
  case atStart => exact ⟨0, rfl, _, _, _, rfl, HB4, ⟨Nat.zero_le _, rfl⟩, HX4, _, by show _ = _; rw [List.take_zero]; exact (List.append_nil _).symm, by have := HHL.out; show _ ≤ _; omega, HY⟩
  case round =>
    clear HY HB4 HX4
    obtain ⟨i, rfl, ra, m, rc, rfl, HBW, HI, HX, q, HQ, HQL, HY⟩ := hrel
    by_cases hi : i < n
    · obtain ⟨a2, c2, q2, q3⟩ := HT.out.a.row i (by rw [HS.out.a]; exact hi)
      obtain ⟨r1, r2⟩ := HS.out.ra i hi
      have HRS : Hid (((A.map Prod.snd).take (i + 1)).flatMap aimg = ((A.map Prod.snd).take i).flatMap aimg ++ aimg (A.getD i nrd).2) := by
        have h9 := rows_step aimg (A.map Prod.snd) i (by rw [List.length_map, HS.out.a]; exact hi)
        rw [snd_getD] at h9
        exact h9
      obtain ⟨l, hl⟩ : ∃ l, (A.getD i nrd).2 = l := ⟨_, rfl⟩
      rw [hl] at q2 q3 r1 r2 HRS
      rw [r1] at q2 q3
      have HLL : Hid (l.length = tk) := r1
      have HAL : Hid (∀ x ∈ l, fts n x = true) := r2
      have HR : Hid (Rw w (.slice a2 tk c2) tk (flat af l)) := q3
      have y0 := below_cell HBW.out q2
      have e1 : decide ((i : Int) < (n : Int)) = true := by rw [decide_eq_true_eq]; omega
      have e2 : decide (i < n) = true := by rw [decide_eq_true_eq]; omega
      have e5 : (i : Int) < (n : Int) := by omega
      have e6 : i < n := hi
      have HIL : Hid (i < n) := hi
      have hwr := w64n i (by have := HS.out.n2; have := HIL.out; omega)
      clear hi hl r1 r2 q2 q3
      go_upto_region 9 with fail
      clear e1 e2 y0
      go_loopg [3, 42] tk (fun gm v3 v42 wr => ∃ j : Nat, v42 = .int .i64 (j : Int) ∧ ∃ (ra : Option Addr) (m rc : Nat), v3 = .slice ra m rc ∧ Hid (Below w.heap.size w wr) ∧ Hid (j ≤ tk ∧ gm = tk - j) ∧ Hid (wr.heap[tb]? = some (.cells #[.slice (some ⟨g, oo, none⟩) n c0, .slice (some ⟨g', oo', none⟩) n c1] 25 (0, 0))) ∧ ∃ p : List UInt8, Hid (p = q ++ aimg (l.take j)) ∧ Hid (p.length ≤ 10 + i * 128 + j * 2) ∧ Hid (Byt w.heap.size wr (.slice ra m rc) p))
      case atStart => exact ⟨0, rfl, _, _, _, rfl, HBW, ⟨Nat.zero_le _, rfl⟩, HX, q, (List.append_nil _).symm, HQL, HY⟩
      case round =>
        clear HBW HX HY
        obtain ⟨j, rfl, ra, m, rc, rfl, HBW, HJ, HX, p, HP, HPL, HY⟩ := hrel
        by_cases hj : j < tk
        · obtain ⟨g2, o2, cap2, e0, hc⟩ := HR.out.place (by omega)
          obtain ⟨rfl, -, rfl⟩ := Value.slice.inj e0
          have hjl : j < l.length := by rw [HLL.out]; exact hj
          obtain ⟨q0, q1⟩ := af_get l j hjl
          have k0 := below_cell HBW.out (hc _ _ q0)
          have k1 := below_cell HBW.out (hc _ _ q1)
          rw [← Nat.add_assoc] at k1
          have HST : Hid (aimg (l.take (j + 1)) = aimg (l.take j) ++ nm (cnt (l.getD j akd))) := aimg_step l j hjl
          have HFT : Hid (fts n (l.getD j akd) = true) := HAL.out _ (getD_mem l akd j hjl)
          obtain ⟨x, hx⟩ : ∃ x, l.getD j akd = x := ⟨_, rfl⟩
          rw [hx] at k0 k1 HST HFT
          clear hx hjl q0 q1 hc e0
          have HCL : Hid (cnt x < 4099) := cnt_lt HFT.out HS.out.n2
          have t1 : decide ((j : Int) < (tk : Int)) = true := by rw [decide_eq_true_eq]; omega
          have t2 : decide (j < tk) = true := by rw [decide_eq_true_eq]; omega
          have t5 : (j : Int) < (tk : Int) := by omega
          have t6 : j < tk := hj
          have HJL : Hid (j < tk) := hj
          have hwj := w64n j (by have := HS.out.t2; have := HJL.out; omega)
          have HPB : Hid (p.length ≤ 1000000000) := by have := HPL.out; have := HS.out.n2; have := HS.out.t2; have := HIL.out; have := HJL.out; show _ ≤ _; omega
          clear hj
          go_wp2_with (first | (go_at_call 19; refine (countOf_any x HFT.out HS.out.n2 _).mono ?_; rintro e W5 ⟨rfl, hb5⟩; have B5 : Hid (Below wr.heap.size wr W5) := below_trans (bel_up _ _) hb5; clear hb5) | (go_at_call 18; refine (appendCount_any (l := p) (cnt x) (by have := HCL.out; rw [pow9]; omega) W5 (row_up HY.out B5.out) HPB.out (below_trans HBW.out B5.out).size).mono ?_; rintro e W6 ⟨u6, rfl, hy, hg⟩; have HY6 : Hid (Byt w.heap.size W6 u6 (p ++ nm (cnt x))) := hy; have HG6 : Hid (Gr W5 W6 (.slice ra m rc) u6) := hg; clear hy hg; obtain ⟨z6, y6, hz⟩ := row_shape HY6.out; obtain ⟨m6, hm6⟩ : ∃ m, (p ++ nm (cnt x)).length = m := ⟨_, rfl⟩; rw [hm6] at hz; subst hz; clear hm6))
          have HX6 : Hid _ := box_gr HG6.out (row_up HY.out B5.out) ((B5.out.block _ (lt_of_heap HX.out)).trans HX.out)
          have HB6 : Hid (Below w.heap.size w W6) := gr_bel HG6.out (row_up HY.out B5.out) (below_trans HBW.out B5.out) (Nat.le_refl _)
          go_roundg (tk - (j + 1))
          case measure => have := HJ.out; have := HJL.out; omega
          case rel => exact ⟨j + 1, by first | rfl | (rw [show (j : Int) + 1 = ((j + 1 : Nat) : Int) by omega]), _, _, _, rfl, HB6, ⟨HJL.out, rfl⟩, HX6, p ++ nm (cnt x), by show _ = _; rw [HST.out, HP.out, List.append_assoc], by have h1 := nm_two (cnt x) (by have := HCL.out; omega); have h2 := HPL.out; show _ ≤ _; rw [List.length_append]; omega, HY6⟩
        · have t1 : decide ((j : Int) < (tk : Int)) = false := by rw [decide_eq_false_iff_not]; omega
          have t2 : decide (j < tk) = false := by rw [decide_eq_false_iff_not]; omega
          have HJM : Hid (j = tk) := by have := HJ.out; show _ = _; omega
          have HPQ : Hid (p = hd ++ ((A.map Prod.snd).take (i + 1)).flatMap aimg) := by
            show _ = _
            rw [HRS.out, HP.out, HQ.out, HJM.out, ← HLL.out, List.take_length, List.append_assoc]
          have HPN : Hid (p.length ≤ 10 + (i + 1) * 128) := by have := HPL.out; have := HJM.out; have := HS.out.t2; show _ ≤ _; omega
          clear hj
          go_wp2_with fail
          go_roundg (n - (i + 1))
          case measure => have := HI.out; have := HIL.out; omega
          case rel => exact ⟨i + 1, by first | rfl | (rw [show (i : Int) + 1 = ((i + 1 : Nat) : Int) by omega]), _, _, _, rfl, HBW, ⟨HIL.out, rfl⟩, HX, p, HPQ, HPN, HY⟩
    · have e1 : decide ((i : Int) < (n : Int)) = false := by rw [decide_eq_false_iff_not]; omega
      have e2 : decide (i < n) = false := by rw [decide_eq_false_iff_not]; omega
      have HIN : Hid (i = n) := by have := HI.out; show _ = _; omega
      clear hi
      have HQF : Hid (q = hd ++ (A.map Prod.snd).flatMap aimg) := by
        show _ = _
        rw [HQ.out, HIN.out, ← HS.out.a, take_snds]
      have HQB : Hid (q.length ≤ 300000) := by have := HQL.out; have := HIN.out; have := HS.out.n2; show _ ≤ _; omega
      go_upto_region 14 with fail
      clear e1 e2 HI HQ HQL HIN
      obtain ⟨V, hV⟩ : ∃ V, V = wr := ⟨_, rfl⟩
      rw [← hV] at HBW HX HY ⊢
      have HBV : Hid (Below w.heap.size w V) := HBW.out
      have HXV : Hid _ := HX.out
      have HYV : Hid (Byt w.heap.size V (.slice ra m rc) (hd ++ (A.map Prod.snd).flatMap aimg)) := by have h9 := HY.out; rw [HQF.out] at h9; exact h9
      have HQC : Hid ((hd ++ (A.map Prod.snd).flatMap aimg).length ≤ 300000) := by have h9 := HQB.out; rw [HQF.out] at h9; exact h9
      clear hV HBW HX HY HQF HQB q
      have x1 := rcell HXV.out 1 _ rfl
      go_upto_region 15 with fail
      clear x1
      go_loopg [3, 55] n (fun gm v3 v55 wr => ∃ i : Nat, v55 = .int .i64 (i : Int) ∧ ∃ (ra : Option Addr) (m rc : Nat), v3 = .slice ra m rc ∧ Hid (Below w.heap.size w wr) ∧ Hid (i ≤ n ∧ gm = n - i) ∧ Hid (wr.heap[tb]? = some (.cells #[.slice (some ⟨g, oo, none⟩) n c0, .slice (some ⟨g', oo', none⟩) n c1] 25 (0, 0))) ∧ ∃ q : List UInt8, Hid (q = (hd ++ (A.map Prod.snd).flatMap aimg) ++ ((G.map Prod.snd).take i).flatMap gimg) ∧ Hid (q.length ≤ 300000 + i * 256) ∧ Hid (Byt w.heap.size wr (.slice ra m rc) q))
      case atStart => exact ⟨0, rfl, _, _, _, rfl, HBV, ⟨Nat.zero_le _, rfl⟩, HXV, _, by show _ = _; rw [List.take_zero]; exact (List.append_nil _).symm, by have := HQC.out; show _ ≤ _; omega, HYV⟩
      case round =>
        clear HYV HBV HXV
        obtain ⟨i, rfl, ra, m, rc, rfl, HBW, HI, HX, q, HQ, HQL, HY⟩ := hrel
        by_cases hi : i < n
        · obtain ⟨a2, c2, q2, q3⟩ := HT.out.g.row i (by rw [HS.out.g]; exact hi)
          obtain ⟨r1, r2⟩ := HS.out.rg i hi
          have HRS : Hid (((G.map Prod.snd).take (i + 1)).flatMap gimg = ((G.map Prod.snd).take i).flatMap gimg ++ gimg (G.getD i nrd).2) := by
            have h9 := rows_step gimg (G.map Prod.snd) i (by rw [List.length_map, HS.out.g]; exact hi)
            rw [snd_getD] at h9
            exact h9
          obtain ⟨l, hl⟩ : ∃ l, (G.getD i nrd).2 = l := ⟨_, rfl⟩
          rw [hl] at q2 q3 r1 r2 HRS
          rw [r1] at q2 q3
          have HLL : Hid (l.length = sy) := r1
          have HAL : Hid (∀ x ∈ l, gok n x = true) := r2
          have HR : Hid (Rw w (.slice a2 sy c2) sy (flat gf l)) := q3
          have y0 := below_cell HBW.out q2
          have e1 : decide ((i : Int) < (n : Int)) = true := by rw [decide_eq_true_eq]; omega
          have e2 : decide (i < n) = true := by rw [decide_eq_true_eq]; omega
          have e5 : (i : Int) < (n : Int) := by omega
          have e6 : i < n := hi
          have HIL : Hid (i < n) := hi
          have hwr := w64n i (by have := HS.out.n2; have := HIL.out; omega)
          clear hi hl r1 r2 q2 q3
          go_upto_region 18 with fail
          clear e1 e2 y0
          go_loopg [3, 61] sy (fun gm v3 v61 wr => ∃ j : Nat, v61 = .int .i64 (j : Int) ∧ ∃ (ra : Option Addr) (m rc : Nat), v3 = .slice ra m rc ∧ Hid (Below w.heap.size w wr) ∧ Hid (j ≤ sy ∧ gm = sy - j) ∧ Hid (wr.heap[tb]? = some (.cells #[.slice (some ⟨g, oo, none⟩) n c0, .slice (some ⟨g', oo', none⟩) n c1] 25 (0, 0))) ∧ ∃ p : List UInt8, Hid (p = q ++ gimg (l.take j)) ∧ Hid (p.length ≤ 300000 + i * 256 + j * 2) ∧ Hid (Byt w.heap.size wr (.slice ra m rc) p))
          case atStart => exact ⟨0, rfl, _, _, _, rfl, HBW, ⟨Nat.zero_le _, rfl⟩, HX, q, (List.append_nil _).symm, HQL, HY⟩
          case round =>
            clear HBW HX HY
            obtain ⟨j, rfl, ra, m, rc, rfl, HBW, HJ, HX, p, HP, HPL, HY⟩ := hrel
            by_cases hj : j < sy
            · obtain ⟨g2, o2, cap2, e0, hc⟩ := HR.out.place (by omega)
              obtain ⟨rfl, -, rfl⟩ := Value.slice.inj e0
              have hjl : j < l.length := by rw [HLL.out]; exact hj
              have q0 := gf_get l j hjl
              have k0 := below_cell HBW.out (hc _ _ q0)
              have HST : Hid (gimg (l.take (j + 1)) = gimg (l.take j) ++ nm (l.getD j 0 + 1).toNat) := gimg_step l j hjl
              have HFT : Hid (gok n (l.getD j 0) = true) := HAL.out _ (getD_mem l 0 j hjl)
              obtain ⟨x, hx⟩ : ∃ x, l.getD j 0 = x := ⟨_, rfl⟩
              rw [hx] at k0 HST HFT
              clear hx hjl q0 hc e0
              have hgx : -1 ≤ x ∧ x < (n : Int) := by have h9 := HFT.out; unfold gok at h9; simpa using h9
              obtain ⟨t, ht⟩ : ∃ t : Nat, x + 1 = (t : Int) := ⟨(x + 1).toNat, by omega⟩
              have HTT : Hid ((x + 1).toNat = t ∧ t < 4099) := by have := HS.out.n2; show _ ∧ _; omega
              rw [HTT.out.1] at HST
              have hwx : IntKind.i64.wrap (x + 1) = (t : Int) := by have := HS.out.n2; rw [IntKind.wrap_i64]; omega
              clear hgx ht
              have t1 : decide ((j : Int) < (sy : Int)) = true := by rw [decide_eq_true_eq]; omega
              have t2 : decide (j < sy) = true := by rw [decide_eq_true_eq]; omega
              have t5 : (j : Int) < (sy : Int) := by omega
              have t6 : j < sy := hj
              have HJL : Hid (j < sy) := hj
              have hwj := w64n j (by have := HS.out.s2; have := HJL.out; omega)
              have HPB : Hid (p.length ≤ 1000000000) := by have := HPL.out; have := HS.out.n2; have := HS.out.s2; have := HIL.out; have := HJL.out; show _ ≤ _; omega
              clear hj
              go_wp2_with (go_at_call 18; refine (appendCount_any (l := p) t (by have := HTT.out; rw [pow9]; omega) wr HY.out HPB.out HBW.out.size).mono ?_; rintro e W6 ⟨u6, rfl, hy, hg⟩; have HY6 : Hid (Byt w.heap.size W6 u6 (p ++ nm t)) := hy; have HG6 : Hid (Gr wr W6 (.slice ra m rc) u6) := hg; clear hy hg; obtain ⟨z6, y6, hz⟩ := row_shape HY6.out; obtain ⟨m6, hm6⟩ : ∃ m, (p ++ nm t).length = m := ⟨_, rfl⟩; rw [hm6] at hz; subst hz; clear hm6)
              have HX6 : Hid _ := box_gr HG6.out HY.out HX.out
              have HB6 : Hid (Below w.heap.size w W6) := gr_bel HG6.out HY.out HBW.out (Nat.le_refl _)
              go_roundg (sy - (j + 1))
              case measure => have := HJ.out; have := HJL.out; omega
              case rel => exact ⟨j + 1, by first | rfl | (rw [show (j : Int) + 1 = ((j + 1 : Nat) : Int) by omega]), _, _, _, rfl, HB6, ⟨HJL.out, rfl⟩, HX6, p ++ nm t, by show _ = _; rw [HST.out, HP.out, List.append_assoc], by have h1 := nm_two t (by have := HTT.out.2; omega); have h2 := HPL.out; show _ ≤ _; rw [List.length_append]; omega, HY6⟩
            · have t1 : decide ((j : Int) < (sy : Int)) = false := by rw [decide_eq_false_iff_not]; omega
              have t2 : decide (j < sy) = false := by rw [decide_eq_false_iff_not]; omega
              have HJM : Hid (j = sy) := by have := HJ.out; show _ = _; omega
              have HPQ : Hid (p = (hd ++ (A.map Prod.snd).flatMap aimg) ++ ((G.map Prod.snd).take (i + 1)).flatMap gimg) := by
                show _ = _
                rw [HRS.out, HP.out, HQ.out, HJM.out, ← HLL.out, List.take_length, List.append_assoc]
              have HPN : Hid (p.length ≤ 300000 + (i + 1) * 256) := by have := HPL.out; have := HJM.out; have := HS.out.s2; show _ ≤ _; omega
              clear hj
              go_wp2_with fail
              go_roundg (n - (i + 1))
              case measure => have := HI.out; have := HIL.out; omega
              case rel => exact ⟨i + 1, by first | rfl | (rw [show (i : Int) + 1 = ((i + 1 : Nat) : Int) by omega]), _, _, _, rfl, HBW, ⟨HIL.out, rfl⟩, HX, p, HPQ, HPN, HY⟩
        · have e1 : decide ((i : Int) < (n : Int)) = false := by rw [decide_eq_false_iff_not]; omega
          have e2 : decide (i < n) = false := by rw [decide_eq_false_iff_not]; omega
          have HIN : Hid (i = n) := by have := HI.out; show _ = _; omega
          clear hi
          have HQF : Hid (q = (hd ++ (A.map Prod.snd).flatMap aimg) ++ (G.map Prod.snd).flatMap gimg) := by
            show _ = _
            rw [HQ.out, HIN.out, ← HS.out.g, take_snds]
          go_wp2_with fail
          go_ret
          refine ⟨_, rfl, ?_, HBW.out⟩
          have h9 := HY.out
          rw [HQF.out, ← HHD.out] at h9
          exact h9
end Go.Proofs.Ythlbajkbpceglaa
