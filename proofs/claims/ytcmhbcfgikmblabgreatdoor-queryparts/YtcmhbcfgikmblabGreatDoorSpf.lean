import Derived.Test.YtcmhbcfgikmblabGreatDoorSvb
namespace Go.Proofs.YtcmhbcfgikmblabGreatDoor
open Go.RowKit Go.Maps

/-- The words, joined. -/
def jna : List Wd → List UInt8
  | [] => []
  | [x] => spl x
  | x :: y :: r => spl x ++ 32 :: jna (y :: r)
def jn (l : List Wd) : List UInt8 := if l.all snd then jna l else []
theorem jna_snoc (l : List Wd) (x : Wd) : jna (l ++ [x]) = if l.length = 0 then spl x else jna l ++ 32 :: spl x := by
  induction l with
  | nil => rfl
  | cons y r ih =>
    cases r with
    | nil => rfl
    | cons z r =>
      rw [List.cons_append, List.cons_append, jna, ← List.cons_append, ih, if_neg (by simp), if_neg (by simp), jna]
      simp
theorem take_snoc_wd (l : List Wd) (i : Nat) (hi : i < l.length) : l.take (i + 1) = l.take i ++ [l.getD i w0] := by
  rw [List.take_add_one, List.getD_eq_getElem?_getD, List.getElem?_eq_getElem hi]
  rfl
theorem byt_str {B : Nat} {W : World} {v : Value} {l : List UInt8} {d : ByteArray} (h : W.ownsRow B 5 1 v (l.length + d.size) (Lib.byteCells l ++ Lib.strCells d)) : Byt B W v (l ++ d.data.toList) := by
  unfold Byt
  have e : (l ++ d.data.toList).length = l.length + d.size := by rw [List.length_append, lst_siz]
  have e2 : Lib.byteCells (l ++ d.data.toList) = Lib.byteCells l ++ Lib.strCells d := by simp [Lib.byteCells, Lib.strCells]
  rw [e, e2]
  exact h

set_option maxRecDepth 100000 in
set_option maxHeartbeats 8000000 in
theorem join_any {v : Value} (l : List Wd) (w : World) (h : Rw w v l.length (wC l)) (hl : l.length ≤ 1000000000000) (ht : ∀ x ∈ l, x.t.length ≤ 100000000000) (hj : ∀ i, (jna (l.take i)).length ≤ 100000000000) (hI : ∀ x ∈ l, snd x = true → x.k = 4 → ItoaOK w x.n) :
    Calls Tryz.prog 34 #[v] w fun e w' => e = .returned (.string ⟨(jn l).toArray⟩) ∧ Below w.heap.size w w' := by
  obtain ⟨i5, hi5, hx0, hx1, hx2⟩ := info_parts info5
  obtain ⟨a1, g1, o1, q1, rfl, hq1, hn1, hs1, hc1⟩ := h
  have HC1 : Hid (∀ i, i < l.length → w.cell? ⟨g1, o1 + i * 4, none⟩ = some (.int .i64 (l.getD i w0).k) ∧ w.cell? ⟨g1, o1 + i * 4 + 1, none⟩ = some (.string ⟨(l.getD i w0).t.toArray⟩) ∧ w.cell? ⟨g1, o1 + i * 4 + 2, none⟩ = some (.int .i64 (l.getD i w0).n) ∧ w.cell? ⟨g1, o1 + i * 4 + 3, none⟩ = some (.int .i64 (l.getD i w0).a)) := fun i hi => by
    obtain ⟨k0, k1, k2, k3⟩ := wC_get l i hi
    exact ⟨hc1 _ _ k0, hc1 _ _ k1, hc1 _ _ k2, hc1 _ _ k3⟩
  have HL : Hid (l.length ≤ 1000000000000) := hl
  have HT : Hid (∀ x ∈ l, x.t.length ≤ 100000000000) := ht
  have HJ : Hid (∀ i, (jna (l.take i)).length ≤ 100000000000) := hj
  have HI : Hid (∀ x ∈ l, snd x = true → x.k = 4 → ItoaOK w x.n) := hI
  have HS1 : Hid (0 < l.length → a1 = some ⟨g1, o1, none⟩) := hs1
  obtain ⟨R, hR⟩ : ∃ R, jn l = R := ⟨_, rfl⟩
  have HR : Hid (jn l = R) := hR
  rw [hR]
  clear hl ht hj hI hq1 hn1 hs1 hc1 hR
  go_enter Tryz.func34, Tryz.ntmps34
  go_wp2_with fail
  go_loopg [3, 8] l.length (fun gm v3 v8 wr => ∃ i : Nat, v8 = .int .i64 (i : Int) ∧ Hid (i ≤ l.length ∧ gm = l.length - i) ∧ Hid (Byt w.heap.size wr v3 (jna (l.take i))) ∧ Hid ((l.take i).all snd = true) ∧ Hid (Below w.heap.size w wr))
  case atStart => exact ⟨0, rfl, ⟨Nat.zero_le _, rfl⟩, World.ownsRow_nil _ _ _ _, rfl, Below.refl _ _⟩
  case round =>
    obtain ⟨i, rfl, HII, HV, HA, HB⟩ := hrel
    obtain ⟨b, hb⟩ : ∃ b, jna (l.take i) = b := ⟨_, rfl⟩
    have HLL : Hid (b.length ≤ 100000000000) := by rw [← hb]; exact HJ.out i
    have HBE : Hid (jna (l.take i) = b) := hb
    rw [hb] at HV
    clear hb
    obtain ⟨ra, rc, hrv⟩ := row_shape HV.out
    subst hrv
    by_cases hi : i < l.length
    · have e1 : decide ((i : Int) < (l.length : Int)) = true := by rw [decide_eq_true_eq]; omega
      have e2 : decide (i < l.length) = true := by rw [decide_eq_true_eq]; omega
      have e3 : (i : Int) < (l.length : Int) := by omega
      have r1 := HS1.out (by omega)
      subst r1
      have HIL : Hid (i < l.length) := hi
      obtain ⟨p0, p1, p2, p3⟩ := HC1.out i hi
      have q0 := below_cell HB.out p0
      have q1 := below_cell HB.out p1
      have q2 := below_cell HB.out p2
      have q3 := below_cell HB.out p3
      have HTS : Hid (l.take (i + 1) = l.take i ++ [l.getD i w0]) := take_snoc_wd l i hi
      have hmem : l.getD i w0 ∈ l := by rw [List.getD_eq_getElem?_getD, List.getElem?_eq_getElem hi]; exact List.getElem_mem hi
      have HXT : Hid ((l.getD i w0).t.length ≤ 100000000000) := HT.out _ hmem
      have HXI : Hid (snd (l.getD i w0) = true → (l.getD i w0).k = 4 → ItoaOK w (l.getD i w0).n) := HI.out _ hmem
      have HMM : Hid (l.getD i w0 ∈ l) := hmem
      obtain ⟨x, hx⟩ : ∃ x, l.getD i w0 = x := ⟨_, rfl⟩
      rw [hx] at q0 q1 q2 q3 HTS HXT HXI HMM
      have hwi := w64n i (by have := HL.out; omega)
      obtain ⟨W1, hW1⟩ : ∃ W1, W1 = wr.alloc (.cells #[.int .i64 x.k, .string ⟨x.t.toArray⟩, .int .i64 x.n, .int .i64 x.a] 77) := ⟨_, rfl⟩
      have HW1 : Hid (W1 = wr.alloc (.cells #[.int .i64 x.k, .string ⟨x.t.toArray⟩, .int .i64 x.n, .int .i64 x.a] 77)) := hW1
      have hb1 := heap_new wr (.cells #[.int .i64 x.k, .string ⟨x.t.toArray⟩, .int .i64 x.n, .int .i64 x.a] 77)
      rw [← hW1] at hb1
      have HBW1 : Hid (Below w.heap.size w W1) := by rw [hW1]; exact HB.out.trans ((bel_up _ _).mono HB.out.size)
      have HV1 : Hid (Byt w.heap.size W1 (.slice ra b.length rc) b) := by rw [hW1]; exact HV.out.alloc _
      have HQ : Hid (∀ W, Below W1.heap.size W1 W → W.cell? ⟨wr.heap.size, 0, none⟩ = some (.int .i64 x.k) ∧ W.cell? ⟨wr.heap.size, 1, none⟩ = some (.string ⟨x.t.toArray⟩) ∧ W.cell? ⟨wr.heap.size, 2, none⟩ = some (.int .i64 x.n) ∧ W.cell? ⟨wr.heap.size, 3, none⟩ = some (.int .i64 x.a)) := fun W hW =>
        ⟨below_cell hW (by rw [Lib.cell_of_heap hb1]; rfl), below_cell hW (by rw [Lib.cell_of_heap hb1]; rfl), below_cell hW (by rw [Lib.cell_of_heap hb1]; rfl), below_cell hW (by rw [Lib.cell_of_heap hb1]; rfl)⟩
      have HNB : Hid (W1.heap[wr.heap.size]? = some (.cells #[.int .i64 x.k, .string ⟨x.t.toArray⟩, .int .i64 x.n, .int .i64 x.a] 77 (0, 0))) := hb1
      clear hi p0 p1 p2 p3 hmem hx hW1 hb1
      go_upto_region 5 with fail
      rw [← HW1.out]
      clear HW1 q0 q1 q2 q3
      obtain ⟨q0, q1, q2, q3⟩ := HQ.out W1 (Below.refl _ _)
      go_wp2_with fail
      refine (sound_any x HXT.out W1).mono ?_
      rintro e w2 ⟨rfl, b2⟩
      have HB2 : Hid (Below W1.heap.size W1 w2) := b2
      have HBW2 : Hid (Below w.heap.size w w2) := below_trans HBW1.out b2
      have HV2 : Hid (Byt w.heap.size w2 (.slice ra b.length rc) b) := row_up HV1.out b2
      clear b2 q0 q1 q2 q3
      obtain ⟨q0, q1, q2, q3⟩ := HQ.out w2 HB2.out
      cases hs : snd x with
      | false =>
        have HRE : Hid (R = []) := by
          rw [← HR.out]
          show jn l = []
          unfold jn
          rw [if_neg]
          rw [List.all_eq_true]
          intro h
          have := h x HMM.out
          rw [hs] at this
          cases this
        clear hs
        go_wp2_with fail
        go_ret
        exact ⟨by rw [HRE.out]; rfl, HBW2.out⟩
      | true =>
        have HSX : Hid (snd x = true) := hs
        have HA2 : Hid ((l.take (i + 1)).all snd = true) := by
          rw [HTS.out, List.all_append, HA.out]
          show _ = _
          simp [hs]
        clear hs
        have HIX : Hid (∀ W, Below w.heap.size w W → snd x = true → x.k = 4 → ItoaOK W x.n) := fun W hW h1 h2 W' hW' => HXI.out h1 h2 W' (below_trans hW hW')
        by_cases h0 : i = 0
        · have hb0 : b = [] := by rw [← HBE.out, h0]; rfl
          have d0 : decide ((0 : Int) < (i : Int)) = false := by rw [decide_eq_false_iff_not]; omega
          have d1 : decide (0 < i) = false := by rw [decide_eq_false_iff_not]; omega
          have HI0 : Hid (i = 0) := h0
          have HB0 : Hid (b = []) := hb0
          clear hb0 h0
          go_wp2_with fail
          refine (spell_any x HXT.out w2 (HIX.out w2 HBW2.out)).mono ?_
          rintro e w4 ⟨rfl, b4⟩
          have HV4 : Hid (Byt w.heap.size w4 (.slice ra b.length rc) b) := row_up HV2.out b4
          have HB4 : Hid (Below w.heap.size w w4) := below_trans HBW2.out b4
          clear b4 q0 q1 q2 q3
          obtain ⟨d, hd⟩ : ∃ d : ByteArray, ⟨(spl x).toArray⟩ = d := ⟨_, rfl⟩
          have hdl : d.data.toList = spl x := by rw [← hd]
          have HND : Hid (jna (l.take (i + 1)) = b ++ d.data.toList) := by rw [hdl, HTS.out, jna_snoc, List.length_take]; rw [if_pos (by have := HI0.out; omega), HB0.out]; exact rfl
          have HDS : Hid ((b).length + d.size ≤ 100000000000) := by
            have h1 := HJ.out (i + 1)
            rw [HND.out, List.length_append, lst_siz] at h1
            exact h1
          rw [hd]
          clear hd hdl
          go_wp2_with (at_builtin; refine Lib.wpList_append_own_string _ rfl _ _ 93 9 rfl w.heap.size 5 i5 Tryz.underlying93 Tryz.underlying9 hi5 hx0 hx1 hx2 _ _ _ rfl HV4.out d rfl (by have := HDS.out; unfold maxLen; omega) (by have := HDS.out; omega) HB4.out.size ?_; intro v5 w5 ho5 hg5 _; have HO5 : Hid (Byt w.heap.size w5 v5 (b ++ d.data.toList)) := byt_str ho5; have HG5 : Hid (w4.grownBy w5 (Value.ownBlock (.slice ra b.length rc))) := hg5; obtain ⟨qa, qc, rfl⟩ := row_shape ho5; clear ho5 hg5)
          go_roundg (l.length - (i + 1))
          case measure => have := HII.out; have := HIL.out; omega
          case rel => exact ⟨i + 1, by simp, ⟨HIL.out, rfl⟩, by rw [HND.out]; exact HO5, HA2, HB4.out.trans ((Below.refl _ _).grown HG5.out HB4.out.size (fun r e => (row_tag HV4.out r e).1))⟩
        · have d0 : decide ((0 : Int) < (i : Int)) = true := by rw [decide_eq_true_eq]; omega
          have d1 : decide (0 < i) = true := by rw [decide_eq_true_eq]; omega
          have HI0 : Hid (0 < i) := by show 0 < i; omega
          have HROW : Hid ((w2.alloc (.cells #[.int .u8 32] 5)).ownsRow w.heap.size 5 1 (.slice ra b.length rc) b.length (Lib.byteCells b)) := HV2.out.alloc _
          have HNE : Hid (Value.ownBlock (.slice ra b.length rc) ≠ some wr.heap.size) := tag_ne_blk HV1.out HNB.out (by decide)
          obtain ⟨b2, hb2⟩ : ∃ b2, b ++ [32] = b2 := ⟨_, rfl⟩
          have HBB : Hid (b ++ [32] = b2) := hb2
          clear h0 hb2
          go_wp2_with (at_builtin; refine wpList_append_own_at _ rfl _ _ 93 rfl w.heap.size 5 i5 (.int .u8 0) 1 1 Tryz.underlying93 hi5 hx0 hx1 hx2 rfl (by decide) _ _ _ rfl HROW.out ⟨w2.heap.size, 0, none⟩ 1 1 [.int .u8 32] rfl rfl (cell_one_new _ _ _) (by simp [Value.oneCell']) (by have := HLL.out; unfold maxLen; omega) (by have := HLL.out; omega) (by have h9 := HBW2.out.size; rw [World.size_alloc]; omega) ?_; intro v3 w3 ho3 hg3 _ ha3; have HO3 : Hid (Byt w.heap.size w3 v3 b2) := HBB.out ▸ byt_app ho3; have HG3 : Hid (w2.grownBy w3 (Value.ownBlock (.slice ra b.length rc))) := (World.grownBy_alloc _ _ _).trans hg3; have s0 : w3.cell? ⟨wr.heap.size, 0, none⟩ = some (.int .i64 x.k) := HG3.out.cell q0 (fun e => HNE.out e.symm); have s1 : w3.cell? ⟨wr.heap.size, 1, none⟩ = some (.string ⟨x.t.toArray⟩) := HG3.out.cell q1 (fun e => HNE.out e.symm); have s2 : w3.cell? ⟨wr.heap.size, 2, none⟩ = some (.int .i64 x.n) := HG3.out.cell q2 (fun e => HNE.out e.symm); have s3 : w3.cell? ⟨wr.heap.size, 3, none⟩ = some (.int .i64 x.a) := HG3.out.cell q3 (fun e => HNE.out e.symm); obtain ⟨ra3, rc3, rfl⟩ := row_shape HO3.out; clear ho3 hg3 ha3 q0 q1 q2 q3)
          have HB3 : Hid (Below w.heap.size w w3) := HBW2.out.trans ((Below.refl _ _).grown HG3.out HBW2.out.size (fun r e => (row_tag HV2.out r e).1))
          refine (spell_any x HXT.out w3 (HIX.out w3 HB3.out)).mono ?_
          rintro e w4 ⟨rfl, b4⟩
          have HV4 : Hid (Byt w.heap.size w4 (.slice ra3 b2.length rc3) b2) := row_up HO3.out b4
          have HB4 : Hid (Below w.heap.size w w4) := below_trans HB3.out b4
          clear b4 s0 s1 s2 s3
          obtain ⟨d, hd⟩ : ∃ d : ByteArray, ⟨(spl x).toArray⟩ = d := ⟨_, rfl⟩
          have hdl : d.data.toList = spl x := by rw [← hd]
          have HND : Hid (jna (l.take (i + 1)) = b2 ++ d.data.toList) := by rw [hdl, HTS.out, jna_snoc, List.length_take]; rw [if_neg (by have := HI0.out; have := HIL.out; omega), HBE.out, ← HBB.out, List.append_assoc]; exact rfl
          have HDS : Hid ((b2).length + d.size ≤ 100000000000) := by
            have h1 := HJ.out (i + 1)
            rw [HND.out, List.length_append, lst_siz] at h1
            exact h1
          rw [hd]
          clear hd hdl
          go_wp2_with (at_builtin; refine Lib.wpList_append_own_string _ rfl _ _ 93 9 rfl w.heap.size 5 i5 Tryz.underlying93 Tryz.underlying9 hi5 hx0 hx1 hx2 _ _ _ rfl HV4.out d rfl (by have := HDS.out; unfold maxLen; omega) (by have := HDS.out; omega) HB4.out.size ?_; intro v5 w5 ho5 hg5 _; have HO5 : Hid (Byt w.heap.size w5 v5 (b2 ++ d.data.toList)) := byt_str ho5; have HG5 : Hid (w4.grownBy w5 (Value.ownBlock (.slice ra3 b2.length rc3))) := hg5; obtain ⟨qa, qc, rfl⟩ := row_shape ho5; clear ho5 hg5)
          go_roundg (l.length - (i + 1))
          case measure => have := HII.out; have := HIL.out; omega
          case rel => exact ⟨i + 1, by simp, ⟨HIL.out, rfl⟩, by rw [HND.out]; exact HO5, HA2, HB4.out.trans ((Below.refl _ _).grown HG5.out HB4.out.size (fun r e => (row_tag HV4.out r e).1))⟩
    · have e1 : decide ((i : Int) < (l.length : Int)) = false := by rw [decide_eq_false_iff_not]; omega
      have e2 : decide (i < l.length) = false := by rw [decide_eq_false_iff_not]; omega
      have HRE : Hid (R = b) := by
        rw [← HR.out, ← HBE.out]
        show jn l = _
        have h1 := HA.out
        rw [List.take_of_length_le (by omega)] at h1 ⊢
        unfold jn
        rw [if_pos h1]
      have hcv := byt_conv HV.out
      clear hi
      go_wp2_with fail
      go_ret
      exact ⟨by rw [HRE.out]; rfl, HB.out⟩
end Go.Proofs.YtcmhbcfgikmblabGreatDoor
