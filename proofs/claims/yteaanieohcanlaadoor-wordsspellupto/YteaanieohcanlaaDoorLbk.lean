import Derived.Test.YteaanieohcanlaaDoorLca
namespace Go.Proofs.YteaanieohcanlaaDoor
open Go.RowKit Go.Maps

/-- The spellings' lengths, a blank behind each. -/
def ln : List Wd → Nat
  | [] => 0
  | x :: r => (spl x).length + 1 + ln r
theorem ln_app (l m : List Wd) : ln (l ++ m) = ln l + ln m := by
  induction l with
  | nil => simp [ln]
  | cons x r ih => rw [List.cons_append, ln, ln, ih]; omega
theorem ln_jna : ∀ l : List Wd, 0 < l.length → ln l = (jna l).length + 1
  | [], h => by cases h
  | [x], _ => by simp [ln, jna]
  | x :: y :: r, _ => by
    have h := ln_jna (y :: r) (by simp)
    rw [ln, h]
    simp only [jna, List.length_append, List.length_cons]
    omega
theorem ln_take (l : List Wd) (i : Nat) : ln (l.take i) ≤ ln l := by
  have h := ln_app (l.take i) (l.drop i)
  rw [List.take_append_drop] at h
  omega
theorem plc_app (l m : List Wd) (k : Nat) : plc k (l ++ m) = plc k l ++ plc (k + ln l) m := by
  induction l generalizing k with
  | nil => simp [plc, ln]
  | cons x r ih =>
    rw [List.cons_append, plc, plc, ih, ln, List.cons_append]
    congr 3
    omega
theorem spl_nil (x : Wd) : spl x = [] ↔ snd x = false := by
  constructor
  · intro h
    cases hs : snd x with
    | false => rfl
    | true =>
      have h1 := lx_spl x hs [] (.inl rfl)
      rw [h] at h1
      simp [lx] at h1
  · intro h
    unfold spl
    rw [if_pos h]

set_option maxRecDepth 100000 in
set_option maxHeartbeats 8000000 in
theorem wordsBack_any {v : Value} (l : List Wd) (w : World) (htab : Tab w) (h : Rw w v l.length (wC l)) (hl : l.length ≤ 1000000000) (ht : ∀ x ∈ l, x.t.length ≤ 100000000000) (hn : ln l ≤ 10000000000) :
    Calls Tryd.prog 5 #[v] w fun e w' => e = .returned (.bool true) ∧ Below w.heap.size w w' := by
  obtain ⟨iE, hi3, hx0, hx1, hx2⟩ := info_parts infoW
  have HTB : Hid (Tab w) := htab
  have HRW : Hid (Rw w v l.length (wC l)) := h
  have HL : Hid (l.length ≤ 1000000000) := hl
  have HT : Hid (∀ x ∈ l, x.t.length ≤ 100000000000) := ht
  have HN : Hid (ln l ≤ 10000000000) := hn
  have HJ : Hid (∀ i, (jna (l.take i)).length ≤ 100000000000) := fun i => by
    have h1 := ln_take l i
    rcases Nat.eq_zero_or_pos (l.take i).length with h0 | h0
    · rw [List.length_eq_zero_iff.1 h0]; simp [jna]
    · have := ln_jna _ h0
      omega
  have HI : Hid (∀ (W : World), Tab W → ∀ x ∈ l, snd x = true → x.k = 4 → ItoaOK W x.n) := fun W hW x _ h1 h2 => by
    unfold snd at h1
    rw [h2] at h1
    simp only [show ¬ (4 : Int) = 1 by decide, show ¬ (4 : Int) = 2 by decide, show ¬ (4 : Int) = 3 by decide, if_false, if_true, Bool.and_eq_true, decide_eq_true_eq] at h1
    exact itoaOK_tab W x.n h1.1 h1.2 hW
  obtain ⟨a1, g1, o1, q1, rfl, hq1, hn1, hs1, hc1⟩ := h
  have HS1 : Hid (0 < l.length → a1 = some ⟨g1, o1, none⟩) := hs1
  have HC1 : Hid (∀ i, i < l.length → w.cell? ⟨g1, o1 + i * 4, none⟩ = some (.int .i64 (l.getD i w0).k) ∧ w.cell? ⟨g1, o1 + i * 4 + 1, none⟩ = some (.string ⟨(l.getD i w0).t.toArray⟩) ∧ w.cell? ⟨g1, o1 + i * 4 + 2, none⟩ = some (.int .i64 (l.getD i w0).n) ∧ w.cell? ⟨g1, o1 + i * 4 + 3, none⟩ = some (.int .i64 (l.getD i w0).a)) := fun i hi => by
    obtain ⟨k0, k1, k2, k3⟩ := wC_get l i hi
    exact ⟨hc1 _ _ k0, hc1 _ _ k1, hc1 _ _ k2, hc1 _ _ k3⟩
  clear htab hl ht hn hq1 hn1 hs1 hc1
  go_enter Tryd.func5, Tryd.ntmps5
  go_wp2_with fail
  refine (started_any w).mono ?_
  rintro e w1 ⟨rfl, b1⟩
  have B1 : Hid (Below w.heap.size w w1) := b1
  clear b1
  go_wp2_with fail
  refine (join_any l w1 (HRW.out.up B1.out) (by have := HL.out; omega) HT.out HJ.out (HI.out w1 (HTB.out.up B1.out))).mono ?_
  rintro e w2 ⟨rfl, b2⟩
  have B2 : Hid (Below w.heap.size w w2) := below_trans B1.out b2
  clear b2 B1
  obtain ⟨J, hJ⟩ : ∃ J : ByteArray, ⟨(jn l).toArray⟩ = J := ⟨_, rfl⟩
  have HJL : Hid (J.data.toList = jn l) := by rw [← hJ]; exact rfl
  rw [hJ]
  clear hJ
  go_wp2_with fail
  go_loopg [4, 5, 6] l.length (fun gm v4 v5 v6 wr => ∃ i : Nat, v6 = .int .i64 (i : Int) ∧ v4 = .int .i64 ((ln (l.take i) : Nat) : Int) ∧ Hid (i ≤ l.length ∧ gm = l.length - i) ∧ Hid ((l.take i).all snd = true) ∧ Hid (Wow w2.heap.size wr v5 (plc 0 (l.take i))) ∧ Hid (Below w2.heap.size w2 wr))
  case atStart => exact ⟨0, rfl, rfl, ⟨Nat.zero_le _, rfl⟩, rfl, World.ownsRow_nil _ _ _ _, Below.refl _ _⟩
  case round =>
    obtain ⟨i, rfl, rfl, HII, HA, HV, HB⟩ := hrel
    obtain ⟨y, hy⟩ : ∃ y, plc 0 (l.take i) = y := ⟨_, rfl⟩
    have HYE : Hid (plc 0 (l.take i) = y) := hy
    have HYL : Hid (y.length ≤ 1000000000) := by
      rw [← hy]
      show (plc 0 (l.take i)).length ≤ _
      rw [plc_len, List.length_take]
      have := HL.out
      omega
    rw [hy] at HV
    clear hy
    obtain ⟨ra, rc, hrv⟩ := row_shape HV.out
    subst hrv
    obtain ⟨N, hN⟩ : ∃ N, ln (l.take i) = N := ⟨_, rfl⟩
    have HNE : Hid (ln (l.take i) = N) := hN
    rw [hN]
    clear hN
    by_cases hi : i < l.length
    · have e1 : decide ((i : Int) < (l.length : Int)) = true := by rw [decide_eq_true_eq]; omega
      have e2 : decide (i < l.length) = true := by rw [decide_eq_true_eq]; omega
      have e3 : (i : Int) < (l.length : Int) := by omega
      have r1 := HS1.out (by omega)
      subst r1
      have HIL : Hid (i < l.length) := hi
      obtain ⟨p0, p1, p2, p3⟩ := HC1.out i hi
      have HTS : Hid (l.take (i + 1) = l.take i ++ [l.getD i w0]) := take_snoc_wd l i hi
      have hmem : l.getD i w0 ∈ l := by rw [List.getD_eq_getElem?_getD, List.getElem?_eq_getElem hi]; exact List.getElem_mem hi
      have HXT : Hid ((l.getD i w0).t.length ≤ 100000000000) := HT.out _ hmem
      have HMM : Hid (l.getD i w0 ∈ l) := hmem
      have HLN : Hid (ln (l.take (i + 1)) ≤ 10000000000) := Nat.le_trans (ln_take l (i + 1)) HN.out
      obtain ⟨x, hx⟩ : ∃ x, l.getD i w0 = x := ⟨_, rfl⟩
      rw [hx] at p0 p1 p2 p3 HTS HXT HMM
      have HPP : Hid (∀ W, Below w2.heap.size w2 W → W.cell? ⟨g1, o1 + i * 4, none⟩ = some (.int .i64 x.k) ∧ W.cell? ⟨g1, o1 + i * 4 + 1, none⟩ = some (.string ⟨x.t.toArray⟩) ∧ W.cell? ⟨g1, o1 + i * 4 + 2, none⟩ = some (.int .i64 x.n) ∧ W.cell? ⟨g1, o1 + i * 4 + 3, none⟩ = some (.int .i64 x.a)) := fun W hW => by
        have hb := below_trans B2.out hW
        exact ⟨below_cell hb p0, below_cell hb p1, below_cell hb p2, below_cell hb p3⟩
      obtain ⟨t0, t1, t2, t3⟩ := HPP.out wr HB.out
      have hwi := w64n i (by have := HL.out; omega)
      clear hi p0 p1 p2 p3 hmem hx
      go_wp2_with fail
      refine (spell_any x HXT.out wr (fun h1 h2 => HI.out wr (HTB.out.up (below_trans B2.out HB.out)) x HMM.out h1 h2)).mono ?_
      rintro e w3 ⟨rfl, b3⟩
      have HB3 : Hid (Below w2.heap.size w2 w3) := below_trans HB.out b3
      have HV3 : Hid (Wow w2.heap.size w3 (.slice ra y.length rc) y) := row_up HV.out b3
      clear b3 t0 t1 t2 t3
      obtain ⟨t0, t1, t2, t3⟩ := HPP.out w3 HB3.out
      obtain ⟨D, hD⟩ : ∃ D : ByteArray, ⟨(spl x).toArray⟩ = D := ⟨_, rfl⟩
      have hDL : D.data.toList = spl x := by rw [← hD]
      rw [hD]
      cases hs : snd x with
      | false =>
        have hDE : D = ⟨#[]⟩ := by rw [← hD, (spl_nil x).2 hs]
        have hJE : J = ⟨#[]⟩ := by
          have h1 : jn l = [] := by
            unfold jn
            rw [if_neg]
            rw [List.all_eq_true]
            intro h2
            have := h2 x HMM.out
            rw [hs] at this
            cases this
          have h2 := HJL.out
          rw [h1] at h2
          exact ByteArray.ext (by rw [← Array.toList_inj, h2])
        subst hDE
        subst hJE
        clear hs hD hDL
        go_wp2_with fail
        go_ret
        exact ⟨rfl, below_trans B2.out HB3.out⟩
      | true =>
        have hne : ¬ spl x = [] := fun e => by rw [(spl_nil x).1 e] at hs; cases hs
        have z1 : D.toList.isEmpty = false := by
          rw [toL_eq, hDL]
          cases hq : spl x with
          | nil => exact absurd hq hne
          | cons a b => rfl
        have HSX : Hid (snd x = true) := hs
        have HDL : Hid (D.data.toList = spl x) := hDL
        clear hs hD hDL hne
        go_upto_region 12 with fail
        have s0 := cell_up (.cells #[.int .i64 0, .string ⟨#[]⟩, .int .i64 0, .int .i64 0] 32) t0
        have s1 := cell_up (.cells #[.int .i64 0, .string ⟨#[]⟩, .int .i64 0, .int .i64 0] 32) t1
        go_region
        obtain ⟨W1, hW1⟩ : ∃ W1, W1 = (w3.alloc (.cells #[.int .i64 x.k, .string ⟨x.t.toArray⟩, .int .i64 0, .int .i64 (N : Int)] 32)).drew := ⟨_, rfl⟩
        rw [← hW1]
        have hbw : Below w3.heap.size w3 W1 := by rw [hW1]; exact below_trans (bel_up _ _) (Below.drew (Below.refl _ _))
        have HB1 : Hid (Below w2.heap.size w2 W1) := below_trans HB3.out hbw
        have HV1 : Hid (Wow w2.heap.size W1 (.slice ra y.length rc) y) := row_up HV3.out hbw
        have hb1 : W1.heap[w3.heap.size]? = some (.cells #[.int .i64 x.k, .string ⟨x.t.toArray⟩, .int .i64 0, .int .i64 (N : Int)] 32 (0, 0)) := by rw [hW1]; exact heap_new w3 _
        have HLO : Hid (w2.heap.size ≤ w3.heap.size) := HB3.out.size
        have HNB : Hid (Value.ownBlock (.slice ra y.length rc) ≠ some w3.heap.size) := fun e => by
          obtain ⟨_, c, hc⟩ := row_tag HV3.out _ e
          exact absurd (lt_of_heap hc) (Nat.lt_irrefl _)
        clear t0 t1 t2 t3 s0 s1
        obtain ⟨t0, t1, t2, t3⟩ := HPP.out W1 HB1.out
        obtain ⟨N2, hN2⟩ : ∃ N2, N + D.size = N2 := ⟨_, rfl⟩
        obtain ⟨N3, hN3⟩ : ∃ N3, N2 + 1 = N3 := ⟨_, rfl⟩
        have hDS : D.size = (spl x).length := by rw [← lst_siz, HDL.out]
        have HN3 : Hid (ln (l.take (i + 1)) = N3) := by
          rw [HTS.out, ln_app, HNE.out]
          show N + ((spl x).length + 1 + 0) = N3
          omega
        have hNB : N3 ≤ 10000000000 := by rw [← HN3.out]; exact HLN.out
        have k1 : IntKind.i64.wrap ((N : Int) + (D.size : Int)) = (N2 : Int) := by rw [IntKind.wrap_i64]; omega
        have k2 : IntKind.i64.wrap ((N2 : Int) + 1) = (N3 : Int) := by rw [IntKind.wrap_i64]; omega
        have HPL : Hid (plc 0 (l.take (i + 1)) = y ++ [{ nrm x with a := (N : Int) }]) := by
          rw [HTS.out, plc_app, HYE.out, HNE.out]
          show y ++ [{ nrm x with a := ((0 + N : Nat) : Int) }] = _
          rw [Nat.zero_add]
        have HA2 : Hid ((l.take (i + 1)).all snd = true) := by
          rw [HTS.out, List.all_append, HA.out]
          show _ = _
          simp [HSX.out]
        have u0 : W1.cell? ⟨w3.heap.size, 0, none⟩ = some (.int .i64 x.k) := by rw [Lib.cell_of_heap hb1]; rfl
        have u1 : W1.cell? ⟨w3.heap.size, 1, none⟩ = some (.string ⟨x.t.toArray⟩) := by rw [Lib.cell_of_heap hb1]; rfl
        have u2 : W1.cell? ⟨w3.heap.size, 2, none⟩ = some (.int .i64 0) := by rw [Lib.cell_of_heap hb1]; rfl
        have u3 : W1.cell? ⟨w3.heap.size, 3, none⟩ = some (.int .i64 (N : Int)) := by rw [Lib.cell_of_heap hb1]; rfl
        by_cases k4 : x.k = 4
        · have v1 := Lib.frozen_of_heap hb1 1
          obtain ⟨W2, hW2⟩ : ∃ W2, W2 = W1.setCell ⟨w3.heap.size, 1, none⟩ (.string ⟨#[]⟩) := ⟨_, rfl⟩
          have hb2 := blk_set (k := 1) (.string ⟨#[]⟩) hb1
          rw [← hW2] at hb2
          have v2 : W2.cell? ⟨w3.heap.size, 2, none⟩ = some (.int .i64 0) := by rw [Lib.cell_of_heap hb2]; rfl
          have v3 := Lib.frozen_of_heap hb2 2
          have HW2 : Hid (W2 = W1.setCell ⟨w3.heap.size, 1, none⟩ (.string ⟨#[]⟩)) := hW2
          have HB2' : Hid (Below w2.heap.size w2 W2) := by rw [hW2]; exact HB1.out.setCell HLO.out _
          have HV2 : Hid (Wow w2.heap.size W2 (.slice ra y.length rc) y) := by rw [hW2]; exact HV1.out.kept grown_set (.inr HNB.out)
          obtain ⟨s0, s1, s2, s3⟩ := HPP.out W2 HB2'.out
          obtain ⟨W3, hW3⟩ : ∃ W3, W3 = W2.setCell ⟨w3.heap.size, 2, none⟩ (.int .i64 x.n) := ⟨_, rfl⟩
          have HW3 : Hid (W3 = W2.setCell ⟨w3.heap.size, 2, none⟩ (.int .i64 x.n)) := hW3
          have hb3 := blk_set (k := 2) (.int .i64 x.n) hb2
          rw [← hW3] at hb3
          have HB4 : Hid (Below w2.heap.size w2 W3) := by rw [hW3]; exact HB2'.out.setCell HLO.out _
          have HV4 : Hid (Wow w2.heap.size W3 (.slice ra y.length rc) y) := by rw [hW3]; exact HV2.out.kept grown_set (.inr HNB.out)
          have y0 : W3.cell? ⟨w3.heap.size, 0, none⟩ = some (.int .i64 x.k) := by rw [Lib.cell_of_heap hb3]; rfl
          have y1 : W3.cell? ⟨w3.heap.size, 1, none⟩ = some (.string ⟨#[]⟩) := by rw [Lib.cell_of_heap hb3]; rfl
          have y2 : W3.cell? ⟨w3.heap.size, 2, none⟩ = some (.int .i64 x.n) := by rw [Lib.cell_of_heap hb3]; rfl
          have y3 : W3.cell? ⟨w3.heap.size, 3, none⟩ = some (.int .i64 (N : Int)) := by rw [Lib.cell_of_heap hb3]; rfl
          have HNR : Hid ({ nrm x with a := (N : Int) } = (⟨x.k, [], x.n, (N : Int)⟩ : Wd)) := by
            show _ = _
            unfold nrm
            simp only [k4, if_true]
          have m4 : (x.k == 4) = true := by simpa using k4
          clear hb1 hb2 hb3 hW1 hW2 hW3 hbw hN2 hN3 hDS hNB k4
          go_upto_region 15 with fail
          rw [← HW2.out]
          go_upto_region 16 with fail
          rw [← HW3.out]
          have HROW : Hid ((W3.alloc (.cells #[.int .i64 x.k, .string ⟨#[]⟩, .int .i64 x.n, .int .i64 (N : Int)] 32)).ownsRow w2.heap.size 32 4 (.slice ra y.length rc) y.length (wC y)) := HV4.out.alloc _
          go_wp2_with (at_builtin; refine wpList_append_own_at _ rfl _ _ 23 rfl w2.heap.size 32 iE _ 4 40 Tryd.underlying23 hi3 hx0 hx1 hx2 rfl (by decide) _ _ _ rfl HROW.out ⟨W3.heap.size, 0, none⟩ 1 1 [.int .i64 x.k, .string ⟨#[]⟩, .int .i64 x.n, .int .i64 (N : Int)] rfl rfl (cell_four_new _ _ _ _ _ _) (by simp [Value.oneCell']) (by have := HYL.out; unfold maxLen; omega) (by have := HYL.out; omega) (by have h9 := HB4.out.size; rw [World.size_alloc]; omega) ?_; intro v7 w7 ho7 hg7 _ ha7; have HO7 : Hid (Wow w2.heap.size w7 v7 (y ++ [⟨x.k, [], x.n, (N : Int)⟩])) := wow_app (x := ⟨x.k, [], x.n, (N : Int)⟩) ho7; have HG7 : Hid (W3.grownBy w7 (Value.ownBlock (.slice ra y.length rc))) := (World.grownBy_alloc _ _ _).trans hg7; obtain ⟨qa, qc, rfl⟩ := row_shape ho7; clear ho7 hg7 ha7)
          go_roundg (l.length - (i + 1))
          case measure => have := HII.out; have := HIL.out; omega
          case rel => exact ⟨i + 1, by simp, by rw [HN3.out], ⟨HIL.out, rfl⟩, HA2, by rw [HPL.out, HNR.out]; exact HO7, HB4.out.trans ((Below.refl _ _).grown HG7.out HB4.out.size (fun r e => (row_tag HV4.out r e).1))⟩
        · have HNR : Hid ({ nrm x with a := (N : Int) } = (⟨x.k, x.t, 0, (N : Int)⟩ : Wd)) := by
            show _ = _
            unfold nrm
            simp only [k4, if_false]
          have m4 : (x.k == 4) = false := by simpa using k4
          clear hb1 hW1 hbw hN2 hN3 hDS hNB k4
          go_upto_region 16 with fail
          have HROW : Hid ((W1.alloc (.cells #[.int .i64 x.k, .string ⟨x.t.toArray⟩, .int .i64 0, .int .i64 (N : Int)] 32)).ownsRow w2.heap.size 32 4 (.slice ra y.length rc) y.length (wC y)) := HV1.out.alloc _
          go_wp2_with (at_builtin; refine wpList_append_own_at _ rfl _ _ 23 rfl w2.heap.size 32 iE _ 4 40 Tryd.underlying23 hi3 hx0 hx1 hx2 rfl (by decide) _ _ _ rfl HROW.out ⟨W1.heap.size, 0, none⟩ 1 1 [.int .i64 x.k, .string ⟨x.t.toArray⟩, .int .i64 0, .int .i64 (N : Int)] rfl rfl (cell_four_new _ _ _ _ _ _) (by simp [Value.oneCell']) (by have := HYL.out; unfold maxLen; omega) (by have := HYL.out; omega) (by have h9 := HB1.out.size; rw [World.size_alloc]; omega) ?_; intro v7 w7 ho7 hg7 _ ha7; have HO7 : Hid (Wow w2.heap.size w7 v7 (y ++ [⟨x.k, x.t, 0, (N : Int)⟩])) := wow_app (x := ⟨x.k, x.t, 0, (N : Int)⟩) ho7; have HG7 : Hid (W1.grownBy w7 (Value.ownBlock (.slice ra y.length rc))) := (World.grownBy_alloc _ _ _).trans hg7; obtain ⟨qa, qc, rfl⟩ := row_shape ho7; clear ho7 hg7 ha7)
          go_roundg (l.length - (i + 1))
          case measure => have := HII.out; have := HIL.out; omega
          case rel => exact ⟨i + 1, by simp, by rw [HN3.out], ⟨HIL.out, rfl⟩, HA2, by rw [HPL.out, HNR.out]; exact HO7, HB1.out.trans ((Below.refl _ _).grown HG7.out HB1.out.size (fun r e => (row_tag HV1.out r e).1))⟩
    · have e1 : decide ((i : Int) < (l.length : Int)) = false := by rw [decide_eq_false_iff_not]; omega
      have e2 : decide (i < l.length) = false := by rw [decide_eq_false_iff_not]; omega
      have htk : l.take i = l := List.take_of_length_le (by omega)
      have HAL : Hid (l.all snd = true) := by have := HA.out; rw [htk] at this; exact this
      have HYP : Hid (plc 0 l = y) := by rw [← HYE.out, htk]; exact rfl
      have HLN : Hid (ln l = N) := by rw [← HNE.out, htk]; exact rfl
      have HJA : Hid (J.data.toList = jna l) := by rw [HJL.out]; unfold jn; rw [if_pos HAL.out]; exact rfl
      have hJS : J.size = (jna l).length := by rw [← lst_siz, HJA.out]
      have HLQ : Hid (0 < l.length → ((J.size : Nat) : Int) = (N : Int) - 1) := fun h0 => by
        have h1 := ln_jna l h0
        rw [HLN.out] at h1
        omega
      have HCJ : Hid (cut 0 J.data.toList = .inr y) := by
        rw [HJA.out, cut_join l 0 (fun z hz => List.all_eq_true.1 HAL.out z hz), HYP.out]
        exact rfl
      have HNX : Hid (N ≤ 10000000000) := by rw [← HLN.out]; exact HN.out
      clear hi htk hJS
      by_cases h0 : l.length = 0
      · have g1 : decide ((0 : Int) < (l.length : Int)) = false := by rw [decide_eq_false_iff_not]; omega
        have g2 : decide (0 < l.length) = false := by rw [decide_eq_false_iff_not]; omega
        clear h0
        go_wp2_with fail
        refine (wcut_any J wr).mono ?_
        rintro e w5 ⟨he, b5⟩
        obtain ⟨v5, rfl, h5⟩ := he.flat
        have HB5 : Hid (Below w.heap.size w w5) := below_trans (below_trans B2.out HB.out) b5
        have HV5 : Hid (Wow w2.heap.size w5 (.slice ra y.length rc) y) := row_up HV.out b5
        by_cases hb : 16384 < J.size
        · have d1 : decide ((16384 : Int) < (J.size : Int)) = true := by rw [decide_eq_true_eq]; omega
          have d2 : decide (16384 < J.size) = true := by rw [decide_eq_true_eq]; omega
          have f1 : cc J = 80 := by unfold cc cutR; rw [if_pos hb]; rfl
          have f2 : oo J = 16384 := by unfold oo cutR; rw [if_pos hb]; rfl
          have f3 : wl J = [] := by unfold wl cutR; rw [if_pos hb]
          rw [f1, f2]
          rw [f3] at h5
          obtain ⟨a5, q5, hv5⟩ := row_shape h5
          subst hv5
          clear he h5 b5 hb f1 f2 f3
          go_wp2_with fail
          go_ret
          exact ⟨rfl, HB5.out⟩
        · have d1 : decide ((16384 : Int) < (J.size : Int)) = false := by rw [decide_eq_false_iff_not]; omega
          have d2 : decide (16384 < J.size) = false := by rw [decide_eq_false_iff_not]; omega
          obtain ⟨f1, f2, f3⟩ := flat_of (cutR_of (s := J) (by omega) HCJ.out)
          rw [f2, f3]
          rw [f1] at h5
          obtain ⟨a5, q5, hv5⟩ := row_shape h5
          subst hv5
          have HR5 : Hid (Rw w5 (.slice a5 y.length q5) y.length (wC y)) := row_rw h5
          have HR6 : Hid (Rw w5 (.slice ra y.length rc) y.length (wC y)) := row_rw HV5.out
          clear he h5 b5 hb f1 f2 f3
          go_wp2_with fail
          refine (same_any y y w5 HR5.out HR6.out (by have := HYL.out; omega)).mono ?_
          rintro e w6 ⟨rfl, b6⟩
          rw [decide_eq_true rfl]
          have HB6 : Hid (Below w.heap.size w w6) := below_trans HB5.out b6
          clear b6
          go_wp2_with fail
          go_ret
          exact ⟨rfl, HB6.out⟩
      · have g1 : decide ((0 : Int) < (l.length : Int)) = true := by rw [decide_eq_true_eq]; omega
        have g2 : decide (0 < l.length) = true := by rw [decide_eq_true_eq]; omega
        have g3 : IntKind.i64.wrap ((N : Int) - 1) = (J.size : Int) := by
          have h1 := HLQ.out (by omega)
          have h2 := HNX.out
          rw [IntKind.wrap_i64]
          omega
        clear h0
        go_wp2_with fail
        refine (wcut_any J wr).mono ?_
        rintro e w5 ⟨he, b5⟩
        obtain ⟨v5, rfl, h5⟩ := he.flat
        have HB5 : Hid (Below w.heap.size w w5) := below_trans (below_trans B2.out HB.out) b5
        have HV5 : Hid (Wow w2.heap.size w5 (.slice ra y.length rc) y) := row_up HV.out b5
        by_cases hb : 16384 < J.size
        · have d1 : decide ((16384 : Int) < (J.size : Int)) = true := by rw [decide_eq_true_eq]; omega
          have d2 : decide (16384 < J.size) = true := by rw [decide_eq_true_eq]; omega
          have f1 : cc J = 80 := by unfold cc cutR; rw [if_pos hb]; rfl
          have f2 : oo J = 16384 := by unfold oo cutR; rw [if_pos hb]; rfl
          have f3 : wl J = [] := by unfold wl cutR; rw [if_pos hb]
          rw [f1, f2]
          rw [f3] at h5
          obtain ⟨a5, q5, hv5⟩ := row_shape h5
          subst hv5
          clear he h5 b5 hb f1 f2 f3
          go_wp2_with fail
          go_ret
          exact ⟨rfl, HB5.out⟩
        · have d1 : decide ((16384 : Int) < (J.size : Int)) = false := by rw [decide_eq_false_iff_not]; omega
          have d2 : decide (16384 < J.size) = false := by rw [decide_eq_false_iff_not]; omega
          obtain ⟨f1, f2, f3⟩ := flat_of (cutR_of (s := J) (by omega) HCJ.out)
          rw [f2, f3]
          rw [f1] at h5
          obtain ⟨a5, q5, hv5⟩ := row_shape h5
          subst hv5
          have HR5 : Hid (Rw w5 (.slice a5 y.length q5) y.length (wC y)) := row_rw h5
          have HR6 : Hid (Rw w5 (.slice ra y.length rc) y.length (wC y)) := row_rw HV5.out
          clear he h5 b5 hb f1 f2 f3
          go_wp2_with fail
          refine (same_any y y w5 HR5.out HR6.out (by have := HYL.out; omega)).mono ?_
          rintro e w6 ⟨rfl, b6⟩
          rw [decide_eq_true rfl]
          have HB6 : Hid (Below w.heap.size w w6) := below_trans HB5.out b6
          clear b6
          go_wp2_with fail
          go_ret
          exact ⟨rfl, HB6.out⟩
end Go.Proofs.YteaanieohcanlaaDoor
