import Derived.Test.YthfijmabagjdkaaCuc
import Derived.Laws.BytesArg
namespace Go.Proofs.Ythfijmabagjdkaa
open Go.RowKit Go.Maps

theorem byt_conv {B : Nat} {W : World} {v : Value} {l : List UInt8} (h : Byt B W v l) : (convert 58 9 v).run Try.prog W = .ok (.string ⟨l.toArray⟩) W := by
  have hh := h
  rcases h.2 with ⟨rfl, h2⟩ | ⟨g, cap, cur, rfl, h1, h2, h3, h4, h5, h6⟩
  · have : l = [] := List.length_eq_zero_iff.1 h2
    subst this
    exact run_convert_bytes_nil W 58 5 Try.underlying58 Try.underlying5 0 0 9 Try.underlying9
  · refine run_convert_bytes_back W 58 9 5 ⟨g, 0, none⟩ cap l Try.underlying58 Try.underlying5 Try.underlying9 (fun j hj => ?_)
    rw [addPl, Nat.zero_add, hh.cellAt j (by omega)]
    simp [Lib.byteCells, List.getElem?_eq_getElem hj]
theorem ub_int (b : Int) (h0 : 0 ≤ b) (h1 : b < 256) : ((ub b).toNat : Int) = b := by
  unfold ub
  simp
  omega
/-- A byte of a string, or an escape: does it go on, and the cutter behind it. -/
def inT (c : Cs) (k : Nat) : Bool × Cs :=
  if rd c.s k = 34 then (false, cw { c with p := (k : Int) } 2 ⟨c.bs.toArray⟩)
  else if rd c.s k = -1 ∨ rd c.s k = 10 then (false, { c with p := (k : Int), co := 82, pl := c.f })
  else if rd c.s k = 92 then (if (es c.s (k + 1)).1 = -1 then (false, { c with p := ((es c.s (k + 1)).2 : Int), co := 82, pl := (k : Int) }) else (true, { c with p := ((es c.s (k + 1)).2 : Int), bs := c.bs ++ [ub (es c.s (k + 1)).1] }))
  else (true, { c with p := (k : Int), bs := c.bs ++ [ub (rd c.s k)] })
theorem td_lo (s : ByteArray) (k : Nat) : -1 ≤ (td s k).1 ∧ (td s k).1 < 256 := by
  have h1 := hxv_lo (rd s k)
  have h2 := hxv_lo (rd s (k + 1))
  unfold td
  split
  · exact ⟨Int.le_refl _, by show (-1 : Int) < 256; decide⟩
  · split
    · exact ⟨Int.le_refl _, by show (-1 : Int) < 256; decide⟩
    · rename_i a b
      obtain ⟨m, hm, e1⟩ := h1.resolve_left a
      obtain ⟨q, hq, e2⟩ := h2.resolve_left b
      rw [e1, e2]
      simp only
      omega
theorem es_lo (s : ByteArray) (k : Nat) : -1 ≤ (es s k).1 ∧ (es s k).1 < 256 := by
  unfold es
  split
  · exact td_lo s (k + 1)
  · simp only
    unfold emv
    repeat' split
    all_goals exact ⟨by decide, by decide⟩

set_option maxRecDepth 100000 in
set_option maxHeartbeats 8000000 in
theorem intext_any {B b : Nat} {vb vw : Value} {c : Cs} (k : Nat) (hk : c.p + 1 = (k : Int)) (hk2 : k ≤ 4611686018427380000) (hbl : c.bs.length ≤ 1000000000000) (hl : c.ws.length ≤ 1000000000000) (w : World) (h : Cu B w b vb vw c) :
    Calls Try.prog 40 #[.pointer (some ⟨b, 0, none⟩)] w fun e w' => e = .returned (.bool (inT c k).1) ∧ Below B w w' ∧ ∃ vb' vw', Cu B w' b vb' vw' (inT c k).2 := by
  have HH : Hid (Cu B w b vb vw c) := h
  have HK : Hid (c.p + 1 = (k : Int)) := hk
  have HK2 : Hid (k ≤ 4611686018427380000) := hk2
  have HBL : Hid (c.bs.length ≤ 1000000000000) := hbl
  have HL : Hid (c.ws.length ≤ 1000000000000) := hl
  obtain ⟨i5, hi5, hx0, hx1, hx2⟩ := info_parts info5
  obtain ⟨x, hx⟩ : ∃ x, rd c.s k = x := ⟨_, rfl⟩
  have HX : Hid (rd c.s k = x) := hx
  have HXO : Hid (okb x) := by rw [← hx]; exact rd_ok _ _
  obtain ⟨R, hR⟩ : ∃ R, inT c k = R := ⟨_, rfl⟩
  have HR : Hid (R = if x = 34 then (false, cw { c with p := (k : Int) } 2 ⟨c.bs.toArray⟩)
    else if x = -1 ∨ x = 10 then (false, { c with p := (k : Int), co := 82, pl := c.f })
    else if x = 92 then (if (es c.s (k + 1)).1 = -1 then (false, { c with p := ((es c.s (k + 1)).2 : Int), co := 82, pl := (k : Int) }) else (true, { c with p := ((es c.s (k + 1)).2 : Int), bs := c.bs ++ [ub (es c.s (k + 1)).1] }))
    else (true, { c with p := (k : Int), bs := c.bs ++ [ub x] })) := by rw [← hR, ← hx]; exact rfl
  rw [hR]
  clear h hk hk2 hbl hl hx hR
  go_enter Try.func40, Try.ntmps40
  go_wp2_with fail
  refine (read_any k HK.out (by have := HK2.out; omega) w HH.out).mono ?_
  rintro e w1 ⟨rfl, h1, b1⟩
  rw [HX.out]
  have H1 : Hid (Cu B w1 b vb vw { c with p := (k : Int) }) := h1
  have B1 : Hid (Below B w w1) := b1
  clear h1 b1 HH
  have k1 := H1.out.c1
  by_cases c34 : x = 34
  · have HR2 := HR.out
    rw [if_pos c34] at HR2
    subst HR2
    clear HR
    subst c34
    have k4 := H1.out.c4
    obtain ⟨ra, rc, hrv⟩ := row_shape H1.out.hb
    subst hrv
    have hcv := byt_conv H1.out.hb
    have HCC : Hid (c.bs.toArray.size ≤ 1000000000000) := (by have := HBL.out; show c.bs.toArray.size ≤ _; simp; omega)
    go_wp2_with fail
    refine (cut_any (c := { c with p := (k : Int) }) 2 ⟨c.bs.toArray⟩ HCC.out HL.out w1 H1.out).mono ?_
    rintro e w2 ⟨rfl, b2, h2⟩
    have H2 : Hid _ := h2
    have B2 : Hid _ := B1.out.trans b2
    clear h2 b2 k1 k4 hcv
    go_wp2_with fail
    go_ret
    exact ⟨rfl, B2.out, H2.out⟩
  · have HR2 := HR.out
    rw [if_neg c34] at HR2
    by_cases cst : x = -1 ∨ x = 10
    · rw [if_pos cst] at HR2
      subst HR2
      have hst : (x == -1 || x == 10) = true := by rcases cst with rfl | rfl <;> rfl
      have k2 := H1.out.c2
      clear HR cst
      go_wp2_with fail
      refine (stops_any x w1).mono ?_
      rintro e w2 ⟨rfl, rfl⟩
      rw [hst]
      go_wp2_with fail
      refine (fail_any 82 c.f w2 H1.out).mono ?_
      rintro e w3 ⟨rfl, h3, b3⟩
      have H3 : Hid _ := h3
      have B3 : Hid _ := B1.out.trans b3
      clear h3 b3 k1 k2 hst
      go_wp2_with fail
      go_ret
      exact ⟨rfl, B3.out, _, _, H3.out⟩
    · rw [if_neg cst] at HR2
      have hst : (x == -1 || x == 10) = false := by
        have h1 : ¬ x = -1 := fun h => cst (.inl h)
        have h2 : ¬ x = 10 := fun h => cst (.inr h)
        simp [h1, h2]
      have HX0 : Hid (0 ≤ x ∧ x < 256) := by
        rcases HXO.out with h | ⟨n, hn, h⟩
        · exact absurd (.inl h) cst
        · show 0 ≤ x ∧ x < 256
          omega
      have n1 : ¬ x = -1 := fun h => cst (.inl h)
      clear HR cst
      by_cases c92 : x = 92
      · rw [if_pos c92] at HR2
        subst c92
        have HR3 : Hid _ := HR2
        clear HR2
        go_wp2_with fail
        refine (stops_any 92 w1).mono ?_
        rintro e w2 ⟨rfl, rfl⟩
        rw [hst]
        go_wp2_with fail
        refine (esc_any (k + 1) (by simp) (by have := HK2.out; omega) w2 H1.out).mono ?_
        rintro e w3 ⟨rfl, h3, b3⟩
        obtain ⟨v, q, hvq⟩ : ∃ v q, es c.s (k + 1) = (v, q) := ⟨_, _, rfl⟩
        have HV : Hid (-1 ≤ v ∧ v < 256) := by have := es_lo c.s (k + 1); rw [hvq] at this; exact this
        have HR4 := HR3.out
        simp only [hvq] at h3 HR4 ⊢
        have H3 : Hid (Cu B w3 b vb vw { c with p := (q : Int) }) := h3
        have B3 : Hid (Below B w w3) := B1.out.trans b3
        clear h3 b3 k1 hst hvq HR3
        by_cases cv : v = -1
        · rw [if_pos cv] at HR4
          subst HR4
          subst cv
          go_wp2_with fail
          refine (fail_any 82 k w3 H3.out).mono ?_
          rintro e w4 ⟨rfl, h4, b4⟩
          have H4 : Hid _ := h4
          have B4 : Hid _ := B3.out.trans b4
          clear h4 b4
          go_wp2_with fail
          go_ret
          exact ⟨rfl, B4.out, _, _, H4.out⟩
        · rw [if_neg cv] at HR4
          subst HR4
          have k4 := H3.out.c4
          obtain ⟨ra, rc, hrv⟩ := row_shape H3.out.hb
          subst hrv
          have hv8 : IntKind.u8.wrap v = v := by have := HV.out; simp [IntKind.wrap, IntKind.bits, IntKind.signed]; omega
          have HUB : Hid (v = ((ub v).toNat : Int)) := (ub_int v (by have := HV.out; omega) (by have := HV.out; omega)).symm
          have HROW : Hid ((w3.alloc (.cells #[.int .u8 v] 5)).ownsRow B 5 1 (.slice ra c.bs.length rc) c.bs.length (Lib.byteCells c.bs)) := H3.out.hb.alloc _
          go_wp2_with (at_builtin; refine wpList_append_own_at _ rfl _ _ 58 rfl B 5 i5 (.int .u8 0) 1 1 Try.underlying58 hi5 hx0 hx1 hx2 rfl (by decide) _ _ _ rfl HROW.out ⟨w3.heap.size, 0, none⟩ 1 1 [.int .u8 v] rfl rfl (cell_one_new _ _ _) (by simp [Value.oneCell']) (by have := HBL.out; unfold maxLen; omega) (by have := HBL.out; omega) (by have := H3.out.lB; simp; omega) ?_; intro v5 w5 ho5 hg5 _ ha5; have ho6 := ho5; rw [HUB.out] at ho6; have HO5 : Hid (Byt B w5 v5 (c.bs ++ [ub v])) := byt_app ho6; have HG5 : Hid (w3.grownBy w5 (Value.ownBlock (.slice ra c.bs.length rc))) := (World.grownBy_alloc _ _ _).trans hg5; obtain ⟨qa, qc, rfl⟩ := row_shape ho5; have k0b : w5.cell? ⟨b, 4, none⟩ = some (.slice ra c.bs.length rc) := HG5.out.cell k4 (fun e => H3.out.nb e.symm); have f0b : w5.frozen? ⟨b, 4, none⟩ = false := Lib.frozen_of_heap ((HG5.out.block b H3.out.lt (fun e => H3.out.nb e.symm)).trans H3.out.blk) 4; clear ho5 ho6 hg5 ha5)
          go_ret
          obtain ⟨hq1, hq2⟩ := H3.out.appB HG5.out HO5.out
          exact ⟨rfl, B3.out.trans hq2, _, _, hq1⟩
      · rw [if_neg c92] at HR2
        subst HR2
        have k4 := H1.out.c4
        obtain ⟨ra, rc, hrv⟩ := row_shape H1.out.hb
        subst hrv
        have hv8 : IntKind.u8.wrap x = x := by have := HX0.out; simp [IntKind.wrap, IntKind.bits, IntKind.signed]; omega
        have HUB : Hid (x = ((ub x).toNat : Int)) := (ub_int x HX0.out.1 HX0.out.2).symm
        go_wp2_with fail
        refine (stops_any x w1).mono ?_
        rintro e w2 ⟨rfl, rfl⟩
        rw [hst]
        have HROW : Hid ((w2.alloc (.cells #[.int .u8 x] 5)).ownsRow B 5 1 (.slice ra c.bs.length rc) c.bs.length (Lib.byteCells c.bs)) := H1.out.hb.alloc _
        go_wp2_with (at_builtin; refine wpList_append_own_at _ rfl _ _ 58 rfl B 5 i5 (.int .u8 0) 1 1 Try.underlying58 hi5 hx0 hx1 hx2 rfl (by decide) _ _ _ rfl HROW.out ⟨w2.heap.size, 0, none⟩ 1 1 [.int .u8 x] rfl rfl (cell_one_new _ _ _) (by simp [Value.oneCell']) (by have := HBL.out; unfold maxLen; omega) (by have := HBL.out; omega) (by have := H1.out.lB; simp; omega) ?_; intro v5 w5 ho5 hg5 _ ha5; have ho6 := ho5; rw [HUB.out] at ho6; have HO5 : Hid (Byt B w5 v5 (c.bs ++ [ub x])) := byt_app ho6; have HG5 : Hid (w2.grownBy w5 (Value.ownBlock (.slice ra c.bs.length rc))) := (World.grownBy_alloc _ _ _).trans hg5; obtain ⟨qa, qc, rfl⟩ := row_shape ho5; have k0b : w5.cell? ⟨b, 4, none⟩ = some (.slice ra c.bs.length rc) := HG5.out.cell k4 (fun e => H1.out.nb e.symm); have f0b : w5.frozen? ⟨b, 4, none⟩ = false := Lib.frozen_of_heap ((HG5.out.block b H1.out.lt (fun e => H1.out.nb e.symm)).trans H1.out.blk) 4; clear ho5 ho6 hg5 ha5)
        go_ret
        obtain ⟨hq1, hq2⟩ := H1.out.appB HG5.out HO5.out
        exact ⟨rfl, B1.out.trans hq2, _, _, hq1⟩
end Go.Proofs.Ythfijmabagjdkaa
