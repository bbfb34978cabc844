import Derived.Test.YtcmhbcfgikmblabGreatDoorCva
import Derived.Laws.BytesArg
import Derived.ScopeJumps
import Derived.WalkMore
namespace Go.Proofs.YtcmhbcfgikmblabGreatDoor
open Go.RowKit Go.Maps

theorem byt_conv {B : Nat} {W : World} {v : Value} {l : List UInt8} (h : Byt B W v l) : (convert 93 9 v).run Tryz.prog W = .ok (.string ⟨l.toArray⟩) W := by
  have hh := h
  rcases h.2 with ⟨rfl, h2⟩ | ⟨g, cap, cur, rfl, h1, h2, h3, h4, h5, h6⟩
  · have : l = [] := List.length_eq_zero_iff.1 h2
    subst this
    exact run_convert_bytes_nil W 93 5 Tryz.underlying93 Tryz.underlying5 0 0 9 Tryz.underlying9
  · refine run_convert_bytes_back W 93 9 5 ⟨g, 0, none⟩ cap l Tryz.underlying93 Tryz.underlying5 Tryz.underlying9 (fun j hj => ?_)
    rw [addPl, Nat.zero_add, hh.cellAt j (by omega)]
    simp [Lib.byteCells, List.getElem?_eq_getElem hj]
theorem ub_int (b : Int) (h0 : 0 ≤ b) (h1 : b < 256) : ((ub b).toNat : Int) = b := by
  unfold ub
  simp
  omega
/-- A byte of a string, or an escape: does it go on, and the cutter behind it. -/
def inT (c : Cs) (k : Nat) : Bool × Cs :=
  if rd c.s k = 34 then (false, cw { c with p := (k : Int) } 2 ⟨c.bs.toArray⟩)
  else if rd c.s k = -1 ∨ rd c.s k = 10 then (false, { c with p := (k : Int), co := 82, pl := c.f })
  else if rd c.s k = 92 then (if (es c.s (k + 1)).1 = -1 then (false, { c with p := ((es c.s (k + 1)).2 : Int), co := 82, pl := (k : Int) }) else (true, { c with p := ((es c.s (k + 1)).2 : Int), bs := c.bs ++ [ub (es c.s (k + 1)).1] }))
  else (true, { c with p := (k : Int), bs := c.bs ++ [ub (rd c.s k)] })
theorem td_lo (s : ByteArray) (k : Nat) : -1 ≤ (td s k).1 ∧ (td s k).1 < 256 := by
  have h1 := hxv_lo (rd s k)
  have h2 := hxv_lo (rd s (k + 1))
  unfold td
  split
  · exact ⟨Int.le_refl _, by show (-1 : Int) < 256; decide⟩
  · split
    · exact ⟨Int.le_refl _, by show (-1 : Int) < 256; decide⟩
    · rename_i a b
      obtain ⟨m, hm, e1⟩ := h1.resolve_left a
      obtain ⟨q, hq, e2⟩ := h2.resolve_left b
      rw [e1, e2]
      simp only
      omega
theorem es_lo (s : ByteArray) (k : Nat) : -1 ≤ (es s k).1 ∧ (es s k).1 < 256 := by
  unfold es
  split
  · exact td_lo s (k + 1)
  · simp only
    unfold emv
    repeat' split
    all_goals exact ⟨by decide, by decide⟩

set_option maxRecDepth 100000 in
set_option maxHeartbeats 8000000 in
theorem intext_any {B b : Nat} {vb vw : Value} {c : Cs} (k : Nat) (hk : c.p + 1 = (k : Int)) (hk2 : k ≤ 4611686018427380000) (hbl : c.bs.length ≤ 1000000000000) (hl : c.ws.length ≤ 1000000000000) (w : World) (h : Cu B w b vb vw c) :
    Calls Tryz.prog 64 #[.pointer (some ⟨b, 0, none⟩)] w fun e w' => e = .returned (.bool (inT c k).1) ∧ Below B w w' ∧ ∃ vb' vw', Cu B w' b vb' vw' (inT c k).2 := by
  have HH : Hid (Cu B w b vb vw c) := h
  have HK : Hid (c.p + 1 = (k : Int)) := hk
  have HK2 : Hid (k ≤ 4611686018427380000) := hk2
  have HBL : Hid (c.bs.length ≤ 1000000000000) := hbl
  have HL : Hid (c.ws.length ≤ 1000000000000) := hl
  obtain ⟨i5, hi5, hx0, hx1, hx2⟩ := info_parts info5
  obtain ⟨x, hx⟩ : ∃ x, rd c.s k = x := ⟨_, rfl⟩
  have HX : Hid (rd c.s k = x) := hx
  have HXO : Hid (okb x) := by rw [← hx]; exact rd_ok _ _
  obtain ⟨R, hR⟩ : ∃ R, inT c k = R := ⟨_, rfl⟩
  have HR : Hid (R = if x = 34 then (false, cw { c with p := (k : Int) } 2 ⟨c.bs.toArray⟩)
    else if x = -1 ∨ x = 10 then (false, { c with p := (k : Int), co := 82, pl := c.f })
    else if x = 92 then (if (es c.s (k + 1)).1 = -1 then (false, { c with p := ((es c.s (k + 1)).2 : Int), co := 82, pl := (k : Int) }) else (true, { c with p := ((es c.s (k + 1)).2 : Int), bs := c.bs ++ [ub (es c.s (k + 1)).1] }))
    else (true, { c with p := (k : Int), bs := c.bs ++ [ub x] })) := by rw [← hR, ← hx]; exact rfl
  rw [hR]
  clear h hk hk2 hbl hl hx hR
  go_enter Tryz.func64, Tryz.ntmps64
  go_wp2_with fail
  refine (read_any k HK.out (by have := HK2.out; omega) w HH.out).mono ?_
  rintro e w1 ⟨rfl, h1, b1⟩
  rw [HX.out]
  have H1 : Hid (Cu B w1 b vb vw { c with p := (k : Int) }) := h1
  have B1 : Hid (Below B w w1) := b1
  clear h1 b1 HH
  have k1 := H1.out.c1
  by_cases c34 : x = 34
  · have HR2 := HR.out
    rw [if_pos c34] at HR2
    subst HR2
    clear HR
    subst c34
    have k4 := H1.out.c4
    obtain ⟨ra, rc, hrv⟩ := row_shape H1.out.hb
    subst hrv
    have hcv := byt_conv H1.out.hb
    have HCC : Hid (c.bs.toArray.size ≤ 1000000000000) := (by have := HBL.out; show c.bs.toArray.size ≤ _; simp; omega)
    go_wp2_with fail
    refine (cut_any (c := { c with p := (k : Int) }) 2 ⟨c.bs.toArray⟩ HCC.out HL.out w1 H1.out).mono ?_
    rintro e w2 ⟨rfl, b2, h2⟩
    have H2 : Hid _ := h2
    have B2 : Hid _ := B1.out.trans b2
    clear h2 b2 k1 k4 hcv
    go_wp2_with fail
    go_ret
    exact ⟨rfl, B2.out, H2.out⟩
  · have HR2 := HR.out
    rw [if_neg c34] at HR2
    by_cases cst : x = -1 ∨ x = 10
    · rw [if_pos cst] at HR2
      subst HR2
      have hst : (x == -1 || x == 10) = true := by rcases cst with rfl | rfl <;> rfl
      have k2 := H1.out.c2
      clear HR cst
      go_wp2_with fail
      refine (stops_any x w1).mono ?_
      rintro e w2 ⟨rfl, rfl⟩
      rw [hst]
      go_wp2_with fail
      refine (fail_any 82 c.f w2 H1.out).mono ?_
      rintro e w3 ⟨rfl, h3, b3⟩
      have H3 : Hid _ := h3
      have B3 : Hid _ := B1.out.trans b3
      clear h3 b3 k1 k2 hst
      go_wp2_with fail
      go_ret
      exact ⟨rfl, B3.out, _, _, H3.out⟩
    · rw [if_neg cst] at HR2
      have hst : (x == -1 || x == 10) = false := by
        have h1 : ¬ x = -1 := fun h => cst (.inl h)
        have h2 : ¬ x = 10 := fun h => cst (.inr h)
        simp [h1, h2]
      have HX0 : Hid (0 ≤ x ∧ x < 256) := by
        rcases HXO.out with h | ⟨n, hn, h⟩
        · exact absurd (.inl h) cst
        · show 0 ≤ x ∧ x < 256
          omega
      have n1 : ¬ x = -1 := fun h => cst (.inl h)
      clear HR cst
      by_cases c92 : x = 92
      · rw [if_pos c92] at HR2
        subst c92
        have HR3 : Hid _ := HR2
        clear HR2
        go_wp2_with fail
        refine (stops_any 92 w1).mono ?_
        rintro e w2 ⟨rfl, rfl⟩
        rw [hst]
        go_wp2_with fail
        refine (esc_any (k + 1) (by simp) (by have := HK2.out; omega) w2 H1.out).mono ?_
        rintro e w3 ⟨rfl, h3, b3⟩
        obtain ⟨v, q, hvq⟩ : ∃ v q, es c.s (k + 1) = (v, q) := ⟨_, _, rfl⟩
        have HV : Hid (-1 ≤ v ∧ v < 256) := by have := es_lo c.s (k + 1); rw [hvq] at this; exact this
        have HR4 := HR3.out
        simp only [hvq] at h3 HR4 ⊢
        have H3 : Hid (Cu B w3 b vb vw { c with p := (q : Int) }) := h3
        have B3 : Hid (Below B w w3) := B1.out.trans b3
        clear h3 b3 k1 hst hvq HR3
        by_cases cv : v = -1
        · rw [if_pos cv] at HR4
          subst HR4
          subst cv
          go_wp2_with fail
          refine (fail_any 82 k w3 H3.out).mono ?_
          rintro e w4 ⟨rfl, h4, b4⟩
          have H4 : Hid _ := h4
          have B4 : Hid _ := B3.out.trans b4
          clear h4 b4
          go_wp2_with fail
          go_ret
          exact ⟨rfl, B4.out, _, _, H4.out⟩
        · rw [if_neg cv] at HR4
          subst HR4
          have k4 := H3.out.c4
          obtain ⟨ra, rc, hrv⟩ := row_shape H3.out.hb
          subst hrv
          have hv8 : IntKind.u8.wrap v = v := by have := HV.out; simp [IntKind.wrap, IntKind.bits, IntKind.signed]; omega
          have HUB : Hid (v = ((ub v).toNat : Int)) := (ub_int v (by have := HV.out; omega) (by have := HV.out; omega)).symm
          have HROW : Hid ((w3.alloc (.cells #[.int .u8 v] 5)).ownsRow B 5 1 (.slice ra c.bs.length rc) c.bs.length (Lib.byteCells c.bs)) := H3.out.hb.alloc _
          go_wp2_with (at_builtin; refine wpList_append_own_at _ rfl _ _ 93 rfl B 5 i5 (.int .u8 0) 1 1 Tryz.underlying93 hi5 hx0 hx1 hx2 rfl (by decide) _ _ _ rfl HROW.out ⟨w3.heap.size, 0, none⟩ 1 1 [.int .u8 v] rfl rfl (cell_one_new _ _ _) (by simp [Value.oneCell']) (by have := HBL.out; unfold maxLen; omega) (by have := HBL.out; omega) (by have := H3.out.lB; simp; omega) ?_; intro v5 w5 ho5 hg5 _ ha5; have ho6 := ho5; rw [HUB.out] at ho6; have HO5 : Hid (Byt B w5 v5 (c.bs ++ [ub v])) := byt_app ho6; have HG5 : Hid (w3.grownBy w5 (Value.ownBlock (.slice ra c.bs.length rc))) := (World.grownBy_alloc _ _ _).trans hg5; obtain ⟨qa, qc, rfl⟩ := row_shape ho5; have k0b : w5.cell? ⟨b, 4, none⟩ = some (.slice ra c.bs.length rc) := HG5.out.cell k4 (fun e => H3.out.nb e.symm); have f0b : w5.frozen? ⟨b, 4, none⟩ = false := Lib.frozen_of_heap ((HG5.out.block b H3.out.lt (fun e => H3.out.nb e.symm)).trans H3.out.blk) 4; clear ho5 ho6 hg5 ha5)
          go_ret
          obtain ⟨hq1, hq2⟩ := H3.out.appB HG5.out HO5.out
          exact ⟨rfl, B3.out.trans hq2, _, _, hq1⟩
      · rw [if_neg c92] at HR2
        subst HR2
        have k4 := H1.out.c4
        obtain ⟨ra, rc, hrv⟩ := row_shape H1.out.hb
        subst hrv
        have hv8 : IntKind.u8.wrap x = x := by have := HX0.out; simp [IntKind.wrap, IntKind.bits, IntKind.signed]; omega
        have HUB : Hid (x = ((ub x).toNat : Int)) := (ub_int x HX0.out.1 HX0.out.2).symm
        go_wp2_with fail
        refine (stops_any x w1).mono ?_
        rintro e w2 ⟨rfl, rfl⟩
        rw [hst]
        have HROW : Hid ((w2.alloc (.cells #[.int .u8 x] 5)).ownsRow B 5 1 (.slice ra c.bs.length rc) c.bs.length (Lib.byteCells c.bs)) := H1.out.hb.alloc _
        go_wp2_with (at_builtin; refine wpList_append_own_at _ rfl _ _ 93 rfl B 5 i5 (.int .u8 0) 1 1 Tryz.underlying93 hi5 hx0 hx1 hx2 rfl (by decide) _ _ _ rfl HROW.out ⟨w2.heap.size, 0, none⟩ 1 1 [.int .u8 x] rfl rfl (cell_one_new _ _ _) (by simp [Value.oneCell']) (by have := HBL.out; unfold maxLen; omega) (by have := HBL.out; omega) (by have := H1.out.lB; simp; omega) ?_; intro v5 w5 ho5 hg5 _ ha5; have ho6 := ho5; rw [HUB.out] at ho6; have HO5 : Hid (Byt B w5 v5 (c.bs ++ [ub x])) := byt_app ho6; have HG5 : Hid (w2.grownBy w5 (Value.ownBlock (.slice ra c.bs.length rc))) := (World.grownBy_alloc _ _ _).trans hg5; obtain ⟨qa, qc, rfl⟩ := row_shape ho5; have k0b : w5.cell? ⟨b, 4, none⟩ = some (.slice ra c.bs.length rc) := HG5.out.cell k4 (fun e => H1.out.nb e.symm); have f0b : w5.frozen? ⟨b, 4, none⟩ = false := Lib.frozen_of_heap ((HG5.out.block b H1.out.lt (fun e => H1.out.nb e.symm)).trans H1.out.blk) 4; clear ho5 ho6 hg5 ha5)
        go_ret
        obtain ⟨hq1, hq2⟩ := H1.out.appB HG5.out HO5.out
        exact ⟨rfl, B1.out.trans hq2, _, _, hq1⟩
end Go.Proofs.YtcmhbcfgikmblabGreatDoor
namespace Go.Proofs.YtcmhbcfgikmblabGreatDoor
open Go.RowKit Go.Maps

/-- A byte of a regex, or a backslash and what belongs to it. -/
def inR (c : Cs) (f k : Nat) : Bool × Cs :=
  if rd c.s k = 47 then (false, cw { c with p := (k : Int) } 3 (c.s.extract (f + 1) k))
  else if rd c.s k = 92 then (if rd c.s (k + 1) = -1 ∨ rd c.s (k + 1) = 10 then (false, { c with p := ((k + 1 : Nat) : Int), co := 82, pl := c.f }) else (true, { c with p := ((k + 1 : Nat) : Int) }))
  else if rd c.s k = -1 ∨ rd c.s k = 10 then (false, { c with p := (k : Int), co := 82, pl := c.f }) else (true, { c with p := (k : Int) })
theorem rd_lt {s : ByteArray} {k : Nat} (h : rd s k ≠ -1) : k < s.size := by
  unfold rd at h
  split at h
  · assumption
  · exact absurd rfl h
theorem st_bool (x : Int) : (x == -1 || x == 10) = decide (x = -1 ∨ x = 10) := by
  by_cases h1 : x = -1
  · subst h1; rfl
  · by_cases h2 : x = 10
    · subst h2; rfl
    · simp [h1, h2]

set_option maxRecDepth 100000 in
set_option maxHeartbeats 8000000 in
theorem inregex_any {B b : Nat} {vb vw : Value} {c : Cs} (f k : Nat) (hf : c.f = (f : Int)) (hfk : f < k) (hk : c.p + 1 = (k : Int)) (hk2 : k ≤ 4611686018427380000) (hs : c.s.size ≤ 1000000000000) (hl : c.ws.length ≤ 1000000000000) (w : World) (h : Cu B w b vb vw c) :
    Calls Tryz.prog 65 #[.pointer (some ⟨b, 0, none⟩)] w fun e w' => e = .returned (.bool (inR c f k).1) ∧ Below B w w' ∧ ∃ vb' vw', Cu B w' b vb' vw' (inR c f k).2 := by
  have HH : Hid (Cu B w b vb vw c) := h
  have HK : Hid (c.p + 1 = (k : Int)) := hk
  have HK2 : Hid (k ≤ 4611686018427380000) := hk2
  have HS : Hid (c.s.size ≤ 1000000000000) := hs
  have HL : Hid (c.ws.length ≤ 1000000000000) := hl
  have HF : Hid (c.f = (f : Int)) := hf
  have HFK : Hid (f < k) := hfk
  obtain ⟨x, hx⟩ : ∃ x, rd c.s k = x := ⟨_, rfl⟩
  have HX : Hid (rd c.s k = x) := hx
  obtain ⟨R, hR⟩ : ∃ R, inR c f k = R := ⟨_, rfl⟩
  have HR : Hid (R = if x = 47 then (false, cw { c with p := (k : Int) } 3 (c.s.extract (f + 1) k))
    else if x = 92 then (if rd c.s (k + 1) = -1 ∨ rd c.s (k + 1) = 10 then (false, { c with p := ((k + 1 : Nat) : Int), co := 82, pl := c.f }) else (true, { c with p := ((k + 1 : Nat) : Int) }))
    else if x = -1 ∨ x = 10 then (false, { c with p := (k : Int), co := 82, pl := c.f }) else (true, { c with p := (k : Int) })) := by rw [← hR, ← hx]; exact rfl
  rw [hR]
  clear h hk hk2 hl hs hf hfk hx hR
  go_enter Tryz.func65, Tryz.ntmps65
  go_wp2_with fail
  refine (read_any k HK.out (by have := HK2.out; omega) w HH.out).mono ?_
  rintro e w1 ⟨rfl, h1, b1⟩
  rw [HX.out]
  have H1 : Hid (Cu B w1 b vb vw { c with p := (k : Int) }) := h1
  have B1 : Hid (Below B w w1) := b1
  clear h1 b1 HH
  by_cases c47 : x = 47
  · have HR2 := HR.out
    rw [if_pos c47] at HR2
    subst HR2
    clear HR
    subst c47
    have HKS : Hid (k < c.s.size) := rd_lt (by rw [HX.out]; decide)
    have k2 := H1.out.c2
    have HS2 : Hid (c.s.size ≤ 1000000000000) := HS.out
    go_upto_region 4 with fail
    clear k2
    obtain ⟨g, hg⟩ : ∃ g, f + 1 = g := ⟨_, rfl⟩
    have HGE : Hid (f + 1 = g) := hg
    clear hg
    have hw1 : IntKind.i64.wrap (c.f + 1) = (g : Int) := by have := HF.out; have := HFK.out; have := HK2.out; have := HGE.out; rw [IntKind.wrap_i64]; omega
    have s0 : (0 : Int) ≤ (g : Int) := by omega
    have s1 : (g : Int) ≤ (k : Int) := by have := HFK.out; have := HGE.out; omega
    have s2 : (k : Int) ≤ (c.s.size : Int) := by have := HKS.out; omega
    have s3 : g ≤ k := by have := HFK.out; have := HGE.out; omega
    have s4 : k ≤ c.s.size := by have := HKS.out; omega
    have HEX : Hid ((c.s.extract g k).size ≤ 1000000000000) := by
      have := HS.out
      show (c.s.extract g k).size ≤ _
      rw [ByteArray.size_extract]
      omega
    obtain ⟨T, hT⟩ : ∃ T, c.s.extract g k = T := ⟨_, rfl⟩
    have HTT : Hid (c.s.extract (f + 1) k = T) := by rw [HGE.out]; exact hT
    rw [hT] at HEX
    refine wp_region_noPanic ?_
    refine wp_region_held_drew (S := fun W => W.cell? ⟨b, 0, none⟩ = some (.string c.s) ∧ W.cell? ⟨b, 1, none⟩ = some (.int .i64 (k : Int)) ∧ W.cell? ⟨b, 2, none⟩ = some (.int .i64 c.f)) (by kernel_rfl) ⟨H1.out.drew.c0, H1.out.drew.c1, H1.out.drew.c2⟩ (fun hHeld => ?_)
    refine wpAnyH_take (i := 0) (oi := { dst := _, op := _, type := _, pos := _, after := _, guard := _ }) (v := ?_) rfl (by kernel_rfl) (by kernel_rfl) (by kernel_rfl) (fun _ _ _ h => h) (Or.inl ⟨by rfl, ?_⟩) (by assumption) ?_
    rotate_left
    · intro W hSw
      (try dsimp only at hSw)
      go_simp
      (try with_reducible rfl)
    try simp only [Act.put, List.setIfInBounds_toArray, List.set_cons_zero, List.set_cons_succ]
    refine wpAnyH_take (i := 1) (oi := { dst := _, op := _, type := _, pos := _, after := _, guard := _ }) (v := ?_) rfl (by kernel_rfl) (by kernel_rfl) (by kernel_rfl) (fun _ _ _ h => h) (Or.inl ⟨by rfl, ?_⟩) (by assumption) ?_
    rotate_left
    · intro W hSw
      (try dsimp only at hSw)
      go_simp
      (try with_reducible rfl)
    try simp only [Act.put, List.setIfInBounds_toArray, List.set_cons_zero, List.set_cons_succ]
    refine wpAnyH_take (i := 2) (oi := { dst := _, op := _, type := _, pos := _, after := _, guard := _ }) (v := ?_) rfl (by kernel_rfl) (by kernel_rfl) (by kernel_rfl) (fun _ _ _ h => h) (Or.inl ⟨by rfl, ?_⟩) (by assumption) ?_
    rotate_left
    · intro W hSw
      (try dsimp only at hSw)
      go_simp
      (try with_reducible rfl)
    try simp only [Act.put, List.setIfInBounds_toArray, List.set_cons_zero, List.set_cons_succ]
    refine wpAnyH_take (i := 3) (oi := { dst := _, op := _, type := _, pos := _, after := _, guard := _ }) (v := ?_) rfl (by kernel_rfl) (by kernel_rfl) (by kernel_rfl) (fun _ _ _ h => h) (Or.inl ⟨by rfl, ?_⟩) (by assumption) ?_
    rotate_left
    · intro W hSw
      (try dsimp only at hSw)
      go_simp
      (try with_reducible rfl)
    try simp only [Act.put, List.setIfInBounds_toArray, List.set_cons_zero, List.set_cons_succ]
    refine wpAnyH_take (i := 4) (oi := { dst := _, op := _, type := _, pos := _, after := _, guard := _ }) (v := ?_) rfl (by kernel_rfl) (by kernel_rfl) (by kernel_rfl) (fun _ _ _ h => h) (Or.inl ⟨by rfl, ?_⟩) (by assumption) ?_
    rotate_left
    · intro W hSw
      (try dsimp only at hSw)
      obtain ⟨hs0, hs1, hs2⟩ := hSw
      go_simp
      (try with_reducible rfl)
    try simp only [Act.put, List.setIfInBounds_toArray, List.set_cons_zero, List.set_cons_succ]
    refine wpAnyH_take (i := 5) (oi := { dst := _, op := _, type := _, pos := _, after := _, guard := _ }) (v := ?_) rfl (by kernel_rfl) (by kernel_rfl) (by kernel_rfl) (fun _ _ _ h => h) (Or.inl ⟨by rfl, ?_⟩) (by assumption) ?_
    rotate_left
    · intro W hSw
      (try dsimp only at hSw)
      go_simp
      (try with_reducible rfl)
    try simp only [Act.put, List.setIfInBounds_toArray, List.set_cons_zero, List.set_cons_succ]
    refine wpAnyH_take (i := 6) (oi := { dst := _, op := _, type := _, pos := _, after := _, guard := _ }) (v := ?_) rfl (by kernel_rfl) (by kernel_rfl) (by kernel_rfl) (fun _ _ _ h => h) (Or.inl ⟨by rfl, ?_⟩) (by assumption) ?_
    rotate_left
    · intro W hSw
      (try dsimp only at hSw)
      go_simp
      (try with_reducible rfl)
    try simp only [Act.put, List.setIfInBounds_toArray, List.set_cons_zero, List.set_cons_succ]
    refine wpAnyH_take (i := 7) (oi := { dst := _, op := _, type := _, pos := _, after := _, guard := _ }) (v := ?_) rfl (by kernel_rfl) (by kernel_rfl) (by kernel_rfl) (fun _ _ _ h => h) (Or.inl ⟨by rfl, ?_⟩) (by assumption) ?_
    rotate_left
    · intro W hSw
      (try dsimp only at hSw)
      go_simp
      (try with_reducible rfl)
    try simp only [Act.put, List.setIfInBounds_toArray, List.set_cons_zero, List.set_cons_succ]
    refine wpAnyH_take (i := 8) (oi := { dst := _, op := _, type := _, pos := _, after := _, guard := _ }) (v := ?_) rfl (by kernel_rfl) (by kernel_rfl) (by kernel_rfl) (fun _ _ _ h => h) (Or.inl ⟨by rfl, ?_⟩) (by assumption) ?_
    rotate_left
    · intro W hSw
      (try dsimp only at hSw)
      obtain ⟨hs0, hs1, hs2⟩ := hSw
      go_simp
      (try with_reducible rfl)
    try simp only [Act.put, List.setIfInBounds_toArray, List.set_cons_zero, List.set_cons_succ]
    refine wpAnyH_take (i := 9) (oi := { dst := _, op := _, type := _, pos := _, after := _, guard := _ }) (v := ?_) rfl (by kernel_rfl) (by kernel_rfl) (by kernel_rfl) (fun _ _ _ h => h) (Or.inl ⟨by rfl, ?_⟩) (by assumption) ?_
    rotate_left
    · intro W hSw
      (try dsimp only at hSw)
      go_simp
      (try with_reducible rfl)
    try simp only [Act.put, List.setIfInBounds_toArray, List.set_cons_zero, List.set_cons_succ]
    refine wpAnyH_take (i := 10) (oi := { dst := _, op := _, type := _, pos := _, after := _, guard := _ }) (v := ?_) rfl (by kernel_rfl) (by kernel_rfl) (by kernel_rfl) (fun _ _ _ h => h) (Or.inl ⟨by rfl, ?_⟩) (by assumption) ?_
    rotate_left
    · intro W hSw
      (try dsimp only at hSw)
      go_simp
      (try with_reducible rfl)
    try simp only [Act.put, List.setIfInBounds_toArray, List.set_cons_zero, List.set_cons_succ]
    refine wpAnyH_take (i := 11) (oi := { dst := _, op := _, type := _, pos := _, after := _, guard := _ }) (v := ?_) rfl (by kernel_rfl) (by kernel_rfl) (by kernel_rfl) (fun _ _ _ h => h) (Or.inl ⟨by rfl, ?_⟩) (by assumption) ?_
    rotate_left
    · intro W hSw
      (try dsimp only at hSw)
      go_simp
      (try with_reducible rfl)
    try simp only [Act.put, List.setIfInBounds_toArray, List.set_cons_zero, List.set_cons_succ]
    refine wpAnyH_take (i := 12) (oi := { dst := _, op := _, type := _, pos := _, after := _, guard := _ }) (v := ?_) rfl (by kernel_rfl) (by kernel_rfl) (by kernel_rfl) (fun _ _ _ h => h) (Or.inl ⟨by rfl, ?_⟩) (by assumption) ?_
    rotate_left
    · intro W hSw
      (try dsimp only at hSw)
      go_simp
      (try with_reducible rfl)
    try simp only [Act.put, List.setIfInBounds_toArray, List.set_cons_zero, List.set_cons_succ]
    refine wpAnyH_take (i := 13) (oi := { dst := _, op := _, type := _, pos := _, after := _, guard := _ }) (v := ?_) rfl (by kernel_rfl) (by kernel_rfl) (by kernel_rfl) (fun _ _ _ h => h) (Or.inl ⟨by rfl, ?_⟩) (by assumption) ?_
    rotate_left
    · intro W hSw
      (try dsimp only at hSw)
      obtain ⟨hs0, hs1, hs2⟩ := hSw
      go_simp
      (try with_reducible rfl)
    try simp only [Act.put, List.setIfInBounds_toArray, List.set_cons_zero, List.set_cons_succ]
    refine wpAnyH_take (i := 14) (oi := { dst := _, op := _, type := _, pos := _, after := _, guard := _ }) (v := ?_) rfl (by kernel_rfl) (by kernel_rfl) (by kernel_rfl) (fun _ _ _ h => h) (Or.inl ⟨by rfl, ?_⟩) (by assumption) ?_
    rotate_left
    · intro W hSw
      (try dsimp only at hSw)
      go_simp
      (try with_reducible rfl)
    try simp only [Act.put, List.setIfInBounds_toArray, List.set_cons_zero, List.set_cons_succ]
    refine wpAnyH_ready (rs := [15]) (by kernel_rfl) (by simp) ?_
    refine AllReadyH.cons (o := { dst := _, op := _, type := _, pos := _, after := _, guard := _ }) rfl (fun K hK => ?_) AllReadyH.nil
    go_simp
    (try rw [hT])
    refine (cut_any (c := { c with p := (k : Int) }) 3 T HEX.out HL.out _ H1.out.drew).mono ?_
    rintro e w2 ⟨rfl, b2, vb2, vw2, h2⟩
    have H2 : Hid (Cu B w2 b vb2 vw2 (cw { c with p := (k : Int) } 3 T)) := h2
    have B2 : Hid (Below B w w2) := B1.out.trans ((Below.drew (Below.refl _ _)).trans b2)
    clear h2 b2
    go_wp2_with fail
    refine hK.out _ _ ?_ (fun hHeld => ?_)
    · exact ⟨H2.out.c0, H2.out.c1, H2.out.c2⟩
    clear hK K
    try simp only [Act.put, List.setIfInBounds_toArray, List.set_cons_zero, List.set_cons_succ]
    refine wpAnyH_done (by kernel_rfl) ?_ _
    clear hHeld
    refine NoPanic.normal ?_
    go_wp2_with fail
    go_ret
    rw [HTT.out]
    exact ⟨rfl, B2.out, _, _, H2.out⟩
  · have HR2 := HR.out
    rw [if_neg c47] at HR2
    have k2 := H1.out.c2
    by_cases c92 : x = 92
    · rw [if_pos c92] at HR2
      subst c92
      clear HR
      have HR3 : Hid _ := HR2
      clear HR2
      go_wp2_with fail
      refine (read_any (k + 1) (by simp) (by have := HK2.out; omega) w1 H1.out).mono ?_
      rintro e w3 ⟨rfl, h3, b3⟩
      obtain ⟨y, hy⟩ : ∃ y, rd c.s (k + 1) = y := ⟨_, rfl⟩
      have HR4 := HR3.out
      simp only [hy] at h3 HR4 ⊢
      have H3 : Hid (Cu B w3 b vb vw { c with p := ((k + 1 : Nat) : Int) }) := h3
      have B3 : Hid (Below B w w3) := B1.out.trans b3
      clear h3 b3 k2 hy HR3
      have k2 := H3.out.c2
      go_wp2_with fail
      refine (stops_any y w3).mono ?_
      rintro e w4 ⟨rfl, rfl⟩
      by_cases cy : y = -1 ∨ y = 10
      · rw [if_pos cy] at HR4
        subst HR4
        have d1 : (y == -1 || y == 10) = true := by rw [st_bool, decide_eq_true_eq]; exact cy
        rw [d1]
        clear cy
        go_wp2_with fail
        refine (fail_any 82 c.f w4 H3.out).mono ?_
        rintro e w5 ⟨rfl, h5, b5⟩
        have H5 : Hid _ := h5
        have B5 : Hid _ := B3.out.trans b5
        clear h5 b5 k2
        go_wp2_with fail
        go_ret
        exact ⟨rfl, B5.out, _, _, H5.out⟩
      · rw [if_neg cy] at HR4
        subst HR4
        have d1 : (y == -1 || y == 10) = false := by rw [st_bool, decide_eq_false_iff_not]; exact cy
        rw [d1]
        clear cy
        go_wp2_with fail
        go_ret
        exact ⟨rfl, B3.out, _, _, H3.out⟩
    · rw [if_neg c92] at HR2
      clear HR
      have HR4 := HR2
      clear HR2
      go_wp2_with fail
      refine (stops_any x w1).mono ?_
      rintro e w4 ⟨rfl, rfl⟩
      by_cases cy : x = -1 ∨ x = 10
      · rw [if_pos cy] at HR4
        subst HR4
        have d1 : (x == -1 || x == 10) = true := by rw [st_bool, decide_eq_true_eq]; exact cy
        rw [d1]
        clear cy
        go_wp2_with fail
        refine (fail_any 82 c.f w4 H1.out).mono ?_
        rintro e w5 ⟨rfl, h5, b5⟩
        have H5 : Hid _ := h5
        have B5 : Hid _ := B1.out.trans b5
        clear h5 b5 k2
        go_wp2_with fail
        go_ret
        exact ⟨rfl, B5.out, _, _, H5.out⟩
      · rw [if_neg cy] at HR4
        subst HR4
        have d1 : (x == -1 || x == 10) = false := by rw [st_bool, decide_eq_false_iff_not]; exact cy
        rw [d1]
        clear cy
        go_wp2_with fail
        go_ret
        exact ⟨rfl, B1.out, _, _, H1.out⟩
end Go.Proofs.YtcmhbcfgikmblabGreatDoor
namespace Go
/-- As Q; by a goto: J of that label. -/
def Exit.jumps (J : Nat → Act → World → Prop) (Q : Exit → Act → World → Prop) : Exit → Act → World → Prop
  | .goto l, a, w => J l a w
  | e, a, w => Q e a w
/-- A scope with several labels, and a number that falls from jump to jump. -/
theorem wp_scope_labels {P : Program} {a : Act} {w : World} {Q : Exit → Act → World → Prop} {c : Code} (J : Nat → Nat → Act → World → Prop)
    (first : c.wp P (Exit.jumps (fun l a' w' => ∃ g, J l g a' w') Q) a w)
    (pass : ∀ l g a w, J l g a w → ∃ rest, findLabel c l = some rest ∧ rest.wp P (Exit.jumps (fun l' a' w' => ∃ g', g' < g ∧ J l' g' a' w') Q) a w) : (Code.scope c).wp P Q a w := by
  intro b k cs
  have key : ∀ n l a w, J l n a w → ∃ rest, findLabel c l = some rest ∧ ∃ e a' w', Q e a' w' ∧ Arrives P (lone (b.at a (.code rest :: .inScope c :: k)) cs w) b k cs e a' w' := by
    intro n
    induction n using Nat.strongRecOn with
    | _ n ih =>
      intro l a w hJ
      obtain ⟨rest, hf, hp⟩ := pass l n a w hJ
      obtain ⟨e, a₁, w₁, hq, harr⟩ := hp b (.inScope c :: k) cs
      refine ⟨rest, hf, ?_⟩
      cases e with
      | normal => exact ⟨.normal, a₁, w₁, hq, Steps.trans harr (.one step_inScope)⟩
      | exit id => exact ⟨.exit id, a₁, w₁, hq, fun k' hk => harr k' (by simp [exitTo, hk])⟩
      | goto l' =>
        obtain ⟨g', hlt, hJ'⟩ := hq
        obtain ⟨rest', hf', e₂, a₂, w₂, hq₂, harr₂⟩ := ih g' hlt l' a₁ w₁ hJ'
        have hg : gotoIn l' (.inScope c :: k) = some (.code rest' :: .inScope c :: k) := by simp [gotoIn, hf']
        exact ⟨e₂, a₂, w₂, hq₂, .of_steps (harr _ hg) harr₂⟩
      | ret => exact ⟨_, a₁, w₁, hq, harr⟩
      | panic ch => exact ⟨_, a₁, w₁, hq, harr⟩
      | outgrown => exact ⟨_, a₁, w₁, hq, harr⟩
  obtain ⟨e, a₁, w₁, hq, harr⟩ := first b (.inScope c :: k) cs
  cases e with
  | normal => exact ⟨.normal, a₁, w₁, hq, .head step_scope (Steps.trans harr (.one step_inScope))⟩
  | exit id => exact ⟨.exit id, a₁, w₁, hq, fun k' hk => .head step_scope (harr k' (by simp [exitTo, hk]))⟩
  | goto l' =>
    obtain ⟨g', hJ'⟩ := hq
    obtain ⟨rest', hf', e₂, a₂, w₂, hq₂, harr₂⟩ := key g' l' a₁ w₁ hJ'
    have hg : gotoIn l' (.inScope c :: k) = some (.code rest' :: .inScope c :: k) := by simp [gotoIn, hf']
    exact ⟨e₂, a₂, w₂, hq₂, .of_steps (.head step_scope (harr _ hg)) harr₂⟩
  | ret => exact ⟨_, a₁, w₁, hq, .of_steps (.one step_scope) harr⟩
  | panic ch => exact ⟨_, a₁, w₁, hq, .of_steps (.one step_scope) harr⟩
  | outgrown => exact ⟨_, a₁, w₁, hq, .of_steps (.one step_scope) harr⟩
end Go
namespace Go.Proofs.YtcmhbcfgikmblabGreatDoor
open Go.RowKit Go.Maps

theorem cut_gap (k : Nat) (l : List UInt8) : cut k l = cut (k + gp false l) (l.drop (gp false l)) := by
  have hle := gp_le false l
  have h := cut_skip k (l.take (gp false l)) (l.drop (gp false l)) (by
    rw [List.take_append_drop, List.length_take, Nat.min_eq_left hle]
    cases hd : l.drop (gp false l) with
    | nil => simp [gp]
    | cons x t =>
      obtain ⟨h1, h2⟩ := gp_at false l hd
      rw [gp_stay t h1 h2 rfl]; rfl)
  rw [List.take_append_drop, List.length_take, Nat.min_eq_left hle] at h
  exact h
/-- The words behind a comment's beginning. -/
def cutC (k : Nat) (l : List UInt8) : Sum (Nat × Nat) (List Wd) := cut (k + gp true l) (l.drop (gp true l))
theorem cut_hash (k : Nat) (x : UInt8) (t : List UInt8) (h : nI x = 35) : cut k (x :: t) = cutC (k + 1) t := by
  rw [cut_gap, gp_c x t h]
  unfold cutC
  rw [List.drop_succ_cons, Nat.add_assoc, Nat.add_comm 1]
theorem cutC_nil (k : Nat) : cutC k [] = cut k [] := rfl
theorem cutC_nl (k : Nat) (x : UInt8) (t : List UInt8) (h : nI x = 10) : cutC k (x :: t) = cut k (x :: t) := by
  rw [cut_gap k (x :: t), gp_b x t (by rw [h]; rfl)]
  unfold cutC
  rw [gp_e x t h]
theorem cutC_on (k : Nat) (x : UInt8) (t : List UInt8) (h : ¬ nI x = 10) : cutC k (x :: t) = cutC (k + 1) t := by
  unfold cutC
  rw [gp_o x t h, List.drop_succ_cons, Nat.add_assoc, Nat.add_comm 1]
theorem cut_bl (k : Nat) (x : UInt8) (t : List UInt8) (h : isB (nI x) = true) : cut k (x :: t) = cut (k + 1) t := by
  rw [cut_gap k (x :: t), cut_gap (k + 1) t, gp_b x t h, List.drop_succ_cons, Nat.add_assoc, Nat.add_comm 1]
/-- What the words are where one begins. -/
theorem cut_begin (k : Nat) (x : UInt8) (t : List UInt8) (h1 : isB (nI x) = false) (h2 : ¬ nI x = 35) : cut k (x :: t) = match lx (x :: t) with
    | .inl (e, o) => .inl (e, k + o)
    | .inr (w, n) => cns { w with a := (k : Int) } (cut (k + n) ((x :: t).drop n)) := by
  have hg : gp false (x :: t) = 0 := gp_stay t h1 h2 rfl
  have hd : (x :: t).drop (gp false (x :: t)) = x :: t := by rw [hg]; rfl
  cases hx : lx (x :: t) with
  | inl p =>
    obtain ⟨e, o⟩ := p
    rw [cut_err k hd (by simp) hx, hg]; rfl
  | inr p =>
    obtain ⟨w, n⟩ := p
    rw [cut_wrd k hd hx, hg]; rfl
/-- What the cutter ends with. -/
def Res (A : Sum (Nat × Nat) (List Wd)) (c : Cs) : Prop := (c.co = 0 ∧ A = .inr c.ws) ∨ ∃ e o : Nat, e ≠ 0 ∧ c.co = (e : Int) ∧ c.pl = (o : Int) ∧ A = .inl (e, o)
/-- Between words: the next place is k. -/
structure Mid (A : Sum (Nat × Nat) (List Wd)) (s : ByteArray) (k : Nat) (c : Cs) : Prop where
  hs : c.s = s
  co : c.co = 0
  n : c.n = 0
  bs : c.bs = []
  wl : c.ws.length ≤ k
  a : A = pfx c.ws (cut k (s.data.toList.drop k))
/-- An error has been come to. -/
def Bad (A : Sum (Nat × Nat) (List Wd)) (s : ByteArray) (c : Cs) : Prop := c.s = s ∧ ∃ e o : Nat, e ≠ 0 ∧ c.co = (e : Int) ∧ c.pl = (o : Int) ∧ A = .inl (e, o)
/-- A word begins at f: what it comes to. -/
structure Wrd (A : Sum (Nat × Nat) (List Wd)) (s : ByteArray) (f : Nat) (c : Cs) : Prop where
  hs : c.s = s
  co : c.co = 0
  fr : c.f = (f : Int)
  fs : f < s.size
  wl : c.ws.length ≤ f
def stR (L : List UInt8) (f : Nat) : Sum Nat (List UInt8 × Nat) → Sum (Nat × Nat) (List Wd)
  | .inl e => .inl (82, f + e)
  | .inr (a, n) => cns ⟨2, a, 0, (f : Int)⟩ (cut (f + n) (L.drop (f + n)))
def rgR (L : List UInt8) (f : Nat) : Option Nat → Sum (Nat × Nat) (List Wd)
  | none => .inl (82, f)
  | some n => cns ⟨3, (L.drop (f + 1)).take (n - 2), 0, (f : Int)⟩ (cut (f + n) (L.drop (f + n)))
theorem rd_at {s : ByteArray} {k : Nat} (h : k < s.size) : rd s k = nI (s.get! k) := if_pos h
theorem rd_in {s : ByteArray} {k : Nat} {x : Int} (h : rd s k = x) (hx : x ≠ -1) : k < s.size ∧ nI (s.get! k) = x := by
  have h1 := rd_lt (by rw [h]; exact hx)
  exact ⟨h1, by rw [← rd_at h1]; exact h⟩
theorem rd_out {s : ByteArray} {k : Nat} (h : rd s k = -1) : s.size ≤ k := by
  unfold rd nI at h
  split at h
  · omega
  · omega
theorem isN_L {x : Int} (h : isL x = true) : isN x = true := by simp [isN, h]
end Go.Proofs.YtcmhbcfgikmblabGreatDoor
