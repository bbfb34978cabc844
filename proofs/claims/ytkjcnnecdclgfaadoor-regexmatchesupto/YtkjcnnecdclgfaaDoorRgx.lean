import Derived.Test.YtkjcnnecdclgfaaDoorCtr
namespace Go.Proofs.YtkjcnnecdclgfaaDoor
open Go.RowKit
set_option maxRecDepth 100000 in
set_option maxHeartbeats 8000000 in
theorem regex_any (B b : Nat) (s : ByteArray) (hs : s.size < 1000000000000000) (i : Nat) (o : List Nd) (st : List Grp) (w : World) (h : IsM B b s i st.length o w) (hi : i ≤ s.size) (h41 : pk s i = 41 → st = []) (hst : st.length ≤ 128) (hR : RgOk B b s (i + 1)) :
    Calls Tryd.prog 37 #[.pointer (some ⟨b, 0, none⟩)] w fun e w' => RRes B b s i ⟨i, o, frG, st⟩ st w e w' := by
  have A := cat_any B b s hs i o (-1) st w h hi (fun k => .inl (h41 k)) hst hR
  have HS : Hid _ := hs
  have HR : Hid (RgOk B b s (i + 1)) := hR
  have HST : Hid _ := hst
  clear h hi hs hR h41 hst
  go_enter Tryd.func37, Tryd.ntmps37
  go_wp2_with fail
  refine A.mono ?_
  clear A
  intro e w1 hr
  rcases hr with ⟨j0, o1, om0, gm0, r0, rfl, hr⟩ | ⟨c, p, rfl, hv, hf⟩
  · have HRR : Hid _ := hr
    obtain ⟨y, hy⟩ : ∃ y, cp r0 = y := ⟨_, rfl⟩
    rw [hy]
    have HY : Hid _ := hy
    clear hr hy
    go_wp2_with fail
    go_loopg [3] (s.size - j0) (fun gh a wr => ∃ (j : Nat) (o2 om : List Nd) (gm : Grp) (r : Nat), a = .int .i64 (cp r) ∧ gh = s.size - j ∧ (r < o2.length ∧ o.length ≤ o2.length) ∧ i < j ∧ j ≤ s.size ∧ V s ⟨i, o, frG, st⟩ = V s ⟨j, om, gm, st⟩ ∧ 0 ≤ gm.part ∧ brn om gm = (o2, ⟨(r : Int), -1, -1⟩) ∧ (j = s.size ∨ pk s j = 124 ∨ pk s j = 41) ∧ IsM B b s j st.length o2 wr ∧ FP B b w wr)
    case atStart =>
      obtain ⟨r1, r2, r3, r4, r5, r6, r7, r8, r9⟩ := HRR.out
      exact ⟨j0, o1, om0, gm0, r0, by rw [HY.out], rfl, r1, r2, r3, r4, r5, brn_of _ _ _ _ r6, r7, r8, r9⟩
    case round =>
      clear HRR HY
      obtain ⟨j, o2, om, gm, r, rfl, hgm, hr1, hj0, hj2, hv, hg, hst2, hsg, hp, hf⟩ := hrel
      have HGM : Hid _ := hgm
      have HR1 : Hid _ := hr1
      have HJ0 : Hid _ := hj0
      have HJ2 : Hid _ := hj2
      have HV : Hid _ := hv
      have HG : Hid _ := hg
      have HST2 : Hid _ := hst2
      have HSG : Hid _ := hsg
      have T := take_any B b s j st.length _ _ 124 wr hp.p hj2 HS.out
      have HF : Hid _ := hf
      obtain ⟨y, hy⟩ : ∃ y, cp r = y := ⟨_, rfl⟩
      rw [hy]
      have HY : Hid _ := hy
      clear hgm hr1 hj0 hj2 hv hp hf hy hg hst2 hsg
      go_wp2_with fail
      refine T.mono ?_
      clear T
      rintro e w2 ⟨rfl, p2, f2⟩
      have F2 : Hid _ := HF.out.trans f2
      by_cases h124 : pk s j = 124
      · rw [if_pos h124] at p2
        rw [show (pk s j == 124) = true by simpa using h124]
        have HV2 : Hid (V s ⟨i, o, frG, st⟩ = V s ⟨j + 1, o2, ⟨(r : Int), -1, -1⟩, st⟩) := HV.out.trans (V_bar h124 HG.out HST2.out)
        have HJ1 : Hid (j + 1 ≤ s.size) := pk_in (s := s) (i := j) (by rw [h124]; decide)
        have C := cat_any B b s HS.out (j + 1) o2 (r : Int) st w2 p2 HJ1.out (fun _ => .inr (by omega)) HST.out (HR.out.mono (by have := HJ0.out; omega))
        clear p2 f2 h124 HF
        go_wp2_with fail
        refine C.mono ?_
        clear C
        intro e w4 hr
        rcases hr with ⟨j4, o4, om4, gm4, r4, rfl, h1, h2, h3, h4, h5, h6, h7, h8, h9⟩ | ⟨c, p, rfl, hv, hf⟩
        · have HV4 : Hid _ := HV2.out.trans h4
          have HO4 : Hid (r4 < o4.length ∧ o2.length ≤ o4.length) := h1
          have HJ4 : Hid _ := h2
          have HJ5 : Hid _ := h3
          have HG4 : Hid _ := h5
          have HB4 : Hid _ := brn_more _ _ _ _ _ h6
          have HE4 : Hid _ := h7
          have P4 : Hid (IsM B b s j4 st.length o4 w4) := h8
          have F4 : Hid _ := F2.out.trans h9
          have A := addM_any B b s j4 st.length o4 4 (fun _ => false) (cp r) (cp r4) (zn 4 (r : Int) (r4 : Int)) _ P4.out (fun hl => by
            rw [cp_in (by have := HR1.out.1; have := HO4.out.2; omega), cp_in (by have := HO4.out.1; omega)]; rfl)
          rw [show ndV 4 (fun _ => false) (cp r) (cp r4) = .agg #[.int .i64 4, .int .u64 0, .int .u64 0, .int .u64 0, .int .u64 0, .int .i64 (cp r), .int .i64 (cp r4)] by simp only [ndV, wd_none]; rfl, HY.out] at A
          obtain ⟨z, hz⟩ : ∃ z, cp r4 = z := ⟨_, rfl⟩
          rw [hz] at A ⊢
          clear h1 h2 h3 h4 h5 h6 h7 h8 h9 hz
          go_wp2_with fail
          refine A.mono ?_
          clear A
          rintro e w5 ⟨rfl, p5, f5⟩
          have P5 : Hid _ := p5
          have F5 : Hid _ := F4.out.trans f5
          obtain ⟨u, hu⟩ : ∃ u, cp o4.length = u := ⟨_, rfl⟩
          rw [hu]
          have HU : Hid _ := hu
          clear p5 f5 hu
          go_wp2_with fail
          go_roundg (s.size - j4)
          case measure => have := HGM.out; have := HJ4.out; have := HJ5.out; omega
          case rel => exact ⟨j4, _, om4, gm4, o4.length, by rw [HU.out], rfl, ⟨by simp, by have := HR1.out.2; have := HO4.out.2; simp; omega⟩, by have := HJ0.out; have := HJ4.out; omega, HJ5.out, HV4.out, HG4.out, HB4.out, HE4.out, P5.out, F5.out⟩
        · have HV4 : Hid _ := HV2.out.trans hv
          have F4 : Hid _ := F2.out.trans hf
          clear hv hf
          go_wp2_with fail
          exact ⟨rfl, .inr ⟨c, p, rfl, HV4.out, F4.out⟩⟩
      · rw [if_neg h124] at p2
        rw [show (pk s j == 124) = false by simpa using h124]
        have HE : Hid (j = s.size ∨ pk s j = 41) := HSG.out.imp id (fun h => h.resolve_left h124)
        have P2 : Hid (IsM B b s j st.length o2 w2) := p2
        clear p2 f2 h124 HF
        go_wp2_with fail
        go_ret
        exact .inl ⟨j, o2, om, gm, r, by first | (rw [HY.out]; rfl) | rw [HY.out], HR1.out, HJ0.out, HJ2.out, HV.out, HG.out, HST2.out, HE.out, P2.out, F2.out⟩
  · have HV : Hid _ := hv
    have F2 : Hid _ := hf
    clear hv hf
    go_wp2_with fail
    exact ⟨rfl, .inr ⟨c, p, rfl, HV.out, F2.out⟩⟩
theorem rg_ok (B b : Nat) (s : ByteArray) (hs : s.size < 1000000000000000) : ∀ n k, s.size + 1 - k ≤ n → RgOk B b s k := by
  intro n
  induction n with
  | zero => intro k hk i o st w h1 h2; omega
  | succ n ih =>
    intro k hk i o st w h1 h2 h3 h4 h5
    exact regex_any B b s hs i o st w h3 h2 h4 h5 (ih (i + 1) (by omega))
/-- What whole answers. -/
def WRes (B b : Nat) (s : ByteArray) (w : World) (e : Ending) (w' : World) : Prop :=
  match V s ⟨0, [], frG, []⟩ with
  | .ok o => (∃ v, e = .returned v ∧ w'.ownsRow B 34 7 v o.length (ncs o)) ∧ o.length ≤ 128 ∧ FP B b w w'
  | .error (c, p) => e = flt c (p : Int) ∧ FP B b w w'
set_option maxRecDepth 100000 in
set_option maxHeartbeats 4000000 in
theorem whole_any (B b : Nat) (s : ByteArray) (hs : s.size < 1000000000000000) (w : World) (h : IsP B b s 0 0 [] false w) :
    Calls Tryd.prog 25 #[.pointer (some ⟨b, 0, none⟩)] w fun e w' => WRes B b s w e w' := by
  have R := rg_ok B b s hs _ 0 (Nat.le_refl _) 0 [] [] w (Nat.le_refl _) (Nat.zero_le _) h (fun _ => rfl) (by decide)
  clear h hs
  go_enter Tryd.func25, Tryd.ntmps25
  go_wp2_with fail
  refine R.mono ?_
  clear R
  intro e w1 hr
  rcases hr with ⟨j, o, om, gm, r, rfl, h1, h2, h3, h4, h5, h6, h7, h8, h9⟩ | ⟨c, p, rfl, hv, hf⟩
  · have hj := h3
    obtain ⟨d0, d1, d2, d4, df⟩ := h8.p.cells
    obtain ⟨y, hy⟩ : ∃ y, cp r = y := ⟨_, rfl⟩
    rw [hy]
    have F1 : Hid (FP B b w w1) := h9
    have P1 : Hid (IsM B b s j 0 o w1) := h8
    by_cases hlt : j < s.size
    · have hv : V s ⟨0, [], frG, []⟩ = .error (40, j) := h4.trans (V_stray (h7.resolve_left (by omega)))
      have HV : Hid _ := hv
      have t1 : decide (j < s.size) = true := by rw [decide_eq_true_eq]; exact hlt
      have t1' : decide ((j : Int) < (s.size : Int)) = true := by rw [decide_eq_true_eq]; omega
      clear h1 h2 h3 h4 h5 h6 h7 h8 h9 hv hlt hy hj
      go_wp2_with fail
      go_region
      go_wp2_with fail
      refine (giveUp_any 40 (j : Int) _).mono ?_
      rintro e w2 ⟨rfl, rfl⟩
      go_wp2_with fail
      refine ⟨rfl, ?_⟩
      unfold WRes
      rw [HV.out]
      exact ⟨rfl, F1.out.trans FP.dr⟩
    · have je : j = s.size := by omega
      have hv : V s ⟨0, [], frG, []⟩ = (if 128 < o.length then .error (42, 0) else .ok o) := by
        rw [h4, V_end hlt]
        unfold vfin
        dsimp only
        rw [if_neg (by simp; omega), h6]
      have HV : Hid _ := hv
      have t1 : decide (j < s.size) = false := by rw [decide_eq_false_iff_not]; exact hlt
      have t1' : decide ((j : Int) < (s.size : Int)) = false := by rw [decide_eq_false_iff_not]; omega
      clear h1 h2 h3 h4 h5 h6 h7 h8 h9 hv hlt hy hj
      by_cases hl : 128 < o.length
      · rw [show decide (128 < o.length) = true by rw [decide_eq_true_eq]; exact hl] at d4
        rw [if_pos hl] at HV
        clear je hl
        go_wp2_with fail
        go_region
        go_wp2_with fail
        refine (giveUp_any 42 0 _).mono ?_
        rintro e w2 ⟨rfl, rfl⟩
        go_wp2_with fail
        refine ⟨rfl, ?_⟩
        unfold WRes
        rw [HV.out]
        exact ⟨rfl, F1.out.trans FP.dr⟩
      · rw [show decide (128 < o.length) = false by rw [decide_eq_false_iff_not]; exact hl] at d4
        rw [if_neg hl] at HV
        have HL : Hid _ := hl
        obtain ⟨v, hv, ho⟩ := P1.out.p.h
        have d3 : w1.cell? ⟨b, 3, none⟩ = some v := by rw [Lib.cell_of_heap hv]; rfl
        have HO : Hid (w1.ownsRow B 34 7 v o.length (ncs o)) := by
          have e1 : o.take 128 = o := List.take_of_length_le (by omega)
          rw [e1] at ho
          exact ho
        clear je hl hv ho
        go_wp2_with fail
        go_region
        go_wp2_with fail
        go_ret
        unfold WRes
        rw [HV.out]
        exact ⟨⟨v, rfl, HO.out⟩, Nat.le_of_not_lt HL.out, F1.out.trans FP.dr⟩
  · have HV : Hid _ := hv
    have F2 : Hid _ := hf
    clear hv hf
    go_wp2_with fail
    refine ⟨rfl, ?_⟩
    unfold WRes
    rw [HV.out]
    exact ⟨rfl, F2.out⟩
end Go.Proofs.YtkjcnnecdclgfaaDoor
