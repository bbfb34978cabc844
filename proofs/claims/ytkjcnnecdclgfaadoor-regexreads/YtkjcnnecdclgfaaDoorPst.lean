import Derived.Test.YtkjcnnecdclgfaaDoorAtm
namespace Go.Proofs.YtkjcnnecdclgfaaDoor
open Go.RowKit
/-- What a part with its signs answers. -/
def QRes (B b : Nat) (s : ByteArray) (i : Nat) (M : Mc) (alt cat : Int) (st : List Grp) (w : World) (e : Ending) (w' : World) : Prop :=
  (∃ (j : Nat) (o : List Nd) (r : Nat), e = .returned (.int .i64 (cp r)) ∧ (r < o.length ∧ M.out.length ≤ o.length) ∧ i < j ∧ j ≤ s.size ∧ V s M = V s ⟨j, o, ⟨alt, cat, (r : Int)⟩, st⟩ ∧ (pk s j ≠ 42 ∧ pk s j ≠ 43 ∧ pk s j ≠ 63) ∧ IsM B b s j st.length o w' ∧ FP B b w w') ∨
  (∃ (c : Int) (p : Nat), e = flt c (p : Int) ∧ V s M = .error (c, p) ∧ FP B b w w')
set_option maxRecDepth 100000 in
set_option maxHeartbeats 4000000 in
theorem post_any (B b : Nat) (s : ByteArray) (hs : s.size < 1000000000000000) (i : Nat) (o : List Nd) (alt cat : Int) (st : List Grp) (w : World) (h : IsM B b s i st.length o w) (hi : i ≤ s.size) (h41 : pk s i = 41 → st = [] ∨ 0 ≤ alt ∨ 0 ≤ cat) (hst : st.length ≤ 128) (hR : RgOk B b s (i + 1)) :
    Calls Tryd.prog 67 #[.pointer (some ⟨b, 0, none⟩)] w fun e w' => QRes B b s i ⟨i, o, ⟨alt, cat, -1⟩, st⟩ alt cat st w e w' := by
  have A := atom_any B b s hs i o alt cat st w h hi h41 hst hR
  have HS : Hid _ := hs
  clear h hi hs hR h41 hst
  go_enter Tryd.func67, Tryd.ntmps67
  go_wp2_with fail
  refine A.mono ?_
  clear A
  intro e w1 hr
  rcases hr with ⟨j0, o1, r0, rfl, hr⟩ | ⟨c, p, rfl, hv, hf⟩
  · have HRR : Hid _ := hr
    obtain ⟨y, hy⟩ : ∃ y, cp r0 = y := ⟨_, rfl⟩
    rw [hy]
    have HY : Hid _ := hy
    clear hr hy
    go_wp2_with fail
    go_loopg [3] (s.size - j0) (fun gh a wr => ∃ (j : Nat) (o2 : List Nd) (r : Nat), a = .int .i64 (cp r) ∧ gh = s.size - j ∧ (r < o2.length ∧ o.length ≤ o2.length) ∧ i < j ∧ j ≤ s.size ∧ V s ⟨i, o, ⟨alt, cat, -1⟩, st⟩ = V s ⟨j, o2, ⟨alt, cat, (r : Int)⟩, st⟩ ∧ IsM B b s j st.length o2 wr ∧ FP B b w wr)
    case atStart =>
      obtain ⟨r1, r2, r3, r4, r5, r6⟩ := HRR.out
      exact ⟨j0, o1, r0, by rw [HY.out], rfl, r1, r2, r3, r4, r5, r6⟩
    case round =>
      clear HRR HY
      obtain ⟨j, o2, r, rfl, hgm, hr1, hj0, hj2, hv, hp, hf⟩ := hrel
      have HGM : Hid _ := hgm
      have HR1 : Hid _ := hr1
      have HJ0 : Hid _ := hj0
      have HJ2 : Hid _ := hj2
      have HV : Hid _ := hv
      have HP : Hid (IsM B b s j st.length o2 wr) := hp
      have HF : Hid _ := hf
      have P := peek_any B b s j st.length _ _ wr hp.p hj2
      obtain ⟨x, hx⟩ : ∃ x, pk s j = x := ⟨_, rfl⟩
      rw [hx] at P
      have HX : Hid _ := hx
      obtain ⟨y, hy⟩ : ∃ y, cp r = y := ⟨_, rfl⟩
      rw [hy]
      have HY : Hid _ := hy
      clear hgm hr1 hj0 hj2 hv hp hf hx hy
      go_wp2_with fail
      refine P.mono ?_
      rintro e w2 ⟨rfl, hb2⟩
      have P1 : Hid (IsM B b s j st.length o2 w2) := HP.out.mono hb2
      have F1 : Hid (FP B b w w2) := HF.out.trans (FP.of hb2 HP.out.p.sz)
      clear hb2 P HP HF
      by_cases q42 : x = 42
      · subst q42
        have HV2 : Hid _ := HV.out.trans (V_sign (op := 5) (i := j) (o := o2) (a := alt) (c := cat) (r := r) (st := st) (.inl ⟨HX.out, rfl⟩))
        have HJ1 : Hid (j + 1 ≤ s.size) := pk_in (s := s) (i := j) (by rw [HX.out]; decide)
        obtain ⟨d0, d1, d2, d4, df⟩ := P1.out.p.cells
        have hw := w64 j (by have := HS.out; have := HJ2.out; omega)
        have P2 : Hid (IsM B b s (j + 1) st.length o2 (w2.setCell ⟨b, 1, none⟩ (.int .i64 ((j + 1 : Nat) : Int)))) := P1.out.p.at_ (j + 1)
        have F2 : Hid _ := F1.out.trans (FP.set w2 1 (.int .i64 ((j + 1 : Nat) : Int)) P1.out.p.le)
        have A := addM_any B b s (j + 1) st.length o2 5 (fun _ => false) (cp r) (-1) (zn 5 (r : Int) (-1)) _ P2.out (fun hl => by rw [cp_in (by have := HR1.out; omega)]; rfl)
        rw [show ndV 5 (fun _ => false) (cp r) (-1) = .agg #[.int .i64 5, .int .u64 0, .int .u64 0, .int .u64 0, .int .u64 0, .int .i64 (cp r), .int .i64 (-1)] by simp only [ndV, wd_none]; rfl, HY.out] at A
        go_wp2_with fail
        refine A.mono ?_
        clear A d0 d1 d2 d4 df hw
        rintro e w3 ⟨rfl, p3, f3⟩
        have P3 : Hid _ := p3
        have F3 : Hid _ := F2.out.trans f3
        obtain ⟨z, hz⟩ : ∃ z, cp o2.length = z := ⟨_, rfl⟩
        rw [hz]
        have HZ : Hid _ := hz
        clear p3 f3 hz
        go_wp2_with fail
        go_roundg (s.size - (j + 1))
        case measure => have := HGM.out; have := HJ1.out; omega
        case rel => exact ⟨j + 1, _, o2.length, by rw [HZ.out], rfl, ⟨by simp, by have := HR1.out; simp; omega⟩, by have := HJ0.out; omega, HJ1.out, HV2.out, P3.out, F3.out⟩
      · have n42 : ((x : Int) == 42) = false := by rw [beq_eq_false_iff_ne]; omega
        have H42 : Hid _ := q42
        clear q42
        by_cases q43 : x = 43
        · subst q43
          have HV2 : Hid _ := HV.out.trans (V_sign (op := 6) (i := j) (o := o2) (a := alt) (c := cat) (r := r) (st := st) (.inr (.inl ⟨HX.out, rfl⟩)))
          have HJ1 : Hid (j + 1 ≤ s.size) := pk_in (s := s) (i := j) (by rw [HX.out]; decide)
          obtain ⟨d0, d1, d2, d4, df⟩ := P1.out.p.cells
          have hw := w64 j (by have := HS.out; have := HJ2.out; omega)
          have P2 : Hid (IsM B b s (j + 1) st.length o2 (w2.setCell ⟨b, 1, none⟩ (.int .i64 ((j + 1 : Nat) : Int)))) := P1.out.p.at_ (j + 1)
          have F2 : Hid _ := F1.out.trans (FP.set w2 1 (.int .i64 ((j + 1 : Nat) : Int)) P1.out.p.le)
          have A := addM_any B b s (j + 1) st.length o2 6 (fun _ => false) (cp r) (-1) (zn 6 (r : Int) (-1)) _ P2.out (fun hl => by rw [cp_in (by have := HR1.out; omega)]; rfl)
          rw [show ndV 6 (fun _ => false) (cp r) (-1) = .agg #[.int .i64 6, .int .u64 0, .int .u64 0, .int .u64 0, .int .u64 0, .int .i64 (cp r), .int .i64 (-1)] by simp only [ndV, wd_none]; rfl, HY.out] at A
          go_wp2_with fail
          refine A.mono ?_
          clear A d0 d1 d2 d4 df hw
          rintro e w3 ⟨rfl, p3, f3⟩
          have P3 : Hid _ := p3
          have F3 : Hid _ := F2.out.trans f3
          obtain ⟨z, hz⟩ : ∃ z, cp o2.length = z := ⟨_, rfl⟩
          rw [hz]
          have HZ : Hid _ := hz
          clear p3 f3 hz
          go_wp2_with fail
          go_roundg (s.size - (j + 1))
          case measure => have := HGM.out; have := HJ1.out; omega
          case rel => exact ⟨j + 1, _, o2.length, by rw [HZ.out], rfl, ⟨by simp, by have := HR1.out; simp; omega⟩, by have := HJ0.out; omega, HJ1.out, HV2.out, P3.out, F3.out⟩
        · have n43 : ((x : Int) == 43) = false := by rw [beq_eq_false_iff_ne]; omega
          have H43 : Hid _ := q43
          clear q43
          by_cases q63 : x = 63
          · subst q63
            have HV2 : Hid _ := HV.out.trans (V_sign (op := 7) (i := j) (o := o2) (a := alt) (c := cat) (r := r) (st := st) (.inr (.inr ⟨HX.out, rfl⟩)))
            have HJ1 : Hid (j + 1 ≤ s.size) := pk_in (s := s) (i := j) (by rw [HX.out]; decide)
            obtain ⟨d0, d1, d2, d4, df⟩ := P1.out.p.cells
            have hw := w64 j (by have := HS.out; have := HJ2.out; omega)
            have P2 : Hid (IsM B b s (j + 1) st.length o2 (w2.setCell ⟨b, 1, none⟩ (.int .i64 ((j + 1 : Nat) : Int)))) := P1.out.p.at_ (j + 1)
            have F2 : Hid _ := F1.out.trans (FP.set w2 1 (.int .i64 ((j + 1 : Nat) : Int)) P1.out.p.le)
            have A := addM_any B b s (j + 1) st.length o2 7 (fun _ => false) (cp r) (-1) (zn 7 (r : Int) (-1)) _ P2.out (fun hl => by rw [cp_in (by have := HR1.out; omega)]; rfl)
            rw [show ndV 7 (fun _ => false) (cp r) (-1) = .agg #[.int .i64 7, .int .u64 0, .int .u64 0, .int .u64 0, .int .u64 0, .int .i64 (cp r), .int .i64 (-1)] by simp only [ndV, wd_none]; rfl, HY.out] at A
            go_wp2_with fail
            refine A.mono ?_
            clear A d0 d1 d2 d4 df hw
            rintro e w3 ⟨rfl, p3, f3⟩
            have P3 : Hid _ := p3
            have F3 : Hid _ := F2.out.trans f3
            obtain ⟨z, hz⟩ : ∃ z, cp o2.length = z := ⟨_, rfl⟩
            rw [hz]
            have HZ : Hid _ := hz
            clear p3 f3 hz
            go_wp2_with fail
            go_roundg (s.size - (j + 1))
            case measure => have := HGM.out; have := HJ1.out; omega
            case rel => exact ⟨j + 1, _, o2.length, by rw [HZ.out], rfl, ⟨by simp, by have := HR1.out; simp; omega⟩, by have := HJ0.out; omega, HJ1.out, HV2.out, P3.out, F3.out⟩
          · have n63 : ((x : Int) == 63) = false := by rw [beq_eq_false_iff_ne]; omega
            have H63 : Hid _ := q63
            clear q63
            go_wp2_with fail
            (try simp only [Exit.inBlock, Exit.then])
            go_ret
            exact .inl ⟨j, o2, r, by first | (rw [HY.out]; rfl) | rw [HY.out], HR1.out, HJ0.out, HJ2.out, HV.out, by rw [HX.out]; exact ⟨H42.out, H43.out, H63.out⟩, P1.out, F1.out⟩
  · have HV : Hid _ := hv
    have F2 : Hid _ := hf
    clear hv hf
    go_wp2_with fail
    exact ⟨rfl, .inr ⟨c, p, rfl, HV.out, F2.out⟩⟩
end Go.Proofs.YtkjcnnecdclgfaaDoor
