import Derived.Test.YtkjljnneghnpiaaZmch
namespace Go.Proofs.Ytkjljnneghnpiaa.Rg
open Go.RowKit
theorem IsM.p {B b : Nat} {s : ByteArray} {i opn : Nat} {o : List Nd} {w : World} (h : IsM B b s i opn o w) : IsP B b s i opn (o.take 128) (decide (128 < o.length)) w := h
theorem IsM.mono {B b : Nat} {s : ByteArray} {i opn : Nat} {o : List Nd} {w w' : World} (h : IsM B b s i opn o w) (hb : Below w.heap.size w w') : IsM B b s i opn o w' := IsP.mono h hb
theorem IsP.op_ {B b : Nat} {s : ByteArray} {i opn : Nat} {nds : List Nd} {lg : Bool} {w : World} (h : IsP B b s i opn nds lg w) (j : Nat) : IsP B b s i j nds lg (w.setCell ⟨b, 2, none⟩ (.int .i64 (j : Int))) := by
  obtain ⟨v, hv, ho⟩ := h.h
  refine ⟨h.le, by simpa using h.sz, v, ?_, own_set ho hv (by decide)⟩
  simp [World.setCell, Array.getElem?_modify, hv]
theorem addClass_any (B b : Nat) (s : ByteArray) (i opn : Nat) (o : List Nd) (m : Nat → Bool) (w : World) (h : IsM B b s i opn o w) :
    Calls Try.prog 64 #[.pointer (some ⟨b, 0, none⟩), CV m] w fun e w' => e = .returned (.int .i64 (cp o.length)) ∧ IsM B b s i opn (o ++ [⟨1, m, -1, -1⟩]) w' ∧ FP B b w w' := by
  have h1 : IsM B b s i opn o (w.alloc (.cells #[.int .u64 (wd m 0 : Nat), .int .u64 (wd m 1 : Nat), .int .u64 (wd m 2 : Nat), .int .u64 (wd m 3 : Nat)] 40)) := h.mono (bel_up _ _)
  have A := addM_any B b s i opn o 1 m (-1) (-1) ⟨1, m, -1, -1⟩ _ h1 (fun _ => rfl)
  have F1 : Hid (FP B b w (w.alloc (.cells #[.int .u64 (wd m 0 : Nat), .int .u64 (wd m 1 : Nat), .int .u64 (wd m 2 : Nat), .int .u64 (wd m 3 : Nat)] 40))) := FP.of (bel_up _ _) h.p.sz
  obtain ⟨d0, d1, d2, d3, df⟩ := (AtC.new w m).box
  clear h h1
  go_enter Try.func64, Try.ntmps64
  go_wp2_with fail
  refine A.mono ?_
  rintro e w1 ⟨rfl, p1, f1⟩
  have P1 : Hid _ := p1
  have F2 : Hid _ := F1.out.trans f1
  clear p1 f1 A d0 d1 d2 d3 df
  obtain ⟨x, hx⟩ : ∃ x, cp o.length = x := ⟨_, rfl⟩
  rw [hx]
  have HX : Hid _ := hx
  clear hx
  go_wp2_with fail
  go_ret
  exact ⟨by first | (rw [HX.out]; rfl) | rw [HX.out], P1.out, F2.out⟩
/-- What a part answers. -/
def PRes (B b : Nat) (s : ByteArray) (i : Nat) (M : Mc) (alt cat : Int) (st : List Grp) (w : World) (e : Ending) (w' : World) : Prop :=
  (∃ (j : Nat) (o : List Nd) (r : Nat), e = .returned (.int .i64 (cp r)) ∧ (r < o.length ∧ M.out.length ≤ o.length) ∧ i < j ∧ j ≤ s.size ∧ V s M = V s ⟨j, o, ⟨alt, cat, (r : Int)⟩, st⟩ ∧ IsM B b s j st.length o w' ∧ FP B b w w') ∨
  (∃ (c : Int) (p : Nat), e = flt c (p : Int) ∧ V s M = .error (c, p) ∧ FP B b w w')
/-- What a regex answers. -/
def RRes (B b : Nat) (s : ByteArray) (i : Nat) (M : Mc) (st : List Grp) (w : World) (e : Ending) (w' : World) : Prop :=
  (∃ (j : Nat) (o om : List Nd) (gm : Grp) (r : Nat), e = .returned (.int .i64 (cp r)) ∧ (r < o.length ∧ M.out.length ≤ o.length) ∧ i < j ∧ j ≤ s.size ∧ V s M = V s ⟨j, om, gm, st⟩ ∧ 0 ≤ gm.part ∧ brn om gm = (o, ⟨(r : Int), -1, -1⟩) ∧ (j = s.size ∨ pk s j = 41) ∧ IsM B b s j st.length o w' ∧ FP B b w w') ∨
  (∃ (c : Int) (p : Nat), e = flt c (p : Int) ∧ V s M = .error (c, p) ∧ FP B b w w')
/-- Regexes are read from a place on. -/
def RgOk (B b : Nat) (s : ByteArray) (k : Nat) : Prop := ∀ (i : Nat) (o : List Nd) (st : List Grp) (w : World), k ≤ i → i ≤ s.size → IsM B b s i st.length o w → (pk s i = 41 → st = []) → st.length ≤ 128 →
  Calls Try.prog 54 #[.pointer (some ⟨b, 0, none⟩)] w fun e w' => RRes B b s i ⟨i, o, frG, st⟩ st w e w'
theorem RgOk.mono {B b : Nat} {s : ByteArray} {k k' : Nat} (h : RgOk B b s k) (hk : k ≤ k') : RgOk B b s k' := fun i o st w h1 => h i o st w (Nat.le_trans hk h1)
set_option maxRecDepth 100000 in
set_option maxHeartbeats 4000000 in
theorem group_any (B b : Nat) (s : ByteArray) (hs : s.size < 1000000000000000) (i : Nat) (o : List Nd) (alt cat : Int) (st : List Grp) (w : World) (h : IsM B b s i st.length o w) (hk : pk s i = 40) (hst : st.length ≤ 128) (hR : RgOk B b s (i + 1)) :
    Calls Try.prog 63 #[.pointer (some ⟨b, 0, none⟩)] w fun e w' => PRes B b s i ⟨i, o, ⟨alt, cat, -1⟩, st⟩ alt cat st w e w' := by
  obtain ⟨c0, c1, c2, c4, cf⟩ := h.p.cells
  have hi : i < s.size := pk_in (by rw [hk]; decide)
  have hw := w64 i (by omega)
  have HI : Hid _ := hi
  have HS : Hid _ := hs
  have HK : Hid _ := hk
  have HR : Hid _ := hR
  by_cases hd : st.length = 128
  · have hv : V s ⟨i, o, ⟨alt, cat, -1⟩, st⟩ = .error (42, i) := V_deep hk hd
    have HV : Hid _ := hv
    rw [hd] at c2
    clear h hk hst hR hi hs hd hv hw
    go_enter Try.func63, Try.ntmps63
    go_wp2_with fail
    refine (giveUp_any 42 (i : Int) _).mono ?_
    rintro e w2 ⟨rfl, rfl⟩
    go_wp2_with fail
    exact ⟨rfl, .inr ⟨42, i, rfl, HV.out, FP.refl _ _ _⟩⟩
  · have e128 : ((st.length : Int) == 128) = false := by rw [beq_eq_false_iff_ne]; omega
    have HV : Hid (V s ⟨i, o, ⟨alt, cat, -1⟩, st⟩ = V s ⟨i + 1, o, frG, ⟨alt, cat, -1⟩ :: st⟩) := V_open hk (by omega)
    have H1 : Hid (IsM B b s (i + 1) st.length o (w.setCell ⟨b, 1, none⟩ (.int .i64 ((i + 1 : Nat) : Int)))) := h.p.at_ (i + 1)
    have F1 : Hid (FP B b w (w.setCell ⟨b, 1, none⟩ (.int .i64 ((i + 1 : Nat) : Int)))) := FP.set _ _ _ h.p.le
    have HD : Hid (st.length < 128) := by have : st.length < 128 := by omega
                                          exact this
    obtain ⟨l, hl⟩ : ∃ l, st.length = l := ⟨_, rfl⟩
    have HL : Hid _ := hl
    rw [hl] at c2 e128 H1 HD
    clear h hk hst hR hi hs hd hl
    go_enter Try.func63, Try.ntmps63
    go_wp2_with fail
    have T := take_any B b s (i + 1) l _ _ 41 _ H1.out HI.out HS.out
    refine T.mono ?_
    clear T
    rintro e w1 ⟨rfl, p1, f1⟩
    have F2 : Hid _ := F1.out.trans f1
    by_cases h41 : pk s (i + 1) = 41
    · rw [if_pos h41] at p1
      have p1' : IsM B b s (i + 1 + 1) l o w1 := p1
      rw [show (pk s (i + 1) == 41) = true by simpa using h41]
      have hv2 : V s ⟨i + 1, o, frG, ⟨alt, cat, -1⟩ :: st⟩ = V s ⟨i + 1 + 1, o ++ [zn 2 (-1) (-1)], ⟨alt, cat, (o.length : Int)⟩, st⟩ := V_empty h41
      have HV2 : Hid _ := HV.out.trans hv2
      have HI2 : Hid (i + 1 + 1 ≤ s.size) := pk_in (s := s) (i := i + 1) (by rw [h41]; decide)
      have A := addM_any B b s (i + 1 + 1) l o 2 (fun _ => false) (-1) (-1) (zn 2 (-1) (-1)) _ p1' (fun _ => rfl)
      rw [show ndV 2 (fun _ => false) (-1) (-1) = .agg #[.int .i64 2, .int .u64 0, .int .u64 0, .int .u64 0, .int .u64 0, .int .i64 (-1), .int .i64 (-1)] by simp only [ndV, wd_none]; rfl] at A
      clear p1 p1' f1 h41 hv2 c0 c1 c2 c4 cf H1 F1 hw e128
      go_wp2_with fail
      refine A.mono ?_
      rintro e w2 ⟨rfl, p2, f2⟩
      have P2 : Hid _ := p2
      have F3 : Hid _ := F2.out.trans f2
      clear p2 f2 A
      obtain ⟨x, hx⟩ : ∃ x, cp o.length = x := ⟨_, rfl⟩
      rw [hx]
      have HX : Hid _ := hx
      clear hx
      go_wp2_with fail
      go_ret
      exact .inl ⟨i + 1 + 1, _, o.length, by first | (rw [HX.out]; rfl) | rw [HX.out], ⟨by simp, by simp⟩, by omega, HI2.out, HV2.out, by rw [HL.out]; exact P2.out, F3.out⟩
    · rw [if_neg h41] at p1
      have p1' : IsM B b s (i + 1) l o w1 := p1
      rw [show (pk s (i + 1) == 41) = false by simpa using h41]
      have N41 : Hid _ := h41
      obtain ⟨d0, d1, d2, d4, df⟩ := p1'.p.cells
      have hwl := w64 l (by have := HD.out; omega)
      have P2 : Hid (IsM B b s (i + 1) (l + 1) o (w1.setCell ⟨b, 2, none⟩ (.int .i64 ((l + 1 : Nat) : Int)))) := p1'.p.op_ (l + 1)
      have F3 : Hid _ := F2.out.trans (FP.set w1 2 (.int .i64 ((l + 1 : Nat) : Int)) p1.le)
      have HLE : Hid _ := p1.le
      clear p1 p1' f1 h41 c0 c1 c2 c4 cf H1 F1 hw e128
      go_wp2_with fail
      have R := HR.out (i + 1) o (⟨alt, cat, -1⟩ :: st) _ (Nat.le_refl _) HI.out (by rw [List.length_cons, HL.out]; exact P2.out) (fun h => absurd h N41.out) (by rw [List.length_cons, HL.out]; have := HD.out; omega)
      refine R.mono ?_
      clear R d0 d1 d2 d4 df hwl
      intro e w2 hr
      rcases hr with ⟨j, o2, om, gm, r, rfl, hr1, hj1, hj2, hv2, hp2, hb2, hend, p2, f2⟩ | ⟨c, p, rfl, hv2, f2⟩
      · rw [List.length_cons, HL.out] at p2
        have HJ1 : Hid _ := hj1
        have HJ2 : Hid _ := hj2
        have HR1 : Hid _ := hr1
        have HB2 : Hid _ := hb2
        have HP2 : Hid _ := hp2
        have HV2 : Hid _ := HV.out.trans hv2
        have HEND : Hid _ := hend
        have F4 : Hid _ := F3.out.trans f2
        obtain ⟨d0, d1, d2, d4, df⟩ := p2.p.cells
        obtain ⟨l1, hl1⟩ : ∃ l1, l + 1 = l1 := ⟨_, rfl⟩
        have hwl : wrap64 ((l1 : Int) - 1) = (l : Int) := by have := HD.out; rw [← hl1]; unfold wrap64; omega
        rw [hl1] at d2
        have P3 : Hid (IsM B b s j l o2 (w2.setCell ⟨b, 2, none⟩ (.int .i64 (l : Int)))) := p2.p.op_ l
        have F5 : Hid _ := F4.out.trans (FP.set w2 2 (.int .i64 (l : Int)) HLE.out)
        obtain ⟨x, hx⟩ : ∃ x, cp r = x := ⟨_, rfl⟩
        rw [hx]
        have HX : Hid _ := hx
        clear hx p2 f2 hj1 hj2 hr1 hb2 hp2 hv2 hend hl1
        go_wp2_with fail
        have T := take_any B b s j l _ _ 41 _ P3.out HJ2.out HS.out
        refine T.mono ?_
        clear T
        rintro e w3 ⟨rfl, p3, f3⟩
        have F6 : Hid _ := F5.out.trans f3
        by_cases hj : pk s j = 41
        · rw [if_pos hj] at p3
          rw [show (pk s j == 41) = true by simpa using hj]
          have P4 : Hid (IsM B b s (j + 1) l o2 w3) := p3
          have hv3 : V s ⟨j, om, gm, ⟨alt, cat, -1⟩ :: st⟩ = V s ⟨j + 1, o2, ⟨alt, cat, (r : Int)⟩, st⟩ := V_close hj HP2.out HB2.out
          have HV3 : Hid _ := HV2.out.trans hv3
          have HJ3 : Hid (j + 1 ≤ s.size) := pk_in (s := s) (i := j) (by rw [hj]; decide)
          clear p3 f3 hj hv3 d0 d1 d2 d4 df hwl
          go_wp2_with fail
          go_ret
          exact .inl ⟨j + 1, o2, r, by first | (rw [HX.out]; rfl) | rw [HX.out], HR1.out, by have := HJ1.out; omega, HJ3.out, HV3.out, by rw [HL.out]; exact P4.out, F6.out⟩
        · rw [if_neg hj] at p3
          rw [show (pk s j == 41) = false by simpa using hj]
          have je : j = s.size := HEND.out.resolve_right hj
          have hv3 : V s ⟨j, om, gm, ⟨alt, cat, -1⟩ :: st⟩ = .error (40, s.size) := V_short (by omega) (.inl (by simp))
          have HV3 : Hid _ := HV2.out.trans hv3
          have HJE : Hid _ := je
          clear d0 d1 d2 d4 df hwl
          obtain ⟨d0, d1, d2, d4, df⟩ := p3.cells
          clear p3 f3 hj hv3 je
          go_wp2_with fail
          refine (giveUp_any 40 (j : Int) _).mono ?_
          rintro e w4 ⟨rfl, rfl⟩
          go_wp2_with fail
          exact ⟨rfl, .inr ⟨40, s.size, by rw [← HJE.out], HV3.out, F6.out⟩⟩
      · have HV2 : Hid _ := HV.out.trans hv2
        have F4 : Hid _ := F3.out.trans f2
        clear hv2 f2
        go_wp2_with fail
        exact ⟨rfl, .inr ⟨c, p, rfl, HV2.out, F4.out⟩⟩
end Go.Proofs.Ytkjljnneghnpiaa.Rg
