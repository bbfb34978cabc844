import Derived.Test.YtkjljnneghnpiaaZdsc
namespace Go.Proofs.Ytkjljnneghnpiaa.Rg
open Go.RowKit
theorem pone_sign {s : ByteArray} {i : Nat} (h : pk s i = 41 ∨ pk s i = 124 ∨ pk s i = 42 ∨ pk s i = 43 ∨ pk s i = 63) : pone s i sgn = .error i := by
  unfold pone
  rcases h with h | h | h | h | h <;> (rw [h]; rfl)
theorem pone_end {s : ByteArray} {i : Nat} {nt : List UInt8} (h : ¬ i < s.size) : pone s i nt = .error i := by
  have : pk s i = 0 := by unfold pk; rw [if_neg h]
  unfold pone
  rw [this]
  rfl
theorem V_one {s : ByteArray} {i p : Nat} {o : List Nd} {a c : Int} {st : List Grp} (hi : i ≤ s.size) (h0 : pk s i ≠ 40) (h1 : pk s i ≠ 91) (h2 : pk s i ≠ 46) (hst : pk s i = 41 → st = [] ∨ 0 ≤ a ∨ 0 ≤ c) (hps : psets s i = none) (hp : pone s i sgn = .error p) : V s ⟨i, o, ⟨a, c, -1⟩, st⟩ = .error (40, p) := by
  by_cases hg : pk s i = 41 ∨ pk s i = 124 ∨ pk s i = 42 ∨ pk s i = 43 ∨ pk s i = 63
  · rw [pone_sign hg] at hp
    injection hp with hp
    rw [← hp]
    exact V_none hg hst
  · by_cases hlt : i < s.size
    · refine V_bad hlt h0 (by omega) ?_
      unfold atm
      rw [if_neg h1, if_neg h2, hps, hp]
    · rw [pone_end hlt] at hp
      injection hp with hp
      have : i = s.size := by omega
      rw [← hp, this]
      exact V_short (by omega) (.inr (by show (-1 : Int) < 0; decide))
theorem V_two {s : ByteArray} {i j v : Nat} {o : List Nd} {a c : Int} {st : List Grp} (h0 : pk s i ≠ 40) (h1 : pk s i ≠ 91) (h2 : pk s i ≠ 46) (hps : psets s i = none) (hp : pone s i sgn = .ok (v, j)) : V s ⟨i, o, ⟨a, c, -1⟩, st⟩ = V s ⟨j, o ++ [⟨1, fun b => decide (v ≤ b) && decide (b ≤ v), -1, -1⟩], ⟨a, c, (o.length : Int)⟩, st⟩ := by
  have hn := pone_next hp
  refine V_set (by omega) h0 ?_ ?_
  · by_cases hg : pk s i = 41 ∨ pk s i = 124 ∨ pk s i = 42 ∨ pk s i = 43 ∨ pk s i = 63
    · rw [pone_sign hg] at hp
      cases hp
    · omega
  · unfold atm
    rw [if_neg h1, if_neg h2, hps, hp]
theorem V_cls {s : ByteArray} {i j : Nat} {m : Nat → Bool} {o : List Nd} {a c : Int} {st : List Grp} (h : pk s i = 91) (hp : pclass s i = .ok (m, j)) : V s ⟨i, o, ⟨a, c, -1⟩, st⟩ = V s ⟨j, o ++ [⟨1, m, -1, -1⟩], ⟨a, c, (o.length : Int)⟩, st⟩ := by
  have hn := pclass_next hp
  refine V_set (by omega) (by omega) (by omega) ?_
  unfold atm
  rw [if_pos h, hp]
theorem V_clsbad {s : ByteArray} {i : Nat} {e : Int × Nat} {o : List Nd} {g : Grp} {st : List Grp} (h : pk s i = 91) (hp : pclass s i = .error e) : V s ⟨i, o, g, st⟩ = .error e := by
  refine V_bad (pk_in (by rw [h]; decide)) (by omega) (by omega) ?_
  unfold atm
  rw [if_pos h, hp]
theorem V_dot {s : ByteArray} {i : Nat} {o : List Nd} {a c : Int} {st : List Grp} (h : pk s i = 46) : V s ⟨i, o, ⟨a, c, -1⟩, st⟩ = V s ⟨i + 1, o ++ [⟨1, fun b => !(b == 10), -1, -1⟩], ⟨a, c, (o.length : Int)⟩, st⟩ := by
  refine V_set (pk_in (by rw [h]; decide)) (by omega) (by omega) ?_
  unfold atm
  rw [if_neg (by omega), if_pos h]
theorem V_psets {s : ByteArray} {i : Nat} {m : Nat → Bool} {o : List Nd} {a c : Int} {st : List Grp} (hp : psets s i = some m) : V s ⟨i, o, ⟨a, c, -1⟩, st⟩ = V s ⟨i + 2, o ++ [⟨1, m, -1, -1⟩], ⟨a, c, (o.length : Int)⟩, st⟩ := by
  have h := psets_next hp
  have h92 : pk s i = 92 := by
    unfold psets at hp
    split at hp
    · assumption
    · cases hp
  refine V_set (by omega) (by omega) (by omega) ?_
  unfold atm
  rw [if_neg (by omega), if_neg (by omega), hp]
set_option maxRecDepth 100000 in
set_option maxHeartbeats 4000000 in
theorem atom_any (B b : Nat) (s : ByteArray) (hs : s.size < 1000000000000000) (i : Nat) (o : List Nd) (alt cat : Int) (st : List Grp) (w : World) (h : IsM B b s i st.length o w) (hi : i ≤ s.size) (h41 : pk s i = 41 → st = [] ∨ 0 ≤ alt ∨ 0 ≤ cat) (hst : st.length ≤ 128) (hR : RgOk B b s (i + 1)) :
    Calls Try.prog 62 #[.pointer (some ⟨b, 0, none⟩)] w fun e w' => PRes B b s i ⟨i, o, ⟨alt, cat, -1⟩, st⟩ alt cat st w e w' := by
  have P := peek_any B b s i st.length _ _ w h.p hi
  have HI : Hid _ := hi
  have HS : Hid _ := hs
  have HR : Hid (RgOk B b s (i + 1)) := hR
  have H41 : Hid _ := h41
  have HST : Hid _ := hst
  have H : Hid (IsM B b s i st.length o w) := h
  obtain ⟨x, hx⟩ : ∃ x, pk s i = x := ⟨_, rfl⟩
  rw [hx] at P
  have HX : Hid _ := hx
  clear h hi hs hR h41 hst hx
  go_enter Try.func62, Try.ntmps62
  go_wp2_with fail
  refine P.mono ?_
  rintro e w1 ⟨rfl, hb1⟩
  have H1 : Hid (IsM B b s i st.length o w1) := H.out.mono hb1
  have F1 : Hid (FP B b w w1) := FP.of hb1 H.out.p.sz
  clear hb1 P H
  by_cases q40 : x = 40
  · have G := group_any B b s HS.out i o alt cat st w1 H1.out (by rw [HX.out]; exact q40) HST.out HR.out
    subst q40
    go_wp2_with fail
    refine G.mono ?_
    clear G
    intro e w2 hr
    rcases hr with ⟨j, o2, r, rfl, hr⟩ | ⟨c, p, rfl, hv, hf⟩
    · have HRR : Hid _ := hr
      obtain ⟨y, hy⟩ : ∃ y, cp r = y := ⟨_, rfl⟩
      rw [hy]
      have HY : Hid _ := hy
      clear hr hy
      go_wp2_with fail
      go_ret
      obtain ⟨r1, r2, r3, r4, r5, r6⟩ := HRR.out
      exact .inl ⟨j, o2, r, by first | (rw [HY.out]; rfl) | rw [HY.out], r1, r2, r3, r4, r5, F1.out.trans r6⟩
    · have HV : Hid _ := hv
      have F2 : Hid _ := F1.out.trans hf
      clear hv hf
      go_wp2_with fail
      exact ⟨rfl, .inr ⟨c, p, rfl, HV.out, F2.out⟩⟩
  · have n40 : ((x : Int) == 40) = false := by rw [beq_eq_false_iff_ne]; omega
    have H40 : Hid _ := q40
    clear q40
    by_cases q91 : x = 91
    · subst q91
      have C := class_any B b s i st.length _ _ w1 H1.out.p (pk_in (by rw [HX.out]; decide)) HS.out
      clear n40
      go_wp2_with fail
      refine C.mono ?_
      clear C
      intro e w2 hr
      unfold ClsRes at hr
      cases hc : pclass s i with
      | error ce =>
        obtain ⟨c, p⟩ := ce
        rw [hc] at hr
        obtain ⟨rfl, f2⟩ := hr
        have HV : Hid (V s ⟨i, o, ⟨alt, cat, -1⟩, st⟩ = .error (c, p)) := V_clsbad HX.out hc
        have F2 : Hid _ := F1.out.trans f2
        clear f2 hc
        go_wp2_with fail
        exact ⟨rfl, .inr ⟨c, p, rfl, HV.out, F2.out⟩⟩
      | ok mj =>
        obtain ⟨m, j⟩ := mj
        rw [hc] at hr
        obtain ⟨rfl, p2, f2, hj⟩ := hr
        have hn := pclass_next hc
        have HV : Hid _ := V_cls (o := o) (a := alt) (c := cat) (st := st) HX.out hc
        have A := addClass_any B b s j st.length o m w2 p2
        have F2 : Hid _ := F1.out.trans f2
        have HN : Hid _ := hn
        clear p2 f2 hj hc hn
        go_wp2_with fail
        refine A.mono ?_
        clear A
        rintro e w3 ⟨rfl, p3, f3⟩
        have P3 : Hid _ := p3
        have F3 : Hid _ := F2.out.trans f3
        obtain ⟨y, hy⟩ : ∃ y, cp o.length = y := ⟨_, rfl⟩
        rw [hy]
        have HY : Hid _ := hy
        clear p3 f3 hy
        go_wp2_with fail
        go_ret
        exact .inl ⟨j, _, o.length, by first | (rw [HY.out]; rfl) | rw [HY.out], ⟨by simp, by simp⟩, HN.out.1, HN.out.2, HV.out, P3.out, F3.out⟩
    · have n91 : ((x : Int) == 91) = false := by rw [beq_eq_false_iff_ne]; omega
      have H91 : Hid _ := q91
      clear q91
      by_cases q46 : x = 46
      · subst q46
        obtain ⟨d0, d1, d2, d4, df⟩ := H1.out.p.cells
        have HV : Hid _ := V_dot (o := o) (a := alt) (c := cat) (st := st) HX.out
        have HI1 : Hid (i + 1 ≤ s.size) := pk_in (s := s) (i := i) (by rw [HX.out]; decide)
        have hw := w64 i (by have := HS.out; have := HI.out; omega)
        have P2 : Hid (IsM B b s (i + 1) st.length o (w1.setCell ⟨b, 1, none⟩ (.int .i64 ((i + 1 : Nat) : Int)))) := H1.out.p.at_ (i + 1)
        have F2 : Hid _ := F1.out.trans (FP.set w1 1 (.int .i64 ((i + 1 : Nat) : Int)) H1.out.p.le)
        clear n40 n91
        go_wp2_with fail
        refine (dot_any _).mono ?_
        rintro e w2 ⟨rfl, hb2⟩
        have A := addClass_any B b s (i + 1) st.length o (fun b => !(b == 10)) w2 (P2.out.mono hb2)
        have F3 : Hid _ := F2.out.trans (FP.of hb2 P2.out.p.sz)
        obtain ⟨md, hmd⟩ : ∃ md : Nat → Bool, (fun b => !(b == 10)) = md := ⟨_, rfl⟩
        rw [hmd] at A HV ⊢
        clear hb2 d0 d1 d2 d4 df hw hmd
        go_wp2_with fail
        refine A.mono ?_
        clear A
        rintro e w3 ⟨rfl, p3, f3⟩
        have P3 : Hid _ := p3
        have F4 : Hid _ := F3.out.trans f3
        obtain ⟨y, hy⟩ : ∃ y, cp o.length = y := ⟨_, rfl⟩
        rw [hy]
        have HY : Hid _ := hy
        clear p3 f3 hy
        go_wp2_with fail
        go_ret
        exact .inl ⟨i + 1, _, o.length, by first | (rw [HY.out]; rfl) | rw [HY.out], ⟨by simp, by simp⟩, by omega, HI1.out, HV.out, P3.out, F4.out⟩
      · have n46 : ((x : Int) == 46) = false := by rw [beq_eq_false_iff_ne]; omega
        have H46 : Hid _ := q46
        clear q46
        have S := pset_any B b s i st.length _ _ w1 H1.out.p HI.out HS.out
        go_wp2_with fail
        refine S.mono ?_
        clear S n40 n91 n46
        intro e w2 hr
        unfold SetRes at hr
        cases hp : psets s i with
        | some m =>
          rw [hp] at hr
          obtain ⟨rfl, p2, f2, hj⟩ := hr
          have HV : Hid _ := V_psets (o := o) (a := alt) (c := cat) (st := st) hp
          have p3 : IsM B b s (i + 2) st.length o (w2.alloc (.cells #[.int .u64 (wd m 0 : Nat), .int .u64 (wd m 1 : Nat), .int .u64 (wd m 2 : Nat), .int .u64 (wd m 3 : Nat)] 40)) := IsM.mono p2 (bel_up _ _)
          have A := addClass_any B b s (i + 2) st.length o m _ p3
          have F2 : Hid (FP B b w (w2.alloc (.cells #[.int .u64 (wd m 0 : Nat), .int .u64 (wd m 1 : Nat), .int .u64 (wd m 2 : Nat), .int .u64 (wd m 3 : Nat)] 40))) := (F1.out.trans f2).trans (FP.of (bel_up _ _) p2.sz)
          obtain ⟨d0, d1, d2, d3, df⟩ := (AtC.new w2 m).box
          have HJ : Hid _ := hj
          clear p2 f2 hj hp p3
          go_wp2_with fail
          refine A.mono ?_
          clear A
          rintro e w3 ⟨rfl, p3, f3⟩
          have P3 : Hid _ := p3
          have F3 : Hid _ := F2.out.trans f3
          obtain ⟨y, hy⟩ : ∃ y, cp o.length = y := ⟨_, rfl⟩
          rw [hy]
          have HY : Hid _ := hy
          clear p3 f3 hy d0 d1 d2 d3 df
          go_wp2_with fail
          go_ret
          exact .inl ⟨i + 2, _, o.length, by first | (rw [HY.out]; rfl) | rw [HY.out], ⟨by simp, by simp⟩, by omega, HJ.out, HV.out, P3.out, F3.out⟩
        | none =>
          rw [hp] at hr
          obtain ⟨rfl, p2, f2⟩ := hr
          have P2 : Hid (IsP B b s i st.length (o.take 128) (decide (128 < o.length)) (w2.alloc (.cells #[.int .u64 (wd (fun _ => false) 0 : Nat), .int .u64 (wd (fun _ => false) 1 : Nat), .int .u64 (wd (fun _ => false) 2 : Nat), .int .u64 (wd (fun _ => false) 3 : Nat)] 40))) := p2.mono (bel_up _ _)
          have F2 : Hid (FP B b w (w2.alloc (.cells #[.int .u64 (wd (fun _ => false) 0 : Nat), .int .u64 (wd (fun _ => false) 1 : Nat), .int .u64 (wd (fun _ => false) 2 : Nat), .int .u64 (wd (fun _ => false) 3 : Nat)] 40))) := (F1.out.trans f2).trans (FP.of (bel_up _ _) p2.sz)
          have HP : Hid _ := hp
          clear p2 f2 hp
          have O := one_any B b s i st.length _ _ [92, 47, 124, 42, 43, 63, 40, 41, 91, 93, 46] _ P2.out HI.out HS.out
          go_wp2_with fail
          refine O.mono ?_
          clear O
          intro e w3 hr3
          unfold OneRes at hr3
          cases ho : pone s i [92, 47, 124, 42, 43, 63, 40, 41, 91, 93, 46] with
          | error p =>
            rw [ho] at hr3
            obtain ⟨rfl, f3⟩ := hr3
            have HV : Hid (V s ⟨i, o, ⟨alt, cat, -1⟩, st⟩ = .error (40, p)) := V_one HI.out (by rw [HX.out]; exact H40.out) (by rw [HX.out]; exact H91.out) (by rw [HX.out]; exact H46.out) H41.out HP.out ho
            have F3 : Hid _ := F2.out.trans f3
            clear f3 ho
            go_wp2_with fail
            exact ⟨rfl, .inr ⟨40, p, rfl, HV.out, F3.out⟩⟩
          | ok vj =>
            obtain ⟨v, j⟩ := vj
            rw [ho] at hr3
            obtain ⟨rfl, p3, f3, hj, hv⟩ := hr3
            have HV : Hid _ := V_two (o := o) (a := alt) (c := cat) (st := st) (by rw [HX.out]; exact H40.out) (by rw [HX.out]; exact H91.out) (by rw [HX.out]; exact H46.out) HP.out ho
            have HN : Hid _ := pone_next ho
            have P3 : Hid (IsM B b s j st.length o w3) := p3
            have F3 : Hid _ := F2.out.trans f3
            have S2 := span_any v v hv hv w3
            clear p3 f3 hj hv ho
            go_wp2_with fail
            refine S2.mono ?_
            clear S2
            rintro e w4 ⟨rfl, hb4⟩
            have A := addClass_any B b s j st.length o (fun b => decide (v ≤ b) && decide (b ≤ v)) w4 (P3.out.mono hb4)
            have F4 : Hid _ := F3.out.trans (FP.of hb4 P3.out.p.sz)
            obtain ⟨md, hmd⟩ : ∃ md : Nat → Bool, (fun b => decide (v ≤ b) && decide (b ≤ v)) = md := ⟨_, rfl⟩
            rw [hmd] at A HV ⊢
            clear hb4 hmd
            go_wp2_with fail
            refine A.mono ?_
            clear A
            rintro e w5 ⟨rfl, p5, f5⟩
            have P5 : Hid _ := p5
            have F5 : Hid _ := F4.out.trans f5
            obtain ⟨y, hy⟩ : ∃ y, cp o.length = y := ⟨_, rfl⟩
            rw [hy]
            have HY : Hid _ := hy
            clear p5 f5 hy
            go_wp2_with fail
            go_ret
            exact .inl ⟨j, _, o.length, by first | (rw [HY.out]; rfl) | rw [HY.out], ⟨by simp, by simp⟩, HN.out.1, HN.out.2, HV.out, P5.out, F5.out⟩
end Go.Proofs.Ytkjljnneghnpiaa.Rg
namespace Go.Proofs.Ytkjljnneghnpiaa.Rg
open Go.RowKit
/-- What a part with its signs answers. -/
def QRes (B b : Nat) (s : ByteArray) (i : Nat) (M : Mc) (alt cat : Int) (st : List Grp) (w : World) (e : Ending) (w' : World) : Prop :=
  (∃ (j : Nat) (o : List Nd) (r : Nat), e = .returned (.int .i64 (cp r)) ∧ (r < o.length ∧ M.out.length ≤ o.length) ∧ i < j ∧ j ≤ s.size ∧ V s M = V s ⟨j, o, ⟨alt, cat, (r : Int)⟩, st⟩ ∧ (pk s j ≠ 42 ∧ pk s j ≠ 43 ∧ pk s j ≠ 63) ∧ IsM B b s j st.length o w' ∧ FP B b w w') ∨
  (∃ (c : Int) (p : Nat), e = flt c (p : Int) ∧ V s M = .error (c, p) ∧ FP B b w w')
set_option maxRecDepth 100000 in
set_option maxHeartbeats 4000000 in
theorem post_any (B b : Nat) (s : ByteArray) (hs : s.size < 1000000000000000) (i : Nat) (o : List Nd) (alt cat : Int) (st : List Grp) (w : World) (h : IsM B b s i st.length o w) (hi : i ≤ s.size) (h41 : pk s i = 41 → st = [] ∨ 0 ≤ alt ∨ 0 ≤ cat) (hst : st.length ≤ 128) (hR : RgOk B b s (i + 1)) :
    Calls Try.prog 60 #[.pointer (some ⟨b, 0, none⟩)] w fun e w' => QRes B b s i ⟨i, o, ⟨alt, cat, -1⟩, st⟩ alt cat st w e w' := by
  have A := atom_any B b s hs i o alt cat st w h hi h41 hst hR
  have HS : Hid _ := hs
  clear h hi hs hR h41 hst
  go_enter Try.func60, Try.ntmps60
  go_wp2_with fail
  refine A.mono ?_
  clear A
  intro e w1 hr
  rcases hr with ⟨j0, o1, r0, rfl, hr⟩ | ⟨c, p, rfl, hv, hf⟩
  · have HRR : Hid _ := hr
    obtain ⟨y, hy⟩ : ∃ y, cp r0 = y := ⟨_, rfl⟩
    rw [hy]
    have HY : Hid _ := hy
    clear hr hy
    go_wp2_with fail
    go_loopg [3] (s.size - j0) (fun gh a wr => ∃ (j : Nat) (o2 : List Nd) (r : Nat), a = .int .i64 (cp r) ∧ gh = s.size - j ∧ (r < o2.length ∧ o.length ≤ o2.length) ∧ i < j ∧ j ≤ s.size ∧ V s ⟨i, o, ⟨alt, cat, -1⟩, st⟩ = V s ⟨j, o2, ⟨alt, cat, (r : Int)⟩, st⟩ ∧ IsM B b s j st.length o2 wr ∧ FP B b w wr)
    case atStart =>
      obtain ⟨r1, r2, r3, r4, r5, r6⟩ := HRR.out
      exact ⟨j0, o1, r0, by rw [HY.out], rfl, r1, r2, r3, r4, r5, r6⟩
    case round =>
      clear HRR HY
      obtain ⟨j, o2, r, rfl, hgm, hr1, hj0, hj2, hv, hp, hf⟩ := hrel
      have HGM : Hid _ := hgm
      have HR1 : Hid _ := hr1
      have HJ0 : Hid _ := hj0
      have HJ2 : Hid _ := hj2
      have HV : Hid _ := hv
      have HP : Hid (IsM B b s j st.length o2 wr) := hp
      have HF : Hid _ := hf
      have P := peek_any B b s j st.length _ _ wr hp.p hj2
      obtain ⟨x, hx⟩ : ∃ x, pk s j = x := ⟨_, rfl⟩
      rw [hx] at P
      have HX : Hid _ := hx
      obtain ⟨y, hy⟩ : ∃ y, cp r = y := ⟨_, rfl⟩
      rw [hy]
      have HY : Hid _ := hy
      clear hgm hr1 hj0 hj2 hv hp hf hx hy
      go_wp2_with fail
      refine P.mono ?_
      rintro e w2 ⟨rfl, hb2⟩
      have P1 : Hid (IsM B b s j st.length o2 w2) := HP.out.mono hb2
      have F1 : Hid (FP B b w w2) := HF.out.trans (FP.of hb2 HP.out.p.sz)
      clear hb2 P HP HF
      by_cases q42 : x = 42
      · subst q42
        have HV2 : Hid _ := HV.out.trans (V_sign (op := 5) (i := j) (o := o2) (a := alt) (c := cat) (r := r) (st := st) (.inl ⟨HX.out, rfl⟩))
        have HJ1 : Hid (j + 1 ≤ s.size) := pk_in (s := s) (i := j) (by rw [HX.out]; decide)
        obtain ⟨d0, d1, d2, d4, df⟩ := P1.out.p.cells
        have hw := w64 j (by have := HS.out; have := HJ2.out; omega)
        have P2 : Hid (IsM B b s (j + 1) st.length o2 (w2.setCell ⟨b, 1, none⟩ (.int .i64 ((j + 1 : Nat) : Int)))) := P1.out.p.at_ (j + 1)
        have F2 : Hid _ := F1.out.trans (FP.set w2 1 (.int .i64 ((j + 1 : Nat) : Int)) P1.out.p.le)
        have A := addM_any B b s (j + 1) st.length o2 5 (fun _ => false) (cp r) (-1) (zn 5 (r : Int) (-1)) _ P2.out (fun hl => by rw [cp_in (by have := HR1.out; omega)]; rfl)
        rw [show ndV 5 (fun _ => false) (cp r) (-1) = .agg #[.int .i64 5, .int .u64 0, .int .u64 0, .int .u64 0, .int .u64 0, .int .i64 (cp r), .int .i64 (-1)] by simp only [ndV, wd_none]; rfl, HY.out] at A
        go_wp2_with fail
        refine A.mono ?_
        clear A d0 d1 d2 d4 df hw
        rintro e w3 ⟨rfl, p3, f3⟩
        have P3 : Hid _ := p3
        have F3 : Hid _ := F2.out.trans f3
        obtain ⟨z, hz⟩ : ∃ z, cp o2.length = z := ⟨_, rfl⟩
        rw [hz]
        have HZ : Hid _ := hz
        clear p3 f3 hz
        go_wp2_with fail
        go_roundg (s.size - (j + 1))
        case measure => have := HGM.out; have := HJ1.out; omega
        case rel => exact ⟨j + 1, _, o2.length, by rw [HZ.out], rfl, ⟨by simp, by have := HR1.out; simp; omega⟩, by have := HJ0.out; omega, HJ1.out, HV2.out, P3.out, F3.out⟩
      · have n42 : ((x : Int) == 42) = false := by rw [beq_eq_false_iff_ne]; omega
        have H42 : Hid _ := q42
        clear q42
        by_cases q43 : x = 43
        · subst q43
          have HV2 : Hid _ := HV.out.trans (V_sign (op := 6) (i := j) (o := o2) (a := alt) (c := cat) (r := r) (st := st) (.inr (.inl ⟨HX.out, rfl⟩)))
          have HJ1 : Hid (j + 1 ≤ s.size) := pk_in (s := s) (i := j) (by rw [HX.out]; decide)
          obtain ⟨d0, d1, d2, d4, df⟩ := P1.out.p.cells
          have hw := w64 j (by have := HS.out; have := HJ2.out; omega)
          have P2 : Hid (IsM B b s (j + 1) st.length o2 (w2.setCell ⟨b, 1, none⟩ (.int .i64 ((j + 1 : Nat) : Int)))) := P1.out.p.at_ (j + 1)
          have F2 : Hid _ := F1.out.trans (FP.set w2 1 (.int .i64 ((j + 1 : Nat) : Int)) P1.out.p.le)
          have A := addM_any B b s (j + 1) st.length o2 6 (fun _ => false) (cp r) (-1) (zn 6 (r : Int) (-1)) _ P2.out (fun hl => by rw [cp_in (by have := HR1.out; omega)]; rfl)
          rw [show ndV 6 (fun _ => false) (cp r) (-1) = .agg #[.int .i64 6, .int .u64 0, .int .u64 0, .int .u64 0, .int .u64 0, .int .i64 (cp r), .int .i64 (-1)] by simp only [ndV, wd_none]; rfl, HY.out] at A
          go_wp2_with fail
          refine A.mono ?_
          clear A d0 d1 d2 d4 df hw
          rintro e w3 ⟨rfl, p3, f3⟩
          have P3 : Hid _ := p3
          have F3 : Hid _ := F2.out.trans f3
          obtain ⟨z, hz⟩ : ∃ z, cp o2.length = z := ⟨_, rfl⟩
          rw [hz]
          have HZ : Hid _ := hz
          clear p3 f3 hz
          go_wp2_with fail
          go_roundg (s.size - (j + 1))
          case measure => have := HGM.out; have := HJ1.out; omega
          case rel => exact ⟨j + 1, _, o2.length, by rw [HZ.out], rfl, ⟨by simp, by have := HR1.out; simp; omega⟩, by have := HJ0.out; omega, HJ1.out, HV2.out, P3.out, F3.out⟩
        · have n43 : ((x : Int) == 43) = false := by rw [beq_eq_false_iff_ne]; omega
          have H43 : Hid _ := q43
          clear q43
          by_cases q63 : x = 63
          · subst q63
            have HV2 : Hid _ := HV.out.trans (V_sign (op := 7) (i := j) (o := o2) (a := alt) (c := cat) (r := r) (st := st) (.inr (.inr ⟨HX.out, rfl⟩)))
            have HJ1 : Hid (j + 1 ≤ s.size) := pk_in (s := s) (i := j) (by rw [HX.out]; decide)
            obtain ⟨d0, d1, d2, d4, df⟩ := P1.out.p.cells
            have hw := w64 j (by have := HS.out; have := HJ2.out; omega)
            have P2 : Hid (IsM B b s (j + 1) st.length o2 (w2.setCell ⟨b, 1, none⟩ (.int .i64 ((j + 1 : Nat) : Int)))) := P1.out.p.at_ (j + 1)
            have F2 : Hid _ := F1.out.trans (FP.set w2 1 (.int .i64 ((j + 1 : Nat) : Int)) P1.out.p.le)
            have A := addM_any B b s (j + 1) st.length o2 7 (fun _ => false) (cp r) (-1) (zn 7 (r : Int) (-1)) _ P2.out (fun hl => by rw [cp_in (by have := HR1.out; omega)]; rfl)
            rw [show ndV 7 (fun _ => false) (cp r) (-1) = .agg #[.int .i64 7, .int .u64 0, .int .u64 0, .int .u64 0, .int .u64 0, .int .i64 (cp r), .int .i64 (-1)] by simp only [ndV, wd_none]; rfl, HY.out] at A
            go_wp2_with fail
            refine A.mono ?_
            clear A d0 d1 d2 d4 df hw
            rintro e w3 ⟨rfl, p3, f3⟩
            have P3 : Hid _ := p3
            have F3 : Hid _ := F2.out.trans f3
            obtain ⟨z, hz⟩ : ∃ z, cp o2.length = z := ⟨_, rfl⟩
            rw [hz]
            have HZ : Hid _ := hz
            clear p3 f3 hz
            go_wp2_with fail
            go_roundg (s.size - (j + 1))
            case measure => have := HGM.out; have := HJ1.out; omega
            case rel => exact ⟨j + 1, _, o2.length, by rw [HZ.out], rfl, ⟨by simp, by have := HR1.out; simp; omega⟩, by have := HJ0.out; omega, HJ1.out, HV2.out, P3.out, F3.out⟩
          · have n63 : ((x : Int) == 63) = false := by rw [beq_eq_false_iff_ne]; omega
            have H63 : Hid _ := q63
            clear q63
            go_wp2_with fail
            (try simp only [Exit.inBlock, Exit.then])
            go_ret
            exact .inl ⟨j, o2, r, by first | (rw [HY.out]; rfl) | rw [HY.out], HR1.out, HJ0.out, HJ2.out, HV.out, by rw [HX.out]; exact ⟨H42.out, H43.out, H63.out⟩, P1.out, F1.out⟩
  · have HV : Hid _ := hv
    have F2 : Hid _ := hf
    clear hv hf
    go_wp2_with fail
    exact ⟨rfl, .inr ⟨c, p, rfl, HV.out, F2.out⟩⟩
end Go.Proofs.Ytkjljnneghnpiaa.Rg
