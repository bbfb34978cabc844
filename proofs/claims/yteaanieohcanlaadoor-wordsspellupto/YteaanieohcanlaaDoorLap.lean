import Derived.Test.YteaanieohcanlaaDoorStd
namespace Go.Proofs.YteaanieohcanlaaDoor
open Go.RowKit Go.Maps

theorem st_place : ∀ (l : List UInt8) (m : Nat) (h : Int) (o : Nat) (a : List UInt8) (e : Nat), st m h l o a = .inl e → e ≤ o + l.length := by
  intro l
  induction l with
  | nil => intro m h o a e he; match m with
    | 0 => simp only [st, Sum.inl.injEq] at he; omega
    | m + 1 => simp only [st, Sum.inl.injEq] at he; omega
  | cons x t ih =>
    intro m h o a e he
    simp only [List.length_cons]
    match m with
    | 0 =>
      simp only [st] at he
      split at he
      · cases he
      · split at he
        · simp only [Sum.inl.injEq] at he; omega
        · split at he
          · have := ih _ _ _ _ _ he; omega
          · have := ih _ _ _ _ _ he; omega
    | 1 =>
      simp only [st] at he
      split at he
      · have := ih _ _ _ _ _ he; omega
      · split at he
        · simp only [Sum.inl.injEq] at he; omega
        · have := ih _ _ _ _ _ he; omega
    | 2 =>
      simp only [st] at he
      split at he
      · simp only [Sum.inl.injEq] at he; omega
      · have := ih _ _ _ _ _ he; omega
    | m + 3 =>
      simp only [st] at he
      split at he
      · simp only [Sum.inl.injEq] at he; omega
      · have := ih _ _ _ _ _ he; omega
theorem lx_place {l : List UInt8} {e o : Nat} (h : lx l = .inl (e, o)) : o ≤ l.length := by
  cases l with
  | nil => simp only [lx, Sum.inl.injEq, Prod.mk.injEq] at h; omega
  | cons x t =>
    simp only [lx] at h
    rw [List.length_cons]
    split at h
    · split at h
      · simp only [Sum.inl.injEq, Prod.mk.injEq] at h; omega
      · cases h
    · split at h
      · split at h
        · simp only [Sum.inl.injEq, Prod.mk.injEq] at h; omega
        · cases h
      · split at h
        · split at h
          · rename_i hst
            have := st_place _ _ _ _ _ _ hst
            simp only [Sum.inl.injEq, Prod.mk.injEq] at h; omega
          · cases h
        · split at h
          · split at h
            · simp only [Sum.inl.injEq, Prod.mk.injEq] at h; omega
            · cases h
          · split at h
            · cases h
            · simp only [Sum.inl.injEq, Prod.mk.injEq] at h; omega
theorem cut_place : ∀ (n : Nat) (l : List UInt8) (k : Nat) (c o : Nat), l.length ≤ n → cut k l = .inl (c, o) → o ≤ k + l.length := by
  intro n
  induction n with
  | zero =>
    intro l k c o hl h
    have : l = [] := List.length_eq_zero_iff.1 (by omega)
    subst this
    rw [cut_end k (by simp)] at h
    cases h
  | succ n ih =>
    intro l k c o hl h
    cases hm : l.drop (gp false l) with
    | nil =>
      rw [cut_end _ hm] at h
      cases h
    | cons x t =>
      have hlen : l.length - gp false l = t.length + 1 := by rw [← List.length_drop, hm]; rfl
      cases hx : lx (x :: t) with
      | inl e =>
        obtain ⟨e, o2⟩ := e
        have hp := lx_place hx
        rw [List.length_cons] at hp
        rw [cut_err _ hm (by simp) hx] at h
        injection h with h
        injection h with h1 h2
        omega
      | inr p =>
        obtain ⟨w, m⟩ := p
        have hp := lx_pos hx
        rw [cut_wrd _ hm hx] at h
        cases hc : cut (k + gp false l + m) ((x :: t).drop m) with
        | inl e =>
          rw [hc] at h
          simp only [cns] at h
          injection h with h
          subst h
          have h3 := ih _ _ _ _ (by rw [List.length_drop, List.length_cons]; omega) hc
          rw [List.length_drop] at h3
          have h4 := hp.2
          rw [List.length_cons] at h3 h4
          omega
        | inr us => rw [hc] at h; cases h
theorem cut_at : ∀ (n : Nat) (l : List UInt8) (k : Nat) (ws : List Wd), l.length ≤ n → cut k l = .inr ws → ∀ x ∈ ws, 0 ≤ x.a ∧ x.a ≤ ((k + l.length : Nat) : Int) := by
  intro n
  induction n with
  | zero =>
    intro l k ws hl h
    have : l = [] := List.length_eq_zero_iff.1 (by omega)
    subst this
    rw [cut_end k (by simp)] at h
    injection h with h
    subst h
    intro x hx
    cases hx
  | succ n ih =>
    intro l k ws hl h
    cases hm : l.drop (gp false l) with
    | nil =>
      rw [cut_end _ hm] at h
      injection h with h
      subst h
      intro x hx
      cases hx
    | cons x t =>
      have hlen : l.length - gp false l = t.length + 1 := by rw [← List.length_drop, hm]; rfl
      cases hx : lx (x :: t) with
      | inl e =>
        obtain ⟨e, o2⟩ := e
        rw [cut_err _ hm (by simp) hx] at h
        cases h
      | inr p =>
        obtain ⟨w, m⟩ := p
        have hp := lx_pos hx
        rw [cut_wrd _ hm hx] at h
        cases hc : cut (k + gp false l + m) ((x :: t).drop m) with
        | inl e => rw [hc] at h; cases h
        | inr us =>
          rw [hc] at h
          simp only [cns] at h
          injection h with h
          subst h
          intro y hy
          rcases List.mem_cons.1 hy with rfl | hy
          · simp only
            omega
          · have h3 := ih _ _ _ (by rw [List.length_drop, List.length_cons]; omega) hc y hy
            rw [List.length_drop, List.length_cons] at h3
            have h4 := hp.2
            rw [List.length_cons] at h4
            omega
theorem cutR_at {s : ByteArray} {ws : List Wd} (h : cutR s = .inr ws) : ∀ x ∈ ws, 0 ≤ x.a ∧ x.a ≤ 16384 := by
  unfold cutR at h
  by_cases hz : 16384 < s.size
  · rw [if_pos hz] at h; cases h
  · rw [if_neg hz] at h
    intro x hx
    have := cut_at _ _ _ _ (Nat.le_refl _) h x hx
    rw [lst_siz] at this
    omega
theorem row_off {B : Nat} {W : World} {v x : Value} {k : Nat} {l : List Wd} {o : Obj} (h : Wow B W v l) : Wow B ((W.alloc o).setCell ⟨W.heap.size, k, none⟩ x) v l :=
  (h.alloc o).kept grown_set (.inr fun e => by
    obtain ⟨_, c, hc⟩ := row_tag h _ e
    exact absurd (lt_of_heap hc) (Nat.lt_irrefl _))
theorem cutR_place {s : ByteArray} {c o : Nat} (h : cutR s = .inl (c, o)) (hz : s.size ≤ 16384) : o ≤ 16384 := by
  unfold cutR at h
  rw [if_neg (by omega)] at h
  have := cut_place _ _ _ _ _ (Nat.le_refl _) h
  rw [lst_siz] at this
  omega
/-- Two texts with a line end between them. -/
theorem cat_nl (s t : ByteArray) : (s ++ (⟨#[10]⟩ : ByteArray) ++ t).data.toList = s.data.toList ++ 10 :: t.data.toList := by
  simp
def shw (d : Nat) (x : Wd) : Wd := { x with a := x.a + d }
theorem apart_pure (s t : ByteArray) (h : s.size + t.size < 16384) : cutR (s ++ (⟨#[10]⟩ : ByteArray) ++ t) = match cutR s with
    | .inl e => .inl e
    | .inr ws => match cutR t with
      | .inl (c, o) => .inl (c, o + (s.size + 1))
      | .inr us => .inr (ws ++ us.map (shw (s.size + 1))) := by
  have hz : (s ++ (⟨#[10]⟩ : ByteArray) ++ t).size = s.size + 1 + t.size := by
    rw [← lst_siz, cat_nl, List.length_append, List.length_cons, lst_siz, lst_siz]
    omega
  unfold cutR
  rw [if_neg (by omega), if_neg (by omega), if_neg (by omega), cat_nl, cut_nl t.data.toList _ _ _ (Nat.le_refl _), lst_siz]
  cases cut 0 s.data.toList with
  | inl e => rfl
  | inr ws =>
    simp only
    have hs := cut_shift (s.size + 1) _ t.data.toList 0 (Nat.le_refl _)
    rw [← Nat.add_assoc] at hs
    rw [hs]
    cases cut 0 t.data.toList with
    | inl e =>
      obtain ⟨c, o⟩ := e
      rfl
    | inr us => rfl

set_option maxRecDepth 100000 in
set_option maxHeartbeats 8000000 in
theorem wordsApart_any (s t : ByteArray) (hs : s.size ≤ 140737488355328) (ht : t.size ≤ 140737488355328) (w : World) : Calls Tryd.prog 6 #[.string s, .string t] w fun e w' => e = .returned (.bool true) ∧ Below w.heap.size w w' := by
  obtain ⟨iE, hi3, hx0, hx1, hx2⟩ := info_parts infoW
  obtain ⟨m, hm⟩ : ∃ m, s.size + t.size = m := ⟨_, rfl⟩
  have hwm : IntKind.i64.wrap ((s.size : Int) + (t.size : Int)) = (m : Int) := by rw [IntKind.wrap_i64]; omega
  by_cases hb : 16384 ≤ m
  · have d1 : decide ((16384 : Int) ≤ (m : Int)) = true := by rw [decide_eq_true_eq]; omega
    have d2 : decide (16384 ≤ m) = true := by rw [decide_eq_true_eq]; omega
    clear hb hm hs ht
    go_enter Tryd.func6, Tryd.ntmps6
    go_wp2_with fail
    refine (started_any w).mono ?_
    rintro e w1 ⟨rfl, b1⟩
    have B1 : Hid (Below w.heap.size w w1) := b1
    clear b1
    go_wp2_with fail
    go_ret
    exact ⟨rfl, B1.out⟩
  · have d1 : decide ((16384 : Int) ≤ (m : Int)) = false := by rw [decide_eq_false_iff_not]; omega
    have d2 : decide (16384 ≤ m) = false := by rw [decide_eq_false_iff_not]; omega
    have hap := apart_pure s t (by omega)
    obtain ⟨U, hU⟩ : ∃ U, s ++ (⟨#[10]⟩ : ByteArray) ++ t = U := ⟨_, rfl⟩
    rw [hU] at hap
    have z1 : ¬ 9223372036854775807 < s.size + 1 := by omega
    have z2 : ¬ 9223372036854775807 < s.size + 1 + t.size := by omega
    have HSZ : Hid (s.size < 16384 ∧ t.size < 16384) := ⟨by omega, by omega⟩
    have HAP : Hid (cutR U = match cutR s with
    | .inl e => .inl e
    | .inr ws => match cutR t with
      | .inl (c, o) => .inl (c, o + (s.size + 1))
      | .inr us => .inr (ws ++ us.map (shw (s.size + 1)))) := hap
    clear hb hm hs ht hap
    go_enter Tryd.func6, Tryd.ntmps6
    go_wp2_with fail
    refine (started_any w).mono ?_
    rintro e w1 ⟨rfl, b1⟩
    have B1 : Hid (Below w.heap.size w w1) := b1
    clear b1
    go_wp2_with fail
    refine (wcut_any s w1).mono ?_
    rintro e w2 ⟨he, b2⟩
    obtain ⟨v1, rfl, h1⟩ := he.flat
    have H1 : Hid (Wow w1.heap.size w2 v1 (wl s)) := h1
    have B2 : Hid (Below w.heap.size w w2) := below_trans B1.out b2
    obtain ⟨a1, q1, hv1⟩ := row_shape h1
    subst hv1
    clear he h1 b2
    go_wp2_with fail
    refine (wcut_any t w2).mono ?_
    rintro e w3 ⟨he, b3⟩
    obtain ⟨v2, rfl, h2⟩ := he.flat
    have H2 : Hid (Wow w2.heap.size w3 v2 (wl t)) := h2
    have B3 : Hid (Below w.heap.size w w3) := below_trans B2.out b3
    have H13 : Hid (Wow w1.heap.size w3 (.slice a1 (wl s).length q1) (wl s)) := row_up H1.out b3
    obtain ⟨a2, q2, hv2⟩ := row_shape h2
    subst hv2
    clear he h2 b3
    go_wp2_with fail
    refine (wcut_any U w3).mono ?_
    rintro e w4 ⟨he, b4⟩
    obtain ⟨v3, rfl, h3⟩ := he.flat
    have H3 : Hid (Wow w3.heap.size w4 v3 (wl U)) := h3
    have B4 : Hid (Below w.heap.size w w4) := below_trans B3.out b4
    have H14 : Hid (Wow w1.heap.size w4 (.slice a1 (wl s).length q1) (wl s)) := row_up H13.out b4
    have H24 : Hid (Wow w2.heap.size w4 (.slice a2 (wl t).length q2) (wl t)) := row_up H2.out b4
    clear he h3 b4 hwm d1 d2 z1 z2 hU
    have hap := HAP.out
    cases hcs : cutR s with
    | inl p =>
      obtain ⟨c, o⟩ := p
      rw [hcs] at hap
      have hc0 := cutR_code hcs
      have e1 : cc s = (c : Int) := by unfold cc; rw [hcs]
      have e2 : oo s = (o : Int) := by unfold oo; rw [hcs]
      have e3 : cc U = (c : Int) := by unfold cc; rw [hap]
      have e4 : oo U = (o : Int) := by unfold oo; rw [hap]
      have e5 : wl U = [] := by unfold wl; rw [hap]
      rw [e1, e2, e3, e4]
      rw [e5] at H3
      obtain ⟨a3, q3, hv3⟩ := row_shape H3.out
      subst hv3
      have n1 : ((c : Int) != 0) = true := by simpa using hc0
      have n2 : (c != 0) = true := by simpa using hc0
      clear hcs hap hc0 e1 e2 e3 e4 e5 HAP
      go_wp2_with fail
      go_ret
      exact ⟨rfl, B4.out⟩
    | inr ws =>
      rw [hcs] at hap
      have e1 : cc s = 0 := by unfold cc; rw [hcs]
      have e6 : wl s = ws := by unfold wl; rw [hcs]
      cases hct : cutR t with
      | inl p =>
        obtain ⟨c, o⟩ := p
        rw [hct] at hap
        have hc0 := cutR_code hct
        have hpl := cutR_place hct (by have := HSZ.out; omega)
        have e2 : cc t = (c : Int) := by unfold cc; rw [hct]
        have e3 : oo t = (o : Int) := by unfold oo; rw [hct]
        have e4 : cc U = (c : Int) := by unfold cc; rw [hap]
        obtain ⟨o1, ho1⟩ : ∃ o1, o + s.size = o1 := ⟨_, rfl⟩
        obtain ⟨o2, ho2⟩ : ∃ o2, o1 + 1 = o2 := ⟨_, rfl⟩
        have e5 : oo U = (o2 : Int) := by unfold oo; rw [hap]; simp only; omega
        have e7 : wl U = [] := by unfold wl; rw [hap]
        rw [e1, e2, e3, e4, e5]
        rw [e7] at H3
        obtain ⟨a3, q3, hv3⟩ := row_shape H3.out
        subst hv3
        have n1 : ((c : Int) != 0) = true := by simpa using hc0
        have n2 : (c != 0) = true := by simpa using hc0
        have k1 : IntKind.i64.wrap ((o : Int) + (s.size : Int)) = (o1 : Int) := by have := HSZ.out; rw [IntKind.wrap_i64]; omega
        have k2 : IntKind.i64.wrap ((o1 : Int) + 1) = (o2 : Int) := by have := HSZ.out; rw [IntKind.wrap_i64]; omega
        clear hcs hct hap hc0 e1 e2 e3 e4 e5 e6 e7 HAP hpl ho1 ho2
        go_wp2_with fail
        go_ret
        exact ⟨rfl, B4.out⟩
      | inr us =>
        rw [hct] at hap
        have e2 : cc t = 0 := by unfold cc; rw [hct]
        have e3 : cc U = 0 := by unfold cc; rw [hap]
        have e7 : wl t = us := by unfold wl; rw [hct]
        have e8 : wl U = ws ++ us.map (shw (s.size + 1)) := by unfold wl; rw [hap]
        have hl1 := wl_len s
        have hl2 := wl_len t
        rw [e1, e2, e3]
        rw [e6] at H14 hl1 ⊢
        rw [e7] at H24 hl2 ⊢
        rw [e8] at H3
        obtain ⟨a3, q3, hv3⟩ := row_shape H3.out
        subst hv3
        have hat := cutR_at hct
        have HAT : Hid (∀ x ∈ us, 0 ≤ x.a ∧ x.a ≤ 16384) := hat
        have HL1 : Hid (ws.length ≤ 16384) := hl1
        have HL2 : Hid (us.length ≤ 16384) := hl2
        clear hcs hct hap e1 e2 e3 e6 e7 e8 HAP hl1 hl2 hat H1 H2 H13
        obtain ⟨N, hN⟩ : ∃ N, (ws ++ us.map (shw (s.size + 1))).length = N := ⟨_, rfl⟩
        have HNN : Hid (N ≤ 32768) := by
          have h1 := HL1.out
          have h2 := HL2.out
          rw [← hN]
          show (ws ++ us.map (shw (s.size + 1))).length ≤ _
          rw [List.length_append, List.length_map]
          omega
        have HU : Hid (Rw w4 (.slice a3 N q3) (ws ++ us.map (shw (s.size + 1))).length (wC (ws ++ us.map (shw (s.size + 1))))) := by
          have h := row_rw H3.out
          rw [← hN]
          exact h
        have HEN : Hid ((ws ++ us.map (shw (s.size + 1))).length = N) := hN
        rw [hN]
        clear hN
        obtain ⟨aa, ga, oa, ca, ea, _, _, sa, ha⟩ := row_rw H14.out
        obtain ⟨ab, gb, ob, cb, eb, _, _, sb, hbb⟩ := row_rw H24.out
        obtain ⟨rfl, -, rfl⟩ := Value.slice.inj ea
        obtain ⟨rfl, -, rfl⟩ := Value.slice.inj eb
        have HSA : Hid (0 < ws.length → a1 = some ⟨ga, oa, none⟩) := sa
        have HSB : Hid (0 < us.length → a2 = some ⟨gb, ob, none⟩) := sb
        have HCA : Hid (∀ j u, (wC ws)[j]? = some u → w4.cell? ⟨ga, oa + j, none⟩ = some u) := ha
        have HCB : Hid (∀ j u, (wC us)[j]? = some u → w4.cell? ⟨gb, ob + j, none⟩ = some u) := hbb
        clear ea eb sa sb ha hbb
        go_wp2_with fail
        go_loopg [14, 15] ws.length (fun gm v14 v15 wr => ∃ i : Nat, v15 = .int .i64 (i : Int) ∧ Hid (i ≤ ws.length ∧ gm = ws.length - i) ∧ Hid (Wow w4.heap.size wr v14 (ws.take i)) ∧ Hid (Below w4.heap.size w4 wr))
        case atStart => exact ⟨0, rfl, ⟨Nat.zero_le _, rfl⟩, World.ownsRow_nil _ _ _ _, Below.refl _ _⟩
        case round =>
          obtain ⟨i, rfl, HI, HV, HB⟩ := hrel
          obtain ⟨l, hl⟩ : ∃ l, ws.take i = l := ⟨_, rfl⟩
          have HLE : Hid (ws.take i = l) := hl
          have HLN : Hid (l.length ≤ 16384) := by
            have h1 := HL1.out
            rw [← hl]
            show (ws.take i).length ≤ _
            rw [List.length_take]
            omega
          rw [hl] at HV
          clear hl
          obtain ⟨ra, rc, hrv⟩ := row_shape HV.out
          subst hrv
          by_cases hi : i < ws.length
          · have f1 : decide ((i : Int) < (ws.length : Int)) = true := by rw [decide_eq_true_eq]; omega
            have f2 : decide (i < ws.length) = true := by rw [decide_eq_true_eq]; omega
            have f3 : (i : Int) < (ws.length : Int) := by omega
            have r1 := HSA.out (by omega)
            subst r1
            have HIL : Hid (i < ws.length) := hi
            obtain ⟨p0, p1, p2, p3⟩ := wC_get ws i hi
            have t0 := below_cell HB.out (HCA.out _ _ p0)
            have t1 := below_cell HB.out (HCA.out _ _ p1)
            have t2 := below_cell HB.out (HCA.out _ _ p2)
            have t3 := below_cell HB.out (HCA.out _ _ p3)
            rw [← Nat.add_assoc] at t1 t2 t3
            have HTS : Hid (ws.take (i + 1) = l ++ [ws.getD i w0]) := by rw [take_snoc_wd ws i hi, HLE.out]; exact rfl
            obtain ⟨x, hx⟩ : ∃ x, ws.getD i w0 = x := ⟨_, rfl⟩
            rw [hx] at t0 t1 t2 t3 HTS
            have hwi := w64n i (by have := HL1.out; omega)
            have HROW : Hid ((wr.alloc (.cells #[.int .i64 x.k, .string ⟨x.t.toArray⟩, .int .i64 x.n, .int .i64 x.a] 32)).ownsRow w4.heap.size 32 4 (.slice ra l.length rc) l.length (wC l)) := HV.out.alloc _
            clear hi p0 p1 p2 p3 hx
            go_wp2_with (at_builtin; refine wpList_append_own_at _ rfl _ _ 23 rfl w4.heap.size 32 iE _ 4 40 Tryd.underlying23 hi3 hx0 hx1 hx2 rfl (by decide) _ _ _ rfl HROW.out ⟨wr.heap.size, 0, none⟩ 1 1 [.int .i64 x.k, .string ⟨x.t.toArray⟩, .int .i64 x.n, .int .i64 x.a] rfl rfl (cell_four_new _ _ _ _ _ _) (by simp [Value.oneCell']) (by have := HLN.out; unfold maxLen; omega) (by have := HLN.out; omega) (by have h9 := HB.out.size; rw [World.size_alloc]; omega) ?_; intro v7 w7 ho7 hg7 _ ha7; have HO7 : Hid (Wow w4.heap.size w7 v7 (l ++ [x])) := wow_app (x := x) ho7; have HG7 : Hid (wr.grownBy w7 (Value.ownBlock (.slice ra l.length rc))) := (World.grownBy_alloc _ _ _).trans hg7; obtain ⟨qa, qc, rfl⟩ := row_shape ho7; clear ho7 hg7 ha7)
            go_roundg (ws.length - (i + 1))
            case measure => have := HI.out; have := HIL.out; omega
            case rel => exact ⟨i + 1, by simp, ⟨HIL.out, rfl⟩, by rw [HTS.out]; exact HO7, HB.out.trans ((Below.refl _ _).grown HG7.out HB.out.size (fun r e => (row_tag HV.out r e).1))⟩
          · have f1 : decide ((i : Int) < (ws.length : Int)) = false := by rw [decide_eq_false_iff_not]; omega
            have f2 : decide (i < ws.length) = false := by rw [decide_eq_false_iff_not]; omega
            have HLW : Hid (l = ws) := by rw [← HLE.out, List.take_of_length_le (by omega)]; exact rfl
            clear hi
            go_wp2_with fail
            clear f1 f2
            go_loopg [14, 16] us.length (fun gm v14 v16 wr2 => ∃ j : Nat, v16 = .int .i64 (j : Int) ∧ Hid (j ≤ us.length ∧ gm = us.length - j) ∧ Hid (Wow w4.heap.size wr2 v14 (ws ++ (us.take j).map (shw (s.size + 1)))) ∧ Hid (Below w4.heap.size w4 wr2))
            case atStart => exact ⟨0, rfl, ⟨Nat.zero_le _, rfl⟩, by rw [List.take_zero, List.map_nil, List.append_nil, ← HLW.out]; exact HV, HB⟩
            case round =>
              clear HV HB HLN HLE HI
              obtain ⟨j, rfl, HI, HV, HB⟩ := hrel
              obtain ⟨y, hy⟩ : ∃ y, ws ++ (us.take j).map (shw (s.size + 1)) = y := ⟨_, rfl⟩
              have HLE : Hid (ws ++ (us.take j).map (shw (s.size + 1)) = y) := hy
              have HLN : Hid (y.length ≤ 32768) := by
                have h1 := HL1.out
                have h2 := HL2.out
                rw [← hy]
                show (ws ++ (us.take j).map (shw (s.size + 1))).length ≤ _
                rw [List.length_append, List.length_map, List.length_take]
                omega
              rw [hy] at HV
              clear hy
              obtain ⟨rb, rd', hrv⟩ := row_shape HV.out
              subst hrv
              by_cases hj : j < us.length
              · have f1 : decide ((j : Int) < (us.length : Int)) = true := by rw [decide_eq_true_eq]; omega
                have f2 : decide (j < us.length) = true := by rw [decide_eq_true_eq]; omega
                have f3 : (j : Int) < (us.length : Int) := by omega
                have r1 := HSB.out (by omega)
                subst r1
                have HIL : Hid (j < us.length) := hj
                obtain ⟨p0, p1, p2, p3⟩ := wC_get us j hj
                have t0 := below_cell HB.out (HCB.out _ _ p0)
                have t1 := below_cell HB.out (HCB.out _ _ p1)
                have t2 := below_cell HB.out (HCB.out _ _ p2)
                have t3 := below_cell HB.out (HCB.out _ _ p3)
                rw [← Nat.add_assoc] at t1 t2 t3
                have HTS : Hid (ws ++ (us.take (j + 1)).map (shw (s.size + 1)) = y ++ [shw (s.size + 1) (us.getD j w0)]) := by rw [take_snoc_wd us j hj, List.map_append, ← List.append_assoc, HLE.out]; exact rfl
                have hmem : us.getD j w0 ∈ us := by rw [List.getD_eq_getElem?_getD, List.getElem?_eq_getElem hj]; exact List.getElem_mem hj
                have hxa := HAT.out _ hmem
                obtain ⟨x, hx⟩ : ∃ x, us.getD j w0 = x := ⟨_, rfl⟩
                rw [hx] at t0 t1 t2 t3 HTS hxa
                obtain ⟨A1, hA1⟩ : ∃ A1, x.a + (s.size : Int) = A1 := ⟨_, rfl⟩
                obtain ⟨A2, hA2⟩ : ∃ A2, A1 + 1 = A2 := ⟨_, rfl⟩
                have k1 : IntKind.i64.wrap (x.a + (s.size : Int)) = A1 := by have := HSZ.out; rw [IntKind.wrap_i64]; omega
                have k2 : IntKind.i64.wrap (A1 + 1) = A2 := by have := HSZ.out; rw [IntKind.wrap_i64]; omega
                have HSH : Hid (shw (s.size + 1) x = ⟨x.k, x.t, x.n, A2⟩) := by
                  have e : x.a + ((s.size + 1 : Nat) : Int) = A2 := by omega
                  show (⟨x.k, x.t, x.n, x.a + ((s.size + 1 : Nat) : Int)⟩ : Wd) = _
                  rw [e]
                have hwj := w64n j (by have := HL2.out; omega)
                obtain ⟨W1, hW1⟩ : ∃ W1, W1 = wr.alloc (.cells #[.int .i64 x.k, .string ⟨x.t.toArray⟩, .int .i64 x.n, .int .i64 x.a] 32) := ⟨_, rfl⟩
                have HW1 : Hid (W1 = wr.alloc (.cells #[.int .i64 x.k, .string ⟨x.t.toArray⟩, .int .i64 x.n, .int .i64 x.a] 32)) := hW1
                have hb1 := heap_new wr (.cells #[.int .i64 x.k, .string ⟨x.t.toArray⟩, .int .i64 x.n, .int .i64 x.a] 32)
                rw [← hW1] at hb1
                have u3 : W1.cell? ⟨wr.heap.size, 3, none⟩ = some (.int .i64 x.a) := by rw [Lib.cell_of_heap hb1]; rfl
                have uf := Lib.frozen_of_heap hb1 3
                obtain ⟨W2, hW2⟩ : ∃ W2, W2 = W1.setCell ⟨wr.heap.size, 3, none⟩ (.int .i64 A2) := ⟨_, rfl⟩
                have HW2 : Hid (W2 = W1.setCell ⟨wr.heap.size, 3, none⟩ (.int .i64 A2)) := hW2
                have hb2 := blk_set (k := 3) (.int .i64 A2) hb1
                rw [← hW2] at hb2
                have y0 : W2.cell? ⟨wr.heap.size, 0, none⟩ = some (.int .i64 x.k) := by rw [Lib.cell_of_heap hb2]; rfl
                have y1 : W2.cell? ⟨wr.heap.size, 1, none⟩ = some (.string ⟨x.t.toArray⟩) := by rw [Lib.cell_of_heap hb2]; rfl
                have y2 : W2.cell? ⟨wr.heap.size, 2, none⟩ = some (.int .i64 x.n) := by rw [Lib.cell_of_heap hb2]; rfl
                have y3 : W2.cell? ⟨wr.heap.size, 3, none⟩ = some (.int .i64 A2) := by rw [Lib.cell_of_heap hb2]; rfl
                have HV2 : Hid (Wow w4.heap.size W2 (.slice rb y.length rd') y) := by rw [hW2, hW1]; exact row_off HV.out
                have HB2 : Hid (Below w4.heap.size w4 W2) := by
                  rw [hW2, hW1]
                  exact (HB.out.trans ((bel_up _ _).mono HB.out.size)).setCell HB.out.size _
                have HROW : Hid ((W2.alloc (.cells #[.int .i64 x.k, .string ⟨x.t.toArray⟩, .int .i64 x.n, .int .i64 A2] 32)).ownsRow w4.heap.size 32 4 (.slice rb y.length rd') y.length (wC y)) := HV2.out.alloc _
                clear hj p0 p1 p2 p3 hx hmem hxa hA1 hA2 hW1 hW2 hb1 hb2
                go_upto_region 21 with fail
                rw [← HW1.out]
                clear t0 t1 t2 t3
                go_upto_region 22 with fail
                rw [← HW2.out]
                go_wp2_with (at_builtin; refine wpList_append_own_at _ rfl _ _ 23 rfl w4.heap.size 32 iE _ 4 40 Tryd.underlying23 hi3 hx0 hx1 hx2 rfl (by decide) _ _ _ rfl HROW.out ⟨W2.heap.size, 0, none⟩ 1 1 [.int .i64 x.k, .string ⟨x.t.toArray⟩, .int .i64 x.n, .int .i64 A2] rfl rfl (cell_four_new _ _ _ _ _ _) (by simp [Value.oneCell']) (by have := HLN.out; unfold maxLen; omega) (by have := HLN.out; omega) (by have h9 := HB2.out.size; rw [World.size_alloc]; omega) ?_; intro v7 w7 ho7 hg7 _ ha7; have HO7 : Hid (Wow w4.heap.size w7 v7 (y ++ [⟨x.k, x.t, x.n, A2⟩])) := wow_app (x := ⟨x.k, x.t, x.n, A2⟩) ho7; have HG7 : Hid (W2.grownBy w7 (Value.ownBlock (.slice rb y.length rd'))) := (World.grownBy_alloc _ _ _).trans hg7; obtain ⟨qa, qc, rfl⟩ := row_shape ho7; clear ho7 hg7 ha7)
                go_roundg (us.length - (j + 1))
                case measure => have := HI.out; have := HIL.out; omega
                case rel => exact ⟨j + 1, by simp, ⟨HIL.out, rfl⟩, by rw [HTS.out, HSH.out]; exact HO7, HB2.out.trans ((Below.refl _ _).grown HG7.out HB2.out.size (fun r e => (row_tag HV2.out r e).1))⟩
              · have f1 : decide ((j : Int) < (us.length : Int)) = false := by rw [decide_eq_false_iff_not]; omega
                have f2 : decide (j < us.length) = false := by rw [decide_eq_false_iff_not]; omega
                have HYE : Hid (ws ++ us.map (shw (s.size + 1)) = y) := by rw [← HLE.out, List.take_of_length_le (by omega)]; exact rfl
                have HRY : Hid (Rw wr (.slice rb y.length rd') y.length (wC y)) := row_rw HV.out
                have HRU : Hid (Rw wr (.slice a3 N q3) (ws ++ us.map (shw (s.size + 1))).length (wC (ws ++ us.map (shw (s.size + 1))))) := HU.out.up HB.out
                clear hj
                go_wp2_with fail
                refine (same_any (ws ++ us.map (shw (s.size + 1))) y wr HRU.out HRY.out (by have h1 := HEN.out; have h2 := HNN.out; omega)).mono ?_
                rintro e w8 ⟨rfl, b8⟩
                rw [decide_eq_true HYE.out]
                have HB8 : Hid (Below w.heap.size w w8) := below_trans (below_trans B4.out HB.out) b8
                clear b8
                go_wp2_with fail
                go_ret
                exact ⟨rfl, HB8.out⟩
end Go.Proofs.YteaanieohcanlaaDoor
