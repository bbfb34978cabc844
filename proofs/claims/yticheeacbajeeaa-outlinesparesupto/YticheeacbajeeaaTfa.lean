import Derived.Test.YticheeacbajeeaaTsh
namespace Go.Proofs.Yticheeacbajeeaa
open Go.RowKit Go.Maps

/-- What find answers, whatever the place. -/
def Rfx (B : Nat) (w0 : World) (t : List Nd) (x : Int) (y : Nd) (vy : Value) (c pp : Int) (bb : Bool) : Prop :=
  (bb = true ∧ Fo (kds t) ∧ ∃ c' : Nat, c' < t.length ∧ x = (c' : Int) ∧ c = (c' : Int) ∧ y = t.getD c' ndd ∧ TrM (fun g => B ≤ g) w0 t c' vy ∧ pp = pl (kds t) c')
  ∨ (bb = false ∧ std t x = false ∧ y = ndd ∧ vy = .slice none 0 0 ∧ c = 0 ∧ pp = -1)
def RfxE (B : Nat) (w0 : World) (t : List Nd) (x : Int) (w w' : World) (e : Ending) : Prop :=
  ∃ y ad nn cp c pp bb, e = .returned (.tuple #[.agg (tA y (.slice ad nn cp) c), .int .i64 pp, .bool bb]) ∧ Rfx B w0 t x y (.slice ad nn cp) c pp bb ∧ Below w.heap.size w w'
theorem frm_none (P : Nat → Prop) (w0 : World) (t : List Nd) (a : Nat) : FrM P w0 t (.slice none 0 0) a 0 := ⟨[], rfl, ⟨none, 0, 0, 0, rfl, by omega, fun _ => ⟨rfl, rfl⟩, fun h => by omega, fun j u h => by simp [flat] at h⟩, fun z hz => by cases hz⟩
theorem rfindx_any {B : Nat} {w0 : World} {t : List Nd} {ad : Option Addr} {k cp : Nat} (hs : t.length * 72 + 4096 ≤ 140737488355328) (hm : Mf B w0 t ad k cp) (x : Int) (w : World) (hb : Below w0.heap.size w0 w) :
    Calls Try.prog 41 #[.slice ad k cp, .int .i64 x, .int .i64 (-1)] w fun e w' => RfxE B w0 t x w w' e := by
  rcases hm with ⟨h1, h2⟩ | ⟨h1, rfl, rfl, rfl⟩
  · have hf : Fo (kds t) := ⟨k, h1⟩
    refine (find_any hs hf x (t.length + 1) 0 k (-1) _ w (by omega) (by omega) (by rw [Fo.top h1]; exact Nat.le_refl _) h2 hb).mono ?_
    rintro e w' ⟨y, ad, nn, cp, c, pp, bb, rfl, hr, hb'⟩
    refine ⟨y, ad, nn, cp, c, pp, bb, rfl, ?_, hb'⟩
    rcases hr with ⟨rfl, c', i, hi, e1, e2, e3, e4, e5, e6⟩ | ⟨rfl, c', h3, h4, _, e2, e3, e4, e5, e6⟩ | ⟨rfl, h3, e4, e5, e6, e7⟩
    · have hro : Ro (kds t) i c' := ⟨by rw [Fo.top h1]; exact hi, e1⟩
      have hlt := hro.lt hf
      rw [kds_len] at hlt
      exact Or.inl ⟨rfl, hf, c', hlt, e2, e3, e4, e5, by rw [e6, pl_ro hf hro]⟩
    · rw [Fo.last h1, kds_len] at h4
      exact Or.inl ⟨rfl, hf, c', h4, e2, e3, e4, e5, e6⟩
    · rw [Fo.last h1, kds_len] at h3
      refine Or.inr ⟨rfl, ?_, e4, e5, e6, e7⟩
      cases hst : std t x with
      | false => rfl
      | true => obtain ⟨a, e, ha, _⟩ := std_true hst; omega
  · refine (find_any (P := fun g => B ≤ g) (w0 := w0) (t := []) (by decide) ⟨0, rfl⟩ x 1 0 0 (-1) _ w (by decide) (by decide) (Nat.zero_le _) (frm_none _ _ _ _) hb).mono ?_
    rintro e w' ⟨y, ad, nn, cp, c, pp, bb, rfl, hr, hb'⟩
    refine ⟨y, ad, nn, cp, c, pp, bb, rfl, ?_, hb'⟩
    rcases hr with ⟨rfl, c', i, hi, _⟩ | ⟨rfl, c', h3, h4, _⟩ | ⟨rfl, h3, e4, e5, e6, e7⟩
    · omega
    · rw [wA_zero] at h4; omega
    · refine Or.inr ⟨rfl, ?_, e4, e5, e6, e7⟩
      cases hst : std t x with
      | false => rfl
      | true =>
        obtain ⟨a, e, ha, r, hr⟩ := std_true hst
        rw [h1] at hr; cases hr
theorem rforest_any {v : Value} {t : List Nd} (hs : t.length * 72 + 4096 ≤ 140737488355328) (w : World) (h : Ns w v t) :
    Calls Try.prog 40 #[v] w fun e w' => ∃ ad k cp bb, e = .returned (.tuple #[.slice ad k cp, .bool bb]) ∧ Mf w.heap.size w' t ad k cp ∧ bb = (rt (kds t)).isSome ∧ Below w.heap.size w w' := by
  refine (forest_any hs w h).mono ?_
  rintro e w' ⟨r, rfl, hr, hb⟩
  unfold Fkr at hr
  split at hr
  · next k hk =>
    obtain ⟨ad, cp, fs, rfl, h1, h2, h3⟩ := hr
    exact ⟨ad, k, cp, true, rfl, Or.inl ⟨hk, fs, h1, h2, h3⟩, by rw [hk]; rfl, hb⟩
  · next hk =>
    subst hr
    exact ⟨none, 0, 0, false, rfl, Or.inr ⟨hk, rfl, rfl, rfl⟩, by rw [hk]; rfl, hb⟩
set_option maxRecDepth 100000 in
set_option maxHeartbeats 8000000 in
theorem rroots_any {v : Value} {t : List Nd} (hs : t.length * 72 + 4096 ≤ 140737488355328) (w : World) (h : Ns w v t) :
    Calls Try.prog 38 #[v] w fun e w' => e = .returned (.int .i64 (rts t)) ∧ Below w.heap.size w w' := by
  have HFO : Hid _ := rforest_any hs w h
  have HS : Hid (t.length * 72 + 4096 ≤ 140737488355328) := hs
  obtain ⟨av, cap, rfl⟩ := h.form
  clear h hs
  go_enter Try.func38, Try.ntmps38
  go_upto_region 2 with (go_at_call 40; refine Calls.mono HFO.out ?_; rintro ee W4 ⟨ad, k, cp, bb, rfl, hmf, hbb, hb4⟩; have HM : Hid (Mf w.heap.size W4 t ad k cp) := hmf; have HBB : Hid (bb = (rt (kds t)).isSome) := hbb; have HB4 : Hid (Below w.heap.size w W4) := hb4; clear hmf hbb hb4)
  have hk : (bb = true ∧ rts t = (k : Int)) ∨ (bb = false ∧ rts t = -1) := by
    rw [HBB.out]
    rcases HM.out with ⟨h1, _⟩ | ⟨h1, _⟩
    · exact Or.inl ⟨by rw [h1]; rfl, rts_some h1⟩
    · exact Or.inr ⟨by rw [h1]; rfl, rts_none h1⟩
  have HK : Hid ((bb = true ∧ rts t = (k : Int)) ∨ (bb = false ∧ rts t = -1)) := hk
  clear hk HBB
  cases bb with
  | true =>
    go_wp2_with fail
    go_ret
    exact ⟨ret_int (by rcases HK.out with ⟨_, h⟩ | ⟨h, _⟩; exact h.symm; cases h), HB4.out⟩
  | false =>
    go_wp2_with fail
    go_ret
    exact ⟨ret_int (by rcases HK.out with ⟨h, _⟩ | ⟨_, h⟩; cases h; exact h.symm), HB4.out⟩
set_option maxRecDepth 100000 in
set_option maxHeartbeats 8000000 in
theorem rparent_any {v : Value} {t : List Nd} (hs : t.length * 72 + 4096 ≤ 140737488355328) (w : World) (h : Ns w v t) (z : Int) :
    Calls Try.prog 26 #[v, .int .i64 z] w fun e w' => e = .returned (.int .i64 (prt t z)) ∧ Below w.heap.size w w' := by
  have HFO : Hid _ := rforest_any hs w h
  have HS : Hid (t.length * 72 + 4096 ≤ 140737488355328) := hs
  obtain ⟨av, cap, rfl⟩ := h.form
  clear h hs
  go_enter Try.func26, Try.ntmps26
  go_upto_region 2 with (go_at_call 40; refine Calls.mono HFO.out ?_; rintro ee W4 ⟨ad, k, cp, bb, rfl, hmf, hbb, hb4⟩; have HM : Hid (Mf w.heap.size W4 t ad k cp) := hmf; have HBB : Hid (bb = (rt (kds t)).isSome) := hbb; have HB4 : Hid (Below w.heap.size w W4) := hb4; clear hmf hbb hb4)
  go_wp2_with (go_at_call 41; refine Calls.mono (rfindx_any HS.out HM.out z _ (Below.refl _ _)) ?_; rintro ee W5 ⟨y, ya, yn, yc, c, pp, b2, rfl, hr, hb5⟩; unfold tA; have HR : Hid (Rfx w.heap.size W4 t z y (.slice ya yn yc) c pp b2) := hr; have HB45 : Hid (Below W4.heap.size W4 W5) := hb5; have HB5 : Hid (Below w.heap.size w W5) := below_trans HB4.out hb5; clear hr hb5)
  go_ret
  refine ⟨ret_int ?_, below_trans HB5.out (bel_up _ _)⟩
  rcases HR.out with ⟨_, hf, c', hl, rfl, _, _, _, rfl⟩ | ⟨_, h, _, _, _, rfl⟩
  · unfold prt; rw [std_of hl hf]; rfl
  · unfold prt; rw [h]; rfl
/-- Where trees beside one another stand. -/
def kw (l : List Int) (a i : Nat) : List Int := (List.range i).map fun j => ((wA l a j : Nat) : Int)
theorem kw_succ (l : List Int) (a i : Nat) : kw l a (i + 1) = kw l a i ++ [((wA l a i : Nat) : Int)] := by unfold kw; rw [List.range_succ, List.map_append]; rfl
theorem kw_len (l : List Int) (a i : Nat) : (kw l a i).length = i := by unfold kw; simp
set_option maxRecDepth 100000 in
set_option maxHeartbeats 8000000 in
theorem rkids_any {v : Value} {t : List Nd} (hs : t.length * 72 + 4096 ≤ 140737488355328) (w : World) (h : Ns w v t) (z : Int) :
    Calls Try.prog 39 #[v, .int .i64 z] w fun e w' => ∃ v', e = .returned v' ∧ w'.ownsRow w.heap.size 3 1 v' (kls t z).length (iC (kls t z)) ∧ Below w.heap.size w w' := by
  obtain ⟨i3, hi3, hx0, hx1, hx2⟩ := info_parts info3
  have HFO : Hid _ := rforest_any hs w h
  have HS : Hid (t.length * 72 + 4096 ≤ 140737488355328) := hs
  obtain ⟨av, cap, rfl⟩ := h.form
  clear h hs
  go_enter Try.func39, Try.ntmps39
  go_upto_region 2 with (go_at_call 40; refine Calls.mono HFO.out ?_; rintro ee W4 ⟨ad, k, cp, bb, rfl, hmf, hbb, hb4⟩; have HM : Hid (Mf w.heap.size W4 t ad k cp) := hmf; have HBB : Hid (bb = (rt (kds t)).isSome) := hbb; have HB4 : Hid (Below w.heap.size w W4) := hb4; clear hmf hbb hb4)
  go_upto_region 5 with (go_at_call 41; refine Calls.mono (rfindx_any HS.out HM.out z _ (Below.refl _ _)) ?_; rintro ee W5 ⟨y, ya, yn, yc, c, pp, b2, rfl, hr, hb5⟩; unfold tA; have HR : Hid (Rfx w.heap.size W4 t z y (.slice ya yn yc) c pp b2) := hr; have HB45 : Hid (Below W4.heap.size W4 W5) := hb5; have HB5 : Hid (Below w.heap.size w W5) := below_trans HB4.out hb5; clear hr hb5)
  have hfr : ∃ a, FrM (fun g => w.heap.size ≤ g) W4 t (.slice ya yn yc) a yn ∧ kls t z = kw (kds t) a yn ∧ yn ≤ t.length := by
    rcases HR.out with ⟨_, hf, c', hl, rfl, _, _, htr, _⟩ | ⟨_, h, _, e, _, _⟩
    · have hk := htr.kids
      obtain ⟨_, _, e⟩ := hk.form
      obtain ⟨-, rfl, -⟩ := Value.slice.inj e
      refine ⟨c' + 1, hk, ?_, ?_⟩
      · unfold kls; rw [std_of hl hf]; rfl
      · have h1 := (hf.step c' (by rw [kds_len]; exact hl)).2.2.1
        have h2 := hf.le (c' + 1)
        rw [kds_len] at h2; omega
    · obtain ⟨rfl, rfl, rfl⟩ := Value.slice.inj e
      exact ⟨0, frm_none _ _ _ _, by unfold kls; rw [h]; rfl, Nat.zero_le _⟩
  obtain ⟨a, h1, h2, h3⟩ := hfr
  have HFR : Hid (FrM (fun g => w.heap.size ≤ g) W4 t (.slice ya yn yc) a yn) := h1
  have HKL : Hid (kls t z = kw (kds t) a yn) := h2
  have HYN : Hid (yn ≤ t.length) := h3
  clear h1 h2 h3 HR
  obtain ⟨kb, hkb⟩ : ∃ kb, W5.heap.size = kb := ⟨_, rfl⟩
  obtain ⟨W6, hW6⟩ : ∃ W6, W6 = W5.alloc (.cells #[.string y.nm, .bool y.nd, .string y.fd, .int .i64 y.fr, .int .i64 y.tt, .int .i64 y.kd, .int .i64 y.lf, .slice ya yn yc, .int .i64 c] 94) := ⟨_, rfl⟩
  have HB6 : Hid (Below w.heap.size w W6) := by rw [hW6]; exact below_trans HB5.out (bel_up _ _)
  have HB46 : Hid (Below W4.heap.size W4 W6) := by rw [hW6]; exact below_trans HB45.out (bel_up _ _)
  have HK6 : Hid (W6.heap[kb]? = some (.cells #[.string y.nm, .bool y.nd, .string y.fd, .int .i64 y.fr, .int .i64 y.tt, .int .i64 y.kd, .int .i64 y.lf, .slice ya yn yc, .int .i64 c] 94 (0, 0))) := by rw [hW6, ← hkb]; exact heap_new _ _
  have HKB : Hid (kb < W6.heap.size) := lt_of_heap HK6.out
  rw [hkb, ← hW6]
  clear hW6 hkb
  go_loopg [10, 11] yn (fun gm v10 v11 wr => ∃ (i : Nat), v11 = .int .i64 (i : Int) ∧ Hid (gm = yn - i ∧ i ≤ yn) ∧ Hid (wr.ownsRow W6.heap.size 3 1 v10 i (iC (kw (kds t) a i))) ∧ Hid (Below W6.heap.size W6 wr))
  case atStart => exact ⟨0, rfl, ⟨rfl, Nat.zero_le _⟩, World.ownsRow_nil _ _ _ _, Below.refl _ _⟩
  case round =>
    obtain ⟨i, rfl, HI, HO, HBW⟩ := hrel
    obtain ⟨ra, rc, hrv⟩ := row_shape HO.out
    subst hrv
    have HKW : Hid (wr.heap[kb]? = some (.cells #[.string y.nm, .bool y.nd, .string y.fd, .int .i64 y.fr, .int .i64 y.tt, .int .i64 y.kd, .int .i64 y.lf, .slice ya yn yc, .int .i64 c] 94 (0, 0))) := by rw [HBW.out.block kb HKB.out]; exact HK6.out
    have k7 := rcell HKW.out 7 _ rfl
    by_cases hi : i < yn
    · have e1 : decide ((i : Int) < (yn : Int)) = true := by rw [decide_eq_true_eq]; omega
      have e2 : decide (i < yn) = true := by rw [decide_eq_true_eq]; omega
      have b1 : (i : Int) < (yn : Int) := by omega
      have b2 : i < yn := hi
      have HIM : Hid (i < yn) := hi
      obtain ⟨g, o, aa, nn, cc, rfl, _, h9⟩ := HFR.out.nine i hi
      obtain ⟨-, -, -, -, -, -, -, -, q8⟩ := h9 _ (below_trans HB46.out HBW.out)
      obtain ⟨p, hp⟩ : ∃ p, wA (kds t) a i = p := ⟨_, rfl⟩
      rw [hp] at q8
      have HPP : Hid (wA (kds t) a i = p) := hp
      have hwi := w64n i (by have := HS.out; have := HYN.out; omega)
      have HSB : Hid (W6.heap.size ≤ wr.heap.size) := HBW.out.size
      have HBY : Hid (i + 1 ≤ t.length) := by have := HYN.out; show _ ≤ _; omega
      have HROW : Hid ((wr.alloc (.cells #[.int .i64 (p : Int)] 3)).ownsRow W6.heap.size 3 1 (.slice ra i rc) i (iC (kw (kds t) a i))) := HO.out.alloc _
      clear hi hp h9
      go_wp2_with (at_builtin; refine wpList_append_own_at _ rfl _ _ 66 rfl W6.heap.size 3 i3 (.int .i64 0) 1 8 Try.underlying66 hi3 hx0 hx1 hx2 rfl (by decide) _ _ _ rfl HROW.out ⟨wr.heap.size, 0, none⟩ 1 1 [.int .i64 (p : Int)] rfl rfl (cell_one_new _ _ _) (by simp [Value.oneCell']) (by have := HBY.out; have := HS.out; unfold maxLen; omega) (by have := HBY.out; have := HS.out; omega) (by have := HSB.out; simp; omega) ?_; intro v5 w5 ho5 hg5 _ ha5; have HB7 : Hid (Below W6.heap.size W6 w5) := bel_app HBW.out HSB.out HO.out hg5; have HO5 : Hid (w5.ownsRow W6.heap.size 3 1 v5 (i + 1) (iC (kw (kds t) a (i + 1)))) := (by rw [kw_succ, iC_app, HPP.out]; exact ho5); obtain ⟨qa, qc, rfl⟩ := row_shape ho5; clear ho5 hg5 ha5)
      go_roundg (yn - (i + 1))
      case measure => have := HI.out.1; have := HIM.out; omega
      case rel => exact ⟨i + 1, by first | rfl | (rw [show (i : Int) + 1 = ((i + 1 : Nat) : Int) by omega]), ⟨rfl, HIM.out⟩, HO5.out, HB7.out⟩
    · have e1 : decide ((i : Int) < (yn : Int)) = false := by rw [decide_eq_false_iff_not]; omega
      have e2 : decide (i < yn) = false := by rw [decide_eq_false_iff_not]; omega
      have HIN : Hid (i = yn) := by have := HI.out; show i = yn; omega
      clear hi
      go_wp2_with fail
      go_ret
      exact ⟨_, rfl, by rw [HKL.out, kw_len, ← show i = yn from HIN.out]; exact row_base HO.out HB6.out.size, below_trans HB6.out HBW.out⟩
end Go.Proofs.Yticheeacbajeeaa
