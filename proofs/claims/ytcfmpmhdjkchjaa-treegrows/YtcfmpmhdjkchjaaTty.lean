import Derived.Test.YtcfmpmhdjkchjaaTtx
import Derived.Laws.BytesArg
namespace Go.Proofs.Ytcfmpmhdjkchjaa
open Go.RowKit Go.Maps

theorem kns_len {t : List Nd} (h : Fo (kds t)) : (kns t).length = t.length := by
  obtain ⟨r, hr⟩ := h
  unfold kns; rw [hr]; simp
theorem kns_get {t : List Nd} (h : Fo (kds t)) (c : Nat) (hc : c < t.length) : (kns t).getD c knd = (pl (kds t) c, ((eA (kds t) c : Nat) : Int)) := by
  obtain ⟨r, hr⟩ := h
  unfold kns
  rw [hr]
  dsimp only
  rw [List.getD_eq_getElem?_getD, List.getElem?_map, List.getElem?_range hc]; rfl
theorem kat_nat (K : List (Int × Int)) (x : Nat) : kat K (x : Int) = K.getD x knd := rfl
theorem khs_nat (K : List (Int × Int)) (x : Nat) : khs K (x : Int) = decide (x < K.length) := by
  unfold khs
  rw [show decide ((0 : Int) ≤ (x : Int)) = true by rw [decide_eq_true_eq]; omega, Bool.true_and]
  by_cases h : x < K.length
  · rw [decide_eq_true h, decide_eq_true_eq]; omega
  · rw [decide_eq_false h, decide_eq_false_iff_not]; omega
theorem kblw {t : List Nd} (h : Fo (kds t)) (x : Nat) (hx : x < t.length) : blw (kns t) (x : Int) = if eA (kds t) x = x + 1 then -1 else ((x + 1 : Nat) : Int) := by
  unfold blw
  rw [khs_nat, kns_len h, decide_eq_true hx, if_pos rfl, kat_nat, kns_get h x hx]
  by_cases e : eA (kds t) x = x + 1
  · rw [if_pos e, if_pos (by omega)]
  · rw [if_neg e, if_neg (by omega)]; rfl
theorem kbsd {t : List Nd} (h : Fo (kds t)) (x : Nat) (hx : x < t.length) : bsd (kns t) (x : Int) = if eA (kds t) x < t.length ∧ pl (kds t) (eA (kds t) x) = pl (kds t) x then ((eA (kds t) x : Nat) : Int) else -1 := by
  unfold bsd
  rw [khs_nat, kns_len h, decide_eq_true hx, if_pos rfl, kat_nat, kns_get h x hx]
  dsimp only
  rw [khs_nat, kns_len h]
  by_cases e : eA (kds t) x < t.length
  · rw [decide_eq_true e, if_pos rfl, kat_nat, kns_get h _ e]
    dsimp only
    by_cases e2 : pl (kds t) (eA (kds t) x) = pl (kds t) x
    · rw [if_pos e2, if_pos ⟨e, e2⟩]
    · rw [if_neg e2, if_neg (fun q => e2 q.2)]
  · rw [decide_eq_false e, if_neg (by decide), if_neg (fun q => e q.1)]
theorem kabv {t : List Nd} (h : Fo (kds t)) (x : Nat) (hx : x < t.length) : abv (kns t) (x : Int) = pl (kds t) x := by
  unfold abv
  rw [khs_nat, kns_len h, decide_eq_true hx, if_pos rfl, kat_nat, kns_get h x hx]
/-- A move that goes comes to a node. -/
theorem goes_blw {t : List Nd} (h : Fo (kds t)) (x : Nat) (hx : x < t.length) (hg : goes (blw (kns t) (x : Int)) = true) : ∃ y : Nat, blw (kns t) (x : Int) = (y : Int) ∧ y < t.length := by
  rw [kblw h x hx] at hg ⊢
  have h1 := h.elt x (by rw [kds_len]; exact hx)
  rw [kds_len] at h1
  by_cases e : eA (kds t) x = x + 1
  · rw [if_pos e] at hg; cases hg
  · rw [if_neg e]; exact ⟨x + 1, rfl, by omega⟩
theorem goes_bsd {t : List Nd} (h : Fo (kds t)) (x : Nat) (hx : x < t.length) (hg : goes (bsd (kns t) (x : Int)) = true) : ∃ y : Nat, bsd (kns t) (x : Int) = (y : Int) ∧ y < t.length := by
  rw [kbsd h x hx] at hg ⊢
  by_cases e : eA (kds t) x < t.length ∧ pl (kds t) (eA (kds t) x) = pl (kds t) x
  · rw [if_pos e]; exact ⟨_, rfl, e.1⟩
  · rw [if_neg e] at hg; cases hg
theorem goes_abv {t : List Nd} (h : Fo (kds t)) (x : Nat) (hx : x < t.length) (hg : goes (abv (kns t) (x : Int)) = true) : ∃ y : Nat, abv (kns t) (x : Int) = (y : Int) ∧ y < t.length := by
  rw [kabv h x hx] at hg ⊢
  rcases pl_is h x (by rw [kds_len]; exact hx) with ⟨e, _⟩ | ⟨q, i, e, h2, _⟩
  · rw [e] at hg; cases hg
  · exact ⟨q, e, by omega⟩
theorem gone_yes {x y : Int} (h : goes y = true) : gone x y = y := by unfold goes at h; unfold gone; rw [if_neg (by simpa using h)]
theorem gone_no {x y : Int} (h : goes y = false) : gone x y = x := by unfold goes at h; unfold gone; rw [if_pos (by simpa using h)]
def ndA (t : List Nd) (x : Int) : Nd := t.getD x.toNat ndd
/-- The text, as it is written: up and on. -/
def txI (t : List Nd) (K : List (Int × Int)) : Nat → Int → List UInt8 → Option (Bool × Int × List UInt8)
  | 0, _, _ => none
  | f + 1, x, o => if goes (bsd K x) then some (true, bsd K x, o) else if goes (abv K x) then txI t K f (abv K x) (o ++ cls (ndA t (abv K x))) else some (false, x, o)
def txO (t : List Nd) (K : List (Int × Int)) (F : Nat) : Nat → Int → List UInt8 → Option (List UInt8)
  | 0, _, _ => none
  | f + 1, x, o => if goes (blw K x) then txO t K F f (blw K x) ((o ++ bgn (ndA t x)) ++ [32]) else
    match txI t K F x ((o ++ bgn (ndA t x)) ++ cls (ndA t x)) with
    | none => none
    | some (true, y, q) => txO t K F f y (q ++ [32])
    | some (false, _, q) => some q
theorem txI_len {t : List Nd} {K : List (Int × Int)} : ∀ (f : Nat) (x : Int) (o : List UInt8) (b : Bool) (y : Int) (q : List UInt8), txI t K f x o = some (b, y, q) → o.length ≤ q.length
  | 0, x, o, b, y, q, h => by cases h
  | f + 1, x, o, b, y, q, h => by
    unfold txI at h
    split at h
    · cases h; exact Nat.le_refl _
    · split at h
      · have := txI_len f _ _ b y q h
        rw [List.length_append] at this; omega
      · cases h; exact Nat.le_refl _
theorem txO_len {t : List Nd} {K : List (Int × Int)} {F : Nat} : ∀ (f : Nat) (x : Int) (o r : List UInt8), txO t K F f x o = some r → (o ++ bgn (ndA t x)).length ≤ r.length
  | 0, x, o, r, h => by cases h
  | f + 1, x, o, r, h => by
    unfold txO at h
    split at h
    · have := txO_len f _ _ r h
      simp only [List.length_append] at this ⊢; omega
    · split at h
      · cases h
      · next y q e =>
        have h1 := txI_len _ _ _ _ _ _ e
        have := txO_len f _ _ r h
        simp only [List.length_append] at this h1 ⊢; omega
      · next y q e =>
        have h1 := txI_len _ _ _ _ _ _ e
        cases h
        simp only [List.length_append] at h1 ⊢; omega
/-- The text under way, the cursor at a node. -/
structure Tw (w W : World) (B c : Nat) (v' v : Value) (K : List (Int × Int)) (x : Int) (o : List UInt8) : Prop where
  cu : Cu w.heap.size W c v' K x
  ro : Byt B W v o
  be : Below w.heap.size w W
  cb : w.heap.size ≤ c ∧ c < B
  kb : ∀ r, v'.ownBlock = some r → r < B
  sz : B ≤ W.heap.size
theorem Tw.row {w W W' : World} {B c : Nat} {v' v v2 : Value} {K : List (Int × Int)} {x : Int} {o o2 : List UInt8} (h : Tw w W B c v' v K x o) (hb : Below B W W') (hr : Byt B W' v2 o2) : Tw w W' B c v' v2 K x o2 :=
  ⟨⟨(hb.block c h.cb.2).trans h.cu.h, row_keep h.cu.k hb h.kb⟩, hr, h.be.trans (hb.mono (by have := h.cb; omega)), h.cb, h.kb, Nat.le_trans h.sz hb.size⟩
theorem Tw.mv {w W W' : World} {B c : Nat} {v' v : Value} {K : List (Int × Int)} {x y : Int} {o : List UInt8} (h : Tw w W B c v' v K x o) (hc : Cu w.heap.size W' c v' K y) (hg : W.grownBy W' (some c)) : Tw w W' B c v' v K y o :=
  ⟨hc, h.ro.kept hg (.inr (fun e => by have := (row_tag h.ro c e).1; have := h.cb.2; omega)), h.be.grown hg h.be.size (fun r hr => by cases hr; exact h.cb.1), h.cb, h.kb, Nat.le_trans h.sz hg.size⟩
theorem own_lt {W : World} {B n size : Nat} {e : TypeId} {v : Value} {xs : List Value} (h : W.ownsRow B e size v n xs) : ∀ r, v.ownBlock = some r → r < W.heap.size := fun r hr => by
  obtain ⟨_, cur, hh⟩ := row_tag h r hr
  exact lt_of_heap hh
theorem byt_conv {B : Nat} {W : World} {v : Value} {l : List UInt8} (h : Byt B W v l) : (convert 114 9 v).run Try.prog W = .ok (.string ⟨l.toArray⟩) W := by
  have hh := h
  rcases h.2 with ⟨rfl, h2⟩ | ⟨g, cap, cur, rfl, h1, h2, h3, h4, h5, h6⟩
  · have : l = [] := List.length_eq_zero_iff.1 h2
    subst this
    exact run_convert_bytes_nil W 114 5 Try.underlying114 Try.underlying5 0 0 9 Try.underlying9
  · refine run_convert_bytes_back W 114 9 5 ⟨g, 0, none⟩ cap l Try.underlying114 Try.underlying5 Try.underlying9 (fun j hj => ?_)
    rw [addPl, Nat.zero_add]
    refine row_at hh j _ ?_
    simp [bC, List.getElem?_eq_getElem hj]
set_option maxRecDepth 100000 in
set_option maxHeartbeats 16000000 in
theorem text_any {v : Value} {t : List Nd} (w : World) (h : Ns w v t) (hs : Sm t) (hf : Fo (kds t)) (h0 : 0 < t.length) (hn : ∀ x ∈ t, x.nd = true) (F f0 : Nat) (r : List UInt8) (hr : txO t (kns t) F f0 0 [] = some r) (hl : r.length ≤ 70368744177663) :
    Calls Try.prog 48 #[v] w fun e w' => e = .returned (.string ⟨r.toArray⟩) ∧ Below w.heap.size w w' := by
  obtain ⟨i5, hi5, hx0, hx1, hx2⟩ := info_parts infoU8
  have HT : Hid (Ns w v t) := h
  have HS : Hid (Sm t) := hs
  have HF : Hid (Fo (kds t)) := hf
  have HND : Hid (∀ x ∈ t, x.nd = true) := hn
  have HR : Hid (txO t (kns t) F f0 0 [] = some r) := hr
  have HL : Hid (r.length ≤ 70368744177663) := hl
  have HKR : Hid (krt (kns t) = 0) := by show _ = _; unfold krt; rw [if_neg (by rw [kns_len hf]; omega)]
  have HKS : Hid (Ks (kns t)) := by show _ ≤ _; rw [kns_len hf]; unfold Sm at hs; omega
  have HT0 : Hid (0 < t.length) := h0
  obtain ⟨a, cap, rfl⟩ := h.form
  clear h hs hf hn hr hl h0
  obtain ⟨K, hK⟩ : ∃ K, kns t = K := ⟨_, rfl⟩
  have HKK : Hid (kns t = K) := hK
  rw [hK] at HR HKR HKS
  clear hK
  obtain ⟨n, hn⟩ : ∃ n, t.length = n := ⟨_, rfl⟩
  have HN : Hid (t.length = n) := hn
  rw [hn] at HT ⊢
  clear hn
  have HWK : Hid (∀ W, Below w.heap.size w W → Calls Try.prog 11 #[.slice a n cap] W fun e w' => ∃ c v', e = .returned (.pointer (some ⟨c, 0, none⟩)) ∧ W.heap.size ≤ c ∧ Cu W.heap.size w' c v' K 0 ∧ Below W.heap.size W w') := fun W hb => by
    have h7 := walk_any W (HT.out.up hb) HS.out
    rw [HKK.out, HKR.out] at h7
    exact h7
  have HWW := HWK.out w (Below.refl _ _)
  have HWX : Hid (Calls Try.prog 11 #[.slice a n cap] w fun e w' => ∃ c v', e = .returned (.pointer (some ⟨c, 0, none⟩)) ∧ w.heap.size ≤ c ∧ Cu w.heap.size w' c v' K 0 ∧ Below w.heap.size w w') := HWW
  clear HWK HWW
  go_enter Try.func48, Try.ntmps48
  go_upto_region 5 with first | (go_at_call 11; refine Calls.mono HWX.out ?_; rintro ee W1 ⟨c, v', rfl, hc1, hc2, hb1⟩; have HB1 : Hid (Below w.heap.size w W1) := hb1; have HC1 : Hid (Cu w.heap.size W1 c v' K 0) := hc2; have HCL : Hid (w.heap.size ≤ c) := hc1; clear hc1 hc2 hb1) | (go_at_call 13; refine (place_any _ HC1.out).mono ?_; rintro ee ww ⟨rfl, rfl⟩)
  have HTW : Hid (Tw w W1 W1.heap.size c v' (.slice none 0 0) K 0 []) := ⟨HC1.out, World.ownsRow_nil _ _ _ _, HB1.out, ⟨HCL.out, lt_of_heap HC1.out.h⟩, own_lt HC1.out.k, Nat.le_refl _⟩
  clear HC1 HB1 HCL
  obtain ⟨B, hB⟩ : ∃ B, W1.heap.size = B := ⟨_, rfl⟩
  rw [hB] at HTW
  clear hB
  go_loopg [4] f0 (fun gm v4 wr => ∃ (x : Nat) (o : List UInt8), Hid (txO t K F gm (x : Int) o = some r) ∧ Hid (x < n) ∧ Hid (Tw w wr B c v' v4 K (x : Int) o))
  case atStart => exact ⟨0, [], HR, by have := HT0.out; rw [HN.out] at this; exact this, HTW⟩
  case round =>
    clear HTW HR
    obtain ⟨x, o, HX, HXN, HTW⟩ := hrel
    obtain ⟨f, hgf⟩ : ∃ f, gk = f + 1 := by
      cases gk with
      | zero => have h7 := HX.out; cases h7
      | succ f => exact ⟨f, rfl⟩
    subst hgf
    obtain ⟨va, vc, hv⟩ := row_shape HTW.out.ro
    subst hv
    have hxt : x < t.length := by rw [HN.out]; exact HXN.out
    have hmem : (t.getD x ndd).nd = true := HND.out _ (getD_mem t ndd x hxt)
    obtain ⟨g, oo, rfl, d0, d1, d2, d3, d4, d5, d6⟩ := (HT.out.up HTW.out.be).all7 x hxt
    have hTX := HX.out
    have hLN := txO_len _ _ _ _ hTX
    unfold txO at hTX
    have eA0 : ndA t (x : Int) = t.getD x ndd := rfl
    rw [eA0] at hTX hLN
    obtain ⟨y, hy⟩ : ∃ y, t.getD x ndd = y := ⟨_, rfl⟩
    rw [hy] at hTX hLN hmem d0 d1 d2 d3 d4 d5 d6
    have HAB : Hid (∀ W v, Byt B W v o → B ≤ W.heap.size → Calls Try.prog 67 #[v, nC y] W fun e w' => ∃ v', e = .returned v' ∧ Byt B w' v' (o ++ bgn y) ∧ Below B W w') := fun W v h1 h2 => appendBegin_any y hmem W h1 (by have := HL.out; omega) h2
    unfold nC at HAB
    have e3 : (x : Int) < (n : Int) := by have := HXN.out; omega
    have e4 : x < n := HXN.out
    have HLN : Hid ((o ++ bgn y).length ≤ 70368744177663) := by have := HL.out; show _ ≤ _; omega
    obtain ⟨o2, ho2⟩ : ∃ o2, o ++ bgn y = o2 := ⟨_, rfl⟩
    rw [ho2] at hTX HAB HLN
    clear hmem eA0 hxt hLN ho2
    go_upto_region 6 with first | (go_at_call 13; refine (place_any _ HTW.out.cu).mono ?_; rintro ee ww ⟨rfl, rfl⟩) | (go_at_call 67; refine Calls.mono (HAB.out _ _ HTW.out.ro HTW.out.sz) ?_; rintro ee W2 ⟨v2, rfl, ho2, hb2⟩; have HT2 : Hid (Tw w W2 B c v' v2 K (x : Int) o2) := HTW.out.row hb2 ho2; obtain ⟨qa, qc, rfl⟩ := row_shape ho2; clear ho2 hb2)
    clear d0 d1 d2 d3 d4 d5 d6 e3 e4 HTW HAB
    cases hd : goes (blw K (x : Int)) with
    | true =>
      rw [hd, if_pos rfl] at hTX
      obtain ⟨x2, hx2, hx3⟩ := goes_blw HF.out x (by rw [HN.out]; exact HXN.out) (by rw [HKK.out]; exact hd)
      rw [HKK.out] at hx2
      rw [hx2] at hTX
      have HTX : Hid (txO t K F f (x2 : Int) (o2 ++ [32]) = some r) := hTX
      have HDW : Hid (∀ W v o, Tw w W B c v' v K (x : Int) o → Calls Try.prog 17 #[.pointer (some ⟨c, 0, none⟩)] W fun e w' => e = .returned (.bool true) ∧ Tw w w' B c v' v K (x2 : Int) o) := fun W v o h => by
        have h7 := down_any W h.cu HKS.out
        rw [hd, gone_yes hd, hx2] at h7
        refine h7.mono ?_
        rintro e w' ⟨q1, q2, q3⟩
        exact ⟨q1, h.mv q2 q3⟩
      have HX2 : Hid (x2 < n) := by rw [HN.out] at hx3; exact hx3
      clear hTX hx2 hx3 hd
      go_upto_region 12 with (go_at_call 17; refine Calls.mono (HDW.out _ _ _ HT2.out) ?_; rintro ee W3 ⟨rfl, ht3⟩; have HT3 : Hid (Tw w W3 B c v' (.slice qa o2.length qc) K (x2 : Int) o2) := ht3; clear ht3)
      have HROW : Hid ((W3.alloc (.cells #[.int .u8 32] 5)).ownsRow B 5 1 (.slice qa o2.length qc) o2.length (bC o2)) := HT3.out.ro.alloc _
      have HSA : Hid (B ≤ (W3.alloc (.cells #[.int .u8 32] 5)).heap.size) := Nat.le_trans HT3.out.sz (bel_up W3 _).size
      have HMX : Hid (o2.length + 1 ≤ maxLen ∧ (o2.length + 1) * 1 ≤ 140737488355328) := by have := HLN.out; show _ ∧ _; unfold maxLen; omega
      go_wp2_with (at_builtin; refine wpList_append_own_at _ rfl _ _ 114 rfl B 5 i5 (.int .u8 0) 1 1 Try.underlying114 hi5 hx0 hx1 hx2 rfl (by decide) _ _ _ rfl HROW.out ⟨W3.heap.size, 0, none⟩ 1 1 [.int .u8 32] rfl rfl (cell_b1 _ _ _) (by simp [Value.oneCell']) HMX.out.1 HMX.out.2 HSA.out ?_; intro v5 w5 ho5 hg5 _ ha5; have HO5 : Hid (Byt B w5 v5 (o2 ++ [32])) := byt_app ho5; have HT4 : Hid (Tw w w5 B c v' v5 K (x2 : Int) (o2 ++ [32])) := HT3.out.row (bel_app (Below.refl B W3) HT3.out.sz HT3.out.ro hg5) HO5.out; obtain ⟨ra, rc, rfl⟩ := row_shape ho5; clear ho5 hg5 ha5)
      go_roundg f
      case measure => omega
      case rel => exact ⟨x2, o2 ++ [32], HTX, HX2, HT4⟩
    | false =>
      rw [hd, if_neg (by decide)] at hTX
      have HDW : Hid (∀ W v o, Tw w W B c v' v K (x : Int) o → Calls Try.prog 17 #[.pointer (some ⟨c, 0, none⟩)] W fun e w' => e = .returned (.bool false) ∧ Tw w w' B c v' v K (x : Int) o) := fun W v o h => by
        have h7 := down_any W h.cu HKS.out
        rw [hd, gone_no hd] at h7
        refine h7.mono ?_
        rintro e w' ⟨q1, q2, q3⟩
        exact ⟨q1, h.mv q2 q3⟩
      clear hd
      have HCL : Hid (∀ W v, Byt B W v o2 → B ≤ W.heap.size → Calls Try.prog 68 #[v, nC y] W fun e w' => ∃ v', e = .returned v' ∧ Byt B w' v' (o2 ++ cls y) ∧ Below B W w') := fun W v h1 h2 => appendClose_any y W h1 (by have := HLN.out; omega) h2
      unfold nC at HCL
      have e3 : (x : Int) < (n : Int) := by have := HXN.out; omega
      have e4 : x < n := HXN.out
      have HYC : Hid (∀ W, Below w.heap.size w W → W.cell? ⟨g, oo + x * 7, none⟩ = some (.string y.nm) ∧ W.cell? ⟨g, oo + x * 7 + 1, none⟩ = some (.bool y.nd) ∧ W.cell? ⟨g, oo + x * 7 + 2, none⟩ = some (.string y.fd) ∧ W.cell? ⟨g, oo + x * 7 + 3, none⟩ = some (.int .i64 y.fr) ∧ W.cell? ⟨g, oo + x * 7 + 4, none⟩ = some (.int .i64 y.tt) ∧ W.cell? ⟨g, oo + x * 7 + 5, none⟩ = some (.int .i64 y.kd) ∧ W.cell? ⟨g, oo + x * 7 + 6, none⟩ = some (.int .i64 y.lf)) := fun W hb => by
        obtain ⟨g', o', e0, q⟩ := (HT.out.up hb).all7 x (by rw [HN.out]; exact HXN.out)
        cases e0
        rw [hy] at q
        exact q
      clear hy
      obtain ⟨o3, ho3⟩ : ∃ o3, o2 ++ cls y = o3 := ⟨_, rfl⟩
      rw [ho3] at hTX HCL
      clear ho3
      obtain ⟨R0, hR0⟩ : ∃ R0, txI t K F (x : Int) o3 = R0 := ⟨_, rfl⟩
      rw [hR0] at hTX
      cases R0 with
      | none => cases hTX
      | some R0 =>
        obtain ⟨bb, yy, qq⟩ := R0
        have HRI : Hid (txI t K F (x : Int) o3 = some (bb, yy, qq)) := hR0
        have HTX : Hid ((match (some (bb, yy, qq) : Option (Bool × Int × List UInt8)) with | none => none | some (true, y, q) => txO t K F f y (q ++ [32]) | some (false, _, q) => some q) = some r) := hTX
        have HQL : Hid (qq.length ≤ 70368744177663) := by
          have h6 := HL.out
          cases bb with
          | true => have h7 : txO t K F f yy (qq ++ [32]) = some r := hTX; have h8 := txO_len _ _ _ _ h7; simp only [List.length_append] at h8; show _ ≤ _; omega
          | false => have h7 : some qq = some r := hTX; cases h7; exact h6
        clear hTX hR0
        go_upto_region 7 with (go_at_call 17; refine Calls.mono (HDW.out _ _ _ HT2.out) ?_; rintro ee W3 ⟨rfl, ht3⟩; have HT3 : Hid (Tw w W3 B c v' (.slice qa o2.length qc) K (x : Int) o2) := ht3; clear ht3)
        obtain ⟨d0, d1, d2, d3, d4, d5, d6⟩ := HYC.out _ HT3.out.be
        go_upto_region 8 with first | (go_at_call 13; refine (place_any _ HT3.out.cu).mono ?_; rintro ee ww ⟨rfl, rfl⟩) | (go_at_call 68; refine Calls.mono (HCL.out _ _ HT3.out.ro HT3.out.sz) ?_; rintro ee W4 ⟨v4, rfl, ho4, hb4⟩; have HT4 : Hid (Tw w W4 B c v' v4 K (x : Int) o3) := HT3.out.row hb4 ho4; obtain ⟨ra, rc, rfl⟩ := row_shape ho4; clear ho4 hb4)
        clear d0 d1 d2 d3 d4 d5 d6 e3 e4
        clear HT2 HT3 HYC HCL HDW
        obtain ⟨wo, hwo⟩ : ∃ wo, wo = wr := ⟨_, rfl⟩
        clear hwo
        go_loopg [4] F (fun gm v4 wr => ∃ (x : Nat) (o : List UInt8), Hid (txI t K gm (x : Int) o = some (bb, yy, qq)) ∧ Hid (x < n) ∧ Hid (Tw w wr B c v' v4 K (x : Int) o))
        case atStart => exact ⟨x, o3, HRI, HXN, HT4⟩
        case round =>
          clear HT4 HRI HXN HX HLN
          obtain ⟨x, o, HX, HXN, HTW⟩ := hrel
          obtain ⟨f', hgf⟩ : ∃ f', gk = f' + 1 := by
            cases gk with
            | zero => have h7 := HX.out; cases h7
            | succ f => exact ⟨f, rfl⟩
          subst hgf
          obtain ⟨va, vc, hv⟩ := row_shape HTW.out.ro
          subst hv
          have hTX := HX.out
          unfold txI at hTX
          cases hb : goes (bsd K (x : Int)) with
          | true =>
            rw [hb, if_pos rfl] at hTX
            obtain ⟨rfl, rfl, hqo⟩ : true = bb ∧ bsd K (x : Int) = yy ∧ o = qq := by have h7 := Option.some.inj hTX; exact ⟨congrArg (·.1) h7, congrArg (·.2.1) h7, congrArg (·.2.2) h7⟩
            rw [← hqo] at HTX HQL
            clear hTX hqo
            obtain ⟨x2, hx2, hx3⟩ := goes_bsd HF.out x (by rw [HN.out]; exact HXN.out) (by rw [HKK.out]; exact hb)
            rw [HKK.out] at hx2
            rw [hx2] at HTX
            have HTX2 : Hid (txO t K F f (x2 : Int) (o ++ [32]) = some r) := HTX.out
            have HMV : Hid (∀ W v o, Tw w W B c v' v K (x : Int) o → Calls Try.prog 19 #[.pointer (some ⟨c, 0, none⟩)] W fun e w' => e = .returned (.bool true) ∧ Tw w w' B c v' v K (x2 : Int) o) := fun W v o h => by
              have h7 := next_any W h.cu HKS.out
              rw [hb, gone_yes hb, hx2] at h7
              refine h7.mono ?_
              rintro e w' ⟨q1, q2, q3⟩
              exact ⟨q1, h.mv q2 q3⟩
            have HX2 : Hid (x2 < n) := by rw [HN.out] at hx3; exact hx3
            clear hx2 hx3 hb HTX
            go_upto_region 12 with (go_at_call 19; refine Calls.mono (HMV.out _ _ _ HTW.out) ?_; rintro ee W3 ⟨rfl, ht3⟩; have HT3 : Hid (Tw w W3 B c v' (.slice va o.length vc) K (x2 : Int) o) := ht3; clear ht3)
            have HROW : Hid ((W3.alloc (.cells #[.int .u8 32] 5)).ownsRow B 5 1 (.slice va o.length vc) o.length (bC o)) := HT3.out.ro.alloc _
            have HSA : Hid (B ≤ (W3.alloc (.cells #[.int .u8 32] 5)).heap.size) := Nat.le_trans HT3.out.sz (bel_up W3 _).size
            have HMX : Hid (o.length + 1 ≤ maxLen ∧ (o.length + 1) * 1 ≤ 140737488355328) := by have := HQL.out; show _ ∧ _; unfold maxLen; omega
            go_wp2_with (at_builtin; refine wpList_append_own_at _ rfl _ _ 114 rfl B 5 i5 (.int .u8 0) 1 1 Try.underlying114 hi5 hx0 hx1 hx2 rfl (by decide) _ _ _ rfl HROW.out ⟨W3.heap.size, 0, none⟩ 1 1 [.int .u8 32] rfl rfl (cell_b1 _ _ _) (by simp [Value.oneCell']) HMX.out.1 HMX.out.2 HSA.out ?_; intro v5 w5 ho5 hg5 _ ha5; have HO5 : Hid (Byt B w5 v5 (o ++ [32])) := byt_app ho5; have HT5 : Hid (Tw w w5 B c v' v5 K (x2 : Int) (o ++ [32])) := HT3.out.row (bel_app (Below.refl B W3) HT3.out.sz HT3.out.ro hg5) HO5.out; obtain ⟨ra, rc, rfl⟩ := row_shape ho5; clear ho5 hg5 ha5)
            go_roundg f
            case measure => omega
            case rel => exact ⟨x2, o ++ [32], HTX2, HX2, HT5⟩
          | false =>
            rw [hb, if_neg (by decide)] at hTX
            have HMV : Hid (∀ W v o, Tw w W B c v' v K (x : Int) o → Calls Try.prog 19 #[.pointer (some ⟨c, 0, none⟩)] W fun e w' => e = .returned (.bool false) ∧ Tw w w' B c v' v K (x : Int) o) := fun W v o h => by
              have h7 := next_any W h.cu HKS.out
              rw [hb, gone_no hb] at h7
              refine h7.mono ?_
              rintro e w' ⟨q1, q2, q3⟩
              exact ⟨q1, h.mv q2 q3⟩
            clear hb
            cases hu : goes (abv K (x : Int)) with
            | true =>
              rw [hu, if_pos rfl] at hTX
              obtain ⟨x2, hx2, hx3⟩ := goes_abv HF.out x (by rw [HN.out]; exact HXN.out) (by rw [HKK.out]; exact hu)
              rw [HKK.out] at hx2
              rw [hx2] at hTX
              have eA0 : ndA t (x2 : Int) = t.getD x2 ndd := rfl
              rw [eA0] at hTX
              obtain ⟨y, hy⟩ : ∃ y, t.getD x2 ndd = y := ⟨_, rfl⟩
              rw [hy] at hTX
              obtain ⟨o3, ho3⟩ : ∃ o3, o ++ cls y = o3 := ⟨_, rfl⟩
              rw [ho3] at hTX
              have HTI : Hid (txI t K f' (x2 : Int) o3 = some (bb, yy, qq)) := hTX
              have HOL : Hid (o.length ≤ 70368744177663) := by have h8 := txI_len _ _ _ _ _ _ hTX; rw [← ho3, List.length_append] at h8; have := HQL.out; show _ ≤ _; omega
              have HUP : Hid (∀ W v o, Tw w W B c v' v K (x : Int) o → Calls Try.prog 21 #[.pointer (some ⟨c, 0, none⟩)] W fun e w' => e = .returned (.bool true) ∧ Tw w w' B c v' v K (x2 : Int) o) := fun W v o h => by
                have h7 := up_any W h.cu HKS.out
                rw [hu, gone_yes hu, hx2] at h7
                refine h7.mono ?_
                rintro e w' ⟨q1, q2, q3⟩
                exact ⟨q1, h.mv q2 q3⟩
              have HX2 : Hid (x2 < n) := by rw [HN.out] at hx3; exact hx3
              have HCL : Hid (∀ W v, Byt B W v o → B ≤ W.heap.size → Calls Try.prog 68 #[v, nC y] W fun e w' => ∃ v', e = .returned v' ∧ Byt B w' v' o3 ∧ Below B W w') := fun W v h1 h2 => by rw [← ho3]; exact appendClose_any y W h1 (by have := HOL.out; omega) h2
              unfold nC at HCL
              have HYC : Hid (∀ W, Below w.heap.size w W → W.cell? ⟨g, oo + x2 * 7, none⟩ = some (.string y.nm) ∧ W.cell? ⟨g, oo + x2 * 7 + 1, none⟩ = some (.bool y.nd) ∧ W.cell? ⟨g, oo + x2 * 7 + 2, none⟩ = some (.string y.fd) ∧ W.cell? ⟨g, oo + x2 * 7 + 3, none⟩ = some (.int .i64 y.fr) ∧ W.cell? ⟨g, oo + x2 * 7 + 4, none⟩ = some (.int .i64 y.tt) ∧ W.cell? ⟨g, oo + x2 * 7 + 5, none⟩ = some (.int .i64 y.kd) ∧ W.cell? ⟨g, oo + x2 * 7 + 6, none⟩ = some (.int .i64 y.lf)) := fun W hb => by
                obtain ⟨g', o', e0, q⟩ := (HT.out.up hb).all7 x2 (by rw [HN.out]; exact HX2.out)
                cases e0
                rw [hy] at q
                exact q
              have e3 : (x2 : Int) < (n : Int) := by have := HX2.out; omega
              have e4 : x2 < n := HX2.out
              clear hTX hx2 hx3 hu eA0 hy ho3
              go_upto_region 11 with first | (go_at_call 19; refine Calls.mono (HMV.out _ _ _ HTW.out) ?_; rintro ee W3 ⟨rfl, ht3⟩; have HT3 : Hid (Tw w W3 B c v' (.slice va o.length vc) K (x : Int) o) := ht3; clear ht3) | (go_at_call 21; refine Calls.mono (HUP.out _ _ _ HT3.out) ?_; rintro ee W4 ⟨rfl, ht4⟩; have HT4 : Hid (Tw w W4 B c v' (.slice va o.length vc) K (x2 : Int) o) := ht4; clear ht4)
              obtain ⟨d0, d1, d2, d3, d4, d5, d6⟩ := HYC.out _ HT4.out.be
              go_wp2_with first | (go_at_call 13; refine (place_any _ HT4.out.cu).mono ?_; rintro ee ww ⟨rfl, rfl⟩) | (go_at_call 68; refine Calls.mono (HCL.out _ _ HT4.out.ro HT4.out.sz) ?_; rintro ee W5 ⟨v5, rfl, ho5, hb5⟩; have HT5 : Hid (Tw w W5 B c v' v5 K (x2 : Int) o3) := HT4.out.row hb5 ho5; obtain ⟨ra, rc, rfl⟩ := row_shape ho5; clear ho5 hb5)
              go_roundg f'
              case measure => omega
              case rel => exact ⟨x2, o3, HTI, HX2, HT5⟩
            | false =>
              rw [hu, if_neg (by decide)] at hTX
              obtain ⟨rfl, rfl, hqo⟩ : false = bb ∧ (x : Int) = yy ∧ o = qq := by have h7 := Option.some.inj hTX; exact ⟨congrArg (·.1) h7, congrArg (·.2.1) h7, congrArg (·.2.2) h7⟩
              rw [← hqo] at HTX HQL
              clear hTX hqo
              have HRE : Hid (o = r) := by have h7 : some o = some r := HTX.out; exact Option.some.inj h7
              have HUP : Hid (∀ W v o, Tw w W B c v' v K (x : Int) o → Calls Try.prog 21 #[.pointer (some ⟨c, 0, none⟩)] W fun e w' => e = .returned (.bool false) ∧ Tw w w' B c v' v K (x : Int) o) := fun W v o h => by
                have h7 := up_any W h.cu HKS.out
                rw [hu, gone_no hu] at h7
                refine h7.mono ?_
                rintro e w' ⟨q1, q2, q3⟩
                exact ⟨q1, h.mv q2 q3⟩
              clear hu HTX
              go_upto_region 10 with first | (go_at_call 19; refine Calls.mono (HMV.out _ _ _ HTW.out) ?_; rintro ee W3 ⟨rfl, ht3⟩; have HT3 : Hid (Tw w W3 B c v' (.slice va o.length vc) K (x : Int) o) := ht3; clear ht3) | (go_at_call 21; refine Calls.mono (HUP.out _ _ _ HT3.out) ?_; rintro ee W4 ⟨rfl, ht4⟩; have HT4 : Hid (Tw w W4 B c v' (.slice va o.length vc) K (x : Int) o) := ht4; clear ht4)
              have hcv := byt_conv HT4.out.ro
              go_wp2_with fail
              go_ret
              exact ⟨by rw [← HRE.out]; rfl, HT4.out.be⟩
end Go.Proofs.Ytcfmpmhdjkchjaa
