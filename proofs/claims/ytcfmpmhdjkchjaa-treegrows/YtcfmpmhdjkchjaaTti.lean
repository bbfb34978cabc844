import Derived.Test.YtcfmpmhdjkchjaaTkd
namespace Go.Proofs.Ytcfmpmhdjkchjaa
open Go.RowKit Go.Maps

/-- A knot: parent, behind. -/
def kf (x : Int × Int) : List Value := [.int .i64 x.1, .int .i64 x.2]
def knd : Int × Int := (0, 0)
theorem kf_len (x : Int × Int) : (kf x).length = 2 := rfl
theorem kf_one (x : Int × Int) : ∀ u ∈ kf x, u.oneCell' = true := fun u hu => by
  simp only [kf, List.mem_cons, List.not_mem_nil, or_false] at hu
  rcases hu with rfl | rfl <;> rfl
theorem flat_set {α : Type} {f : α → List Value} (l : List α) (i : Nat) (x : α) (n j : Nat) (v : Value) (hf : ∀ x, (f x).length = n) (hi : i < l.length) (d : α) (hj : j < n) (hx : (f (l.getD i d)).set j v = f x) : (flat f l).set (i * n + j) v = flat f (l.set i x) := by
  induction l generalizing i with
  | nil => simp at hi
  | cons y l ih =>
    cases i with
    | zero =>
      show (f y ++ flat f l).set _ _ = f x ++ flat f l
      rw [Nat.zero_mul, Nat.zero_add, List.set_append_left _ _ (by rw [hf]; exact hj)]
      congr 1
    | succ i =>
      show (f y ++ flat f l).set _ _ = f y ++ flat f (l.set i x)
      rw [List.set_append_right _ _ (by rw [hf, Nat.succ_mul]; omega), hf, show (i + 1) * n + j - n = i * n + j by rw [Nat.succ_mul]; omega, ih i (by simpa using hi) hx]
/-- The knots of a list. -/
def kns (t : List Nd) : List (Int × Int) := match rt (kds t) with
  | none => []
  | some _ => (List.range t.length).map fun c => (pl (kds t) c, ((eA (kds t) c : Nat) : Int))
/-- The parents that are known when the nodes from a place on are tied. -/
def pk (l : List Int) (k c : Nat) : Int := if (k : Int) ≤ pl l c then pl l c else -1
/-- And when of that node some children are tied. -/
def pm (l : List Int) (p x c : Nat) : Int := if (p : Int) < pl l c then pl l c else if pl l c = (p : Int) ∧ c < x then (p : Int) else -1
theorem pm_start {l : List Int} {p c : Nat} (hc : p < c) : pm l p (p + 1) c = pk l (p + 1) c := by
  unfold pm pk
  by_cases h : (p : Int) < pl l c
  · rw [if_pos h, if_pos (by omega)]
  · rw [if_neg h, if_neg (by omega), if_neg (by omega)]
theorem pm_end {l : List Int} (h : Fo l) {p c : Nat} (hc : c < l.length) : pm l p (eA l p) c = pk l p c := by
  unfold pm pk
  by_cases h1 : (p : Int) < pl l c
  · rw [if_pos h1, if_pos (by omega)]
  · rw [if_neg h1]
    by_cases h2 : pl l c = (p : Int)
    · rcases pl_is h c hc with ⟨h3, _⟩ | ⟨q, i, h3, _, h4⟩
      · omega
      · have : q = p := by omega
        subst this
        rw [if_pos ⟨h2, (h4.in h).2.2.2.1⟩, if_pos (by omega)]; omega
    · rw [if_neg (fun e => h2 e.1), if_neg (by omega)]
theorem pm_at {l : List Int} (h : Fo l) {p i k : Nat} (hk : Ch l p i k) : pm l p (eA l k) k = (p : Int) := by
  unfold pm
  rw [pl_ch h hk, if_neg (by omega), if_pos ⟨rfl, (hk.in h).2.2.2.2.1⟩]
theorem pm_step {l : List Int} (h : Fo l) {p i k c : Nat} (hk : Ch l p i k) (hc : c < l.length) (hne : c ≠ k) : pm l p (eA l k) c = pm l p k c := by
  unfold pm
  by_cases h1 : (p : Int) < pl l c
  · rw [if_pos h1, if_pos h1]
  · rw [if_neg h1, if_neg h1]
    by_cases h2 : pl l c = (p : Int)
    · rcases pl_is h c hc with ⟨h3, _⟩ | ⟨q, j, h3, _, h4⟩
      · omega
      · have : q = p := by omega
        subst this
        obtain ⟨hq, hj, hw⟩ := h4
        obtain ⟨_, hi, hw2⟩ := hk
        have s := (h.step q hq).2.2.1
        have hn := h.next (q + 1) i (by omega)
        rw [hw2] at hn
        rcases Nat.lt_trichotomy j i with hl | hl | hl
        · have := h.mono (q + 1) j i (by omega) (by omega) (by omega)
          have := h.mono (q + 1) j (i + 1) (by omega) (by omega) (by omega)
          rw [if_pos ⟨h2, by omega⟩, if_pos ⟨h2, by omega⟩]
        · subst hl; omega
        · have := h.mono (q + 1) (i + 1) j (by omega) (by omega) (by omega)
          have := h.mono (q + 1) i j (by omega) (by omega) (by omega)
          rw [if_neg (by omega), if_neg (by omega)]
    · rw [if_neg (fun e => h2 e.1), if_neg (fun e => h2 e.1)]
theorem pk_self {l : List Int} (h : Fo l) {p : Nat} (hp : p < l.length) : pk l p p = -1 := by
  unfold pk
  rcases pl_is h p hp with ⟨h1, _⟩ | ⟨q, i, h1, h2, _⟩
  · rw [if_neg (by omega)]
  · rw [if_neg (by omega)]
theorem pk_zero {l : List Int} (h : Fo l) {p : Nat} (hp : p < l.length) : pk l 0 p = pl l p := by
  unfold pk
  rcases pl_is h p hp with ⟨h1, _⟩ | ⟨q, i, h1, h2, _⟩
  · rw [if_neg (by omega), h1]
  · rw [if_pos (by omega)]
theorem set_getD {α : Type} (l : List α) (i j : Nat) (x d : α) (hi : i < l.length) : (l.set i x).getD j d = if j = i then x else l.getD j d := by
  rw [List.getD_eq_getElem?_getD, List.getD_eq_getElem?_getD, List.getElem?_set]
  by_cases h : i = j
  · subst h; simp [hi]
  · rw [if_neg h, if_neg (fun e => h e.symm)]
/-- The knots while they are tied. -/
structure Kt (l : List Int) (K : List (Int × Int)) (n : Nat) (lo : Nat) (f : Nat → Int) : Prop where
  len : K.length = n
  at_ : ∀ c, lo ≤ c → c < n → K.getD c knd = (f c, ((eA l c : Nat) : Int))
theorem Kt.kid {l : List Int} {K : List (Int × Int)} {n p i k : Nat} (h : Fo l) (hl : l.length = n) (hK : Kt l K n (p + 1) (pm l p k)) (hk : Ch l p i k) : Kt l (K.set k ((p : Int), ((eA l k : Nat) : Int))) n (p + 1) (pm l p (eA l k)) := by
  have hkn := (hk.in h).2.1
  refine ⟨by rw [List.length_set]; exact hK.len, fun c hc hcn => ?_⟩
  rw [set_getD _ _ _ _ _ (by rw [hK.len]; omega)]
  by_cases e : c = k
  · rw [if_pos e, e, pm_at h hk]
  · rw [if_neg e, hK.at_ c hc hcn, pm_step h hk (by omega) e]
theorem Kt.self {l : List Int} {K : List (Int × Int)} {n p : Nat} (h : Fo l) (hl : l.length = n) (hp : p < n) (hK : Kt l K n (p + 1) (pm l p (eA l p))) : Kt l (K.set p (-1, ((eA l p : Nat) : Int))) n p (pk l p) := by
  refine ⟨by rw [List.length_set]; exact hK.len, fun c hc hcn => ?_⟩
  rw [set_getD _ _ _ _ _ (by rw [hK.len]; omega)]
  by_cases e : c = p
  · rw [if_pos e, e, pk_self h (by omega)]
  · rw [if_neg e, hK.at_ c (by omega) hcn, pm_end h (by omega)]
theorem Kt.begin {l : List Int} {K : List (Int × Int)} {n p : Nat} (hK : Kt l K n (p + 1) (pk l (p + 1))) : Kt l K n (p + 1) (pm l p (p + 1)) :=
  ⟨hK.len, fun c hc hcn => by rw [hK.at_ c hc hcn, pm_start (by omega)]⟩
theorem list_ext {α : Type} {l k : List α} (d : α) (hl : l.length = k.length) (h : ∀ i, i < l.length → l.getD i d = k.getD i d) : l = k := by
  refine List.ext_getElem hl fun i h1 h2 => ?_
  have := h i h1
  rw [List.getD_eq_getElem?_getD, List.getD_eq_getElem?_getD, List.getElem?_eq_getElem h1, List.getElem?_eq_getElem h2] at this
  exact this
theorem Kt.done {t : List Nd} {K : List (Int × Int)} (h : Fo (kds t)) (hK : Kt (kds t) K t.length 0 (pk (kds t) 0)) : K = kns t := by
  obtain ⟨r, hr⟩ := h
  have e : kns t = (List.range t.length).map fun c => (pl (kds t) c, ((eA (kds t) c : Nat) : Int)) := by unfold kns; rw [hr]
  rw [e]
  refine list_ext knd (by rw [hK.len]; simp) fun i hi => ?_
  rw [hK.len] at hi
  rw [hK.at_ i (by omega) hi, List.getD_eq_getElem?_getD, List.getElem?_map, List.getElem?_range hi, pk_zero ⟨r, hr⟩ (by rw [kds_len]; exact hi)]
  rfl
theorem kf_get (l : List (Int × Int)) (i : Nat) (h : i < l.length) : (flat kf l)[i * 2]? = some (.int .i64 (l.getD i knd).1) ∧ (flat kf l)[i * 2 + 1]? = some (.int .i64 (l.getD i knd).2) :=
  ⟨flat_get kf_len knd l i 0 h (by decide), flat_get kf_len knd l i 1 h (by decide)⟩
/-- Knots of the call's own. -/
abbrev Ok (B : Nat) (W : World) (g n : Nat) (K : List (Int × Int)) : Prop := W.ownsRow B 110 2 (.slice (some ⟨g, 0, none⟩) n n) n (flat kf K)
theorem row_froz {W : World} {B : Nat} {e : TypeId} {size n m g cap : Nat} {xs : List Value} (h : W.ownsRow B e size (.slice (some ⟨g, 0, none⟩) n cap) m xs) (k : Nat) : W.frozen? ⟨g, k, none⟩ = false := by
  obtain ⟨_, cur, hh⟩ := row_tag h g rfl
  exact Lib.frozen_of_heap hh k
theorem Ok.par {B : Nat} {W : World} {g n : Nat} {K : List (Int × Int)} (h : Ok B W g n K) (hK : K.length = n) (c : Nat) (hc : c < n) (z : Int) : Ok B (W.setCell ⟨g, c * 2, none⟩ (.int .i64 z)) g n (K.set c (z, (K.getD c knd).2)) := by
  have := row_set h (c * 2) (.int .i64 z)
  unfold Ok
  rw [← flat_set (f := kf) K c (z, (K.getD c knd).2) 2 0 (.int .i64 z) kf_len (by omega) knd (by decide) rfl]
  exact this
theorem Ok.put {B : Nat} {W : World} {g n : Nat} {K : List (Int × Int)} (h : Ok B W g n K) (hK : K.length = n) (c : Nat) (hc : c < n) (z y : Int) : Ok B ((W.setCell ⟨g, c * 2, none⟩ (.int .i64 z)).setCell ⟨g, c * 2 + 1, none⟩ (.int .i64 y)) g n (K.set c (z, y)) := by
  have h1 := h.par hK c hc z
  have := row_set h1 (c * 2 + 1) (.int .i64 y)
  have e : (K.set c (z, (K.getD c knd).2)).set c (z, y) = K.set c (z, y) := by rw [List.set_set]
  unfold Ok
  rw [← e, ← flat_set (f := kf) (K.set c (z, (K.getD c knd).2)) c (z, y) 2 1 (.int .i64 y) kf_len (by rw [List.length_set]; omega) knd (by decide) (by rw [set_getD _ _ _ _ _ (by omega), if_pos rfl]; rfl)]
  exact this
theorem made_knots (n : Nat) : (madeCells (Value.agg #[.int .i64 0, .int .i64 0]).cells (n * 2)).toList = flat kf (List.replicate n knd) := by
  refine List.ext_getElem? fun k => ?_
  by_cases hk : k < n * 2
  · have h1 := flat_get kf_len knd (List.replicate n knd) (k / 2) (k % 2) (by simp; omega) (by omega)
    rw [show k / 2 * 2 + k % 2 = k by omega] at h1
    rw [h1]
    have h2 : (List.replicate n knd).getD (k / 2) knd = knd := by
      rw [List.getD_eq_getElem?_getD, List.getElem?_replicate]; split <;> rfl
    rw [h2]
    have h3 : (Value.agg #[.int .i64 0, .int .i64 0]).cells = #[.int .i64 0, .int .i64 0] := by kernel_rfl
    rw [h3]
    rcases Nat.mod_two_eq_zero_or_one k with e | e
    · simp [madeCells, hk, e, kf, knd]
    · simp [madeCells, hk, e, kf, knd]
  · rw [List.getElem?_eq_none (by simp [size_madeCells]; omega), List.getElem?_eq_none (by rw [flat_len kf_len]; simp; omega)]
set_option maxRecDepth 100000 in
set_option maxHeartbeats 8000000 in
theorem tied_any {v : Value} {t : List Nd} (w : World) (h : Ns w v t) (hs : Sm t) :
    Calls Try.prog 39 #[v] w fun e w' => ∃ v', e = .returned v' ∧ w'.ownsRow w.heap.size 110 2 v' (kns t).length (flat kf (kns t)) ∧ Below w.heap.size w w' := by
  obtain ⟨i3, hi3, hx0, hx1, hx2⟩ := info_parts infoKn
  have HT : Hid (Ns w v t) := h
  have HS : Hid (Sm t) := hs
  obtain ⟨a, cap, rfl⟩ := h.form
  clear h hs
  rcases @rts_fo t with ⟨r, hr, hr2⟩ | ⟨hr, hr2⟩
  · have HR : Hid (rts t = (r : Int)) := hr2
    have HF : Hid (Fo (kds t)) := ⟨r, hr⟩
    obtain ⟨n, hn⟩ : ∃ n, t.length = n := ⟨_, rfl⟩
    have HN : Hid (t.length = n) := hn
    rw [hn] at HT ⊢
    have HSZ : Hid (n * 72 + 4096 ≤ 140737488355328) := by have := HS.out; unfold Sm at this; rw [hn] at this; exact this
    clear hn hr hr2
    have e0 : decide ((r : Int) < 0) = false := by rw [decide_eq_false_iff_not]; omega
    have hw0 : IntKind.i64.wrap ((n : Int) - 1) = (n : Int) - 1 := w64 _ (by omega) (by have := HSZ.out; omega)
    obtain ⟨z0, hz0⟩ : ∃ z0, (n : Int) - 1 = z0 := ⟨_, rfl⟩
    have HZ0 : Hid ((n : Int) - 1 = z0) := hz0
    have hw1 : IntKind.i64.wrap ((n : Int) - 1) = z0 := by rw [hw0]; exact hz0
    clear hz0 hw0
    go_enter Try.func39, Try.ntmps39
    go_upto_region 5 with first | (go_at_call 25; refine (roots_any _ HT.out HS.out).mono ?_; rintro ee ww ⟨rfl, rfl⟩; rw [HR.out]) | (refine wpList_make_full _ rfl _ _ 77 rfl w.heap.size 110 i3 _ 2 Try.underlying77 hi3 hx0 hx1 .i64 .i64 _ _ n rfl rfl rfl rfl (by rw [hx2]; have := HSZ.out; omega) (by have := HSZ.out; unfold maxLen; omega) (Nat.le_refl _) ?_; intro w1 ho1 hg1; have HO1 : Hid (Ok w.heap.size w1 w.heap.size n (List.replicate n knd)) := (by unfold Ok; rw [← made_knots]; exact ho1); have HB1 : Hid (Below w.heap.size w w1) := (Below.refl _ _).grown hg1 (Nat.le_refl _) (fun r hr => by cases hr); clear ho1 hg1)
    clear hw1 e0
    go_loopg [4] n (fun gm v4 wr => ∃ (k : Nat) (z : Int) (K : List (Int × Int)), v4 = .int .i64 z ∧ Hid (z = (k : Int) - 1) ∧ Hid (gm = k ∧ k ≤ n) ∧ Hid (Ok w.heap.size wr w.heap.size n K) ∧ Hid (Kt (kds t) K n k (pk (kds t) k)) ∧ Hid (Below w.heap.size w wr))
    case atStart => exact ⟨n, z0, _, rfl, HZ0.out.symm, ⟨rfl, Nat.le_refl _⟩, HO1, ⟨by simp, fun c h1 h2 => by omega⟩, HB1⟩
    case round =>
      clear HO1 HB1 HZ0
      obtain ⟨k, z, K, rfl, HZ, HI, HO, HK, HBW⟩ := hrel
      cases k with
      | zero =>
        have e1 : z = -1 := by have := HZ.out; omega
        subst e1
        have HE : Hid (K = kns t) := HK.out |> fun h => Kt.done HF.out (by rw [HN.out]; exact h)
        go_wp2_with fail
        go_ret
        exact ⟨_, rfl, by rw [← HE.out, HK.out.len]; exact HO.out, HBW.out⟩
      | succ p =>
        have e1 : z = (p : Int) := by have := HZ.out; omega
        subst e1
        clear HZ
        have hp : p < t.length := by have := HI.out; have := HN.out; omega
        obtain ⟨g, o, rfl, hc⟩ := HT.out.kid p hp
        obtain ⟨s1, s2, s3, s4⟩ := HF.out.step p (by rw [kds_len]; exact hp)
        rw [← kds_get, s2] at hc
        have hc := below_cell HBW.out hc
        have e2 : decide ((0 : Int) ≤ (p : Int)) = true := by rw [decide_eq_true_eq]; omega
        have e3 : (p : Int) < (n : Int) := by have := HN.out; omega
        have e4 : p < n := by omega
        have HP : Hid (p < n) := e4
        have HY : Hid (kA (kds t) p ≤ n ∧ kA (kds t) p ≤ rA (kds t) (p + 1)) := by
          have h2 := HF.out.le (p + 1)
          have h3 := HN.out
          rw [kds_len] at h2
          show _ ∧ _; omega
        have HEP : Hid (eA (kds t) p = wA (kds t) (p + 1) (kA (kds t) p)) := HF.out.eq p (by rw [kds_len]; exact hp)
        have HKY : Hid (∀ i, i < kA (kds t) p → Ch (kds t) p i (wA (kds t) (p + 1) i)) := fun i hi => ⟨by rw [kds_len]; exact hp, hi, rfl⟩
        obtain ⟨y, hy⟩ : ∃ y, kA (kds t) p = y := ⟨_, rfl⟩
        rw [hy] at hc HY HEP HKY
        have hw0 : IntKind.i64.wrap ((p : Int) + 1) = ((p + 1 : Nat) : Int) := w64n p (by have := HSZ.out; omega)
        obtain ⟨c1, hc1⟩ : ∃ c1, p + 1 = c1 := ⟨_, rfl⟩
        rw [hc1] at hw0
        have HC1 : Hid (p + 1 = c1) := hc1
        clear s1 s2 s3 s4 hy hp hc1
        go_upto_region 9 with fail
        clear hw0 e2 hc
        obtain ⟨wo, hwo⟩ : ∃ wo, wo = wr := ⟨_, rfl⟩
        rw [← hwo] at HO HBW ⊢
        clear hwo
        go_loopg [5, 26] y (fun gm v5 v26 wr => ∃ (i k : Nat) (K : List (Int × Int)), v5 = .int .i64 (k : Int) ∧ v26 = .int .i64 (i : Int) ∧ Hid (gm = y - i ∧ i ≤ y) ∧ Hid (k = wA (kds t) (p + 1) i) ∧ Hid (Ok w.heap.size wr w.heap.size n K) ∧ Hid (Kt (kds t) K n (p + 1) (pm (kds t) p k)) ∧ Hid (Below w.heap.size w wr))
        case atStart => exact ⟨0, c1, K, rfl, rfl, ⟨rfl, Nat.zero_le _⟩, by rw [wA_zero]; exact HC1.out.symm, HO, by rw [← HC1.out]; exact HK.out.begin, HBW⟩
        case round =>
          clear HO HK HBW
          obtain ⟨i, k, K, rfl, rfl, HJ, HKK, HO, HK, HBW⟩ := hrel
          by_cases hi : i < y
          · have f1 : decide ((i : Int) < (y : Int)) = true := by rw [decide_eq_true_eq]; omega
            have f2 : decide (i < y) = true := by rw [decide_eq_true_eq]; omega
            have HIM : Hid (i < y) := hi
            have hch : Ch (kds t) p i k := by rw [HKK.out]; exact HKY.out i hi
            have hkn : k < n := by have := (hch.in HF.out).2.1; rw [kds_len, HN.out] at this; exact this
            have f3 : (k : Int) < (n : Int) := by omega
            have hg := HK.out.at_ k (by have := (hch.in HF.out).1; omega) hkn
            have q := kf_get K k (by rw [HK.out.len]; exact hkn)
            rw [hg] at q
            have HNX : Hid (eA (kds t) k = wA (kds t) (p + 1) (i + 1)) := by
              have := (hch.in HF.out).2.2.2.2.2
              exact this.symm
            have HK2 : Hid (Kt (kds t) (K.set k ((p : Int), (K.getD k knd).2)) n (p + 1) (pm (kds t) p (eA (kds t) k))) := by rw [hg]; exact HK.out.kid HF.out (by rw [kds_len, HN.out]) hch
            have HO2 : Hid (Ok w.heap.size (wr.setCell ⟨w.heap.size, k * 2, none⟩ (.int .i64 (p : Int))) w.heap.size n (K.set k ((p : Int), (K.getD k knd).2))) := HO.out.par HK.out.len k hkn _
            have d1 := row_at HO.out (k * 2) _ q.1
            have d2 := row_at HO.out (k * 2 + 1) _ q.2
            have d3 := row_froz HO.out (k * 2)
            have hwi := w64n i (by have := HSZ.out; have := HY.out; omega)
            have HBW2 : Hid (Below w.heap.size w (wr.setCell ⟨w.heap.size, k * 2, none⟩ (.int .i64 (p : Int)))) := HBW.out.setCell (p := ⟨w.heap.size, k * 2, none⟩) (Nat.le_refl _) _
            obtain ⟨E, hE⟩ : ∃ E, eA (kds t) k = E := ⟨_, rfl⟩
            rw [hE] at HNX HK2 d2
            clear hi hch hg q hE
            go_wp2_with fail
            go_roundg (y - (i + 1))
            case measure => have := HJ.out.1; have := HIM.out; omega
            case rel => exact ⟨i + 1, E, _, rfl, by first | rfl | (rw [show (i : Int) + 1 = ((i + 1 : Nat) : Int) by omega]), ⟨rfl, HIM.out⟩, HNX.out, HO2.out, HK2.out, HBW2.out⟩
          · have f1 : decide ((i : Int) < (y : Int)) = false := by rw [decide_eq_false_iff_not]; omega
            have f2 : decide (i < y) = false := by rw [decide_eq_false_iff_not]; omega
            have HIN : Hid (i = y) := by have := HJ.out; show i = y; omega
            have HKE : Hid (k = eA (kds t) p) := by have := HKK.out; rw [HIN.out] at this; rw [HEP.out]; exact this
            have HK2 : Hid (Kt (kds t) (K.set p (-1, (k : Int))) n p (pk (kds t) p)) := by have h1 := HK.out; rw [HKE.out] at h1 ⊢; exact h1.self HF.out (by rw [kds_len, HN.out]) HP.out
            have HO2 : Hid (Ok w.heap.size ((wr.setCell ⟨w.heap.size, p * 2, none⟩ (.int .i64 (-1))).setCell ⟨w.heap.size, p * 2 + 1, none⟩ (.int .i64 (k : Int))) w.heap.size n (K.set p (-1, (k : Int)))) := HO.out.put HK.out.len p HP.out _ _
            have q := kf_get K p (by rw [HK.out.len]; exact HP.out)
            have d1 := row_at HO.out (p * 2) _ q.1
            have d2 := row_at HO.out (p * 2 + 1) _ q.2
            have d3 := row_froz HO.out (p * 2)
            have d4 := row_froz HO.out (p * 2 + 1)
            have hC : IntKind.i64.wrap ((p : Int) - 1) = (p : Int) - 1 := w64 _ (by omega) (by have := HSZ.out; omega)
            have HBW2 : Hid (Below w.heap.size w ((wr.setCell ⟨w.heap.size, p * 2, none⟩ (.int .i64 (-1))).setCell ⟨w.heap.size, p * 2 + 1, none⟩ (.int .i64 (k : Int)))) := (HBW.out.setCell (p := ⟨w.heap.size, p * 2, none⟩) (Nat.le_refl _) _).setCell (p := ⟨w.heap.size, p * 2 + 1, none⟩) (Nat.le_refl _) _
            clear hi q
            go_wp2_with fail
            go_roundg p
            case measure => have := HI.out.1; omega
            case rel => exact ⟨p, _, _, rfl, rfl, ⟨rfl, by have := HP.out; omega⟩, HO2.out, HK2.out, HBW2.out⟩
  · have HR : Hid (rts t = -1) := hr2
    have HE : Hid (kns t = []) := by show _ = _; unfold kns; rw [hr]
    clear hr hr2
    go_enter Try.func39, Try.ntmps39
    go_wp2_with (go_at_call 25; refine (roots_any _ HT.out HS.out).mono ?_; rintro ee ww ⟨rfl, rfl⟩; rw [HR.out])
    go_ret
    exact ⟨_, rfl, by rw [HE.out]; exact World.ownsRow_nil _ _ _ _, Below.refl _ _⟩
end Go.Proofs.Ytcfmpmhdjkchjaa
