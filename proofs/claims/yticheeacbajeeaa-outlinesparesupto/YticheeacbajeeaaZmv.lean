import Derived.Test.YticheeacbajeeaaOft
import Derived.Test.YticheeacbajeeaaOsm
namespace Go.Proofs.Yticheeacbajeeaa
open Go.RowKit Go.Maps

/-- A line end ahead of a text. -/
def nl1 (s : ByteArray) : ByteArray := ⟨#[10]⟩ ++ s
theorem nl1_size (s : ByteArray) : (nl1 s).size = s.size + 1 := by
  unfold nl1
  rw [ByteArray.size_append]
  show 1 + s.size = _
  omega
theorem nl1_data (s : ByteArray) : (nl1 s).data = #[10] ++ s.data := by unfold nl1; rw [ByteArray.data_append]
theorem get_data (s : ByteArray) (i : Nat) : s.get! i = s.data.getD i 0 := by
  obtain ⟨d⟩ := s
  rfl
theorem nl1_zero (s : ByteArray) : (nl1 s).get! 0 = 10 := by
  rw [get_data, nl1_data, Array.getD_eq_getD_getElem?, Array.getElem?_append_left (by decide)]
  rfl
theorem nl1_get (s : ByteArray) (i : Nat) : (nl1 s).get! (i + 1) = s.get! i := by
  rw [get_data, get_data, nl1_data, Array.getD_eq_getD_getElem?, Array.getD_eq_getD_getElem?, Array.getElem?_append_right (by simp)]
  simp
def up1 (r : Nat × Nat) : Nat × Nat := (r.1 + 1, r.2 + 1)
theorem rw_nl1 {s : ByteArray} {R : List (Nat × Nat)} (h : Pc.Rw s 0 s.size R) : Pc.Rw (nl1 s) 0 (nl1 s).size ((0, 0) :: R.map up1) := by
  have hp := h.pos
  have key : ∀ (i : Nat) (r : Nat × Nat), (R.map up1)[i]? = some r → ∃ q, R[i]? = some q ∧ r = up1 q := by
    intro i r hr
    rw [List.getElem?_map] at hr
    cases hq : R[i]? with
    | none => rw [hq] at hr; cases hr
    | some q => rw [hq] at hr; exact ⟨q, rfl, (Option.some.inj hr).symm⟩
  refine ⟨by simp, fun r hr => ?_, fun r hr => ?_, fun i r hr => ?_, by rw [nl1_size]; exact Nat.le_refl _, fun i r r' hr hr' => ?_, fun i r hr k h1 h2 => ?_⟩
  · simp at hr; rw [← hr]
  · have e : ((0, 0) :: R.map up1).length - 1 = (R.length - 1) + 1 := by simp; omega
    rw [e, List.getElem?_cons_succ] at hr
    obtain ⟨q, hq, rfl⟩ := key _ _ hr
    have := h.last q hq
    rw [nl1_size]
    show q.2 + 1 = _
    omega
  · cases i with
    | zero => simp at hr; subst hr; exact ⟨Nat.le_refl _, Nat.le_refl _, Nat.zero_le _⟩
    | succ i =>
      rw [List.getElem?_cons_succ] at hr
      obtain ⟨q, hq, rfl⟩ := key _ _ hr
      have := h.le i q hq
      rw [nl1_size]
      exact ⟨Nat.zero_le _, by show q.1 + 1 ≤ q.2 + 1; omega, by show q.2 + 1 ≤ _; omega⟩
  · rw [List.getElem?_cons_succ] at hr'
    obtain ⟨q', hq', rfl⟩ := key _ _ hr'
    cases i with
    | zero =>
      simp at hr
      subst hr
      have := h.first q' hq'
      exact ⟨by show q'.1 + 1 = 0 + 1; omega, nl1_zero s⟩
    | succ i =>
      rw [List.getElem?_cons_succ] at hr
      obtain ⟨q, hq, rfl⟩ := key _ _ hr
      have := h.step i q q' hq hq'
      exact ⟨by show q'.1 + 1 = q.2 + 1 + 1; omega, by show (nl1 s).get! (q.2 + 1) = 10; rw [nl1_get]; exact this.2⟩
  · cases i with
    | zero => simp at hr; subst hr; exact absurd h2 (Nat.not_lt_zero _)
    | succ i =>
      rw [List.getElem?_cons_succ] at hr
      obtain ⟨q, hq, rfl⟩ := key _ _ hr
      have a1 : q.1 + 1 ≤ k := h1
      have a2 : k < q.2 + 1 := h2
      obtain ⟨j, rfl⟩ : ∃ j, k = j + 1 := ⟨k - 1, by omega⟩
      rw [nl1_get]
      exact h.free i q hq j (by omega) (by omega)
theorem rwo_is' {s : ByteArray} {R : List (Nat × Nat)} (h : Pc.Rw s 0 s.size R) {t j : Nat} {r : Nat × Nat} (hj : R[j]? = some r) (h1 : r.1 ≤ t) (h2 : t ≤ r.2) (ht : t ≤ s.size) : rwo s t = j := by
  obtain ⟨q, k1, k2, k3⟩ := rwo_at ht
  have e := (rws_rw s).same h
  rw [e] at k1
  exact h.uniq k1 hj k2 k3 h1 h2
/-- The rows are one further down. -/
theorem rwo_nl1 {s : ByteArray} {t : Nat} (ht : t ≤ s.size) : rwo (nl1 s) (t + 1) = rwo s t + 1 := by
  obtain ⟨r, k1, k2, k3⟩ := rwo_at ht
  refine rwo_is' (rw_nl1 (rws_rw s)) (r := up1 r) ?_ (by show r.1 + 1 ≤ _; omega) (by show _ ≤ r.2 + 1; omega) (by rw [nl1_size]; omega)
  rw [List.getElem?_cons_succ, List.getElem?_map, k1]; rfl
/-- A node moved on by one. -/
def mv1 (x : Nd) : Nd := ⟨x.nm, x.nd, x.fd, x.fr + 1, x.tt + 1, x.kd, x.lf⟩
theorem okn_mv1 {s : ByteArray} {x : Nd} (h : okn s x) : okn (nl1 s) (mv1 x) := by
  obtain ⟨h1, h2, h3⟩ := h
  refine ⟨?_, ?_, ?_⟩
  · show 0 ≤ x.fr + 1; omega
  · show x.fr + 1 ≤ x.tt + 1; omega
  · show x.tt + 1 ≤ ((nl1 s).size : Int); rw [nl1_size]; omega
theorem nfr_mv1 {s : ByteArray} {x : Nd} (h : okn s x) : nfr (nl1 s) (mv1 x) = nfr s x + 1 := by
  obtain ⟨h1, h2, h3⟩ := h
  unfold nfr
  show rwo (nl1 s) (x.fr + 1).toNat = _
  rw [show (x.fr + 1).toNat = x.fr.toNat + 1 by omega]
  exact rwo_nl1 (by omega)
theorem nlr_mv1 {s : ByteArray} {x : Nd} (h : okn s x) : nlr (nl1 s) (mv1 x) = nlr s x + 1 := by
  obtain ⟨h1, h2, h3⟩ := h
  unfold nlr
  show rwo (nl1 s) (if x.tt + 1 = x.fr + 1 then (x.fr + 1).toNat else (x.tt + 1 - 1).toNat) = _
  by_cases e : x.tt = x.fr
  · rw [if_pos (by omega), if_pos e, show (x.fr + 1).toNat = x.fr.toNat + 1 by omega]
    exact rwo_nl1 (by omega)
  · rw [if_neg (by omega), if_neg e, show (x.tt + 1 - 1).toNat = (x.tt - 1).toNat + 1 by omega]
    exact rwo_nl1 (by omega)
theorem tfd_mv1 (F : List ByteArray) (x : Nd) : tfd F (mv1 x) = tfd F x := rfl
theorem fl_mv1 {F : List ByteArray} {s : ByteArray} : ∀ {T : List Nd}, (∀ x ∈ T, okn s x) → fl F (nl1 s) (T.map mv1) = (fl F s T).map up1
  | [], _ => rfl
  | x :: T, h => by
    have ih := fl_mv1 (F := F) (T := T) (fun y hy => h y (List.mem_cons_of_mem _ hy))
    have hx := h x (List.mem_cons_self ..)
    have cons : ∀ (u : ByteArray) (y : Nd) (L : List Nd), fl F u (y :: L) = (if tfd F y && decide (nfr u y < nlr u y) then [(nfr u y, nlr u y)] else []) ++ fl F u L := by
      intro u y L
      unfold fl rl
      by_cases k : tfd F y = true
      · rw [List.filter_cons_of_pos k, List.map_cons, k, Bool.true_and]
        by_cases k2 : nfr u y < nlr u y
        · rw [List.filter_cons_of_pos (by rw [decide_eq_true_eq]; exact k2), if_pos (decide_eq_true k2)]; rfl
        · rw [List.filter_cons_of_neg (by rw [decide_eq_true_eq]; exact k2), if_neg (by rw [decide_eq_true_eq]; exact k2)]; rfl
      · rw [List.filter_cons_of_neg k, if_neg (by rw [Bool.and_eq_true]; exact fun h => k h.1)]; rfl
    rw [List.map_cons, cons, cons, ih, tfd_mv1, nfr_mv1 hx, nlr_mv1 hx, List.map_append]
    congr 1
    by_cases k : nfr s x < nlr s x
    · rw [decide_eq_true k, decide_eq_true (show nfr s x + 1 < nlr s x + 1 by omega)]
      cases tfd F x <;> rfl
    · rw [decide_eq_false k, decide_eq_false (show ¬ nfr s x + 1 < nlr s x + 1 by omega)]
      cases tfd F x <;> rfl
theorem cn_up1 {L O : List Fd} (h : Cn L O) : Cn (L.map up1) (O.map up1) := by
  refine ⟨?_, fun x => ?_⟩
  · rw [List.pairwise_map]
    exact h.inc.imp fun hab => by show _ + 1 < _ + 1; omega
  · constructor
    · intro hx
      obtain ⟨y, hy, rfl⟩ := List.mem_map.1 hx
      obtain ⟨h1, h2⟩ := (h.iff y).1 hy
      refine ⟨List.mem_map.2 ⟨y, h1, rfl⟩, fun z hz e => ?_⟩
      obtain ⟨u, hu, rfl⟩ := List.mem_map.1 hz
      have e' : u.1 + 1 = y.1 + 1 := e
      have := h2 u hu (by omega)
      show u.2 + 1 ≤ y.2 + 1
      omega
    · rintro ⟨hx, hm⟩
      obtain ⟨y, hy, rfl⟩ := List.mem_map.1 hx
      refine List.mem_map.2 ⟨y, (h.iff y).2 ⟨hy, fun z hz e => ?_⟩, rfl⟩
      have h9 := hm (up1 z) (List.mem_map.2 ⟨z, hz, rfl⟩) (by show z.1 + 1 = y.1 + 1; omega)
      have : z.2 + 1 ≤ y.2 + 1 := h9
      omega
theorem kds_mv1 (T : List Nd) : kds (T.map mv1) = kds T := by unfold kds; rw [List.map_map]; rfl
theorem lie_mv1 {T : List Nd} {s : ByteArray} (h : lie T s.size = true) : lie (T.map mv1) (nl1 s).size = true := by
  unfold lie at h ⊢
  rw [List.all_eq_true] at h ⊢
  intro y hy
  obtain ⟨x, hx, rfl⟩ := List.mem_map.1 hy
  have h1 := h x hx
  rw [decide_eq_true_eq] at h1 ⊢
  rw [nl1_size]
  refine ⟨?_, ?_, ?_⟩
  · show 0 ≤ x.fr + 1; omega
  · show x.fr + 1 ≤ x.tt + 1; omega
  · show x.tt + 1 ≤ ((s.size + 1 : Nat) : Int); omega
end Go.Proofs.Yticheeacbajeeaa
namespace Go.Proofs.Yticheeacbajeeaa
open Go.RowKit Go.Maps

theorem nl1_ext (s : ByteArray) (a b : Nat) : (nl1 s).extract (a + 1) (b + 1) = s.extract a b := by
  refine ByteArray.ext ?_
  rw [ByteArray.data_extract, ByteArray.data_extract, nl1_data, Array.extract_append]
  have e : (#[10] : Array UInt8).extract (a + 1) (b + 1) = #[] := by
    apply Array.eq_empty_of_size_eq_zero
    rw [Array.size_extract]
    show min (b + 1) 1 - (a + 1) = 0
    omega
  rw [e, Array.empty_append]
  rfl
theorem mvd (T : List Nd) (i : Nat) : ((T.map mv1).getD i ndd).nm = (T.getD i ndd).nm ∧ ((T.map mv1).getD i ndd).nd = (T.getD i ndd).nd ∧ ((T.map mv1).getD i ndd).fd = (T.getD i ndd).fd := by
  rw [List.getD_eq_getElem?_getD, List.getD_eq_getElem?_getD, List.getElem?_map]
  cases T[i]? with
  | none => exact ⟨rfl, rfl, rfl⟩
  | some x => exact ⟨rfl, rfl, rfl⟩
theorem mvi (T : List Nd) (i : Nat) (h : i < T.length) : (T.map mv1).getD i ndd = mv1 (T.getD i ndd) := by
  rw [List.getD_eq_getElem?_getD, List.getD_eq_getElem?_getD, List.getElem?_map, List.getElem?_eq_getElem h]; rfl
theorem kdf_mv1 (T : List Nd) (a : Nat) (f : ByteArray) : kdf (T.map mv1) a f = kdf T a f := by
  unfold kdf
  rw [kds_mv1]
  congr 1
  funext c
  rw [(mvd T c).2.2]
theorem cal_mv1 (M : List Pa) (T : List Nd) (a : Nat) : cal M (T.map mv1) a = cal M T a := by
  unfold cal
  rw [(mvd T a).1, (mvd T a).2.1]
  simp only [kdf_mv1]
theorem isS_mv1 (M : List Pa) (T : List Nd) : isS M (T.map mv1) = isS M T := by
  funext a
  unfold isS
  rw [cal_mv1]
def upS (y : Sy) : Sy := ⟨y.nm, y.cl, y.fr + 1, y.tt + 1, y.dp⟩
theorem sy1_mv1 {M : List Pa} {T : List Nd} {s : ByteArray} (hF : Fo (kds T)) (hl : lie T s.size = true) {a : Nat} (ha : a < T.length) : sy1 M (T.map mv1) (nl1 s) a = (sy1 M T s a).map upS := by
  unfold sy1
  rw [cal_mv1, kds_mv1, isS_mv1, mvi T a ha]
  cases hc : cal M T a with
  | none => rfl
  | some c =>
    obtain ⟨-, h2⟩ := cal_lt hF ha hc
    obtain ⟨k1, k2, k3⟩ := lie_at hl c h2
    simp only [List.map_cons, List.map_nil]
    rw [mvi T c h2]
    show [(⟨(T.getD a ndd).nm, (nl1 s).extract ((T.getD c ndd).fr + 1).toNat ((T.getD c ndd).tt + 1).toNat, (T.getD a ndd).fr + 1, (T.getD a ndd).tt + 1, _⟩ : Sy)] = _
    rw [show ((T.getD c ndd).fr + 1).toNat = (T.getD c ndd).fr.toNat + 1 by omega, show ((T.getD c ndd).tt + 1).toNat = (T.getD c ndd).tt.toNat + 1 by omega, nl1_ext]
    rfl
theorem sys_mv1 {M : List Pa} {T : List Nd} {s : ByteArray} (hF : Fo (kds T)) (hl : lie T s.size = true) : ∀ n, n ≤ T.length → sys M (T.map mv1) (nl1 s) n = (sys M T s n).map upS
  | 0, _ => rfl
  | n + 1, h => by rw [sys_succ, sys_succ, List.map_append, sys_mv1 hF hl n (by omega), sy1_mv1 hF hl (by omega)]
theorem rts_mv1 (T : List Nd) : rts (T.map mv1) = rts T := by unfold rts; rw [kds_mv1]
theorem rgt_mv1 {T : List Nd} {s : ByteArray} (hl : lie T s.size = true) : rgt (T.map mv1) (nl1 s).size = rgt T s.size := by
  unfold rgt
  rw [hl, lie_mv1 hl, rts_mv1]
/-- Symbols are one further on. -/
theorem syl_mv1 {M : List Pa} {T : List Nd} {s : ByteArray} (hl : lie T s.size = true) : syl M (T.map mv1) (nl1 s) = (syl M T s).map upS := by
  unfold syl
  rw [rgt_mv1 hl]
  by_cases h : rgt T s.size = true
  · rw [if_pos h, if_pos h, List.length_map]
    exact sys_mv1 (rgt_yes h).2 hl _ (Nat.le_refl _)
  · rw [if_neg h, if_neg h]; rfl
/-- Folds are one further down. -/
theorem fol_mv1 {F : List ByteArray} {T : List Nd} {s : ByteArray} (hl : lie T s.size = true) : fol F (T.map mv1) (nl1 s) = (fol F T s).map up1 := by
  by_cases h : rgt T s.size = true
  · have h1 := fol_cn (F := F) (by rw [rgt_mv1 hl]; exact h : rgt (T.map mv1) (nl1 s).size = true)
    rw [fl_mv1 (fun x hx => by
      obtain ⟨i, hi, rfl⟩ := List.mem_iff_getElem.1 hx
      have h9 := lie_okn hl i hi
      rw [List.getD_eq_getElem?_getD, List.getElem?_eq_getElem hi, Option.getD_some] at h9
      exact h9)] at h1
    exact h1.uniq (cn_up1 (fol_cn h))
  · have e : rgt T s.size = false := by simpa using h
    rw [fol_no e, fol_no (by rw [rgt_mv1 hl]; exact e)]; rfl
/-- A node moved on, by k; so many line ends ahead. -/
def mvk (k : Nat) (x : Nd) : Nd := ⟨x.nm, x.nd, x.fd, x.fr + k, x.tt + k, x.kd, x.lf⟩
def nlk : Nat → ByteArray → ByteArray
  | 0, s => s
  | k + 1, s => nl1 (nlk k s)
theorem mvk_succ (k : Nat) (T : List Nd) : T.map (mvk (k + 1)) = (T.map (mvk k)).map mv1 := by
  rw [List.map_map]
  congr 1
  funext x
  unfold mvk mv1
  simp only [Function.comp, Nd.mk.injEq, true_and, and_true]
  constructor <;> omega
theorem lie_mvk {T : List Nd} {s : ByteArray} (hl : lie T s.size = true) : ∀ k, lie (T.map (mvk k)) (nlk k s).size = true
  | 0 => by
    have e : T.map (mvk 0) = T := by
      refine Eq.trans (List.map_congr_left (g := id) fun x _ => ?_) (List.map_id _)
      unfold mvk; simp
    rw [e]; exact hl
  | k + 1 => by rw [mvk_succ]; exact lie_mv1 (lie_mvk hl k)
theorem fol_mvk {F : List ByteArray} {T : List Nd} {s : ByteArray} (hl : lie T s.size = true) : ∀ k, fol F (T.map (mvk k)) (nlk k s) = (fol F T s).map fun x => (x.1 + k, x.2 + k)
  | 0 => by
    have e : T.map (mvk 0) = T := by
      refine Eq.trans (List.map_congr_left (g := id) fun x _ => ?_) (List.map_id _)
      unfold mvk; simp
    rw [e]
    exact (List.map_id _).symm
  | k + 1 => by
    rw [mvk_succ]
    show fol F _ (nl1 (nlk k s)) = _
    rw [fol_mv1 (lie_mvk hl k), fol_mvk hl k, List.map_map]
    rfl
theorem syl_mvk {M : List Pa} {T : List Nd} {s : ByteArray} (hl : lie T s.size = true) : ∀ k, syl M (T.map (mvk k)) (nlk k s) = (syl M T s).map fun y => (⟨y.nm, y.cl, y.fr + k, y.tt + k, y.dp⟩ : Sy)
  | 0 => by
    have e : T.map (mvk 0) = T := by
      refine Eq.trans (List.map_congr_left (g := id) fun x _ => ?_) (List.map_id _)
      unfold mvk; simp
    rw [e]
    refine (Eq.trans (List.map_congr_left (g := id) fun x _ => ?_) (List.map_id _)).symm
    simp
  | k + 1 => by
    rw [mvk_succ]
    show syl M _ (nl1 (nlk k s)) = _
    rw [syl_mv1 (lie_mvk hl k), syl_mvk hl k, List.map_map]
    congr 1
    funext y
    unfold upS
    simp only [Function.comp, Sy.mk.injEq, true_and, and_true]
    constructor <;> omega
end Go.Proofs.Yticheeacbajeeaa
namespace Go.Proofs.Yticheeacbajeeaa
open Go.RowKit Go.Maps

/-- So many line ends. -/
def nle : Nat → ByteArray
  | 0 => ⟨#[]⟩
  | k + 1 => nle k ++ ⟨#[10]⟩
theorem nlk_nl1 (s : ByteArray) : ∀ k, nlk k (nl1 s) = nl1 (nlk k s)
  | 0 => rfl
  | k + 1 => by show nl1 (nlk k (nl1 s)) = nl1 (nl1 (nlk k s)); rw [nlk_nl1 s k]
theorem nle_app : ∀ (k : Nat) (s : ByteArray), nle k ++ s = nlk k s
  | 0, s => by
    refine ByteArray.ext ?_
    rw [ByteArray.data_append]
    exact Array.empty_append
  | k + 1, s => by
    have h := nle_app k (nl1 s)
    rw [nlk_nl1] at h
    show (nle k ++ ⟨#[10]⟩) ++ s = nl1 (nlk k s)
    rw [← h]
    refine ByteArray.ext ?_
    unfold nl1
    rw [ByteArray.data_append, ByteArray.data_append, ByteArray.data_append, ByteArray.data_append, Array.append_assoc]
theorem nle_size : ∀ k, (nle k).size = k
  | 0 => rfl
  | k + 1 => by
    show (nle k ++ ⟨#[10]⟩).size = _
    rw [ByteArray.size_append, nle_size k]
    rfl
theorem nlk_size (s : ByteArray) : ∀ k, (nlk k s).size = s.size + k
  | 0 => rfl
  | k + 1 => by show (nl1 (nlk k s)).size = _; rw [nl1_size, nlk_size s k]; omega
set_option maxRecDepth 100000 in
set_option maxHeartbeats 4000000 in
theorem lends_any (k : Nat) (hk : k < 50) (w : World) : Calls Try.prog 16 #[.int .i64 (k : Int)] w fun e w' => e = .returned (.string (nle k)) ∧ Below w.heap.size w w' := by
  have HK : Hid (k < 50) := hk
  clear hk
  go_enter Try.func16, Try.ntmps16
  go_upto_region 3 with fail
  go_loopg [3, 4] k (fun gm v3 v4 wr => ∃ i : Nat, v4 = .int .i64 (i : Int) ∧ v3 = .string (nle i) ∧ Hid (i ≤ k ∧ gm = k - i) ∧ wr = w)
  case atStart => exact ⟨0, rfl, rfl, ⟨Nat.zero_le _, rfl⟩, rfl⟩
  case round =>
    obtain ⟨i, rfl, rfl, HI, rfl⟩ := hrel
    by_cases hi : i < k
    · have e1 : decide ((i : Int) < (k : Int)) = true := by rw [decide_eq_true_eq]; omega
      have e2 : decide (i < k) = true := by rw [decide_eq_true_eq]; omega
      have HIL : Hid (i < k) := hi
      have hwi := w64n i (by have := HK.out; omega)
      have HS : Hid (nle (i + 1) = nle i ++ ⟨#[10]⟩) := rfl
      have hz : (nle i).size ≤ 50 := by rw [nle_size]; have := HK.out; omega
      obtain ⟨x, hx⟩ : ∃ x, nle i = x := ⟨_, rfl⟩
      rw [hx] at HS hz ⊢
      clear hi hx
      go_wp2_with fail
      go_roundg (k - (i + 1))
      case measure => have := HI.out; have := HIL.out; omega
      case rel => exact ⟨i + 1, by simp, by rw [HS.out], ⟨HIL.out, rfl⟩, rfl⟩
    · have e1 : decide ((i : Int) < (k : Int)) = false := by rw [decide_eq_false_iff_not]; omega
      have e2 : decide (i < k) = false := by rw [decide_eq_false_iff_not]; omega
      have hik : i = k := by have := HI.out; omega
      subst hik
      clear hi
      go_wp2_with fail
      go_ret
      exact ⟨rfl, Below.refl _ _⟩
end Go.Proofs.Yticheeacbajeeaa
