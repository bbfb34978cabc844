import Derived.Test.YtcmhbcfgikmblabGreatDoorQfq
namespace Go.Proofs.YtcmhbcfgikmblabGreatDoor.Tr
open Go.RowKit Go.Maps

theorem sk_take : ∀ (l : List Int) (r k m : Nat), rt l = some r → k ≤ r → sk l k ≤ m → sk (l.take m) k = sk l k
  | l, r, 0, m, _, _, _ => by rw [sk_zero, sk_zero]
  | [], r, k + 1, m, h, hk, _ => by cases h; omega
  | x :: l, r, k + 1, 0, h, hk, hm => by
    have h9 : 1 + sk l (k + x.toNat) ≤ 0 := hm
    omega
  | x :: l, r, k + 1, m + 1, h, hk, hm => by
    obtain ⟨q, hq, h0, h1, rfl⟩ := rt_cons h
    have h9 : 1 + sk l (k + x.toNat) ≤ m + 1 := hm
    have ih := sk_take l q (k + x.toNat) m hq (by omega) (by omega)
    rw [List.take_succ_cons]
    show 1 + sk (l.take m) (k + x.toNat) = 1 + sk l (k + x.toNat)
    rw [ih]
theorem rt_take : ∀ (l : List Int) (r k : Nat), rt l = some r → k ≤ r → rt (l.take (sk l k)) = some k
  | l, r, 0, _, _ => by rw [sk_zero]; rfl
  | [], r, k + 1, h, hk => by cases h; omega
  | x :: l, r, k + 1, h, hk => by
    obtain ⟨q, hq, h0, h1, rfl⟩ := rt_cons h
    have ih := rt_take l q (k + x.toNat) hq (by omega)
    rw [show sk (x :: l) (k + 1) = sk l (k + x.toNat) + 1 by show 1 + _ = _; omega, List.take_succ_cons]
    unfold rt
    rw [ih]
    show (if 0 ≤ x ∧ x ≤ ((k + x.toNat : Nat) : Int) then _ else _) = _
    rw [if_pos ⟨h0, by omega⟩]
    congr 1
    omega
end Go.Proofs.YtcmhbcfgikmblabGreatDoor.Tr
namespace Go.Proofs.YtcmhbcfgikmblabGreatDoor.Qy
open Go.RowKit Go.Maps

/-- The pattern at a place, by itself. -/
def sub (P : List Pn) (c : Nat) : List Pn := (P.drop c).take (Tr.eA (pks P) c - c)
theorem pks_len (P : List Pn) : (pks P).length = P.length := by unfold pks; simp
theorem pks_sub (P : List Pn) (c : Nat) : pks (sub P c) = ((pks P).drop c).take (Tr.eA (pks P) c - c) := by
  show (sub P c).map Pn.kd = ((P.map Pn.kd).drop c).take _
  unfold sub
  rw [List.map_take, List.map_drop]
theorem sub_len {P : List Pn} (hf : Tr.Fo (pks P)) {c : Nat} (hc : c < P.length) : (sub P c).length = Tr.eA (pks P) c - c := by
  have h := hf.elt c (by rw [pks_len]; exact hc)
  rw [pks_len] at h
  unfold sub
  rw [List.length_take, List.length_drop]
  omega
theorem sub_get {P : List Pn} {c d : Nat} (h1 : c ≤ d) (h2 : d < Tr.eA (pks P) c) : (sub P c).getD (d - c) pz = P.getD d pz := by
  unfold sub
  rw [List.getD_eq_getElem?_getD, List.getD_eq_getElem?_getD, List.getElem?_take_of_lt (by omega), List.getElem?_drop]
  congr 2
  omega
theorem sub_root {P : List Pn} (hf : Tr.Fo (pks P)) {c : Nat} (hc : c < P.length) : Tr.rt (pks (sub P c)) = some 1 := by
  rw [pks_sub]
  have h := hf.r c
  have h1 := hf.pos c (by rw [pks_len]; exact hc)
  have h2 := Tr.rt_take _ _ 1 h h1
  have h3 : Tr.eA (pks P) c - c = Tr.sk ((pks P).drop c) 1 := by unfold Tr.eA Tr.wA; omega
  rw [h3]
  exact h2
theorem pks_sub_get {P : List Pn} {c d : Nat} (h1 : c ≤ d) (h2 : d < Tr.eA (pks P) c) : Tr.kA (pks (sub P c)) (d - c) = Tr.kA (pks P) d := by
  unfold Tr.kA
  rw [pks_sub, List.getD_eq_getElem?_getD, List.getD_eq_getElem?_getD, List.getElem?_take_of_lt (by omega), List.getElem?_drop]
  congr 3
  omega
theorem wA_sub {P : List Pn} (hf : Tr.Fo (pks P)) {c d j : Nat} (hc : c < P.length) (h1 : c ≤ d) (h2 : d < Tr.eA (pks P) c) (hj : j ≤ Tr.kA (pks P) d) : Tr.wA (pks (sub P c)) (d - c + 1) j = Tr.wA (pks P) (d + 1) j - c ∧ Tr.wA (pks P) (d + 1) j ≤ Tr.eA (pks P) c ∧ d + 1 ≤ Tr.wA (pks P) (d + 1) j := by
  have hcl : c < (pks P).length := by rw [pks_len]; exact hc
  have e1 := hf.elt c hcl
  have hdl : d < (pks P).length := by omega
  have k1 := hf.step d hdl
  have k2 := hf.eq d hdl
  have k3 := hf.mono (d + 1) j (Tr.kA (pks P) d) (by omega) hj k1.2.2.1
  have k4 := hf.lam c 1 d (hf.pos c hcl) h1 h2
  have k5 := hf.end (d + 1) j (by omega) (by omega)
  have k6 : Tr.wA (pks P) c 1 = Tr.eA (pks P) c := rfl
  have k7 : Tr.wA (pks P) (d + 1) j ≤ Tr.eA (pks P) c := by omega
  refine ⟨?_, k7, by omega⟩
  have k8 : Tr.wA (pks P) (d + 1) j = d + 1 + Tr.sk ((pks P).drop (d + 1)) j := rfl
  have k9 : (pks (sub P c)).drop (d - c + 1) = ((pks P).drop (d + 1)).take (Tr.eA (pks P) c - (d + 1)) := by
    rw [pks_sub, List.drop_take, List.drop_drop]
    congr 1
    · omega
    · congr 1
      omega
  unfold Tr.wA
  rw [k9, Tr.sk_take _ _ j _ (hf.r (d + 1)) (by omega) (by omega)]
  omega
theorem kN_sub {P : List Pn} (hf : Tr.Fo (pks P)) {c d : Nat} (hc : c < P.length) (h1 : c ≤ d) (h2 : d < Tr.eA (pks P) c) : kN (pks (sub P c)) (d - c) = (kN (pks P) d).map (· - c) := by
  unfold kN
  rw [pks_sub_get h1 h2, List.map_map]
  refine List.map_congr_left fun j hj => ?_
  have hj2 := List.mem_range.1 hj
  exact (wA_sub hf hc h1 h2 (by omega)).1
theorem kN_in {P : List Pn} (hf : Tr.Fo (pks P)) {c d : Nat} (hc : c < P.length) (h1 : c ≤ d) (h2 : d < Tr.eA (pks P) c) : ∀ x ∈ kN (pks P) d, c ≤ x ∧ x < Tr.eA (pks P) c := fun x hx => by
  unfold kN at hx
  obtain ⟨j, hj, rfl⟩ := List.mem_map.1 hx
  have hj2 := List.mem_range.1 hj
  have a1 := wA_sub hf hc h1 h2 (j := j) (by omega)
  have a2 := wA_sub hf hc h1 h2 (j := j + 1) (by omega)
  have hcl : c < (pks P).length := by rw [pks_len]; exact hc
  have e1 := hf.elt c hcl
  have hdl : d < (pks P).length := by omega
  have k1 := hf.step d hdl
  have k3 := hf.mono (d + 1) j (j + 1) (by omega) (by omega) (by omega)
  exact ⟨by omega, by omega⟩
/-- A part of a pattern fits as it does by itself. -/
theorem ft_sub {P : List Pn} {T : List Tr.Nd} (hf : Tr.Fo (pks P)) {c : Nat} (hc : c < P.length) : ∀ n,
    (∀ d v, c ≤ d → d < Tr.eA (pks P) c → ft (sub P c) T n none [d - c] v = ft P T n none [d] v) ∧
    (∀ E L a, (∀ x ∈ L, c ≤ x ∧ x < Tr.eA (pks P) c) → ft (sub P c) T n (some E) (L.map (· - c)) a = ft P T n (some E) L a) := by
  intro n
  induction n with
  | zero => exact ⟨fun d v _ _ => by simp [ft], fun E L a _ => by simp [ft]⟩
  | succ n ih =>
    obtain ⟨ih1, ih2⟩ := ih
    refine ⟨fun d v h1 h2 => ?_, fun E L a hL => ?_⟩
    · unfold ft
      rw [sub_get h1 h2, kN_sub hf hc h1 h2, ih2 _ _ _ (kN_in hf hc h1 h2)]
    · cases L with
      | nil => simp [ft]
      | cons x L =>
        have hx := hL x (List.mem_cons_self ..)
        have hL2 : ∀ y ∈ L, c ≤ y ∧ y < Tr.eA (pks P) c := fun y hy => hL y (List.mem_cons_of_mem _ hy)
        rw [List.map_cons]
        unfold ft
        have e1 := fun a' => ih2 E (x :: L) a' hL
        simp only [List.map_cons] at e1
        rw [ih1 x a hx.1 hx.2, ih2 E L _ hL2, e1]
theorem gN_sub {P : List Pn} {T : List Tr.Nd} (hf : Tr.Fo (pks P)) {c : Nat} (hc : c < P.length) (v : Nat) : gN (sub P c) T 0 v = gN P T c v := by
  have h := hf.elt c (by rw [pks_len]; exact hc)
  have h9 := (ft_sub (T := T) hf hc (2 * (Tr.eA (Tr.kds T) v - v))).1 c v (Nat.le_refl _) h.1
  rw [Nat.sub_self] at h9
  exact h9
theorem ixc_lo {t : ByteArray} : ∀ (l : List Pn) (k i : Nat), ixc l t k = ((k + i : Nat) : Int) → (∀ j, j < i → (l.getD j pz).cp ≠ t)
  | [], k, i, h, j, hj => by
    have h9 : (-1 : Int) = ((k + i : Nat) : Int) := h
    omega
  | n :: l, k, i, h, j, hj => by
    unfold ixc at h
    by_cases hn : n.cp = t
    · rw [if_pos hn] at h
      omega
    · rw [if_neg hn] at h
      cases j with
      | zero => simpa using hn
      | succ j =>
        have := ixc_lo l (k + 1) (i - 1) (by rw [h]; congr 1; omega) j (by omega)
        simpa using this
theorem ixc_hi {t : ByteArray} : ∀ (l : List Pn) (k i : Nat), i < l.length → (l.getD i pz).cp = t → (∀ j, j < i → (l.getD j pz).cp ≠ t) → ixc l t k = ((k + i : Nat) : Int)
  | [], _, _, h, _, _ => by simp at h
  | n :: l, k, 0, _, h2, _ => by
    unfold ixc
    have : n.cp = t := by simpa using h2
    rw [if_pos this, Nat.add_zero]
  | n :: l, k, i + 1, h1, h2, h3 => by
    unfold ixc
    have h4 : n.cp ≠ t := by have := h3 0 (by omega); simpa using this
    rw [if_neg h4, ixc_hi l (k + 1) i (by simp at h1; omega) (by simpa using h2) (fun j hj => by have := h3 (j + 1) (by omega); simpa using this)]
    congr 1
    omega
/-- A part of a well shaped pattern is well shaped. -/
theorem shp_sub {P : List Pn} {cs : List Cd} (h : shp P cs = true) {c : Nat} (hc : c < P.length) : shp (sub P c) [] = true := by
  have h0 := h
  unfold shp at h0 ⊢
  simp only [Bool.and_eq_true, decide_eq_true_eq, List.all_eq_true] at h0 ⊢
  obtain ⟨a1, a2, a3, a4, a5⟩ := h0
  have hf : Tr.Fo (pks P) := ⟨1, a3⟩
  have he := hf.elt c (by rw [pks_len]; exact hc)
  rw [pks_len] at he
  have hsl := sub_len hf hc
  refine ⟨by rw [hsl]; omega, by simp, sub_root hf hc, fun i hi => ?_, fun x hx => by cases hx⟩
  have hi2 := List.mem_range.1 hi
  rw [hsl] at hi2
  have g1 : (sub P c).getD i pz = P.getD (c + i) pz := by
    have := sub_get (P := P) (c := c) (d := c + i) (by omega) (by omega)
    rwa [Nat.add_sub_cancel_left] at this
  have h9 := a4 (c + i) (List.mem_range.2 (by omega))
  unfold nat' at h9 ⊢
  rw [g1]
  simp only [Bool.and_eq_true, Bool.or_eq_true, decide_eq_true_eq] at h9 ⊢
  refine ⟨h9.1, ?_⟩
  rcases h9.2 with h8 | h8
  · exact .inl h8
  · by_cases he2 : (P.getD (c + i) pz).cp = ⟨#[]⟩
    · exact .inl he2
    · right
      unfold cap at h8 ⊢
      rw [if_neg he2] at h8 ⊢
      have h7 := ixc_lo P 0 (c + i) (by rw [h8, Nat.zero_add])
      have h6 := ixc_hi (t := (P.getD (c + i) pz).cp) (sub P c) 0 i (by rw [hsl]; exact hi2) (by rw [g1]) (fun j hj => by
        have g2 : (sub P c).getD j pz = P.getD (c + j) pz := by
          have := sub_get (P := P) (c := c) (d := c + j) (by omega) (by omega)
          rwa [Nat.add_sub_cancel_left] at this
        rw [g2]
        exact h7 (c + j) (by omega))
      rw [h6, Nat.zero_add]
/-- Children chosen in their order: for each the first that fits. -/
def gr : List (Nat → Option (List Int)) → List Nat → Option (List Int)
  | [], _ => some []
  | _ :: _, [] => none
  | f :: fs, k :: ks => match f k with
    | some l => (gr fs ks).map (l ++ ·)
    | none => gr (f :: fs) ks
theorem gr_nil (ks : List Nat) : gr [] ks = some [] := by cases ks <;> simp [gr]
theorem gK_gr {P : List Pn} {T : List Tr.Nd} (hT : Tr.Fo (Tr.kds T)) (v : Nat) (hv : v < T.length) : ∀ (d i : Nat) (L : List Nat), i + d = Tr.kA (Tr.kds T) v → gK P T (Tr.eA (Tr.kds T) v) L (Tr.wA (Tr.kds T) (v + 1) i) = gr (L.map (gN P T)) (kF (Tr.kds T) v i) := by
  have hvl : v < (Tr.kds T).length := by rw [Tr.kds_len]; exact hv
  intro d
  induction d with
  | zero =>
    intro i L hd
    cases L with
    | nil => rw [gK_nil, List.map_nil, gr_nil]
    | cons c L =>
      have h1 : i = Tr.kA (Tr.kds T) v := by omega
      subst h1
      rw [kF_nil, ← hT.eq v hvl, gK_out _ _ _ _ _ _ (Nat.lt_irrefl _)]
      rfl
  | succ d ih =>
    intro i L hd
    cases L with
    | nil => rw [gK_nil, List.map_nil, gr_nil]
    | cons c L =>
      have k1 := hT.step v hvl
      have k3 := hT.mono (v + 1) i (Tr.kA (Tr.kds T) v) (by omega) (by omega) k1.2.2.1
      have k4 := hT.eq v hvl
      have hlt : Tr.wA (Tr.kds T) (v + 1) i < Tr.eA (Tr.kds T) v := by omega
      have hw : Wi (Tr.kds T) (Tr.eA (Tr.kds T) v) (Tr.wA (Tr.kds T) (v + 1) i) := ⟨v, i, hvl, by omega, rfl, rfl⟩
      have hnx : Tr.wA (Tr.kds T) (v + 1) (i + 1) = Tr.eA (Tr.kds T) (Tr.wA (Tr.kds T) (v + 1) i) := hT.next (v + 1) i (by omega)
      rw [kF_cons _ _ _ (by omega), List.map_cons]
      cases hq : gN P T c (Tr.wA (Tr.kds T) (v + 1) i) with
      | some l =>
        rw [gK_hit P T hT _ c L _ hw hlt l hq, ← hnx, ih (i + 1) L (by omega)]
        conv => rhs; unfold gr
        rw [hq]
      | none =>
        rw [gK_miss P T hT _ c L _ hw hlt hq, ← hnx, ih (i + 1) (c :: L) (by omega), List.map_cons]
        conv => rhs; unfold gr
        rw [hq]
end Go.Proofs.YtcmhbcfgikmblabGreatDoor.Qy
namespace Go.Proofs.YtcmhbcfgikmblabGreatDoor.Qy
open Go.RowKit Go.Maps

/-- The match with that root. -/
def mtc (R : List (List Int)) (z : Int) : Option (List Int) := R.find? (fun l => l.head? == some z)
theorem mtc_no {z : Int} : ∀ (R : List (List Int)), (∀ j, j < R.length → (R.getD j []).head? ≠ some z) → mtc R z = none
  | [], _ => rfl
  | l :: R, h => by
    have h0 : l.head? ≠ some z := by have := h 0 (by simp); simpa using this
    have h1 := mtc_no R (fun j hj => by have := h (j + 1) (by simp; omega); simpa using this)
    unfold mtc at h1 ⊢
    rw [List.find?_cons_of_neg (by simpa using h0)]
    exact h1
theorem mtc_hit {z : Int} : ∀ (R : List (List Int)) (i : Nat), i < R.length → (R.getD i []).head? = some z → (∀ j, j < i → (R.getD j []).head? ≠ some z) → mtc R z = some (R.getD i [])
  | [], _, h, _, _ => by simp at h
  | l :: R, 0, _, h, _ => by
    unfold mtc
    have h1 : l.head? = some z := by simpa using h
    rw [List.find?_cons_of_pos (by simpa using h1)]
    simp
  | l :: R, i + 1, h1, h2, h3 => by
    have h0 : l.head? ≠ some z := by have := h3 0 (by omega); simpa using this
    have h4 := mtc_hit R i (by simp at h1; omega) (by simpa using h2) (fun j hj => by have := h3 (j + 1) (by omega); simpa using this)
    unfold mtc at h4 ⊢
    rw [List.find?_cons_of_neg (by simpa using h0), h4]
    simp
theorem gN_head {P : List Pn} {T : List Tr.Nd} (hT : Tr.Fo (Tr.kds T)) {c v : Nat} (hv : v < T.length) {l : List Int} (h : gN P T c v = some l) : l.head? = some (v : Int) := by
  rw [gN_eq P T hT c v hv] at h
  split at h
  · obtain ⟨k, _, rfl⟩ := Option.map_eq_some_iff.1 h
    rfl
  · cases h
/-- The match at a node, looked for among all. -/
theorem mtc_alls {P : List Pn} {T : List Tr.Nd} (s : ByteArray) (hT : Tr.Fo (Tr.kds T)) (v : Nat) : ∀ n, n ≤ T.length → mtc (alls P [] T s n) (v : Int) = if v < n then gN P T 0 v else none
  | 0, _ => rfl
  | n + 1, hn => by
    have ih := mtc_alls (P := P) s hT v n (by omega)
    rw [alls_succ, mt1_eq P [] T s hT n (by omega)]
    unfold mtc at ih ⊢
    rw [List.find?_append, ih]
    have h1 : ∀ l, hld P [] T s l = true := fun l => rfl
    by_cases hv : v < n
    · rw [if_pos hv, if_pos (by omega)]
      cases hq : gN P T 0 v with
      | some l => rfl
      | none =>
        cases hq2 : gN P T 0 n with
        | none => rfl
        | some l =>
          have h2 := gN_head hT (by omega) hq2
          simp only [h1, if_true]
          rw [List.find?_cons_of_neg (by rw [h2]; simp; omega)]
          rfl
    · rw [if_neg hv]
      by_cases he : v = n
      · subst he
        rw [if_pos (by omega)]
        cases hq2 : gN P T 0 v with
        | none => rfl
        | some l =>
          have h2 := gN_head hT (by omega) hq2
          simp only [h1, if_true]
          rw [List.find?_cons_of_pos (by rw [h2]; simp)]
          rfl
      · rw [if_neg (by omega)]
        cases hq2 : gN P T 0 n with
        | none => rfl
        | some l =>
          have h2 := gN_head hT (by omega) hq2
          simp only [h1, if_true]
          rw [List.find?_cons_of_neg (by rw [h2]; simp; omega)]
          rfl
end Go.Proofs.YtcmhbcfgikmblabGreatDoor.Qy
namespace Go.Proofs.YtcmhbcfgikmblabGreatDoor.Qy
open Go.RowKit Go.Maps

theorem gr_congr {α : Type} (f g : α → Nat → Option (List Int)) : ∀ (L : List α) (ks : List Nat), (∀ c ∈ L, ∀ k ∈ ks, f c k = g c k) → gr (L.map f) ks = gr (L.map g) ks
  | [], ks, _ => by rw [List.map_nil, List.map_nil]
  | c :: L, [], _ => by simp [gr]
  | c :: L, k :: ks, h => by
    have h1 := gr_congr f g L ks (fun c' hc k' hk => h c' (List.mem_cons_of_mem _ hc) k' (List.mem_cons_of_mem _ hk))
    have h2 := gr_congr f g (c :: L) ks (fun c' hc k' hk => h c' hc k' (List.mem_cons_of_mem _ hk))
    rw [List.map_cons, List.map_cons] at h2 ⊢
    unfold gr
    rw [h c (List.mem_cons_self ..) k (List.mem_cons_self ..), h1, h2]
termination_by L ks => L.length + ks.length
/-- The matches of a part. -/
def pts (P : List Pn) (T : List Tr.Nd) (s : ByteArray) (c : Nat) : List (List Int) := alls (sub P c) [] T s T.length
theorem kN_lt {l : List Int} (h : Tr.Fo l) (v : Nat) (hv : v < l.length) : ∀ k ∈ kN l v, k < l.length := fun k hk => by
  unfold kN at hk
  obtain ⟨j, hj, rfl⟩ := List.mem_map.1 hk
  have hj2 := List.mem_range.1 hj
  have k1 := h.step v hv
  exact h.lt (v + 1) j (by omega) (by omega)
/-- What is found at a node, by what is found of the parts. -/
theorem gN_parts {P : List Pn} {T : List Tr.Nd} (s : ByteArray) (hP : Tr.Fo (pks P)) (hp : 0 < P.length) (hT : Tr.Fo (Tr.kds T)) (v : Nat) (hv : v < T.length) : gN P T 0 v = if alk (P.getD 0 pz) (T.getD v Tr.ndd) then (gr ((kN (pks P) 0).map (fun c k => mtc (pts P T s c) (k : Int))) (kN (Tr.kds T) v)).map ((v : Int) :: ·) else none := by
  have hvl : v < (Tr.kds T).length := by rw [Tr.kds_len]; exact hv
  rw [gN_eq P T hT 0 v hv]
  have h1 := gK_gr (P := P) hT v hv (Tr.kA (Tr.kds T) v) 0 (kN (pks P) 0) (by omega)
  rw [Tr.wA_zero] at h1
  rw [h1]
  have h2 : kF (Tr.kds T) v 0 = kN (Tr.kds T) v := by unfold kF; rfl
  rw [h2, gr_congr (gN P T) (fun c k => mtc (pts P T s c) (k : Int)) (kN (pks P) 0) (kN (Tr.kds T) v) (fun c hc k hk => ?_)]
  have hcl := kN_lt hP 0 (by rw [pks_len]; exact hp) c hc
  rw [pks_len] at hcl
  have hkl := kN_lt hT v hvl k hk
  rw [Tr.kds_len] at hkl
  show gN P T c k = mtc (alls (sub P c) [] T s T.length) (k : Int)
  rw [mtc_alls s hT k T.length (Nat.le_refl _), if_pos hkl, gN_sub hP hcl]
/-- The pattern's own node, without its children. -/
def bare1 (p : Pn) : Pn := ⟨p.nm, p.lit, p.fd, p.cp, 0⟩
theorem own_one {p : Pn} {T : List Tr.Nd} (s : ByteArray) (hT : Tr.Fo (Tr.kds T)) (v : Nat) (hv : v < T.length) : mtc (alls [bare1 p] [] T s T.length) (v : Int) = if alk p (T.getD v Tr.ndd) then some [(v : Int)] else none := by
  rw [mtc_alls s hT v T.length (Nat.le_refl _), if_pos hv, gN_eq [bare1 p] T hT 0 v hv]
  have hk : kN (pks [bare1 p]) 0 = [] := rfl
  rw [hk, gK_nil]
  rfl
theorem gr_end (f : Nat → Option (List Int)) (fs : List (Nat → Option (List Int))) (ks : List Nat) (k : Nat) (h : ks.length ≤ k) : gr (f :: fs) (ks.drop k) = none := by
  rw [List.drop_eq_nil_of_le h]
  simp [gr]
theorem gr_go (f : Nat → Option (List Int)) (fs : List (Nat → Option (List Int))) (ks : List Nat) (k : Nat) (h : k < ks.length) (hn : f (ks.getD k 0) = none) : gr (f :: fs) (ks.drop k) = gr (f :: fs) (ks.drop (k + 1)) := by
  rw [List.drop_eq_getElem_cons h]
  have e : ks.getD k 0 = ks[k] := by rw [List.getD_eq_getElem?_getD, List.getElem?_eq_getElem h]; rfl
  rw [e] at hn
  conv => lhs; unfold gr
  rw [hn]
theorem gr_hit (f : Nat → Option (List Int)) (fs : List (Nat → Option (List Int))) (ks : List Nat) (k : Nat) (h : k < ks.length) (l : List Int) (hn : f (ks.getD k 0) = some l) : gr (f :: fs) (ks.drop k) = (gr fs (ks.drop (k + 1))).map (l ++ ·) := by
  rw [List.drop_eq_getElem_cons h]
  have e : ks.getD k 0 = ks[k] := by rw [List.getD_eq_getElem?_getD, List.getElem?_eq_getElem h]; rfl
  rw [e] at hn
  conv => lhs; unfold gr
  rw [hn]
end Go.Proofs.YtcmhbcfgikmblabGreatDoor.Qy
