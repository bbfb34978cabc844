import Derived.Test.YtcmhbcfgikmblabGreatDoorQyo
namespace Go.Proofs.YtcmhbcfgikmblabGreatDoor.Qy
open Go.RowKit Go.Maps

def cnw (c : Cd) : List Wd := [⟨1, if c.nt then [117, 110, 108, 101, 115, 115] else [119, 104, 101, 110], 0, 0⟩, wS 64, wN c.a, wS 61] ++ (if c.b = ⟨#[]⟩ then [wQ c.tx] else [wS 64, wN c.b])
/-- The words of a query. -/
def qW (l : List Pn) (cs : List Cd) : List Wd := spW (l.length + 1) 1 l ++ cs.flatMap cnw
theorem ixc_le (t : ByteArray) : ∀ (l : List Pn) (k : Nat), ixc l t k = -1 ∨ (∃ n ∈ l, n.cp = t) ∧ (k : Int) ≤ ixc l t k ∧ ixc l t k < (k : Int) + (l.length : Int)
  | [], k => .inl rfl
  | n :: l, k => by
    unfold ixc
    by_cases h : n.cp = t
    · rw [if_pos h]; exact .inr ⟨⟨n, by simp, h⟩, Int.le_refl _, by simp; omega⟩
    · rw [if_neg h]
      rcases ixc_le t l (k + 1) with h1 | ⟨⟨x, hx, e⟩, h2, h3⟩
      · exact .inl h1
      · exact .inr ⟨⟨x, by simp [hx], e⟩, by omega, by simp only [List.length_cons]; omega⟩
theorem cap_some {l : List Pn} {t : ByteArray} (h : cap l t ≠ -1) : t ≠ ⟨#[]⟩ ∧ (∃ n ∈ l, n.cp = t) ∧ 0 ≤ cap l t ∧ cap l t < (l.length : Int) := by
  unfold cap at h ⊢
  by_cases h0 : t = ⟨#[]⟩
  · rw [if_pos h0] at h; exact absurd rfl h
  · rw [if_neg h0] at h ⊢
    rcases ixc_le t l 0 with h1 | ⟨h1, h2, h3⟩
    · exact absurd h1 h
    · exact ⟨h0, h1, by omega, by omega⟩
theorem cap_name {l : List Pn} {t : ByteArray} (h : cap l t ≠ -1) (hs : ∀ p ∈ l, nsh p = true) : t.data.toList ≠ [95] := by
  obtain ⟨h0, ⟨n, hn, e⟩, _⟩ := cap_some h
  have h1 := hs n hn
  unfold nsh at h1
  rw [Bool.and_eq_true, Bool.and_eq_true, e] at h1
  exact tl_ne (nmN_ok h1.2.1 h0)
theorem csh_ok {l : List Pn} {c : Cd} (h : csh l c = true) : cap l c.a ≠ -1 ∧ (c.b = ⟨#[]⟩ ∨ c.b ≠ ⟨#[]⟩ ∧ c.tx = ⟨#[]⟩ ∧ cap l c.b ≠ -1) := by
  unfold csh at h
  rw [Bool.and_eq_true] at h
  refine ⟨by simpa using h.1, ?_⟩
  by_cases hb : c.b = ⟨#[]⟩
  · exact .inl hb
  · rw [decide_eq_false hb, Bool.false_or, Bool.and_eq_true] at h
    exact .inr ⟨hb, by simpa using h.2.1, by simpa using h.2.2⟩
theorem cnd_rd {ns : List Pn} {c : Cd} {u rest : List Wd} (cs : List Cd) (co : Int) (hs : ∀ p ∈ ns, nsh p = true) (hc : csh ns c = true) (hu : Sw u (cnw c)) (hl : cs.length < 16) :
    cnd ⟨u ++ rest, ns, cs, co⟩ = (true, ⟨rest, ns, cs ++ [c], co⟩) := by
  obtain ⟨h1, h2⟩ := csh_ok hc
  have a1 := cap_name h1 hs
  unfold cnw at hu
  obtain ⟨x1, y1, rfl, k1, t1, hu1⟩ := hu.cons
  obtain ⟨x2, y2, rfl, k2, t2, hu2⟩ := hu1.cons
  obtain ⟨x3, y3, rfl, k3, t3, hu3⟩ := hu2.cons
  obtain ⟨x4, y4, rfl, k4, t4, hu4⟩ := hu3.cons
  replace k1 : x1.k = 1 := k1
  replace k2 : x2.k = 5 := k2
  replace t2 : x2.t = [64] := t2
  replace k3 : x3.k = 1 := k3
  replace t3 : x3.t = c.a.data.toList := t3
  replace k4 : x4.k = 5 := k4
  replace t4 : x4.t = [61] := t4
  replace t1 : x1.t = if c.nt then [117, 110, 108, 101, 115, 115] else [119, 104, 101, 110] := t1
  have hl2 : ¬ cs.length = 16 := by omega
  replace hu4 : Sw y4 (if c.b = ⟨#[]⟩ then [wQ c.tx] else [wS 64, wN c.b]) := hu4
  obtain ⟨nt, a, b, tx⟩ := c
  simp only at *
  rcases h2 with h2 | ⟨h2, h3, h4⟩
  · rw [if_pos h2] at hu4
    obtain ⟨x5, y5, rfl, k5, t5, hu5⟩ := hu4.cons
    rw [hu5.nil]
    replace k5 : x5.k = 2 := k5
    replace t5 : x5.t = tx.data.toList := t5
    subst h2
    cases nt <;> simp at t1 <;> simp [cnd, se, hd, tl, mst, cnm, nmA, oth, adC, k1, t1, k2, t2, k3, t3, k4, t4, k5, t5, a1, h1, hl2, bs_toList]
  · rw [if_neg h2] at hu4
    obtain ⟨x5, y5, rfl, k5, t5, hu5⟩ := hu4.cons
    obtain ⟨x6, y6, rfl, k6, t6, hu6⟩ := hu5.cons
    rw [hu6.nil]
    replace k5 : x5.k = 5 := k5
    replace t5 : x5.t = [64] := t5
    replace k6 : x6.k = 1 := k6
    replace t6 : x6.t = b.data.toList := t6
    have a2 := cap_name h4 hs
    subst h3
    cases nt <;> simp at t1 <;> simp [cnd, se, hd, tl, mst, cnm, nmA, oth, adC, k1, t1, k2, t2, k3, t3, k4, t4, k5, t5, k6, t6, a1, a2, h1, h4, hl2, bs_toList]
theorem cnw_hd {c : Cd} {u : List Wd} (hu : Sw u (cnw c)) : ∃ x y, u = x :: y ∧ x.k = 1 := by
  unfold cnw at hu
  obtain ⟨x1, y1, rfl, k1, t1, hu1⟩ := hu.cons
  exact ⟨x1, y1, rfl, k1⟩
theorem cnds_rd {ns : List Pn} (z : Wd) (co : Int) (hs : ∀ p ∈ ns, nsh p = true) : ∀ (l cs : List Cd) (u : List Wd) (m : Nat), (∀ c ∈ l, csh ns c = true) → Sw u (l.flatMap cnw) → cs.length + l.length ≤ 16 → u.length + 1 ≤ m → rdC m ⟨u ++ [z], ns, cs, co⟩ = (true, ⟨[z], ns, cs ++ l, co⟩) := by
  intro l
  induction l with
  | nil =>
    intro cs u m _ hu _ hm
    rw [hu.nil]
    cases m with
    | zero => simp [rdC]
    | succ m => simp [rdC]
  | cons c l ih =>
    intro cs u m hc hu hl hm
    rw [List.flatMap_cons] at hu
    obtain ⟨u1, u2, rfl, hu1, hu2⟩ := hu.app
    obtain ⟨x, y, hxy, _⟩ := cnw_hd hu1
    obtain ⟨m0, rfl⟩ : ∃ m0, m = m0 + 1 := ⟨m - 1, by omega⟩
    rw [List.append_assoc]
    have h1 := cnd_rd (rest := u2 ++ [z]) cs co hs (hc c (by simp)) hu1 (by simp only [List.length_cons] at hl; omega)
    unfold rdC
    rw [if_neg (by rw [hxy]; simp), h1]
    simp only
    rw [ih (cs ++ [c]) u2 m0 (fun d hd => hc d (by simp [hd])) hu2 (by simp only [List.length_append, List.length_cons, List.length_nil] at hl ⊢; omega) (by rw [hxy] at hm; simp only [List.length_append, List.length_cons] at hm; omega)]
    simp
theorem shp_ok {l : List Pn} {c : List Cd} (h : shp l c = true) : l.length ≤ 32 ∧ c.length ≤ 16 ∧ Tr.rt (pks l) = some 1 ∧ (∀ i, i < l.length → nat' l i = true) ∧ ∀ x ∈ c, csh l x = true := by
  unfold shp at h
  simp only [Bool.and_eq_true, decide_eq_true_eq, List.all_eq_true] at h
  exact ⟨h.1, h.2.1, h.2.2.1, fun i hi => h.2.2.2.1 i (by simpa using hi), h.2.2.2.2⟩
theorem ixc_first (t : ByteArray) : ∀ (l : List Pn) (k i : Nat), i < l.length → (l.getD i pz).cp = t → ixc l t k ≤ ((k + i : Nat) : Int)
  | [], _, _, h, _ => by cases h
  | n :: l, k, 0, _, e => by
    have e' : n.cp = t := e
    unfold ixc
    rw [if_pos e']; omega
  | n :: l, k, i + 1, h, e => by
    unfold ixc
    by_cases hn : n.cp = t
    · rw [if_pos hn]; omega
    · rw [if_neg hn]
      have := ixc_first t l (k + 1) i (by simpa using h) e
      omega
theorem shp_gd {l : List Pn} {c : List Cd} (h : shp l c = true) : Gd [] l := by
  obtain ⟨h1, h2, h3, h4, h5⟩ := shp_ok h
  have hn : ∀ i, i < l.length → nsh (l.getD i pz) = true ∧ ((l.getD i pz).cp = ⟨#[]⟩ ∨ cap l (l.getD i pz).cp = (i : Int)) := fun i hi => by
    have := h4 i hi
    unfold nat' at this
    rw [Bool.and_eq_true, Bool.or_eq_true, decide_eq_true_eq, decide_eq_true_eq] at this
    exact this
  refine ⟨fun p hp => ?_, ?_, by simpa using h1⟩
  · obtain ⟨i, hi, rfl⟩ := List.getElem_of_mem hp
    have := (hn i hi).1
    rwa [List.getD_eq_getElem?_getD, List.getElem?_eq_getElem hi, Option.getD_some] at this
  · rw [List.nil_append, List.pairwise_iff_getElem]
    intro i j hi hj hij he
    by_cases h0 : (l[i]).cp = ⟨#[]⟩
    · exact h0
    · exfalso
      have hj2 := (hn j hj).2
      have hgi : l.getD i pz = l[i] := by rw [List.getD_eq_getElem?_getD, List.getElem?_eq_getElem hi]; rfl
      have hgj : l.getD j pz = l[j] := by rw [List.getD_eq_getElem?_getD, List.getElem?_eq_getElem hj]; rfl
      rw [hgj] at hj2
      rcases hj2 with h | h
      · exact h0 (by rw [he, h])
      · rw [← he] at h
        unfold cap at h
        rw [if_neg h0] at h
        have := ixc_first (l[i]).cp l 0 i hi (by rw [hgi])
        rw [h] at this
        omega
/-- What is written is read back. -/
theorem rd_back {l : List Pn} {cs : List Cd} {u : List Wd} {z : Wd} (h : shp l cs = true) (hu : Sw u (qW l cs)) (hz : z.k = 0) : rdA ⟨u ++ [z], [], [], 0⟩ = (true, ⟨[z], l, cs, 0⟩) := by
  have hg := shp_gd h
  obtain ⟨h1, h2, h3, h4, h5⟩ := shp_ok h
  unfold qW at hu
  obtain ⟨u1, u2, rfl, hu1, hu2⟩ := hu.app
  cases l with
  | nil => cases h3
  | cons p l =>
    obtain ⟨q, hq, k0, k1, hr⟩ := Tr.rt_cons (show Tr.rt (p.kd :: pks l) = some 1 from h3)
    have hkq : p.kd.toNat ≤ q := by omega
    rw [List.length_cons, spW_step] at hu1
    have htk : l.take (Tr.sk (pks l) p.kd.toNat) = l := by
      obtain ⟨a1, a2, a3⟩ := Tr.sk_ok (pks l) q p.kd.toNat hq hkq
      have : q - p.kd.toNat = 0 := by omega
      rw [this] at a2
      have hlen : (pks l).length = l.length := by simp [pks]
      have hge : l.length ≤ Tr.sk (pks l) p.kd.toNat := by
        rcases Nat.lt_or_ge (Tr.sk (pks l) p.kd.toNat) l.length with hlt | hge
        · exact absurd (Tr.rt_pos a2 (by rw [List.length_drop, hlen]; omega)) (by omega)
        · exact hge
      exact List.take_of_length_le hge
    have hd0 : l.drop (Tr.sk (pks l) p.kd.toNat) = [] := by
      have := List.take_append_drop (Tr.sk (pks l) p.kd.toNat) l
      rw [htk] at this
      exact List.append_right_eq_self.1 this
    have hu1' : Sw u1 (spO (l.length + 1) p l) := by
      rw [hd0] at hu1
      have : spW (l.length + 1) 0 ([] : List Pn) = [] := rfl
      rw [this, List.append_nil] at hu1
      exact hu1
    have hna : NA (u2 ++ [z]) := by
      cases cs with
      | nil => rw [hu2.nil]; exact na_of ⟨z, [], rfl, .inl (by omega)⟩
      | cons c cs =>
        rw [List.flatMap_cons] at hu2
        obtain ⟨a, b, rfl, ha, _⟩ := hu2.app
        obtain ⟨x, y, rfl, hx⟩ := cnw_hd ha
        exact na_of ⟨x, _, rfl, .inl (by omega)⟩
    have h7 := rd_one (l.length + 1) (fun k l r ns cs c u rest i m => rd_many _ k l r ns cs c u rest i m) p l q [] [] 0 u1 (u2 ++ [z]) (2 * (u1 ++ u2 ++ [z]).length) (by omega) hq k0 hkq (by rw [htk]; exact hg) hu1' hna (by simp only [List.length_append]; omega)
    rw [htk] at h7
    unfold rdA
    simp only
    rw [List.append_assoc] at h7 ⊢
    rw [h7]
    simp only [List.nil_append]
    exact cnds_rd z 0 hg.sh cs [] u2 _ h5 hu2 (by simpa using h2) (by simp)
end Go.Proofs.YtcmhbcfgikmblabGreatDoor.Qy
