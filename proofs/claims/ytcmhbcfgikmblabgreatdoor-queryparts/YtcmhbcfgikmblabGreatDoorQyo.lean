import Derived.Test.YtcmhbcfgikmblabGreatDoorSam
import Derived.Test.YtcmhbcfgikmblabGreatDoorQyn
namespace Go.Proofs.YtcmhbcfgikmblabGreatDoor
open Go.RowKit Go.Maps

/-- A word without its place. -/
def nop (x : Wd) : Wd := { x with a := 0 }
theorem nop_eq (x y : Wd) : (nop x = nop y) ↔ x.k = y.k ∧ x.t = y.t ∧ x.n = y.n := by
  obtain ⟨a, b, c, d⟩ := x
  obtain ⟨e, f, g, h⟩ := y
  simp [nop]
theorem take_eq_snoc2 {la lb : List Wd} {i : Nat} (h : (la.take i).map nop = (lb.take i).map nop) (ha : i < la.length) (hb : i < lb.length) (e : nop (la.getD i w0) = nop (lb.getD i w0)) : (la.take (i + 1)).map nop = (lb.take (i + 1)).map nop := by
  rw [List.take_add_one, List.take_add_one, List.map_append, List.map_append, h]
  simp only [List.getD_eq_getElem?_getD, List.getElem?_eq_getElem ha, List.getElem?_eq_getElem hb, Option.getD_some] at e
  rw [List.getElem?_eq_getElem ha, List.getElem?_eq_getElem hb]
  simp [e]

end Go.Proofs.YtcmhbcfgikmblabGreatDoor
namespace Go.Proofs.YtcmhbcfgikmblabGreatDoor.Qy
open Go.RowKit Go.Maps

def wN (t : ByteArray) : Wd := ⟨1, t.data.toList, 0, 0⟩
def wS (c : UInt8) : Wd := ⟨5, [c], 0, 0⟩
def wQ (t : ByteArray) : Wd := ⟨2, t.data.toList, 0, 0⟩
def fdw (p : Pn) : List Wd := if p.fd = ⟨#[]⟩ then [] else [wN p.fd, wS 58]
def cpw (p : Pn) : List Wd := if p.cp = ⟨#[]⟩ then [] else [wS 64, wN p.cp]
def nmw (p : Pn) : Wd := if p.nm = ⟨#[]⟩ then ⟨1, [95], 0, 0⟩ else wN p.nm
/-- The words of the first k patterns. -/
def spW : Nat → Nat → List Pn → List Wd
  | 0, _, _ => []
  | _ + 1, 0, _ => []
  | _ + 1, _ + 1, [] => []
  | n + 1, k + 1, p :: l => (fdw p ++ ((if p.lit then [wQ p.nm] else [wS 40, nmw p] ++ (spW n p.kd.toNat l ++ [wS 41])) ++ cpw p)) ++ spW n k (l.drop (Tr.sk (pks l) p.kd.toNat))
def spO (n : Nat) (p : Pn) (l : List Pn) : List Wd := fdw p ++ ((if p.lit then [wQ p.nm] else [wS 40, nmw p] ++ (spW n p.kd.toNat l ++ [wS 41])) ++ cpw p)
theorem spW_step (n k : Nat) (p : Pn) (l : List Pn) : spW (n + 1) (k + 1) (p :: l) = spO n p l ++ spW n k (l.drop (Tr.sk (pks l) p.kd.toNat)) := rfl
/-- The same words, but for their places. -/
def Sw (u v : List Wd) : Prop := u.map nop = v.map nop
theorem Sw.len {u v : List Wd} (h : Sw u v) : u.length = v.length := by have := congrArg List.length h; simpa using this
theorem Sw.app {u a b : List Wd} (h : Sw u (a ++ b)) : ∃ x y, u = x ++ y ∧ Sw x a ∧ Sw y b := by
  unfold Sw at h
  rw [List.map_append] at h
  obtain ⟨x, y, e, h1, h2⟩ := List.map_eq_append_iff.1 h
  exact ⟨x, y, e, h1, h2⟩
theorem Sw.cons {u b : List Wd} {a : Wd} (h : Sw u (a :: b)) : ∃ x y, u = x :: y ∧ x.k = a.k ∧ x.t = a.t ∧ Sw y b := by
  unfold Sw at h
  rw [List.map_cons] at h
  obtain ⟨x, y, e, h1, h2⟩ := List.map_eq_cons_iff.1 h
  refine ⟨x, y, e, ?_, ?_, h2⟩
  · have := congrArg Wd.k h1; simpa [nop] using this
  · have := congrArg Wd.t h1; simpa [nop] using this
theorem Sw.nil {u : List Wd} (h : Sw u []) : u = [] := by unfold Sw at h; simpa using h
theorem bs_toList (t : ByteArray) : bs t.data.toList = t := by unfold bs; simp
theorem tl_ne {t : ByteArray} (h : t ≠ ⟨#[95]⟩) : t.data.toList ≠ [95] := fun e => h (by rw [← bs_toList t, e])
theorem tl_nem {t : ByteArray} (h : t ≠ ⟨#[]⟩) : t.data.toList ≠ [] := fun e => h (by rw [← bs_toList t, e])
/-- What follows does not begin with @. -/
def NA (l : List Wd) : Prop := ¬ ((l.headD w0).k = 5 ∧ (l.headD w0).t = [64])
theorem NA.no {l : List Wd} (h : NA l) (ns : List Pn) (cs : List Cd) (c : Int) : se ⟨l, ns, cs, c⟩ 5 [64] = false := by
  unfold se hd
  cases hk : (l.headD w0).k == 5 with
  | false => rfl
  | true =>
    rw [Bool.true_and, decide_eq_false]
    intro e
    exact h ⟨by simpa using hk, e⟩
theorem na_of {l : List Wd} (h : ∃ x y, l = x :: y ∧ (x.k ≠ 5 ∨ x.t ≠ [64])) : NA l := by
  obtain ⟨x, y, rfl, h⟩ := h
  rintro ⟨h1, h2⟩
  rcases h with h | h
  · exact h h1
  · exact h h2
theorem cap_none {l : List Pn} {t : ByteArray} (h : ∀ n ∈ l, n.cp ≠ t) : cap l t = -1 := by
  unfold cap
  split
  · rfl
  · suffices H : ∀ (l : List Pn) (k : Nat), (∀ n ∈ l, n.cp ≠ t) → ixc l t k = -1 from H l 0 h
    intro l
    induction l with
    | nil => intro k _; rfl
    | cons a l ih =>
      intro k h
      unfold ixc
      rw [if_neg (h a (by simp)), ih _ (fun n hn => h n (by simp [hn]))]
theorem nmN_ok {t : ByteArray} (h : nmN t = true) (h0 : t ≠ ⟨#[]⟩) : t ≠ ⟨#[95]⟩ := by
  unfold nmN at h
  rw [decide_eq_false h0, Bool.false_or, Bool.and_eq_true] at h
  simpa using h.1
theorem nmA_of (x : Wd) (y : List Wd) (ns : List Pn) (cs : List Cd) (c : Int) (t : ByteArray) (hk : x.k = 1) (ht : x.t = t.data.toList) (h : nmN t = true) (h0 : t ≠ ⟨#[]⟩) : nmA ⟨x :: y, ns, cs, c⟩ = true := by
  unfold nmA hd
  simp [hk, ht, tl_ne (nmN_ok h h0)]
theorem nmA_no (x : Wd) (y : List Wd) (ns : List Pn) (cs : List Cd) (c : Int) (hk : x.k ≠ 1) : nmA ⟨x :: y, ns, cs, c⟩ = false := by
  unfold nmA hd
  simp [hk]
theorem se_of (x : Wd) (y : List Wd) (ns : List Pn) (cs : List Cd) (c : Int) (k : Int) (t : List UInt8) (hk : x.k = k) (ht : x.t = t) : se ⟨x :: y, ns, cs, c⟩ k t = true := by
  unfold se hd; simp [hk, ht]
theorem se_no (x : Wd) (y : List Wd) (ns : List Pn) (cs : List Cd) (c : Int) (k : Int) (t : List UInt8) (hk : x.k ≠ k ∨ x.t ≠ t) : se ⟨x :: y, ns, cs, c⟩ k t = false := by
  unfold se hd
  rcases hk with h | h
  · simp [h]
  · simp [h]
theorem set_mid (ns : List Pn) (p q : Pn) (m : List Pn) : (ns ++ p :: m).set ns.length q = ns ++ q :: m := by simp
theorem get_mid (ns : List Pn) (p : Pn) (m : List Pn) : (ns ++ p :: m).getD ns.length pz = p := by simp [List.getD_eq_getElem?_getD]
/-- The capture, if there is one. -/
theorem cpt_rd {p : Pn} {u rest : List Wd} (ns : List Pn) (q : Pn) (m : List Pn) (cs : List Cd) (c : Int) (hp : nmN p.cp = true) (hu : Sw u (cpw p)) (hr : NA rest) (hd : ∀ n ∈ ns ++ q :: m, p.cp ≠ ⟨#[]⟩ → n.cp ≠ p.cp) (hq : q.cp = ⟨#[]⟩) :
    cpt ⟨u ++ rest, ns ++ q :: m, cs, c⟩ ns.length = (true, ⟨rest, ns ++ { q with cp := p.cp } :: m, cs, c⟩) := by
  by_cases h0 : p.cp = ⟨#[]⟩
  · unfold cpw at hu
    rw [if_pos h0] at hu
    rw [hu.nil, List.nil_append]
    unfold cpt
    rw [hr.no]
    have : ({ q with cp := p.cp } : Pn) = q := by rw [h0, ← hq]
    rw [this]
    rfl
  · unfold cpw at hu
    rw [if_neg h0] at hu
    obtain ⟨x, y, rfl, k1, t1, hy⟩ := hu.cons
    obtain ⟨x2, y2, rfl, k2, t2, hy2⟩ := hy.cons
    rw [hy2.nil]
    replace k1 : x.k = 5 := k1
    replace t1 : x.t = [64] := t1
    replace k2 : x2.k = 1 := k2
    replace t2 : x2.t = p.cp.data.toList := t2
    have hc : cap (ns ++ q :: m) p.cp = -1 := cap_none fun n hn => hd n hn h0
    have e9 := tl_ne (nmN_ok hp h0)
    simp [cpt, cnm, se, Qy.hd, tl, nmA, k1, t1, k2, t2, bs_toList, hc, e9, upN]
/-- Captures apart. -/
def Dc (a b : Pn) : Prop := a.cp = b.cp → a.cp = ⟨#[]⟩
theorem opn_fd {p : Pn} {u rest : List Wd} (ns : List Pn) (cs : List Cd) (c : Int) (hp : nmN p.fd = true) (hu : Sw u (fdw p)) (hr : ∃ x y, rest = x :: y ∧ (x.k = 5 ∧ x.t = [40] ∨ x.k = 2 ∧ x.t ≠ [])) :
    (!fdA ⟨u ++ rest, ns, cs, c⟩ && !ndA ⟨u ++ rest, ns, cs, c⟩) = false ∧ opn ⟨u ++ rest, ns, cs, c⟩ = ⟨rest, ns ++ [{ pz with fd := p.fd }], cs, c⟩ := by
  obtain ⟨z, y, rfl, hz⟩ := hr
  by_cases h0 : p.fd = ⟨#[]⟩
  · unfold fdw at hu
    rw [if_pos h0] at hu
    rw [hu.nil, List.nil_append, h0]
    have hz1 : z.k ≠ 1 := by rcases hz with h | h <;> omega
    have e1 : nmA ⟨z :: y, ns, cs, c⟩ = false := nmA_no _ _ _ _ _ hz1
    have e2 : nmA ⟨z :: y, ns ++ [pz], cs, c⟩ = false := nmA_no _ _ _ _ _ hz1
    constructor
    · unfold fdA
      rw [e1]
      rcases hz with h | h
      · simp [ndA, se, hd, h]
      · simp [ndA, se, hd, h]
    · unfold opn fld fdA
      simp only
      rw [e2]
      rfl
  · unfold fdw at hu
    rw [if_neg h0] at hu
    obtain ⟨x, y1, rfl, k1, t1, hy⟩ := hu.cons
    obtain ⟨x2, y2, rfl, k2, t2, hy2⟩ := hy.cons
    rw [hy2.nil]
    replace k1 : x.k = 1 := k1
    replace t1 : x.t = p.fd.data.toList := t1
    replace k2 : x2.k = 5 := k2
    replace t2 : x2.t = [58] := t2
    have e9 := tl_ne (nmN_ok hp h0)
    constructor
    · simp [fdA, nmA, se, hd, tl, k1, t1, k2, t2, e9]
    · simp [opn, fld, fdA, nmA, se, hd, tl, k1, t1, k2, t2, e9, upN, bs_toList, List.getD_eq_getElem?_getD]

/-- Nodes that are read back, behind others. -/
structure Gd (ns l : List Pn) : Prop where
  sh : ∀ p ∈ l, nsh p = true
  ap : (ns ++ l).Pairwise Dc
  le : ns.length + l.length ≤ 32
theorem spW_na {n k : Nat} {l : List Pn} {u rest : List Wd} (hu : Sw u (spW n k l)) (hr : NA rest) (hs : ∀ p ∈ l, nsh p = true) : NA (u ++ rest) := by
  cases n with
  | zero => rw [hu.nil]; exact hr
  | succ n =>
    cases k with
    | zero => rw [hu.nil]; exact hr
    | succ k =>
      cases l with
      | nil => rw [hu.nil]; exact hr
      | cons p l =>
        rw [spW_step] at hu
        unfold spO fdw at hu
        by_cases h0 : p.fd = ⟨#[]⟩
        · rw [if_pos h0] at hu
          by_cases hl : p.lit = true
          · rw [if_pos hl] at hu
            obtain ⟨x, y, rfl, k1, _⟩ := hu.cons
            exact na_of ⟨x, _, rfl, .inl (by rw [k1]; simp [wQ])⟩
          · rw [if_neg hl] at hu
            obtain ⟨x, y, rfl, k1, t1, _⟩ := hu.cons
            exact na_of ⟨x, _, rfl, .inr (by rw [t1]; decide)⟩
        · rw [if_neg h0] at hu
          obtain ⟨x, y, rfl, k1, _⟩ := hu.cons
          exact na_of ⟨x, _, rfl, .inl (by rw [k1]; simp [wN])⟩
theorem sk_pks_le (l : List Pn) (k r : Nat) (h : Tr.rt (pks l) = some r) (hk : k ≤ r) : Tr.sk (pks l) k ≤ l.length := by
  have := (Tr.sk_ok (pks l) r k h hk).1
  unfold pks at this ⊢
  simpa using this
theorem pks_drop (l : List Pn) (k : Nat) : pks (l.drop k) = (pks l).drop k := by unfold pks; rw [List.map_drop]
/-- A pattern's words are read as its nodes. -/
theorem rd_one (n : Nat) (ih : ∀ k l r ns cs c u rest i m, l.length ≤ n → Tr.rt (pks l) = some r → k ≤ r → Gd ns (l.take (Tr.sk (pks l) k)) → Sw u (spW n k l) → NA rest → 2 * (u.length + rest.length) + 1 ≤ m → i < ns.length →
      ∃ m', 2 * rest.length + 1 ≤ m' ∧ rdP m (some i) ⟨u ++ rest, ns, cs, c⟩ = rdP m' (some i) ⟨rest, (ns ++ l.take (Tr.sk (pks l) k)).set i { (ns.getD i pz) with kd := (ns.getD i pz).kd + (k : Int) }, cs, c⟩)
    (p : Pn) (l : List Pn) (r : Nat) (ns : List Pn) (cs : List Cd) (c : Int) (u rest : List Wd) (m : Nat) (hn : l.length ≤ n) (hr : Tr.rt (pks l) = some r) (h0 : 0 ≤ p.kd) (hk : p.kd.toNat ≤ r) (hg : Gd ns (p :: l.take (Tr.sk (pks l) p.kd.toNat))) (hu : Sw u (spO n p l)) (ha : NA rest) (hm : 2 * (u.length + rest.length) ≤ m) :
    rdP m none ⟨u ++ rest, ns, cs, c⟩ = (true, ⟨rest, ns ++ p :: l.take (Tr.sk (pks l) p.kd.toNat), cs, c⟩) := by
  have hp := hg.sh p (by simp)
  unfold nsh at hp
  rw [Bool.and_eq_true, Bool.and_eq_true] at hp
  obtain ⟨hfd, hcp, hnm⟩ := hp
  have hle := hg.le
  rw [List.length_cons] at hle
  unfold spO at hu
  obtain ⟨u1, v1, rfl, hu1, hv1⟩ := hu.app
  obtain ⟨u2, u3, rfl, hu2, hu3⟩ := hv1.app
  have hap := hg.ap
  have hcd : ∀ q : Pn, q.cp = ⟨#[]⟩ → ∀ x ∈ ns ++ q :: l.take (Tr.sk (pks l) p.kd.toNat), p.cp ≠ ⟨#[]⟩ → x.cp ≠ p.cp := by
    intro q hq x hx hne he
    rw [List.pairwise_append] at hap
    obtain ⟨_, a2, a3⟩ := hap
    rcases List.mem_append.1 hx with h | h
    · exact hne (by rw [← he]; exact a3 x h p (by simp) he)
    · rcases List.mem_cons.1 h with rfl | h
      · rw [hq] at he; exact hne he.symm
      · rw [List.pairwise_cons] at a2
        exact hne (a2.1 x h he.symm)
  have hm1 : ∃ m0, m = m0 + 1 := by
    have : 0 < (u2 ++ u3).length := by
      by_cases hl : p.lit = true
      · rw [if_pos hl] at hu2
        have := hu2.len
        simp at this ⊢; omega
      · rw [if_neg hl] at hu2
        have := hu2.len
        simp at this ⊢; omega
    simp at this hm
    exact ⟨m - 1, by omega⟩
  obtain ⟨m0, rfl⟩ := hm1
  by_cases hl : p.lit = true
  · rw [if_pos hl] at hu2 hnm
    obtain ⟨x, y, rfl, k1, t1, hy⟩ := hu2.cons
    rw [hy.nil] at hm ⊢
    replace k1 : x.k = 2 := k1
    replace t1 : x.t = p.nm.data.toList := t1
    rw [Bool.and_eq_true] at hnm
    have n1 : p.nm ≠ ⟨#[]⟩ := by simpa using hnm.1
    have n2 : p.kd = 0 := by simpa using hnm.2
    obtain ⟨o1, o2⟩ := opn_fd (rest := x :: (u3 ++ rest)) ns cs c hfd hu1 ⟨x, _, rfl, .inr ⟨k1, by rw [t1]; exact tl_nem n1⟩⟩
    have e0 : u1 ++ ([x] ++ u3) ++ rest = u1 ++ x :: (u3 ++ rest) := by simp
    rw [e0]
    unfold rdP
    simp only
    rw [o1, o2, if_neg (by decide), if_neg (by omega)]
    have e2 : ndA ⟨x :: (u3 ++ rest), ns ++ [{ pz with fd := p.fd }], cs, c⟩ = true := by simp [ndA, se, hd, k1, t1, tl_nem n1]
    rw [e2, if_neg (by decide), if_pos (by simp [hd, k1])]
    have e3 : upN (tl ⟨x :: (u3 ++ rest), ns ++ [{ pz with fd := p.fd }], cs, c⟩) ns.length (fun q => { q with lit := true, nm := bs (hd ⟨x :: (u3 ++ rest), ns ++ [{ pz with fd := p.fd }], cs, c⟩).t }) = ⟨u3 ++ rest, ns ++ ⟨p.nm, true, p.fd, ⟨#[]⟩, 0⟩ :: [], cs, c⟩ := by
      simp [upN, tl, hd, t1, bs_toList, pz, List.getD_eq_getElem?_getD]
    have e4 : Tr.sk (pks l) p.kd.toNat = 0 := by rw [n2]; exact Tr.sk_zero _
    rw [e4, List.take_zero] at hcd
    rw [e3, cpt_rd ns _ _ cs c hcp hu3 ha (hcd _ rfl) rfl, e4, List.take_zero]
    have e5 : ({ nm := p.nm, lit := true, fd := p.fd, cp := p.cp, kd := 0 } : Pn) = p := by
      obtain ⟨a, b, d, e, f⟩ := p
      simp only at hl n2
      rw [hl, n2]
    simp only [e5]
  · rw [if_neg hl] at hu2 hnm
    have hlf : p.lit = false := by simpa using hl
    obtain ⟨x, y, rfl, k1, t1, hy⟩ := hu2.cons
    obtain ⟨x2, y2, rfl, k2, t2, hy2⟩ := hy.cons
    have hy2' : Sw y2 (spW n p.kd.toNat l ++ [wS 41]) := hy2
    obtain ⟨u4, u5, rfl, hu4, hu5⟩ := hy2'.app
    obtain ⟨x3, y3, rfl, k3, t3, hy3⟩ := hu5.cons
    rw [hy3.nil] at hm ⊢
    replace k1 : x.k = 5 := k1
    replace t1 : x.t = [40] := t1
    replace k3 : x3.k = 5 := k3
    replace t3 : x3.t = [41] := t3
    have k2' : x2.k = 1 := by rw [k2]; unfold nmw; split <;> rfl
    obtain ⟨o1, o2⟩ := opn_fd (rest := x :: x2 :: (u4 ++ (x3 :: (u3 ++ rest)))) ns cs c hfd hu1 ⟨x, _, rfl, .inl ⟨k1, t1⟩⟩
    have e0 : u1 ++ ((x :: x2 :: (u4 ++ [x3])) ++ u3) ++ rest = u1 ++ x :: x2 :: (u4 ++ (x3 :: (u3 ++ rest))) := by simp
    rw [e0]
    unfold rdP
    simp only
    rw [o1, o2, if_neg (by decide), if_neg (by omega)]
    have e2 : ndA ⟨x :: x2 :: (u4 ++ (x3 :: (u3 ++ rest))), ns ++ [{ pz with fd := p.fd }], cs, c⟩ = true := by simp [ndA, se, hd, k1, t1]
    rw [e2, if_neg (by decide), if_neg (by simp [hd, k1]), if_neg (by simp [hd, tl, k2'])]
    have e3 : tl (if nmA (tl ⟨x :: x2 :: (u4 ++ (x3 :: (u3 ++ rest))), ns ++ [{ pz with fd := p.fd }], cs, c⟩) = true then upN (tl ⟨x :: x2 :: (u4 ++ (x3 :: (u3 ++ rest))), ns ++ [{ pz with fd := p.fd }], cs, c⟩) ns.length (fun q => { q with nm := bs (hd (tl ⟨x :: x2 :: (u4 ++ (x3 :: (u3 ++ rest))), ns ++ [{ pz with fd := p.fd }], cs, c⟩)).t }) else tl ⟨x :: x2 :: (u4 ++ (x3 :: (u3 ++ rest))), ns ++ [{ pz with fd := p.fd }], cs, c⟩) = ⟨u4 ++ (x3 :: (u3 ++ rest)), ns ++ [⟨p.nm, false, p.fd, ⟨#[]⟩, 0⟩], cs, c⟩ := by
      by_cases h1 : p.nm = ⟨#[]⟩
      · have t2' : x2.t = [95] := by rw [t2]; unfold nmw; rw [if_pos h1]
        simp [nmA, tl, hd, k2', t2', h1, pz]
      · have t2' : x2.t = p.nm.data.toList := by rw [t2]; unfold nmw; rw [if_neg h1]; rfl
        have e9 := tl_ne (nmN_ok hnm h1)
        simp [nmA, tl, hd, k2', t2', e9, upN, bs_toList, pz, List.getD_eq_getElem?_getD]
    rw [e3]
    have hg2 : Gd (ns ++ [⟨p.nm, false, p.fd, ⟨#[]⟩, 0⟩]) (l.take (Tr.sk (pks l) p.kd.toNat)) := by
      refine ⟨fun q hq => hg.sh q (by simp [hq]), ?_, by rw [List.length_append]; simp only [List.length_cons, List.length_nil]; omega⟩
      rw [List.append_assoc, List.pairwise_append]
      rw [List.pairwise_append] at hap
      obtain ⟨a1, a2, a3⟩ := hap
      rw [List.pairwise_cons] at a2
      refine ⟨a1, ?_, ?_⟩
      · rw [List.singleton_append, List.pairwise_cons]
        exact ⟨fun q _ _ => rfl, a2.2⟩
      · intro a ha b hb
        rw [List.singleton_append] at hb
        rcases List.mem_cons.1 hb with rfl | hb
        · intro h; exact h
        · exact a3 a ha b (by simp [hb])
    have hm0 : 2 * (u4.length + (x3 :: (u3 ++ rest)).length) + 1 ≤ m0 := by
      simp only [List.length_append, List.length_cons, List.length_nil] at hm ⊢
      omega
    obtain ⟨m', hm', hI⟩ := ih p.kd.toNat l r (ns ++ [⟨p.nm, false, p.fd, ⟨#[]⟩, 0⟩]) cs c u4 (x3 :: (u3 ++ rest)) ns.length m0 hn hr hk hg2 hu4 (na_of ⟨x3, _, rfl, .inr (by rw [t3]; decide)⟩) hm0 (by simp)
    rw [hI]
    have e5 : (ns ++ [(⟨p.nm, false, p.fd, ⟨#[]⟩, 0⟩ : Pn)]).getD ns.length pz = ⟨p.nm, false, p.fd, ⟨#[]⟩, 0⟩ := by simp [List.getD_eq_getElem?_getD]
    rw [e5, List.append_assoc, List.singleton_append, set_mid]
    obtain ⟨m1, rfl⟩ : ∃ m1, m' = m1 + 1 := ⟨m' - 1, by omega⟩
    have e6 : rdP (m1 + 1) (some ns.length) ⟨x3 :: (u3 ++ rest), ns ++ { (⟨p.nm, false, p.fd, ⟨#[]⟩, 0⟩ : Pn) with kd := 0 + (p.kd.toNat : Int) } :: l.take (Tr.sk (pks l) p.kd.toNat), cs, c⟩ = (true, ⟨u3 ++ rest, ns ++ ⟨p.nm, false, p.fd, ⟨#[]⟩, p.kd⟩ :: l.take (Tr.sk (pks l) p.kd.toNat), cs, c⟩) := by
      unfold rdP
      rw [se_of _ _ _ _ _ _ _ k3 t3, if_pos rfl]
      simp only [tl, List.tail_cons]
      rw [show (0 : Int) + (p.kd.toNat : Int) = p.kd by omega]
    rw [e6]
    simp only
    rw [cpt_rd ns _ _ cs c hcp hu3 ha (hcd _ rfl) rfl]
    have e7 : ({ nm := p.nm, lit := false, fd := p.fd, cp := p.cp, kd := p.kd } : Pn) = p := by rw [← hlf]
    simp only [e7]

theorem spO_hd {n : Nat} {p : Pn} {l : List Pn} {u : List Wd} (hu : Sw u (spO n p l)) : ∃ x y, u = x :: y ∧ (x.k ≠ 5 ∨ x.t = [40]) := by
  unfold spO fdw at hu
  by_cases h0 : p.fd = ⟨#[]⟩
  · rw [if_pos h0] at hu
    by_cases hl : p.lit = true
    · rw [if_pos hl] at hu
      obtain ⟨x, y, rfl, k1, _⟩ := hu.cons
      exact ⟨x, _, rfl, .inl (by rw [k1]; simp [wQ])⟩
    · rw [if_neg hl] at hu
      obtain ⟨x, y, rfl, k1, t1, _⟩ := hu.cons
      exact ⟨x, _, rfl, .inr (by rw [t1]; rfl)⟩
  · rw [if_neg h0] at hu
    obtain ⟨x, y, rfl, k1, _⟩ := hu.cons
    exact ⟨x, _, rfl, .inl (by rw [k1]; simp [wN])⟩
theorem pw_set {L : List Pn} {i : Nat} {x : Pn} (hi : i < L.length) (hx : x.cp = (L.getD i pz).cp) (h : L.Pairwise Dc) : (L.set i x).Pairwise Dc := by
  have e : ∀ M : List Pn, M.Pairwise Dc ↔ (M.map Pn.cp).Pairwise (fun a b => a = b → a = ⟨#[]⟩) := fun M => by rw [List.pairwise_map]; rfl
  rw [e] at h ⊢
  have e2 : (L.set i x).map Pn.cp = L.map Pn.cp := by
    rw [List.map_set, hx, List.getD_eq_getElem?_getD, List.getElem?_eq_getElem hi, Option.getD_some]
    have : (L.map Pn.cp)[i]'(by simpa using hi) = (L[i]).cp := by simp
    rw [← this, List.set_getElem_self]
  rw [e2]; exact h
theorem set_kd (L : List Pn) (i : Nat) (hi : i < L.length) : L.set i { (L.getD i pz) with kd := (L.getD i pz).kd + ((0 : Nat) : Int) } = L := by
  have : ({ (L.getD i pz) with kd := (L.getD i pz).kd + ((0 : Nat) : Int) } : Pn) = L[i] := by
    rw [List.getD_eq_getElem?_getD, List.getElem?_eq_getElem hi]; simp
  rw [this, List.set_getElem_self]
/-- The words of patterns are read as their nodes. -/
theorem rd_many : ∀ (n k : Nat) (l : List Pn) (r : Nat) (ns : List Pn) (cs : List Cd) (c : Int) (u rest : List Wd) (i m : Nat), l.length ≤ n → Tr.rt (pks l) = some r → k ≤ r → Gd ns (l.take (Tr.sk (pks l) k)) → Sw u (spW n k l) → NA rest → 2 * (u.length + rest.length) + 1 ≤ m → i < ns.length →
      ∃ m', 2 * rest.length + 1 ≤ m' ∧ rdP m (some i) ⟨u ++ rest, ns, cs, c⟩ = rdP m' (some i) ⟨rest, (ns ++ l.take (Tr.sk (pks l) k)).set i { (ns.getD i pz) with kd := (ns.getD i pz).kd + (k : Int) }, cs, c⟩ := by
  have base : ∀ (l : List Pn) (ns : List Pn) (cs : List Cd) (c : Int) (u rest : List Wd) (i m : Nat), u = [] → 2 * (u.length + rest.length) + 1 ≤ m → i < ns.length → ∃ m', 2 * rest.length + 1 ≤ m' ∧ rdP m (some i) ⟨u ++ rest, ns, cs, c⟩ = rdP m' (some i) ⟨rest, (ns ++ l.take (Tr.sk (pks l) 0)).set i { (ns.getD i pz) with kd := (ns.getD i pz).kd + ((0 : Nat) : Int) }, cs, c⟩ := by
    intro l ns cs c u rest i m hu hm hi
    subst hu
    refine ⟨m, by simpa using hm, ?_⟩
    rw [Tr.sk_zero, List.take_zero, List.append_nil, set_kd ns i hi, List.nil_append]
  intro n
  induction n with
  | zero =>
    intro k l r ns cs c u rest i m hn hr hk hg hu ha hm hi
    have : l = [] := List.length_eq_zero_iff.1 (by omega)
    subst this
    have h0 : r = 0 := by have := (show Tr.rt (pks []) = some 0 from rfl); rw [this] at hr; exact (Option.some.inj hr).symm
    have : k = 0 := by omega
    subst this
    exact base [] ns cs c u rest i m hu.nil hm hi
  | succ n ih =>
    intro k l r ns cs c u rest i m hn hr hk hg hu ha hm hi
    cases k with
    | zero => exact base l ns cs c u rest i m hu.nil hm hi
    | succ k =>
      cases l with
      | nil =>
        have h0 : r = 0 := by have := (show Tr.rt (pks []) = some 0 from rfl); rw [this] at hr; exact (Option.some.inj hr).symm
        omega
      | cons p l =>
        obtain ⟨q, hq, h0, h1, rfl⟩ := Tr.rt_cons (show Tr.rt (p.kd :: pks l) = some r from hr)
        rw [spW_step] at hu
        obtain ⟨u1, u2, rfl, hu1, hu2⟩ := hu.app
        rw [List.length_cons] at hn
        have hkq : p.kd.toNat ≤ q := by omega
        have hsum : p.kd.toNat + k ≤ q := by omega
        have hadd := Tr.sk_add (pks l) q p.kd.toNat k hq hsum
        have htk : (p :: l).take (Tr.sk (pks (p :: l)) (k + 1)) = p :: (l.take (Tr.sk (pks l) p.kd.toNat) ++ (l.drop (Tr.sk (pks l) p.kd.toNat)).take (Tr.sk (pks (l.drop (Tr.sk (pks l) p.kd.toNat))) k)) := by
          show (p :: l).take (Tr.sk (p.kd :: pks l) (k + 1)) = _
          rw [Tr.sk_eq, Nat.add_comm k, hadd, Nat.add_comm 1, List.take_succ_cons, List.take_add, pks_drop]
        rw [htk] at hg ⊢
        obtain ⟨s1, hs1⟩ : ∃ s1, Tr.sk (pks l) p.kd.toNat = s1 := ⟨_, rfl⟩
        obtain ⟨hsl, hrd, _⟩ := Tr.sk_ok (pks l) q p.kd.toNat hq hkq
        rw [← pks_drop, hs1] at hrd
        have hg1 : Gd ns (p :: l.take s1) := by
          refine ⟨fun x hx => hg.sh x ?_, ?_, ?_⟩
          · rw [hs1]; rcases List.mem_cons.1 hx with rfl | hx <;> simp [*]
          · have h := hg.ap
            rw [hs1, ← List.cons_append, ← List.append_assoc, List.pairwise_append] at h
            exact h.1
          · have h := hg.le
            rw [hs1] at h
            simp only [List.length_cons, List.length_append] at h ⊢
            omega
        obtain ⟨m0, rfl⟩ : ∃ m0, m = m0 + 1 := ⟨m - 1, by omega⟩
        obtain ⟨x, y, hxy, hx⟩ := spO_hd hu1
        have e1 : se ⟨u1 ++ u2 ++ rest, ns, cs, c⟩ 5 [41] = false := by
          rw [hxy, List.cons_append, List.cons_append]
          refine se_no _ _ _ _ _ _ _ ?_
          rcases hx with hx | hx
          · exact .inl hx
          · exact .inr (by rw [hx]; decide)
        have hna : NA (u2 ++ rest) := by
          have hsh2 : ∀ z ∈ (l.drop s1).take (Tr.sk (pks (l.drop s1)) k), nsh z = true := fun z hz => hg.sh z (by rw [hs1]; simp [hz])
          rw [hs1] at hu2
          cases n with
          | zero => rw [hu2.nil]; exact ha
          | succ n =>
            cases k with
            | zero => rw [hu2.nil]; exact ha
            | succ k =>
              cases hl : l.drop s1 with
              | nil => rw [hl] at hu2; rw [hu2.nil]; exact ha
              | cons p2 l2 =>
                rw [hl, spW_step] at hu2
                obtain ⟨a, b, rfl, ha1, _⟩ := hu2.app
                obtain ⟨x, y, hxy, hx⟩ := spO_hd ha1
                rw [hxy]
                refine na_of ⟨x, _, rfl, ?_⟩
                rcases hx with hx | hx
                · exact .inl hx
                · exact .inr (by rw [hx]; decide)
        have hone := rd_one n ih p l q ns cs c u1 (u2 ++ rest) m0 (by omega) hq h0 hkq (by rw [hs1]; exact hg1) hu1 hna (by simp only [List.length_append] at hm ⊢; omega)
        rw [List.append_assoc] at e1 ⊢
        have e2 : rdP (m0 + 1) (some i) ⟨u1 ++ (u2 ++ rest), ns, cs, c⟩ = rdP m0 (some i) (upN ⟨u2 ++ rest, ns ++ p :: l.take s1, cs, c⟩ i fun p => { p with kd := p.kd + 1 }) := by
          conv => lhs; unfold rdP
          simp only [e1, hone, hs1]
          rfl
        rw [e2]
        unfold upN
        simp only
        have hiL : i < (ns ++ p :: l.take s1).length := by rw [List.length_append]; omega
        have hg0 : (ns ++ p :: l.take s1).getD i pz = ns.getD i pz := by
          rw [List.getD_eq_getElem?_getD, List.getD_eq_getElem?_getD, List.getElem?_append_left hi]
        rw [hg0]
        obtain ⟨P, hP⟩ : ∃ P, ns.getD i pz = P := ⟨_, rfl⟩
        rw [hP]
        have hg2 : Gd ((ns ++ p :: l.take s1).set i { P with kd := P.kd + 1 }) ((l.drop s1).take (Tr.sk (pks (l.drop s1)) k)) := by
          refine ⟨fun z hz => hg.sh z (by rw [hs1]; simp [hz]), ?_, ?_⟩
          · have h := hg.ap
            rw [hs1, ← List.cons_append, ← List.append_assoc] at h
            have h2 := pw_set (i := i) (x := { P with kd := P.kd + 1 }) (by rw [List.length_append]; omega) (by rw [List.getD_eq_getElem?_getD, List.getElem?_append_left hiL, ← List.getD_eq_getElem?_getD, hg0, hP]) h
            rw [List.set_append_left _ _ hiL] at h2
            exact h2
          · have h := hg.le
            rw [hs1] at h
            rw [List.length_set]
            simp only [List.length_cons, List.length_append] at h ⊢
            omega
        rw [hs1] at hu2
        obtain ⟨m', hm', hI⟩ := ih k (l.drop s1) _ ((ns ++ p :: l.take s1).set i { P with kd := P.kd + 1 }) cs c u2 rest i m0 (by rw [List.length_drop]; omega) hrd (by omega) hg2 hu2 ha (by have := hu1.len; have h7 : 0 < u1.length := (by rw [hxy]; simp); simp only [List.length_append] at hm ⊢; omega) (by rw [List.length_set]; exact hiL)
        refine ⟨m', hm', ?_⟩
        rw [hI]
        have e3 : ((ns ++ p :: l.take s1).set i { P with kd := P.kd + 1 }).getD i pz = { P with kd := P.kd + 1 } := by
          rw [List.getD_eq_getElem?_getD, List.getElem?_set_self hiL]; rfl
        rw [e3]
        simp only
        rw [hs1, ← List.set_append_left _ _ hiL, List.set_set, List.append_assoc, List.cons_append]
        rw [show P.kd + 1 + (k : Int) = P.kd + ((k + 1 : Nat) : Int) by omega]
end Go.Proofs.YtcmhbcfgikmblabGreatDoor.Qy
