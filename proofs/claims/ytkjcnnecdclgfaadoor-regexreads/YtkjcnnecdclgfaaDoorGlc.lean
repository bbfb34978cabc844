import Derived.Test.YtkjcnnecdclgfaaDoorGlb
namespace Go.Proofs
namespace YtkjcnnecdclgfaaDoor
/-- The ways behind the first k nodes. -/
def wk (re : List Nd) (k : Nat) : Wy := svy (re.take k) 0 wy0
theorem wk_succ {re : List Nd} {k : Nat} {n : Nd} (h : re[k]? = some n) : wk re (k + 1) = svs (wk re k) k n := by
  have hk : k < re.length := (List.getElem?_eq_some_iff.1 h).1
  have e : re.take (k + 1) = re.take k ++ [n] := by
    rw [List.take_add_one, h]; rfl
  unfold wk
  rw [e, svy_snoc, List.length_take]
  congr 1
  omega
theorem put_same (W : Wy) (i : Nat) (x : Pt) : (W.put i x).pt i = x := by simp [Wy.put]
theorem put_other (W : Wy) (i j : Nat) (x : Pt) (h : j ≠ i) : (W.put i x).pt j = W.pt j := by simp [Wy.put, h]
/-- Behind a tree's nodes. -/
structure Behind (re : List Nd) (t : Rx) (o : Nat) : Prop where
  pt : (wk re (o + t.sz)).pt (o + t.sz - 1) = PT t o
  old : ∀ j, j < o → (wk re (o + t.sz)).pt j = (wk re o).pt j
  bh : ∀ p q, (wk re (o + t.sz)).bh p q = ((wk re o).bh p q || FT t o p q)
theorem behind (re : List Nd) (t : Rx) : ∀ o, Tr re t o → Behind re t o := by
  induction t with
  | cl m =>
    rintro o ⟨n, h1, h2, _⟩
    have e : wk re (o + Rx.sz (.cl m)) = (wk re o).put o (ptC o) := by
      show wk re (o + 1) = _
      rw [wk_succ h1]
      simp [svs, h2]
    refine ⟨?_, fun j hj => ?_, fun p q => ?_⟩
    · rw [e]; exact put_same _ _ _
    · rw [e]; exact put_other _ _ _ _ (by omega)
    · rw [e]; show (wk re o).bh p q = _; simp [FT]
  | em =>
    rintro o ⟨n, h1, h2⟩
    have e : wk re (o + Rx.sz .em) = (wk re o).put o ptE := by
      show wk re (o + 1) = _
      rw [wk_succ h1]
      simp [svs, h2]
    refine ⟨?_, fun j hj => ?_, fun p q => ?_⟩
    · rw [e]; exact put_same _ _ _
    · rw [e]; exact put_other _ _ _ _ (by omega)
    · rw [e]; show (wk re o).bh p q = _; simp [FT]
  | cat a b iha ihb =>
    rintro o ⟨h1, h2, n, h3, h4, h5, h6⟩
    have ha := iha o h1
    have hb := ihb _ h2
    have pa := a.sz_pos
    have pb := b.sz_pos
    have e : wk re (o + Rx.sz (.cat a b)) = Wy.put ⟨(wk re (o + a.sz + b.sz)).pt, lnk (wk re (o + a.sz + b.sz)).bh (PT a o).ls (PT b (o + a.sz)).fs⟩ (o + a.sz + b.sz) (ptCat (PT a o) (PT b (o + a.sz))) := by
      show wk re (o + (a.sz + b.sz + 1)) = _
      rw [show o + (a.sz + b.sz + 1) = o + a.sz + b.sz + 1 by omega, wk_succ h3]
      simp only [svs, h4, h5, h6]
      rw [hb.pt, hb.old _ (by omega), ha.pt]
      simp
    have e1 : o + Rx.sz (.cat a b) - 1 = o + a.sz + b.sz := by simp only [Rx.sz]; omega
    refine ⟨?_, fun j hj => ?_, fun p q => ?_⟩
    · rw [e, e1]; exact put_same _ _ _
    · rw [e, put_other _ _ _ _ (by omega)]
      show (wk re (o + a.sz + b.sz)).pt j = _
      rw [hb.old j (by omega), ha.old j hj]
    · rw [e]
      show lnk (wk re (o + a.sz + b.sz)).bh (PT a o).ls (PT b (o + a.sz)).fs p q = _
      simp only [lnk, FT, hb.bh, ha.bh, Bool.or_assoc]
  | alt a b iha ihb =>
    rintro o ⟨h1, h2, n, h3, h4, h5, h6⟩
    have ha := iha o h1
    have hb := ihb _ h2
    have pa := a.sz_pos
    have pb := b.sz_pos
    have e : wk re (o + Rx.sz (.alt a b)) = Wy.put (wk re (o + a.sz + b.sz)) (o + a.sz + b.sz) (ptOr (PT a o) (PT b (o + a.sz))) := by
      show wk re (o + (a.sz + b.sz + 1)) = _
      rw [show o + (a.sz + b.sz + 1) = o + a.sz + b.sz + 1 by omega, wk_succ h3]
      simp only [svs, h4, h5, h6]
      rw [hb.pt, hb.old _ (by omega), ha.pt]
      simp
    have e1 : o + Rx.sz (.alt a b) - 1 = o + a.sz + b.sz := by simp only [Rx.sz]; omega
    refine ⟨?_, fun j hj => ?_, fun p q => ?_⟩
    · rw [e, e1]; exact put_same _ _ _
    · rw [e, put_other _ _ _ _ (by omega)]
      rw [hb.old j (by omega), ha.old j hj]
    · rw [e]
      show (wk re (o + a.sz + b.sz)).bh p q = _
      simp only [FT, hb.bh, ha.bh, Bool.or_assoc]
  | st a iha =>
    rintro o ⟨h1, n, h3, h4, h5⟩
    have ha := iha o h1
    have pa := a.sz_pos
    have e : wk re (o + Rx.sz (.st a)) = Wy.put ⟨(wk re (o + a.sz)).pt, lnk (wk re (o + a.sz)).bh (PT a o).ls (PT a o).fs⟩ (o + a.sz) (ptAg (PT a o) 5) := by
      show wk re (o + (a.sz + 1)) = _
      rw [show o + (a.sz + 1) = o + a.sz + 1 by omega, wk_succ h3]
      simp only [svs, h4, h5]
      rw [ha.pt]
      simp
    have e1 : o + Rx.sz (.st a) - 1 = o + a.sz := by simp only [Rx.sz]; omega
    refine ⟨?_, fun j hj => ?_, fun p q => ?_⟩
    · rw [e, e1]; exact put_same _ _ _
    · rw [e, put_other _ _ _ _ (by omega)]
      exact ha.old j hj
    · rw [e]
      show lnk (wk re (o + a.sz)).bh (PT a o).ls (PT a o).fs p q = _
      simp only [lnk, FT, ha.bh, Bool.or_assoc]
  | pl a iha =>
    rintro o ⟨h1, n, h3, h4, h5⟩
    have ha := iha o h1
    have pa := a.sz_pos
    have e : wk re (o + Rx.sz (.pl a)) = Wy.put ⟨(wk re (o + a.sz)).pt, lnk (wk re (o + a.sz)).bh (PT a o).ls (PT a o).fs⟩ (o + a.sz) (ptAg (PT a o) 6) := by
      show wk re (o + (a.sz + 1)) = _
      rw [show o + (a.sz + 1) = o + a.sz + 1 by omega, wk_succ h3]
      simp only [svs, h4, h5]
      rw [ha.pt]
      simp
    have e1 : o + Rx.sz (.pl a) - 1 = o + a.sz := by simp only [Rx.sz]; omega
    refine ⟨?_, fun j hj => ?_, fun p q => ?_⟩
    · rw [e, e1]; exact put_same _ _ _
    · rw [e, put_other _ _ _ _ (by omega)]
      exact ha.old j hj
    · rw [e]
      show lnk (wk re (o + a.sz)).bh (PT a o).ls (PT a o).fs p q = _
      simp only [lnk, FT, ha.bh, Bool.or_assoc]
  | op a iha =>
    rintro o ⟨h1, n, h3, h4, h5⟩
    have ha := iha o h1
    have pa := a.sz_pos
    have e : wk re (o + Rx.sz (.op a)) = Wy.put (wk re (o + a.sz)) (o + a.sz) (ptAg (PT a o) 7) := by
      show wk re (o + (a.sz + 1)) = _
      rw [show o + (a.sz + 1) = o + a.sz + 1 by omega, wk_succ h3]
      simp only [svs, h4, h5]
      rw [ha.pt]
      simp
    have e1 : o + Rx.sz (.op a) - 1 = o + a.sz := by simp only [Rx.sz]; omega
    refine ⟨?_, fun j hj => ?_, fun p q => ?_⟩
    · rw [e, e1]; exact put_same _ _ _
    · rw [e, put_other _ _ _ _ (by omega)]
      exact ha.old j hj
    · rw [e]
      show (wk re (o + a.sz)).bh p q = _
      simp only [FT, ha.bh]
theorem get_at (p : List Nd) (n : Nd) (s : List Nd) : (p ++ n :: s)[p.length]? = some n := by simp
/-- Every node of a well shaped list is the root of a tree. -/
theorem tree_of (re : List Nd) (z : List Nat) (h : szs re [] = some z) : ∀ i, i < re.length → ∃ t : Rx, t.sz = z.getD i 0 ∧ z.getD i 0 ≤ i + 1 ∧ Tr re t (i + 1 - z.getD i 0) := by
  have hzo := (szs_ok h zok_nil).1
  have hzl : z.length = re.length := by rw [(szs_ok h zok_nil).2]; simp
  intro i
  induction i using Nat.strongRecOn with
  | ind i ih =>
    intro hi
    have hle := (hzo i (by omega)).2
    obtain ⟨p, n, s, hre, hp, _⟩ := split_at re i hi
    have hk := kind_of p n s z (by rw [← hre]; exact h)
    have hn : re[i]? = some n := by rw [hre, ← hp]; exact get_at p n s
    rw [hp] at hk
    cases hk with
    | leaf h1 _ _ _ hz =>
      rw [hz, show i + 1 - 1 = i by omega]
      rcases h1 with h1 | h1
      · exact ⟨.cl n.m, rfl, by omega, n, hn, h1, rfl⟩
      · exact ⟨.em, rfl, by omega, n, hn, h1⟩
    | un h1 _ h2 ha _ hz =>
      obtain ⟨t, k1, k2, k3⟩ := ih (i - 1) (by omega) (by omega)
      have pos := t.sz_pos
      have e0 : i + 1 - z.getD i 0 = i - 1 + 1 - z.getD (i - 1) 0 := by omega
      have e1 : i - 1 + 1 - z.getD (i - 1) 0 + t.sz = i := by omega
      rw [e0]
      have hn' : re[i - 1 + 1 - z.getD (i - 1) 0 + t.sz]? = some n := by rw [e1]; exact hn
      rcases h1 with h1 | h1 | h1
      · exact ⟨.st t, by simp only [Rx.sz]; omega, by omega, k3, n, hn', h1, by omega⟩
      · exact ⟨.pl t, by simp only [Rx.sz]; omega, by omega, k3, n, hn', h1, by omega⟩
      · exact ⟨.op t, by simp only [Rx.sz]; omega, by omega, k3, n, hn', h1, by omega⟩
    | bin h1 _ a hi2 h3 ha hb hz =>
      obtain ⟨t, k1, k2, k3⟩ := ih a (by omega) (by omega)
      obtain ⟨u, l1, l2, l3⟩ := ih (i - 1) (by omega) (by omega)
      have pos := t.sz_pos
      have pos2 := u.sz_pos
      have e0 : i + 1 - z.getD i 0 = a + 1 - z.getD a 0 := by omega
      have e1 : a + 1 - z.getD a 0 + t.sz = i - 1 + 1 - z.getD (i - 1) 0 := by omega
      have e2 : a + 1 - z.getD a 0 + t.sz + u.sz = i := by omega
      rw [e0]
      have hn' : re[a + 1 - z.getD a 0 + t.sz + u.sz]? = some n := by rw [e2]; exact hn
      have l3' : Tr re u (a + 1 - z.getD a 0 + t.sz) := by rw [e1]; exact l3
      rcases h1 with h1 | h1
      · exact ⟨.cat t u, by simp only [Rx.sz]; omega, by omega, k3, l3', n, hn', h1, by omega, by omega⟩
      · exact ⟨.alt t u, by simp only [Rx.sz]; omega, by omega, k3, l3', n, hn', h1, by omega, by omega⟩
theorem Sh_parts {re : List Nd} (h : Sh re = true) : ∃ z, szs re [] = some z ∧ re.length ≠ 0 ∧ re.length ≤ 128 ∧ z.getD (re.length - 1) 0 = re.length := by
  unfold Sh at h
  split at h
  · cases h
  · rename_i z hz
    simp only [Bool.and_eq_true, decide_eq_true_eq] at h
    exact ⟨z, hz, h.1.1, h.1.2, h.2⟩
theorem tree_sh {re : List Nd} (h : Sh re = true) : ∃ t : Rx, t.sz = re.length ∧ Tr re t 0 ∧ re.length ≤ 128 := by
  obtain ⟨z, h1, h2, h3, h4⟩ := Sh_parts h
  obtain ⟨t, k1, k2, k3⟩ := tree_of re z h1 (re.length - 1) (by omega)
  rw [h4] at k1 k2 k3
  rw [show re.length - 1 + 1 - re.length = 0 by omega] at k3
  exact ⟨t, k1, k3, h3⟩
theorem sv_tree {re : List Nd} {t : Rx} (h : t.sz = re.length) (ht : Tr re t 0) : (SV re).pt (re.length - 1) = PT t 0 ∧ (SV re).bh = FT t 0 := by
  have hb := behind re t 0 ht
  have e : wk re (0 + t.sz) = SV re := by
    unfold wk SV
    rw [Nat.zero_add, h, List.take_length]
  have h1 := hb.pt
  have h2 := hb.bh
  rw [e] at h1 h2
  rw [Nat.zero_add, h] at h1
  refine ⟨h1, ?_⟩
  funext p q
  rw [h2]
  simp [wk, svy, wy0]
/-- The rounds of read: the ways. -/
theorem rds_acc (re : List Nd) (W : Wy) (L : Nat → Bool) (hW : Wok re.length W) (hl : re.length ≤ 128) : ∀ (s : List UInt8) (c : UInt8) (b : Bool) (nx : Nat → Bool), Un re.length nx →
    ((rds re W L (c :: s) (b, nx)).1 = true ↔ ∃ p, nx p = true ∧ (re.getD p nd0).m c.toNat = true ∧ acc W.bh (fun p => (re.getD p nd0).m) L p s) := by
  intro s
  induction s with
  | nil =>
    intro c b nx hn
    show mt (tk re nx c.toNat) L = true ↔ _
    unfold mt
    rw [List.any_eq_true]
    constructor
    · rintro ⟨p, _, h⟩
      simp only [tk, Bool.and_eq_true] at h
      exact ⟨p, h.1.1, h.1.2, h.2⟩
    · rintro ⟨p, h1, h2, h3⟩
      have h3' : L p = true := h3
      exact ⟨p, List.mem_range.2 (by have := hn p h1; omega), by simp only [tk, h1, h2, h3', Bool.and_self]⟩
  | cons d s ih =>
    intro c b nx hn
    have := ih d (mt (tk re nx c.toNat) L) (fu W.bh (tk re nx c.toNat)) (un_fu hW _)
    show (rds re W L (d :: s) (mt (tk re nx c.toNat) L, fu W.bh (tk re nx c.toNat))).1 = true ↔ _
    rw [this]
    constructor
    · rintro ⟨q, h1, h2, h3⟩
      obtain ⟨p, _, hp⟩ := List.any_eq_true.1 h1
      simp only [tk, Bool.and_eq_true] at hp
      exact ⟨p, hp.1.1, hp.1.2, q, hp.2, h2, h3⟩
    · rintro ⟨p, h1, h2, q, h3, h4, h5⟩
      refine ⟨q, ?_, h4, h5⟩
      exact List.any_eq_true.2 ⟨p, List.mem_range.2 (by have := hn p h1; omega), by simp only [tk, h1, h2, h3, Bool.and_self]⟩
/-- **WHAT IS READ AS A MATCH IS WHAT THE TREE MEANS.** -/
theorem RD_lang {re : List Nd} {t : Rx} (hs : Sh re = true) (h : t.sz = re.length) (ht : Tr re t 0) (s : List UInt8) : (RD re s).1 = true ↔ Lang t s := by
  obtain ⟨h1, h2⟩ := sv_tree h ht
  obtain ⟨z, _, _, hl, _⟩ := Sh_parts hs
  have hW := wok_SV re
  unfold RD
  rw [if_pos hs, ← aut_lang re t 0 ht]
  cases s with
  | nil => rw [h1]; exact Iff.rfl
  | cons c s =>
    rw [rds_acc re (SV re) _ hW hl s c _ _ (hW.fs _), h1, h2]
    exact Iff.rfl
end YtkjcnnecdclgfaaDoor
end Go.Proofs
