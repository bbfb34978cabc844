import Derived.Test.YtkjcnnecdclgfaaDoorGpi
namespace Go.Proofs.YtkjcnnecdclgfaaDoor

/-- A class that has a byte stands there. -/
def Cls (re : List Nd) (p : Nat) : Prop := ∃ c, c < 256 ∧ (re.getD p nd0).m c = true
theorem bl_some (m : Nat → Bool) (h : bl m = false) : ∃ c, c < 256 ∧ m c = true := by
  apply Classical.byContradiction
  intro hn
  have z : ∀ i, i < 4 → wd m i = 0 := fun i hi => (wd_congr m (fun _ => false) i (fun j hj => by
    cases h' : m (64 * i + j)
    · rfl
    · exact absurd ⟨64 * i + j, by omega, h'⟩ hn)).trans (wd_none i)
  unfold bl at h
  rw [z 0 (by omega), z 1 (by omega), z 2 (by omega), z 3 (by omega)] at h
  cases h
/-- All leaves of a tree have bytes. -/
def Wf (re : List Nd) : Rx → Nat → Prop
  | .cl _, o => Cls re o
  | .em, _ => True
  | .cat a b, o => Wf re a o ∧ Wf re b (o + a.sz)
  | .alt a b, o => Wf re a o ∧ Wf re b (o + a.sz)
  | .st a, o => Wf re a o
  | .pl a, o => Wf re a o
  | .op a, o => Wf re a o
theorem cls_of {re : List Nd} {z : List Nat} (h : szs re [] = some z) {p : Nat} {n : Nd} (hn : re[p]? = some n) (h1 : n.op = 1) : Cls re p := by
  have hp := (List.getElem?_eq_some_iff.1 hn).1
  obtain ⟨q, nd, s, hre, hq, hnd⟩ := split_at re p hp
  have hk := kind_of q nd s z (by rw [← hre]; exact h)
  have e : nd = n := by rw [hnd]; exact (List.getElem?_eq_some_iff.1 hn).2
  rw [e] at hk
  cases hk with
  | leaf _ hb _ _ _ =>
    obtain ⟨c, h2, h3⟩ := bl_some n.m (by rw [hb, h1]; decide)
    refine ⟨c, h2, ?_⟩
    rw [List.getD_eq_getElem?_getD, hn]
    exact h3
  | un h _ _ _ _ _ => omega
  | bin h _ _ _ _ _ _ _ => omega
theorem wf_of {re : List Nd} {z : List Nat} (h : szs re [] = some z) (t : Rx) : ∀ o, Tr re t o → Wf re t o := by
  induction t with
  | cl m => rintro o ⟨n, h1, h2, _⟩; exact cls_of h h1 h2
  | em => intro o _; trivial
  | cat a b iha ihb => rintro o ⟨h1, h2, _⟩; exact ⟨iha o h1, ihb _ h2⟩
  | alt a b iha ihb => rintro o ⟨h1, h2, _⟩; exact ⟨iha o h1, ihb _ h2⟩
  | st a iha => rintro o ⟨h1, _⟩; exact iha o h1
  | pl a iha => rintro o ⟨h1, _⟩; exact iha o h1
  | op a iha => rintro o ⟨h1, _⟩; exact iha o h1
/-- What is known of a tree's classes: each has a byte, and goes on or ends. -/
structure Lv (re : List Nd) (X : Pt) (F : Nat → Nat → Bool) : Prop where
  some : X.nl = true ∨ ∃ q, X.fs q = true
  fc : ∀ p, X.fs p = true → Cls re p
  lc : ∀ p q, F p q = true → Cls re q
  on : ∀ p, (X.fs p = true ∨ ∃ r, F r p = true) → X.ls p = true ∨ ∃ q, F p q = true
theorem lv (re : List Nd) (t : Rx) : ∀ o, Wf re t o → Lv re (PT t o) (FT t o) := by
  induction t with
  | cl m =>
    intro o h
    refine ⟨.inr ⟨o, by simp [PT, ptC]⟩, fun p hp => ?_, fun p q hp => (by cases hp), fun p hp => ?_⟩
    · obtain rfl : p = o := by simpa [PT, ptC] using hp
      exact h
    · rcases hp with hp | ⟨r, hr⟩
      · exact .inl hp
      · cases hr
  | em =>
    intro o _
    refine ⟨.inl rfl, fun p hp => (by cases hp), fun p q hp => (by cases hp), fun p hp => ?_⟩
    rcases hp with hp | ⟨r, hr⟩
    · cases hp
    · cases hr
  | cat a b iha ihb =>
    rintro o ⟨h1, h2⟩
    have A := iha o h1
    have B := ihb _ h2
    refine ⟨?_, fun p hp => ?_, fun p q hp => ?_, fun p hp => ?_⟩
    · simp only [PT, ptCat, Bool.and_eq_true, Bool.or_eq_true]
      rcases A.some with ha | ⟨q, ha⟩
      · rcases B.some with hb | ⟨q, hb⟩
        · exact .inl ⟨ha, hb⟩
        · exact .inr ⟨q, .inr ⟨ha, hb⟩⟩
      · exact .inr ⟨q, .inl ha⟩
    · simp only [PT, ptCat, Bool.and_eq_true, Bool.or_eq_true] at hp
      rcases hp with hp | hp
      · exact A.fc p hp
      · exact B.fc p hp.2
    · simp only [FT, Bool.and_eq_true, Bool.or_eq_true] at hp
      rcases hp with (hp | hp) | hp
      · exact A.lc p q hp
      · exact B.lc p q hp
      · exact B.fc q hp.2
    · have key : ((PT a o).fs p = true ∨ ∃ r, FT a o r p = true) ∨ ((PT b (o + a.sz)).fs p = true ∨ ∃ r, FT b (o + a.sz) r p = true) := by
        rcases hp with hp | ⟨r, hr⟩
        · simp only [PT, ptCat, Bool.and_eq_true, Bool.or_eq_true] at hp
          rcases hp with hp | hp
          · exact .inl (.inl hp)
          · exact .inr (.inl hp.2)
        · simp only [FT, Bool.and_eq_true, Bool.or_eq_true] at hr
          rcases hr with (hr | hr) | hr
          · exact .inl (.inr ⟨r, hr⟩)
          · exact .inr (.inr ⟨r, hr⟩)
          · exact .inr (.inl hr.2)
      simp only [PT, ptCat, FT, Bool.and_eq_true, Bool.or_eq_true]
      rcases key with key | key
      · rcases A.on p key with h | ⟨q, h⟩
        · rcases B.some with hb | ⟨q, hb⟩
          · exact .inl (.inr ⟨hb, h⟩)
          · exact .inr ⟨q, .inr ⟨h, hb⟩⟩
        · exact .inr ⟨q, .inl (.inl h)⟩
      · rcases B.on p key with h | ⟨q, h⟩
        · exact .inl (.inl h)
        · exact .inr ⟨q, .inl (.inr h)⟩
  | alt a b iha ihb =>
    rintro o ⟨h1, h2⟩
    have A := iha o h1
    have B := ihb _ h2
    refine ⟨?_, fun p hp => ?_, fun p q hp => ?_, fun p hp => ?_⟩
    · simp only [PT, ptOr, Bool.or_eq_true]
      rcases A.some with ha | ⟨q, ha⟩
      · exact .inl (.inl ha)
      · exact .inr ⟨q, .inl ha⟩
    · simp only [PT, ptOr, Bool.or_eq_true] at hp
      rcases hp with hp | hp
      · exact A.fc p hp
      · exact B.fc p hp
    · simp only [FT, Bool.or_eq_true] at hp
      rcases hp with hp | hp
      · exact A.lc p q hp
      · exact B.lc p q hp
    · have key : ((PT a o).fs p = true ∨ ∃ r, FT a o r p = true) ∨ ((PT b (o + a.sz)).fs p = true ∨ ∃ r, FT b (o + a.sz) r p = true) := by
        rcases hp with hp | ⟨r, hr⟩
        · simp only [PT, ptOr, Bool.or_eq_true] at hp
          rcases hp with hp | hp
          · exact .inl (.inl hp)
          · exact .inr (.inl hp)
        · simp only [FT, Bool.or_eq_true] at hr
          rcases hr with hr | hr
          · exact .inl (.inr ⟨r, hr⟩)
          · exact .inr (.inr ⟨r, hr⟩)
      simp only [PT, ptOr, FT, Bool.or_eq_true]
      rcases key with key | key
      · rcases A.on p key with h | ⟨q, h⟩
        · exact .inl (.inl h)
        · exact .inr ⟨q, .inl h⟩
      · rcases B.on p key with h | ⟨q, h⟩
        · exact .inl (.inr h)
        · exact .inr ⟨q, .inr h⟩
  | st a iha | pl a iha =>
    intro o h1
    have A := iha o h1
    refine ⟨?_, fun p hp => A.fc p hp, fun p q hp => ?_, fun p hp => ?_⟩
    · rcases A.some with ha | ⟨q, ha⟩
      · exact .inl (by simp only [PT, ptAg, ha, Bool.true_or])
      · exact .inr ⟨q, ha⟩
    · simp only [FT, Bool.and_eq_true, Bool.or_eq_true] at hp
      rcases hp with hp | hp
      · exact A.lc p q hp
      · exact A.fc q hp.2
    · have key : (PT a o).fs p = true ∨ ∃ r, FT a o r p = true := by
        rcases hp with hp | ⟨r, hr⟩
        · exact .inl hp
        · simp only [FT, Bool.and_eq_true, Bool.or_eq_true] at hr
          rcases hr with hr | hr
          · exact .inr ⟨r, hr⟩
          · exact .inl hr.2
      rcases A.on p key with h | ⟨q, h⟩
      · exact .inl h
      · exact .inr ⟨q, by simp only [FT, h, Bool.true_or]⟩
  | op a iha =>
    intro o h1
    have A := iha o h1
    refine ⟨?_, fun p hp => A.fc p hp, fun p q hp => A.lc p q hp, fun p hp => A.on p hp⟩
    exact .inl (by simp [PT, ptAg])
/-- The sets that are come to. -/
theorem nx_in {re : List Nd} {W : Wy} {L : Nat → Bool} (P : Nat → Prop) (hb : ∀ p q, W.bh p q = true → P q) : ∀ (s : List UInt8) (x : Bool × (Nat → Bool)), (∀ p, x.2 p = true → P p) → ∀ p, (rds re W L s x).2 p = true → P p
  | [], _, h, p, hp => h p hp
  | c :: s, x, _, p, hp => nx_in P hb s _ (fun q hq => by
      obtain ⟨r, _, hr⟩ := List.any_eq_true.1 hq
      exact hb r q (Bool.and_eq_true _ _ ▸ hr).2) p hp
theorem opn_iff (re : List Nd) (s : List UInt8) : Opn re s = true ↔ ∃ p, p < 128 ∧ (RD re s).2 p = true := by
  unfold Opn
  rw [pbl_any, List.any_eq_true]
  exact ⟨fun ⟨p, h1, h2⟩ => ⟨p, List.mem_range.1 h1, h2⟩, fun ⟨p, h1, h2⟩ => ⟨p, List.mem_range.2 h1, h2⟩⟩
theorem RD_snoc {re : List Nd} (hs : Sh re = true) (s : List UInt8) (c : UInt8) : RD re (s ++ [c]) = (mt (tk re (RD re s).2 c.toNat) ((SV re).pt (re.length - 1)).ls, fu (SV re).bh (tk re (RD re s).2 c.toNat)) := by
  unfold RD
  rw [if_pos hs, if_pos hs, rds_app]
  rfl
theorem RD_no {re : List Nd} (hs : Sh re = false) (s : List UInt8) : RD re s = (false, fun _ => false) := by
  unfold RD
  rw [if_neg (by rw [hs]; decide)]
/-- **OPEN JUST IF SOME BYTE MORE BEGINS SOMETHING.** -/
theorem opn_some (re : List Nd) (s : List UInt8) : Opn re s = (List.range 256).any fun c => (RD re (s ++ [UInt8.ofNat c])).1 || Opn re (s ++ [UInt8.ofNat c]) := by
  cases hs : Sh re
  · unfold Opn
    simp only [RD_no hs]
    have e : pbl (fun _ => false) = true := (pbl_iff _).2 (fun _ _ => rfl)
    rw [e]
    symm
    rw [List.any_eq_false.2 (fun c _ => by simp)]
    rfl
  · obtain ⟨z, hz, _, hl, _⟩ := Sh_parts hs
    obtain ⟨t, h1, h2, h3⟩ := tree_sh hs
    obtain ⟨k1, k2⟩ := sv_tree h1 h2
    have L := lv re t 0 (wf_of hz t 0 h2)
    have hW := wok_SV re
    have hin : ∀ p, (RD re s).2 p = true → ((PT t 0).fs p = true ∨ ∃ r, FT t 0 r p = true) := by
      unfold RD
      rw [if_pos hs]
      refine nx_in (fun p => (PT t 0).fs p = true ∨ ∃ r, FT t 0 r p = true) (fun p q h => .inr ⟨p, by rw [← k2]; exact h⟩) s _ (fun p hp => .inl (by rw [← k1]; exact hp))
    rw [Bool.eq_iff_iff, opn_iff, List.any_eq_true]
    constructor
    · rintro ⟨p, hp, hnx⟩
      have hc : Cls re p := by
        rcases hin p hnx with h | ⟨r, h⟩
        · exact L.fc p h
        · exact L.lc r p h
      obtain ⟨c, hc1, hc2⟩ := hc
      have ec : (UInt8.ofNat c).toNat = c := by
        rw [UInt8.toNat_ofNat']; omega
      refine ⟨c, List.mem_range.2 hc1, ?_⟩
      rw [Bool.or_eq_true, opn_iff, RD_snoc hs, ec]
      have htk : tk re (RD re s).2 c p = true := by unfold tk; rw [hnx, hc2]; rfl
      rcases L.on p (hin p hnx) with h | ⟨q, h⟩
      · left
        exact List.any_eq_true.2 ⟨p, List.mem_range.2 hp, by rw [k1]; simp only [htk, h, Bool.and_self]⟩
      · right
        have hq : (SV re).bh p q = true := by rw [k2]; exact h
        refine ⟨q, by have := hW.bh p q hq; omega, ?_⟩
        exact List.any_eq_true.2 ⟨p, List.mem_range.2 hp, by simp only [htk, hq, Bool.and_self]⟩
    · rintro ⟨c, _, h⟩
      rw [Bool.or_eq_true, opn_iff, RD_snoc hs] at h
      rcases h with h | ⟨q, _, h⟩
      · obtain ⟨p, h1, h2⟩ := List.any_eq_true.1 h
        refine ⟨p, List.mem_range.1 h1, ?_⟩
        unfold tk at h2
        simp only [Bool.and_eq_true] at h2
        exact h2.1.1
      · obtain ⟨p, h1, h2⟩ := List.any_eq_true.1 h
        refine ⟨p, List.mem_range.1 h1, ?_⟩
        unfold tk at h2
        simp only [Bool.and_eq_true] at h2
        exact h2.1.1
/-- What is matched is begun by each of its beginnings. -/
theorem opn_more (re : List Nd) (s : List UInt8) (c : UInt8) (r : List UInt8) (h : (RD re (s ++ c :: r)).1 = true) : Opn re s = true := by
  cases hs : Sh re
  · rw [RD_no hs] at h; cases h
  · obtain ⟨z, _, _, hl, _⟩ := Sh_parts hs
    have hW := wok_SV re
    have hun : Un re.length (RD re s).2 := by
      unfold RD
      rw [if_pos hs]
      exact un_rds _ hW s _ (hW.fs _)
    have e : RD re (s ++ c :: r) = rds re (SV re) ((SV re).pt (re.length - 1)).ls (c :: r) ((RD re s).1, (RD re s).2) := by
      unfold RD
      rw [if_pos hs, if_pos hs, rds_app]
    rw [e, rds_acc re (SV re) _ hW hl r c _ _ hun] at h
    obtain ⟨p, h1, _⟩ := h
    exact (opn_iff re s).2 ⟨p, by have := hun p h1; omega, h1⟩
end Go.Proofs.YtkjcnnecdclgfaaDoor
