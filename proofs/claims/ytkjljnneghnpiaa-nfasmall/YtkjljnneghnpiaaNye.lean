import Derived.Test.YtkjljnneghnpiaaNcd
namespace Go.Proofs.Ytkjljnneghnpiaa.Rg
theorem szs_pre (l : List Nd) : ∀ (z z' : List Nat), szs l z = some z' → ∃ r, z' = z ++ r := by
  induction l with
  | nil => intro z z' h; cases h; exact ⟨[], by simp⟩
  | cons n l ih =>
    intro z z' h
    simp only [szs, Option.bind_eq_some_iff] at h
    obtain ⟨s, _, h2⟩ := h
    obtain ⟨r, hr⟩ := ih _ _ h2
    exact ⟨s :: r, by rw [hr]; simp⟩
/-- The node at a place: the sizes ahead of it, and its own. -/
theorem szs_at (p : List Nd) (n : Nd) (s : List Nd) (z : List Nat) (h : szs (p ++ n :: s) [] = some z) : ∃ zp, szs p [] = some zp ∧ zp.length = p.length ∧ Zok zp ∧ ext n zp = some (z.getD p.length 0) ∧ ∀ j, j < p.length → zp.getD j 0 = z.getD j 0 := by
  rw [szs_app] at h
  simp only [Option.bind_eq_some_iff] at h
  obtain ⟨zp, h1, h2⟩ := h
  have hz := szs_ok h1 zok_nil
  have hl : zp.length = p.length := by rw [hz.2]; simp
  simp only [szs, Option.bind_eq_some_iff] at h2
  obtain ⟨s0, h3, h4⟩ := h2
  obtain ⟨r, hr⟩ := szs_pre _ _ _ h4
  refine ⟨zp, h1, hl, hz.1, ?_, ?_⟩
  · rw [h3, hr, getD_app1 _ _ _ _ (by rw [List.length_append]; simp only [List.length_cons, List.length_nil]; omega), getD_app2 _ _ _ _ (by omega), hl]
    simp
  · intro j hj
    rw [hr, getD_app1 _ _ _ _ (by rw [List.length_append]; simp only [List.length_cons, List.length_nil]; omega), getD_app1 _ _ _ _ (by omega)]
/-- What a node of a well shaped tree is. -/
inductive Kind (n : Nd) (i : Nat) (z : List Nat) : Prop where
  | leaf (h : n.op = 1 ∨ n.op = 2) (hb : bl n.m = decide (n.op = 2)) (ha : n.a = -1) (hbb : n.b = -1) (hz : z.getD i 0 = 1)
  | un (h : n.op = 5 ∨ n.op = 6 ∨ n.op = 7) (hb : bl n.m = true) (hi : 1 ≤ i) (ha : n.a = ((i - 1 : Nat) : Int)) (hbb : n.b = -1) (hz : z.getD i 0 = z.getD (i - 1) 0 + 1)
  | bin (h : n.op = 3 ∨ n.op = 4) (hb : bl n.m = true) (a : Nat) (hi : a + z.getD (i - 1) 0 + 1 = i) (h1 : 1 ≤ z.getD (i - 1) 0) (ha : n.a = (a : Int)) (hbb : n.b = ((i - 1 : Nat) : Int)) (hz : z.getD i 0 = z.getD a 0 + z.getD (i - 1) 0 + 1)
theorem kind_of (p : List Nd) (n : Nd) (s : List Nd) (z : List Nat) (h : szs (p ++ n :: s) [] = some z) : Kind n p.length z := by
  obtain ⟨zp, _, hl, hz, he, hj⟩ := szs_at p n s z h
  unfold ext at he
  rw [hl] at he
  split at he
  · rename_i h1
    split at he
    · rename_i h2
      injection he with he
      exact .leaf h1 h2.1 h2.2.1 h2.2.2 he.symm
    · cases he
  · split at he
    · rename_i h1
      split at he
      · rename_i h2
        injection he with he
        refine .un h1 h2.1 h2.2.1 (by omega) h2.2.2.2 ?_
        rw [← he, hj _ (by omega)]
      · cases he
    · split at he
      · rename_i h1
        split at he
        · rename_i h2
          injection he with he
          have h3 := hz (p.length - 1) (by omega)
          have e1 := hj (p.length - 1) (by omega)
          refine .bin h1 h2.1 (p.length - 1 - zp.getD (p.length - 1) 0) (by omega) (by omega) (by omega) (by omega) ?_
          rw [← he, e1, hj _ (by omega)]
        · cases he
      · cases he
theorem Sh_parts {re : List Nd} (h : Sh re = true) : ∃ z, szs re [] = some z ∧ re.length ≠ 0 ∧ re.length ≤ 128 ∧ z.getD (re.length - 1) 0 = re.length := by
  unfold Sh at h
  split at h
  · cases h
  · rename_i z hz
    simp only [Bool.and_eq_true, decide_eq_true_eq] at h
    exact ⟨z, hz, h.1.1, h.1.2, h.2⟩
theorem get_at (p : List Nd) (n : Nd) (s : List Nd) : (p ++ n :: s)[p.length]? = some n := by simp
end Go.Proofs.Ytkjljnneghnpiaa.Rg
namespace Go.Proofs.Ytkjljnneghnpiaa
open Go.RowKit Go.Maps

/-- A node makes at most one state. -/
theorem prt_le {re : List Rg.Nd} {z : List Nat} (h : Rg.szs re [] = some z) : ∀ i, i < re.length → ∀ f bh M, i < f → (prt re f i bh M).1.on.length ≤ M.on.length + z.getD i 0 := by
  intro i
  induction i using Nat.strongRecOn with
  | ind i ih =>
    intro hi f bh M hf
    obtain ⟨p, n, s, hre, hp, _⟩ := Rg.split_at re i hi
    have hk := Rg.kind_of p n s z (by rw [← hre]; exact h)
    have hn : re[i]? = some n := by rw [hre, ← hp]; exact Rg.get_at p n s
    rw [hp] at hk
    obtain ⟨f, rfl⟩ : ∃ f', f = f' + 1 := ⟨f - 1, by omega⟩
    rw [prt, hn]
    dsimp only
    cases hk with
    | leaf h1 _ _ _ hz =>
      rcases h1 with h1 | h1
      · rw [if_pos h1]
        simp only [Ms.add, List.length_append, List.length_cons, List.length_nil]
        omega
      · rw [if_neg (by omega), if_neg (by omega), if_neg (by omega), if_neg (by omega), if_neg (by omega), if_neg (by omega)]; exact Nat.le_add_right _ _
    | un h1 _ h2 ha _ hz =>
      have e : n.a.toNat = i - 1 := by rw [ha]; exact Int.toNat_natCast _
      have k := fun b M => ih (i - 1) (by omega) (by omega) f b M (by omega)
      rcases h1 with h1 | h1 | h1
      · rw [if_neg (by omega), if_neg (by omega), if_neg (by omega), if_neg (by omega), if_pos h1, e]
        have := k (M.on.length : Int) (M.add nob (-1) [])
        simp only [Ms.setF]
        simp only [Ms.add, List.length_append, List.length_cons, List.length_nil] at this ⊢
        omega
      · rw [if_neg (by omega), if_neg (by omega), if_neg (by omega), if_neg (by omega), if_neg (by omega), if_pos h1, e]
        have := k (M.on.length : Int) (M.add nob (-1) [])
        simp only [Ms.setF]
        simp only [Ms.add, List.length_append, List.length_cons, List.length_nil] at this ⊢
        omega
      · rw [if_neg (by omega), if_neg (by omega), if_neg (by omega), if_pos h1, e]
        have := k bh M
        simp only [Ms.add, List.length_append, List.length_cons, List.length_nil]
        omega
    | bin h1 _ a hi2 h3 ha hb hz =>
      have e1 : n.a.toNat = a := by rw [ha]; exact Int.toNat_natCast _
      have e2 : n.b.toNat = i - 1 := by rw [hb]; exact Int.toNat_natCast _
      have ka := fun b M => ih a (by omega) (by omega) f b M (by omega)
      have kb := fun b M => ih (i - 1) (by omega) (by omega) f b M (by omega)
      rcases h1 with h1 | h1
      · rw [if_neg (by omega), if_pos h1, e1, e2]
        have := kb bh M
        have := ka (prt re f (i - 1) bh M).2 (prt re f (i - 1) bh M).1
        omega
      · rw [if_neg (by omega), if_neg (by omega), if_pos h1, e1, e2]
        have := ka bh M
        have := kb bh (prt re f a bh M).1
        simp only [Ms.add, List.length_append, List.length_cons, List.length_nil]
        omega
end Go.Proofs.Ytkjljnneghnpiaa
namespace Go.Proofs.Ytkjljnneghnpiaa
open Go.RowKit Go.Maps

set_option maxRecDepth 100000 in
set_option maxHeartbeats 4000000 in
theorem part_empty {B bk gr oo cap i : Nat} {re : List Rg.Nd} {z : List Nat} {m : Nat → Bool} {na nb : Int} (hgr : gr < B) (hn : ∃ p s, re = p ++ (⟨2, m, na, nb⟩ : Rg.Nd) :: s ∧ p.length = i)  : PartOk B bk gr oo cap re z i := by
  intro f hf W bh M st en hM hN hL
  obtain ⟨p, s, hre, hpl⟩ := hn
  have hnd := hN.nd p _ s hre
  obtain ⟨c0, c1, c2, c3, c4, c5, c6⟩ := hnd
  rw [hpl] at c0 c1 c2 c3 c4 c5 c6
  have hil : i < re.length := by rw [hre, ← hpl]; simp
  have hget : re[i]? = some ⟨2, m, na, nb⟩ := by rw [hre, ← hpl]; simp
  obtain ⟨f, rfl⟩ : ∃ f', f = f' + 1 := ⟨f - 1, by omega⟩
  have HPR : Hid (prt re (f + 1) i bh M = (M, bh)) := by
    show prt _ _ _ _ _ = _
    rw [prt, hget]; rfl
  have HM1 : Hid (MkM B (W.alloc (.cells #[.int .i64 2, .int .u64 (wd m 0 : Nat), .int .u64 (wd m 1 : Nat), .int .u64 (wd m 2 : Nat), .int .u64 (wd m 3 : Nat), .int .i64 na, .int .i64 nb] 58)) bk M st en (.slice (some ⟨gr, oo, none⟩) re.length cap)) := hM.below (bel_up _ _)
  have HB0 : Hid (Below B W (W.alloc (.cells #[.int .i64 2, .int .u64 (wd m 0 : Nat), .int .u64 (wd m 1 : Nat), .int .u64 (wd m 2 : Nat), .int .u64 (wd m 3 : Nat), .int .i64 na, .int .i64 nb] 58))) := (bel_up _ _).mono hM.lB
  have HN1 : Hid (Rg.NdsAt (W.alloc (.cells #[.int .i64 2, .int .u64 (wd m 0 : Nat), .int .u64 (wd m 1 : Nat), .int .u64 (wd m 2 : Nat), .int .u64 (wd m 3 : Nat), .int .i64 na, .int .i64 nb] 58)) gr oo re) := hN.below HB0.out hgr
  have HGR : Hid (gr < B) := hgr
  obtain ⟨fvs, vo, vt, vf, hv, _⟩ := hM
  have k5 := hv.cell 5 (.slice (some ⟨gr, oo, none⟩) re.length cap) rfl
  clear hv hL hN hf hget hre hpl HN1 HGR
  go_enter Try.func33, Try.ntmps33
  go_wp2_with fail
  go_ret
  refine ⟨(by rw [HPR.out]; rfl), HB0.out, FrK.bel (bel_up _ _), ?_⟩
  rw [HPR.out]
  exact HM1.out

set_option maxRecDepth 100000 in
set_option maxHeartbeats 4000000 in
theorem part_ring5 {B bk gr oo cap i : Nat} {re : List Rg.Nd} {z : List Nat} {m : Nat → Bool} {na : Nat} {nb : Int} (hgr : gr < B) (hn : ∃ p s, re = p ++ (⟨5, m, (na : Int), nb⟩ : Rg.Nd) :: s ∧ p.length = i) (ha : na < i) (hz : z.getD na 0 + 1 ≤ z.getD i 0) (hA : PartOk B bk gr oo cap re z na) : PartOk B bk gr oo cap re z i := by
  intro f hf W bh M st en hM hN hL
  obtain ⟨p, s, hre, hpl⟩ := hn
  have hnd := hN.nd p _ s hre
  obtain ⟨c0, c1, c2, c3, c4, c5, c6⟩ := hnd
  rw [hpl] at c0 c1 c2 c3 c4 c5 c6
  have hil : i < re.length := by rw [hre, ← hpl]; simp
  have hget : re[i]? = some ⟨5, m, (na : Int), nb⟩ := by rw [hre, ← hpl]; simp
  obtain ⟨f, rfl⟩ : ∃ f', f = f' + 1 := ⟨f - 1, by omega⟩
  have HPR : Hid (prt re (f + 1) i bh M = ((prt re f na (M.on.length : Int) (M.add nob (-1) [])).1.setF M.on.length [(prt re f na (M.on.length : Int) (M.add nob (-1) [])).2, bh], (M.on.length : Int))) := by
    show prt _ _ _ _ _ = _
    rw [prt, hget]; rfl
  have HM1 : Hid (MkM B (W.alloc (.cells #[.int .i64 5, .int .u64 (wd m 0 : Nat), .int .u64 (wd m 1 : Nat), .int .u64 (wd m 2 : Nat), .int .u64 (wd m 3 : Nat), .int .i64 (na : Int), .int .i64 nb] 58)) bk M st en (.slice (some ⟨gr, oo, none⟩) re.length cap)) := hM.below (bel_up _ _)
  have HB0 : Hid (Below B W (W.alloc (.cells #[.int .i64 5, .int .u64 (wd m 0 : Nat), .int .u64 (wd m 1 : Nat), .int .u64 (wd m 2 : Nat), .int .u64 (wd m 3 : Nat), .int .i64 (na : Int), .int .i64 nb] 58))) := (bel_up _ _).mono hM.lB
  have HN1 : Hid (Rg.NdsAt (W.alloc (.cells #[.int .i64 5, .int .u64 (wd m 0 : Nat), .int .u64 (wd m 1 : Nat), .int .u64 (wd m 2 : Nat), .int .u64 (wd m 3 : Nat), .int .i64 (na : Int), .int .i64 nb] 58)) gr oo re) := hN.below HB0.out hgr
  have HGR : Hid (gr < B) := hgr
  have hring := ring_ok hgr hA f (by omega) _ bh M st en HM1.out HN1.out (by omega)
  obtain ⟨fvs, vo, vt, vf, hv, _⟩ := hM
  have k5 := hv.cell 5 (.slice (some ⟨gr, oo, none⟩) re.length cap) rfl
  clear hv hL hN hf hget hre hpl hA hz ha HGR
  go_enter Try.func33, Try.ntmps33
  go_wp2_with fail
  refine hring.mono ?_
  clear hring
  rintro e w3 ⟨rfl, hb3, hk3, hm3⟩
  have HB3 : Hid _ := hb3
  have HK3 : Hid _ := hk3
  have HM3 : Hid _ := hm3
  clear hb3 hk3 hm3
  go_wp2_with fail
  go_ret
  refine ⟨(by rw [HPR.out]; rfl), HB0.out.trans HB3.out, (FrK.bel (bel_up _ _)).trans HK3.out, ?_⟩
  rw [HPR.out]
  exact HM3.out

set_option maxRecDepth 100000 in
set_option maxHeartbeats 4000000 in
theorem part_opt {B bk gr oo cap i : Nat} {re : List Rg.Nd} {z : List Nat} {m : Nat → Bool} {na : Nat} {nb : Int} (hgr : gr < B) (hn : ∃ p s, re = p ++ (⟨7, m, (na : Int), nb⟩ : Rg.Nd) :: s ∧ p.length = i) (ha : na < i) (hz : z.getD na 0 + 1 ≤ z.getD i 0) (hlen : ∀ f bh M, na < f → (prt re f na bh M).1.on.length ≤ M.on.length + z.getD na 0) (hA : PartOk B bk gr oo cap re z na) : PartOk B bk gr oo cap re z i := by
  intro f hf W bh M st en hM hN hL
  obtain ⟨p, s, hre, hpl⟩ := hn
  have hnd := hN.nd p _ s hre
  obtain ⟨c0, c1, c2, c3, c4, c5, c6⟩ := hnd
  rw [hpl] at c0 c1 c2 c3 c4 c5 c6
  have hil : i < re.length := by rw [hre, ← hpl]; simp
  have hget : re[i]? = some ⟨7, m, (na : Int), nb⟩ := by rw [hre, ← hpl]; simp
  obtain ⟨f, rfl⟩ : ∃ f', f = f' + 1 := ⟨f - 1, by omega⟩
  have HPR : Hid (prt re (f + 1) i bh M = ((prt re f na bh M).1.add nob (-1) [(prt re f na bh M).2, bh], ((prt re f na bh M).1.on.length : Int))) := by
    show prt _ _ _ _ _ = _
    rw [prt, hget]; rfl
  have HM1 : Hid (MkM B (W.alloc (.cells #[.int .i64 7, .int .u64 (wd m 0 : Nat), .int .u64 (wd m 1 : Nat), .int .u64 (wd m 2 : Nat), .int .u64 (wd m 3 : Nat), .int .i64 (na : Int), .int .i64 nb] 58)) bk M st en (.slice (some ⟨gr, oo, none⟩) re.length cap)) := hM.below (bel_up _ _)
  have HB0 : Hid (Below B W (W.alloc (.cells #[.int .i64 7, .int .u64 (wd m 0 : Nat), .int .u64 (wd m 1 : Nat), .int .u64 (wd m 2 : Nat), .int .u64 (wd m 3 : Nat), .int .i64 (na : Int), .int .i64 nb] 58))) := (bel_up _ _).mono hM.lB
  have HN1 : Hid (Rg.NdsAt (W.alloc (.cells #[.int .i64 7, .int .u64 (wd m 0 : Nat), .int .u64 (wd m 1 : Nat), .int .u64 (wd m 2 : Nat), .int .u64 (wd m 3 : Nat), .int .i64 (na : Int), .int .i64 nb] 58)) gr oo re) := hN.below HB0.out hgr
  have HGR : Hid (gr < B) := hgr
  have HPA : Hid (PartOk B bk gr oo cap re z na) := hA
  have HAF : Hid (na < f) := by show na < f; omega
  have HLA : Hid (M.on.length + z.getD na 0 ≤ 1000) := by show _ ≤ _; omega
  have HLN : Hid ((prt re f na bh M).1.on.length ≤ 1000) := by have := hlen f bh M HAF.out; show _ ≤ _; omega
  obtain ⟨fvs, vo, vt, vf, hv, _⟩ := hM
  have k5 := hv.cell 5 (.slice (some ⟨gr, oo, none⟩) re.length cap) rfl
  clear hv hL hN hf hget hre hpl hA hz ha hlen
  go_enter Try.func33, Try.ntmps33
  go_wp2_with fail
  refine (HPA.out f HAF.out _ bh M st en HM1.out HN1.out HLA.out).mono ?_
  rintro e w3 ⟨rfl, hb3, hk3, hm3⟩
  obtain ⟨r, hr⟩ : ∃ r, prt re f na bh M = r := ⟨_, rfl⟩
  have HR : Hid (prt re f na bh M = r) := hr
  rw [hr] at hm3 ⊢
  have HB3 : Hid _ := hb3
  have HK3 : Hid _ := hk3
  have HM3 : Hid (MkM B w3 bk r.1 st en (.slice (some ⟨gr, oo, none⟩) re.length cap)) := hm3
  clear hb3 hk3 hm3 hr
  go_wp2_with fail
  have hst := state_m (fv := .slice (some ⟨w3.heap.size, 0, none⟩) 2 2) (l := [r.2, bh]) nob (-1) (w3.alloc (.cells #[.int .i64 r.2, .int .i64 bh] 3)) (HM3.out.below (bel_up _ _)) (.inr ⟨w3, w3.heap.size, rfl, by simp, HM3.out.lB, rfl, rfl, HM3.out⟩) (by have := HLN.out; rw [HR.out] at this; omega)
  rw [show CV nob = _ from cv_zero] at hst
  refine hst.mono ?_
  clear hst
  rintro e w4 ⟨rfl, hb4, hk4, hm4⟩
  have HB4 : Hid (Below B W w4) := HB0.out.trans (HB3.out.trans (((bel_up _ _).mono HM3.out.lB).trans hb4))
  have HK4 : Hid (FrK W w4) := FrK.trans (FrK.bel (bel_up _ _)) (FrK.trans HK3.out (FrK.trans (FrK.bel (bel_up _ _)) hk4))
  have HM4 : Hid _ := hm4
  clear hb4 hk4 hm4
  go_wp2_with fail
  go_ret
  refine ⟨(by rw [HPR.out, HR.out]; rfl), HB4.out, HK4.out, ?_⟩
  rw [HPR.out, HR.out]
  exact HM4.out

set_option maxRecDepth 100000 in
set_option maxHeartbeats 4000000 in
theorem part_alt {B bk gr oo cap i : Nat} {re : List Rg.Nd} {z : List Nat} {m : Nat → Bool} {na nb : Nat} (hgr : gr < B) (hn : ∃ p s, re = p ++ (⟨4, m, (na : Int), (nb : Int)⟩ : Rg.Nd) :: s ∧ p.length = i) (ha : na < i) (hb : nb < i) (hz : z.getD na 0 + z.getD nb 0 + 1 ≤ z.getD i 0) (hlenA : ∀ f bh M, na < f → (prt re f na bh M).1.on.length ≤ M.on.length + z.getD na 0) (hlenB : ∀ f bh M, nb < f → (prt re f nb bh M).1.on.length ≤ M.on.length + z.getD nb 0) (hA : PartOk B bk gr oo cap re z na) (hBk : PartOk B bk gr oo cap re z nb) : PartOk B bk gr oo cap re z i := by
  intro f hf W bh M st en hM hN hL
  obtain ⟨p, s, hre, hpl⟩ := hn
  have hnd := hN.nd p _ s hre
  obtain ⟨c0, c1, c2, c3, c4, c5, c6⟩ := hnd
  rw [hpl] at c0 c1 c2 c3 c4 c5 c6
  have hil : i < re.length := by rw [hre, ← hpl]; simp
  have hget : re[i]? = some ⟨4, m, (na : Int), (nb : Int)⟩ := by rw [hre, ← hpl]; simp
  obtain ⟨f, rfl⟩ : ∃ f', f = f' + 1 := ⟨f - 1, by omega⟩
  have HPR : Hid (prt re (f + 1) i bh M = ((prt re f nb bh (prt re f na bh M).1).1.add nob (-1) [(prt re f na bh M).2, (prt re f nb bh (prt re f na bh M).1).2], ((prt re f nb bh (prt re f na bh M).1).1.on.length : Int))) := by
    show prt _ _ _ _ _ = _
    rw [prt, hget]; rfl
  have HM1 : Hid (MkM B (W.alloc (.cells #[.int .i64 4, .int .u64 (wd m 0 : Nat), .int .u64 (wd m 1 : Nat), .int .u64 (wd m 2 : Nat), .int .u64 (wd m 3 : Nat), .int .i64 (na : Int), .int .i64 (nb : Int)] 58)) bk M st en (.slice (some ⟨gr, oo, none⟩) re.length cap)) := hM.below (bel_up _ _)
  have HB0 : Hid (Below B W (W.alloc (.cells #[.int .i64 4, .int .u64 (wd m 0 : Nat), .int .u64 (wd m 1 : Nat), .int .u64 (wd m 2 : Nat), .int .u64 (wd m 3 : Nat), .int .i64 (na : Int), .int .i64 (nb : Int)] 58))) := (bel_up _ _).mono hM.lB
  have HN1 : Hid (Rg.NdsAt (W.alloc (.cells #[.int .i64 4, .int .u64 (wd m 0 : Nat), .int .u64 (wd m 1 : Nat), .int .u64 (wd m 2 : Nat), .int .u64 (wd m 3 : Nat), .int .i64 (na : Int), .int .i64 (nb : Int)] 58)) gr oo re) := hN.below HB0.out hgr
  have HGR : Hid (gr < B) := hgr
  have HPA : Hid (PartOk B bk gr oo cap re z na) := hA
  have HPB : Hid (PartOk B bk gr oo cap re z nb) := hBk
  have HAF : Hid (na < f) := by show na < f; omega
  have HBF : Hid (nb < f) := by show nb < f; omega
  have HLA : Hid (M.on.length + z.getD na 0 ≤ 1000) := by show _ ≤ _; omega
  have HLB : Hid ((prt re f na bh M).1.on.length + z.getD nb 0 ≤ 1000) := by have := hlenA f bh M HAF.out; show _ ≤ _; omega
  have HLN : Hid ((prt re f nb bh (prt re f na bh M).1).1.on.length ≤ 1000) := by have := hlenA f bh M HAF.out; have := hlenB f bh (prt re f na bh M).1 HBF.out; show _ ≤ _; omega
  obtain ⟨fvs, vo, vt, vf, hv, _⟩ := hM
  have k5 := hv.cell 5 (.slice (some ⟨gr, oo, none⟩) re.length cap) rfl
  clear hv hL hN hf hget hre hpl hA hBk hz ha hb hlenA hlenB
  go_enter Try.func33, Try.ntmps33
  go_upto_region 8 with fail
  obtain ⟨WD, hWD⟩ : ∃ WD, (W.alloc (.cells #[.int .i64 4, .int .u64 (wd m 0 : Nat), .int .u64 (wd m 1 : Nat), .int .u64 (wd m 2 : Nat), .int .u64 (wd m 3 : Nat), .int .i64 (na : Int), .int .i64 (nb : Int)] 58)).drew = WD := ⟨_, rfl⟩
  obtain ⟨bx, hbx⟩ : ∃ bx, W.heap.size = bx := ⟨_, rfl⟩
  have HMD : Hid (MkM B WD bk M st en (.slice (some ⟨gr, oo, none⟩) re.length cap)) := by rw [← hWD]; exact HM1.out.below (Below.drew (Below.refl _ _))
  have HND : Hid (Rg.NdsAt WD gr oo re) := by rw [← hWD]; exact HN1.out.below (Below.drew (Below.refl _ _)) hgr
  have HBW : Hid (Below B W WD) := by rw [← hWD]; exact HB0.out.drew
  have HKW : Hid (FrK W WD) := by rw [← hWD]; exact FrK.bel (Below.drew (bel_up _ _))
  have hS0 : WD.heap[bx]? = some (.cells #[.int .i64 4, .int .u64 (wd m 0 : Nat), .int .u64 (wd m 1 : Nat), .int .u64 (wd m 2 : Nat), .int .u64 (wd m 3 : Nat), .int .i64 (na : Int), .int .i64 (nb : Int)] 58 (0, 0)) := by rw [← hWD, ← hbx]; exact World.alloc_heap_new W _
  rw [hbx]
  refine wp_region_noPanic ?_
  refine wp_region_held_drew (S := (fun W' => W'.heap[bx]? = some (.cells #[.int .i64 4, .int .u64 (wd m 0 : Nat), .int .u64 (wd m 1 : Nat), .int .u64 (wd m 2 : Nat), .int .u64 (wd m 3 : Nat), .int .i64 (na : Int), .int .i64 (nb : Int)] 58 (0, 0)))) (by kernel_rfl) (by rw [hWD]; exact hS0) (fun hHeld => ?_)
  rw [hWD] at hHeld ⊢
  clear hWD hS0 hbx c0 c1 c2 c3 c4 c5 c6 k5
  refine wpAnyH_take (i := 0) (oi := { dst := _, op := _, type := _, pos := _, after := _, guard := _ }) (v := ?_) rfl (by kernel_rfl) (by kernel_rfl) (by kernel_rfl) (fun _ _ _ h => h) (Or.inl ⟨by rfl, ?_⟩) (by assumption) ?_
  rotate_left
  · intro W hSw
    (try dsimp only at hSw)
    go_simp
    (try with_reducible rfl)
  try simp only [Act.put, List.setIfInBounds_toArray, List.set_cons_zero, List.set_cons_succ]
  refine wpAnyH_take (i := 1) (oi := { dst := _, op := _, type := _, pos := _, after := _, guard := _ }) (v := ?_) rfl (by kernel_rfl) (by kernel_rfl) (by kernel_rfl) (fun _ _ _ h => h) (Or.inl ⟨by rfl, ?_⟩) (by assumption) ?_
  rotate_left
  · intro W hSw
    (try dsimp only at hSw)
    go_simp
    (try with_reducible rfl)
  try simp only [Act.put, List.setIfInBounds_toArray, List.set_cons_zero, List.set_cons_succ]
  refine wpAnyH_take (i := 2) (oi := { dst := _, op := _, type := _, pos := _, after := _, guard := _ }) (v := ?_) rfl (by kernel_rfl) (by kernel_rfl) (by kernel_rfl) (fun _ _ _ h => h) (Or.inl ⟨by rfl, ?_⟩) (by assumption) ?_
  rotate_left
  · intro W hSw
    (try dsimp only at hSw)
    go_simp
    (try with_reducible rfl)
  try simp only [Act.put, List.setIfInBounds_toArray, List.set_cons_zero, List.set_cons_succ]
  refine wpAnyH_take (i := 3) (oi := { dst := _, op := _, type := _, pos := _, after := _, guard := _ }) (v := ?_) rfl (by kernel_rfl) (by kernel_rfl) (by kernel_rfl) (fun _ _ _ h => h) (Or.inl ⟨by rfl, ?_⟩) (by assumption) ?_
  rotate_left
  · intro W hSw
    (try dsimp only at hSw)
    go_simp
    (try with_reducible rfl)
  try simp only [Act.put, List.setIfInBounds_toArray, List.set_cons_zero, List.set_cons_succ]
  refine wpAnyH_take (i := 4) (oi := { dst := _, op := _, type := _, pos := _, after := _, guard := _ }) (v := ?_) rfl (by kernel_rfl) (by kernel_rfl) (by kernel_rfl) (fun _ _ _ h => h) (Or.inl ⟨by rfl, ?_⟩) (by assumption) ?_
  rotate_left
  · intro W hSw
    (try dsimp only at hSw)
    have s5 : W.cell? ⟨bx, 5, none⟩ = some (.int .i64 (na : Int)) := by rw [Lib.cell_of_heap hSw]; rfl
    have s6 : W.cell? ⟨bx, 6, none⟩ = some (.int .i64 (nb : Int)) := by rw [Lib.cell_of_heap hSw]; rfl
    go_simp
    (try with_reducible rfl)
  try simp only [Act.put, List.setIfInBounds_toArray, List.set_cons_zero, List.set_cons_succ]
  refine wpAnyH_take (i := 5) (oi := { dst := _, op := _, type := _, pos := _, after := _, guard := _ }) (v := ?_) rfl (by kernel_rfl) (by kernel_rfl) (by kernel_rfl) (fun _ _ _ h => h) (Or.inl ⟨by rfl, ?_⟩) (by assumption) ?_
  rotate_left
  · intro W hSw
    (try dsimp only at hSw)
    go_simp
    (try with_reducible rfl)
  try simp only [Act.put, List.setIfInBounds_toArray, List.set_cons_zero, List.set_cons_succ]
  refine wpAnyH_take (i := 7) (oi := { dst := _, op := _, type := _, pos := _, after := _, guard := _ }) (v := ?_) rfl (by kernel_rfl) (by kernel_rfl) (by kernel_rfl) (fun _ _ _ h => h) (Or.inl ⟨by rfl, ?_⟩) (by assumption) ?_
  rotate_left
  · intro W hSw
    (try dsimp only at hSw)
    go_simp
    (try with_reducible rfl)
  try simp only [Act.put, List.setIfInBounds_toArray, List.set_cons_zero, List.set_cons_succ]
  refine wpAnyH_take (i := 8) (oi := { dst := _, op := _, type := _, pos := _, after := _, guard := _ }) (v := ?_) rfl (by kernel_rfl) (by kernel_rfl) (by kernel_rfl) (fun _ _ _ h => h) (Or.inl ⟨by rfl, ?_⟩) (by assumption) ?_
  rotate_left
  · intro W hSw
    (try dsimp only at hSw)
    go_simp
    (try with_reducible rfl)
  try simp only [Act.put, List.setIfInBounds_toArray, List.set_cons_zero, List.set_cons_succ]
  refine wpAnyH_take (i := 9) (oi := { dst := _, op := _, type := _, pos := _, after := _, guard := _ }) (v := ?_) rfl (by kernel_rfl) (by kernel_rfl) (by kernel_rfl) (fun _ _ _ h => h) (Or.inl ⟨by rfl, ?_⟩) (by assumption) ?_
  rotate_left
  · intro W hSw
    (try dsimp only at hSw)
    have s5 : W.cell? ⟨bx, 5, none⟩ = some (.int .i64 (na : Int)) := by rw [Lib.cell_of_heap hSw]; rfl
    have s6 : W.cell? ⟨bx, 6, none⟩ = some (.int .i64 (nb : Int)) := by rw [Lib.cell_of_heap hSw]; rfl
    go_simp
    (try with_reducible rfl)
  try simp only [Act.put, List.setIfInBounds_toArray, List.set_cons_zero, List.set_cons_succ]
  refine wpAnyH_take (i := 10) (oi := { dst := _, op := _, type := _, pos := _, after := _, guard := _ }) (v := ?_) rfl (by kernel_rfl) (by kernel_rfl) (by kernel_rfl) (fun _ _ _ h => h) (Or.inl ⟨by rfl, ?_⟩) (by assumption) ?_
  rotate_left
  · intro W hSw
    (try dsimp only at hSw)
    go_simp
    (try with_reducible rfl)
  try simp only [Act.put, List.setIfInBounds_toArray, List.set_cons_zero, List.set_cons_succ]
  refine wpAnyH_ready (rs := [6]) (by kernel_rfl) (by simp) ?_
  refine AllReadyH.cons (o := { dst := _, op := _, type := _, pos := _, after := _, guard := _ }) rfl (fun K hK => ?_) AllReadyH.nil
  go_simp
  refine (HPA.out f HAF.out WD bh M st en HMD.out HND.out HLA.out).mono ?_
  rintro e w3 ⟨rfl, hb3, hk3, hm3⟩
  have HM3 : Hid _ := hm3
  have HB3 : Hid (Below B WD w3) := hb3
  have HK3 : Hid (FrK WD w3) := hk3
  clear hb3 hm3 hk3
  refine hK.out _ _ ?_ (fun hHeld => ?_)
  · first | exact trivial | (exact HK3.out _ _ hHeld)
  clear hK K
  try simp only [Act.put, List.setIfInBounds_toArray, List.set_cons_zero, List.set_cons_succ]
  refine wpAnyH_ready (rs := [11]) (by kernel_rfl) (by simp) ?_
  refine AllReadyH.cons (o := { dst := _, op := _, type := _, pos := _, after := _, guard := _ }) rfl (fun K hK => ?_) AllReadyH.nil
  go_simp
  refine (HPB.out f HBF.out w3 bh _ st en HM3.out (HND.out.below HB3.out HGR.out) HLB.out).mono ?_
  rintro e w4 ⟨rfl, hb4, hk4, hm4⟩
  have HM4 : Hid (MkM B w4 bk (prt re f nb bh (prt re f na bh M).1).1 st en (.slice (some ⟨gr, oo, none⟩) re.length cap)) := hm4
  have HB4 : Hid (Below B w3 w4) := hb4
  have HK4 : Hid (FrK w3 w4) := hk4
  clear hb4 hm4 hk4
  refine hK.out _ _ ?_ (fun hHeld => ?_)
  · first | exact trivial | (exact HK4.out _ _ hHeld)
  clear hK K
  try simp only [Act.put, List.setIfInBounds_toArray, List.set_cons_zero, List.set_cons_succ]
  refine wpAnyH_ready (rs := [12]) (by kernel_rfl) (by simp) ?_
  refine AllReadyH.cons (o := { dst := _, op := _, type := _, pos := _, after := _, guard := _ }) rfl (fun K hK => ?_) AllReadyH.nil
  go_simp
  refine hK.out _ _ ?_ (fun hHeld => ?_)
  · first | exact trivial | (exact (FrK.bel (bel_up _ _)) _ _ hHeld)
  clear hK K
  try simp only [Act.put, List.setIfInBounds_toArray, List.set_cons_zero, List.set_cons_succ]
  refine wpAnyH_ready (rs := [13]) (by kernel_rfl) (by simp) ?_
  refine AllReadyH.cons (o := { dst := _, op := _, type := _, pos := _, after := _, guard := _ }) rfl (fun K hK => ?_) AllReadyH.nil
  go_simp
  have hst := state_m (fv := .slice (some ⟨w4.heap.size, 0, none⟩) 2 2) (l := [(prt re f na bh M).2, (prt re f nb bh (prt re f na bh M).1).2]) nob (-1) (w4.alloc (.cells #[.int .i64 (prt re f na bh M).2, .int .i64 (prt re f nb bh (prt re f na bh M).1).2] 3)) (HM4.out.below (bel_up _ _)) (.inr ⟨w4, w4.heap.size, rfl, by simp, HM4.out.lB, rfl, rfl, HM4.out⟩) (by have := HLN.out; omega)
  rw [show CV nob = _ from cv_zero] at hst
  refine hst.mono ?_
  clear hst
  rintro e w5 ⟨rfl, hb5, hk5, hm5⟩
  have HB5 : Hid (Below B W w5) := HBW.out.trans (HB3.out.trans (HB4.out.trans (((bel_up _ _).mono HM4.out.lB).trans hb5)))
  have HKK : Hid (FrK (w4.alloc (.cells #[.int .i64 (prt re f na bh M).2, .int .i64 (prt re f nb bh (prt re f na bh M).1).2] 3)) w5) := hk5
  have HM5 : Hid _ := hm5
  clear hb5 hm5 hk5
  refine hK.out _ _ ?_ (fun hHeld => ?_)
  · first | exact trivial | (exact HKK.out _ _ hHeld)
  clear hK K
  try simp only [Act.put, List.setIfInBounds_toArray, List.set_cons_zero, List.set_cons_succ]
  refine wpAnyH_take (i := 14) (oi := { dst := _, op := _, type := _, pos := _, after := _, guard := _ }) (v := ?_) rfl (by kernel_rfl) (by kernel_rfl) (by kernel_rfl) (fun _ _ _ h => h) (Or.inl ⟨by rfl, ?_⟩) (by assumption) ?_
  rotate_left
  · intro W hSw
    (try dsimp only at hSw)
    go_simp
    (try with_reducible rfl)
  try simp only [Act.put, List.setIfInBounds_toArray, List.set_cons_zero, List.set_cons_succ]
  refine wpAnyH_done (by kernel_rfl) ?_ _
  refine NoPanic.normal ?_
  clear hHeld
  go_wp2_with fail
  go_ret
  refine ⟨(by rw [HPR.out]; rfl), HB5.out, FrK.trans HKW.out (FrK.trans HK3.out (FrK.trans HK4.out (FrK.trans (FrK.bel (bel_up _ _)) HKK.out))), ?_⟩
  rw [HPR.out]
  exact HM5.out

end Go.Proofs.Ytkjljnneghnpiaa
