import Derived.Test.YthfijmabagjdkaaQte
namespace Go.Proofs.Ythfijmabagjdkaa.Qy
open Go.RowKit Go.Maps

/-! The reference's condition, and what it reads beside the program's. -/
def tqR (L : List Wd) (m : Rm) : Rm := if m.e = 0 then (if seR L m.at_ 5 [61] = true then ⟨m.at_ + 1, m.ns, m.cs, 0, m.po⟩ else ⟨m.at_ + 1, m.ns, m.cs, 200, m.at_⟩) else m
def otR (L : List Wd) (m : Rm) : Rm × ByteArray × ByteArray := if m.at_ < L.length ∧ (L.getD m.at_ w0).k = 2 then (⟨m.at_ + 1, m.ns, m.cs, m.e, m.po⟩, ⟨#[]⟩, bs (L.getD m.at_ w0).t) else ((cpR L m).2, (cpR L m).1, ⟨#[]⟩)
def adR (m : Rm) (c : Cd) : Rm := ⟨m.at_, m.ns, m.cs ++ [c], m.e, m.po⟩
def unR (L : List Wd) (m : Rm) : Bool := seR L m.at_ 1 [117, 110, 108, 101, 115, 115]
/-- Behind the '=' sign, and the capture ahead of it. -/
def cqR (L : List Wd) (m : Rm) : Rm := tqR L (cpR L ⟨m.at_ + 1, m.ns, m.cs, m.e, m.po⟩).2
def cdR (L : List Wd) (m : Rm) : Rm :=
  if (unR L m || seR L m.at_ 1 [119, 104, 101, 110]) = false then ⟨m.at_, m.ns, m.cs, 200, m.at_⟩
  else if 16 ≤ m.cs.length then ⟨m.at_, m.ns, m.cs, 202, m.at_⟩
  else if (cqR L m).e = 0 then adR (otR L (cqR L m)).1 ⟨unR L m, (cpR L ⟨m.at_ + 1, m.ns, m.cs, m.e, m.po⟩).1, (otR L (cqR L m)).2.1, (otR L (cqR L m)).2.2⟩
  else cqR L m
def cdL (L : List Wd) : Nat → Rm → Rm
  | 0, m => m
  | n + 1, m => if m.e = 0 ∧ m.at_ < L.length then cdL L n (cdR L m) else m
theorem cp_rel {L : List Wd} {z : Wd} (hz : z.k = 0) {s : Rs} {m : Rm} (hw : s.ws = L.drop m.at_ ++ [z]) (hl : m.at_ ≤ L.length) (hcp : m.ns.map Pn.cp = s.ns.map Pn.cp) :
    (mst s [64] = (true, tl s) ∧ cnm (tl s) true = (true, tl (tl s)) ∧ cpR L m = (bs (hd (tl s)).t, ⟨m.at_ + 2, m.ns, m.cs, 0, m.po⟩) ∧ m.at_ + 2 ≤ L.length ∧ (tl (tl s)).ws = L.drop (m.at_ + 2) ++ [z]) ∨
    (∃ s2, (mst s [64] = (false, s2) ∨ (mst s [64] = (true, tl s) ∧ cnm (tl s) true = (false, s2))) ∧ ErP L z s2 (cpR L m).2) := by
  have h1 := se_at hw hl hz (k := 5) (by decide) [64]
  cases hs : seR L m.at_ 5 [64] with
  | false =>
    rw [hs] at h1
    refine .inr ⟨fl s 200, .inl ?_, ?_⟩
    · unfold mst; rw [if_neg (by rw [h1]; decide)]
    · unfold cpR; rw [if_neg (by rw [hs]; decide)]
      exact ⟨(show (200 : Int) ≠ 0 by decide), rfl, hw, hl⟩
  | true =>
    rw [hs] at h1
    have hlt := (seR_lt hs).1
    have hw1 := ((hd_at hw hl).1 hlt).2
    have h2 := nm_at hw1 hlt hz
    have em : mst s [64] = (true, tl s) := by unfold mst; rw [if_pos h1]
    cases hn : nmR L (m.at_ + 1) with
    | false =>
      rw [hn] at h2
      refine .inr ⟨fl (tl s) 200, .inr ⟨em, ?_⟩, ?_⟩
      · unfold cnm; rw [if_neg (by rw [h2]; decide)]
      · unfold cpR; rw [if_pos hs, if_neg (by rw [hn]; decide)]
        exact ⟨(show (200 : Int) ≠ 0 by decide), rfl, hw1, hlt⟩
    | true =>
      rw [hn] at h2
      have hlt2 := (nmR_lt hn).1
      obtain ⟨hh, hw2⟩ := (hd_at hw1 hlt).1 hlt2
      have hc : Qy.cap (tl s).ns (bs (hd (tl s)).t) = Qy.cap m.ns (bs (L.getD (m.at_ + 1) w0).t) := by rw [hh]; exact (cap_map hcp _).symm
      have hge := cap_ge m.ns (bs (L.getD (m.at_ + 1) w0).t)
      by_cases k : Qy.cap m.ns (bs (L.getD (m.at_ + 1) w0).t) < 0
      · refine .inr ⟨fl (tl s) 201, .inr ⟨em, ?_⟩, ?_⟩
        · unfold cnm; rw [if_pos h2, hc, decide_eq_false (by omega), if_neg (by decide)]
        · unfold cpR; rw [if_pos hs, if_pos hn, if_pos k]
          exact ⟨(show (201 : Int) ≠ 0 by decide), rfl, hw1, hlt⟩
      · refine .inl ⟨em, ?_, ?_, hlt2, hw2⟩
        · unfold cnm; rw [if_pos h2, hc, decide_eq_true (by omega), if_pos rfl]
        · unfold cpR; rw [if_pos hs, if_pos hn, if_neg k, hh]
theorem cpR_ns (L : List Wd) (m : Rm) : (cpR L m).2.ns = m.ns ∧ (cpR L m).2.cs = m.cs := by
  unfold cpR; split
  · split
    · split <;> exact ⟨rfl, rfl⟩
    · exact ⟨rfl, rfl⟩
  · exact ⟨rfl, rfl⟩
/-- A condition has been read on both sides. -/
def OkC (L : List Wd) (z : Wd) (s : Rs) (m : Rm) (s1 : Rs) (m' : Rm) : Prop := s1.ws = L.drop m'.at_ ++ [z] ∧ m'.at_ ≤ L.length ∧ m'.e = 0 ∧ s1.ns = s.ns ∧ m'.ns = m.ns ∧ m'.cs = s1.cs ∧ m.at_ ≤ m'.at_
theorem cd_rel {L : List Wd} {z : Wd} (hz : z.k = 0) {s : Rs} {m : Rm} (hw : s.ws = L.drop m.at_ ++ [z]) (hl : m.at_ ≤ L.length) (_he : m.e = 0) (hcp : m.ns.map Pn.cp = s.ns.map Pn.cp) (hcs : m.cs = s.cs) (hcl : m.cs.length ≤ 16) :
    ((cnd s).1 = true → OkC L z s m (cnd s).2 (cdR L m) ∧ m.at_ < (cdR L m).at_ ∧ (cdR L m).cs.length ≤ 16) ∧ ((cnd s).1 = false → ErP L z (cnd s).2 (cdR L m)) := by
  have hU := se_at hw hl hz (k := 1) (by decide) [117, 110, 108, 101, 115, 115]
  have hW := se_at hw hl hz (k := 1) (by decide) [119, 104, 101, 110]
  have hU2 : se s 1 [117, 110, 108, 101, 115, 115] = unR L m := hU
  by_cases g0 : (unR L m || seR L m.at_ 1 [119, 104, 101, 110]) = false
  · have e1 : cnd s = (false, fl s 200) := by
      unfold cnd; rw [hU2, hW]
      rw [Bool.or_eq_false_iff] at g0
      rw [g0.1, g0.2]; rfl
    have e2 : cdR L m = ⟨m.at_, m.ns, m.cs, 200, m.at_⟩ := by unfold cdR; rw [if_pos g0]
    rw [e1, e2]
    exact ⟨fun k => (by cases k), fun _ => ⟨(show (200 : Int) ≠ 0 by decide), rfl, hw, hl⟩⟩
  have g1 : (!se s 1 [117, 110, 108, 101, 115, 115] && !se s 1 [119, 104, 101, 110]) = false := by
    rw [hU2, hW]
    cases h1 : unR L m <;> cases h2 : seR L m.at_ 1 [119, 104, 101, 110] <;> rw [h1, h2] at g0 <;> first | rfl | exact absurd rfl g0
  have hlt : m.at_ < L.length := by
    cases h1 : unR L m with
    | true => exact (seR_lt h1).1
    | false =>
      cases h2 : seR L m.at_ 1 [119, 104, 101, 110] with
      | true => exact (seR_lt h2).1
      | false => rw [h1, h2] at g0; exact absurd rfl g0
  by_cases g2 : 16 ≤ m.cs.length
  · have e1 : cnd s = (false, fl s 202) := by
      unfold cnd; rw [if_neg (by rw [g1]; decide), if_pos (by rw [← hcs]; omega)]
    have e2 : cdR L m = ⟨m.at_, m.ns, m.cs, 202, m.at_⟩ := by unfold cdR; rw [if_neg g0, if_pos g2]
    rw [e1, e2]
    exact ⟨fun k => (by cases k), fun _ => ⟨(show (202 : Int) ≠ 0 by decide), rfl, hw, hl⟩⟩
  have hw1 : (tl s).ws = L.drop (m.at_ + 1) ++ [z] := ((hd_at hw hl).1 hlt).2
  obtain ⟨m1, hm1⟩ : ∃ m1 : Rm, (⟨m.at_ + 1, m.ns, m.cs, m.e, m.po⟩ : Rm) = m1 := ⟨_, rfl⟩
  have a1 : m1.at_ = m.at_ + 1 := by rw [← hm1]
  have n1 : m1.ns = m.ns := by rw [← hm1]
  have c1 : m1.cs = m.cs := by rw [← hm1]
  have h1 := cp_rel hz (s := tl s) (m := m1) (by rw [a1]; exact hw1) (by rw [a1]; exact hlt) (by rw [n1]; exact hcp)
  have eC : cdR L m = if (tqR L (cpR L m1).2).e = 0 then adR (otR L (tqR L (cpR L m1).2)).1 ⟨unR L m, (cpR L m1).1, (otR L (tqR L (cpR L m1).2)).2.1, (otR L (tqR L (cpR L m1).2)).2.2⟩ else tqR L (cpR L m1).2 := by
    unfold cdR cqR; rw [if_neg g0, if_neg g2, hm1]
  have eS : cnd s = match mst (tl s) [64] with
    | (false, s1) => (false, adC s1 ⟨unR L m, ⟨#[]⟩, ⟨#[]⟩, ⟨#[]⟩⟩)
    | (true, s1) => match cnm s1 true with
      | (false, s2) => (false, adC s2 ⟨unR L m, ⟨#[]⟩, ⟨#[]⟩, ⟨#[]⟩⟩)
      | (true, s2) => match mst s2 [61] with
        | (false, s3) => (false, adC s3 ⟨unR L m, bs (hd s1).t, ⟨#[]⟩, ⟨#[]⟩⟩)
        | (true, s3) => ((oth s3).1, adC (oth s3).2.1 ⟨unR L m, bs (hd s1).t, (oth s3).2.2.1, (oth s3).2.2.2⟩) := by
    unfold cnd; rw [if_neg (by rw [g1]; decide), if_neg (by rw [← hcs]; omega), hU2]; rfl
  rcases h1 with ⟨p1, p2, p3, p4, p5⟩ | ⟨s2, p1, p2⟩
  · rw [p1] at eS
    dsimp only at eS
    rw [p2] at eS
    dsimp only at eS
    rw [p3] at eC
    dsimp only at eC
    have q1 := se_at p5 p4 hz (k := 5) (by decide) [61]
    have q0 : tqR L ⟨m1.at_ + 2, m1.ns, m1.cs, 0, m1.po⟩ = if seR L (m1.at_ + 2) 5 [61] = true then ⟨m1.at_ + 3, m1.ns, m1.cs, 0, m1.po⟩ else ⟨m1.at_ + 3, m1.ns, m1.cs, 200, m1.at_ + 2⟩ := by unfold tqR; rw [if_pos rfl]
    cases hs : seR L (m1.at_ + 2) 5 [61] with
    | false =>
      rw [hs] at q1
      have e3 : mst (tl (tl (tl s))) [61] = (false, fl (tl (tl (tl s))) 200) := by unfold mst; rw [if_neg (by rw [q1]; decide)]
      rw [e3] at eS
      rw [q0, hs, if_neg (show ¬(false = true) by decide), if_neg (show ¬(200 : Int) = 0 by decide)] at eC
      rw [eS, eC]
      exact ⟨fun k => (by cases k), fun _ => ⟨(show (200 : Int) ≠ 0 by decide), rfl, p5, p4⟩⟩
    | true =>
      rw [hs] at q1
      have hlt3 := (seR_lt hs).1
      have e3 : mst (tl (tl (tl s))) [61] = (true, tl (tl (tl (tl s)))) := by unfold mst; rw [if_pos q1]
      rw [e3] at eS
      dsimp only at eS
      rw [q0, if_pos hs, if_pos rfl] at eC
      have hw4 : (tl (tl (tl (tl s)))).ws = L.drop (m1.at_ + 3) ++ [z] := ((hd_at p5 p4).1 hlt3).2
      obtain ⟨s4, hs4⟩ : ∃ s4, tl (tl (tl (tl s))) = s4 := ⟨_, rfl⟩
      have n4 : s4.ns = s.ns ∧ s4.cs = s.cs := by rw [← hs4]; exact ⟨rfl, rfl⟩
      rw [hs4] at hw4 eS
      obtain ⟨m4, hm4⟩ : ∃ m4 : Rm, (⟨m1.at_ + 3, m1.ns, m1.cs, 0, m1.po⟩ : Rm) = m4 := ⟨_, rfl⟩
      have a4 : m4.at_ = m1.at_ + 3 := by rw [← hm4]
      have b4 : m4.ns = m.ns ∧ m4.cs = m.cs ∧ m4.e = 0 := by rw [← hm4, n1, c1]; exact ⟨rfl, rfl, rfl⟩
      rw [hm4] at eC
      have hl4 : m4.at_ ≤ L.length := by omega
      rw [← a4] at hw4
      by_cases hk : m4.at_ < L.length ∧ (L.getD m4.at_ w0).k = 2
      · obtain ⟨hh, hw5⟩ := (hd_at hw4 hl4).1 hk.1
        have e5 : oth s4 = (true, tl s4, ⟨#[]⟩, bs (hd s4).t) := by unfold oth; rw [if_pos (by rw [hh]; exact hk.2)]
        have e6 : otR L m4 = (⟨m4.at_ + 1, m4.ns, m4.cs, m4.e, m4.po⟩, ⟨#[]⟩, bs (L.getD m4.at_ w0).t) := by unfold otR; rw [if_pos hk]
        rw [e5] at eS
        rw [e6] at eC
        rw [eS, eC]
        refine ⟨fun _ => ⟨⟨hw5, hk.1, b4.2.2, n4.1, b4.1, ?_, ?_⟩, ?_, ?_⟩, fun k => by cases k⟩
        · show m4.cs ++ _ = s4.cs ++ _
          rw [b4.2.1, n4.2, hcs, hh]
        · show m.at_ ≤ m4.at_ + 1; omega
        · show m.at_ < m4.at_ + 1; omega
        · show (m4.cs ++ _).length ≤ 16
          rw [List.length_append, b4.2.1]
          show m.cs.length + 1 ≤ 16
          omega
      · have hk2 : ¬(hd s4).k = 2 := fun e => by
          by_cases hk1 : m4.at_ < L.length
          · exact hk ⟨hk1, by rw [← ((hd_at hw4 hl4).1 hk1).1]; exact e⟩
          · rw [(hd_at hw4 hl4).2 (by omega), hz] at e; cases e
        have e6 : otR L m4 = ((cpR L m4).2, (cpR L m4).1, ⟨#[]⟩) := by unfold otR; rw [if_neg hk]
        rw [e6] at eC
        rcases cp_rel hz (s := s4) (m := m4) hw4 hl4 (by rw [b4.1, n4.1]; exact hcp) with ⟨r1, r2, r3, r4, r5⟩ | ⟨s5, r1, r2⟩
        · have e5 : oth s4 = (true, tl (tl s4), bs (hd (tl s4)).t, ⟨#[]⟩) := by
            unfold oth; rw [if_neg hk2, r1]; dsimp only; rw [r2]
          rw [e5] at eS
          rw [r3] at eC
          rw [eS, eC]
          refine ⟨fun _ => ⟨⟨r5, r4, rfl, n4.1, b4.1, ?_, ?_⟩, ?_, ?_⟩, fun k => by cases k⟩
          · show m4.cs ++ _ = s4.cs ++ _
            rw [b4.2.1, n4.2, hcs]
          · show m.at_ ≤ m4.at_ + 2; omega
          · show m.at_ < m4.at_ + 2; omega
          · show (m4.cs ++ _).length ≤ 16
            rw [List.length_append, b4.2.1]
            show m.cs.length + 1 ≤ 16
            omega
        · have e5 : (oth s4).1 = false ∧ (oth s4).2.1 = s5 := by
            unfold oth; rw [if_neg hk2]
            rcases r1 with r1 | ⟨r1, r3⟩
            · rw [r1]; exact ⟨rfl, rfl⟩
            · rw [r1]; dsimp only; rw [r3]; exact ⟨rfl, rfl⟩
          rw [e5.1, e5.2] at eS
          rw [eS, eC]
          exact ⟨fun k => (by cases k), fun _ => r2⟩
  · have hne : (cpR L m1).2.e ≠ 0 := by rw [p2.2.1]; exact p2.1
    have e3 : tqR L (cpR L m1).2 = (cpR L m1).2 := by unfold tqR; rw [if_neg hne]
    rw [e3, if_neg hne] at eC
    rcases p1 with p1 | ⟨p1, p3⟩
    · rw [p1] at eS
      rw [eS, eC]
      exact ⟨fun k => (by cases k), fun _ => p2⟩
    · rw [p1] at eS
      dsimp only at eS
      rw [p3] at eS
      rw [eS, eC]
      exact ⟨fun k => (by cases k), fun _ => p2⟩
/-- The conditions, one after another. -/
theorem cl_rel {L : List Wd} {z : Wd} (hz : z.k = 0) : ∀ (n : Nat) (s : Rs) (m : Rm), s.ws = L.drop m.at_ ++ [z] → m.at_ ≤ L.length → m.e = 0 → m.ns.map Pn.cp = s.ns.map Pn.cp → m.cs = s.cs → m.cs.length ≤ 16 → L.length - m.at_ ≤ n →
    ((rdC n s).1 = true → (cdL L n m).e = 0 ∧ (rdC n s).2.ns = s.ns ∧ (cdL L n m).ns = m.ns ∧ (cdL L n m).cs = (rdC n s).2.cs ∧ (cdL L n m).at_ = L.length) ∧ ((rdC n s).1 = false → ErP L z (rdC n s).2 (cdL L n m))
  | 0, s, m, hw, hl, he, hcp, hcs, hcl, hn => by
    refine ⟨fun _ => ⟨he, rfl, rfl, hcs, ?_⟩, fun k => by cases k⟩
    show m.at_ = _
    omega
  | n + 1, s, m, hw, hl, he, hcp, hcs, hcl, hn => by
    have hlen : s.ws.length = L.length - m.at_ + 1 := by rw [hw, List.length_append, List.length_drop]; rfl
    by_cases hk : m.at_ < L.length
    · have e2 : cdL L (n + 1) m = cdL L n (cdR L m) := by rw [cdL, if_pos ⟨he, hk⟩]
      obtain ⟨k1, k2⟩ := cd_rel hz hw hl he hcp hcs hcl
      have e1 : rdC (n + 1) s = match cnd s with
        | (true, s1) => rdC n s1
        | (false, s1) => (false, s1) := by rw [rdC, if_neg (by omega)]; rfl
      rcases h9 : cnd s with ⟨b, s1⟩
      rw [h9] at k1 k2 e1
      cases b with
      | true =>
        dsimp only at e1
        obtain ⟨⟨j1, j2, j3, j4, j5, j6, j7⟩, j8, j9⟩ := k1 rfl
        have ih := cl_rel hz n s1 (cdR L m) j1 j2 j3 (by rw [j5, hcp]; exact congrArg _ j4.symm) j6 j9 (by omega)
        rw [e1, e2]
        refine ⟨fun k => ?_, ih.2⟩
        obtain ⟨i1, i2, i3, i4, i5⟩ := ih.1 k
        exact ⟨i1, i2.trans j4, i3.trans j5, i4, i5⟩
      | false =>
        dsimp only at e1
        rw [e1, e2]
        refine ⟨fun k => (by cases k), fun _ => ?_⟩
        have h8 := k2 rfl
        have e3 : cdL L n (cdR L m) = cdR L m := by
          cases n with
          | zero => rfl
          | succ n => rw [cdL, if_neg (fun h => h8.1 (h8.2.1.symm.trans h.1))]
        rw [e3]
        exact h8
    · have e1 : rdC (n + 1) s = (true, s) := by rw [rdC, if_pos (by omega)]
      have e2 : cdL L (n + 1) m = m := by rw [cdL, if_neg (fun h => hk h.2)]
      rw [e1, e2]
      refine ⟨fun _ => ⟨he, rfl, rfl, hcs, ?_⟩, fun k => by cases k⟩
      omega
end Go.Proofs.Ythfijmabagjdkaa.Qy
