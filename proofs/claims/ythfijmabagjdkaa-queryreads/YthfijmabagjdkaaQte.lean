import Derived.Test.YthfijmabagjdkaaQtd
namespace Go.Proofs.Ythfijmabagjdkaa.Qy
open Go.RowKit Go.Maps

/-! What the reference reads is what the program reads. -/
def ErP (L : List Wd) (z : Wd) (s1 : Rs) (m' : Rm) : Prop := s1.co ≠ 0 ∧ m'.e = s1.co ∧ s1.ws = L.drop m'.po ++ [z] ∧ m'.po ≤ L.length
theorem set_mid {α : Type} (A : List α) (p q : α) (new : List α) : (A ++ p :: new).set A.length q = A ++ q :: new := by
  rw [List.set_append_right _ _ (Nat.le_refl _), Nat.sub_self]; rfl
theorem get_mid (A : List Pn) (p : Pn) (new : List Pn) : (A ++ p :: new).getD A.length pz = p := by
  rw [List.getD_eq_getElem?_getD, List.getElem?_append_right (Nat.le_refl _), Nat.sub_self]; rfl
/-- A node under way on both sides. -/
structure Mid (L : List Wd) (z : Wd) (A A' new : List Pn) (p : Pn) (s : Rs) (m : Rm) : Prop where
  ws : s.ws = L.drop m.at_ ++ [z]
  le : m.at_ ≤ L.length
  co : s.co = 0
  e : m.e = 0
  ns : s.ns = A ++ p :: new
  ms : m.ns = A' ++ pz :: new
  aa : A'.map Pn.cp = A.map Pn.cp
  cp : p.cp = ⟨#[]⟩
theorem Mid.cap {L : List Wd} {z : Wd} {A A' new : List Pn} {p : Pn} {s : Rs} {m : Rm} (h : Mid L z A A' new p s m) (t : ByteArray) : cap m.ns t = cap s.ns t := by
  refine cap_map ?_ t
  rw [h.ns, h.ms, List.map_append, List.map_append, List.map_cons, List.map_cons, h.aa, h.cp]; rfl
theorem cpt_rel {L : List Wd} {z : Wd} (hz : z.k = 0) {A A' new : List Pn} {p : Pn} {s : Rs} {m : Rm} (h : Mid L z A A' new p s m) :
    ((cpt s A.length).1 = true → (clR L m p).1.e = 0 ∧ (cpt s A.length).2.ws = L.drop (clR L m p).1.at_ ++ [z] ∧ (clR L m p).1.at_ ≤ L.length ∧ (cpt s A.length).2.co = 0 ∧ (cpt s A.length).2.ns = A ++ (clR L m p).2 :: new ∧ (cpt s A.length).2.cs = s.cs ∧ (clR L m p).1.ns = m.ns ∧ (clR L m p).1.cs = m.cs) ∧
    ((cpt s A.length).1 = false → ErP L z (cpt s A.length).2 (clR L m p).1) := by
  have h1 := se_at h.ws h.le hz (k := 5) (by decide) [64]
  cases hs : seR L m.at_ 5 [64] with
  | false =>
    rw [hs] at h1
    have e1 : cpt s A.length = (true, s) := by unfold cpt; rw [if_neg (by rw [h1]; decide)]
    have e2 : clR L m p = (m, p) := by unfold clR; rw [if_neg (fun k => by rw [hs] at k; cases k.2)]
    rw [e1, e2]
    exact ⟨fun _ => ⟨h.e, h.ws, h.le, h.co, h.ns, rfl, rfl, rfl⟩, fun k => by cases k⟩
  | true =>
    rw [hs] at h1
    have hlt := (seR_lt hs).1
    have hw := ((hd_at h.ws h.le).1 hlt).2
    have h2 := nm_at hw hlt hz
    have e2 : clR L m p = if nmR L (m.at_ + 1) = true then
      (if 0 ≤ Qy.cap m.ns (bs (L.getD (m.at_ + 1) w0).t) then ⟨m.at_ + 2, m.ns, m.cs, 201, m.at_ + 1⟩ else ⟨m.at_ + 2, m.ns, m.cs, 0, m.po⟩, { p with cp := bs (L.getD (m.at_ + 1) w0).t })
    else (⟨m.at_ + 1, m.ns, m.cs, 200, m.at_ + 1⟩, { p with cp := ⟨#[]⟩ }) := by unfold clR; rw [if_pos ⟨h.e, hs⟩]
    cases hn : nmR L (m.at_ + 1) with
    | false =>
      rw [hn] at h2
      have e1 : cpt s A.length = (false, fl (tl s) 200) := by unfold cpt cnm; rw [if_pos h1, if_neg (by rw [h2]; decide)]
      rw [e1, e2, if_neg (by rw [hn]; decide)]
      exact ⟨fun k => (by cases k), fun _ => ⟨(show (200 : Int) ≠ 0 by decide), rfl, hw, hlt⟩⟩
    | true =>
      rw [hn] at h2
      have hlt2 := (nmR_lt hn).1
      obtain ⟨hh, hw2⟩ := (hd_at hw hlt).1 hlt2
      have hc : Qy.cap (tl s).ns (bs (hd (tl s)).t) = Qy.cap m.ns (bs (L.getD (m.at_ + 1) w0).t) := by rw [hh]; exact (h.cap _).symm
      have hge := cap_ge m.ns (bs (L.getD (m.at_ + 1) w0).t)
      rw [e2, if_pos hn]
      by_cases k : 0 ≤ Qy.cap m.ns (bs (L.getD (m.at_ + 1) w0).t)
      · have e1 : cpt s A.length = (false, fl (tl s) 201) := by
          unfold cpt cnm
          rw [if_pos h1, if_pos h2, hc, decide_eq_true (by omega), if_neg (by decide)]
        rw [e1, if_pos k]
        exact ⟨fun k => (by cases k), fun _ => ⟨(show (201 : Int) ≠ 0 by decide), rfl, hw, hlt⟩⟩
      · have e1 : cpt s A.length = (true, upN (tl (tl s)) A.length fun p => { p with cp := bs (hd (tl s)).t }) := by
          unfold cpt cnm
          rw [if_pos h1, if_pos h2, hc, decide_eq_false (by omega), if_pos rfl]
        rw [e1, if_neg k]
        refine ⟨fun _ => ⟨rfl, hw2, hlt2, h.co, ?_, rfl, rfl, rfl⟩, fun k => by cases k⟩
        show s.ns.set A.length { (s.ns.getD A.length pz) with cp := bs (hd (tl s)).t } = _
        rw [h.ns, set_mid, get_mid, hh]
/-- The node's beginning: what is read of it, or the error. -/
theorem nd_rel {L : List Wd} {z : Wd} (hz : z.k = 0) {A A' : List Pn} {p : Pn} {s : Rs} {m : Rm} (h : Mid L z A A' [] p s m) (n : Nat) (_hcs : m.cs = s.cs) :
    ((ndH L m p).1 = false ∧ ∃ s', ndS n s A.length = (true, s') ∧ Mid L z A A' [] (ndH L m p).2.2 s' (ndH L m p).2.1 ∧ s'.cs = s.cs ∧ (ndH L m p).2.1.cs = m.cs) ∨
    ((ndH L m p).1 = true ∧ (ndH L m p).2.1.e = 0 ∧ ∃ s', ndS n s A.length = rdP n (some A.length) s' ∧ Mid L z A A' [] (ndH L m p).2.2 s' (ndH L m p).2.1 ∧ s'.cs = s.cs ∧ (ndH L m p).2.1.cs = m.cs) ∨
    ((ndH L m p).1 = true ∧ (ndH L m p).2.1.e ≠ 0 ∧ ∃ s', ndS n s A.length = (false, s') ∧ ErP L z s' (ndH L m p).2.1) := by
  have hT := tx_at h.ws h.le hz
  have hS := se_at h.ws h.le hz (k := 5) (by decide) [40]
  cases ht : txR L m.at_ with
  | true =>
    rw [ht] at hT
    have hlt := txR_lt ht
    obtain ⟨hh, hw⟩ := (hd_at h.ws h.le).1 hlt.1
    have hA : ndA s = true := by unfold ndA; rw [hT, Bool.or_true]
    have e1 : ndS n s A.length = (true, upN (tl s) A.length fun p => { p with lit := true, nm := bs (hd s).t }) := by
      unfold ndS
      rw [if_neg (by rw [hA]; decide), if_pos (by rw [hh]; exact hlt.2)]
    have e2 : ndH L m p = (false, ⟨m.at_ + 1, m.ns, m.cs, 0, m.po⟩, { p with lit := true, nm := bs (L.getD m.at_ w0).t }) := by unfold ndH; rw [if_pos ht]
    rw [e1, e2]
    refine .inl ⟨rfl, _, rfl, ⟨hw, hlt.1, h.co, rfl, ?_, h.ms, h.aa, h.cp⟩, rfl, rfl⟩
    show s.ns.set A.length { (s.ns.getD A.length pz) with lit := true, nm := bs (hd s).t } = _
    rw [h.ns, set_mid, get_mid, hh]
  | false =>
    rw [ht] at hT
    have e2 : ndH L m p = if seR L m.at_ 5 [40] = true then
        if seR L (m.at_ + 1) 1 [95] = true then (true, ⟨m.at_ + 2, m.ns, m.cs, 0, m.po⟩, p)
        else if nmR L (m.at_ + 1) = true then (true, ⟨m.at_ + 2, m.ns, m.cs, 0, m.po⟩, { p with nm := bs (L.getD (m.at_ + 1) w0).t })
        else (true, ⟨m.at_ + 1, m.ns, m.cs, 200, m.at_ + 1⟩, { p with nm := ⟨#[]⟩ })
      else (true, ⟨m.at_ + 1, m.ns, m.cs, 200, m.at_⟩, p) := by unfold ndH; rw [if_neg (by rw [ht]; decide)]
    cases hs : seR L m.at_ 5 [40] with
    | false =>
      rw [hs] at hS
      have hA : ndA s = false := by unfold ndA; rw [hT, hS]; rfl
      have e1 : ndS n s A.length = (false, fl s 200) := by unfold ndS; rw [if_pos (by rw [hA]; decide)]
      rw [e1, e2, if_neg (by rw [hs]; decide)]
      exact .inr (.inr ⟨rfl, (show (200 : Int) ≠ 0 by decide), _, rfl, (show (200 : Int) ≠ 0 by decide), rfl, h.ws, h.le⟩)
    | true =>
      rw [hs] at hS
      have hA : ndA s = true := by unfold ndA; rw [hS]; rfl
      have hlt := seR_lt hs
      obtain ⟨hh, hw⟩ := (hd_at h.ws h.le).1 hlt.1
      have hk2 : ¬((hd s).k = 2) := by rw [hh, hlt.2.1]; decide
      have hU := se_at hw hlt.1 hz (k := 1) (by decide) [95]
      have hN := nm_at hw hlt.1 hz
      rw [e2, if_pos hs]
      cases hu : seR L (m.at_ + 1) 1 [95] with
      | true =>
        have hlt2 := seR_lt hu
        obtain ⟨hh2, hw2⟩ := (hd_at hw hlt.1).1 hlt2.1
        have hn : nmA (tl s) = false := by unfold nmA; rw [hh2, hlt2.2.1, hlt2.2.2]; rfl
        have e1 : ndS n s A.length = rdP n (some A.length) (tl (tl s)) := by
          unfold ndS
          rw [if_neg (by rw [hA]; decide), if_neg hk2, if_neg (by rw [hh2, hlt2.2.1]; decide), if_neg (by rw [hn]; decide)]
        rw [e1, if_pos rfl]
        exact .inr (.inl ⟨rfl, rfl, _, rfl, ⟨hw2, hlt2.1, h.co, rfl, h.ns, h.ms, h.aa, h.cp⟩, rfl, rfl⟩)
      | false =>
        rw [if_neg (by decide)]
        cases hn : nmR L (m.at_ + 1) with
        | true =>
          have hlt2 := nmR_lt hn
          obtain ⟨hh2, hw2⟩ := (hd_at hw hlt.1).1 hlt2.1
          rw [hn] at hN
          have e1 : ndS n s A.length = rdP n (some A.length) (tl (upN (tl s) A.length fun p => { p with nm := bs (hd (tl s)).t })) := by
            unfold ndS
            rw [if_neg (by rw [hA]; decide), if_neg hk2, if_neg (by rw [hh2, hlt2.2]; decide), if_pos hN]
          rw [e1, if_pos rfl]
          refine .inr (.inl ⟨rfl, rfl, _, rfl, ⟨hw2, hlt2.1, h.co, rfl, ?_, h.ms, h.aa, h.cp⟩, rfl, rfl⟩)
          show s.ns.set A.length { (s.ns.getD A.length pz) with nm := bs (hd (tl s)).t } = _
          rw [h.ns, set_mid, get_mid, hh2]
        | false =>
          rw [hn] at hN
          have hk1 : (hd (tl s)).k ≠ 1 := fun k => by
            unfold nmA at hN
            rw [k] at hN
            rw [hu] at hU
            unfold se at hU
            rw [k] at hU
            simp at hN hU
            exact hU hN
          have e1 : ndS n s A.length = (false, fl (tl s) 200) := by
            unfold ndS
            rw [if_neg (by rw [hA]; decide), if_neg hk2, if_pos hk1]
          rw [e1, if_neg (by decide)]
          exact .inr (.inr ⟨rfl, (show (200 : Int) ≠ 0 by decide), _, rfl, (show (200 : Int) ≠ 0 by decide), rfl, hw, hlt.1⟩)
/-- Both sides read on. -/
def OkP (L : List Wd) (z : Wd) (s : Rs) (m : Rm) (s1 : Rs) (m' : Rm) : Prop := s1.ws = L.drop m'.at_ ++ [z] ∧ m'.at_ ≤ L.length ∧ s1.co = 0 ∧ m'.e = 0 ∧ s1.cs = s.cs ∧ m'.cs = m.cs ∧ ∃ new, s1.ns = s.ns ++ new ∧ m'.ns = m.ns ++ new
theorem rdP_kids (n i : Nat) (s : Rs) : rdP (n + 1) (some i) s = if se s 5 [41] then (true, tl s) else match rdP n none s with
    | (true, s1) => rdP n (some i) (upN s1 i fun p => { p with kd := p.kd + 1 })
    | (false, s1) => (false, s1) := by
  rw [rdP]
  rfl
theorem clR_err {L : List Wd} {m : Rm} {p : Pn} (h : m.e ≠ 0) : clR L m p = (m, p) := by
  unfold clR; rw [if_neg (fun k => h k.1)]
theorem rd_rel {L : List Wd} {z : Wd} (hz : z.k = 0) : ∀ n,
    (∀ (s : Rs) (m : Rm), s.ws = L.drop m.at_ ++ [z] → m.at_ ≤ L.length → s.co = 0 → m.e = 0 → m.ns.map Pn.cp = s.ns.map Pn.cp → m.cs = s.cs → m.ns.length ≤ 32 → 2 * (L.length - m.at_) + 1 ≤ n →
      ((rdP n none s).1 = true → OkP L z s m (rdP n none s).2 (prR L n none m).1) ∧ ((rdP n none s).1 = false → ErP L z (rdP n none s).2 (prR L n none m).1)) ∧
    (∀ (A A' new : List Pn) (p : Pn) (s : Rs) (m : Rm), Mid L z A A' new p s m → m.cs = s.cs → m.ns.length ≤ 32 → 2 * (L.length - m.at_) + 2 ≤ n →
      ((rdP n (some A.length) s).1 = true → ∃ new' s2, Mid L z A A' new' (prR L n (some p) m).2 s2 (prR L n (some p) m).1 ∧ (rdP n (some A.length) s).2 = tl s2 ∧ seR L (prR L n (some p) m).1.at_ 5 [41] = true ∧ s2.cs = s.cs ∧ (prR L n (some p) m).1.cs = m.cs) ∧
      ((rdP n (some A.length) s).1 = false → ErP L z (rdP n (some A.length) s).2 (prR L n (some p) m).1))
  | 0 => ⟨fun s m _ _ _ _ _ _ _ h => by omega, fun A A' new p s m _ _ _ h => by omega⟩
  | n + 1 => by
    obtain ⟨ih1, ih2⟩ := rd_rel hz n
    refine ⟨fun s m hw hl hco he hcp hcs hnl hf => ?_, fun A A' new p s m h hcs hnl hf => ?_⟩
    · rw [prR_pat, rdP_node]
      have hF := fd_at hw hl hz
      have hT := tx_at hw hl hz
      have hS := se_at hw hl hz (k := 5) (by decide) [40]
      have hC : (!fdA s && !ndA s) = !(fdR L m.at_ || txR L m.at_ || seR L m.at_ 5 [40]) := by
        unfold ndA
        rw [hT, hS, hF]
        show (!fdR L m.at_ && _) = _
        cases fdR L m.at_ <;> cases txR L m.at_ <;> cases seR L m.at_ 5 [40] <;> rfl
      rw [hC]
      by_cases c1 : (fdR L m.at_ || txR L m.at_ || seR L m.at_ 5 [40]) = false
      · rw [if_pos c1, c1, if_pos (by decide)]
        exact ⟨fun k => (by cases k), fun _ => ⟨(show (200 : Int) ≠ 0 by decide), rfl, hw, hl⟩⟩
      · rw [if_neg c1, if_neg (by rw [Bool.not_eq_true', ← Bool.not_eq_true, Bool.not_eq_true]; exact c1)]
        have hlen : m.ns.length = s.ns.length := by have := congrArg List.length hcp; simpa using this
        by_cases c2 : 32 ≤ m.ns.length
        · rw [if_pos c2, if_pos (by omega)]
          exact ⟨fun k => (by cases k), fun _ => ⟨(show (202 : Int) ≠ 0 by decide), rfl, hw, hl⟩⟩
        · rw [if_neg c2, if_neg (by omega)]
          have hlt : m.at_ < L.length := by
            rw [Bool.not_eq_false, Bool.or_eq_true, Bool.or_eq_true] at c1
            rcases c1 with (c | c) | c
            · have := fdR_lt c; omega
            · exact (txR_lt c).1
            · exact (seR_lt c).1
          -- the node is opened
          have hM : Mid L z s.ns m.ns [] (opR L m).2 (opn s) (opR L m).1 ∧ (opn s).cs = s.cs ∧ (opR L m).1.cs = m.cs := by
            have hw2 : (⟨s.ws, s.ns ++ [pz], s.cs, s.co⟩ : Rs).ws = L.drop m.at_ ++ [z] := hw
            have hF2 := fd_at hw2 hl hz
            unfold opn opR fld
            by_cases hf' : fdR L m.at_ = true
            · have hf2 : fdA ⟨s.ws, s.ns ++ [pz], s.cs, s.co⟩ = true := hF2.trans hf'
              rw [if_pos hf', if_pos hf2]
              have h2 := fdR_lt hf'
              refine ⟨⟨?_, by show m.at_ + 2 ≤ _; omega, hco, rfl, ?_, rfl, hcp, rfl⟩, rfl, rfl⟩
              · show s.ws.drop 2 = L.drop (m.at_ + 2) ++ [z]
                rw [hw, List.drop_append_of_le_length (by rw [List.length_drop]; omega), List.drop_drop]
              · show (s.ns ++ [pz]).set ((s.ns ++ [pz]).length - 1) _ = _
                rw [show (s.ns ++ [pz]).length - 1 = s.ns.length by simp, set_mid, get_mid]
                have hh := ((hd_at hw2 hl).1 hlt).1
                rw [hh]
            · have hf2 : ¬(fdA ⟨s.ws, s.ns ++ [pz], s.cs, s.co⟩ = true) := by rw [hF2]; exact hf'
              rw [if_neg hf', if_neg hf2]
              exact ⟨⟨hw, hl, hco, rfl, rfl, rfl, hcp, rfl⟩, rfl, rfl⟩
          obtain ⟨hM, hc1, hc2⟩ := hM
          have hup := opR_up (L := L) (m := m)
          have hns : (opR L m).1.ns.length ≤ 32 := by rw [hM.ms]; simp; omega
          -- what stands behind the children
          have fin : ∀ (new : List Pn) (k : Rm × Pn) (s2 : Rs), Mid L z s.ns m.ns new k.2 s2 k.1 → s2.cs = s.cs → k.1.cs = m.cs →
              ((cpt s2 s.ns.length).1 = true → OkP L z s m (cpt s2 s.ns.length).2 (stR (clR L k.1 k.2).1 m.ns.length (clR L k.1 k.2).2)) ∧ ((cpt s2 s.ns.length).1 = false → ErP L z (cpt s2 s.ns.length).2 (stR (clR L k.1 k.2).1 m.ns.length (clR L k.1 k.2).2)) := fun new k s2 hk hk1 hk2 => by
            obtain ⟨r1, r2⟩ := cpt_rel hz hk
            refine ⟨fun e => ?_, fun e => ?_⟩
            · obtain ⟨a1, a2, a3, a4, a5, a6, a7, a8⟩ := r1 e
              refine ⟨a2, a3, a4, a1, a6.trans hk1, a8.trans hk2, (clR L k.1 k.2).2 :: new, a5, ?_⟩
              show (clR L k.1 k.2).1.ns.set m.ns.length _ = _
              rw [a7, hk.ms, set_mid]
            · exact r2 e
          rcases nd_rel hz hM n (by rw [hc1, hc2, hcs]) with ⟨b1, s', b2, b3, b4, b5⟩ | ⟨b1, b0, s', b2, b3, b4, b5⟩ | ⟨b1, b0, s', b2, b3⟩
          · rw [b2, b1, if_neg (by decide)]
            exact fin [] _ s' b3 (b4.trans hc1) (b5.trans hc2)
          · rw [b2, b1, if_pos rfl]
            have hu := ndH_up (L := L) (m := (opR L m).1) (p := (opR L m).2) hM.le b0
            have hu2 := hu.2 b1
            have hle := b3.le
            obtain ⟨q1, q2⟩ := ih2 s.ns m.ns [] (ndH L (opR L m).1 (opR L m).2).2.2 s' (ndH L (opR L m).1 (opR L m).2).2.1 b3 (by rw [b4, b5, hc1, hc2, hcs]) (by rw [b3.ms]; simp; omega) (by omega)
            cases hb : (rdP n (some s.ns.length) s').1 with
            | true =>
              obtain ⟨new', s2, m1, m2, m3, m4, m5⟩ := q1 hb
              have e1 : rdP n (some s.ns.length) s' = (true, tl s2) := by rw [← hb, ← m2]
              rw [e1]
              have hlt2 := (seR_lt m3).1
              have hw3 := ((hd_at m1.ws m1.le).1 hlt2).2
              exact fin new' (upA (prR L n (some (ndH L (opR L m).1 (opR L m).2).2.2) (ndH L (opR L m).1 (opR L m).2).2.1).1, (prR L n (some (ndH L (opR L m).1 (opR L m).2).2.2) (ndH L (opR L m).1 (opR L m).2).2.1).2) (tl s2) ⟨hw3, hlt2, m1.co, m1.e, m1.ns, m1.ms, m1.aa, m1.cp⟩ (m4.trans (b4.trans hc1)) (m5.trans (b5.trans hc2))
            | false =>
              have hE := q2 hb
              have e1 : rdP n (some s.ns.length) s' = (false, (rdP n (some s.ns.length) s').2) := by rw [← hb]
              rw [e1]
              refine ⟨fun k => (by cases k), fun _ => ?_⟩
              have hne : (upA (prR L n (some (ndH L (opR L m).1 (opR L m).2).2.2) (ndH L (opR L m).1 (opR L m).2).2.1).1).e ≠ 0 := by
                show (prR L n _ _).1.e ≠ 0
                rw [hE.2.1]; exact hE.1
              rw [clR_err hne]
              exact hE
          · rw [b2, b1, if_pos rfl]
            refine ⟨fun k => (by cases k), fun _ => ?_⟩
            have e2 : prR L n (some (ndH L (opR L m).1 (opR L m).2).2.2) (ndH L (opR L m).1 (opR L m).2).2.1 = ((ndH L (opR L m).1 (opR L m).2).2.1, (ndH L (opR L m).1 (opR L m).2).2.2) := by
              obtain ⟨n', rfl⟩ : ∃ n', n = n' + 1 := ⟨n - 1, by omega⟩
              exact prR_stop b0
            rw [e2]
            rw [clR_err (show (upA (ndH L (opR L m).1 (opR L m).2).2.1).e ≠ 0 from b0)]
            exact b3
    · rw [rdP_kids, prR]
      have hS := se_at h.ws h.le hz (k := 5) (by decide) [41]
      cases hs : seR L m.at_ 5 [41] with
      | true =>
        rw [hs] at hS
        rw [if_pos hS, if_neg (fun k => by cases k.2)]
        exact ⟨fun _ => ⟨new, s, h, rfl, hs, rfl, rfl⟩, fun k => by cases k⟩
      | false =>
        rw [hs] at hS
        rw [if_neg (by rw [hS]; decide), if_pos ⟨h.e, rfl⟩]
        have hcp : m.ns.map Pn.cp = s.ns.map Pn.cp := by rw [h.ns, h.ms, List.map_append, List.map_append, List.map_cons, List.map_cons, h.aa, h.cp]; rfl
        obtain ⟨q1, q2⟩ := ih1 s m h.ws h.le h.co h.e hcp hcs hnl (by omega)
        have hq := (prR_nq L n).1 m h.e h.le hnl
        cases hb : (rdP n none s).1 with
        | true =>
          obtain ⟨a1, a2, a3, a4, a5, a6, new2, a7, a8⟩ := q1 hb
          have e1 : rdP n none s = (true, (rdP n none s).2) := by rw [← hb]
          rw [e1]
          have hok := hq.ok a4
          obtain ⟨x1, x2⟩ := ih2 A A' (new ++ new2) { p with kd := p.kd + 1 } (upN (rdP n none s).2 A.length fun p => { p with kd := p.kd + 1 }) (prR L n none m).1 ⟨a1, a2, a3, a4, by
              show (rdP n none s).2.ns.set A.length { ((rdP n none s).2.ns.getD A.length pz) with kd := ((rdP n none s).2.ns.getD A.length pz).kd + 1 } = _
              have e9 : (rdP n none s).2.ns = A ++ p :: (new ++ new2) := by rw [a7, h.ns]; simp
              rw [e9, set_mid, get_mid], by rw [a8, h.ms]; simp, h.aa, h.cp⟩ (by rw [a6, hcs]; exact a5.symm) hq.nl (by omega)
          refine ⟨fun e => ?_, x2⟩
          obtain ⟨n', s2, y1, y2, y3, y4, y5⟩ := x1 e
          exact ⟨n', s2, y1, y2, y3, y4.trans a5, y5.trans a6⟩
        | false =>
          have hE := q2 hb
          have e1 : rdP n none s = (false, (rdP n none s).2) := by rw [← hb]
          rw [e1]
          refine ⟨fun k => (by cases k), fun _ => ?_⟩
          have hne : (prR L n none m).1.e ≠ 0 := by rw [hE.2.1]; exact hE.1
          obtain ⟨n', rfl⟩ : ∃ n', n = n' + 1 := ⟨n - 1, by omega⟩
          rw [prR_stop hne]
          exact hE
end Go.Proofs.Ythfijmabagjdkaa.Qy
