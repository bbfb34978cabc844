import Derived.Test.YtcfmpmhdjkchjaaTpw
import Derived.Test.YtcfmpmhdjkchjaaTma
import Derived.Test.YtcfmpmhdjkchjaaTgi
namespace Go.Proofs.Ytcfmpmhdjkchjaa
open Go.RowKit Go.Maps

theorem kys_app (t s : List Nd) : kys (t ++ s) = kys t ++ kys s := List.map_append
theorem kys_rtm {f : Nd → Nd} (hf : ∀ x, (f x).kd = x.kd ∧ (f x).fr = x.fr ∧ (f x).tt = x.tt) (t : List Nd) (a : Nat) : kys (rtm f t a) = kys t := by
  have hl : (kys (rtm f t a)).length = (kys t).length := by unfold kys; rw [List.length_map, List.length_map, rtm_len]
  refine list_ext (0, 0, 0) hl fun j hj => ?_
  have hj' : j < t.length := by rw [hl] at hj; unfold kys at hj; rw [List.length_map] at hj; exact hj
  have key : ∀ s : List Nd, j < s.length → (kys s).getD j (0, 0, 0) = ((s.getD j ndd).kd, (s.getD j ndd).fr, (s.getD j ndd).tt) := fun s hs => by
    unfold kys
    rw [List.getD_eq_getElem?_getD, List.getElem?_map, List.getD_eq_getElem?_getD, List.getElem?_eq_getElem hs]
    rfl
  rw [key _ (by rw [rtm_len]; exact hj'), key _ hj', rtm_get f t a j hj']
  split
  · obtain ⟨h1, h2, h3⟩ := hf (t.getD j ndd)
    rw [h1, h2, h3]
  · rfl
theorem Wp.of_kys {t s : List Nd} {lo hi : Int} (h : Wp t lo hi) (e : kys s = kys t) : Wp s lo hi := by
  obtain ⟨rs, h1, h2⟩ := h
  exact ⟨rs, by rw [e]; exact h1, h2⟩
theorem Wp.nil {lo hi : Int} (h : lo ≤ hi) : Wp [] lo hi := ⟨[], Sp.nil, h⟩
theorem Wp.le {t : List Nd} {lo hi : Int} (h : Wp t lo hi) : lo ≤ hi := by
  obtain ⟨rs, _, h2⟩ := h
  exact sq_le _ _ _ h2
theorem Wp.app {t s : List Nd} {lo mi hi : Int} (h : Wp t lo mi) (g : Wp s mi hi) : Wp (t ++ s) lo hi := by
  obtain ⟨rs, h1, h2⟩ := h
  obtain ⟨qs, g1, g2⟩ := g
  exact ⟨rs ++ qs, by rw [kys_app]; exact h1.app g1, sq_app h2 g2⟩
theorem Wp.lo {t : List Nd} {lo lo' hi : Int} (h : Wp t lo hi) (hl : lo' ≤ lo) : Wp t lo' hi := by
  obtain ⟨rs, h1, h2⟩ := h
  exact ⟨rs, h1, sq_lo h2 hl⟩
/-- The i-th root bears the i-th span. -/
theorem Sp.root : ∀ (l : List (Int × Int × Int)) (rs : List (Int × Int)) (i : Nat) (r : Int × Int), Sp l rs → rs[i]? = some r → ∃ k, l[sk (l.map (·.1)) i]? = some (k, r.1, r.2)
  | [], rs, i, r, h, hr => by cases h; cases hr
  | x :: l, rs, i, r, h, hr => by
    obtain ⟨ks, qs, h1, h2, h3, rfl⟩ := h.tail
    cases i with
    | zero =>
      cases hr
      exact ⟨x.1, by rw [sk_zero]; rfl⟩
    | succ i =>
      have h4 : (ks ++ qs)[ks.length + i]? = some r := by rw [List.getElem?_append_right (by omega), Nat.add_sub_cancel_left]; exact hr
      obtain ⟨k, hk⟩ := Sp.root l (ks ++ qs) (ks.length + i) r h1 h4
      refine ⟨k, ?_⟩
      show (x :: l)[sk (x.1 :: l.map (·.1)) (i + 1)]? = _
      rw [sk_eq, show i + x.1.toNat = ks.length + i by rw [h2]; omega, Nat.add_comm 1, List.getElem?_cons_succ]
      exact hk
theorem sq_last : ∀ {lo : Int} {l : List (Int × Int)} {hi b t : Int}, sq lo (l ++ [(b, t)]) hi → sq lo (l ++ [(b, t)]) t ∧ t ≤ hi
  | lo, [], hi, b, t, h => ⟨⟨h.1, h.2.1, Int.le_refl _⟩, h.2.2⟩
  | lo, x :: l, hi, b, t, h => by
    obtain ⟨h1, h2⟩ := sq_last (l := l) h.2.2
    exact ⟨⟨h.1, h.2.1, h1⟩, h2⟩
/-- A node over a forest. -/
theorem Wp.head {k : List Nd} {lo e : Int} (h : Wp k lo e) (nm : ByteArray) : Wp (hed nm k e :: k) lo e := by
  obtain ⟨rs, h1, h2⟩ := h
  have hr := h1.fo
  have hA : rA (kds k) 0 = rs.length := Fo.top hr
  have hkey : kys (hed nm k e :: k) = ((rs.length : Int), hfr k e, hto k e rs.length) :: kys k := by
    show ((hed nm k e).kd, (hed nm k e).fr, (hed nm k e).tt) :: kys k = _
    unfold hed
    rw [hA]
  have key : wel (hfr k e) (hto k e rs.length) rs ∧ lo ≤ hfr k e ∧ hto k e rs.length ≤ e := by
    cases k with
    | nil =>
      cases h1
      have h3 : lo ≤ e := h2
      exact ⟨⟨Int.le_refl _, fun h => absurd rfl h⟩, h3, Int.le_refl _⟩
    | cons x k =>
      obtain ⟨ks, qs, g1, g2, g3, rfl⟩ := (show Sp ((x.kd, x.fr, x.tt) :: kys k) rs from h1).tail
      dsimp only at g2 g3 h1 h2 hr hA hkey ⊢
      have hf : hfr (x :: k) e = x.fr := by unfold hfr; rw [if_neg (by simp)]; rfl
      rcases List.eq_nil_or_concat ((x.fr, x.tt) :: qs) with h0 | ⟨q, ⟨b, t⟩, hq⟩
      · cases h0
      · rw [List.concat_eq_append] at hq
        have hlen : ((x.fr, x.tt) :: qs).length - 1 = q.length := by rw [hq, List.length_append]; rfl
        obtain ⟨kk, hk⟩ := Sp.root _ _ q.length (b, t) h1 (by rw [hq, List.getElem?_append_right (Nat.le_refl _), Nat.sub_self]; rfl)
        have ht : hto (x :: k) e ((x.fr, x.tt) :: qs).length = t := by
          unfold hto
          rw [if_neg (by simp), hlen]
          unfold wA
          rw [List.drop_zero, Nat.zero_add, ← kys_kds]
          have hlt : sk ((kys (x :: k)).map (·.1)) q.length < (x :: k).length := by
            have h8 := (List.getElem?_eq_some_iff.1 hk).1
            unfold kys at h8
            rw [List.length_map] at h8
            exact h8
          have h9 : (kys (x :: k))[sk ((kys (x :: k)).map (·.1)) q.length]? = some (((x :: k).getD (sk ((kys (x :: k)).map (·.1)) q.length) ndd).kd, ((x :: k).getD (sk ((kys (x :: k)).map (·.1)) q.length) ndd).fr, ((x :: k).getD (sk ((kys (x :: k)).map (·.1)) q.length) ndd).tt) := by
            generalize sk ((kys (x :: k)).map (·.1)) q.length = j at hlt ⊢
            unfold kys
            rw [List.getElem?_map, List.getElem?_eq_getElem hlt, List.getD_eq_getElem?_getD, List.getElem?_eq_getElem hlt]
            rfl
          rw [h9] at hk
          injection hk with hk
          injection hk with _ hk
          injection hk with _ hk
        rw [ht, hf]
        rw [hq] at h2 ⊢
        obtain ⟨s1, s2⟩ := sq_last h2
        rw [← hq] at s1 ⊢
        have s3 : sq x.fr ((x.fr, x.tt) :: qs) t := ⟨Int.le_refl _, s1.2.1, s1.2.2⟩
        refine ⟨⟨sq_le _ _ _ s3, fun _ => ⟨⟨_, _, rfl⟩, ⟨b, q, hq⟩, s3⟩⟩, s1.1, s2⟩
  refine ⟨[(hfr k e, hto k e rs.length)], ?_, key.2.1, key.1.1, key.2.2⟩
  rw [hkey]
  exact Sp.cons _ _ _ _ rs [] (by rw [List.append_nil]; exact h1) rfl key.1
theorem gfl_kys (s : ByteArray) (x : Nd) : (gfl s x).kd = x.kd ∧ (gfl s x).fr = x.fr ∧ (gfl s x).tt = x.tt := by unfold gfl; split <;> exact ⟨rfl, rfl, rfl⟩
theorem Wp.part {k : List Nd} {lo e : Int} (h : Wp k lo e) (Te : List Td) (Sy : List Sd) (r : Rf) : Wp (part Te Sy r k e) lo e := by
  have hx : Wp (prx Te Sy r k e) lo e := by
    unfold prx
    split
    · exact h
    · split
      · exact h.of_kys (kys_rtm (f := cal r.2.2) (fun _ => ⟨rfl, rfl, rfl⟩) _ _)
      · exact h.head _
  unfold Go.Proofs.Ytcfmpmhdjkchjaa.part
  split
  · exact Wp.nil h.le
  · unfold prf
    split
    · exact hx
    · exact hx.of_kys (kys_rtm (gfl_kys _) _ _)
/-- Lists one behind the other. -/
theorem Wp.pts {ks : List (List Nd)} {es : List Int} (Te : List Td) (Sy : List Sd) (rs : List Rf) : ∀ (i : Nat), (∀ j, j < i → Wp (ks.getD j []) (es.getD j 0) (es.getD (j + 1) 0)) → Wp (pts Te Sy rs ks es i) (es.getD 0 0) (es.getD i 0)
  | 0, _ => Wp.nil (Int.le_refl _)
  | i + 1, h => (Wp.pts Te Sy rs i fun j hj => h j (by omega)).app ((h i (by omega)).part Te Sy _)
theorem Wp.rdc {ks : List (List Nd)} {es : List Int} (Te : List Td) (Sy : List Sd) (P : List Pd) (z : Int) (n : Nat) (hn : (P.getD z.toNat pfd).2.2.length = n) (h : ∀ j, j < n → Wp (ks.getD j []) (es.getD j 0) (es.getD (j + 1) 0)) (hle : es.getD 0 0 ≤ es.getD n 0) : Wp (rdc Te Sy P z ks es) (es.getD 0 0) (es.getD n 0) := by
  have hp := Wp.pts Te Sy (P.getD z.toNat pfd).2.2 n h
  unfold Go.Proofs.Ytcfmpmhdjkchjaa.rdc
  split
  · unfold red
    rw [hn]
    split
    · exact hp.head _
    · exact hp
  · exact Wp.nil hle
theorem Wp.tkn {lo fr tt : Int} (Te : List Td) (z lf : Int) (h1 : lo ≤ fr) (h2 : fr ≤ tt) : Wp (tkn Te z lf fr tt) lo tt := by
  unfold Go.Proofs.Ytcfmpmhdjkchjaa.tkn
  split
  · exact Wp.nil (by omega)
  · exact ⟨[(fr, tt)], Sp.cons 0 fr tt [] [] [] Sp.nil rfl ⟨h2, fun h => absurd rfl h⟩, h1, h2, Int.le_refl _⟩
/-- Entries well placed, one behind the other. -/
def chs : Int → List Ep → Int → Prop
  | lo, [], hi => lo ≤ hi
  | lo, x :: l, hi => Wp x.2.1 lo x.2.2 ∧ chs x.2.2 l hi
def lsf (lo : Int) (S : List Ep) : Int := match S.getLast? with
  | none => lo
  | some x => x.2.2
theorem lsf_cons (lo : Int) (x : Ep) (l : List Ep) : lsf lo (x :: l) = lsf x.2.2 l := by
  unfold lsf
  cases l with
  | nil => rfl
  | cons y l => rw [List.getLast?_cons_cons]; cases h : (y :: l).getLast? with
    | none => rw [List.getLast?_eq_none_iff] at h; cases h
    | some a => rfl
theorem lst_lsf (S : List Ep) : lst S = lsf 0 S := rfl
theorem chs_app : ∀ (lo : Int) (A K : List Ep) (hi : Int), chs lo (A ++ K) hi → chs lo A (lsf lo A) ∧ chs (lsf lo A) K hi
  | lo, [], K, hi, h => ⟨Int.le_refl _, h⟩
  | lo, x :: A, K, hi, h => by
    obtain ⟨h1, h2⟩ := chs_app x.2.2 A K hi h.2
    rw [lsf_cons]
    exact ⟨⟨h.1, h1⟩, h2⟩
theorem chs_join : ∀ (lo : Int) (A K : List Ep) (hi : Int), chs lo A (lsf lo A) → chs (lsf lo A) K hi → chs lo (A ++ K) hi
  | lo, [], K, hi, _, h => h
  | lo, x :: A, K, hi, h, g => by
    rw [lsf_cons] at h g
    exact ⟨h.1, chs_join x.2.2 A K hi h.2 g⟩
theorem chs_le : ∀ (lo : Int) (S : List Ep) (hi : Int), chs lo S hi → lo ≤ hi
  | _, [], _, h => h
  | _, _ :: l, _, h => Int.le_trans h.1.le (chs_le _ l _ h.2)
theorem chs_at : ∀ (K : List Ep) (lo hi : Int), chs lo K hi → (∀ j, j < K.length → Wp ((K.map (·.2.1)).getD j []) ((lo :: K.map (·.2.2)).getD j 0) ((lo :: K.map (·.2.2)).getD (j + 1) 0)) ∧ (lo :: K.map (·.2.2)).getD K.length 0 ≤ hi ∧ lo ≤ (lo :: K.map (·.2.2)).getD K.length 0
  | [], lo, hi, h => ⟨(fun j hj => absurd hj (Nat.not_lt_zero j)), h, Int.le_refl _⟩
  | x :: K, lo, hi, h => by
    obtain ⟨h1, h2, h3⟩ := chs_at K x.2.2 hi h.2
    refine ⟨fun j hj => ?_, h2, Int.le_trans h.1.le h3⟩
    cases j with
    | zero => exact h.1
    | succ j => exact h1 j (by rw [List.length_cons] at hj; omega)
/-- What TreeCovers asks of a maker's stack. -/
theorem kp_chs (Te : List Td) (Sy : List Sd) (P : List Pd) : Kp Te Sy P (fun S _ p => chs 0 S (p : Int)) where
  z := Int.le_refl _
  tok := fun S tk p z pad len h _ _ => by
    have h' : chs 0 (S ++ []) (p : Int) := by rw [List.append_nil]; exact h
    obtain ⟨h1, h2⟩ := chs_app 0 S [] p h'
    have h3 : lsf 0 S ≤ (p : Int) := h2
    refine chs_join 0 S _ _ h1 ⟨Wp.tkn Te _ _ (by omega) (by omega), Int.le_refl _⟩
  red := fun A K tk p q h _ _ hK => by
    obtain ⟨h1, h2⟩ := chs_app 0 A K p h
    obtain ⟨h3, h4, h5⟩ := chs_at K _ _ h2
    refine chs_join 0 A _ _ h1 ⟨?_, h4⟩
    have hl : (P.getD q pfd).2.2.length = K.length := by have := congrArg List.length hK; rw [List.length_map, List.length_map] at this; exact this.symm
    exact Wp.rdc Te Sy P (q : Int) K.length hl h3 h5
end Go.Proofs.Ytcfmpmhdjkchjaa
