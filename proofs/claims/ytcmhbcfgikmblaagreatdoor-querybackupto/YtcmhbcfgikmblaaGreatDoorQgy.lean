import Derived.Test.YtcmhbcfgikmblaaGreatDoorQsb
import Derived.Test.YtcmhbcfgikmblaaGreatDoorFlt
import Derived.Test.YtcmhbcfgikmblaaGreatDoorSpf
import Derived.Test.YtcmhbcfgikmblaaGreatDoorQyo
import Derived.Test.YtcmhbcfgikmblaaGreatDoorQrk
import Derived.Test.YtcmhbcfgikmblaaGreatDoorQwe
namespace Go.Proofs.YtcmhbcfgikmblaaGreatDoor.Qy
open Go.RowKit Go.Maps

/-- Names among the words are names. -/
def SW (ws : List Wd) : Prop := ∀ x ∈ ws, x.k = 1 → snm x.t = true
theorem SW.suf {a b : List Wd} (h : SW b) (hs : a <:+ b) : SW a := fun x hx => h x (hs.mem hx)
theorem tl_suf (s : Rs) : (tl s).ws <:+ s.ws := List.tail_suffix _
theorem drop_suf {n : Nat} (l : List Wd) : l.drop n <:+ l := List.drop_suffix _ _
theorem nmA_nm {s : Rs} (h : nmA s = true) (hs : SW s.ws) : nmN (bs (hd s).t) = true ∧ bs (hd s).t ≠ ⟨#[]⟩ := by
  unfold nmA hd at h
  rw [Bool.and_eq_true] at h
  have h1 : (s.ws.headD w0).k = 1 := by simpa using h.1
  have h2 : (s.ws.headD w0).t ≠ [95] := by simpa using h.2
  unfold hd
  obtain ⟨ws, ns, cs, co⟩ := s
  simp only at *
  cases ws with
  | nil => simp [w0] at h1
  | cons x l =>
    simp only [List.headD_cons] at h1 h2 ⊢
    have h3 := hs x (by simp) h1
    have h4 : x.t ≠ [] := by
      intro e; rw [e] at h3; simp [snm] at h3
    have h5 : bs x.t ≠ ⟨#[95]⟩ := by
      intro e
      unfold bs at e
      injection e with e
      exact h2 (by have := congrArg Array.toList e; simpa using this)
    have h6 : bs x.t ≠ ⟨#[]⟩ := by
      intro e
      unfold bs at e
      injection e with e
      exact h4 (by have := congrArg Array.toList e; simpa using this)
    refine ⟨?_, h6⟩
    unfold nmN
    rw [decide_eq_false h6, decide_eq_false h5]
    simpa [bs] using h3
theorem cap_miss {l : List Pn} {t : ByteArray} (h : cap l t = -1) (h0 : t ≠ ⟨#[]⟩) : ∀ n ∈ l, n.cp ≠ t := by
  unfold cap at h
  rw [if_neg h0] at h
  suffices H : ∀ (l : List Pn) (k : Nat), ixc l t k = -1 → ∀ n ∈ l, n.cp ≠ t from H l 0 h
  intro l
  induction l with
  | nil => intro k _ n hn; cases hn
  | cons a l ih =>
    intro k h n hn
    unfold ixc at h
    by_cases ha : a.cp = t
    · rw [if_pos ha] at h; omega
    · rw [if_neg ha] at h
      rcases List.mem_cons.1 hn with rfl | hn
      · exact ha
      · exact ih _ h n hn
theorem pw_new {L : List Pn} {i : Nat} {x : Pn} (hx : ∀ n ∈ L, n.cp ≠ x.cp) (h : L.Pairwise Dc) : (L.set i x).Pairwise Dc := by
  rw [List.pairwise_iff_getElem] at h ⊢
  intro a b ha hb hab he
  rw [List.length_set] at ha hb
  rw [List.getElem_set, List.getElem_set] at he
  rw [List.getElem_set]
  split at he
  · next h1 =>
    split at he
    · next h2 => omega
    · exact absurd he.symm (hx _ (List.getElem_mem _))
  · next h1 =>
    rw [if_neg h1]
    split at he
    · exact absurd he (hx _ (List.getElem_mem _))
    · exact h a b ha hb hab he
/-- What a capture leaves. -/
theorem cpt_ok {s s' : Rs} {i : Nat} (h : cpt s i = (true, s')) (hs : SW s.ws) (hp : s.ns.Pairwise Dc) (hc : (s.ns.getD i pz).cp = ⟨#[]⟩) (hi : i < s.ns.length) : ∃ c, nmN c = true ∧ s'.ns = s.ns.set i { (s.ns.getD i pz) with cp := c } ∧ s'.ns.Pairwise Dc ∧ s'.ws <:+ s.ws ∧ s'.cs = s.cs ∧ s'.co = s.co := by
  unfold cpt at h
  cases h1 : se s 5 [64] with
  | false =>
    rw [h1] at h
    simp only [Bool.false_eq_true, if_false, Prod.mk.injEq, true_and] at h
    subst h
    have e : ({ (s.ns.getD i pz) with cp := (⟨#[]⟩ : ByteArray) } : Pn) = s.ns[i] := by
      rw [← hc, List.getD_eq_getElem?_getD, List.getElem?_eq_getElem hi]; rfl
    exact ⟨⟨#[]⟩, by decide, by rw [e, List.set_getElem_self], hp, List.suffix_refl _, rfl, rfl⟩
  | true =>
    rw [h1] at h
    simp only [if_true] at h
    unfold cnm at h
    cases h2 : nmA (tl s) with
    | false => rw [h2] at h; simp at h
    | true =>
      rw [h2] at h
      simp only [if_true] at h
      obtain ⟨n1, n2⟩ := nmA_nm h2 (hs.suf (tl_suf s))
      by_cases h3 : cap (tl s).ns (bs (hd (tl s)).t) = -1
      · rw [if_pos (by simp [h3])] at h
        simp only [Prod.mk.injEq, true_and] at h
        subst h
        refine ⟨_, n1, rfl, ?_, ?_, rfl, rfl⟩
        · exact pw_new (fun n hn => cap_miss h3 n2 n hn) hp
        · exact (tl_suf _).trans (tl_suf _)
      · rw [if_neg (by simp [h3])] at h
        simp at h
theorem opn_ok {s : Rs} (hs : SW s.ws) : ∃ f ws', nmN f = true ∧ ws' <:+ s.ws ∧ opn s = ⟨ws', s.ns ++ [{ pz with fd := f }], s.cs, s.co⟩ := by
  unfold opn fld
  simp only
  cases h : fdA ⟨s.ws, s.ns ++ [pz], s.cs, s.co⟩ with
  | false => exact ⟨⟨#[]⟩, s.ws, by decide, List.suffix_refl _, rfl⟩
  | true =>
    have h1 : nmA ⟨s.ws, s.ns ++ [pz], s.cs, s.co⟩ = true := by
      unfold fdA at h
      rw [Bool.and_eq_true] at h
      exact h.1
    refine ⟨_, s.ws.drop 2, (nmA_nm h1 hs).1, drop_suf _, ?_⟩
    simp [upN, List.getD_eq_getElem?_getD]
theorem rt_app : ∀ (l k : List Int) (a b : Nat), Tr.rt l = some a → Tr.rt k = some b → Tr.rt (l ++ k) = some (a + b)
  | [], k, a, b, h, hk => by
    have : a = 0 := (Option.some.inj h).symm
    subst this
    rw [List.nil_append, hk, Nat.zero_add]
  | x :: l, k, a, b, h, hk => by
    obtain ⟨q, hq, h0, h1, rfl⟩ := Tr.rt_cons h
    have := rt_app l k q b hq hk
    rw [List.cons_append]
    unfold Tr.rt
    rw [this]
    simp only
    rw [if_pos ⟨h0, by omega⟩]
    congr 1
    omega
/-- What has been read: nodes behind those that were there. -/
structure Rk (s s' : Rs) (t : List Pn) (r : Nat) : Prop where
  rt : Tr.rt (pks t) = some r
  sh : ∀ p ∈ t, nsh p = true
  ap : (s.ns ++ t).Pairwise Dc
  le : (s.ns ++ t).length ≤ 32
  su : s'.ws <:+ s.ws
  cs : s'.cs = s.cs
  co : s'.co = s.co
theorem rdP_ok : ∀ (m : Nat), (∀ s s', rdP m none s = (true, s') → SW s.ws → s.ns.Pairwise Dc → s.ns.length ≤ 32 → ∃ t, s'.ns = s.ns ++ t ∧ Rk s s' t 1) ∧
    (∀ i s s', rdP m (some i) s = (true, s') → SW s.ws → s.ns.Pairwise Dc → s.ns.length ≤ 32 → i < s.ns.length → ∃ t r, s'.ns = (s.ns ++ t).set i { (s.ns.getD i pz) with kd := (s.ns.getD i pz).kd + ((r : Nat) : Int) } ∧ Rk s s' t r) := by
  intro m
  induction m with
  | zero => exact ⟨fun s s' h => by simp [rdP] at h, fun i s s' h => by simp [rdP] at h⟩
  | succ m ih =>
    obtain ⟨ih1, ih2⟩ := ih
    constructor
    · intro s s' h hs hp hl
      unfold rdP at h
      split at h
      · simp at h
      · split at h
        · simp at h
        · next hlen =>
          split at h
          · simp at h
          · next hnd =>
            obtain ⟨f, ws', hf, hsuf, ho⟩ := opn_ok hs
            rw [ho] at h hnd
            have hs2 : SW ws' := hs.suf hsuf
            have hpw : ∀ q : Pn, q.cp = ⟨#[]⟩ → (s.ns ++ [q]).Pairwise Dc := fun q hq => by
              rw [List.pairwise_append]
              refine ⟨hp, List.pairwise_singleton _ _, fun a _ b hb he => ?_⟩
              rw [List.mem_singleton] at hb
              rw [he, hb, hq]
            split at h
            · next hk2 =>
              have e1 : upN (tl ⟨ws', s.ns ++ [{ pz with fd := f }], s.cs, s.co⟩) s.ns.length (fun p => { p with lit := true, nm := bs (hd ⟨ws', s.ns ++ [{ pz with fd := f }], s.cs, s.co⟩).t }) = ⟨ws'.tail, s.ns ++ [⟨bs (ws'.headD w0).t, true, f, ⟨#[]⟩, 0⟩], s.cs, s.co⟩ := by
                simp [upN, tl, hd, pz, List.getD_eq_getElem?_getD]
              rw [e1] at h
              obtain ⟨c, hc, g1, g2, g3, g4, g5⟩ := cpt_ok h (hs2.suf (List.tail_suffix _)) (hpw _ rfl) (by simp [List.getD_eq_getElem?_getD]) (by simp)
              simp only at g1 g3 g4 g5
              have e2 : s'.ns = s.ns ++ [⟨bs (ws'.headD w0).t, true, f, c, 0⟩] := by
                rw [g1]; simp [List.getD_eq_getElem?_getD]
              refine ⟨_, e2, ⟨by rfl, ?_, by rw [← e2]; exact g2, by simp; omega, (g3.trans (List.tail_suffix _)).trans hsuf, g4, g5⟩⟩
              intro p hpm
              rw [List.mem_singleton] at hpm
              subst hpm
              have hne : bs (ws'.headD w0).t ≠ ⟨#[]⟩ := by
                intro e
                have e' : (ws'.headD w0).t = [] := by
                  unfold bs at e
                  injection e with e
                  have := congrArg Array.toList e; simpa using this
                have hk3 : (ws'.headD w0).k = 2 := hk2
                unfold ndA se hd at hnd
                simp only at hnd
                rw [hk3, e'] at hnd
                exact hnd rfl
              unfold nsh
              simp only
              rw [hf, hc, decide_eq_false hne]
              rfl
            · next hk2 =>
              split at h
              · simp at h
              · next hk1 =>
                have e1 : ∃ nm, nmN nm = true ∧ tl (if nmA (tl ⟨ws', s.ns ++ [{ pz with fd := f }], s.cs, s.co⟩) = true then upN (tl ⟨ws', s.ns ++ [{ pz with fd := f }], s.cs, s.co⟩) s.ns.length (fun p => { p with nm := bs (hd (tl ⟨ws', s.ns ++ [{ pz with fd := f }], s.cs, s.co⟩)).t }) else tl ⟨ws', s.ns ++ [{ pz with fd := f }], s.cs, s.co⟩) = ⟨ws'.tail.tail, s.ns ++ [⟨nm, false, f, ⟨#[]⟩, 0⟩], s.cs, s.co⟩ := by
                  cases hA : nmA (tl ⟨ws', s.ns ++ [{ pz with fd := f }], s.cs, s.co⟩) with
                  | false => exact ⟨⟨#[]⟩, by decide, by simp [tl, pz]⟩
                  | true =>
                    refine ⟨_, (nmA_nm hA (hs2.suf (List.tail_suffix _))).1, ?_⟩
                    simp [upN, tl, hd, pz, List.getD_eq_getElem?_getD]
                obtain ⟨nm, hnm, e1⟩ := e1
                rw [e1] at h
                cases hc : rdP m (some s.ns.length) ⟨ws'.tail.tail, s.ns ++ [⟨nm, false, f, ⟨#[]⟩, 0⟩], s.cs, s.co⟩ with
                | mk b s1 =>
                  rw [hc] at h
                  cases b with
                  | false => simp at h
                  | true =>
                    simp only at h
                    have hsub : ws'.tail.tail <:+ ws' := (List.tail_suffix _).trans (List.tail_suffix _)
                    obtain ⟨t, r, q1, q2⟩ := ih2 _ _ _ hc (hs2.suf hsub) (hpw _ rfl) (by simp; omega) (by simp)
                    have q3 := q2.ap
                    have q4 := q2.le
                    have q5 := q2.su
                    have q6 := q2.cs
                    have q7 := q2.co
                    simp only at q1 q3 q4 q5 q6 q7
                    have e3 : s1.ns = s.ns ++ ⟨nm, false, f, ⟨#[]⟩, (r : Int)⟩ :: t := by
                      rw [q1, List.append_assoc, List.singleton_append]; simp [List.getD_eq_getElem?_getD]
                    have hp1 : s1.ns.Pairwise Dc := by
                      rw [q1]
                      refine pw_set (by simp) ?_ q3
                      simp [List.getD_eq_getElem?_getD]
                    obtain ⟨c, hc2, g1, g2, g3, g4, g5⟩ := cpt_ok h (hs2.suf (q5.trans hsub)) hp1 (by rw [e3]; simp [List.getD_eq_getElem?_getD]) (by rw [e3]; simp)
                    have e4 : s'.ns = s.ns ++ ⟨nm, false, f, c, (r : Int)⟩ :: t := by
                      rw [g1, e3]; simp [List.getD_eq_getElem?_getD]
                    refine ⟨_, e4, ⟨?_, ?_, by rw [← e4]; exact g2, ?_, ((g3.trans q5).trans hsub).trans hsuf, g4.trans q6, g5.trans q7⟩⟩
                    · show Tr.rt ((r : Int) :: pks t) = some 1
                      unfold Tr.rt
                      rw [q2.rt]
                      simp only
                      rw [if_pos ⟨by omega, by omega⟩]
                      congr 1
                      omega
                    · intro p hpm
                      rcases List.mem_cons.1 hpm with rfl | hpm
                      · unfold nsh
                        rw [hf, hc2]
                        simp [hnm]
                      · exact q2.sh p hpm
                    · simp only [List.length_append, List.length_cons, List.length_nil] at q4 ⊢
                      omega
    · intro i s s' h hs hp hl hi
      unfold rdP at h
      split at h
      · simp only [Prod.mk.injEq, true_and] at h
        subst h
        refine ⟨[], 0, ?_, ⟨rfl, fun p hp => (by cases hp), by rw [List.append_nil]; exact hp, by rw [List.append_nil]; exact hl, tl_suf s, rfl, rfl⟩⟩
        rw [List.append_nil]
        exact (set_kd s.ns i hi).symm
      · cases hc : rdP m none s with
        | mk b s1 =>
          rw [hc] at h
          cases b with
          | false => simp at h
          | true =>
            simp only at h
            obtain ⟨t1, q1, q2⟩ := ih1 _ _ hc hs hp hl
            have hiL : i < (s.ns ++ t1).length := by rw [List.length_append]; omega
            have hg0 : (s.ns ++ t1).getD i pz = s.ns.getD i pz := by
              rw [List.getD_eq_getElem?_getD, List.getD_eq_getElem?_getD, List.getElem?_append_left hi]
            have e1 : (upN s1 i fun p => { p with kd := p.kd + 1 }) = ⟨s1.ws, (s.ns ++ t1).set i { (s.ns.getD i pz) with kd := (s.ns.getD i pz).kd + 1 }, s1.cs, s1.co⟩ := by
              unfold upN; rw [q1, hg0]
            rw [e1] at h
            obtain ⟨P, hP⟩ : ∃ P, s.ns.getD i pz = P := ⟨_, rfl⟩
            rw [hP] at h hg0 ⊢
            have hpw : ((s.ns ++ t1).set i { P with kd := P.kd + 1 }).Pairwise Dc := pw_set hiL (by rw [hg0]) q2.ap
            obtain ⟨t2, r, g1, g2⟩ := ih2 i _ _ h (hs.suf q2.su) hpw (by simp only [List.length_set]; exact q2.le) (by simp only [List.length_set]; exact hiL)
            have e3 : ((s.ns ++ t1).set i { P with kd := P.kd + 1 }).getD i pz = { P with kd := P.kd + 1 } := by
              rw [List.getD_eq_getElem?_getD, List.getElem?_set_self hiL]; rfl
            have k3 := g2.ap
            have k4 := g2.le
            have k5 := g2.su
            have k6 := g2.cs
            have k7 := g2.co
            simp only at g1 k3 k4 k5 k6 k7
            rw [e3] at g1
            refine ⟨t1 ++ t2, r + 1, ?_, ⟨?_, ?_, ?_, ?_, k5.trans q2.su, k6.trans q2.cs, k7.trans q2.co⟩⟩
            · rw [g1, ← List.set_append_left _ _ hiL, List.set_set, List.append_assoc]
              simp only
              rw [show P.kd + 1 + (r : Int) = P.kd + ((r + 1 : Nat) : Int) by omega]
            · have : pks (t1 ++ t2) = pks t1 ++ pks t2 := by unfold pks; rw [List.map_append]
              rw [this, rt_app _ _ _ _ q2.rt g2.rt, Nat.add_comm]
            · intro p hpm
              rcases List.mem_append.1 hpm with hpm | hpm
              · exact q2.sh p hpm
              · exact g2.sh p hpm
            · rw [← List.append_assoc]
              have h9 := pw_set (i := i) (x := P) (by rw [List.length_append, List.length_set]; omega) (by rw [List.getD_eq_getElem?_getD, List.getElem?_append_left (by rw [List.length_set]; exact hiL), List.getElem?_set_self hiL]; rfl) k3
              rw [← List.set_append_left _ _ hiL, List.set_set, List.set_append_left _ _ hiL] at h9
              have e5 : (s.ns ++ t1).set i P = s.ns ++ t1 := by
                rw [← hg0, List.getD_eq_getElem?_getD, List.getElem?_eq_getElem hiL, Option.getD_some, List.set_getElem_self]
              rw [e5] at h9
              exact h9
            · simp only [List.length_append, List.length_set] at k4 ⊢
              omega

theorem cnm_ok {s s' : Rs} (h : cnm s true = (true, s')) : cap s.ns (bs (hd s).t) ≠ -1 ∧ s' = tl s := by
  unfold cnm at h
  cases h2 : nmA s with
  | false => rw [h2] at h; simp at h
  | true =>
    rw [h2] at h
    simp only [if_true] at h
    by_cases h3 : cap s.ns (bs (hd s).t) = -1
    · rw [if_neg (by simp [h3])] at h
      simp at h
    · rw [if_pos (by simp [h3])] at h
      simp only [Prod.mk.injEq, true_and] at h
      exact ⟨h3, h.symm⟩
theorem mst_ok {s s' : Rs} {t : List UInt8} (h : mst s t = (true, s')) : s' = tl s := by
  unfold mst at h
  cases h1 : se s 5 t with
  | false => rw [h1] at h; simp at h
  | true => rw [h1] at h; simp only [if_true, Prod.mk.injEq, true_and] at h; exact h.symm
theorem oth_ok {s : Rs} (h : (oth s).1 = true) : (oth s).2.1.ns = s.ns ∧ (oth s).2.1.cs = s.cs ∧ (oth s).2.1.co = s.co ∧ (oth s).2.1.ws <:+ s.ws ∧ ((oth s).2.2.1 = ⟨#[]⟩ ∨ (oth s).2.2.2 = ⟨#[]⟩ ∧ cap s.ns (oth s).2.2.1 ≠ -1) := by
  unfold oth at h ⊢
  split
  · exact ⟨rfl, rfl, rfl, tl_suf s, .inl rfl⟩
  · next h0 =>
    rw [if_neg h0] at h
    cases h1 : mst s [64] with
    | mk b s1 =>
      rw [h1] at h
      cases b with
      | false => simp at h
      | true =>
        simp only at h ⊢
        have e1 := mst_ok h1
        subst e1
        cases h2 : cnm (tl s) true with
        | mk b s2 =>
          rw [h2] at h
          cases b with
          | false => simp at h
          | true =>
            obtain ⟨c1, e2⟩ := cnm_ok h2
            subst e2
            exact ⟨rfl, rfl, rfl, (tl_suf _).trans (tl_suf _), .inr ⟨rfl, c1⟩⟩
theorem cnd_ok {s s' : Rs} (h : cnd s = (true, s')) : ∃ c, csh s.ns c = true ∧ s'.ns = s.ns ∧ s'.cs = s.cs ++ [c] ∧ s'.co = s.co ∧ s'.ws <:+ s.ws ∧ s.cs.length ≠ 16 := by
  unfold cnd at h
  split at h
  · simp at h
  · split at h
    · simp at h
    · next hl =>
      cases h1 : mst (tl s) [64] with
      | mk b s1 =>
        rw [h1] at h
        cases b with
        | false => simp at h
        | true =>
          simp only at h
          have e1 := mst_ok h1
          subst e1
          cases h2 : cnm (tl (tl s)) true with
          | mk b s2 =>
            rw [h2] at h
            cases b with
            | false => simp at h
            | true =>
              simp only at h
              obtain ⟨c1, e2⟩ := cnm_ok h2
              subst e2
              cases h3 : mst (tl (tl (tl s))) [61] with
              | mk b s3 =>
                rw [h3] at h
                cases b with
                | false => simp at h
                | true =>
                  simp only at h
                  have e3 := mst_ok h3
                  subst e3
                  simp only [Prod.mk.injEq] at h
                  obtain ⟨h4, h5⟩ := h
                  have hsub : (tl (tl (tl (tl s)))).ws <:+ s.ws := (((tl_suf _).trans (tl_suf _)).trans (tl_suf _)).trans (tl_suf _)
                  obtain ⟨o1, o2, o3, o4, o5⟩ := oth_ok h4
                  subst h5
                  refine ⟨_, ?_, o1, by unfold adC; rw [o2]; rfl, o3, o4.trans hsub, hl⟩
                  unfold csh
                  simp only
                  rw [decide_eq_false (show ¬ cap s.ns (bs (hd (tl (tl s))).t) = -1 from c1)]
                  rcases o5 with o5 | ⟨o5, o6⟩
                  · rw [o5]; simp
                  · rw [o5, decide_eq_false (show ¬ cap s.ns _ = -1 from o6)]; simp
theorem rdC_ok : ∀ (m : Nat) (s s' : Rs), rdC m s = (true, s') → s.cs.length ≤ 16 → (∀ c ∈ s.cs, csh s.ns c = true) → s'.ns = s.ns ∧ s'.cs.length ≤ 16 ∧ ∀ c ∈ s'.cs, csh s'.ns c = true := by
  intro m
  induction m with
  | zero =>
    intro s s' h hl hc
    simp only [rdC, Prod.mk.injEq, true_and] at h
    subst h
    exact ⟨rfl, hl, hc⟩
  | succ m ih =>
    intro s s' h hl hc
    unfold rdC at h
    split at h
    · simp only [Prod.mk.injEq, true_and] at h
      subst h
      exact ⟨rfl, hl, hc⟩
    · cases h1 : cnd s with
      | mk b s1 =>
        rw [h1] at h
        cases b with
        | false => simp at h
        | true =>
          simp only at h
          obtain ⟨c, k1, k2, k3, k4, k5, k6⟩ := cnd_ok h1
          obtain ⟨g1, g2, g3⟩ := ih s1 s' h (by rw [k3, List.length_append]; simp; omega) (fun d hd => by
            rw [k3] at hd
            rw [k2]
            rcases List.mem_append.1 hd with hd | hd
            · exact hc d hd
            · rw [List.mem_singleton] at hd; rw [hd]; exact k1)
          exact ⟨g1.trans k2, g2, g3⟩
theorem ixc_at (t : ByteArray) : ∀ (l : List Pn) (k i : Nat), i < l.length → (l.getD i pz).cp = t → (∀ j, j < i → (l.getD j pz).cp ≠ t) → ixc l t k = ((k + i : Nat) : Int)
  | [], _, _, h, _, _ => by cases h
  | n :: l, k, 0, _, e, _ => by
    have e' : n.cp = t := e
    unfold ixc
    rw [if_pos e']; simp
  | n :: l, k, i + 1, h, e, hj => by
    unfold ixc
    have hn : n.cp ≠ t := hj 0 (by omega)
    rw [if_neg hn, ixc_at t l (k + 1) i (by simpa using h) e (fun j h2 => hj (j + 1) (by omega))]
    congr 1
    omega
/-- What is read is well shaped. -/
theorem rd_shp {ws : List Wd} {s' : Rs} (h : rdA ⟨ws, [], [], 0⟩ = (true, s')) (hs : SW ws) : shp s'.ns s'.cs = true := by
  unfold rdA at h
  simp only at h
  cases h1 : rdP (2 * ws.length) none ⟨ws, [], [], 0⟩ with
  | mk b s1 =>
    rw [h1] at h
    cases b with
    | false => simp at h
    | true =>
      simp only at h
      obtain ⟨t, e1, k⟩ := (rdP_ok _).1 _ _ h1 hs List.Pairwise.nil (by simp)
      have k3 := k.ap
      have k4 := k.le
      have k6 := k.cs
      simp only [List.nil_append] at e1 k3 k4 k6
      obtain ⟨g1, g2, g3⟩ := rdC_ok _ _ _ h (by rw [k6]; simp) (fun c hc => by rw [k6] at hc; cases hc)
      have e2 : s'.ns = t := g1.trans e1
      rw [e2] at g3 ⊢
      unfold shp
      simp only [Bool.and_eq_true, decide_eq_true_eq, List.all_eq_true]
      refine ⟨k4, g2, k.rt, fun i hi => ?_, g3⟩
      have hi' : i < t.length := by simpa using hi
      have hgi : t.getD i pz = t[i] := by rw [List.getD_eq_getElem?_getD, List.getElem?_eq_getElem hi']; rfl
      unfold nat'
      rw [Bool.and_eq_true, Bool.or_eq_true, decide_eq_true_eq, decide_eq_true_eq]
      refine ⟨by rw [hgi]; exact k.sh _ (List.getElem_mem _), ?_⟩
      by_cases h0 : (t.getD i pz).cp = ⟨#[]⟩
      · exact .inl h0
      · refine .inr ?_
        unfold cap
        rw [if_neg h0, ixc_at _ t 0 i hi' rfl, Nat.zero_add]
        intro j hj he
        rw [List.pairwise_iff_getElem] at k3
        have hgj : t.getD j pz = t[j] := by rw [List.getD_eq_getElem?_getD, List.getElem?_eq_getElem (by omega)]; rfl
        have := k3 j i (by omega) hi' hj (by rw [← hgj, ← hgi]; exact he)
        exact h0 (by rw [← he, hgj]; exact this)
end Go.Proofs.YtcmhbcfgikmblaaGreatDoor.Qy
namespace Go.Proofs.YtcmhbcfgikmblaaGreatDoor
open Go.RowKit Go.Maps

theorem jna_len (l : List Wd) (i : Nat) : (jna (l.take i)).length ≤ (jna l).length := by
  induction l generalizing i with
  | nil => simp
  | cons x r ih =>
    cases i with
    | zero => simp [jna]
    | succ i =>
      rw [List.take_succ_cons]
      cases r with
      | nil => simp
      | cons y r =>
        cases i with
        | zero =>
          simp only [List.take_zero, jna, List.length_append, List.length_cons]
          omega
        | succ i =>
          have h := ih (i + 1)
          rw [List.take_succ_cons] at h ⊢
          simp only [jna, List.length_append, List.length_cons] at h ⊢
          omega

/-- A word as it is read: what its kind does not use is zero. -/
def nrm (x : Wd) : Wd := ⟨x.k, if x.k = 4 then [] else x.t, if x.k = 4 then x.n else 0, 0⟩
/-- What stands behind a word that is joined. -/
def Beh (r : List UInt8) : Prop := r = [] ∨ ∃ u, r = 32 :: u
theorem Beh.tw {r : List UInt8} (h : Beh r) (p : Int → Bool) (hp : p 32 = false) : tw p r = 0 := by
  rcases h with rfl | ⟨u, rfl⟩
  · rfl
  · show (if p (nI 32) then _ else _) = _
    rw [show nI 32 = 32 from rfl, hp]
    rfl
theorem rg_app : ∀ (l r : List UInt8) (c : Bool) (o n : Nat), rg c l o = some n → rg c (l ++ r) o = some n := by
  intro l r
  induction l with
  | nil => intro c o n e; cases c <;> simp [rg] at e
  | cons x t ih =>
    intro c o n e
    rw [List.cons_append]
    cases c
    · simp only [rg] at e ⊢
      split at e
      · rename_i h1; rw [if_pos h1]; exact e
      · rename_i h1
        rw [if_neg h1]
        split at e
        · cases e
        · rename_i h2
          rw [if_neg h2]
          split at e
          · rename_i h3; rw [if_pos h3]; exact ih _ _ _ e
          · rename_i h3; rw [if_neg h3]; exact ih _ _ _ e
    · simp only [rg] at e ⊢
      split at e
      · cases e
      · rename_i h1; rw [if_neg h1]; exact ih _ _ _ e
theorem dgt_hx : ∀ n : Fin 16, hxv (nI (dgt n.val)) = (n.val : Int) := by decide +kernel
theorem st_wrt (x : UInt8) (u : List UInt8) (o : Nat) (a : List UInt8) : st 0 0 (wrt x ++ u) o a = st 0 0 u (o + (wrt x).length) (a ++ [x]) := by
  unfold wrt
  split
  · rename_i h; subst h; rfl
  · split
    · rename_i h; subst h; rfl
    · split
      · rename_i h; subst h; rfl
      · split
        · rename_i h; subst h; rfl
        · split
          · rename_i h; subst h; rfl
          · rename_i h34 h92 h10 h9 h13
            split
            · have hx := UInt8.toNat_lt x
              have e1 := dgt_hx ⟨x.toNat / 16, by omega⟩
              have e2 := dgt_hx ⟨x.toNat % 16, by omega⟩
              simp only at e1 e2
              have n1 : ¬ (((x.toNat / 16 : Nat) : Int)) = -1 := by omega
              have n2 : ¬ (((x.toNat % 16 : Nat) : Int)) = -1 := by omega
              have b1 : nI 92 = 92 := rfl
              have b2 : nI 120 = 120 := rfl
              simp only [List.cons_append, List.nil_append, st, b1, b2, e1, e2, n1, n2, if_true, if_false]
              have e3 : ub (16 * ((x.toNat / 16 : Nat) : Int) + ((x.toNat % 16 : Nat) : Int)) = x := by
                unfold ub
                have : (16 * ((x.toNat / 16 : Nat) : Int) + ((x.toNat % 16 : Nat) : Int)).toNat = x.toNat := by omega
                rw [this]
                simp
              rw [if_neg (by decide), if_neg (by decide), e3]
              rfl
            · have m1 : ¬ nI x = 34 := fun e => h34 (nI_inj (y := 34) e)
              have m2 : ¬ nI x = 10 := fun e => h10 (nI_inj (y := 10) e)
              have m3 : ¬ nI x = 92 := fun e => h92 (nI_inj (y := 92) e)
              simp only [List.cons_append, List.nil_append, st, m1, m2, m3, if_false]
              rfl
theorem st_flat (t u : List UInt8) (o : Nat) (a : List UInt8) : st 0 0 (t.flatMap wrt ++ u) o a = st 0 0 u (o + (t.flatMap wrt).length) (a ++ t) := by
  induction t generalizing o a with
  | nil => simp
  | cons x t ih =>
    rw [List.flatMap_cons, List.append_assoc, st_wrt, ih, List.length_append, List.append_assoc, Nat.add_assoc]
    rfl
theorem dec_dig (u : Nat) : (∀ x ∈ Lib.decDigits u, isD (nI x) = true) ∧ 0 < (Lib.decDigits u).length := by
  induction u using Nat.strongRecOn with
  | ind u ih =>
    have hd : ∀ d, d < 10 → isD (nI (UInt8.ofNat (48 + d))) = true := by
      intro d hd
      have : nI (UInt8.ofNat (48 + d)) = ((48 + d : Nat) : Int) := by
        unfold nI
        simp
        omega
      rw [this]
      unfold isD
      simp
      omega
    rw [Lib.decDigits]
    split
    · rename_i h
      exact ⟨fun x hx => by rw [List.mem_singleton] at hx; rw [hx]; exact hd u h, by simp⟩
    · rename_i h
      have h1 := ih (u / 10) (by omega)
      refine ⟨fun x hx => ?_, by simp⟩
      rcases List.mem_append.1 hx with h2 | h2
      · exact h1.1 x h2
      · rw [List.mem_singleton] at h2; rw [h2]; exact hd _ (by omega)
theorem dec_val (u : Nat) (hu : u ≤ 65535) : nvf 0 (Lib.decDigits u) = (u : Int) := by
  induction u using Nat.strongRecOn with
  | ind u ih =>
    have hd : ∀ d, d < 10 → nI (UInt8.ofNat (48 + d)) = ((48 + d : Nat) : Int) := by
      intro d hd
      unfold nI
      simp
      omega
    rw [Lib.decDigits]
    split
    · rename_i h
      show min (10 * 0 + (nI (UInt8.ofNat (48 + u)) - 48)) 65536 = _
      rw [hd u h]
      omega
    · rename_i h
      rw [nvf_snoc, ih (u / 10) (by omega) (by omega), hd _ (by omega)]
      omega
theorem isS_out {b : Int} (h : isS b = true) : isL b = false ∧ isD b = false ∧ ¬ b = 34 ∧ ¬ b = 47 := by
  simp only [isS, Bool.or_eq_true, beq_iff_eq] at h
  rcases h with (((((((((((rfl | rfl) | rfl) | rfl) | rfl) | rfl) | rfl) | rfl) | rfl) | rfl) | rfl) | rfl) | rfl <;> exact ⟨by decide, by decide, by decide, by decide⟩
/-- What is spelt is read. -/
theorem lx_spl (x : Wd) (h : snd x = true) (r : List UInt8) (hr : Beh r) : lx (spl x ++ r) = .inr (nrm x, (spl x).length) := by
  obtain ⟨k, t, n, a⟩ := x
  have hs : spl ⟨k, t, n, a⟩ = if k = 4 then Lib.itoa n else if k = 3 then 47 :: (t ++ [47]) else if k = 2 then qt t else t := by
    unfold spl
    rw [if_neg (by rw [h]; decide)]
  rw [hs]
  unfold snd at h
  simp only at h
  unfold nrm
  simp only
  by_cases k1 : k = 1
  · subst k1
    rw [if_pos rfl] at h
    simp only [show ¬ (1 : Int) = 4 by decide, show ¬ (1 : Int) = 3 by decide, show ¬ (1 : Int) = 2 by decide, if_false]
    unfold snm at h
    simp only [Bool.and_eq_true, decide_eq_true_eq, Bool.not_eq_true'] at h
    obtain ⟨h0, h1, h2, h3⟩ := h
    rw [List.all_eq_true] at h3
    cases t with
    | nil => simp at h0
    | cons y t =>
      have h2' : isD (nI y) = false := h2
      have hL : isL (nI y) = true := by
        have := h3 y (by simp)
        unfold isN at this
        rw [h2', Bool.or_false] at this
        exact this
      have htw : tw isN ((y :: t) ++ r) = (y :: t).length := by rw [tw_app isN _ _ h3, hr.tw isN (by decide), Nat.add_zero]
      rw [List.cons_append] at htw ⊢
      simp only [lx, hL, if_true, htw]
      rw [if_neg (by omega), ← List.cons_append, List.take_left' rfl]
  · rw [if_neg k1] at h
    by_cases k2 : k = 2
    · subst k2
      simp only [show ¬ (2 : Int) = 4 by decide, show ¬ (2 : Int) = 3 by decide, if_false, if_true]
      unfold qt
      rw [List.cons_append, List.cons_append, List.append_assoc]
      have e1 : isL (34 : Int) = false := by decide
      have e2 : isD (34 : Int) = false := by decide
      have e3 : nI 34 = 34 := rfl
      have e4 : st 0 0 (t.flatMap wrt ++ ([34] ++ r)) 1 [] = .inr (t, 1 + (t.flatMap wrt).length + 1) := by
        rw [st_flat]
        simp [st, e3]
      simp only [lx, e1, e2, e3, e4, Bool.false_eq_true, if_false, if_true]
      congr 2
      simp
      omega
    · rw [if_neg k2] at h
      by_cases k3 : k = 3
      · subst k3
        rw [if_pos rfl] at h
        simp only [show ¬ (3 : Int) = 4 by decide, if_false, if_true]
        unfold srx at h
        rw [decide_eq_true_eq] at h
        have h2 := rg_app _ r _ _ _ h
        rw [List.cons_append]
        have e1 : isL (47 : Int) = false := by decide
        have e2 : isD (47 : Int) = false := by decide
        have e3 : nI 47 = 47 := rfl
        have e4 : ¬ (47 : Int) = 34 := by decide
        simp only [lx, e1, e2, e3, e4, h2, Bool.false_eq_true, if_false, if_true]
        rw [List.append_assoc, show t.length + 2 - 2 = t.length by omega, List.take_left' rfl]
        congr 2
        simp
      · rw [if_neg k3] at h
        by_cases k4 : k = 4
        · subst k4
          rw [if_pos rfl] at h
          simp only [if_true]
          simp only [Bool.and_eq_true, decide_eq_true_eq] at h
          obtain ⟨u, rfl⟩ : ∃ u : Nat, n = (u : Int) := ⟨n.toNat, by omega⟩
          rw [Lib.itoa_nonneg]
          have hd := dec_dig u
          have hv := dec_val u (by omega)
          obtain ⟨D, hD⟩ : ∃ D, Lib.decDigits u = D := ⟨_, rfl⟩
          rw [hD] at hd hv ⊢
          cases D with
          | nil => simp at hd
          | cons y t' =>
            have hy := hd.1 y (by simp)
            obtain ⟨_, _, hyl⟩ := lt_D hy
            have htw : tw isD ((y :: t') ++ r) = (y :: t').length := by rw [tw_app isD _ _ hd.1, hr.tw isD (by decide), Nat.add_zero]
            have htk : ((y :: t') ++ r).take (y :: t').length = y :: t' := List.take_left' rfl
            rw [List.cons_append] at htw htk ⊢
            simp only [lx, hyl, hy, htw, htk, hv, Bool.false_eq_true, if_false, if_true]
            rw [if_neg (by omega)]
        · rw [if_neg k4] at h
          by_cases k5 : k = 5
          · subst k5
            rw [if_pos rfl] at h
            simp only [show ¬ (5 : Int) = 4 by decide, show ¬ (5 : Int) = 3 by decide, show ¬ (5 : Int) = 2 by decide, if_false]
            unfold ssg at h
            rw [Bool.and_eq_true, decide_eq_true_eq] at h
            match t, h with
            | [y], h =>
              have hy : isS (nI y) = true := h.2
              obtain ⟨q1, q2, q3, q4⟩ := isS_out hy
              rw [List.singleton_append]
              simp only [lx, q1, q2, q3, q4, hy, Bool.false_eq_true, if_false, if_true]
              rfl
          · rw [if_neg k5] at h
            cases h
end Go.Proofs.YtcmhbcfgikmblaaGreatDoor
namespace Go.Proofs.YtcmhbcfgikmblaaGreatDoor
open Go.RowKit Go.Maps

theorem lx_nb {x : UInt8} {t : List UInt8} {w : Wd} {n : Nat} (h : lx (x :: t) = .inr (w, n)) : isB (nI x) = false ∧ ¬ nI x = 35 := by
  have hB : ∀ b : Int, isB b = true ∨ b = 35 → isL b = false ∧ isD b = false ∧ (¬ b = 34) ∧ (¬ b = 47) ∧ isS b = false := by
    intro b hb
    simp only [isB, Bool.or_eq_true, beq_iff_eq] at hb
    rcases hb with (((rfl | rfl) | rfl) | rfl) | rfl <;> exact ⟨by decide, by decide, by decide, by decide, by decide⟩
  by_cases hc : isB (nI x) = true ∨ nI x = 35
  · obtain ⟨h1, h2, h3, h4, h5⟩ := hB _ hc
    simp only [lx, h1, h2, h3, h4, h5, Bool.false_eq_true, if_false] at h
    cases h
  · refine ⟨?_, fun e => hc (.inr e)⟩
    cases hb : isB (nI x) with
    | false => rfl
    | true => exact absurd (.inl hb) hc
/-- The words that are read of joined ones. -/
def plc : Nat → List Wd → List Wd
  | _, [] => []
  | k, x :: r => { nrm x with a := (k : Int) } :: plc (k + (spl x).length + 1) r
theorem cut_one (k : Nat) (x : Wd) (h : snd x = true) (r : List UInt8) (hr : Beh r) : cut k (spl x ++ r) = cns { nrm x with a := (k : Int) } (cut (k + (spl x).length) r) := by
  have hl := lx_spl x h r hr
  have hp := lx_pos hl
  cases hs : spl x ++ r with
  | nil => rw [hs] at hl; simp [lx] at hl
  | cons y t =>
    have hl2 := hl
    rw [hs] at hl2
    obtain ⟨h1, h2⟩ := lx_nb hl2
    rw [cut_begin k y t h1 h2, hl2]
    simp only
    rw [← hs, List.drop_left' rfl]
theorem cut_join : ∀ (ws : List Wd) (k : Nat), (∀ x ∈ ws, snd x = true) → cut k (jna ws) = .inr (plc k ws)
  | [], k, _ => cut_end k (by simp [jna])
  | [x], k, h => by
    have h1 := cut_one k x (h x (by simp)) [] (.inl rfl)
    rw [List.append_nil] at h1
    show cut k (spl x) = _
    rw [h1, cut_end _ (by simp)]
    rfl
  | x :: y :: r, k, h => by
    have h1 := cut_one k x (h x (by simp)) (32 :: jna (y :: r)) (.inr ⟨_, rfl⟩)
    show cut k (spl x ++ 32 :: jna (y :: r)) = _
    rw [h1, cut_blank, cut_join (y :: r) _ (fun z hz => h z (by simp only [List.mem_cons] at hz ⊢; exact .inr hz))]
    rfl
theorem rg_last : ∀ (l : List UInt8) (c : Bool) (o n : Nat), rg c l o = some n → ∃ u, l.take (n - o) = u ++ [47] ∧ u.length + 1 = n - o := by
  intro l
  induction l with
  | nil => intro c o n e; cases c <;> simp [rg] at e
  | cons x t ih =>
    intro c o n e
    have hp := rg_pos _ _ _ _ e
    obtain ⟨m, hm⟩ : ∃ m, n - o = m + 1 := ⟨n - o - 1, by omega⟩
    have step : ∀ c', rg c' t (o + 1) = some n → ∃ u, (x :: t).take (n - o) = u ++ [47] ∧ u.length + 1 = n - o := fun c' e' => by
      obtain ⟨u, h1, h2⟩ := ih c' (o + 1) n e'
      rw [show n - (o + 1) = m by omega] at h1 h2
      exact ⟨x :: u, by rw [hm, List.take_succ_cons, h1]; rfl, by rw [List.length_cons, h2, hm]⟩
    cases c
    · simp only [rg] at e
      split at e
      · rename_i h1
        injection e with e
        have : x = 47 := nI_inj (y := 47) h1
        subst this
        exact ⟨[], by rw [show n - o = 1 by omega]; rfl, by simp; omega⟩
      · split at e
        · cases e
        · split at e
          · exact step _ e
          · exact step _ e
    · simp only [rg] at e
      split at e
      · cases e
      · exact step _ e
theorem lx_snd {l : List UInt8} {w : Wd} {n : Nat} (h : lx l = .inr (w, n)) : snd w = true ∧ nrm w = w := by
  cases l with
  | nil => simp [lx] at h
  | cons x t =>
    simp only [lx] at h
    split at h
    · rename_i hx
      split at h
      · cases h
      · rename_i hk
        injection h with h; injection h with h1 h2
        subst h1
        refine ⟨?_, rfl⟩
        have hp := tw_pos isN x t (by simp [isN, hx])
        have hle := tw_le isN (x :: t)
        obtain ⟨m, hm⟩ : ∃ m, tw isN (x :: t) = m + 1 := ⟨tw isN (x :: t) - 1, by omega⟩
        have hall := tw_all isN (x :: t)
        show snm ((x :: t).take (tw isN (x :: t))) = true
        have hlen : ((x :: t).take (tw isN (x :: t))).length = tw isN (x :: t) := by rw [List.length_take]; omega
        have h0 : ((x :: t).take (tw isN (x :: t))).getD 0 0 = x := by rw [hm, List.take_succ_cons]; rfl
        have hnd : isD (nI x) = false := by
          cases hd : isD (nI x) with
          | false => rfl
          | true => rw [(lt_D hd).2.2] at hx; cases hx
        unfold snm
        rw [hlen, h0, hnd, decide_eq_true (by omega), decide_eq_true (by omega)]
        simp only [Bool.true_and, Bool.not_false]
        rw [List.all_eq_true]
        exact hall
    · split at h
      · rename_i hd
        split at h
        · cases h
        · rename_i hk
          injection h with h; injection h with h1 h2
          subst h1
          refine ⟨?_, rfl⟩
          have hge := nvf_ge 0 ((x :: t).take (tw isD (x :: t))) (by omega) (tw_all isD (x :: t))
          show (decide (0 ≤ nvf 0 ((x :: t).take (tw isD (x :: t)))) && decide (nvf 0 ((x :: t).take (tw isD (x :: t))) ≤ 65535)) = true
          rw [decide_eq_true hge, decide_eq_true (by omega)]
          rfl
      · split at h
        · split at h
          · cases h
          · injection h with h; injection h with h1 h2
            subst h1
            exact ⟨rfl, rfl⟩
        · split at h
          · split at h
            · cases h
            · rename_i m e
              injection h with h; injection h with h1 h2
              subst h1
              refine ⟨?_, rfl⟩
              obtain ⟨u, h3, h4⟩ := rg_last _ _ _ _ e
              have h5 := rg_take _ _ _ _ (m - 1) e (by omega)
              have h6 : t.take (m - 2) = u := by
                have := congrArg (List.take (m - 2)) h3
                rw [List.take_take, Nat.min_eq_left (by omega), List.take_left' (by omega)] at this
                exact this
              show srx (t.take (m - 2)) = true
              unfold srx
              rw [h6, ← h3, h5]
              refine decide_eq_true ?_
              congr 1
              omega
          · split at h
            · rename_i hs
              injection h with h; injection h with h1 h2
              subst h1
              refine ⟨?_, rfl⟩
              show ssg [x] = true
              unfold ssg
              simp only [List.length_cons, List.length_nil, List.getD_cons_zero]
              rw [hs]
              rfl
            · cases h
theorem cut_snd : ∀ (n : Nat) (l : List UInt8) (k : Nat) (ws : List Wd), l.length ≤ n → cut k l = .inr ws → ∀ x ∈ ws, snd x = true ∧ nrm x = nop x := by
  intro n
  induction n with
  | zero =>
    intro l k ws hl h
    have : l = [] := List.length_eq_zero_iff.1 (by omega)
    subst this
    rw [cut_end k (by simp)] at h
    injection h with h
    subst h
    intro x hx
    cases hx
  | succ n ih =>
    intro l k ws hl h
    cases hm : l.drop (gp false l) with
    | nil =>
      rw [cut_end _ hm] at h
      injection h with h
      subst h
      intro x hx
      cases hx
    | cons x t =>
      have hlen : l.length - gp false l = t.length + 1 := by rw [← List.length_drop, hm]; rfl
      cases hx : lx (x :: t) with
      | inl e =>
        obtain ⟨e, o2⟩ := e
        rw [cut_err _ hm (by simp) hx] at h
        cases h
      | inr p =>
        obtain ⟨w, m⟩ := p
        have hp := lx_pos hx
        rw [cut_wrd _ hm hx] at h
        cases hc : cut (k + gp false l + m) ((x :: t).drop m) with
        | inl e => rw [hc] at h; cases h
        | inr us =>
          rw [hc] at h
          simp only [cns] at h
          injection h with h
          subst h
          intro y hy
          rcases List.mem_cons.1 hy with rfl | hy
          · obtain ⟨h1, h2⟩ := lx_snd hx
            refine ⟨h1, ?_⟩
            have h3 : nrm { w with a := ((k + gp false l : Nat) : Int) } = nrm w := rfl
            have h4 : nop { w with a := ((k + gp false l : Nat) : Int) } = nop w := rfl
            rw [h3, h4, h2]
            have h5 : (nrm w).a = 0 := rfl
            rw [h2] at h5
            unfold nop
            rw [← h5]
          · exact ih _ _ _ (by rw [List.length_drop, List.length_cons]; omega) hc y hy
theorem spl_nop {x y : Wd} (h : nop x = nop y) : spl x = spl y ∧ snd x = snd y := by
  obtain ⟨a, b, c, d⟩ := x
  obtain ⟨e, f, g, i⟩ := y
  simp only [nop, Wd.mk.injEq, and_true] at h
  obtain ⟨rfl, rfl, rfl⟩ := h
  exact ⟨rfl, rfl⟩
theorem jna_nop : ∀ (l m : List Wd), l.map nop = m.map nop → jna l = jna m ∧ l.all snd = m.all snd
  | [], [], _ => ⟨rfl, rfl⟩
  | [], _ :: _, h => by cases h
  | _ :: _, [], h => by cases h
  | [x], [y], h => by
    injection h with h1 _
    obtain ⟨h2, h3⟩ := spl_nop h1
    exact ⟨h2, by simp [h3]⟩
  | [x], y :: z :: r, h => by injection h with _ h2; cases h2
  | x :: z :: r, [y], h => by injection h with _ h2; cases h2
  | x :: z :: r, y :: z' :: r', h => by
    injection h with h1 h4
    obtain ⟨h2, h3⟩ := spl_nop h1
    obtain ⟨h5, h6⟩ := jna_nop (z :: r) (z' :: r') h4
    refine ⟨?_, ?_⟩
    · show spl x ++ 32 :: jna (z :: r) = spl y ++ 32 :: jna (z' :: r')
      rw [h2, h5]
    · show (snd x && (z :: r).all snd) = (snd y && (z' :: r').all snd)
      rw [h3, h6]
theorem plc_nop : ∀ (l : List Wd) (k : Nat), (∀ x ∈ l, nrm x = nop x) → (plc k l).map nop = l.map nop
  | [], _, _ => rfl
  | x :: r, k, h => by
    show nop { nrm x with a := (k : Int) } :: (plc _ r).map nop = nop x :: r.map nop
    rw [plc_nop r _ (fun y hy => h y (by simp [hy])), h x (by simp)]
    rfl
theorem plc_len : ∀ (l : List Wd) (k : Nat), (plc k l).length = l.length
  | [], _ => rfl
  | _ :: r, k => by rw [plc, List.length_cons, List.length_cons, plc_len r]
end Go.Proofs.YtcmhbcfgikmblaaGreatDoor
namespace Go.Proofs.YtcmhbcfgikmblaaGreatDoor.Qy
open Go.RowKit Go.Maps

/-- What a reader's step keeps: its words are the last ones, a fault has a code, texts are no longer than words. -/
structure Ok (M : Nat) (a b : Rs) (ok : Bool) : Prop where
  suf : b.ws <:+ a.ws
  co : ok = false → b.co ≠ 0
  ns : (∀ x ∈ a.ws, x.t.length ≤ M) → (∀ p ∈ a.ns, p.nm.size ≤ M) → ∀ p ∈ b.ns, p.nm.size ≤ M
  cs : (∀ x ∈ a.ws, x.t.length ≤ M) → (∀ c ∈ a.cs, c.tx.size ≤ M) → ∀ c ∈ b.cs, c.tx.size ≤ M
  wk : Wk a.ws → ok = true → Wk b.ws
theorem Ok.refl (M : Nat) (a : Rs) : Ok M a a true := ⟨List.suffix_refl _, fun h => (by cases h), fun _ h => h, fun _ h => h, fun h _ => h⟩
theorem Ok.trans {M : Nat} {a b c : Rs} {y : Bool} (h : Ok M a b true) (k : Ok M b c y) : Ok M a c y :=
  ⟨k.suf.trans h.suf, k.co, fun h1 h2 => k.ns (fun z hz => h1 z (h.suf.mem hz)) (h.ns h1 h2), fun h1 h2 => k.cs (fun z hz => h1 z (h.suf.mem hz)) (h.cs h1 h2), fun h1 h2 => k.wk (h.wk h1 rfl) h2⟩
theorem wk_tl {s : Rs} (h : Wk s.ws) (hk : (hd s).k ≠ 0) : Wk (tl s).ws ∧ (tl s).ws.length + 1 = s.ws.length := by
  obtain ⟨x, m, e⟩ := h.ne
  unfold hd at hk
  unfold tl
  simp only
  rw [e] at h hk ⊢
  exact ⟨h.tail hk, rfl⟩
theorem ok_tl (M : Nat) (s : Rs) (hk : (hd s).k ≠ 0) : Ok M s (tl s) true := ⟨List.tail_suffix _, fun h => (by cases h), fun _ h => h, fun _ h => h, fun h _ => (wk_tl h hk).1⟩
theorem ok_fl (M : Nat) (s : Rs) (c : Int) (hc : c ≠ 0) : Ok M s (fl s c) false := ⟨List.suffix_refl _, fun _ => hc, fun _ h => h, fun _ h => h, fun _ h => (by cases h)⟩
theorem se_k {s : Rs} {k : Int} {t : List UInt8} (h : se s k t = true) : (hd s).k = k := by
  unfold se at h
  simp only [Bool.and_eq_true, beq_iff_eq] at h
  exact h.1
theorem nmA_k {s : Rs} (h : nmA s = true) : (hd s).k = 1 := by
  unfold nmA at h
  simp only [Bool.and_eq_true, beq_iff_eq] at h
  exact h.1
theorem ndA_k {s : Rs} (h : ndA s = true) : (hd s).k = 5 ∨ (hd s).k = 2 := by
  unfold ndA at h
  rcases Bool.or_eq_true_iff.1 h with h | h
  · exact .inl (se_k h)
  · simp only [Bool.and_eq_true, beq_iff_eq] at h
    exact .inr h.1
theorem hd_le {M : Nat} {s : Rs} (h : ∀ x ∈ s.ws, x.t.length ≤ M) : (hd s).t.length ≤ M := by
  unfold hd
  cases hw : s.ws with
  | nil => exact Nat.zero_le _
  | cons x l => exact h x (by rw [hw]; simp)
theorem bs_size (t : List UInt8) : (bs t).size = t.length := by unfold bs; simp [ByteArray.size]
theorem ok_up {M : Nat} {a s : Rs} (h : Ok M a s true) (i : Nat) (f : Pn → Pn) (hf : (∀ x ∈ a.ws, x.t.length ≤ M) → ∀ p, p.nm.size ≤ M → (f p).nm.size ≤ M) : Ok M a (upN s i f) true := by
  refine ⟨h.suf, fun h => (by cases h), fun h1 h2 p hp => ?_, h.cs, h.wk⟩
  have h3 : p ∈ s.ns.set i (f (s.ns.getD i pz)) := hp
  rcases List.mem_or_eq_of_mem_set h3 with h4 | h4
  · exact h.ns h1 h2 p h4
  · rw [h4]
    refine hf h1 _ ?_
    by_cases hi : i < s.ns.length
    · rw [List.getD_eq_getElem?_getD, List.getElem?_eq_getElem hi]
      exact h.ns h1 h2 _ (List.getElem_mem hi)
    · rw [List.getD_eq_getElem?_getD, List.getElem?_eq_none (by omega)]
      exact Nat.zero_le _
theorem ok_cnm (M : Nat) (s : Rs) (kn : Bool) : Ok M s (cnm s kn).2 (cnm s kn).1 := by
  unfold cnm
  split
  · next hn =>
    split
    · exact ok_tl M s (by rw [nmA_k hn]; decide)
    · exact ok_fl M s 201 (by decide)
  · exact ok_fl M s 200 (by decide)
theorem ok_mst (M : Nat) (s : Rs) (t : List UInt8) : Ok M s (mst s t).2 (mst s t).1 := by
  unfold mst
  split
  · next hn => exact ok_tl M s (by rw [se_k hn]; decide)
  · exact ok_fl M s 200 (by decide)
theorem ok_cpt (M : Nat) (s : Rs) (i : Nat) : Ok M s (cpt s i).2 (cpt s i).1 := by
  unfold cpt
  split
  · next hn =>
    have h := (ok_tl M s (by rw [se_k hn]; decide)).trans (ok_cnm M (tl s) false)
    cases hq : cnm (tl s) false with
    | mk b s1 =>
      rw [hq] at h
      cases b with
      | true => exact ok_up h i (fun p => { p with cp := bs (hd (tl s)).t }) (fun _ p hp => hp)
      | false => exact h
  · exact Ok.refl M s
theorem ok_opn (M : Nat) (s : Rs) : Ok M s (opn s) true := by
  have h0 : Ok M s ⟨s.ws, s.ns ++ [pz], s.cs, s.co⟩ true := ⟨List.suffix_refl _, fun h => (by cases h), fun _ h p hp => by
    rcases List.mem_append.1 hp with h9 | h9
    · exact h p h9
    · rw [List.mem_singleton] at h9
      rw [h9]
      exact Nat.zero_le _, fun _ h => h, fun h _ => h⟩
  unfold opn fld
  split
  · next hn =>
    have h1 : Ok M (⟨s.ws, s.ns ++ [pz], s.cs, s.co⟩ : Rs) ⟨s.ws.drop 2, s.ns ++ [pz], s.cs, s.co⟩ true := ⟨List.drop_suffix _ _, fun h => (by cases h), fun _ h => h, fun _ h => h, fun h _ => by
      unfold fdA at hn
      rw [Bool.and_eq_true] at hn
      have h2 := (wk_tl h (by rw [nmA_k hn.1]; decide)).1
      have h3 := (wk_tl h2 (by rw [se_k hn.2]; decide)).1
      have e : s.ws.drop 2 = s.ws.tail.tail := by cases s.ws with | nil => rfl | cons x l => cases l <;> rfl
      show Wk (s.ws.drop 2)
      rw [e]
      exact h3⟩
    exact ok_up (h0.trans h1) _ (fun p => { p with fd := bs (hd ⟨s.ws, s.ns ++ [pz], s.cs, s.co⟩).t }) (fun _ p hp => hp)
  · exact h0
theorem ok_lt {M : Nat} {a b : Rs} {y : Bool} (h : Ok M a b y) : b.ws.length ≤ a.ws.length := h.suf.length_le
theorem ok_rdP (M : Nat) : ∀ (n : Nat), (∀ s, Wk s.ws → 2 * s.ws.length ≤ n → Ok M s (rdP n none s).2 (rdP n none s).1 ∧ ((rdP n none s).1 = true → (rdP n none s).2.ws.length < s.ws.length)) ∧ (∀ i s, Wk s.ws → 2 * s.ws.length + 1 ≤ n → Ok M s (rdP n (some i) s).2 (rdP n (some i) s).1) := by
  intro n
  induction n with
  | zero =>
    refine ⟨fun s hw hn => ?_, fun i s hw hn => by omega⟩
    obtain ⟨x, m, e⟩ := hw.ne
    rw [e] at hn
    simp at hn
  | succ n ih =>
    refine ⟨fun s hw hn => ?_, fun i s hw hn => ?_⟩
    · have ho := ok_opn M s
      have hwo := ho.wk hw rfl
      unfold rdP
      split
      · exact ⟨ok_fl M s 200 (by decide), fun h => (by cases h)⟩
      split
      · exact ⟨ok_fl M s 202 (by decide), fun h => (by cases h)⟩
      split
      · exact ⟨ho.trans (ok_fl M _ 200 (by decide)), fun h => (by cases h)⟩
      next hna =>
      have hna2 : ndA (opn s) = true := by simpa using hna
      have hk0 : (hd (opn s)).k ≠ 0 := by rcases ndA_k hna2 with h | h <;> rw [h] <;> decide
      have ht := ho.trans (ok_tl M (opn s) hk0)
      have hwt := wk_tl hwo hk0
      have hlt : (tl (opn s)).ws.length < s.ws.length := by have h1 := ok_lt ho; have h2 := hwt.2; omega
      split
      · have h1 := ok_up ht s.ns.length (fun p => { p with lit := true, nm := bs (hd (opn s)).t }) (fun hb p hp => by
          show (bs (hd (opn s)).t).size ≤ M
          rw [bs_size]
          exact hd_le (fun z hz => hb z (ho.suf.mem hz)))
        have h2 := ok_cpt M (upN (tl (opn s)) s.ns.length fun p => { p with lit := true, nm := bs (hd (opn s)).t }) s.ns.length
        refine ⟨h1.trans h2, fun _ => ?_⟩
        have h3 := ok_lt h2
        have h4 : (upN (tl (opn s)) s.ns.length fun p => { p with lit := true, nm := bs (hd (opn s)).t }).ws = (tl (opn s)).ws := rfl
        rw [h4] at h3
        omega
      split
      · exact ⟨ht.trans (ok_fl M _ 200 (by decide)), fun h => (by cases h)⟩
      next hk1 =>
      have hk2 : (hd (tl (opn s))).k ≠ 0 := by
        have : (hd (tl (opn s))).k = 1 := by simpa using hk1
        rw [this]; decide
      have hmid : Ok M s (if nmA (tl (opn s)) then upN (tl (opn s)) s.ns.length fun p => { p with nm := bs (hd (tl (opn s))).t } else tl (opn s)) true := by
        split
        · exact ok_up ht s.ns.length (fun p => { p with nm := bs (hd (tl (opn s))).t }) (fun hb p hp => by
            show (bs (hd (tl (opn s))).t).size ≤ M
            rw [bs_size]
            exact hd_le (fun z hz => hb z (ht.suf.mem hz)))
        · exact ht
      have hmw : (if nmA (tl (opn s)) then upN (tl (opn s)) s.ns.length fun p => { p with nm := bs (hd (tl (opn s))).t } else tl (opn s)).ws = (tl (opn s)).ws := by split <;> rfl
      generalize (if nmA (tl (opn s)) then upN (tl (opn s)) s.ns.length fun p => { p with nm := bs (hd (tl (opn s))).t } else tl (opn s)) = q at hmid hmw ⊢
      have hq0 : (hd q).k ≠ 0 := by
        have : hd q = hd (tl (opn s)) := by unfold hd; rw [hmw]
        rw [this]; exact hk2
      have hq1 := hmid.trans (ok_tl M q hq0)
      have hq2 := wk_tl (hmid.wk hw rfl) hq0
      have hq3 : q.ws.length < s.ws.length := by rw [hmw]; exact hlt
      have hr := (ih.2 s.ns.length (tl q) hq2.1 (by have := hq2.2; omega))
      cases he : rdP n (some s.ns.length) (tl q) with
      | mk b s1 =>
        rw [he] at hr
        cases b with
        | false => exact ⟨hq1.trans hr, fun h => (by cases h)⟩
        | true =>
          have h2 := ok_cpt M s1 s.ns.length
          refine ⟨(hq1.trans hr).trans h2, fun _ => ?_⟩
          have h3 := ok_lt h2
          have h4 := ok_lt hr
          have h5 := hq2.2
          simp only at h4 ⊢
          omega
    · unfold rdP
      split
      · next hn1 => exact ok_tl M s (by rw [se_k hn1]; decide)
      · obtain ⟨h1, h2⟩ := ih.1 s hw (by omega)
        cases he : rdP n none s with
        | mk b s1 =>
          rw [he] at h1 h2
          cases b with
          | false => exact h1
          | true =>
            have h3 := ok_up h1 i (fun p => { p with kd := p.kd + 1 }) (fun _ p hp => hp)
            have h4 : (upN s1 i fun p => { p with kd := p.kd + 1 }).ws = s1.ws := rfl
            exact h3.trans (ih.2 i _ (h3.wk hw rfl) (by rw [h4]; have := h2 rfl; simp only at this; omega))
theorem ok_oth (M : Nat) (s : Rs) : Ok M s (oth s).2.1 (oth s).1 ∧ ((∀ x ∈ s.ws, x.t.length ≤ M) → (oth s).2.2.2.size ≤ M) := by
  unfold oth
  split
  · next hk => exact ⟨ok_tl M s (by rw [hk]; decide), fun h => by rw [bs_size]; exact hd_le h⟩
  · have h := ok_mst M s [64]
    cases hq : mst s [64] with
    | mk b s1 =>
      rw [hq] at h
      cases b with
      | false => exact ⟨h, fun _ => Nat.zero_le _⟩
      | true =>
        have h2 := h.trans (ok_cnm M s1 true)
        simp only
        cases hr : cnm s1 true with
        | mk b2 s2 =>
          rw [hr] at h2
          cases b2 with
          | false => exact ⟨h2, fun _ => Nat.zero_le _⟩
          | true => exact ⟨h2, fun _ => Nat.zero_le _⟩
theorem ok_adC {M : Nat} {a b : Rs} {x : Bool} (h : Ok M a b x) (c : Cd) (hc : (∀ x ∈ a.ws, x.t.length ≤ M) → c.tx.size ≤ M) : Ok M a (adC b c) x := by
  refine ⟨h.suf, h.co, h.ns, fun h1 h2 d hd => ?_, h.wk⟩
  have h3 : d ∈ b.cs ++ [c] := hd
  rcases List.mem_append.1 h3 with h4 | h4
  · exact h.cs h1 h2 d h4
  · rw [List.mem_singleton] at h4
    rw [h4]
    exact hc h1
theorem ok_cnd (M : Nat) (s : Rs) : Ok M s (cnd s).2 (cnd s).1 := by
  unfold cnd
  split
  · exact ok_fl M s 200 (by decide)
  · next hse =>
    split
    · exact ok_fl M s 202 (by decide)
    · have hk1 : (hd s).k ≠ 0 := by
        have h9 : se s 1 [117, 110, 108, 101, 115, 115] = true ∨ se s 1 [119, 104, 101, 110] = true := by
          cases h1 : se s 1 [117, 110, 108, 101, 115, 115] with
          | true => exact .inl rfl
          | false =>
            cases h2 : se s 1 [119, 104, 101, 110] with
            | true => exact .inr rfl
            | false => rw [h1, h2] at hse; exact absurd rfl hse
        rcases h9 with h9 | h9 <;> rw [se_k h9] <;> decide
      have h := (ok_tl M s hk1).trans (ok_mst M (tl s) [64])
      cases hq : mst (tl s) [64] with
      | mk b s1 =>
        rw [hq] at h
        cases b with
        | false => exact ok_adC h _ (fun _ => Nat.zero_le _)
        | true =>
          have h2 := h.trans (ok_cnm M s1 true)
          simp only
          cases hr : cnm s1 true with
          | mk b2 s2 =>
            rw [hr] at h2
            cases b2 with
            | false => exact ok_adC h2 _ (fun _ => Nat.zero_le _)
            | true =>
              have h3 := h2.trans (ok_mst M s2 [61])
              simp only
              cases ht : mst s2 [61] with
              | mk b3 s3 =>
                rw [ht] at h3
                cases b3 with
                | false => exact ok_adC h3 _ (fun _ => Nat.zero_le _)
                | true =>
                  have h4 := h3.trans (ok_oth M s3).1
                  exact ok_adC h4 _ (fun h1 => (ok_oth M s3).2 (fun z hz => h1 z (h3.suf.mem hz)))
theorem ok_rdC (M : Nat) : ∀ (n : Nat) (s : Rs), Ok M s (rdC n s).2 (rdC n s).1
  | 0, s => Ok.refl M s
  | n + 1, s => by
    unfold rdC
    split
    · exact Ok.refl M s
    · have h := ok_cnd M s
      cases hq : cnd s with
      | mk b s1 =>
        rw [hq] at h
        cases b with
        | true => exact h.trans (ok_rdC M n s1)
        | false => exact h
theorem ok_rdA (M : Nat) (s : Rs) (hw : Wk s.ws) : Ok M s (rdA s).2 (rdA s).1 := by
  have h := (ok_rdP M (2 * s.ws.length)).1 s hw (Nat.le_refl _)
  unfold rdA
  cases he : rdP (2 * s.ws.length) none s with
  | mk b s1 =>
    rw [he] at h
    cases b with
    | false => exact h.1
    | true => exact h.1.trans (ok_rdC M _ s1)
end Go.Proofs.YtcmhbcfgikmblaaGreatDoor.Qy
namespace Go.Proofs.YtcmhbcfgikmblaaGreatDoor
open Go.RowKit Go.Maps

theorem st_place : ∀ (l : List UInt8) (m : Nat) (h : Int) (o : Nat) (a : List UInt8) (e : Nat), st m h l o a = .inl e → e ≤ o + l.length := by
  intro l
  induction l with
  | nil => intro m h o a e he; match m with
    | 0 => simp only [st, Sum.inl.injEq] at he; omega
    | m + 1 => simp only [st, Sum.inl.injEq] at he; omega
  | cons x t ih =>
    intro m h o a e he
    simp only [List.length_cons]
    match m with
    | 0 =>
      simp only [st] at he
      split at he
      · cases he
      · split at he
        · simp only [Sum.inl.injEq] at he; omega
        · split at he
          · have := ih _ _ _ _ _ he; omega
          · have := ih _ _ _ _ _ he; omega
    | 1 =>
      simp only [st] at he
      split at he
      · have := ih _ _ _ _ _ he; omega
      · split at he
        · simp only [Sum.inl.injEq] at he; omega
        · have := ih _ _ _ _ _ he; omega
    | 2 =>
      simp only [st] at he
      split at he
      · simp only [Sum.inl.injEq] at he; omega
      · have := ih _ _ _ _ _ he; omega
    | m + 3 =>
      simp only [st] at he
      split at he
      · simp only [Sum.inl.injEq] at he; omega
      · have := ih _ _ _ _ _ he; omega
theorem lx_place {l : List UInt8} {e o : Nat} (h : lx l = .inl (e, o)) : o ≤ l.length := by
  cases l with
  | nil => simp only [lx, Sum.inl.injEq, Prod.mk.injEq] at h; omega
  | cons x t =>
    simp only [lx] at h
    rw [List.length_cons]
    split at h
    · split at h
      · simp only [Sum.inl.injEq, Prod.mk.injEq] at h; omega
      · cases h
    · split at h
      · split at h
        · simp only [Sum.inl.injEq, Prod.mk.injEq] at h; omega
        · cases h
      · split at h
        · split at h
          · rename_i hst
            have := st_place _ _ _ _ _ _ hst
            simp only [Sum.inl.injEq, Prod.mk.injEq] at h; omega
          · cases h
        · split at h
          · split at h
            · simp only [Sum.inl.injEq, Prod.mk.injEq] at h; omega
            · cases h
          · split at h
            · cases h
            · simp only [Sum.inl.injEq, Prod.mk.injEq] at h; omega
theorem cut_place : ∀ (n : Nat) (l : List UInt8) (k : Nat) (c o : Nat), l.length ≤ n → cut k l = .inl (c, o) → o ≤ k + l.length := by
  intro n
  induction n with
  | zero =>
    intro l k c o hl h
    have : l = [] := List.length_eq_zero_iff.1 (by omega)
    subst this
    rw [cut_end k (by simp)] at h
    cases h
  | succ n ih =>
    intro l k c o hl h
    cases hm : l.drop (gp false l) with
    | nil =>
      rw [cut_end _ hm] at h
      cases h
    | cons x t =>
      have hlen : l.length - gp false l = t.length + 1 := by rw [← List.length_drop, hm]; rfl
      cases hx : lx (x :: t) with
      | inl e =>
        obtain ⟨e, o2⟩ := e
        have hp := lx_place hx
        rw [List.length_cons] at hp
        rw [cut_err _ hm (by simp) hx] at h
        injection h with h
        injection h with h1 h2
        omega
      | inr p =>
        obtain ⟨w, m⟩ := p
        have hp := lx_pos hx
        rw [cut_wrd _ hm hx] at h
        cases hc : cut (k + gp false l + m) ((x :: t).drop m) with
        | inl e =>
          rw [hc] at h
          simp only [cns] at h
          injection h with h
          subst h
          have h3 := ih _ _ _ _ (by rw [List.length_drop, List.length_cons]; omega) hc
          rw [List.length_drop] at h3
          have h4 := hp.2
          rw [List.length_cons] at h3 h4
          omega
        | inr us => rw [hc] at h; cases h
theorem cut_at : ∀ (n : Nat) (l : List UInt8) (k : Nat) (ws : List Wd), l.length ≤ n → cut k l = .inr ws → ∀ x ∈ ws, 0 ≤ x.a ∧ x.a ≤ ((k + l.length : Nat) : Int) := by
  intro n
  induction n with
  | zero =>
    intro l k ws hl h
    have : l = [] := List.length_eq_zero_iff.1 (by omega)
    subst this
    rw [cut_end k (by simp)] at h
    injection h with h
    subst h
    intro x hx
    cases hx
  | succ n ih =>
    intro l k ws hl h
    cases hm : l.drop (gp false l) with
    | nil =>
      rw [cut_end _ hm] at h
      injection h with h
      subst h
      intro x hx
      cases hx
    | cons x t =>
      have hlen : l.length - gp false l = t.length + 1 := by rw [← List.length_drop, hm]; rfl
      cases hx : lx (x :: t) with
      | inl e =>
        obtain ⟨e, o2⟩ := e
        rw [cut_err _ hm (by simp) hx] at h
        cases h
      | inr p =>
        obtain ⟨w, m⟩ := p
        have hp := lx_pos hx
        rw [cut_wrd _ hm hx] at h
        cases hc : cut (k + gp false l + m) ((x :: t).drop m) with
        | inl e => rw [hc] at h; cases h
        | inr us =>
          rw [hc] at h
          simp only [cns] at h
          injection h with h
          subst h
          intro y hy
          rcases List.mem_cons.1 hy with rfl | hy
          · simp only
            omega
          · have h3 := ih _ _ _ (by rw [List.length_drop, List.length_cons]; omega) hc y hy
            rw [List.length_drop, List.length_cons] at h3
            have h4 := hp.2
            rw [List.length_cons] at h4
            omega
theorem st_len : ∀ (l : List UInt8) (m : Nat) (h : Int) (o : Nat) (a a' : List UInt8) (n : Nat), st m h l o a = .inr (a', n) → a'.length + o ≤ a.length + n := by
  intro l
  induction l with
  | nil => intro m h o a a' n e; match m with
    | 0 => simp [st] at e
    | m + 1 => simp [st] at e
  | cons x t ih =>
    intro m h o a a' n e
    match m with
    | 0 =>
      simp only [st] at e
      split at e
      · injection e with e; injection e with e1 e2; subst e1; omega
      · split at e
        · simp at e
        · split at e
          · have := ih _ _ _ _ _ _ e; omega
          · have := ih _ _ _ _ _ _ e; rw [List.length_append] at this; simp at this; omega
    | 1 =>
      simp only [st] at e
      split at e
      · have := ih _ _ _ _ _ _ e; omega
      · split at e
        · simp at e
        · have := ih _ _ _ _ _ _ e; rw [List.length_append] at this; simp at this; omega
    | 2 =>
      simp only [st] at e
      split at e
      · simp at e
      · have := ih _ _ _ _ _ _ e; omega
    | m + 3 =>
      simp only [st] at e
      split at e
      · simp at e
      · have := ih _ _ _ _ _ _ e; rw [List.length_append] at this; simp at this; omega
theorem lx_tl {l : List UInt8} {w : Wd} {n : Nat} (h : lx l = .inr (w, n)) : w.t.length ≤ n := by
  cases l with
  | nil => simp [lx] at h
  | cons x t =>
    have hp := lx_pos h
    simp only [lx] at h
    split at h
    · split at h
      · cases h
      · injection h with h; injection h with h1 h2
        rw [← h1, ← h2]
        simp only [List.length_take]
        omega
    · split at h
      · split at h
        · cases h
        · injection h with h; injection h with h1 h2
          rw [← h1]
          simp
      · split at h
        · split at h
          · cases h
          · rename_i e
            injection h with h; injection h with h1 h2
            have := st_len _ _ _ _ _ _ _ e
            rw [← h1, ← h2]
            simp only [List.length_nil] at this ⊢
            omega
        · split at h
          · split at h
            · cases h
            · injection h with h; injection h with h1 h2
              rw [← h1, ← h2]
              simp only [List.length_take]
              omega
          · split at h
            · injection h with h; injection h with h1 h2
              rw [← h1, ← h2]
              simp
            · cases h
theorem cut_tl : ∀ (n : Nat) (l : List UInt8) (k : Nat) (ws : List Wd), l.length ≤ n → cut k l = .inr ws → ∀ x ∈ ws, x.t.length ≤ l.length := by
  intro n
  induction n with
  | zero =>
    intro l k ws hl h
    have : l = [] := List.length_eq_zero_iff.1 (by omega)
    subst this
    rw [cut_end k (by simp)] at h
    injection h with h
    subst h
    intro x hx
    cases hx
  | succ n ih =>
    intro l k ws hl h
    cases hm : l.drop (gp false l) with
    | nil =>
      rw [cut_end _ hm] at h
      injection h with h
      subst h
      intro x hx
      cases hx
    | cons x t =>
      have hlen : l.length - gp false l = t.length + 1 := by rw [← List.length_drop, hm]; rfl
      cases hx : lx (x :: t) with
      | inl e =>
        obtain ⟨e, o2⟩ := e
        rw [cut_err _ hm (by simp) hx] at h
        cases h
      | inr p =>
        obtain ⟨w, m⟩ := p
        have hp := lx_pos hx
        have hp2 := hp.2
        rw [List.length_cons] at hp2
        rw [cut_wrd _ hm hx] at h
        cases hc : cut (k + gp false l + m) ((x :: t).drop m) with
        | inl e => rw [hc] at h; cases h
        | inr us =>
          rw [hc] at h
          simp only [cns] at h
          injection h with h
          subst h
          intro y hy
          rcases List.mem_cons.1 hy with rfl | hy
          · have := lx_tl hx
            simp only
            omega
          · have h3 := ih _ _ _ (by rw [List.length_drop, List.length_cons]; omega) hc y hy
            rw [List.length_drop, List.length_cons] at h3
            omega
theorem cutR_place2 {s : ByteArray} {c o : Nat} (h : cutR s = .inl (c, o)) : o ≤ s.size := by
  unfold cutR at h
  by_cases hz : 16384 < s.size
  · rw [if_pos hz] at h
    injection h with h
    injection h with h1 h2
    omega
  · rw [if_neg hz] at h
    have := cut_place _ _ _ _ _ (Nat.le_refl _) h
    rw [lst_siz] at this
    omega
end Go.Proofs.YtcmhbcfgikmblaaGreatDoor
namespace Go.Proofs.YtcmhbcfgikmblaaGreatDoor.Qy
open Go.RowKit Go.Maps

/-- A word that is spelt and read as it is. -/
def SN (x : Wd) : Prop := snd x = true ∧ nrm x = nop x
theorem nm_sn {t : ByteArray} (h : nmN t = true) (h0 : t ≠ ⟨#[]⟩) : snm t.data.toList = true := by
  unfold nmN at h
  rw [decide_eq_false h0, Bool.false_or, Bool.and_eq_true] at h
  exact h.2
theorem wN_s {t : ByteArray} (h : snm t.data.toList = true) : SN (wN t) := ⟨h, rfl⟩
theorem wQ_s (t : ByteArray) : SN (wQ t) := ⟨rfl, rfl⟩
theorem wS_s {c : UInt8} (h : ssg [c] = true) : SN (wS c) := ⟨h, rfl⟩
theorem spW_s : ∀ (n k : Nat) (l : List Pn), (∀ p ∈ l, nsh p = true) → ∀ x ∈ spW n k l, SN x
  | 0, _, _, _, x, hx => by simp [spW] at hx
  | _ + 1, 0, _, _, x, hx => by simp [spW] at hx
  | _ + 1, _ + 1, [], _, x, hx => by simp [spW] at hx
  | n + 1, k + 1, p :: l, h, x, hx => by
    have hp := h p (by simp)
    have hl : ∀ y ∈ l, nsh y = true := fun y hy => h y (by simp [hy])
    unfold nsh at hp
    simp only [Bool.and_eq_true] at hp
    obtain ⟨hf, hc, hn⟩ := hp
    rw [spW_step] at hx
    rcases List.mem_append.1 hx with hx | hx
    · unfold spO at hx
      rcases List.mem_append.1 hx with hx | hx
      · unfold fdw at hx
        split at hx
        · cases hx
        · next h0 =>
          rcases List.mem_cons.1 hx with rfl | hx
          · exact wN_s (nm_sn hf h0)
          · rw [List.mem_singleton] at hx; rw [hx]; exact wS_s (by decide)
      · rcases List.mem_append.1 hx with hx | hx
        · split at hx
          · rw [List.mem_singleton] at hx; rw [hx]; exact wQ_s _
          · next hlit =>
            rw [if_neg hlit] at hn
            rcases List.mem_append.1 hx with hx | hx
            · rcases List.mem_cons.1 hx with rfl | hx
              · exact wS_s (by decide)
              · rw [List.mem_singleton] at hx
                rw [hx]
                unfold nmw
                split
                · exact ⟨by decide, rfl⟩
                · next h0 => exact wN_s (nm_sn hn h0)
            · rcases List.mem_append.1 hx with hx | hx
              · exact spW_s n _ l hl x hx
              · rw [List.mem_singleton] at hx; rw [hx]; exact wS_s (by decide)
        · unfold cpw at hx
          split at hx
          · cases hx
          · next h0 =>
            rcases List.mem_cons.1 hx with rfl | hx
            · exact wS_s (by decide)
            · rw [List.mem_singleton] at hx; rw [hx]; exact wN_s (nm_sn hc h0)
    · exact spW_s n k _ (fun y hy => hl y (List.mem_of_mem_drop hy)) x hx
theorem qW_s {l : List Pn} {cs : List Cd} (h : shp l cs = true) : ∀ x ∈ qW l cs, SN x := by
  have hg := shp_gd h
  obtain ⟨h1, h2, h3, h4, h5⟩ := shp_ok h
  intro x hx
  unfold qW at hx
  rcases List.mem_append.1 hx with hx | hx
  · exact spW_s _ _ _ (fun p hp => hg.sh p hp) x hx
  · obtain ⟨c, hc, hx⟩ := List.mem_flatMap.1 hx
    have hcap : ∀ t, cap l t ≠ -1 → snm t.data.toList = true := fun t ht => by
      obtain ⟨h0, ⟨n, hn, e⟩, _⟩ := cap_some ht
      have hs := hg.sh n hn
      unfold nsh at hs
      simp only [Bool.and_eq_true] at hs
      rw [← e] at h0 ⊢
      exact nm_sn hs.2.1 h0
    obtain ⟨k1, k2⟩ := csh_ok (h5 c hc)
    have ha := hcap _ k1
    unfold cnw at hx
    rcases List.mem_append.1 hx with hx | hx
    · simp only [List.mem_cons, List.not_mem_nil, or_false] at hx
      rcases hx with rfl | rfl | rfl | rfl
      · cases c.nt
        · exact ⟨by decide, rfl⟩
        · exact ⟨by decide, rfl⟩
      · exact wS_s (by decide)
      · exact wN_s ha
      · exact wS_s (by decide)
    · split at hx
      · rw [List.mem_singleton] at hx; rw [hx]; exact wQ_s _
      · next h0 =>
        simp only [List.mem_cons, List.not_mem_nil, or_false] at hx
        rcases k2 with k2 | k2
        · exact absurd k2 h0
        · rcases hx with rfl | rfl
          · exact wS_s (by decide)
          · exact wN_s (hcap _ k2.2.2)
theorem psr_back {l : List Pn} {cs : List Cd} (h : shp l cs = true) : (16384 < (prT l cs).size → psr (prT l cs) = ([], [], 80, 16384)) ∧ ((prT l cs).size ≤ 16384 → psr (prT l cs) = (l, cs, 0, 0)) := by
  have hs := qW_s h
  have hall : (qW l cs).all snd = true := List.all_eq_true.2 (fun x hx => (hs x hx).1)
  have hp : (prT l cs).data.toList = jna (qW l cs) := by
    unfold prT jn
    rw [if_pos h, if_pos hall]
  refine ⟨fun hz => ?_, fun hz => ?_⟩
  · unfold psr cutR
    rw [if_pos hz]
    rfl
  · have hc : cutR (prT l cs) = .inr (plc 0 (qW l cs)) := by
      unfold cutR
      rw [if_neg (by omega), hp]
      exact cut_join _ 0 (fun x hx => (hs x hx).1)
    unfold psr
    rw [hc]
    simp only
    have hr := rd_back (u := plc 0 (qW l cs)) (z := ⟨0, [], 0, ((prT l cs).size : Int)⟩) h (plc_nop _ 0 (fun x hx => (hs x hx).2)) rfl
    unfold rs0
    rw [hr]
    rfl
theorem psr_good {s : ByteArray} (h : (psr s).2.2.1 = 0) : shp (psr s).1 (psr s).2.1 = true ∧ Sz (psr s).1 (psr s).2.1 ∧ (psr s).2.2.2 = 0 := by
  unfold psr at h ⊢
  cases hc : cutR s with
  | inl p =>
    obtain ⟨c, o⟩ := p
    rw [hc] at h
    have h1 := cutR_code hc
    simp only at h
    omega
  | inr ws =>
    rw [hc] at h
    simp only at h ⊢
    have hz : s.size ≤ 16384 := by
      unfold cutR at hc
      split at hc
      · cases hc
      · omega
    have hcut : cut 0 s.data.toList = .inr ws := by
      unfold cutR at hc
      rw [if_neg (by omega)] at hc
      exact hc
    have hsn := cut_snd _ _ _ _ (Nat.le_refl _) hcut
    have htl := cut_tl _ _ _ _ (Nat.le_refl _) hcut
    rw [lst_siz] at htl
    have hwk : Wk (rs0 s ws).ws := ⟨ws, _, rfl, rfl⟩
    have hok := ok_rdA 16384 (rs0 s ws) hwk
    cases hb : (rdA (rs0 s ws)).1 with
    | false =>
      rw [hb] at h hok
      exact absurd h (hok.co rfl)
    | true =>
      have he : rdA (rs0 s ws) = (true, (rdA (rs0 s ws)).2) := by rw [← hb]
      have hM : ∀ x ∈ (rs0 s ws).ws, x.t.length ≤ 16384 := fun x hx => by
        have hx' : x ∈ ws ++ [⟨0, [], 0, (s.size : Int)⟩] := hx
        rcases List.mem_append.1 hx' with h9 | h9
        · exact Nat.le_trans (htl x h9) hz
        · rw [List.mem_singleton] at h9; rw [h9]; exact Nat.zero_le _
      refine ⟨rd_shp he (fun x hx hk => ?_), ⟨fun p hp => Nat.le_trans (hok.ns hM (fun p hp => by cases hp) p hp) (by decide), fun c hc => Nat.le_trans (hok.cs hM (fun p hp => by cases hp) c hc) (by decide)⟩, rfl⟩
      rcases List.mem_append.1 hx with h9 | h9
      · have h8 := (hsn x h9).1
        unfold snd at h8
        rw [if_pos hk] at h8
        exact h8
      · rw [List.mem_singleton] at h9
        rw [h9] at hk
        cases hk
theorem psr_bad {s : ByteArray} (h : (psr s).2.2.1 ≠ 0) : (psr s).1 = [] ∧ (psr s).2.1 = [] ∧ 0 ≤ (psr s).2.2.2 ∧ (psr s).2.2.2 ≤ (s.size : Int) := by
  unfold psr at h ⊢
  cases hc : cutR s with
  | inl p =>
    obtain ⟨c, o⟩ := p
    have h1 := cutR_place2 hc
    simp only
    exact ⟨by first | rfl | trivial, by first | rfl | trivial, by omega, by omega⟩
  | inr ws =>
    rw [hc] at h
    simp only at h ⊢
    cases hb : (rdA (rs0 s ws)).1 with
    | true => rw [hb] at h; exact absurd rfl h
    | false =>
      simp only [Bool.false_eq_true, if_false]
      have hz : ¬ 16384 < s.size := by
        unfold cutR at hc
        split at hc
        · cases hc
        · omega
      have hcut : cut 0 s.data.toList = .inr ws := by
        unfold cutR at hc
        rw [if_neg hz] at hc
        exact hc
      have hat := cut_at _ _ _ _ (Nat.le_refl _) hcut
      rw [lst_siz, Nat.zero_add] at hat
      have hok := ok_rdA 16384 (rs0 s ws) ⟨ws, _, rfl, rfl⟩
      refine ⟨by first | rfl | trivial, by first | rfl | trivial, ?_⟩
      unfold hd
      cases hw : (rdA (rs0 s ws)).2.ws with
      | nil => exact ⟨Int.le_refl _, by show (0 : Int) ≤ _; omega⟩
      | cons x m =>
        have hx : x ∈ (rs0 s ws).ws := hok.suf.mem (by rw [hw]; simp)
        have hx' : x ∈ ws ++ [⟨0, [], 0, (s.size : Int)⟩] := hx
        show 0 ≤ x.a ∧ x.a ≤ _
        rcases List.mem_append.1 hx' with h9 | h9
        · exact hat x h9
        · rw [List.mem_singleton] at h9
          rw [h9]
          exact ⟨Int.natCast_nonneg _, Int.le_refl _⟩
end Go.Proofs.YtcmhbcfgikmblaaGreatDoor.Qy
