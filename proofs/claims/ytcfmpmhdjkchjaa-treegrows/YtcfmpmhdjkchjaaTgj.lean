import Derived.Test.YtcfmpmhdjkchjaaTpx
namespace Go.Proofs.Ytcfmpmhdjkchjaa
open Go.RowKit Go.Maps

/-- Is a token hidden? -/
def hid (tk : List Nd) (t : Nat) : Prop := hpf (tk.getD t ndd).nm = true
/-- Leaves in their order: from the token a on, up to the token b; what is passed over is hidden. -/
def Lf (tk : List Nd) : Nat → List Nd → Nat → Prop
  | a, [], b => a ≤ b ∧ b ≤ tk.length ∧ ∀ t, a ≤ t → t < b → hid tk t
  | a, y :: l, b => (y.lf < 0 ∧ Lf tk a l b) ∨ ∃ n : Nat, y.lf = (n : Int) ∧ a ≤ n ∧ n < tk.length ∧ y.kd = 0 ∧ y.fr = (tk.getD n ndd).fr ∧ y.tt = (tk.getD n ndd).tt ∧ (∀ t, a ≤ t → t < n → hid tk t) ∧ Lf tk (n + 1) l b
theorem Lf.lo {tk : List Nd} {a' a b : Nat} {l : List Nd} (h : Lf tk a l b) (hl : a' ≤ a) (hh : ∀ t, a' ≤ t → t < a → hid tk t) : Lf tk a' l b := by
  have key : ∀ n, (∀ t, a ≤ t → t < n → hid tk t) → ∀ t, a' ≤ t → t < n → hid tk t := fun n g t h1 h2 => by
    by_cases c : t < a
    · exact hh t h1 c
    · exact g t (by omega) h2
  induction l with
  | nil => exact ⟨by have := h.1; omega, h.2.1, key b h.2.2⟩
  | cons y l ih =>
    rcases h with ⟨h1, h2⟩ | ⟨n, h1, h2, h3, h4, h5, h6, h7, h8⟩
    · exact .inl ⟨h1, ih h2⟩
    · exact .inr ⟨n, h1, by omega, h3, h4, h5, h6, key n h7, h8⟩
theorem Lf.app {tk : List Nd} {b c : Nat} {k : List Nd} : ∀ {l : List Nd} {a : Nat}, Lf tk a l b → Lf tk b k c → Lf tk a (l ++ k) c
  | [], _, h, g => g.lo h.1 h.2.2
  | _ :: _, _, .inl ⟨h1, h2⟩, g => .inl ⟨h1, Lf.app h2 g⟩
  | _ :: _, _, .inr ⟨n, h1, h2, h3, h4, h5, h6, h7, h8⟩, g => .inr ⟨n, h1, h2, h3, h4, h5, h6, h7, Lf.app h8 g⟩
theorem Lf.le {tk : List Nd} {b : Nat} : ∀ {l : List Nd} {a : Nat}, Lf tk a l b → a ≤ b ∧ b ≤ tk.length
  | [], _, h => ⟨h.1, h.2.1⟩
  | _ :: _, _, .inl ⟨_, h2⟩ => Lf.le h2
  | _ :: _, _, .inr ⟨n, _, h2, _, _, _, _, _, h8⟩ => by have := Lf.le h8; omega
theorem Lf.left {tk : List Nd} {c : Nat} {k : List Nd} : ∀ {l : List Nd} {a : Nat}, Lf tk a (l ++ k) c → ∃ b, Lf tk a l b ∧ Lf tk b k c
  | [], a, h => ⟨a, ⟨Nat.le_refl _, by have := Lf.le h; omega, fun t h1 h2 => by omega⟩, h⟩
  | _ :: _, _, .inl ⟨h1, h2⟩ => by
    obtain ⟨b, g1, g2⟩ := Lf.left h2
    exact ⟨b, .inl ⟨h1, g1⟩, g2⟩
  | _ :: _, _, .inr ⟨n, h1, h2, h3, h4, h5, h6, h7, h8⟩ => by
    obtain ⟨b, g1, g2⟩ := Lf.left h8
    exact ⟨b, .inr ⟨n, h1, h2, h3, h4, h5, h6, h7, g1⟩, g2⟩
theorem hid_more {tk : List Nd} {x : Nd} {t : Nat} (ht : t < tk.length) (h : hid tk t) : hid (tk ++ [x]) t := by
  unfold hid at h ⊢
  rw [List.getD_eq_getElem?_getD, List.getElem?_append_left ht, ← List.getD_eq_getElem?_getD]
  exact h
theorem Lf.more {tk : List Nd} {b : Nat} {x : Nd} : ∀ {l : List Nd} {a : Nat}, Lf tk a l b → Lf (tk ++ [x]) a l b
  | [], _, h => ⟨h.1, by rw [List.length_append]; have := h.2.1; omega, fun t h1 h2 => hid_more (by have := h.2.1; omega) (h.2.2 t h1 h2)⟩
  | _ :: _, _, .inl ⟨h1, h2⟩ => .inl ⟨h1, Lf.more h2⟩
  | y :: _, _, .inr ⟨n, h1, h2, h3, h4, h5, h6, h7, h8⟩ => by
    have e : (tk ++ [x]).getD n ndd = tk.getD n ndd := by rw [List.getD_eq_getElem?_getD, List.getElem?_append_left h3, ← List.getD_eq_getElem?_getD]
    exact .inr ⟨n, h1, h2, by rw [List.length_append]; omega, h4, by rw [e]; exact h5, by rw [e]; exact h6, fun t g1 g2 => hid_more (by omega) (h7 t g1 g2), Lf.more h8⟩
/-- What tells of leaves. -/
def lky (x : Nd) : Int × Int × Int × Int := (x.lf, x.kd, x.fr, x.tt)
theorem Lf.same {tk : List Nd} {b : Nat} : ∀ {l k : List Nd} {a : Nat}, l.map lky = k.map lky → Lf tk a l b → Lf tk a k b
  | [], [], _, _, h => h
  | [], _ :: _, _, e, _ => by cases e
  | _ :: _, [], _, e, _ => by cases e
  | y :: l, z :: k, a, e, h => by
    rw [List.map_cons, List.map_cons] at e
    injection e with e1 e2
    unfold lky at e1
    injection e1 with q1 e1
    injection e1 with q2 e1
    injection e1 with q3 q4
    rcases h with ⟨h1, h2⟩ | ⟨n, h1, h2, h3, h4, h5, h6, h7, h8⟩
    · exact .inl ⟨by rw [← q1]; exact h1, Lf.same e2 h2⟩
    · exact .inr ⟨n, by rw [← q1]; exact h1, h2, h3, by rw [← q2]; exact h4, by rw [← q3]; exact h5, by rw [← q4]; exact h6, h7, Lf.same e2 h8⟩
theorem lky_rtm {f : Nd → Nd} (hf : ∀ x, lky (f x) = lky x) (t : List Nd) (a : Nat) : t.map lky = (rtm f t a).map lky := by
  refine list_ext (0, 0, 0, 0) (by rw [List.length_map, List.length_map, rtm_len]) fun j hj => ?_
  rw [List.length_map] at hj
  have key : ∀ s : List Nd, j < s.length → (s.map lky).getD j (0, 0, 0, 0) = lky (s.getD j ndd) := fun s hs => by
    rw [List.getD_eq_getElem?_getD, List.getElem?_map, List.getD_eq_getElem?_getD, List.getElem?_eq_getElem hs]
    rfl
  rw [key _ hj, key _ (by rw [rtm_len]; exact hj), rtm_get f t a j hj]
  split
  · rw [hf]
  · rfl
theorem lky_gfl (s : ByteArray) (x : Nd) : lky (gfl s x) = lky x := by unfold gfl; split <;> rfl
/-- A part has the leaves of its list, or is a hidden token's. -/
theorem Lf.part {tk : List Nd} {a b : Nat} {k : List Nd} {e : Int} (Te : List Td) (Sy : List Sd) (r : Rf) (h : Lf tk a k b) (hh : hdn Te r.1 = true → ∀ y ∈ k, 0 ≤ y.lf → hid tk y.lf.toNat) : Lf tk a (part Te Sy r k e) b := by
  have hx : Lf tk a (prx Te Sy r k e) b := by
    unfold prx
    split
    · exact h
    · split
      · exact h.same (lky_rtm (f := cal r.2.2) (fun _ => rfl) _ _)
      · exact .inl ⟨by show (-1 : Int) < 0; decide, h⟩
  unfold Go.Proofs.Ytcfmpmhdjkchjaa.part
  split
  · rename_i hc
    have h2 := hh hc.2
    clear hx hh hc
    induction k generalizing a with
    | nil => exact h
    | cons y k ih =>
      rcases h with ⟨h1, h3⟩ | ⟨n, h1, g2, h3, h4, h5, h6, h7, h8⟩
      · exact ih h3 (fun z hz => h2 z (List.mem_cons_of_mem _ hz))
      · have h9 := ih h8 (fun z hz => h2 z (List.mem_cons_of_mem _ hz))
        have hn := h2 y (by simp) (by omega)
        rw [h1] at hn
        refine h9.lo (by omega) (fun t t1 t2 => ?_)
        by_cases c : t < n
        · exact h7 t t1 c
        · have : t = n := by omega
          subst this
          simpa using hn
  · unfold prf
    split
    · exact hx
    · exact hx.same (lky_rtm (lky_gfl _) _ _)
theorem Lf.none {tk : List Nd} {a b : Nat} (h : a ≤ b) (hb : b ≤ tk.length) (hh : ∀ t, a ≤ t → t < b → hid tk t) : Lf tk a [] b := ⟨h, hb, hh⟩
/-- The parts of a production. -/
theorem Lf.pts {tk : List Nd} {ks : List (List Nd)} {es : List Int} (Te : List Td) (Sy : List Sd) (rs : List Rf) : ∀ (i a b : Nat), i ≤ ks.length → (∀ j, j < i → hdn Te (rs.getD j rfd).1 = true → ∀ y ∈ ks.getD j [], 0 ≤ y.lf → hid tk y.lf.toNat) → Lf tk a (ks.take i).flatten b → Lf tk a (pts Te Sy rs ks es i) b
  | 0, a, b, _, _, h => h
  | i + 1, a, b, hi, hh, h => by
    have e : (ks.take (i + 1)).flatten = (ks.take i).flatten ++ ks.getD i [] := by
      rw [List.take_add_one, List.flatten_append, List.getD_eq_getElem?_getD, List.getElem?_eq_getElem (by omega)]
      simp
    rw [e] at h
    obtain ⟨c, h1, h2⟩ := h.left
    exact (Lf.pts Te Sy rs i a c (by omega) (fun j hj => hh j (by omega)) h1).app (h2.part Te Sy _ (hh i (by omega)))
/-- What TreeGrows asks of a maker's stack. -/
structure Gw (Te : List Td) (Sy : List Sd) (S : List Ep) (tk : List Nd) (p : Nat) : Prop where
  w : chs 0 S (p : Int)
  l : Lf tk 0 (S.map (fun x => x.2.1)).flatten tk.length
  t : ∀ x ∈ S, itk Te x.1 = true → ∀ y ∈ x.2.1, 0 ≤ y.lf → y.lf.toNat < tk.length ∧ (tk.getD y.lf.toNat ndd).nm = (Te.getD x.1.toNat tdd).1
  s : ∀ x ∈ S, ∀ a : Nat, a < Sy.length → ish Sy (a : Int) = true → IntKind.i64.wrap (x.1 - (Te.length : Int)) = (a : Int) → rt (kds x.2.1) = some 1
theorem hdn_hpf {Te : List Td} {z : Int} (h : hdn Te z = true) : itk Te z = true ∧ hpf (Te.getD z.toNat tdd).1 = true := by
  unfold hdn at h
  simp only [Bool.and_eq_true] at h
  exact ⟨h.1, h.2.2⟩
theorem chs_all {S : List Ep} {lo hi : Int} (h : chs lo S hi) : ∀ x ∈ S, ∃ a b, Wp x.2.1 a b := by
  induction S generalizing lo with
  | nil => intro x hx; cases hx
  | cons y l ih =>
    intro x hx
    rcases List.mem_cons.1 hx with rfl | hx
    · exact ⟨_, _, h.1⟩
    · exact ih h.2 x hx
theorem wrap_back {l n : Int} (h0 : 0 ≤ l) (h1 : l ≤ 9223372036854775807) : IntKind.i64.wrap (IntKind.i64.wrap (l + n) - n) = l := by
  rw [IntKind.wrap_i64, IntKind.wrap_i64]
  omega
theorem wrap_out {Te : List Td} {l : Int} (h0 : 0 ≤ l) (h1 : l ≤ 9223372036854775807) (n1 : Te.length ≤ 9223372036854775807) : itk Te (IntKind.i64.wrap (l + (Te.length : Int))) = false := by
  unfold itk
  rw [IntKind.wrap_i64]
  simp only [Bool.and_eq_false_iff, decide_eq_false_iff_not]
  omega
theorem kp_grows (Te : List Td) (Sy : List Sd) (P : List Pd) (hP : ∀ x ∈ P, x.1 ≤ 9223372036854775807) (hT : Te.length ≤ 9223372036854775807) : Kp Te Sy P (Gw Te Sy) where
  z := ⟨(kp_chs Te Sy P).z, ⟨Nat.le_refl _, Nat.le_refl _, fun t _ h2 => absurd h2 (Nat.not_lt_zero t)⟩, fun x hx => (by cases hx), fun x hx => (by cases hx)⟩
  tok := fun S tk p z pad len h h1 h2 => by
    have hw := (kp_chs Te Sy P).tok S tk p z pad len h.w h1 h2
    have hi : itk Te (z : Int) = true := by simp only [itk, Bool.and_eq_true, decide_eq_true_eq]; omega
    have htk : tkn Te (z : Int) (tk.length : Int) ((p + pad : Nat) : Int) ((p + pad + len : Nat) : Int) = [⟨(Te.getD z tdd).1, !(Te.getD z tdd).2, ⟨#[]⟩, ((p + pad : Nat) : Int), ((p + pad + len : Nat) : Int), 0, (tk.length : Int)⟩] := by
      unfold tkn
      rw [show ((z : Int) == 0) = false by rw [beq_eq_false_iff_ne]; omega, hi]; rfl
    rw [htk] at hw ⊢
    obtain ⟨x, hx⟩ : ∃ x : Nd, (⟨(Te.getD z tdd).1, !(Te.getD z tdd).2, ⟨#[]⟩, ((p + pad : Nat) : Int), ((p + pad + len : Nat) : Int), 0, (tk.length : Int)⟩ : Nd) = x := ⟨_, rfl⟩
    have x1 : x.lf = (tk.length : Int) := by rw [← hx]
    have x2 : x.kd = 0 := by rw [← hx]
    have x3 : x.nm = (Te.getD z tdd).1 := by rw [← hx]
    rw [hx] at hw ⊢
    have eg : (tk ++ [x]).getD tk.length ndd = x := by simp
    have el : (tk ++ [x]).length = tk.length + 1 := by simp
    refine ⟨hw, ?_, fun y hy => ?_, fun y hy => ?_⟩
    · rw [List.map_append, List.flatten_append]
      refine (h.l.more (x := x)).app ?_
      exact .inr ⟨tk.length, x1, Nat.le_refl _, by simp, x2, by rw [eg], by rw [eg], fun t t1 t2 => by omega, by rw [el]; exact ⟨Nat.le_refl _, by rw [el]; exact Nat.le_refl _, fun t t1 t2 => absurd t2 (by omega)⟩⟩
    · rcases List.mem_append.1 hy with hy | hy
      · intro h3 q hq h4
        obtain ⟨g1, g2⟩ := h.t y hy h3 q hq h4
        refine ⟨by rw [List.length_append]; omega, ?_⟩
        rw [List.getD_eq_getElem?_getD, List.getElem?_append_left g1, ← List.getD_eq_getElem?_getD]
        exact g2
      · rw [List.mem_singleton] at hy
        subst hy
        intro _ q hq _
        rw [List.mem_singleton] at hq
        subst hq
        have e : q.lf.toNat = tk.length := by rw [x1]; simp
        rw [e, eg]
        exact ⟨by simp, x3⟩
    · rcases List.mem_append.1 hy with hy | hy
      · exact h.s y hy
      · rw [List.mem_singleton] at hy
        subst hy
        intro a _ _ he
        dsimp only at he
        rw [IntKind.wrap_i64] at he
        omega
  red := fun A K tk p q h hq hl hK => by
    have hw := (kp_chs Te Sy P).red A K tk p q h.w hq hl hK
    have hlm := hP _ (getD_mem P pfd q hq)
    have hKl : K.length = (P.getD q pfd).2.2.length := by have := congrArg List.length hK; rw [List.length_map, List.length_map] at this; exact this
    have hout := wrap_out (Te := Te) hl hlm hT
    obtain ⟨ks, hks⟩ : ∃ ks, K.map (fun x => x.2.1) = ks := ⟨_, rfl⟩
    obtain ⟨es, hes⟩ : ∃ es, lst A :: K.map (fun x => x.2.2) = es := ⟨_, rfl⟩
    rw [hks, hes] at hw ⊢
    have hksl : ks.length = (P.getD q pfd).2.2.length := by rw [← hks, List.length_map]; exact hKl
    have hesl : es.length = (P.getD q pfd).2.2.length + 1 := by rw [← hes, List.length_cons, List.length_map, hKl]
    have hfo : ∀ t ∈ ks, Fo (kds t) := fun t ht => by
      rw [← hks] at ht
      obtain ⟨x, hx, rfl⟩ := List.mem_map.1 ht
      obtain ⟨a, b, rs, g1, _⟩ := chs_all h.w x (List.mem_append_right _ hx)
      exact ⟨_, g1.fo⟩
    have hrok : rok P (q : Int) ks es = true := by
      unfold rok afo
      simp only [Bool.and_eq_true, decide_eq_true_eq, List.all_eq_true]
      refine ⟨⟨by omega, by omega⟩, ⟨hksl, hesl⟩, fun t ht => ?_⟩
      obtain ⟨r, hr⟩ := hfo t ht
      rw [hr]; rfl
    have hrd : rdc Te Sy P (q : Int) ks es = red Te Sy (P.getD q pfd).1 (P.getD q pfd).2.2 ks es := by
      unfold rdc
      rw [if_pos hrok]; rfl
    rw [hrd] at hw ⊢
    have hhid : ∀ j, j < (P.getD q pfd).2.2.length → hdn Te ((P.getD q pfd).2.2.getD j rfd).1 = true → ∀ y ∈ ks.getD j [], 0 ≤ y.lf → hid tk y.lf.toNat := fun j hj hd y hy h0 => by
      obtain ⟨d1, d2⟩ := hdn_hpf hd
      have hjK : j < K.length := by omega
      have e1 : ks.getD j [] = (K[j]).2.1 := by rw [← hks, List.getD_eq_getElem?_getD, List.getElem?_map, List.getElem?_eq_getElem hjK]; rfl
      have e2 : (K[j]).1 = ((P.getD q pfd).2.2.getD j rfd).1 := by
        have g := congrArg (fun l => l[j]?) hK
        try dsimp only at g
        rw [List.getElem?_map, List.getElem?_map, List.getElem?_eq_getElem hjK, List.getElem?_eq_getElem hj] at g
        rw [List.getD_eq_getElem?_getD, List.getElem?_eq_getElem hj]
        simpa using g
      rw [e1] at hy
      have g := (h.t _ (List.mem_append_right _ (List.getElem_mem hjK)) (by rw [e2]; exact d1) y hy h0).2
      unfold hid
      rw [g, e2]
      exact d2
    have hpts : ∀ a, Lf tk a ks.flatten tk.length → Lf tk a (pts Te Sy (P.getD q pfd).2.2 ks es (P.getD q pfd).2.2.length) tk.length := fun a g => Lf.pts Te Sy _ _ a _ (by omega) hhid (by rw [List.take_of_length_le (by omega)]; exact g)
    refine ⟨hw, ?_, fun y hy => ?_, fun y hy => ?_⟩
    · have hL := h.l
      rw [List.map_append, List.flatten_append, hks] at hL
      obtain ⟨c, g1, g2⟩ := hL.left
      rw [List.map_append, List.flatten_append]
      refine g1.app ?_
      show Lf tk c (red _ _ _ _ _ _ ++ []) _
      rw [List.append_nil]
      unfold red
      split
      · exact .inl ⟨by show (-1 : Int) < 0; decide, hpts c g2⟩
      · exact hpts c g2
    · rcases List.mem_append.1 hy with hy | hy
      · exact h.t y (List.mem_append_left _ hy)
      · rw [List.mem_singleton] at hy
        subst hy
        intro h3
        dsimp only at h3
        rw [hout] at h3
        cases h3
    · rcases List.mem_append.1 hy with hy | hy
      · exact h.s y (List.mem_append_left _ hy)
      · rw [List.mem_singleton] at hy
        subst hy
        intro a ha hish he
        have e : (P.getD q pfd).1 = (a : Int) := by rw [wrap_back hl hlm] at he; exact he
        unfold red
        rw [e, if_pos hish]
        obtain ⟨wa, wb, hW⟩ := chs_all hw _ (List.mem_append_right _ (List.mem_singleton.2 rfl))
        unfold red at hW
        rw [e, if_pos hish] at hW
        have hFo : Fo (kds (pts Te Sy (P.getD q pfd).2.2 ks es (P.getD q pfd).2.2.length)) := by
          obtain ⟨rs, g1, _⟩ := hW
          obtain ⟨kk, qq, g3, _⟩ := (show Sp (_ :: kys (pts Te Sy (P.getD q pfd).2.2 ks es (P.getD q pfd).2.2.length)) rs from g1).tail
          exact ⟨_, g3.fo⟩
        exact fo_head hFo
end Go.Proofs.Ytcfmpmhdjkchjaa
