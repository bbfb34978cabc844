import Derived.Test.YtcfmpmhdjkchjaaTgh
import Derived.Test.YtcfmpmhdjkchjaaTpa
namespace Go.Proofs.Ytcfmpmhdjkchjaa
open Go.RowKit Go.Maps

/-- Spans that stand one behind the other, between two places. -/
def sq : Int → List (Int × Int) → Int → Prop
  | lo, [], hi => lo ≤ hi
  | lo, x :: l, hi => lo ≤ x.1 ∧ x.1 ≤ x.2 ∧ sq x.2 l hi
theorem sq_le : ∀ (lo : Int) (l : List (Int × Int)) (hi : Int), sq lo l hi → lo ≤ hi
  | lo, [], hi, h => h
  | lo, x :: l, hi, h => by have := sq_le x.2 l hi h.2.2; have := h.1; have := h.2.1; omega
theorem sq_lo {lo lo' : Int} {l : List (Int × Int)} {hi : Int} (h : sq lo l hi) (hl : lo' ≤ lo) : sq lo' l hi := by
  cases l with
  | nil => show lo' ≤ hi; have : lo ≤ hi := h; omega
  | cons x l => exact ⟨by have := h.1; omega, h.2⟩
theorem sq_hi : ∀ {lo : Int} {l : List (Int × Int)} {hi hi' : Int}, sq lo l hi → hi ≤ hi' → sq lo l hi'
  | lo, [], hi, hi', h, hl => by show lo ≤ hi'; have : lo ≤ hi := h; omega
  | lo, x :: l, hi, hi', h, hl => ⟨h.1, h.2.1, sq_hi h.2.2 hl⟩
theorem sq_app : ∀ {lo mi hi : Int} {l k : List (Int × Int)}, sq lo l mi → sq mi k hi → sq lo (l ++ k) hi
  | _, _, _, [], _, h, hk => sq_lo hk h
  | _, _, _, _ :: _, _, h, hk => ⟨h.1, h.2.1, sq_app h.2.2 hk⟩
theorem sq_left : ∀ {lo hi : Int} {l k : List (Int × Int)}, sq lo (l ++ k) hi → ∃ mi, sq lo l mi ∧ sq mi k hi
  | lo, _, [], _, h => ⟨lo, Int.le_refl _, h⟩
  | _, _, _ :: l, _, h => by
    obtain ⟨mi, h1, h2⟩ := sq_left (l := l) h.2.2
    exact ⟨mi, ⟨h.1, h.2.1, h1⟩, h2⟩
/-- Does a node stand as its children's spans do? -/
def wel (f t : Int) (ks : List (Int × Int)) : Prop := f ≤ t ∧ (ks ≠ [] → (∃ e r, ks = (f, e) :: r) ∧ (∃ b q, ks = q ++ [(b, t)]) ∧ sq f ks t)
/-- The keys of nodes: their numbers of children, their places. -/
def kys (t : List Nd) : List (Int × Int × Int) := t.map fun x => (x.kd, x.fr, x.tt)
/-- Well placed: its roots' spans. -/
inductive Sp : List (Int × Int × Int) → List (Int × Int) → Prop
  | nil : Sp [] []
  | cons (k f t : Int) (l : List (Int × Int × Int)) (ks rs : List (Int × Int)) (h : Sp l (ks ++ rs)) (hk : k = (ks.length : Int)) (hw : wel f t ks) : Sp ((k, f, t) :: l) ((f, t) :: rs)
theorem Sp.num {l : List (Int × Int × Int)} {rs : List (Int × Int)} (h : Sp l rs) : rt (l.map (·.1)) = some rs.length := by
  induction h with
  | nil => rfl
  | cons k f t l ks rs h hk hw ih =>
    show Go.Proofs.Ytcfmpmhdjkchjaa.rt (k :: l.map (·.1)) = _
    unfold Go.Proofs.Ytcfmpmhdjkchjaa.rt
    rw [ih]
    dsimp only
    rw [List.length_append, if_pos (by omega)]
    congr 1
    rw [List.length_cons]; omega
theorem kys_kds (t : List Nd) : (kys t).map (·.1) = kds t := by unfold kys kds; rw [List.map_map]; rfl
theorem Sp.fo {t : List Nd} {rs : List (Int × Int)} (h : Sp (kys t) rs) : rt (kds t) = some rs.length := by have := h.num; rw [kys_kds] at this; exact this
theorem Sp.app {l k : List (Int × Int × Int)} {rs qs : List (Int × Int)} (h : Sp l rs) (g : Sp k qs) : Sp (l ++ k) (rs ++ qs) := by
  induction h with
  | nil => exact g
  | cons a f t l ks rs h hk hw ih => exact Sp.cons a f t (l ++ k) ks (rs ++ qs) (by rw [← List.append_assoc]; exact ih) hk hw
theorem Sp.tail {x : Int × Int × Int} {l : List (Int × Int × Int)} {rs : List (Int × Int)} (h : Sp (x :: l) rs) : ∃ ks qs, Sp l (ks ++ qs) ∧ x.1 = (ks.length : Int) ∧ wel x.2.1 x.2.2 ks ∧ rs = (x.2.1, x.2.2) :: qs := by
  cases h with
  | cons k f t l ks rs h hk hw => exact ⟨ks, rs, h, hk, hw, rfl⟩
/-- Whatever stands in the first trees lies between. -/
theorem Sp.inn : ∀ (l : List (Int × Int × Int)) (rs qs : List (Int × Int)) (lo hi : Int), Sp l (rs ++ qs) → sq lo rs hi → ∀ j x, l[j]? = some x → j < sk (l.map (·.1)) rs.length → lo ≤ x.2.1 ∧ x.2.1 ≤ x.2.2 ∧ x.2.2 ≤ hi
  | [], rs, qs, lo, hi, h, hs, j, x, hx, hj => by cases hx
  | y :: l, [], qs, lo, hi, h, hs, j, x, hx, hj => by rw [List.length_nil, sk_zero] at hj; omega
  | y :: l, r :: rs, qs, lo, hi, h, hs, j, x, hx, hj => by
    obtain ⟨ks, q2, h1, h2, h3, h4⟩ := h.tail
    rw [List.cons_append] at h4
    injection h4 with h5 h6
    subst h6
    rw [h5] at hs
    obtain ⟨s1, s2, s3⟩ := hs
    dsimp only at s1 s2 s3
    cases j with
    | zero =>
      have : y = x := by simpa using hx
      subst this
      have := sq_le _ _ _ s3
      exact ⟨s1, s2, this⟩
    | succ j =>
      have hx' : l[j]? = some x := by simpa using hx
      have hj' : j < sk (l.map (·.1)) (ks ++ rs).length := by
        have h7 : j + 1 < sk (y.1 :: l.map (·.1)) (rs.length + 1) := hj
        rw [sk_eq] at h7
        rw [List.length_append, Nat.add_comm ks.length, show rs.length + ks.length = rs.length + y.1.toNat by rw [h2]; rfl]
        omega
      have hsq : sq y.2.1 (ks ++ rs) hi := by
        cases ks with
        | nil => exact sq_lo s3 s2
        | cons k0 kt => exact sq_app (h3.2 (by simp)).2.2 s3
      have := Sp.inn l (ks ++ rs) qs y.2.1 hi (by rw [List.append_assoc]; exact h1) hsq j x hx' hj'
      exact ⟨by omega, this.2.1, this.2.2⟩
theorem Sp.drop : ∀ (l : List (Int × Int × Int)) (rs : List (Int × Int)) (a : Nat), Sp l rs → ∃ qs, Sp (l.drop a) qs
  | l, rs, 0, h => ⟨rs, h⟩
  | [], rs, a + 1, h => ⟨[], by rw [List.drop_nil]; exact Sp.nil⟩
  | x :: l, rs, a + 1, h => by
    obtain ⟨ks, qs, h1, _⟩ := h.tail
    exact Sp.drop l _ a h1
/-- Behind the first trees stand the others. -/
theorem Sp.skip : ∀ (l : List (Int × Int × Int)) (rs qs : List (Int × Int)), Sp l (rs ++ qs) → Sp (l.drop (sk (l.map (·.1)) rs.length)) qs
  | l, [], qs, h => by rw [List.length_nil, sk_zero]; exact h
  | [], r :: rs, qs, h => by cases h
  | y :: l, r :: rs, qs, h => by
    obtain ⟨ks, q2, h1, h2, h3, h4⟩ := h.tail
    rw [List.cons_append] at h4
    injection h4 with h5 h6
    subst h6
    have ih := Sp.skip l (ks ++ rs) qs (by rw [List.append_assoc]; exact h1)
    show Sp ((y :: l).drop (sk (y.1 :: l.map (·.1)) (rs.length + 1))) qs
    rw [sk_eq, Nat.add_comm 1, List.drop_succ_cons]
    rw [List.length_append, Nat.add_comm ks.length, show rs.length + ks.length = rs.length + y.1.toNat by rw [h2]; rfl] at ih
    exact ih
/-- The nodes between two places that cover a byte. -/
def wtl (t : List Nd) (z : Int) (a b : Nat) : List Int := ((List.range' a (b - a)).filter fun j => cvr (t.getD j ndd) z).map fun j => ((j : Nat) : Int)
theorem wtl_nil (t : List Nd) (z : Int) (a : Nat) : wtl t z a a = [] := by unfold wtl; rw [Nat.sub_self]; rfl
theorem wtl_app (t : List Nd) (z : Int) (a b c : Nat) (h1 : a ≤ b) (h2 : b ≤ c) : wtl t z a c = wtl t z a b ++ wtl t z b c := by
  unfold wtl
  rw [← List.map_append, ← List.filter_append, show c - a = (b - a) + (c - b) by omega, ← List.range'_append_1, show a + (b - a) = b by omega]
theorem wtl_none (t : List Nd) (z : Int) (a b : Nat) (h : ∀ j, a ≤ j → j < b → cvr (t.getD j ndd) z = false) : wtl t z a b = [] := by
  unfold wtl
  rw [List.filter_eq_nil_iff.2 (fun j hj => by rw [List.mem_range'_1] at hj; rw [h j hj.1 (by omega)]; decide)]
  rfl
theorem wtl_one (t : List Nd) (z : Int) (a : Nat) (h : cvr (t.getD a ndd) z = true) : wtl t z a (a + 1) = [(a : Int)] := by
  unfold wtl
  rw [show a + 1 - a = 1 by omega]
  show ((List.filter _ [a]).map _) = _
  rw [List.filter_cons_of_pos (p := fun j => cvr (t.getD j ndd) z) h]; rfl
theorem kys_get (t : List Nd) (a j : Nat) (hj : a + j < t.length) : ((kys t).drop a)[j]? = some ((t.getD (a + j) ndd).kd, (t.getD (a + j) ndd).fr, (t.getD (a + j) ndd).tt) := by
  unfold kys
  rw [List.getElem?_drop, List.getElem?_map, List.getD_eq_getElem?_getD, List.getElem?_eq_getElem hj]; rfl
theorem kys_drop (t : List Nd) (a : Nat) : ((kys t).drop a).map (·.1) = (kds t).drop a := by rw [List.map_drop, kys_kds]
theorem kys_cons (t : List Nd) (a : Nat) (ha : a < t.length) : (kys t).drop a = ((t.getD a ndd).kd, (t.getD a ndd).fr, (t.getD a ndd).tt) :: (kys t).drop (a + 1) := by
  have hl : a < (kys t).length := by unfold kys; rw [List.length_map]; exact ha
  rw [List.drop_eq_getElem_cons hl]
  congr 1
  have := kys_get t a 0 (by omega)
  rw [List.getElem?_drop, Nat.add_zero, List.getElem?_eq_getElem hl] at this
  exact Option.some.inj this
/-- Whatever stands in some trees lies between. -/
theorem between_of {t : List Nd} {a : Nat} {rs qs : List (Int × Int)} {lo hi : Int} (h : Sp ((kys t).drop a) (rs ++ qs)) (hs : sq lo rs hi) (j : Nat) (h1 : a ≤ j) (h2 : j < wA (kds t) a rs.length) (h3 : j < t.length) : lo ≤ (t.getD j ndd).fr ∧ (t.getD j ndd).fr ≤ (t.getD j ndd).tt ∧ (t.getD j ndd).tt ≤ hi := by
  have hg := kys_get t a (j - a) (by omega)
  rw [show a + (j - a) = j by omega] at hg
  exact Sp.inn _ rs qs lo hi h hs (j - a) _ hg (by rw [kys_drop]; unfold wA at h2; omega)
theorem skip_of {t : List Nd} {a : Nat} {rs qs : List (Int × Int)} (h : Sp ((kys t).drop a) (rs ++ qs)) : Sp ((kys t).drop (wA (kds t) a rs.length)) qs := by
  have := Sp.skip _ rs qs h
  rw [kys_drop, List.drop_drop] at this
  exact this
theorem Sp.ra {t : List Nd} {a : Nat} {rs : List (Int × Int)} (h : Sp ((kys t).drop a) rs) : rA (kds t) a = rs.length := by
  have := h.num
  rw [kys_drop] at this
  unfold rA; rw [this]; rfl
/-- In what is well placed Path tells all nodes that cover a byte. -/
theorem pth_is {t : List Nd} (z : Int) (hF : Fo (kds t)) : ∀ (f a : Nat) (rs qs : List (Int × Int)) (lo hi : Int) (o : List Int), a ≤ t.length → t.length + 1 - a ≤ f → Sp ((kys t).drop a) (rs ++ qs) → sq lo rs hi → pth t z f a rs.length o = o ++ wtl t z a (wA (kds t) a rs.length)
  | 0, a, rs, qs, lo, hi, o, ha, hf, h, hs => by omega
  | f + 1, a, [], qs, lo, hi, o, ha, hf, h, hs => by
    unfold pth
    rw [List.length_nil, if_pos rfl, wA_zero, wtl_nil, List.append_nil]
  | f + 1, a, r :: rs, qs, lo, hi, o, ha, hf, h, hs => by
    have hra := h.ra
    have hal : a < t.length := by have := hF.le a; rw [kds_len, hra] at this; simp at this; omega
    have hc := kys_cons t a hal
    rw [hc] at h
    obtain ⟨ks, q2, h1, h2, h3, h4⟩ := h.tail
    rw [List.cons_append] at h4
    injection h4 with h5 h6
    subst h6
    rw [h5] at hs
    obtain ⟨s1, s2, s3⟩ := hs
    dsimp only at s1 s2 s3 h2 h3
    obtain ⟨p1, p2, p3, p4⟩ := hF.step a (by rw [kds_len]; exact hal)
    rw [kds_get] at p2
    have hkk : kA (kds t) a = ks.length := by omega
    have hE := hF.elt a (by rw [kds_len]; exact hal)
    have hEq := hF.eq a (by rw [kds_len]; exact hal)
    rw [kds_len] at hE
    have hW : wA (kds t) a (rs.length + 1) = wA (kds t) (eA (kds t) a) rs.length := by
      have := hF.add a 1 rs.length (by rw [hra, List.length_append, List.length_cons]; omega)
      rw [Nat.add_comm rs.length 1]; exact this
    have hEw := hF.end (eA (kds t) a) rs.length (by rw [kds_len]; exact hE.2.1) (by rw [hE.2.2, hra, List.length_append, List.length_cons]; omega)
    rw [kds_len] at hEw
    have hsk1 : Sp ((kys t).drop (eA (kds t) a)) (rs ++ qs) := by
      have h8 : Sp ((kys t).drop a) ([r] ++ (rs ++ qs)) := by rw [hc]; exact h
      have := skip_of h8
      exact this
    unfold pth
    rw [List.length_cons, if_neg (by omega)]
    cases hcv : cvr (t.getD a ndd) z with
    | true =>
      rw [if_pos rfl, hkk]
      have hsq : sq (t.getD a ndd).fr ks (t.getD a ndd).tt := by
        cases ks with
        | nil => exact s2
        | cons k0 kt => exact (h3.2 (by simp)).2.2
      rw [pth_is z hF f (a + 1) ks (rs ++ qs) _ _ _ hal (by omega) h1 hsq, List.append_assoc]
      congr 1
      rw [← hkk, ← hEq, hW, wtl_app t z a (eA (kds t) a) _ (by omega) (by omega), wtl_app t z a (a + 1) (eA (kds t) a) (by omega) (by omega), wtl_one t z a hcv]
      have hn : wtl t z (eA (kds t) a) (wA (kds t) (eA (kds t) a) rs.length) = [] := wtl_none t z _ _ fun j j1 j2 => by
        have := between_of hsk1 s3 j j1 j2 (by omega)
        simp only [cvr, Bool.and_eq_true, decide_eq_true_eq] at hcv
        simp only [cvr]
        rw [show decide ((t.getD j ndd).fr ≤ z) = false by rw [decide_eq_false_iff_not]; omega]; rfl
      rw [hn, List.append_nil]
    | false =>
      rw [if_neg (by decide), show rs.length + 1 - 1 = rs.length by omega, pth_is z hF f (eA (kds t) a) rs qs _ _ o hE.2.1 (by omega) hsk1 s3]
      congr 1
      rw [hW, wtl_app t z a (eA (kds t) a) _ (by omega) (by omega)]
      have hn : wtl t z a (eA (kds t) a) = [] := wtl_none t z _ _ fun j j1 j2 => by
        have h8 : Sp ((kys t).drop a) ([r] ++ (rs ++ qs)) := by rw [hc]; exact h
        have h9 : sq (t.getD a ndd).fr [r] (t.getD a ndd).tt := by rw [h5]; exact ⟨Int.le_refl _, s2, Int.le_refl _⟩
        have := between_of h8 h9 j j1 j2 (by omega)
        rw [← Bool.not_eq_true] at hcv ⊢
        intro hj
        apply hcv
        simp only [cvr, Bool.and_eq_true, decide_eq_true_eq] at hj ⊢
        omega
      rw [hn, List.nil_append]
/-- A list that is well placed between two places. -/
def Wp (t : List Nd) (lo hi : Int) : Prop := ∃ rs, Sp (kys t) rs ∧ sq lo rs hi
theorem pat_is {t : List Nd} {lo hi : Int} (h : Wp t lo hi) (z : Int) : pat t z = wtl t z 0 t.length := by
  obtain ⟨rs, h1, h2⟩ := h
  have hr := h1.fo
  have hF : Fo (kds t) := ⟨_, hr⟩
  have hw := hF.whole
  rw [Fo.top hr, kds_len] at hw
  unfold pat
  rw [hr]
  dsimp only
  rw [pth_is z hF (t.length + 1) 0 rs [] lo hi [] (Nat.zero_le _) (by omega) (by rw [List.append_nil]; exact h1) h2, List.nil_append, hw]
/-- Each is the child of the one ahead. -/
def chn (l : List Int) : Int → List Int → Prop
  | _, [] => True
  | up, g :: r => (∃ j : Nat, g = (j : Int) ∧ j < l.length ∧ pl l j = up) ∧ chn l g r
theorem pth_acc (t : List Nd) (z : Int) : ∀ (f a k : Nat) (o : List Int), pth t z f a k o = o ++ pth t z f a k []
  | 0, a, k, o => by unfold pth; rw [List.append_nil]
  | f + 1, a, k, o => by
    unfold pth
    split
    · rw [List.append_nil]
    · split
      · rw [pth_acc t z f _ _ (o ++ [(a : Int)]), pth_acc t z f _ _ ([] ++ [(a : Int)]), List.nil_append, List.append_assoc]
      · rw [pth_acc t z f _ _ o]
theorem pth_chn {t : List Nd} (z : Int) (hF : Fo (kds t)) : ∀ (f a k : Nat) (up : Int), (∀ i, i < k → pl (kds t) (wA (kds t) a i) = up) → k ≤ rA (kds t) a → a ≤ t.length → chn (kds t) up (pth t z f a k [])
  | 0, a, k, up, h, hk, ha => trivial
  | f + 1, a, 0, up, h, hk, ha => by unfold pth; rw [if_pos rfl]; trivial
  | f + 1, a, k + 1, up, h, hk, ha => by
    have hal : a < t.length := by have := hF.le a; rw [kds_len] at this; omega
    have hE := hF.elt a (by rw [kds_len]; exact hal)
    rw [kds_len] at hE
    unfold pth
    rw [if_neg (by omega)]
    cases hcv : cvr (t.getD a ndd) z with
    | true =>
      rw [if_pos rfl, pth_acc, List.nil_append, List.singleton_append]
      have h0 := h 0 (by omega)
      rw [wA_zero] at h0
      refine ⟨⟨a, rfl, by rw [kds_len]; exact hal, h0⟩, pth_chn z hF f (a + 1) _ _ (fun i hi => ?_) (hF.step a (by rw [kds_len]; exact hal)).2.2.1 hal⟩
      exact pl_ch hF ⟨by rw [kds_len]; exact hal, hi, rfl⟩
    | false =>
      rw [if_neg (by decide), Nat.add_sub_cancel]
      refine pth_chn z hF f _ k up (fun i hi => ?_) (by omega) hE.2.1
      have := hF.add a 1 i (by omega)
      show pl (kds t) (wA (kds t) (wA (kds t) a 1) i) = up
      rw [← this, Nat.add_comm]
      exact h (i + 1) (by omega)
theorem pat_chn {t : List Nd} (z : Int) : chn (kds t) (-1) (pat t z) := by
  unfold pat
  cases hr : rt (kds t) with
  | none => trivial
  | some r =>
    have hF : Fo (kds t) := ⟨r, hr⟩
    exact pth_chn z hF _ 0 r (-1) (fun i hi => pl_ro hF ⟨by rw [Fo.top hr]; exact hi, rfl⟩) (by rw [Fo.top hr]; exact Nat.le_refl _) (Nat.zero_le _)
theorem chn_at {l : List Int} : ∀ {up : Int} {g : List Int}, chn l up g → ∀ j, j < g.length → ∃ c : Nat, g.getD j 0 = (c : Int) ∧ c < l.length ∧ pl l c = if j = 0 then up else g.getD (j - 1) 0
  | up, [], h, j, hj => by simp at hj
  | up, x :: r, h, 0, hj => by
    obtain ⟨⟨c, h1, h2, h3⟩, _⟩ := h
    exact ⟨c, h1, h2, by rw [if_pos rfl]; exact h3⟩
  | up, x :: r, h, j + 1, hj => by
    obtain ⟨c, h1, h2, h3⟩ := chn_at h.2 j (by simpa using hj)
    refine ⟨c, h1, h2, ?_⟩
    rw [if_neg (by omega), h3]
    cases j with
    | zero => rfl
    | succ j => rfl
end Go.Proofs.Ytcfmpmhdjkchjaa
