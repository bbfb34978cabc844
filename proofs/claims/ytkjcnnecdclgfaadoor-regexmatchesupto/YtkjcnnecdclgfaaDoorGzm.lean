import Derived.Test.YtkjcnnecdclgfaaDoorGop
namespace Go.Proofs.YtkjcnnecdclgfaaDoor

/-! A longer match, by the tree (pure). -/
/-- From a class on an end can be come to. -/
inductive Co (re : List Nd) (F : Nat → Nat → Bool) (L : Nat → Bool) : Nat → Prop where
  | last (p : Nat) : L p = true → Co re F L p
  | step (p q : Nat) : F p q = true → Cls re q → Co re F L q → Co re F L p
theorem Co.mono {re : List Nd} {F F' : Nat → Nat → Bool} {L L' : Nat → Bool} (hF : ∀ p q, F p q = true → F' p q = true) (hL : ∀ p, L p = true → Co re F' L' p) {p : Nat} (h : Co re F L p) : Co re F' L' p := by
  induction h with
  | last p h => exact hL p h
  | step p q h1 h2 _ ih => exact .step p q (hF p q h1) h2 ih
theorem ofNat_small {c : Nat} (h : c < 256) : (UInt8.ofNat c).toNat = c := by
  rw [UInt8.toNat_ofNat']; omega
theorem co_acc {re : List Nd} {F : Nat → Nat → Bool} {L : Nat → Bool} {p : Nat} (h : Co re F L p) : ∃ s, acc F (fun p => (re.getD p nd0).m) L p s := by
  induction h with
  | last p h => exact ⟨[], h⟩
  | step p q h1 h2 _ ih =>
    obtain ⟨s, hs⟩ := ih
    obtain ⟨c, hc, hm⟩ := h2
    exact ⟨UInt8.ofNat c :: s, q, h1, by rw [ofNat_small hc]; exact hm, hs⟩
theorem co (re : List Nd) (t : Rx) : ∀ o, Wf re t o → ∀ p, ((PT t o).fs p = true ∨ ∃ r, FT t o r p = true) → Co re (FT t o) (PT t o).ls p := by
  induction t with
  | cl m =>
    intro o _ p hp
    rcases hp with hp | ⟨r, hr⟩
    · exact .last p hp
    · cases hr
  | em =>
    intro o _ p hp
    rcases hp with hp | ⟨r, hr⟩
    · cases hp
    · cases hr
  | cat a b iha ihb =>
    rintro o ⟨h1, h2⟩ p hp
    have A := iha o h1
    have B := ihb _ h2
    have LB := lv re b _ h2
    have liftB : ∀ p, Co re (FT b (o + a.sz)) (PT b (o + a.sz)).ls p → Co re (FT (.cat a b) o) (PT (.cat a b) o).ls p := fun p h =>
      h.mono (fun p q h => by simp [FT, h]) (fun p h => .last p (by simp [PT, ptCat, h]))
    have liftA : ∀ p, Co re (FT a o) (PT a o).ls p → Co re (FT (.cat a b) o) (PT (.cat a b) o).ls p := fun p h =>
      h.mono (fun p q h => by simp [FT, h]) (fun p h => by
        rcases LB.some with hn | ⟨q, hq⟩
        · exact .last p (by simp [PT, ptCat, h, hn])
        · exact .step p q (by simp [FT, h, hq]) (LB.fc q hq) (liftB q (B q (.inl hq))))
    rcases hp with hp | ⟨r, hr⟩
    · simp only [PT, ptCat, Bool.or_eq_true, Bool.and_eq_true] at hp
      rcases hp with hp | hp
      · exact liftA p (A p (.inl hp))
      · exact liftB p (B p (.inl hp.2))
    · simp only [FT, Bool.or_eq_true, Bool.and_eq_true] at hr
      rcases hr with (hr | hr) | hr
      · exact liftA p (A p (.inr ⟨r, hr⟩))
      · exact liftB p (B p (.inr ⟨r, hr⟩))
      · exact liftB p (B p (.inl hr.2))
  | alt a b iha ihb =>
    rintro o ⟨h1, h2⟩ p hp
    have A := iha o h1
    have B := ihb _ h2
    have liftB : ∀ p, Co re (FT b (o + a.sz)) (PT b (o + a.sz)).ls p → Co re (FT (.alt a b) o) (PT (.alt a b) o).ls p := fun p h =>
      h.mono (fun p q h => by simp [FT, h]) (fun p h => .last p (by simp [PT, ptOr, h]))
    have liftA : ∀ p, Co re (FT a o) (PT a o).ls p → Co re (FT (.alt a b) o) (PT (.alt a b) o).ls p := fun p h =>
      h.mono (fun p q h => by simp [FT, h]) (fun p h => .last p (by simp [PT, ptOr, h]))
    rcases hp with hp | ⟨r, hr⟩
    · simp only [PT, ptOr, Bool.or_eq_true] at hp
      rcases hp with hp | hp
      · exact liftA p (A p (.inl hp))
      · exact liftB p (B p (.inl hp))
    · simp only [FT, Bool.or_eq_true] at hr
      rcases hr with hr | hr
      · exact liftA p (A p (.inr ⟨r, hr⟩))
      · exact liftB p (B p (.inr ⟨r, hr⟩))
  | st a iha | pl a iha =>
    intro o h1 p hp
    have A := iha o h1
    have lift : ∀ p, Co re (FT a o) (PT a o).ls p → Co re (fun p q => FT a o p q || ((PT a o).ls p && (PT a o).fs q)) (PT a o).ls p := fun p h =>
      h.mono (fun p q h => by simp [h]) (fun p h => .last p h)
    rcases hp with hp | ⟨r, hr⟩
    · exact lift p (A p (.inl hp))
    · simp only [FT, Bool.or_eq_true, Bool.and_eq_true] at hr
      rcases hr with hr | hr
      · exact lift p (A p (.inr ⟨r, hr⟩))
      · exact lift p (A p (.inl hr.2))
  | op a iha =>
    intro o h1 p hp
    exact iha o h1 p hp
/-- **OPEN JUST IF SOMETHING LONGER IS MATCHED.** -/
theorem opn_lang {re : List Nd} {t : Rx} (hs : Sh re = true) (h : t.sz = re.length) (ht : Tr re t 0) (s : List UInt8) : Opn re s = true ↔ ∃ c r, Lang t (s ++ c :: r) := by
  constructor
  · intro ho
    obtain ⟨z, hz, _, hl, _⟩ := Sh_parts hs
    obtain ⟨k1, k2⟩ := sv_tree h ht
    have hW := wok_SV re
    have hwf := wf_of hz t 0 ht
    have L := lv re t 0 hwf
    have hin : ∀ p, (RD re s).2 p = true → ((PT t 0).fs p = true ∨ ∃ r, FT t 0 r p = true) := by
      unfold RD
      rw [if_pos hs]
      refine nx_in (fun p => (PT t 0).fs p = true ∨ ∃ r, FT t 0 r p = true) (fun p q h => .inr ⟨p, by rw [← k2]; exact h⟩) s _ (fun p hp => .inl (by rw [← k1]; exact hp))
    obtain ⟨p, _, hp⟩ := (opn_iff re s).1 ho
    obtain ⟨r, hr⟩ := co_acc (co re t 0 hwf p (hin p hp))
    have hc : Cls re p := by
      rcases hin p hp with h | ⟨r, h⟩
      · exact L.fc p h
      · exact L.lc r p h
    obtain ⟨c, hc1, hc2⟩ := hc
    have hun : Un re.length (RD re s).2 := by
      unfold RD
      rw [if_pos hs]
      exact un_rds _ hW s _ (hW.fs _)
    refine ⟨UInt8.ofNat c, r, (RD_lang hs h ht _).1 ?_⟩
    have e : RD re (s ++ UInt8.ofNat c :: r) = rds re (SV re) ((SV re).pt (re.length - 1)).ls (UInt8.ofNat c :: r) ((RD re s).1, (RD re s).2) := by
      unfold RD
      rw [if_pos hs, if_pos hs, rds_app]
    rw [e, rds_acc re (SV re) _ hW hl r _ _ _ hun, k1, k2]
    exact ⟨p, hp, by rw [ofNat_small hc1]; exact hc2, hr⟩
  · rintro ⟨c, r, hr⟩
    exact opn_more re s c r ((RD_lang hs h ht _).2 hr)
/-- All bytes are taken, and a byte more is taken: by the tree. -/
def Cut : Rx → List UInt8 → Prop
  | .cl _, s => s = []
  | .em, _ => False
  | .cat a b, s => Cut a s ∨ ∃ x y, s = x ++ y ∧ Lang a x ∧ Cut b y
  | .alt a b, s => Cut a s ∨ Cut b s
  | .st a, s => ∃ x y, s = x ++ y ∧ Str (Lang a) x ∧ Cut a y
  | .pl a, s => ∃ x y, s = x ++ y ∧ Str (Lang a) x ∧ Cut a y
  | .op a, s => Cut a s
/-- Each class has a byte. -/
def Liv : Rx → Prop
  | .cl m => ∃ c, c < 256 ∧ m c = true
  | .em => True
  | .cat a b => Liv a ∧ Liv b
  | .alt a b => Liv a ∧ Liv b
  | .st a => Liv a
  | .pl a => Liv a
  | .op a => Liv a
theorem liv_of {re : List Nd} {z : List Nat} (h : szs re [] = some z) (t : Rx) : ∀ o, Tr re t o → Liv t := by
  induction t with
  | cl m =>
    rintro o ⟨n, h1, h2, h3⟩
    obtain ⟨c, k1, k2⟩ := cls_of h h1 h2
    rw [List.getD_eq_getElem?_getD, h1] at k2
    exact ⟨c, k1, by rw [← h3]; exact k2⟩
  | em => intro o _; trivial
  | cat a b iha ihb => rintro o ⟨h1, h2, _⟩; exact ⟨iha o h1, ihb _ h2⟩
  | alt a b iha ihb => rintro o ⟨h1, h2, _⟩; exact ⟨iha o h1, ihb _ h2⟩
  | st a iha => rintro o ⟨h1, _⟩; exact iha o h1
  | pl a iha => rintro o ⟨h1, _⟩; exact iha o h1
  | op a iha => rintro o ⟨h1, _⟩; exact iha o h1
theorem liv_some (t : Rx) : Liv t → ∃ s, Lang t s := by
  induction t with
  | cl m => rintro ⟨c, h1, h2⟩; exact ⟨[UInt8.ofNat c], _, rfl, by rw [ofNat_small h1]; exact h2⟩
  | em => intro _; exact ⟨[], rfl⟩
  | cat a b iha ihb =>
    rintro ⟨h1, h2⟩
    obtain ⟨x, hx⟩ := iha h1
    obtain ⟨y, hy⟩ := ihb h2
    exact ⟨x ++ y, x, y, rfl, hx, hy⟩
  | alt a b iha ihb => rintro ⟨h1, _⟩; obtain ⟨x, hx⟩ := iha h1; exact ⟨x, .inl hx⟩
  | st a iha => intro _; exact ⟨[], .nil⟩
  | pl a iha => intro h1; obtain ⟨x, hx⟩ := iha h1; exact ⟨x ++ [], x, [], rfl, hx, .nil⟩
  | op a iha => intro _; exact ⟨[], .inl rfl⟩
theorem str_snoc {L : List UInt8 → Prop} {x y : List UInt8} (h : Str L x) (k : L y) : Str L (x ++ y) := by
  induction h with
  | nil => rw [List.nil_append]; have := str_app k .nil; rwa [List.append_nil] at this
  | cons u v h1 h2 _ ih => rw [List.append_assoc]; exact .cons u _ h1 h2 ih
theorem str_cut {L K : List UInt8 → Prop} (hK : ∀ s c r, L (s ++ c :: r) → K s) {w : List UInt8} (h : Str L w) : ∀ s c r, w = s ++ c :: r → ∃ x y, s = x ++ y ∧ Str L x ∧ K y := by
  induction h with
  | nil => intro s c r e; simp at e
  | cons u v h1 h2 h3 ih =>
    intro s c r e
    rcases List.append_eq_append_iff.1 e with ⟨a', e1, e2⟩ | ⟨c', e1, e2⟩
    · obtain ⟨x, y, k1, k2, k3⟩ := ih a' c r e2
      exact ⟨u ++ x, y, by rw [e1, k1, List.append_assoc], .cons u x h1 h2 k2, k3⟩
    · cases c' with
      | nil =>
        rw [List.nil_append] at e2
        obtain ⟨x, y, k1, k2, k3⟩ := ih [] c r (by rw [List.nil_append]; exact e2.symm)
        rw [List.append_nil] at e1
        exact ⟨u ++ x, y, by rw [List.append_assoc, ← k1, List.append_nil, e1], .cons u x h1 h2 k2, k3⟩
      | cons d c' => exact ⟨[], s, rfl, .nil, hK s d c' (by rw [← e1]; exact h2)⟩
theorem cut_iff (t : Rx) : Liv t → ∀ s, Cut t s ↔ ∃ c r, Lang t (s ++ c :: r) := by
  induction t with
  | cl m =>
    rintro ⟨c, h1, h2⟩ s
    constructor
    · rintro rfl
      exact ⟨UInt8.ofNat c, [], _, rfl, by rw [ofNat_small h1]; exact h2⟩
    · rintro ⟨d, r, e, h3, _⟩
      cases s with
      | nil => rfl
      | cons x s => simp at h3
  | em =>
    intro _ s
    constructor
    · intro h; exact h.elim
    · rintro ⟨c, r, h⟩
      have h' : s ++ c :: r = [] := h
      simp at h'
  | cat a b iha ihb =>
    rintro ⟨h1, h2⟩ s
    constructor
    · rintro (h | ⟨x, y, rfl, h, k⟩)
      · obtain ⟨c, r, hr⟩ := (iha h1 s).1 h
        obtain ⟨y, hy⟩ := liv_some b h2
        exact ⟨c, r ++ y, s ++ c :: r, y, by simp, hr, hy⟩
      · obtain ⟨c, r, hr⟩ := (ihb h2 y).1 k
        exact ⟨c, r, x, y ++ c :: r, by simp, h, hr⟩
    · rintro ⟨c, r, x, y, e, hx, hy⟩
      rcases List.append_eq_append_iff.1 e with ⟨a', e1, e2⟩ | ⟨c', e1, e2⟩
      · cases a' with
        | nil =>
          rw [List.nil_append] at e2
          rw [List.append_nil] at e1
          refine .inr ⟨x, [], by rw [List.append_nil, e1], hx, (ihb h2 []).2 ⟨c, r, ?_⟩⟩
          rw [List.nil_append, e2]; exact hy
        | cons d a' => exact .inl ((iha h1 s).2 ⟨d, a', by rw [← e1]; exact hx⟩)
      · exact .inr ⟨x, c', e1, hx, (ihb h2 c').2 ⟨c, r, by rw [← e2]; exact hy⟩⟩
  | alt a b iha ihb =>
    rintro ⟨h1, h2⟩ s
    constructor
    · rintro (h | h)
      · obtain ⟨c, r, hr⟩ := (iha h1 s).1 h; exact ⟨c, r, .inl hr⟩
      · obtain ⟨c, r, hr⟩ := (ihb h2 s).1 h; exact ⟨c, r, .inr hr⟩
    · rintro ⟨c, r, hr | hr⟩
      · exact .inl ((iha h1 s).2 ⟨c, r, hr⟩)
      · exact .inr ((ihb h2 s).2 ⟨c, r, hr⟩)
  | st a iha =>
    intro h1 s
    constructor
    · rintro ⟨x, y, rfl, h, k⟩
      obtain ⟨c, r, hr⟩ := (iha h1 y).1 k
      refine ⟨c, r, ?_⟩
      rw [List.append_assoc]
      exact str_snoc h hr
    · rintro ⟨c, r, hr⟩
      exact str_cut (fun s c r h => (iha h1 s).2 ⟨c, r, h⟩) hr s c r rfl
  | pl a iha =>
    intro h1 s
    constructor
    · rintro ⟨x, y, rfl, h, k⟩
      obtain ⟨c, r, hr⟩ := (iha h1 y).1 k
      refine ⟨c, r, ?_⟩
      rw [List.append_assoc]
      cases h with
      | nil => exact ⟨y ++ c :: r, [], by simp, hr, .nil⟩
      | cons u v _ h3 h4 => exact ⟨u, v ++ (y ++ c :: r), by rw [List.append_assoc], h3, str_snoc h4 hr⟩
    · rintro ⟨c, r, x, y, e, h3, h4⟩
      exact str_cut (fun s c r h => (iha h1 s).2 ⟨c, r, h⟩) (str_app h3 h4) s c r e.symm
  | op a iha =>
    intro h1 s
    constructor
    · intro h
      obtain ⟨c, r, hr⟩ := (iha h1 s).1 h
      exact ⟨c, r, .inr hr⟩
    · rintro ⟨c, r, h | h⟩
      · simp at h
      · exact (iha h1 s).2 ⟨c, r, h⟩
/-- **OPEN, BY THE TREE.** -/
theorem opn_cut {re : List Nd} {t : Rx} (hs : Sh re = true) (h : t.sz = re.length) (ht : Tr re t 0) (s : List UInt8) : Opn re s = true ↔ Cut t s := by
  obtain ⟨z, hz, _⟩ := Sh_parts hs
  rw [opn_lang hs h ht, cut_iff t (liv_of hz t 0 ht)]
end Go.Proofs.YtkjcnnecdclgfaaDoor
namespace Go.Proofs.YtkjcnnecdclgfaaDoor

/-! What a node comes to from a place of a string: its rules (pure). -/
def seg (s : List UInt8) (p q : Nat) : List UInt8 := (s.take q).drop p
theorem seg_len (s : List UInt8) {p q : Nat} (h : q ≤ s.length) : (seg s p q).length = q - p := by
  simp [seg]; omega
theorem seg_app (s : List UInt8) {p k q : Nat} (h1 : p ≤ k) (h2 : k ≤ q) : seg s p k ++ seg s k q = seg s p q := by
  have e1 : seg s p k = (seg s p q).take (k - p) := by
    unfold seg
    rw [List.take_drop, List.take_take, show min (p + (k - p)) q = k by omega]
  have e2 : seg s k q = (seg s p q).drop (k - p) := by
    unfold seg
    rw [List.drop_drop, show p + (k - p) = k by omega]
  rw [e1, e2, List.take_append_drop]
theorem seg_split (s : List UInt8) {p q : Nat} {x y : List UInt8} (h1 : p ≤ q) (h2 : q ≤ s.length) (e : seg s p q = x ++ y) : p + x.length ≤ q ∧ seg s p (p + x.length) = x ∧ seg s (p + x.length) q = y := by
  have hl : q - p = x.length + y.length := by rw [← seg_len s h2, e, List.length_append]
  have h3 : p + x.length ≤ q := by omega
  have e2 := (seg_app s (show p ≤ p + x.length by omega) h3).trans e
  have := List.append_inj e2 (by rw [seg_len s (by omega)]; omega)
  exact ⟨h3, this.1, this.2⟩
theorem seg_self (s : List UInt8) (p : Nat) : seg s p p = [] := by
  apply List.eq_nil_of_length_eq_zero
  simp [seg]
theorem seg_none (s : List UInt8) {p q : Nat} (h1 : p ≤ q) (h2 : q ≤ s.length) (e : seg s p q = []) : p = q := by
  have := seg_len s (p := p) h2
  rw [e] at this
  simp at this
  omega
theorem seg_one (s : List UInt8) {p : Nat} (h : p < s.length) : seg s p (p + 1) = [s.getD p 0] := by
  unfold seg
  rw [List.take_add_one, List.drop_append, List.drop_eq_nil_of_le (by simp; omega)]
  have e : (List.take p s).length = p := by simp; omega
  rw [e, Nat.sub_self, List.getD_eq_getElem?_getD, List.getElem?_eq_getElem h]
  rfl
/-- Where a tree may end that begins at p. -/
def En (t : Rx) (s : List UInt8) (p q : Nat) : Prop := p ≤ q ∧ q ≤ s.length ∧ Lang t (seg s p q)
/-- Where it may be in the midst. -/
def Kn (t : Rx) (s : List UInt8) (p q : Nat) : Prop := p ≤ q ∧ q ≤ s.length ∧ Cut t (seg s p q)
/-- In steps. -/
inductive Rt (R : Nat → Nat → Prop) (p : Nat) : Nat → Prop where
  | refl : Rt R p p
  | step (k q : Nat) : Rt R p k → R k q → Rt R p q
theorem Rt.head {R : Nat → Nat → Prop} {p k q : Nat} (h : R p k) (g : Rt R k q) : Rt R p q := by
  induction g with
  | refl => exact .step p _ .refl h
  | step a b _ h2 ih => exact .step a b ih h2
variable {s : List UInt8}
theorem En_cl {m : Nat → Bool} {p q : Nat} : En (.cl m) s p q ↔ q = p + 1 ∧ p < s.length ∧ m (s.getD p 0).toNat = true := by
  constructor
  · rintro ⟨h1, h2, c, e, h3⟩
    have := seg_len s (p := p) h2
    rw [e] at this
    have hq : q = p + 1 := by simp at this; omega
    subst hq
    rw [seg_one s h2] at e
    injection e with e1
    exact ⟨rfl, h2, by rw [e1]; exact h3⟩
  · rintro ⟨rfl, h1, h2⟩
    exact ⟨by omega, h1, _, seg_one s h1, h2⟩
theorem Kn_cl {m : Nat → Bool} {p q : Nat} : Kn (.cl m) s p q ↔ p = q ∧ p ≤ s.length := by
  constructor
  · rintro ⟨h1, h2, e⟩
    have := seg_none s h1 h2 e
    exact ⟨this, by omega⟩
  · rintro ⟨rfl, h1⟩
    exact ⟨Nat.le_refl _, h1, seg_self s p⟩
theorem En_em {p q : Nat} : En .em s p q ↔ p = q ∧ p ≤ s.length := by
  constructor
  · rintro ⟨h1, h2, e⟩
    have := seg_none s h1 h2 e
    exact ⟨this, by omega⟩
  · rintro ⟨rfl, h1⟩
    exact ⟨Nat.le_refl _, h1, seg_self s p⟩
theorem Kn_em {p q : Nat} : ¬ Kn .em s p q := fun h => h.2.2
theorem En_cat {a b : Rx} {p q : Nat} : En (.cat a b) s p q ↔ ∃ k, En a s p k ∧ En b s k q := by
  constructor
  · rintro ⟨h1, h2, x, y, e, hx, hy⟩
    obtain ⟨k1, k2, k3⟩ := seg_split s h1 h2 e
    exact ⟨p + x.length, ⟨by omega, by omega, by rw [k2]; exact hx⟩, k1, h2, by rw [k3]; exact hy⟩
  · rintro ⟨k, ⟨h1, h2, h3⟩, h4, h5, h6⟩
    exact ⟨by omega, h5, _, _, (seg_app s h1 h4).symm, h3, h6⟩
theorem Kn_cat {a b : Rx} {p q : Nat} : Kn (.cat a b) s p q ↔ Kn a s p q ∨ ∃ k, En a s p k ∧ Kn b s k q := by
  constructor
  · rintro ⟨h1, h2, h | ⟨x, y, e, hx, hy⟩⟩
    · exact .inl ⟨h1, h2, h⟩
    · obtain ⟨k1, k2, k3⟩ := seg_split s h1 h2 e
      exact .inr ⟨p + x.length, ⟨by omega, by omega, by rw [k2]; exact hx⟩, k1, h2, by rw [k3]; exact hy⟩
  · rintro (⟨h1, h2, h⟩ | ⟨k, ⟨h1, h2, h3⟩, h4, h5, h6⟩)
    · exact ⟨h1, h2, .inl h⟩
    · exact ⟨by omega, h5, .inr ⟨_, _, (seg_app s h1 h4).symm, h3, h6⟩⟩
theorem En_alt {a b : Rx} {p q : Nat} : En (.alt a b) s p q ↔ En a s p q ∨ En b s p q := by
  constructor
  · rintro ⟨h1, h2, h | h⟩
    · exact .inl ⟨h1, h2, h⟩
    · exact .inr ⟨h1, h2, h⟩
  · rintro (⟨h1, h2, h⟩ | ⟨h1, h2, h⟩)
    · exact ⟨h1, h2, .inl h⟩
    · exact ⟨h1, h2, .inr h⟩
theorem Kn_alt {a b : Rx} {p q : Nat} : Kn (.alt a b) s p q ↔ Kn a s p q ∨ Kn b s p q := by
  constructor
  · rintro ⟨h1, h2, h | h⟩
    · exact .inl ⟨h1, h2, h⟩
    · exact .inr ⟨h1, h2, h⟩
  · rintro (⟨h1, h2, h⟩ | ⟨h1, h2, h⟩)
    · exact ⟨h1, h2, .inl h⟩
    · exact ⟨h1, h2, .inr h⟩
theorem En_op {a : Rx} {p q : Nat} : En (.op a) s p q ↔ (p = q ∧ p ≤ s.length) ∨ En a s p q := by
  constructor
  · rintro ⟨h1, h2, h | h⟩
    · have := seg_none s h1 h2 h
      exact .inl ⟨this, by omega⟩
    · exact .inr ⟨h1, h2, h⟩
  · rintro (⟨rfl, h1⟩ | ⟨h1, h2, h⟩)
    · exact ⟨Nat.le_refl _, h1, .inl (seg_self s p)⟩
    · exact ⟨h1, h2, .inr h⟩
theorem Kn_op {a : Rx} {p q : Nat} : Kn (.op a) s p q ↔ Kn a s p q := Iff.rfl
theorem str_rt {a : Rx} {q : Nat} (h2 : q ≤ s.length) {y : List UInt8} (h : Str (Lang a) y) : ∀ p, p ≤ q → seg s p q = y → Rt (En a s) p q := by
  induction h with
  | nil => intro p h1 e; rw [seg_none s h1 h2 e]; exact .refl
  | cons u v _ hu _ ih =>
    intro p h1 e
    obtain ⟨k1, k2, k3⟩ := seg_split s h1 h2 e
    exact Rt.head ⟨by omega, by omega, by rw [k2]; exact hu⟩ (ih _ k1 k3)
theorem rt_str {a : Rx} {p k : Nat} (h : p ≤ s.length) (g : Rt (En a s) p k) : p ≤ k ∧ k ≤ s.length ∧ Str (Lang a) (seg s p k) := by
  induction g with
  | refl => exact ⟨Nat.le_refl _, h, by rw [seg_self]; exact .nil⟩
  | step k q _ h2 ih =>
    refine ⟨by have := h2.1; omega, h2.2.1, ?_⟩
    rw [← seg_app s ih.1 h2.1]
    exact str_snoc ih.2.2 h2.2.2
theorem rt_last {a : Rx} {p k q : Nat} (h : En a s p k) (g : Rt (En a s) k q) : ∃ j, Rt (En a s) p j ∧ En a s j q := by
  cases g with
  | refl => exact ⟨p, .refl, h⟩
  | step j _ h1 h2 => exact ⟨j, Rt.head h h1, h2⟩
theorem En_pl {a : Rx} {p q : Nat} (hp : p ≤ s.length) : En (.pl a) s p q ↔ ∃ k, Rt (En a s) p k ∧ En a s k q := by
  constructor
  · rintro ⟨h1, h2, x, y, e, hx, hy⟩
    obtain ⟨k1, k2, k3⟩ := seg_split s h1 h2 e
    exact rt_last (k := p + x.length) ⟨by omega, by omega, by rw [k2]; exact hx⟩ (str_rt h2 hy _ k1 k3)
  · rintro ⟨k, h1, h2⟩
    obtain ⟨k1, k2, k3⟩ := rt_str hp h1
    refine ⟨by have := h2.1; omega, h2.2.1, ?_⟩
    rw [← seg_app s k1 h2.1]
    generalize seg s p k = x at k3
    cases k3 with
    | nil => exact ⟨seg s k q, [], by simp, h2.2.2, .nil⟩
    | cons u v _ h3 h4 => exact ⟨u, v ++ seg s k q, by rw [List.append_assoc], h3, str_snoc h4 h2.2.2⟩
theorem En_st {a : Rx} {p q : Nat} (hp : p ≤ s.length) : En (.st a) s p q ↔ p = q ∨ ∃ k, Rt (En a s) p k ∧ En a s k q := by
  constructor
  · rintro ⟨h1, h2, h⟩
    have g := str_rt h2 h p h1 rfl
    cases g with
    | refl => exact .inl rfl
    | step j _ k1 k2 => exact .inr ⟨j, k1, k2⟩
  · rintro (rfl | ⟨k, h1, h2⟩)
    · exact ⟨Nat.le_refl _, hp, by rw [seg_self]; exact .nil⟩
    · exact rt_str hp (.step k q h1 h2)
theorem Kn_st {a : Rx} {p q : Nat} (hp : p ≤ s.length) : Kn (.st a) s p q ↔ ∃ k, Rt (En a s) p k ∧ Kn a s k q := by
  constructor
  · rintro ⟨h1, h2, x, y, e, hx, hy⟩
    obtain ⟨k1, k2, k3⟩ := seg_split s h1 h2 e
    exact ⟨p + x.length, str_rt (by omega) hx p (by omega) k2, k1, h2, by rw [k3]; exact hy⟩
  · rintro ⟨k, h1, h2⟩
    obtain ⟨k1, k2, k3⟩ := rt_str hp h1
    exact ⟨by have := h2.1; omega, h2.2.1, _, _, (seg_app s k1 h2.1).symm, k3, h2.2.2⟩
theorem Kn_pl {a : Rx} {p q : Nat} (hp : p ≤ s.length) : Kn (.pl a) s p q ↔ ∃ k, Rt (En a s) p k ∧ Kn a s k q := Kn_st (a := a) hp
/-- In truth values. -/
noncomputable def enB (t : Rx) (s : List UInt8) (p q : Nat) : Bool := @decide (En t s p q) (Classical.propDecidable _)
noncomputable def knB (t : Rx) (s : List UInt8) (p q : Nat) : Bool := @decide (Kn t s p q) (Classical.propDecidable _)
theorem enB_iff {t : Rx} {p q : Nat} : enB t s p q = true ↔ En t s p q := @decide_eq_true_iff _ (Classical.propDecidable _)
theorem knB_iff {t : Rx} {p q : Nat} : knB t s p q = true ↔ Kn t s p q := @decide_eq_true_iff _ (Classical.propDecidable _)
/-- **THE WHOLE STRING.** -/
theorem seg_all (s : List UInt8) : seg s 0 s.length = s := by simp [seg]
theorem RD_en {re : List Nd} {t : Rx} (hs : Sh re = true) (h : t.sz = re.length) (ht : Tr re t 0) : (RD re s).1 = enB t s 0 s.length ∧ Opn re s = knB t s 0 s.length := by
  constructor
  · rw [Bool.eq_iff_iff, RD_lang hs h ht, enB_iff]
    exact ⟨fun k => ⟨Nat.zero_le _, Nat.le_refl _, by rw [seg_all]; exact k⟩, fun k => by have := k.2.2; rwa [seg_all] at this⟩
  · rw [Bool.eq_iff_iff, opn_cut hs h ht, knB_iff]
    exact ⟨fun k => ⟨Nat.zero_le _, Nat.le_refl _, by rw [seg_all]; exact k⟩, fun k => by have := k.2.2; rwa [seg_all] at this⟩
end Go.Proofs.YtkjcnnecdclgfaaDoor
