import Derived.Test.YtbkhhegmmkcbbaaDoorSpy
import Derived.Lib.ItoaNum
import Derived.Lib.ItoaMem
namespace Go.Proofs.YtbkhhegmmkcbbaaDoor
open Go.RowKit Go.Maps

/-! Lines by their names alone. -/
theorem lcl_nil (t : ByteArray) : lcl [] t = none := rfl
theorem lcl_cons (x : Pa) (L : List Pa) (t : ByteArray) : lcl (x :: L) t = if x.nm = t then some x.cl else lcl L t := by
  unfold lcl fs
  rw [List.findIdx?_cons]
  by_cases h : x.nm = t
  · rw [if_pos (decide_eq_true h), if_pos h]; rfl
  · rw [if_neg (by rw [decide_eq_true_eq]; exact h), if_neg h, Option.map_map]
    congr 1
theorem lcl_app (A B : List Pa) (t : ByteArray) : lcl (A ++ B) t = match lcl A t with
    | some c => some c
    | none => lcl B t := by
  induction A with
  | nil => rfl
  | cons x A ih =>
    rw [List.cons_append, lcl_cons, lcl_cons, ih]
    split <;> rfl
theorem lcl_noN {L : List Pa} {t : ByteArray} (h : ∀ x ∈ L, x.nm ≠ t) : lcl L t = none := by
  induction L with
  | nil => rfl
  | cons x L ih => rw [lcl_cons, if_neg (h x (List.mem_cons_self ..)), ih fun y hy => h y (List.mem_cons_of_mem _ hy)]
theorem lcl_inS {L : List Pa} {t c : ByteArray} (h : lcl L t = some c) : ∃ x ∈ L, x.nm = t ∧ x.cl = c := by
  induction L with
  | nil => cases h
  | cons x L ih =>
    rw [lcl_cons] at h
    by_cases k : x.nm = t
    · rw [if_pos k] at h; exact ⟨x, List.mem_cons_self .., k, Option.some.inj h⟩
    · rw [if_neg k] at h
      obtain ⟨y, hy, e⟩ := ih h
      exact ⟨y, List.mem_cons_of_mem _ hy, e⟩
def Unq (L : List Pa) : Prop := L.Pairwise fun x y => x.nm ≠ y.nm
theorem lcl_mem {L : List Pa} (h : Unq L) {x : Pa} (hx : x ∈ L) : lcl L x.nm = some x.cl := by
  induction L with
  | nil => cases hx
  | cons y L ih =>
    obtain ⟨h1, h2⟩ := List.pairwise_cons.1 h
    rw [lcl_cons]
    rcases List.mem_cons.1 hx with rfl | hx
    · rw [if_pos rfl]
    · rw [if_neg (h1 x hx), ih h2 hx]
theorem lcl_rev {L : List Pa} (h : Unq L) (t : ByteArray) : lcl L.reverse t = lcl L t := by
  have hr : Unq L.reverse := List.pairwise_reverse.2 (h.imp fun {a b} k => Ne.symm k)
  cases hc : lcl L t with
  | none =>
    refine lcl_noN fun x hx e => ?_
    have := lcl_mem h (List.mem_reverse.1 hx)
    rw [e, hc] at this; cases this
  | some c =>
    obtain ⟨x, hx, e1, e2⟩ := lcl_inS hc
    have := lcl_mem hr (List.mem_reverse.2 hx)
    rw [e1, e2] at this; exact this
theorem lcl_map (g : ByteArray → ByteArray) (L : List Pa) (t : ByteArray) : lcl (L.map fun x => ⟨x.nm, g x.cl⟩) t = (lcl L t).map g := by
  induction L with
  | nil => rfl
  | cons x L ih =>
    rw [List.map_cons, lcl_cons, lcl_cons, ih]
    split <;> rfl
/-- Of each name the first line. -/
def hasN (O : List Pa) (t : ByteArray) : Bool := O.any fun y => decide (y.nm = t)
def ons (O : List Pa) (x : Pa) : List Pa := if hasN O x.nm = true then O else O ++ [x]
def onc (L : List Pa) : List Pa := L.foldl ons []
theorem onc_take (L : List Pa) (i : Nat) (h : i < L.length) : onc (L.take (i + 1)) = ons (onc (L.take i)) (L.getD i paz) := by
  unfold onc
  rw [take_pa L i h, List.foldl_append]; rfl
structure Onc (O L : List Pa) : Prop where
  same : ∀ t, lcl O t = lcl L t
  unq : Unq O
  sub : ∀ x ∈ O, x ∈ L
  len : O.length ≤ L.length
theorem hasN_iff {O : List Pa} {t : ByteArray} : hasN O t = true ↔ ∃ y ∈ O, y.nm = t := by
  unfold hasN
  rw [List.any_eq_true]
  constructor
  · rintro ⟨y, hy, h⟩; exact ⟨y, hy, of_decide_eq_true h⟩
  · rintro ⟨y, hy, h⟩; exact ⟨y, hy, decide_eq_true h⟩
theorem Onc.step {O L : List Pa} (h : Onc O L) (x : Pa) : Onc (ons O x) (L ++ [x]) := by
  unfold ons
  by_cases k : hasN O x.nm = true
  · rw [if_pos k]
    obtain ⟨y, hy, e⟩ := hasN_iff.1 k
    refine ⟨fun t => ?_, h.unq, fun z hz => List.mem_append_left _ (h.sub z hz), by have := h.len; simp; omega⟩
    rw [lcl_app, ← h.same]
    cases hc : lcl O t with
    | some c => rfl
    | none =>
      show none = lcl [x] t
      rw [lcl_cons, lcl_nil, if_neg]
      intro e2
      have := lcl_mem h.unq hy
      rw [e, e2, hc] at this; cases this
  · rw [if_neg k]
    refine ⟨fun t => ?_, ?_, fun z hz => ?_, by have := h.len; simp; omega⟩
    · rw [lcl_app, lcl_app, h.same]
    · refine List.pairwise_append.2 ⟨h.unq, List.pairwise_singleton _ _, fun y hy z hz => ?_⟩
      rw [List.mem_singleton.1 hz]
      exact fun e => k (hasN_iff.2 ⟨y, hy, e⟩)
    · rcases List.mem_append.1 hz with hz | hz
      · exact List.mem_append_left _ (h.sub z hz)
      · exact List.mem_append_right _ hz
theorem onc_is (L : List Pa) : Onc (onc L) L := by
  have key : ∀ (B A : List Pa) (O : List Pa), Onc O A → Onc (B.foldl ons O) (A ++ B) := fun B => by
    induction B with
    | nil => intro A O h; rw [List.append_nil]; exact h
    | cons x B ih =>
      intro A O h
      have := ih (A ++ [x]) (ons O x) (h.step x)
      rw [List.append_assoc] at this
      exact this
  exact key L [] [] ⟨fun _ => rfl, List.Pairwise.nil, fun x hx => (by cases hx), Nat.le_refl _⟩
/-! Digits. -/
def dval (l : List UInt8) : Nat := l.foldl (fun a d => a * 10 + (d.toNat - 48)) 0
theorem dval_dec (u : Nat) : dval (Lib.decDigits u) = u := by
  induction u using Nat.strongRecOn with
  | ind u ih =>
    rw [Lib.decDigits]
    split
    · next h =>
      show 0 * 10 + ((UInt8.ofNat (48 + u)).toNat - 48) = u
      rw [UInt8.toNat_ofNat']; omega
    · next h =>
      unfold dval
      rw [List.foldl_append]
      have := ih (u / 10) (by omega)
      unfold dval at this
      rw [this]
      show u / 10 * 10 + ((UInt8.ofNat (48 + u % 10)).toNat - 48) = u
      rw [UInt8.toNat_ofNat']; omega
theorem dec_inj {i j : Nat} (h : Lib.decDigits i = Lib.decDigits j) : i = j := by rw [← dval_dec i, h, dval_dec]
/-- Another name of a class. -/
def cid (O : List Pa) (c : ByteArray) : Option Nat := O.findIdx? fun y => decide (y.cl = c)
def cnm (i : Nat) : ByteArray := ⟨(99 :: Lib.itoa (i : Int)).toArray⟩
def cld (O : List Pa) (c : ByteArray) : ByteArray := if c = ⟨#[]⟩ then ⟨#[]⟩ else match cid O c with
  | some i => cnm i
  | none => ⟨#[]⟩
theorem cnm_ne (i : Nat) : cnm i ≠ ⟨#[]⟩ := fun e => by
  have h1 : (cnm i).data.toList = [] := by rw [e]
  unfold cnm at h1
  simp at h1
theorem cnm_inj {i j : Nat} (h : cnm i = cnm j) : i = j := by
  have h1 : (cnm i).data.toList = (cnm j).data.toList := by rw [h]
  unfold cnm at h1
  simp only [List.cons.injEq, true_and, Lib.itoa_nonneg] at h1
  exact dec_inj h1
theorem cid_some {O : List Pa} {c : ByteArray} {i : Nat} (h : cid O c = some i) : i < O.length ∧ (O.getD i paz).cl = c := by
  unfold cid at h
  obtain ⟨h1, h2, -⟩ := List.findIdx?_eq_some_iff_getElem.1 h
  refine ⟨h1, ?_⟩
  rw [List.getD_eq_getElem?_getD, List.getElem?_eq_getElem h1]
  exact of_decide_eq_true h2
theorem cid_mem {O : List Pa} {x : Pa} (hx : x ∈ O) : ∃ i, cid O x.cl = some i := by
  cases h : cid O x.cl with
  | some i => exact ⟨i, rfl⟩
  | none =>
    unfold cid at h
    rw [List.findIdx?_eq_none_iff] at h
    have := h x hx
    simp at this
theorem cld_nil (O : List Pa) : cld O ⟨#[]⟩ = ⟨#[]⟩ := if_pos rfl
theorem cld_ne {O : List Pa} {x : Pa} (hx : x ∈ O) (h : x.cl ≠ ⟨#[]⟩) : cld O x.cl ≠ ⟨#[]⟩ := by
  obtain ⟨i, hi⟩ := cid_mem hx
  unfold cld
  rw [if_neg h, hi]
  exact cnm_ne i
theorem cld_inj {O : List Pa} {x y : Pa} (hx : x ∈ O) (hy : y ∈ O) (h : x.cl ≠ ⟨#[]⟩) (k : y.cl ≠ ⟨#[]⟩) (e : cld O x.cl = cld O y.cl) : x.cl = y.cl := by
  obtain ⟨i, hi⟩ := cid_mem hx
  obtain ⟨j, hj⟩ := cid_mem hy
  unfold cld at e
  rw [if_neg h, if_neg k, hi, hj] at e
  have := cnm_inj e
  subst this
  rw [← (cid_some hi).2, (cid_some hj).2]
/-! Classes called otherwise. -/
theorem pcl_map {C D : ByteArray → Option ByteArray} {g : ByteArray → ByteArray} (h : ∀ t, D t = (C t).map g) (T : List Nd) : ∀ (l : List Int) (c : ByteArray), pcl D T (g c) l = g (pcl C T c l)
  | [], _ => rfl
  | x :: l, c => by
    show pcl D T ((D _).getD (g c)) l = g (pcl C T ((C _).getD c) l)
    rw [h, ← pcl_map h T l]
    cases C (T.getD x.toNat ndd).nm <;> rfl
theorem cz_map {C D : ByteArray → Option ByteArray} {g : ByteArray → ByteArray} (h : ∀ t, D t = (C t).map g) (h0 : g ⟨#[]⟩ = ⟨#[]⟩) (T : List Nd) (z : Int) : cz D T z = g (cz C T z) := by
  unfold cz
  split
  · exact h0.symm
  · rw [← pcl_map h T, h0]
theorem pcl_in (C : ByteArray → Option ByteArray) (T : List Nd) : ∀ (l : List Int) (c : ByteArray), pcl C T c l = c ∨ ∃ t, C t = some (pcl C T c l)
  | [], _ => .inl rfl
  | x :: l, c => by
    show pcl C T ((C _).getD c) l = c ∨ ∃ t, C t = some (pcl C T ((C _).getD c) l)
    cases hc : C (T.getD x.toNat ndd).nm with
    | none => exact pcl_in C T l c
    | some d =>
      rcases pcl_in C T l d with h | h
      · exact .inr ⟨_, by rw [hc]; exact congrArg some h.symm⟩
      · exact .inr h
theorem cz_in {O : List Pa} {T : List Nd} {z : Int} (h : cz (lcl O) T z ≠ ⟨#[]⟩) : ∃ x ∈ O, x.cl = cz (lcl O) T z := by
  unfold cz at h ⊢
  split at h
  · exact absurd rfl h
  · next h0 =>
    rw [if_neg h0]
    rcases pcl_in (lcl O) T (pat T z) ⟨#[]⟩ with e | ⟨t, e⟩
    · exact absurd e h
    · obtain ⟨x, hx, -, e2⟩ := lcl_inS e
      exact ⟨x, hx, e2⟩
def rnm (g : ByteArray → ByteArray) (x : Sn) : Sn := ⟨x.fr, x.tt, g x.cl⟩
theorem Can.map {f : Int → ByteArray} {S : List Sn} {g : ByteArray → ByteArray} (h : Can f S) (h0 : g ⟨#[]⟩ = ⟨#[]⟩) (h1 : ∀ x ∈ S, g x.cl ≠ ⟨#[]⟩) (h2 : ∀ x ∈ S, ∀ y ∈ S, g x.cl = g y.cl → x.cl = y.cl) : Can (fun z => g (f z)) (S.map (rnm g)) := by
  refine ⟨fun y hy => ?_, ?_, fun y hy z g1 g2 => ?_, fun z hz => ?_⟩
  · obtain ⟨x, hx, rfl⟩ := List.mem_map.1 hy
    exact ⟨(h.one x hx).1, h1 x hx⟩
  · rw [List.pairwise_map]
    refine (List.Pairwise.and_mem.1 h.two).imp fun {a b} k => ?_
    exact ⟨k.2.2.1, fun e e2 => k.2.2.2 e (h2 a k.1 b k.2.1 e2)⟩
  · obtain ⟨x, hx, rfl⟩ := List.mem_map.1 hy
    show g (f z) = g x.cl
    rw [h.hit x hx z g1 g2]
  · obtain ⟨x, hx, k1, k2⟩ := h.all z fun e => hz (by show g (f z) = _; rw [e, h0])
    exact ⟨rnm g x, List.mem_map.2 ⟨x, hx, rfl⟩, k1, k2⟩
def oth (O : List Pa) : List Pa := O.map fun x => ⟨x.nm, cld O x.cl⟩
theorem spn_oth {O : List Pa} {T : List Nd} (hb : T.length ≤ 1152921504606846976) (hI : ∀ n ∈ T, inI n.fr ∧ inI n.tt ∧ inI n.kd) : spn (lcl (oth O)) T = (spn (lcl O) T).map (rnm (cld O)) := by
  have h1 := spn_can (C := lcl O) hb hI
  have hcl : ∀ x ∈ spn (lcl O) T, ∃ y ∈ O, y.cl = x.cl ∧ y.cl ≠ ⟨#[]⟩ := fun x hx => by
    have k1 := h1.one x hx
    have k2 := h1.hit x hx x.fr (Int.le_refl _) k1.1
    obtain ⟨y, hy, e⟩ := cz_in (O := O) (T := T) (z := x.fr) (by rw [k2]; exact k1.2)
    exact ⟨y, hy, by rw [e, k2], by rw [e, k2]; exact k1.2⟩
  refine Can.uniq (f := cz (lcl (oth O)) T) (spn_can hb hI) ((Can.map (g := cld O) h1 (cld_nil O) (fun x hx => ?_) (fun x hx y hy e => ?_)).congr fun z => (cz_map (fun t => lcl_map (cld O) O t) (cld_nil O) T z).symm)
  · obtain ⟨y, hy, e, k⟩ := hcl x hx
    rw [← e]; exact cld_ne hy k
  · obtain ⟨a, ha, e1, k1⟩ := hcl x hx
    obtain ⟨b, hb, e2, k2⟩ := hcl y hy
    rw [← e1, ← e2] at e ⊢
    exact cld_inj ha hb k1 k2 e
theorem spn_same {A B : List Pa} (h : ∀ t, lcl A t = lcl B t) (T : List Nd) : spn (lcl A) T = spn (lcl B) T := by
  rw [show lcl A = lcl B from funext h]
end Go.Proofs.YtbkhhegmmkcbbaaDoor
