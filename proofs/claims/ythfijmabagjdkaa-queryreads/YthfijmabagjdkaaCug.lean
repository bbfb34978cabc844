import Derived.Test.YthfijmabagjdkaaCuf
namespace Go.Proofs.Ythfijmabagjdkaa
open Go.RowKit Go.Maps

theorem ext_list (s : ByteArray) (a b : Nat) : (s.extract a b).data.toList = (s.data.toList.drop a).take (b - a) := by
  rw [ByteArray.data_extract, Array.toList_extract]
theorem ext_size (s : ByteArray) (a b : Nat) (hb : b ≤ s.size) : (s.extract a b).size = b - a := by
  rw [ByteArray.size_extract]; omega
section
variable {A : Sum (Nat × Nat) (List Wd)} {s : ByteArray} {c : Cs}
/-- In a comment; the next place is k. -/
structure Cmt (A : Sum (Nat × Nat) (List Wd)) (s : ByteArray) (k : Nat) (c : Cs) : Prop where
  hs : c.s = s
  co : c.co = 0
  n : c.n = 0
  bs : c.bs = []
  wl : c.ws.length ≤ k
  a : A = pfx c.ws (cutC k (s.data.toList.drop k))
/-- In a name that begins at f; k has been read. -/
structure Nam (A : Sum (Nat × Nat) (List Wd)) (s : ByteArray) (f k : Nat) (c : Cs) : Prop where
  w : Wrd A s f c
  n : c.n = 0
  bs : c.bs = []
  l : isL (nI (s.get! f)) = true
  fk : f ≤ k
  t : k + 1 ≤ f + tw isN (s.data.toList.drop f)
  a : A = pfx c.ws (cut f (s.data.toList.drop f))
/-- In a number that begins at f; k has been read, the number is that ahead of it. -/
structure Num (A : Sum (Nat × Nat) (List Wd)) (s : ByteArray) (f k : Nat) (c : Cs) : Prop where
  w : Wrd A s f c
  n : c.n = nvf 0 ((s.data.toList.drop f).take (k - f))
  bs : c.bs = []
  l : isD (nI (s.get! f)) = true
  fk : f ≤ k
  t : k + 1 ≤ f + tw isD (s.data.toList.drop f)
  a : A = pfx c.ws (cut f (s.data.toList.drop f))
/-- In a string that begins at f; the next place is k. -/
structure Txt (A : Sum (Nat × Nat) (List Wd)) (s : ByteArray) (f k : Nat) (c : Cs) : Prop where
  w : Wrd A s f c
  n : c.n = 0
  bl : c.bs.length ≤ k
  fk : f < k
  a : A = pfx c.ws (stR s.data.toList f (st 0 0 (s.data.toList.drop k) (k - f) c.bs))
/-- In a regex that begins at f; the next place is k. -/
structure Rgx (A : Sum (Nat × Nat) (List Wd)) (s : ByteArray) (f k : Nat) (c : Cs) : Prop where
  w : Wrd A s f c
  n : c.n = 0
  bs : c.bs = []
  fk : f < k
  a : A = pfx c.ws (rgR s.data.toList f (rg false (s.data.toList.drop k) (k - f)))

theorem Mid.over {k : Nat} {c' : Cs} (h : Mid A s k c) (h1 : c'.s = c.s) (h2 : c'.co = c.co) (h3 : c'.n = c.n) (h4 : c'.bs = c.bs) (h5 : c'.ws = c.ws) : Mid A s k c' := ⟨h1.trans h.hs, h2.trans h.co, h3.trans h.n, h4.trans h.bs, by rw [h5]; exact h.wl, by rw [h5]; exact h.a⟩
theorem Mid.blank {k : Nat} (h : Mid A s k c) (hb : isB (rd s k) = true) : Mid A s (k + 1) c := by
  have hk : k < s.size := rd_lt (fun e => by rw [e] at hb; exact absurd hb (by decide))
  rw [rd_at hk] at hb
  refine ⟨h.hs, h.co, h.n, h.bs, Nat.le_succ_of_le h.wl, ?_⟩
  rw [h.a, drop_at s k hk, cut_bl _ _ _ hb]
theorem Mid.hash {k : Nat} (h : Mid A s k c) (hb : rd s k = 35) : Cmt A s (k + 1) c := by
  obtain ⟨hk, hx⟩ := rd_in hb (by decide)
  refine ⟨h.hs, h.co, h.n, h.bs, Nat.le_succ_of_le h.wl, ?_⟩
  rw [h.a, drop_at s k hk, cut_hash _ _ _ hx]
theorem Mid.done {k : Nat} (h : Mid A s k c) (hb : rd s k = -1) : Res A c := by
  refine .inl ⟨h.co, ?_⟩
  rw [h.a, drop_end s k (rd_out hb), cut_end k (by simp)]
  simp [pfx]
theorem Cmt.on {k : Nat} (h : Cmt A s k c) (h1 : rd s k ≠ -1) (h2 : rd s k ≠ 10) : Cmt A s (k + 1) c := by
  have hk := rd_lt h1
  rw [rd_at hk] at h2
  refine ⟨h.hs, h.co, h.n, h.bs, Nat.le_succ_of_le h.wl, ?_⟩
  rw [h.a, drop_at s k hk, cutC_on _ _ _ h2]
theorem Cmt.out {k : Nat} (h : Cmt A s k c) (h1 : rd s k = -1 ∨ rd s k = 10) : Mid A s k c := by
  refine ⟨h.hs, h.co, h.n, h.bs, h.wl, ?_⟩
  rw [h.a]
  rcases h1 with h1 | h1
  · rw [drop_end s k (rd_out h1), cutC_nil]
  · obtain ⟨hk, hx⟩ := rd_in h1 (by decide)
    rw [drop_at s k hk, cutC_nl _ _ _ hx]
theorem Mid.name {k : Nat} (h : Mid A s k c) (hf : c.f = (k : Int)) (hb : isL (rd s k) = true) : Nam A s k k c := by
  have hk : k < s.size := rd_lt (fun e => by rw [e] at hb; exact absurd hb (by decide))
  rw [rd_at hk] at hb
  refine ⟨⟨h.hs, h.co, hf, hk, h.wl⟩, h.n, h.bs, hb, Nat.le_refl _, ?_, h.a⟩
  have := tw_pos isN (s.get! k) (s.data.toList.drop (k + 1)) (isN_L hb)
  rw [drop_at s k hk]
  omega
theorem Mid.num {k : Nat} (h : Mid A s k c) (hf : c.f = (k : Int)) (hb : isD (rd s k) = true) : Num A s k k c := by
  have hk : k < s.size := rd_lt (fun e => by rw [e] at hb; exact absurd hb (by decide))
  rw [rd_at hk] at hb
  refine ⟨⟨h.hs, h.co, hf, hk, h.wl⟩, ?_, h.bs, hb, Nat.le_refl _, ?_, h.a⟩
  · rw [Nat.sub_self, List.take_zero, h.n]; rfl
  · have := tw_pos isD (s.get! k) (s.data.toList.drop (k + 1)) hb
    rw [drop_at s k hk]
    omega
theorem tw_at (p : Int → Bool) (s : ByteArray) (f k : Nat) (hk : k < s.size) (hfk : f ≤ k) (h : k ≤ f + tw p (s.data.toList.drop f)) (hp : p (nI (s.get! k)) = true) : k + 1 ≤ f + tw p (s.data.toList.drop f) := by
  have e : s.data.toList.drop f = (s.data.toList.drop f).take (k - f) ++ s.data.toList.drop k := by
    have h1 := (List.take_append_drop (k - f) (s.data.toList.drop f)).symm
    rw [List.drop_drop, show f + (k - f) = k by omega] at h1
    exact h1
  have hl : ((s.data.toList.drop f).take (k - f)).length = k - f := by
    rw [List.length_take, List.length_drop, lst_siz]; omega
  have hall : ∀ x ∈ (s.data.toList.drop f).take (k - f), p (nI x) = true := by
    intro x hx
    refine tw_all p (s.data.toList.drop f) x ?_
    have h2 : (s.data.toList.drop f).take (k - f) = ((s.data.toList.drop f).take (tw p (s.data.toList.drop f))).take (k - f) := by rw [List.take_take, Nat.min_eq_left (by omega)]
    rw [h2] at hx
    exact List.mem_of_mem_take hx
  rw [e, tw_app p _ _ hall, hl, drop_at s k hk]
  have := tw_pos p (s.get! k) (s.data.toList.drop (k + 1)) hp
  omega
theorem tw_to (p : Int → Bool) (s : ByteArray) (f k : Nat) (hfk : f ≤ k) (hks : k ≤ s.size) (h : k ≤ f + tw p (s.data.toList.drop f)) (hp : p (rd s k) = false) : f + tw p (s.data.toList.drop f) = k := by
  have e : s.data.toList.drop f = (s.data.toList.drop f).take (k - f) ++ s.data.toList.drop k := by
    have h1 := (List.take_append_drop (k - f) (s.data.toList.drop f)).symm
    rw [List.drop_drop, show f + (k - f) = k by omega] at h1
    exact h1
  have hl : ((s.data.toList.drop f).take (k - f)).length = k - f := by
    rw [List.length_take, List.length_drop, lst_siz]; omega
  have hall : ∀ x ∈ (s.data.toList.drop f).take (k - f), p (nI x) = true := by
    intro x hx
    refine tw_all p (s.data.toList.drop f) x ?_
    have h2 : (s.data.toList.drop f).take (k - f) = ((s.data.toList.drop f).take (tw p (s.data.toList.drop f))).take (k - f) := by rw [List.take_take, Nat.min_eq_left (by omega)]
    rw [h2] at hx
    exact List.mem_of_mem_take hx
  rw [e, tw_app p _ _ hall, hl]
  rcases Nat.lt_or_ge k s.size with hk | hk
  · rw [rd_at hk] at hp
    rw [drop_at s k hk]
    simp only [tw, hp]
    simp
    omega
  · rw [drop_end s k hk]
    simp only [tw]
    omega
theorem lt_L {x : Int} (h : isL x = true) : isB x = false ∧ ¬ x = 35 := by
  refine ⟨?_, fun e => by rw [e] at h; exact absurd h (by decide)⟩
  cases hb : isB x with
  | false => rfl
  | true =>
    simp only [isB, Bool.or_eq_true, beq_iff_eq] at hb
    rcases hb with ((rfl | rfl) | rfl) | rfl <;> exact absurd h (by decide)
theorem lt_D {x : Int} (h : isD x = true) : isB x = false ∧ (¬ x = 35) ∧ isL x = false := by
  simp only [isD, Bool.and_eq_true, decide_eq_true_eq] at h
  refine ⟨?_, by omega, ?_⟩
  · cases hb : isB x with
    | false => rfl
    | true =>
      simp only [isB, Bool.or_eq_true, beq_iff_eq] at hb
      omega
  · cases hb : isL x with
    | false => rfl
    | true =>
      simp only [isL, Bool.or_eq_true, Bool.and_eq_true, decide_eq_true_eq, beq_iff_eq] at hb
      omega
theorem Nam.on {f k : Nat} (h : Nam A s f k c) (hb : isN (rd s (k + 1)) = true) : Nam A s f (k + 1) c := by
  have hk : k + 1 < s.size := rd_lt (fun e => by rw [e] at hb; exact absurd hb (by decide))
  rw [rd_at hk] at hb
  exact ⟨h.w, h.n, h.bs, h.l, by have := h.fk; omega, tw_at isN s f (k + 1) hk (by have := h.fk; omega) h.t hb, h.a⟩
theorem Nam.ks {f k : Nat} (h : Nam A s f k c) : k + 1 ≤ s.size := by
  have h1 := h.t
  have h2 := tw_le isN (s.data.toList.drop f)
  rw [List.length_drop, lst_siz] at h2
  have := h.w.fs
  omega
theorem Num.ks {f k : Nat} (h : Num A s f k c) : k + 1 ≤ s.size := by
  have h1 := h.t
  have h2 := tw_le isD (s.data.toList.drop f)
  rw [List.length_drop, lst_siz] at h2
  have := h.w.fs
  omega
/-- Behind a word. -/
def Aft (A : Sum (Nat × Nat) (List Wd)) (s : ByteArray) (k : Nat) (c : Cs) : Prop := Mid A s k c ∨ Bad A s c
theorem Nam.out {f k : Nat} (h : Nam A s f k c) (hb : isN (rd s (k + 1)) = false) (p : Int) : Aft A s (k + 1) (cw { c with p := p } 1 (s.extract f (k + 1))) := by
  have ht := tw_to isN s f (k + 1) (by have := h.fk; omega) h.ks h.t hb
  obtain ⟨h1, h2⟩ := lt_L h.l
  have hsz := ext_size s f (k + 1) h.ks
  have htw : tw isN (s.data.toList.drop f) = k + 1 - f := by omega
  have hA := h.a
  rw [drop_at s f h.w.fs] at htw
  rw [drop_at s f h.w.fs, cut_begin _ _ _ h1 h2] at hA
  simp only [lx, h.l, if_true, htw] at hA
  by_cases hl : 24 < k + 1 - f
  · rw [if_pos hl] at hA
    refine .inr ⟨h.w.hs, 83, f, by omega, ?_, ?_, ?_⟩
    · simp only [cw, ce, hsz]; rw [if_pos ⟨trivial, hl⟩]; rfl
    · simp only [cw, ce, hsz]; rw [if_pos ⟨trivial, hl⟩]; exact h.w.fr
    · rw [hA]; rfl
  · rw [if_neg hl] at hA
    have hce : ce 1 (s.extract f (k + 1)).size { c with p := p } = (c.co, c.pl) := by
      unfold ce
      rw [hsz, if_neg (fun e => hl e.2), if_neg (by rw [h.n]; decide)]
    refine .inl ⟨h.w.hs, ?_, rfl, rfl, ?_, ?_⟩
    · simp only [cw, hce]; exact h.w.co
    · simp only [cw, List.length_append, List.length_cons, List.length_nil]; have := h.w.wl; have := h.fk; omega
    · rw [hA]
      simp only [cw]
      rw [pfx_cns, ext_list, h.n, h.w.fr, drop_at s f h.w.fs, show f + (k + 1 - f) = k + 1 by have := h.fk; omega, ← drop_at s f h.w.fs, List.drop_drop, show f + (k + 1 - f) = k + 1 by have := h.fk; omega]
theorem nvf_snoc (n : Int) (l : List UInt8) (x : UInt8) : nvf n (l ++ [x]) = min (10 * nvf n l + (nI x - 48)) 65536 := by
  induction l generalizing n with
  | nil => rfl
  | cons y t ih => simp only [List.cons_append, nvf, ih]
theorem nvf_le (n : Int) (l : List UInt8) (h : n ≤ 65536) : nvf n l ≤ 65536 := by
  induction l generalizing n with
  | nil => exact h
  | cons y t ih => exact ih _ (by omega)
theorem nvf_ge (n : Int) (l : List UInt8) (h : 0 ≤ n) (hl : ∀ x ∈ l, isD (nI x) = true) : 0 ≤ nvf n l := by
  induction l generalizing n with
  | nil => exact h
  | cons y t ih =>
    refine ih _ ?_ (fun x hx => hl x (by simp [hx]))
    have := hl y (by simp)
    simp only [isD, Bool.and_eq_true, decide_eq_true_eq] at this
    omega
theorem take_snoc_at (s : ByteArray) (f k : Nat) (hfk : f ≤ k) (hk : k < s.size) : (s.data.toList.drop f).take (k + 1 - f) = (s.data.toList.drop f).take (k - f) ++ [s.get! k] := by
  rw [show k + 1 - f = (k - f) + 1 by omega, List.take_add_one, List.getElem?_drop, show f + (k - f) = k by omega, List.getElem?_eq_getElem (by rw [lst_siz]; exact hk), ← get_list s k hk]
  rfl
theorem Num.nb {f k : Nat} (h : Num A s f k c) : 0 ≤ c.n ∧ c.n ≤ 65536 := by
  rw [h.n]
  refine ⟨nvf_ge _ _ (by omega) (fun x hx => ?_), nvf_le _ _ (by omega)⟩
  refine tw_all isD (s.data.toList.drop f) x ?_
  have ht := h.t
  have h2 : (s.data.toList.drop f).take (k - f) = ((s.data.toList.drop f).take (tw isD (s.data.toList.drop f))).take (k - f) := by rw [List.take_take, Nat.min_eq_left (by omega)]
  rw [h2] at hx
  exact List.mem_of_mem_take hx
/-- The number with the digit that has been read. -/
theorem Num.next {f k : Nat} (h : Num A s f k c) : min (10 * c.n + rd s k - 48) 65536 = nvf 0 ((s.data.toList.drop f).take (k + 1 - f)) := by
  have hk := h.ks
  rw [take_snoc_at s f k h.fk (by omega), nvf_snoc, ← h.n, rd_at (by omega)]
  congr 1
  omega
theorem Num.on {f k : Nat} (h : Num A s f k c) (hb : isD (rd s (k + 1)) = true) (p : Int) : Num A s f (k + 1) { c with n := min (10 * c.n + rd s k - 48) 65536, p := p } := by
  have hk : k + 1 < s.size := rd_lt (fun e => by rw [e] at hb; exact absurd hb (by decide))
  rw [rd_at hk] at hb
  exact ⟨⟨h.w.hs, h.w.co, h.w.fr, h.w.fs, h.w.wl⟩, h.next, h.bs, h.l, by have := h.fk; omega, tw_at isD s f (k + 1) hk (by have := h.fk; omega) h.t hb, h.a⟩
theorem Num.out {f k : Nat} (h : Num A s f k c) (hb : isD (rd s (k + 1)) = false) (p : Int) : Aft A s (k + 1) (cw { c with n := min (10 * c.n + rd s k - 48) 65536, p := p } 4 ⟨#[]⟩) := by
  have ht := tw_to isD s f (k + 1) (by have := h.fk; omega) h.ks h.t hb
  obtain ⟨h1, h2, h3⟩ := lt_D h.l
  have hn := h.next
  obtain ⟨v, hv⟩ : ∃ v, min (10 * c.n + rd s k - 48) 65536 = v := ⟨_, rfl⟩
  rw [hv] at hn
  have htw : tw isD (s.data.toList.drop f) = k + 1 - f := by omega
  have hA := h.a
  have hv2 : nvf 0 ((s.data.toList.drop f).take (tw isD (s.data.toList.drop f))) = v := by rw [htw]; exact hn.symm
  rw [htw] at hv2
  rw [drop_at s f h.w.fs] at htw hv2
  rw [drop_at s f h.w.fs, cut_begin _ _ _ h1 h2] at hA
  simp only [lx, h.l, h3, if_true, htw, hv2, Bool.false_eq_true, if_false] at hA
  rw [hv]
  by_cases hl : 65535 < v
  · rw [if_pos hl] at hA
    refine .inr ⟨h.w.hs, 84, f, by omega, ?_, ?_, ?_⟩
    · simp only [cw, ce]; rw [if_neg (by omega), if_pos hl]; rfl
    · simp only [cw, ce]; rw [if_neg (by omega), if_pos hl]; exact h.w.fr
    · rw [hA]; rfl
  · rw [if_neg hl] at hA
    refine .inl ⟨h.w.hs, ?_, rfl, rfl, ?_, ?_⟩
    · simp only [cw, ce]; rw [if_neg (by omega), if_neg hl]; exact h.w.co
    · simp only [cw, List.length_append, List.length_cons, List.length_nil]; have := h.w.wl; have := h.fk; omega
    · rw [hA]
      simp only [cw]
      rw [pfx_cns, h.w.fr, ← drop_at s f h.w.fs, List.drop_drop, show f + (k + 1 - f) = k + 1 by have := h.fk; omega]
end
end Go.Proofs.Ythfijmabagjdkaa
