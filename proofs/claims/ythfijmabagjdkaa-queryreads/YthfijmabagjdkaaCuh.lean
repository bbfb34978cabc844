import Derived.Test.YthfijmabagjdkaaCug
namespace Go.Proofs.Ythfijmabagjdkaa
open Go.RowKit Go.Maps
section
variable {A : Sum (Nat × Nat) (List Wd)} {s : ByteArray} {c : Cs}
theorem Mid.at {k : Nat} (h : Mid A s k c) (hk : k < s.size) (h1 : isB (rd s k) = false) (h2 : rd s k ≠ 35) : A = pfx c.ws (match lx (s.get! k :: s.data.toList.drop (k + 1)) with
    | .inl (e, o) => .inl (e, k + o)
    | .inr (w, n) => cns { w with a := (k : Int) } (cut (k + n) (s.data.toList.drop (k + n)))) := by
  rw [rd_at hk] at h1 h2
  have hA := h.a
  rw [drop_at s k hk, cut_begin _ _ _ h1 h2] at hA
  rw [hA]
  cases lx (s.get! k :: s.data.toList.drop (k + 1)) with
  | inl p => rfl
  | inr p =>
    obtain ⟨w, n⟩ := p
    simp only
    rw [← drop_at s k hk, List.drop_drop]
theorem Mid.text {k : Nat} (h : Mid A s k c) (hf : c.f = (k : Int)) (hb : rd s k = 34) : Txt A s k (k + 1) c := by
  obtain ⟨hk, hx⟩ := rd_in hb (by decide)
  refine ⟨⟨h.hs, h.co, hf, hk, h.wl⟩, h.n, by rw [h.bs]; simp, by omega, ?_⟩
  rw [h.at hk (by rw [hb]; decide) (by rw [hb]; decide)]
  have e1 : isL (34 : Int) = false := by decide
  have e2 : isD (34 : Int) = false := by decide
  simp only [lx, hx, e1, e2, if_true, Bool.false_eq_true, if_false]
  rw [h.bs, show k + 1 - k = 1 by omega]
  cases st 0 0 (s.data.toList.drop (k + 1)) 1 [] with
  | inl e => rfl
  | inr q => rfl
theorem Mid.regex {k : Nat} (h : Mid A s k c) (hf : c.f = (k : Int)) (hb : rd s k = 47) : Rgx A s k (k + 1) c := by
  obtain ⟨hk, hx⟩ := rd_in hb (by decide)
  refine ⟨⟨h.hs, h.co, hf, hk, h.wl⟩, h.n, h.bs, by omega, ?_⟩
  rw [h.at hk (by rw [hb]; decide) (by rw [hb]; decide)]
  have e1 : isL (47 : Int) = false := by decide
  have e2 : isD (47 : Int) = false := by decide
  have e3 : ¬ (47 : Int) = 34 := by decide
  simp only [lx, hx, e1, e2, e3, if_true, Bool.false_eq_true, if_false]
  rw [show k + 1 - k = 1 by omega]
  cases rg false (s.data.toList.drop (k + 1)) 1 with
  | none => rfl
  | some n => rfl
theorem lx_sign {x : UInt8} {t : List UInt8} (h1 : isL (nI x) = false) (h2 : isD (nI x) = false) (h3 : ¬ nI x = 34) (h4 : ¬ nI x = 47) : lx (x :: t) = if isS (nI x) then .inr (⟨5, [x], 0, 0⟩, 1) else .inl (81, 0) := by
  simp only [lx, h1, h2, h3, h4, Bool.false_eq_true, if_false]
theorem Mid.sign {k : Nat} (h : Mid A s k c) (hf : c.f = (k : Int)) (h0 : rd s k ≠ -1) (hB : isB (rd s k) = false) (h35 : rd s k ≠ 35) (h1 : isL (rd s k) = false) (h2 : isD (rd s k) = false) (h3 : ¬ rd s k = 34) (h4 : ¬ rd s k = 47) (h5 : isS (rd s k) = true) : Mid A s (k + 1) (cw c 5 (s.extract k (k + 1))) := by
  have hk := rd_lt h0
  have hA := h.at hk hB h35
  rw [rd_at hk] at h1 h2 h3 h4 h5
  rw [lx_sign h1 h2 h3 h4, if_pos h5] at hA
  have hce : ce 5 (s.extract k (k + 1)).size c = (c.co, c.pl) := by
    unfold ce
    rw [if_neg (by omega), if_neg (by rw [h.n]; decide)]
  refine ⟨h.hs, ?_, rfl, rfl, ?_, ?_⟩
  · simp only [cw, hce]; exact h.co
  · simp only [cw, List.length_append, List.length_cons, List.length_nil]; have := h.wl; omega
  · rw [hA]
    simp only [cw]
    rw [pfx_cns, ext_list, h.n, hf, drop_at s k hk, show k + 1 - k = 1 by omega]
    rfl
theorem Mid.byte {k : Nat} (h : Mid A s k c) (h0 : rd s k ≠ -1) (hB : isB (rd s k) = false) (h35 : rd s k ≠ 35) (h1 : isL (rd s k) = false) (h2 : isD (rd s k) = false) (h3 : ¬ rd s k = 34) (h4 : ¬ rd s k = 47) (h5 : isS (rd s k) = false) : Res A { c with co := 81, pl := (k : Int) } := by
  have hk := rd_lt h0
  have hA := h.at hk hB h35
  rw [rd_at hk] at h1 h2 h3 h4 h5
  rw [lx_sign h1 h2 h3 h4, h5] at hA
  exact .inr ⟨81, k, by omega, rfl, rfl, by rw [hA]; rfl⟩
theorem Bad.res (h : Bad A s c) : Res A c := .inr h.2
theorem Bad.over {c' : Cs} (h : Bad A s c) (h1 : c'.s = c.s) (h2 : c'.co = c.co) (h3 : c'.pl = c.pl) : Bad A s c' := by
  obtain ⟨h0, e, o, a, b, d, f⟩ := h
  exact ⟨h1.trans h0, e, o, a, h2.trans b, h3.trans d, f⟩
theorem Bad.ne (h : Bad A s c) : ¬ c.co = 0 := by
  obtain ⟨_, e, o, a, b, _⟩ := h
  omega
/-- A string's end is the line's, or the text's. -/
theorem st_rd (k : Nat) (m : Nat) (h : Int) (o : Nat) (a : List UInt8) (hr : rd s k = -1) : st m h (s.data.toList.drop k) o a = st m h [] o a := by rw [drop_end s k (rd_out hr)]
/-- An escape. -/
theorem st_es (k o : Nat) (a : List UInt8) : st 1 0 (s.data.toList.drop k) o a = if (es s k).1 = -1 then .inl (o - 1) else st 0 0 (s.data.toList.drop ((es s k).2 + 1)) (o + ((es s k).2 + 1 - k)) (a ++ [ub (es s k).1]) := by
  by_cases hk : k < s.size
  · have hr := rd_at hk
    rw [drop_at s k hk]
    simp only [st, ← hr]
    unfold es
    by_cases h1 : rd s k = 120
    · simp only [h1, if_true]
      unfold td
      by_cases hk1 : k + 1 < s.size
      · have hr1 := rd_at hk1
        rw [drop_at s (k + 1) hk1]
        simp only [st, ← hr1]
        by_cases h2 : hxv (rd s (k + 1)) = -1
        · simp only [h2, if_true]
          congr 1
        · simp only [h2, if_false]
          by_cases hk2 : k + 1 + 1 < s.size
          · have hr2 := rd_at hk2
            rw [drop_at s (k + 1 + 1) hk2]
            simp only [st, ← hr2]
            by_cases h3 : hxv (rd s (k + 1 + 1)) = -1
            · simp only [h3, if_true]
              congr 1
            · have h5 := hxv_lo (rd s (k + 1))
              have h6 := hxv_lo (rd s (k + 1 + 1))
              obtain ⟨m5, _, e5⟩ := h5.resolve_left h2
              obtain ⟨m6, _, e6⟩ := h6.resolve_left h3
              have h4 : ¬ 16 * hxv (rd s (k + 1)) + hxv (rd s (k + 1 + 1)) = -1 := by rw [e5, e6]; omega
              simp only [h3, h4, if_false]
              congr 1
              omega
          · have hd : rd s (k + 1 + 1) = -1 := if_neg hk2
            rw [hd, drop_end s (k + 1 + 1) (by omega)]
            have hm : hxv (-1) = -1 := by decide
            simp only [st, hm, if_true]
            congr 1
      · have hd : rd s (k + 1) = -1 := if_neg hk1
        rw [hd, drop_end s (k + 1) (by omega)]
        have hm : hxv (-1) = -1 := by decide
        simp only [st, hm, if_true]
        congr 1
    · simp only [h1, if_false]
      by_cases h2 : emv (rd s k) = -1
      · simp only [h2, if_true]
      · simp only [h2, if_false]
        congr 1
        omega
  · have hr : rd s k = -1 := if_neg hk
    rw [drop_end s k (by omega)]
    have he : es s k = (-1, k) := by
      unfold es
      rw [hr, if_neg (by decide)]
      rfl
    rw [he]
    simp only [st, if_true]
theorem es_le (k : Nat) : k ≤ (es s k).2 ∧ (es s k).2 ≤ k + 2 := by
  unfold es td
  repeat' split
  all_goals simp only
  all_goals omega
theorem es_in (k : Nat) (h : (es s k).1 ≠ -1) : (es s k).2 < s.size := by
  have hx : hxv (-1) = -1 := by decide
  have hm : emv (-1) = -1 := by decide
  unfold es td at h ⊢
  split at h
  · split at h
    · exact absurd rfl h
    · split at h
      · exact absurd rfl h
      · rename_i h1 h2 h3
        rw [if_pos h1, if_neg h2, if_neg h3]
        exact rd_lt (fun e => h3 (by rw [e]; exact hx))
  · rename_i h1
    rw [if_neg h1]
    exact rd_lt (fun e => h (by simp only; rw [e]; exact hm))
/-- A step within a string. -/
theorem Txt.step {f k : Nat} (h : Txt A s f k c) : ((inT c k).1 = true ∧ ∃ q, k ≤ q ∧ q < s.size ∧ (inT c k).2.p = (q : Int) ∧ Txt A s f (q + 1) (inT c k).2) ∨ ((inT c k).1 = false ∧ ∃ q, k ≤ q ∧ q ≤ k + 3 ∧ (inT c k).2.p = (q : Int) ∧ ((Mid A s (q + 1) (inT c k).2 ∧ q < s.size) ∨ Bad A s (inT c k).2)) := by
  have hA := h.a
  have hfk := h.fk
  have hcs := h.w.hs
  subst hcs
  unfold inT
  by_cases h34 : rd c.s k = 34
  · right
    obtain ⟨hk, hx⟩ := rd_in h34 (by decide)
    rw [if_pos h34]
    have hce : ce 2 (⟨c.bs.toArray⟩ : ByteArray).size { c with p := (k : Int) } = (c.co, c.pl) := by
      unfold ce
      rw [if_neg (by omega), if_neg (by rw [h.n]; decide)]
    rw [drop_at c.s k hk] at hA
    simp only [st, hx, if_true] at hA
    refine ⟨rfl, k, Nat.le_refl _, by omega, rfl, .inl ⟨⟨h.w.hs, ?_, rfl, rfl, ?_, ?_⟩, hk⟩⟩
    · simp only [cw, hce]; exact h.w.co
    · simp only [cw, List.length_append, List.length_cons, List.length_nil]; have := h.w.wl; omega
    · rw [hA]
      simp only [stR, cw]
      rw [pfx_cns, h.n, h.w.fr, show f + (k - f + 1) = k + 1 by omega]
  · rw [if_neg h34]
    by_cases hst : rd c.s k = -1 ∨ rd c.s k = 10
    · right
      rw [if_pos hst]
      refine ⟨rfl, k, Nat.le_refl _, by omega, rfl, .inr ⟨h.w.hs, 82, f, by omega, rfl, h.w.fr, ?_⟩⟩
      rw [hA]
      rcases hst with h1 | h1
      · rw [st_rd k 0 0 _ _ h1]; rfl
      · obtain ⟨hk, hx⟩ := rd_in h1 (by decide)
        rw [drop_at c.s k hk]
        have e : ¬ (10 : Int) = 34 := by decide
        simp only [st, hx, e, if_false, if_true]
        rfl
    · rw [if_neg hst]
      have hn1 : rd c.s k ≠ -1 := fun e => hst (.inl e)
      have hn2 : ¬ rd c.s k = 10 := fun e => hst (.inr e)
      have hk := rd_lt hn1
      have hr := rd_at hk
      rw [drop_at c.s k hk] at hA
      by_cases h92 : rd c.s k = 92
      · rw [if_pos h92]
        have e1 : ¬ (92 : Int) = 34 := by decide
        have e2 : ¬ (92 : Int) = 10 := by decide
        simp only [st, ← hr, h92, e1, e2, if_false, if_true] at hA
        rw [st_es (k + 1) (k - f + 1) c.bs] at hA
        have hle := es_le (s := c.s) (k + 1)
        by_cases hv : (es c.s (k + 1)).1 = -1
        · right
          rw [if_pos hv]
          rw [if_pos hv] at hA
          refine ⟨rfl, (es c.s (k + 1)).2, by omega, by omega, rfl, .inr ⟨h.w.hs, 82, k, by omega, rfl, rfl, ?_⟩⟩
          rw [hA]
          simp only [stR, pfx, Sum.inl.injEq, Prod.mk.injEq, true_and]
          omega
        · left
          rw [if_neg hv]
          rw [if_neg hv] at hA
          have hin := es_in (s := c.s) (k + 1) hv
          refine ⟨rfl, (es c.s (k + 1)).2, by omega, hin, rfl, ⟨⟨h.w.hs, h.w.co, h.w.fr, h.w.fs, h.w.wl⟩, h.n, ?_, by omega, ?_⟩⟩
          · simp only [List.length_append, List.length_cons, List.length_nil]; have := h.bl; omega
          · rw [hA]
            simp only
            rw [show k - f + 1 + ((es c.s (k + 1)).2 + 1 - (k + 1)) = (es c.s (k + 1)).2 + 1 - f by omega]
      · left
        rw [if_neg h92]
        have hx34 : ¬ nI (c.s.get! k) = 34 := by rw [← hr]; exact h34
        have hx10 : ¬ nI (c.s.get! k) = 10 := by rw [← hr]; exact hn2
        have hx92 : ¬ nI (c.s.get! k) = 92 := by rw [← hr]; exact h92
        simp only [st, hx34, hx10, hx92, if_false] at hA
        refine ⟨rfl, k, Nat.le_refl _, hk, rfl, ⟨⟨h.w.hs, h.w.co, h.w.fr, h.w.fs, h.w.wl⟩, h.n, ?_, by omega, ?_⟩⟩
        · simp only [List.length_append, List.length_cons, List.length_nil]; have := h.bl; omega
        · rw [hA]
          simp only
          have e : ub (rd c.s k) = c.s.get! k := by
            rw [hr]; unfold ub nI
            simp
          rw [e, show k - f + 1 = k + 1 - f by omega]
/-- A step within a regex. -/
theorem Rgx.step {f k : Nat} (h : Rgx A s f k c) : ((inR c f k).1 = true ∧ ∃ q, k ≤ q ∧ q < s.size ∧ (inR c f k).2.p = (q : Int) ∧ Rgx A s f (q + 1) (inR c f k).2) ∨ ((inR c f k).1 = false ∧ ∃ q, k ≤ q ∧ q ≤ k + 3 ∧ (inR c f k).2.p = (q : Int) ∧ ((Mid A s (q + 1) (inR c f k).2 ∧ q < s.size) ∨ Bad A s (inR c f k).2)) := by
  have hA := h.a
  have hfk := h.fk
  have hcs := h.w.hs
  subst hcs
  unfold inR
  by_cases h47 : rd c.s k = 47
  · right
    obtain ⟨hk, hx⟩ := rd_in h47 (by decide)
    rw [if_pos h47]
    have hce : ce 3 (c.s.extract (f + 1) k).size { c with p := (k : Int) } = (c.co, c.pl) := by
      unfold ce
      rw [if_neg (by omega), if_neg (by rw [h.n]; decide)]
    rw [drop_at c.s k hk] at hA
    simp only [rg, hx, if_true] at hA
    refine ⟨rfl, k, Nat.le_refl _, by omega, rfl, .inl ⟨⟨h.w.hs, ?_, rfl, rfl, ?_, ?_⟩, hk⟩⟩
    · simp only [cw, hce]; exact h.w.co
    · simp only [cw, List.length_append, List.length_cons, List.length_nil]; have := h.w.wl; omega
    · rw [hA]
      simp only [rgR, cw]
      rw [pfx_cns, ext_list, h.n, h.w.fr, show f + (k - f + 1) = k + 1 by omega, show k - f + 1 - 2 = k - (f + 1) by omega]
  · rw [if_neg h47]
    by_cases h92 : rd c.s k = 92
    · rw [if_pos h92]
      obtain ⟨hk, hx⟩ := rd_in h92 (by decide)
      rw [drop_at c.s k hk] at hA
      have e1 : ¬ (92 : Int) = 47 := by decide
      have e2 : ¬ (92 : Int) = 10 := by decide
      simp only [rg, hx, e1, e2, if_false, if_true] at hA
      by_cases hst : rd c.s (k + 1) = -1 ∨ rd c.s (k + 1) = 10
      · right
        rw [if_pos hst]
        refine ⟨rfl, k + 1, by omega, by omega, rfl, .inr ⟨h.w.hs, 82, f, by omega, rfl, h.w.fr, ?_⟩⟩
        rw [hA]
        rcases hst with h1 | h1
        · rw [drop_end c.s (k + 1) (rd_out h1)]; rfl
        · obtain ⟨hk1, hx1⟩ := rd_in h1 (by decide)
          rw [drop_at c.s (k + 1) hk1]
          simp only [rg, hx1, if_true]
          rfl
      · left
        rw [if_neg hst]
        have hn1 : rd c.s (k + 1) ≠ -1 := fun e => hst (.inl e)
        have hk1 := rd_lt hn1
        have hn2 : ¬ nI (c.s.get! (k + 1)) = 10 := fun e => hst (.inr (by rw [rd_at hk1]; exact e))
        rw [drop_at c.s (k + 1) hk1] at hA
        simp only [rg, hn2, if_false] at hA
        refine ⟨rfl, k + 1, by omega, hk1, rfl, ⟨⟨h.w.hs, h.w.co, h.w.fr, h.w.fs, h.w.wl⟩, h.n, h.bs, by omega, ?_⟩⟩
        rw [hA]
        simp only
        rw [show k - f + 1 + 1 = k + 1 + 1 - f by omega]
    · rw [if_neg h92]
      by_cases hst : rd c.s k = -1 ∨ rd c.s k = 10
      · right
        rw [if_pos hst]
        refine ⟨rfl, k, Nat.le_refl _, by omega, rfl, .inr ⟨h.w.hs, 82, f, by omega, rfl, h.w.fr, ?_⟩⟩
        rw [hA]
        rcases hst with h1 | h1
        · rw [drop_end c.s k (rd_out h1)]; rfl
        · obtain ⟨hk, hx⟩ := rd_in h1 (by decide)
          rw [drop_at c.s k hk]
          have e : ¬ (10 : Int) = 47 := by decide
          simp only [rg, hx, e, if_false, if_true]
          rfl
      · left
        rw [if_neg hst]
        have hn1 : rd c.s k ≠ -1 := fun e => hst (.inl e)
        have hk := rd_lt hn1
        have hr := rd_at hk
        have hx47 : ¬ nI (c.s.get! k) = 47 := by rw [← hr]; exact h47
        have hx10 : ¬ nI (c.s.get! k) = 10 := by rw [← hr]; exact fun e => hst (.inr e)
        have hx92 : ¬ nI (c.s.get! k) = 92 := by rw [← hr]; exact h92
        rw [drop_at c.s k hk] at hA
        simp only [rg, hx47, hx10, hx92, if_false] at hA
        refine ⟨rfl, k, Nat.le_refl _, hk, rfl, ⟨⟨h.w.hs, h.w.co, h.w.fr, h.w.fs, h.w.wl⟩, h.n, h.bs, by omega, ?_⟩⟩
        rw [hA]
        simp only
        rw [show k - f + 1 = k + 1 - f by omega]
end
end Go.Proofs.Ythfijmabagjdkaa
