import Derived.Test.YtkjcnnecdclgfaaDoorPrt
import Derived.Test.YtkjcnnecdclgfaaDoorMch
namespace Go.Proofs.YtkjcnnecdclgfaaDoor
/-- A text stands at a place. -/
def At (s : ByteArray) : Nat → List UInt8 → Prop
  | _, [] => True
  | p, x :: t => (p < s.size ∧ pk s p = x.toNat) ∧ At s (p + 1) t
theorem At.app {s : ByteArray} : ∀ {t t' : List UInt8} {p : Nat}, At s p (t ++ t') → At s p t ∧ At s (p + t.length) t'
  | [], _, _, h => ⟨trivial, by simpa using h⟩
  | x :: t, t', p, h => by
    have h2 := At.app (t := t) (t' := t') h.2
    refine ⟨⟨h.1, h2.1⟩, ?_⟩
    have := h2.2
    rw [List.length_cons]
    rwa [show p + (t.length + 1) = p + 1 + t.length by omega]
theorem at_all (l : List UInt8) : ∀ (u t : List UInt8), l = u ++ t → At ⟨l.toArray⟩ u.length t := by
  intro u t
  induction t generalizing u with
  | nil => intro _; trivial
  | cons x t ih =>
    intro h
    have hl : u.length < l.length := by rw [h]; simp
    have hg : (⟨l.toArray⟩ : ByteArray).size = l.length := by show l.toArray.size = _; simp
    refine ⟨⟨by rw [hg]; exact hl, ?_⟩, ?_⟩
    · unfold pk
      rw [if_pos (by rw [hg]; exact hl)]
      congr 1
      show l.toArray[u.length]! = x
      simp [h]
    · have := ih (u ++ [x]) (by rw [h]; simp)
      rw [List.length_append] at this
      exact this
theorem At.first {s : ByteArray} {p : Nat} {t : List UInt8} (h : At s p t) (hn : t ≠ []) : p < s.size ∧ pk s p = (t.headD 0).toNat := by
  cases t with
  | nil => exact absurd rfl hn
  | cons x t => exact h.1
theorem hexd_hx : ∀ d, d < 16 → hexd (hx.getD d 0).toNat = some d := by decide
/-- Is a byte one that is written with a backslash, and read so? -/
theorem esc_wth : ∀ x : UInt8, wth.contains x = true → esc13.contains x = true ∧ x ≠ 110 ∧ x ≠ 116 ∧ x ≠ 114 ∧ x ≠ 120 ∧ x ≠ 100 ∧ x ≠ 119 ∧ x ≠ 115 := by
  intro x h
  simp only [wth, List.contains_cons, List.contains_nil, Bool.or_false, Bool.or_eq_true, beq_iff_eq] at h
  rcases h with rfl | rfl | rfl | rfl | rfl | rfl <;> decide
theorem esc_sgn : ∀ x : UInt8, sgn.contains x = true → esc13.contains x = true ∧ x ≠ 110 ∧ x ≠ 116 ∧ x ≠ 114 ∧ x ≠ 120 ∧ x ≠ 100 ∧ x ≠ 119 ∧ x ≠ 115 := by
  intro x h
  simp only [sgn, List.contains_cons, List.contains_nil, Bool.or_false, Bool.or_eq_true, beq_iff_eq] at h
  rcases h with rfl | rfl | rfl | rfl | rfl | rfl | rfl | rfl | rfl | rfl | rfl <;> decide
/-- Bytes that a backslash can stand ahead of. -/
def Mk (mk : List UInt8) : Prop := mk.contains 92 = true ∧ ∀ x : UInt8, mk.contains x = true → esc13.contains x = true ∧ x ≠ 110 ∧ x ≠ 116 ∧ x ≠ 114 ∧ x ≠ 120 ∧ x ≠ 100 ∧ x ≠ 119 ∧ x ≠ 115
theorem mk_wth : Mk wth := ⟨by decide, esc_wth⟩
theorem mk_sgn : Mk sgn := ⟨by decide, esc_sgn⟩
theorem nat_ne {x : UInt8} {k : Nat} (h : x ≠ UInt8.ofNat k) : x.toNat ≠ k := fun e => h (by rw [← e]; simp)
/-- What is written of a byte: the byte itself, or a backslash and what is no set's letter. -/
theorem spl_form (b : Nat) (hb : b < 256) (mk : List UInt8) (hm : Mk mk) : (spl b mk = [UInt8.ofNat b] ∧ 32 ≤ b ∧ b ≤ 126 ∧ mk.contains (UInt8.ofNat b) = false) ∨ ∃ x t, spl b mk = 92 :: x :: t ∧ x ≠ 100 ∧ x ≠ 119 ∧ x ≠ 115 := by
  unfold spl
  split
  · exact .inr ⟨_, _, rfl, by decide, by decide, by decide⟩
  split
  · exact .inr ⟨_, _, rfl, by decide, by decide, by decide⟩
  split
  · exact .inr ⟨_, _, rfl, by decide, by decide, by decide⟩
  split
  · exact .inr ⟨_, _, rfl, by decide, by decide, by decide⟩
  rename_i h1 h2 h3 h4
  split
  · rename_i h5
    have := hm.2 _ h5
    exact .inr ⟨_, _, rfl, this.2.2.2.2.2⟩
  · rename_i h5
    refine .inl ⟨rfl, by omega, by omega, by simpa using h5⟩
theorem spl_pone {s : ByteArray} {p b : Nat} {mk : List UInt8} (hb : b < 256) (hm : Mk mk) (h : At s p (spl b mk)) : pone s p mk = .ok (b, p + (spl b mk).length) := by
  unfold spl at h ⊢
  unfold pone
  split at h
  · rename_i e
    rw [if_pos e, if_pos (show pk s p = 92 from h.1.2)]
    unfold pesc
    rw [if_pos (show pk s (p + 1) = 110 from h.2.1.2), e]; rfl
  rename_i h1
  rw [if_neg h1]
  split at h
  · rename_i e
    rw [if_pos e, if_pos (show pk s p = 92 from h.1.2)]
    unfold pesc
    rw [h.2.1.2, if_neg (by decide), if_pos (by decide), e]; rfl
  rename_i h2
  rw [if_neg h2]
  split at h
  · rename_i e
    rw [if_pos e, if_pos (show pk s p = 92 from h.1.2)]
    unfold pesc
    rw [h.2.1.2, if_neg (by decide), if_neg (by decide), if_pos (by decide), e]; rfl
  rename_i h3
  rw [if_neg h3]
  split at h
  · rename_i e
    rw [if_pos e, if_pos (show pk s p = 92 from h.1.2)]
    unfold pesc
    have e1 := hexd_hx (b / 16) (by omega)
    have e2 := hexd_hx (b % 16) (by omega)
    rw [← h.2.2.1.2] at e1
    rw [← h.2.2.2.1.2] at e2
    rw [h.2.1.2, if_neg (by decide), if_neg (by decide), if_neg (by decide), if_pos (by decide), e1]
    dsimp only
    rw [e2]
    dsimp only
    rw [show b / 16 * 16 + b % 16 = b by omega]; rfl
  rename_i h4
  rw [if_neg h4]
  have hbb : (UInt8.ofNat b).toNat = b := by simp; omega
  split at h
  · rename_i e
    have h7 := hm.2 _ e
    rw [if_pos e, if_pos (show pk s p = 92 from h.1.2)]
    unfold pesc
    rw [h.2.1.2, if_neg (nat_ne h7.2.1), if_neg (nat_ne h7.2.2.1), if_neg (nat_ne h7.2.2.2.1), if_neg (nat_ne h7.2.2.2.2.1), hbb, if_pos h7.1]; rfl
  · rename_i e
    have e' : mk.contains (UInt8.ofNat b) = false := by simpa using e
    rw [if_neg e]
    have h92 : ¬ pk s p = 92 := by
      rw [h.1.2, hbb]
      intro h9
      rw [h9] at e
      exact e hm.1
    rw [if_neg h92, h.1.2, hbb, if_pos (by rw [e']; simp; omega)]; rfl
theorem spl_nosets {s : ByteArray} {p b : Nat} {mk : List UInt8} (hb : b < 256) (hm : Mk mk) (h : At s p (spl b mk)) : psets s p = none := by
  unfold psets
  rcases spl_form b hb mk hm with ⟨e, h1, h2, h3⟩ | ⟨x, t, e, h1, h2, h3⟩
  · rw [e] at h
    have hbb : (UInt8.ofNat b).toNat = b := by simp; omega
    rw [if_neg]
    rw [h.1.2, hbb]
    intro h9
    rw [h9] at h3
    rw [show (UInt8.ofNat 92) = 92 by rfl, hm.1] at h3
    cases h3
  · rw [e] at h
    rw [if_pos (show pk s p = 92 from h.1.2), h.2.1.2, if_neg (nat_ne h1), if_neg (nat_ne h2), if_neg (nat_ne h3)]
/-- A written byte does not begin as one of those bytes, the backslash apart. -/
theorem spl_head (b : Nat) (hb : b < 256) (mk : List UInt8) (hm : Mk mk) (x : UInt8) (hx : mk.contains x = true) (h92 : x ≠ 92) : (spl b mk).headD 0 ≠ x := by
  rcases spl_form b hb mk hm with ⟨e, h1, h2, h3⟩ | ⟨y, t, e, h1, h2, h3⟩
  · rw [e]
    intro h
    simp at h
    rw [h, hx] at h3
    cases h3
  · rw [e]
    exact fun h => h92 (by simpa using h.symm)
theorem hx_ok : ∀ d, d < 16 → 32 ≤ (hx.getD d 0).toNat ∧ (hx.getD d 0).toNat ≤ 126 := by decide
theorem spl_ok (b : Nat) (hb : b < 256) (mk : List UInt8) (x : UInt8) (hx : x ∈ spl b mk) : 32 ≤ x.toNat ∧ x.toNat ≤ 126 := by
  have h1 := hx_ok (b / 16) (by omega)
  have h2 := hx_ok (b % 16) (by omega)
  have hbb : (UInt8.ofNat b).toNat = b := by simp; omega
  unfold spl at hx
  repeat' split at hx
  · simp at hx; rcases hx with rfl | rfl <;> decide
  · simp at hx; rcases hx with rfl | rfl <;> decide
  · simp at hx; rcases hx with rfl | rfl <;> decide
  · simp only [List.mem_cons, List.not_mem_nil, or_false] at hx
    rcases hx with rfl | rfl | rfl | rfl
    · decide
    · decide
    · exact h1
    · exact h2
  · simp only [List.mem_cons, List.not_mem_nil, or_false] at hx
    rcases hx with rfl | rfl
    · decide
    · omega
  · simp only [List.mem_cons, List.not_mem_nil, or_false] at hx
    subst hx
    omega
/-- The runs of a set, read: what has been read is what the set has below the place. -/
theorem rn_head (m : Nat → Bool) (b : Nat) (u : List UInt8) : (RN m b ++ 93 :: u).headD 0 ≠ 45 ∧ (RN m b ++ 93 :: u).headD 0 ≠ 94 := by
  by_cases h : sk m true b < 256
  · rw [RN_step m b h]
    have e1 := spl_head (sk m true b) h wth mk_wth 45 (by decide) (by decide)
    have e2 := spl_head (sk m true b) h wth mk_wth 94 (by decide) (by decide)
    cases hs : spl (sk m true b) wth with
    | nil => exact absurd hs (spl_ne _ _)
    | cons x t => rw [hs] at e1 e2; exact ⟨e1, e2⟩
  · rw [RN_end m b h]; exact ⟨(by decide : (93 : UInt8) ≠ 45), (by decide : (93 : UInt8) ≠ 94)⟩
/-- A run of a set, read as one item. -/
theorem rn_item {s : ByteArray} {m : Nat → Bool} {b p : Nat} {u : List UInt8} (h : sk m true b < 256) (ha : At s p (RN m b ++ 93 :: u)) :
    ∃ m' k, pitem s p = .ok (m', k) ∧ pk s p ≠ 93 ∧ At s k (RN m (sk m false (sk m true b)) ++ 93 :: u) ∧ k + (RN m (sk m false (sk m true b))).length = p + (RN m b).length ∧ ∀ x, m' x = (decide (sk m true b ≤ x) && decide (x < sk m false (sk m true b))) := by
  have hf := sk_more m _ h (sk_in m b h)
  have hle := sk_le m false (sk m true b) (by omega)
  have hl : (RN m b).length = (spl (sk m true b) wth).length + (if sk m true b + 1 < sk m false (sk m true b) then 45 :: spl (sk m false (sk m true b) - 1) wth else []).length + (RN m (sk m false (sk m true b))).length := by rw [RN_step m b h]; simp only [List.length_append]
  rw [RN_step m b h] at ha
  rw [hl]
  have e93 : (spl (sk m true b) wth).headD 0 ≠ 93 := spl_head (sk m true b) h wth mk_wth 93 (by decide) (by decide)
  generalize hfe : sk m true b = f at *
  generalize hee : sk m false f = e at *
  rw [List.append_assoc, List.append_assoc] at ha
  obtain ⟨a1, a2⟩ := ha.app
  have hp := spl_pone (by omega) mk_wth a1
  have hn := spl_nosets (by omega) mk_wth a1
  have hfst := a1.first (spl_ne _ _)
  have h93 : pk s p ≠ 93 := by rw [hfst.2]; exact nat_ne (k := 93) e93
  unfold pitem
  rw [hn, hp]
  dsimp only
  obtain ⟨q, hq⟩ : ∃ q, p + (spl f wth).length = q := ⟨_, rfl⟩
  rw [hq] at a2 hp ⊢
  by_cases hr : f + 1 < e
  · rw [if_pos hr] at a2 ⊢
    have h45 : pk s q = 45 := a2.1.2
    obtain ⟨a3, a4⟩ := (a2.2 : At s (q + 1) (spl (e - 1) wth ++ (RN m e ++ 93 :: u))).app
    have hp2 := spl_pone (by omega) mk_wth a3
    rw [if_pos h45, hp2]
    dsimp only
    rw [if_neg (by omega)]
    refine ⟨_, _, rfl, h93, a4, by rw [List.length_cons]; omega, fun x => ?_⟩
    congr 1
    exact decide_eq_decide.2 (by omega)
  · rw [if_neg hr] at a2 ⊢
    have h45 : ¬ pk s q = 45 := by
      have a5 : At s q (RN m e ++ 93 :: u) := a2
      rw [(a5.first (by simp)).2]
      exact nat_ne (k := 45) (rn_head m e u).1
    rw [if_neg h45]
    refine ⟨_, _, rfl, h93, a2, by simp only [List.length_nil]; omega, fun x => ?_⟩
    congr 1
    exact decide_eq_decide.2 (by omega)
theorem rn_read {s : ByteArray} {m : Nat → Bool} {u : List UInt8} : ∀ n b p (acc : Nat → Bool), 256 - b ≤ n → b ≤ 256 → At s p (RN m b ++ 93 :: u) → (∀ x, x < 256 → acc x = (m x && decide (x < b))) → ∃ m2, pitF s p acc = .ok (m2, p + (RN m b).length + 1) ∧ ∀ x, x < 256 → m2 x = m x := by
  intro n
  induction n with
  | zero =>
    intro b p acc hn hb ha hacc
    have h1 := sk_ge m true b
    have hR := RN_end m b (by omega)
    rw [hR] at ha
    refine ⟨acc, ?_, fun x hx => ?_⟩
    · rw [pitF_end s p acc ha.1.2, hR]; rfl
    · rw [hacc x hx, decide_eq_true (by omega : x < b)]; simp
  | succ n ih =>
    intro b p acc hn hb ha hacc
    by_cases h : sk m true b < 256
    · obtain ⟨m', k, h1, h2, h3, h4, h5⟩ := rn_item h ha
      have hf := sk_more m _ h (sk_in m b h)
      have hle := sk_le m false (sk m true b) (by omega)
      have hge := sk_ge m true b
      have g1 := sk_ok m true b
      have g2 := sk_ok m false (sk m true b)
      obtain ⟨m2, r1, r2⟩ := ih (sk m false (sk m true b)) k (fun x => acc x || m' x) (by omega) hle h3 (fun x hx => by
        rw [hacc x hx, h5]
        by_cases c1 : x < b
        · rw [decide_eq_true c1, decide_eq_true (by omega : x < sk m false (sk m true b)), decide_eq_false (by omega : ¬ sk m true b ≤ x)]; simp
        · rw [decide_eq_false c1]
          by_cases c2 : sk m true b ≤ x
          · rw [decide_eq_true c2]
            by_cases c3 : x < sk m false (sk m true b)
            · rw [decide_eq_true c3]
              have := g2.no x c2 c3
              simp at this
              simp [this]
            · rw [decide_eq_false c3]; simp
          · rw [decide_eq_false c2]
            have := g1.no x (by omega) (by omega)
            simp at this
            simp [this])
      refine ⟨m2, ?_, r2⟩
      rw [pitF_step s p acc h2 h1, r1]
      congr 2
      omega
    · have hR := RN_end m b h
      rw [hR] at ha
      have g1 := sk_ok m true b
      refine ⟨acc, ?_, fun x hx => ?_⟩
      · rw [pitF_end s p acc ha.1.2, hR]; rfl
      · rw [hacc x hx]
        by_cases c1 : x < b
        · rw [decide_eq_true c1]; simp
        · have := g1.no x (by omega) (by omega)
          simp at this
          simp [this]
/-- The set's runs behind the opening bracket. -/
theorem rn_class {s : ByteArray} {m : Nat → Bool} {p : Nat} {u : List UInt8} (h : sk m true 0 < 256) (ha : At s p (RN m 0 ++ 93 :: u)) : ∃ m1 k m2, pitem s p = .ok (m1, k) ∧ pitF s k m1 = .ok (m2, p + (RN m 0).length + 1) ∧ ∀ x, x < 256 → m2 x = m x := by
  obtain ⟨m', k, h1, h2, h3, h4, h5⟩ := rn_item h ha
  have hf := sk_more m _ h (sk_in m 0 h)
  have hle := sk_le m false (sk m true 0) (by omega)
  have g1 := sk_ok m true 0
  have g2 := sk_ok m false (sk m true 0)
  obtain ⟨m2, r1, r2⟩ := rn_read 256 (sk m false (sk m true 0)) k m' (by omega) hle h3 (fun x hx => by
    rw [h5]
    by_cases c2 : sk m true 0 ≤ x
    · rw [decide_eq_true c2]
      by_cases c3 : x < sk m false (sk m true 0)
      · rw [decide_eq_true c3]
        have := g2.no x c2 c3
        simp at this
        simp [this]
      · rw [decide_eq_false c3]; simp
    · rw [decide_eq_false c2]
      have := g1.no x (by omega) (by omega)
      simp at this
      simp [this])
  refine ⟨m', k, m2, h1, ?_, r2⟩
  rw [r1]
  congr 2
  omega
theorem bl_congr {m m' : Nat → Bool} (h : ∀ x, x < 256 → m x = m' x) : bl m = bl m' := by
  unfold bl
  rw [wd_congr m m' 0 (fun j hj => h _ (by omega)), wd_congr m m' 1 (fun j hj => h _ (by omega)), wd_congr m m' 2 (fun j hj => h _ (by omega)), wd_congr m m' 3 (fun j hj => h _ (by omega))]
theorem bl_false {m : Nat → Bool} (h : bl m = false) : ∃ x, x < 256 ∧ m x = true := by
  refine Classical.byContradiction fun hn => ?_
  have e : bl m = bl (fun _ => false) := bl_congr fun x hx => by
    cases hm : m x
    · rfl
    · exact absurd ⟨x, hx, hm⟩ hn
  rw [e] at h
  revert h
  unfold bl
  rw [wd_none, wd_none, wd_none, wd_none]
  decide
theorem cnt_none {m : Nat → Bool} {n : Nat} (h : cnt m n = 0) : ∀ x, x < n → m x = false := by
  induction n with
  | zero => intro x hx; omega
  | succ n ih =>
    rw [cnt] at h
    intro x hx
    by_cases e : x = n
    · subst e
      cases hm : m x
      · rfl
      · rw [hm] at h; simp at h
    · exact ih (by omega) x (by omega)
theorem cnt_some {m : Nat → Bool} (h : cnt m 256 ≠ 0) : sk m true 0 < 256 := by
  refine Classical.byContradiction fun hn => h ?_
  have g := sk_ok m true 0
  have : ∀ x, x < 256 → m x = false := fun x hx => by
    have := g.no x (by omega) (by omega)
    simpa using this
  rw [cnt_congr m (fun _ => false) 256 this]
  have hz : ∀ n, cnt (fun _ => false) n = 0 := by
    intro n
    induction n with
    | zero => rfl
    | succ n ih => rw [cnt, ih]; rfl
  exact hz 256
theorem cnt_posb {m : Nat → Bool} {n x : Nat} (hx : x < n) (hm : m x = true) : cnt m n ≠ 0 := fun h => by
  rw [cnt_none h x hx] at hm; cases hm
theorem cnt_not (m : Nat → Bool) (n : Nat) : cnt (fun b => !m b) n + cnt m n = n := by
  induction n with
  | zero => rfl
  | succ n ih =>
    rw [cnt, cnt]
    cases hm : m n <;> simp <;> omega
theorem cnt_one {m : Nat → Bool} {n a x : Nat} (h : cnt m n = 1) (ha : a < n) (hma : m a = true) (hx : x < n) (hmx : m x = true) : x = a := by
  induction n with
  | zero => omega
  | succ n ih =>
    rw [cnt] at h
    by_cases ea : a = n
    · by_cases ex : x = n
      · omega
      · rw [← ea, hma] at h
        have : cnt m a = 0 := by simp at h; omega
        rw [cnt_none this x (by omega)] at hmx
        cases hmx
    · by_cases ex : x = n
      · rw [← ex, hmx] at h
        have : cnt m x = 0 := by simp at h; omega
        rw [cnt_none this a (by omega)] at hma
        cases hma
      · have h0 := cnt_posb (m := m) (n := n) (x := a) (by omega) hma
        exact ih (by have : (m n).toNat ≤ 1 := Bool.toNat_le (m n); omega) (by omega) (by omega)
/-- What is written of a set is read as the set. -/
theorem cst_read {s : ByteArray} {m : Nat → Bool} {p : Nat} (hb : bl m = false) (ha : At s p (cst m)) : ∃ m', atm s p = .ok (m', p + (cst m).length) ∧ (∀ x, x < 256 → m' x = m x) ∧ p < s.size ∧ pk s p ≠ 40 ∧ pk s p ≠ 41 ∧ pk s p ≠ 124 ∧ pk s p ≠ 42 ∧ pk s p ≠ 43 ∧ pk s p ≠ 63 := by
  obtain ⟨w, hw, hmw⟩ := bl_false hb
  have hc0 := cnt_posb hw hmw
  have h0 := cnt_some hc0
  have hin := sk_in m 0 h0
  unfold cst at ha ⊢
  unfold atm
  by_cases c1 : cnt m 256 = 1
  · rw [if_pos c1] at ha ⊢
    have hf := ha.first (spl_ne _ _)
    have hh : ∀ k : Nat, sgn.contains (UInt8.ofNat k) = true → UInt8.ofNat k ≠ 92 → pk s p ≠ k := fun k hx h92 => by
      rw [hf.2]
      exact nat_ne (spl_head _ h0 sgn mk_sgn _ hx h92)
    rw [if_neg (hh 91 (by decide) (by decide)), if_neg (hh 46 (by decide) (by decide)), spl_nosets h0 mk_sgn ha, spl_pone h0 mk_sgn ha]
    refine ⟨_, rfl, fun x hx => ?_, hf.1, hh 40 (by decide) (by decide), hh 41 (by decide) (by decide), hh 124 (by decide) (by decide), hh 42 (by decide) (by decide), hh 43 (by decide) (by decide), hh 63 (by decide) (by decide)⟩
    cases hmx : m x
    · have : x ≠ sk m true 0 := fun e => by rw [e, hin] at hmx; cases hmx
      simp; omega
    · have := cnt_one c1 h0 hin hx hmx
      simp; omega
  rw [if_neg c1] at ha ⊢
  by_cases c2 : cnt m 256 = 255 ∧ m 10 = false
  · rw [if_pos c2] at ha ⊢
    have h46 : pk s p = 46 := ha.1.2
    rw [h46, if_neg (by decide), if_pos rfl]
    refine ⟨_, rfl, fun x hx => ?_, ha.1.1, by decide, by decide, by decide, by decide, by decide, by decide⟩
    by_cases e : x = 10
    · rw [e, c2.2]; rfl
    · rw [cnt_all m 256 10 (by decide) c2.2 c2.1 x hx e]
      simp [e]
  rw [if_neg c2] at ha ⊢
  by_cases c3 : 128 < cnt m 256 ∧ cnt m 256 < 256
  · rw [if_pos c3] at ha ⊢
    have h91 : pk s p = 91 := ha.1.2
    have h94 : pk s (p + 1) = 94 := ha.2.1.2
    have a2 : At s (p + 2) (RN (fun b => !m b) 0 ++ 93 :: []) := ha.2.2
    have hn := cnt_not m 256
    obtain ⟨m1, k, m2, r1, r2, r3⟩ := rn_class (m := fun b => !m b) (cnt_some (by omega)) a2
    rw [h91, if_pos rfl]
    unfold pclass
    rw [if_pos h94, r1]
    dsimp only
    rw [r2]
    dsimp only
    rw [if_pos h94]
    have e3 : ∀ x, x < 256 → (!m2 x) = m x := fun x hx => by rw [r3 x hx]; simp
    rw [if_neg (by rw [bl_congr e3, hb]; decide)]
    have hl : p + 2 + (RN (fun b => !m b) 0).length + 1 = p + ([91, 94] ++ RN (fun b => !m b) 0 ++ [93]).length := by simp only [List.length_append, List.length_cons, List.length_nil]; omega
    exact ⟨fun b => !m2 b, by rw [hl], e3, ha.1.1, by decide, by decide, by decide, by decide, by decide, by decide⟩
  · rw [if_neg c3] at ha ⊢
    have h91 : pk s p = 91 := ha.1.2
    have a2 : At s (p + 1) (RN m 0 ++ 93 :: []) := ha.2
    have h94 : ¬ pk s (p + 1) = 94 := by
      rw [(a2.first (by simp)).2]
      exact nat_ne (k := 94) (rn_head m 0 []).2
    obtain ⟨m1, k, m2, r1, r2, r3⟩ := rn_class h0 a2
    rw [h91, if_pos rfl]
    unfold pclass
    rw [if_neg h94, r1]
    dsimp only
    rw [r2]
    dsimp only
    rw [if_neg h94]
    rw [if_neg (by rw [bl_congr r3, hb]; decide)]
    have hl : p + 1 + (RN m 0).length + 1 = p + ([91] ++ RN m 0 ++ [93]).length := by simp only [List.length_append, List.length_cons, List.length_nil]; omega
    exact ⟨m2, by rw [hl], r3, ha.1.1, by decide, by decide, by decide, by decide, by decide, by decide⟩
end Go.Proofs.YtkjcnnecdclgfaaDoor
namespace Go.Proofs.YtkjcnnecdclgfaaDoor
/-- Two nodes that are held to be the same. -/
structure Sm (n n' : Nd) : Prop where
  op : n.op = n'.op
  a : n.a = n'.a
  b : n.b = n'.b
  m : ∀ x, x < 256 → n.m x = n'.m x
def Sms : List Nd → List Nd → Prop
  | [], [] => True
  | n :: l, n' :: l' => Sm n n' ∧ Sms l l'
  | _, _ => False
theorem Sms.app : ∀ {l l' k k' : List Nd}, Sms l l' → Sms k k' → Sms (l ++ k) (l' ++ k')
  | [], [], _, _, _, h => h
  | _ :: _, _ :: _, _, _, h1, h2 => ⟨h1.1, Sms.app h1.2 h2⟩
  | [], _ :: _, _, _, h, _ => h.elim
  | _ :: _, [], _, _, h, _ => h.elim
theorem Sms.len : ∀ {l l' : List Nd}, Sms l l' → l.length = l'.length
  | [], [], _ => rfl
  | _ :: _, _ :: _, h => by rw [List.length_cons, List.length_cons, Sms.len h.2]
  | [], _ :: _, h => h.elim
  | _ :: _, [], h => h.elim
theorem Sms.one {n n' : Nd} (h : Sm n n') : Sms [n] [n'] := ⟨h, trivial⟩
/-- The nodes of a node. -/
def sg (re : List Nd) (z : List Nat) (i : Nat) : List Nd := (re.take (i + 1)).drop (i + 1 - z.getD i 0)
theorem sg_cut (re : List Nd) (x y w : Nat) (h1 : x ≤ y) (h2 : y ≤ w) (h3 : w ≤ re.length) : (re.take y).drop x ++ (re.take w).drop y = (re.take w).drop x := by
  have e : re.take w = re.take y ++ (re.take w).drop y := by
    conv => lhs; rw [← List.take_append_drop y (re.take w)]
    rw [List.take_take, Nat.min_eq_left h2]
  conv => rhs; rw [e, List.drop_append_of_le_length (by rw [List.length_take]; omega)]
theorem sg_last (re : List Nd) (i : Nat) (hi : i < re.length) : (re.take (i + 1)).drop i = [re[i]] := by
  rw [List.take_add_one, List.drop_append_of_le_length (by rw [List.length_take]; omega), List.drop_eq_nil_of_le (by rw [List.length_take]; omega)]
  simp [hi]
theorem sg_len (re : List Nd) (z : List Nat) (i : Nat) (hi : i < re.length) (hz : z.getD i 0 ≤ i + 1) : (sg re z i).length = z.getD i 0 := by
  unfold sg
  rw [List.length_drop, List.length_take]
  omega
/-- What may stand first in a part. -/
def Fb (x : UInt8) : Prop := x ≠ 41 ∧ x ≠ 124 ∧ x ≠ 42 ∧ x ≠ 43 ∧ x ≠ 63
theorem Fb.pk {s : ByteArray} {p : Nat} {t : List UInt8} (h : Fb (t.headD 0)) (hn : t ≠ []) (ha : At s p t) : p < s.size ∧ pk s p ≠ 41 ∧ pk s p ≠ 124 ∧ pk s p ≠ 42 ∧ pk s p ≠ 43 ∧ pk s p ≠ 63 := by
  have := ha.first hn
  rw [this.2]
  exact ⟨this.1, nat_ne (k := 41) h.1, nat_ne (k := 124) h.2.1, nat_ne (k := 42) h.2.2.1, nat_ne (k := 43) h.2.2.2.1, nat_ne (k := 63) h.2.2.2.2⟩
theorem head_app {t u : List UInt8} (h : t ≠ []) : (t ++ u).headD 0 = t.headD 0 := by
  cases t with
  | nil => exact absurd rfl h
  | cons x t => rfl
theorem cst_fb (m : Nat → Bool) (hb : bl m = false) : Fb ((cst m).headD 0) := by
  obtain ⟨w, hw, hmw⟩ := bl_false hb
  have h0 := cnt_some (cnt_posb hw hmw)
  unfold cst
  split
  · exact ⟨spl_head _ h0 sgn mk_sgn _ (by decide) (by decide), spl_head _ h0 sgn mk_sgn _ (by decide) (by decide), spl_head _ h0 sgn mk_sgn _ (by decide) (by decide), spl_head _ h0 sgn mk_sgn _ (by decide) (by decide), spl_head _ h0 sgn mk_sgn _ (by decide) (by decide)⟩
  split
  · exact ⟨by decide, by decide, by decide, by decide, by decide⟩
  split
  · exact ⟨(by decide : (91 : UInt8) ≠ 41), (by decide : (91 : UInt8) ≠ 124), (by decide : (91 : UInt8) ≠ 42), (by decide : (91 : UInt8) ≠ 43), (by decide : (91 : UInt8) ≠ 63)⟩
  · exact ⟨(by decide : (91 : UInt8) ≠ 41), (by decide : (91 : UInt8) ≠ 124), (by decide : (91 : UInt8) ≠ 42), (by decide : (91 : UInt8) ≠ 43), (by decide : (91 : UInt8) ≠ 63)⟩
theorem bnd_fb {t : List UInt8 × Nat} {k : Nat} (h : Fb (t.1.headD 0)) : Fb ((bnd t k).headD 0) := by
  unfold bnd
  split
  · exact ⟨(by decide : (40 : UInt8) ≠ 41), (by decide : (40 : UInt8) ≠ 124), (by decide : (40 : UInt8) ≠ 42), (by decide : (40 : UInt8) ≠ 43), (by decide : (40 : UInt8) ≠ 63)⟩
  · exact h
theorem bnd_ne {t : List UInt8 × Nat} {k : Nat} (h : t.1 ≠ []) : bnd t k ≠ [] := by
  unfold bnd
  split
  · simp
  · exact h
theorem tx_fb (re : List Nd) (z : List Nat) (h : szs re [] = some z) : ∀ i, i < re.length → Fb ((TX re i).1.headD 0) := by
  intro i
  induction i using Nat.strongRecOn with
  | ind i ih =>
    intro hi
    obtain ⟨p, n, s, hre, hp, _⟩ := split_at re i hi
    have hk := kind_of p n s z (by rw [← hre]; exact h)
    obtain ⟨t1, t2⟩ := TX_at p n s
    rw [← hre, hp] at t1 t2
    rw [hp] at hk
    rw [t1]
    unfold ent
    cases hk with
    | leaf h1 hb ha hbb hz =>
      rcases h1 with h1 | h1
      · rw [if_pos h1]
        exact cst_fb _ (by rw [hb, h1]; decide)
      · rw [if_neg (by omega), if_pos h1]
        exact ⟨by decide, by decide, by decide, by decide, by decide⟩
    | un h1 hb h2 ha hbb hz =>
      have e1 := ih (i - 1) (by omega) (by omega)
      have e2 := TX_ne re z h (i - 1) (by omega)
      have e3 : n.a.toNat = i - 1 := by omega
      rw [e3, t2 _ (by omega), if_neg (by omega), if_neg (by omega), if_neg (by omega), if_neg (by omega)]
      rcases h1 with h1 | h1 | h1
      · rw [if_pos h1, head_app (bnd_ne e2)]; exact bnd_fb e1
      · rw [if_neg (by omega), if_pos h1, head_app (bnd_ne e2)]; exact bnd_fb e1
      · rw [if_neg (by omega), if_neg (by omega), head_app (bnd_ne e2)]; exact bnd_fb e1
    | bin h1 hb a h2 h3 ha hbb hz =>
      have e1 := ih a (by omega) (by omega)
      have e2 := TX_ne re z h a (by omega)
      have e3 : n.a.toNat = a := by omega
      rw [e3, t2 _ (by omega), if_neg (by omega), if_neg (by omega)]
      rcases h1 with h1 | h1
      · rw [if_neg (by omega), if_pos h1, head_app (bnd_ne e2)]; exact bnd_fb e1
      · rw [if_pos h1, List.append_assoc, head_app e2]; exact e1
/-- A text that is read as a part, as parts one behind the other, as alternatives. -/
def Rp (s : ByteArray) (t : List UInt8) (S : List Nd) (i d : Nat) : Prop := ∀ p o a c (st : List Grp), At s p t → o.length + S.length = i + 1 → st.length + d ≤ 128 → ∃ N, Sms N S ∧ V s ⟨p, o, ⟨a, c, -1⟩, st⟩ = V s ⟨p + t.length, o ++ N, ⟨a, c, (i : Int)⟩, st⟩
def Rc (s : ByteArray) (t : List UInt8) (S : List Nd) (i d : Nat) : Prop := ∀ p o a (st : List Grp), At s p t → o.length + S.length = i + 1 → st.length + d ≤ 128 → ∃ N o' g', Sms N S ∧ V s ⟨p, o, ⟨a, -1, -1⟩, st⟩ = V s ⟨p + t.length, o', g', st⟩ ∧ 0 ≤ g'.part ∧ stl o' g' = (o ++ N, ⟨a, (i : Int), -1⟩)
def Ra (s : ByteArray) (t : List UInt8) (S : List Nd) (i d : Nat) : Prop := ∀ p o (st : List Grp), At s p t → o.length + S.length = i + 1 → st.length + d ≤ 128 → ∃ N o' g', Sms N S ∧ V s ⟨p, o, frG, st⟩ = V s ⟨p + t.length, o', g', st⟩ ∧ 0 ≤ g'.part ∧ brn o' g' = (o ++ N, ⟨(i : Int), -1, -1⟩)
theorem Rp.cat {s : ByteArray} {t : List UInt8} {S : List Nd} {i d : Nat} (h : Rp s t S i d) : Rc s t S i d := by
  intro p o a st h1 h2 h3
  obtain ⟨N, g1, g2⟩ := h p o a (-1) st h1 h2 h3
  exact ⟨N, _, _, g1, g2, by simp, stl_first _ _ _⟩
theorem Rc.alt {s : ByteArray} {t : List UInt8} {S : List Nd} {i d : Nat} (h : Rc s t S i d) : Ra s t S i d := by
  intro p o st h1 h2 h3
  obtain ⟨N, o', g', g1, g2, g3, g4⟩ := h p o (-1) st h1 h2 h3
  exact ⟨N, o', g', g1, g2, g3, brn_of _ _ _ _ g4⟩
theorem Ra.brk {s : ByteArray} {t : List UInt8} {S : List Nd} {i d : Nat} (h : Ra s t S i d) : Rp s ([40] ++ t ++ [41]) S i (d + 1) := by
  intro p o a c st h1 h2 h3
  obtain ⟨a1, a2⟩ := h1.app
  obtain ⟨a3, a4⟩ := a1.app
  have a5 : At s (p + 1) t := a4
  have h41 : pk s (p + 1 + t.length) = 41 := by
    have e := a2.1.2
    rw [show p + (([40] : List UInt8) ++ t).length = p + 1 + t.length by simp; omega] at e
    exact e
  obtain ⟨N, o', g', g1, g2, g3, g4⟩ := h (p + 1) o (⟨a, c, -1⟩ :: st) a5 h2 (by rw [List.length_cons]; omega)
  refine ⟨N, g1, ?_⟩
  rw [V_open (show pk s p = 40 from a3.1.2) (by omega), g2, V_close h41 g3 g4]
  rw [show p + 1 + t.length + 1 = p + ([40] ++ t ++ [41]).length by simp; omega]
theorem Rp.mono {s : ByteArray} {t : List UInt8} {S : List Nd} {i d d' : Nat} (h : Rp s t S i d) (hd : d ≤ d') : Rp s t S i d' := fun p o a c st h1 h2 h3 => h p o a c st h1 h2 (by omega)
theorem Rc.mono {s : ByteArray} {t : List UInt8} {S : List Nd} {i d d' : Nat} (h : Rc s t S i d) (hd : d ≤ d') : Rc s t S i d' := fun p o a st h1 h2 h3 => h p o a st h1 h2 (by omega)
/-- All that is asked of a node's text. -/
structure Rxt (s : ByteArray) (t : List UInt8 × Nat) (S : List Nd) (i d : Nat) : Prop where
  p : 3 ≤ t.2 → Rp s t.1 S i d
  c : 2 ≤ t.2 → Rc s t.1 S i d
  a : Ra s t.1 S i d
theorem Rxt.ofP {s : ByteArray} {t : List UInt8} {l : Nat} {S : List Nd} {i d : Nat} (h : Rp s t S i d) : Rxt s (t, l) S i d := ⟨fun _ => h, fun _ => h.cat, h.cat.alt⟩
theorem Rxt.b3 {s : ByteArray} {t : List UInt8 × Nat} {S : List Nd} {i d : Nat} (h : Rxt s t S i d) : Rp s (bnd t 3) S i (d + 1) := by
  unfold bnd
  split
  · exact h.a.brk
  · exact (h.p (by omega)).mono (by omega)
theorem Rxt.b2 {s : ByteArray} {t : List UInt8 × Nat} {S : List Nd} {i d : Nat} (h : Rxt s t S i d) : Rc s (bnd t 2) S i (d + 1) := by
  unfold bnd
  split
  · exact h.a.brk.cat
  · exact (h.c (by omega)).mono (by omega)
theorem bl_none {n : Nd} (h : bl n.m = true) : ∀ x, x < 256 → false = n.m x := by
  intro x hx
  unfold bl at h
  simp only [Bool.and_eq_true, beq_iff_eq] at h
  have e : ∀ i, i < 4 → wd (fun _ => false) i = wd n.m i := fun i hi => by
    rw [wd_none]
    match i, hi with
    | 0, _ => exact h.1.1.1.symm
    | 1, _ => exact h.1.1.2.symm
    | 2, _ => exact h.1.2.symm
    | 3, _ => exact h.2.symm
  have := wd_inj (fun _ => false) n.m (x / 64) (x % 64) (by omega) (e _ (by omega))
  rwa [show 64 * (x / 64) + x % 64 = x by omega] at this
theorem read_all (s : ByteArray) (re : List Nd) (z : List Nat) (h : szs re [] = some z) : ∀ i, i < re.length → Rxt s (TX re i) (sg re z i) i (z.getD i 0) := by
  have hzk := (szs_ok h zok_nil).1
  have hzl : z.length = re.length := by have := (szs_ok h zok_nil).2; simpa using this
  intro i
  induction i using Nat.strongRecOn with
  | ind i ih =>
    intro hi
    obtain ⟨pr, n, su, hre, hp, hn⟩ := split_at re i hi
    have hk := kind_of pr n su z (by rw [← hre]; exact h)
    obtain ⟨t1, t2⟩ := TX_at pr n su
    rw [← hre, hp] at t1 t2
    rw [hp] at hk
    rw [t1]
    have hzi := hzk i (by omega)
    unfold ent
    cases hk with
    | leaf h1 hb ha hbb hz =>
      have hs : sg re z i = [n] := by unfold sg; rw [hz, hn]; exact sg_last re i hi
      rw [hs, hz]
      rcases h1 with h1 | h1
      · rw [if_pos h1]
        refine .ofP ?_
        intro p o a c st g1 g2 g3
        obtain ⟨m', r1, r2, r3, r4, r5⟩ := cst_read (by rw [hb, h1]; decide) g1
        have ho : o.length = i := by simp at g2; exact g2
        refine ⟨[⟨1, m', -1, -1⟩], .one ⟨h1.symm, ha.symm, hbb.symm, r2⟩, ?_⟩
        rw [V_set r3 r4 r5 r1, ho]
      · rw [if_neg (by omega), if_pos h1]
        refine .ofP ?_
        intro p o a c st g1 g2 g3
        have ho : o.length = i := by simp at g2; exact g2
        refine ⟨[zn 2 (-1) (-1)], .one ⟨h1.symm, ha.symm, hbb.symm, bl_none (by rw [hb, h1]; decide)⟩, ?_⟩
        rw [V_open (show pk s p = 40 from g1.1.2) (by omega), V_empty (show pk s (p + 1) = 41 from g1.2.1.2), ho]
        rfl
    | un h1 hb h2 ha hbb hz =>
      have e1 := (ih (i - 1) (by omega) (by omega)).b3
      have e3 : n.a.toNat = i - 1 := by omega
      have hzp := hzk (i - 1) (by omega)
      have hs : sg re z i = sg re z (i - 1) ++ [n] := by
        unfold sg
        rw [hz, hn, ← sg_last re i hi, show i - 1 + 1 = i by omega, show i + 1 - (z.getD (i - 1) 0 + 1) = i - z.getD (i - 1) 0 by omega]
        exact (sg_cut re _ i (i + 1) (by omega) (by omega) (by omega)).symm
      have key : ∀ (y : UInt8) (op : Int), n.op = op → (y.toNat = 42 ∧ op = 5 ∨ y.toNat = 43 ∧ op = 6 ∨ y.toNat = 63 ∧ op = 7) → Rp s (bnd (TX re (i - 1)) 3 ++ [y]) (sg re z i) i (z.getD i 0) := by
        intro y op hop hy p o a c st g1 g2 g3
        obtain ⟨a1, a2⟩ := g1.app
        rw [hs, List.length_append, List.length_singleton] at g2
        obtain ⟨N, r1, r2⟩ := e1 p o a c st a1 (by omega) (by omega)
        refine ⟨N ++ [zn op ((i - 1 : Nat) : Int) (-1)], by rw [hs]; exact r1.app (.one ⟨hop.symm, ha.symm, hbb.symm, bl_none hb⟩), ?_⟩
        have hl := r1.len
        rw [r2, V_sign (by rw [a2.1.2]; exact hy), ← List.append_assoc, List.length_append, hl, List.length_append, List.length_singleton, show o.length + (sg re z (i - 1)).length = i by omega]
        rfl
      rw [e3, t2 _ (by omega), if_neg (by omega), if_neg (by omega), if_neg (by omega), if_neg (by omega)]
      rcases h1 with h1 | h1 | h1
      · rw [if_pos h1]; exact .ofP (key 42 5 h1 (by decide))
      · rw [if_neg (by omega), if_pos h1]; exact .ofP (key 43 6 h1 (by decide))
      · rw [if_neg (by omega), if_neg (by omega)]; exact .ofP (key 63 7 h1 (by decide))
    | bin h1 hb a h2 h3 ha hbb hz =>
      have ea := ih a (by omega) (by omega)
      have eb := ih (i - 1) (by omega) (by omega)
      have e3 : n.a.toNat = a := by omega
      have e4 : n.b.toNat = i - 1 := by omega
      have hzp := hzk (i - 1) (by omega)
      have hza := hzk a (by omega)
      have hs : sg re z i = sg re z a ++ sg re z (i - 1) ++ [n] := by
        unfold sg
        rw [hz, hn, ← sg_last re i hi, show i - 1 + 1 = i by omega, show i + 1 - (z.getD a 0 + z.getD (i - 1) 0 + 1) = a + 1 - z.getD a 0 by omega, show i - z.getD (i - 1) 0 = a + 1 by omega, sg_cut re _ (a + 1) i (by omega) (by omega) (by omega)]
        exact (sg_cut re _ i (i + 1) (by omega) (by omega) (by omega)).symm
      have la := sg_len re z a (by omega) hza.2
      have lb := sg_len re z (i - 1) (by omega) hzp.2
      have fb := bnd_fb (k := 3) (tx_fb re z h (i - 1) (by omega))
      have nb := bnd_ne (k := 3) (TX_ne re z h (i - 1) (by omega))
      rw [e3, e4, t2 _ (by omega), t2 _ (by omega), if_neg (by omega), if_neg (by omega)]
      rcases h1 with h1 | h1
      · rw [if_neg (by omega), if_pos h1]
        have key : Rc s (bnd (TX re a) 2 ++ bnd (TX re (i - 1)) 3) (sg re z i) i (z.getD i 0) := by
          intro p o al st g1 g2 g3
          obtain ⟨a1, a2⟩ := g1.app
          rw [hs, List.length_append, List.length_append, List.length_singleton] at g2
          obtain ⟨N, o', g', r1, r2, r3, r4⟩ := ea.b2 p o al st a1 (by omega) (by omega)
          have hf := fb.pk nb a2
          have hl := r1.len
          obtain ⟨N2, q1, q2⟩ := eb.b3 (p + (bnd (TX re a) 2).length) (o ++ N) al (a : Int) st a2 (by rw [List.length_append]; omega) (by omega)
          have hl2 := q1.len
          refine ⟨N ++ N2 ++ [zn 3 (a : Int) ((i - 1 : Nat) : Int)], o ++ N ++ N2, ⟨al, (a : Int), ((i - 1 : Nat) : Int)⟩, by rw [hs]; exact (r1.app q1).app (.one ⟨h1.symm, ha.symm, hbb.symm, bl_none hb⟩), ?_, by simp, ?_⟩
          · rw [r2, V_settle hf.1 hf.2, r4]
            dsimp only
            rw [q2, List.length_append, Nat.add_assoc]
          · rw [stl_more]
            have : (o ++ N ++ N2).length = i := by simp only [List.length_append]; omega
            rw [this]
            simp only [List.append_assoc]
        exact ⟨fun h9 => absurd (show 3 ≤ 2 from h9) (by decide), fun _ => key, key.alt⟩
      · rw [if_pos h1]
        have key : Ra s ((TX re a).1 ++ [124] ++ bnd (TX re (i - 1)) 2) (sg re z i) i (z.getD i 0) := by
          intro p o st g1 g2 g3
          rw [List.append_assoc] at g1
          obtain ⟨a1, a2⟩ := g1.app
          rw [hs, List.length_append, List.length_append, List.length_singleton] at g2
          obtain ⟨N, o', g', r1, r2, r3, r4⟩ := ea.a p o st a1 (by omega) (by omega)
          have hl := r1.len
          have h124 : pk s (p + (TX re a).1.length) = 124 := a2.1.2
          have a3 : At s (p + (TX re a).1.length + 1) (bnd (TX re (i - 1)) 2) := a2.2
          obtain ⟨N2, o2, g2', q1, q2, q3, q4⟩ := eb.b2 (p + (TX re a).1.length + 1) (o ++ N) (a : Int) st a3 (by rw [List.length_append]; omega) (by omega)
          have hl2 := q1.len
          refine ⟨N ++ N2 ++ [zn 4 (a : Int) ((i - 1 : Nat) : Int)], o2, g2', by rw [hs]; exact (r1.app q1).app (.one ⟨h1.symm, ha.symm, hbb.symm, bl_none hb⟩), ?_, q3, ?_⟩
          · have hq : p + (TX re a).1.length + 1 + (bnd (TX re (i - 1)) 2).length = p + ((TX re a).1 ++ [124] ++ bnd (TX re (i - 1)) 2).length := by simp only [List.length_append, List.length_cons, List.length_nil]; omega
            rw [r2, V_bar h124 r3 r4, q2, hq]
          · rw [brn_more _ _ _ _ _ q4]
            have : (o ++ N ++ N2).length = i := by simp only [List.length_append]; omega
            rw [this]
            simp only [List.append_assoc]
        exact ⟨fun h9 => absurd (show 3 ≤ 1 from h9) (by decide), fun h9 => absurd (show 2 ≤ 1 from h9) (by decide), key⟩
/-- What is printed is read: the same nodes. -/
theorem print_read {re : List Nd} (h : Sh re = true) : ∃ N, Sms N re ∧ V ⟨(pr re).toArray⟩ ⟨0, [], frG, []⟩ = .ok N := by
  obtain ⟨z, hz, h0, h1, h2⟩ := Sh_z h
  have hr := (read_all ⟨(pr re).toArray⟩ re z hz (re.length - 1) (by omega)).a
  have hs : sg re z (re.length - 1) = re := by
    unfold sg
    rw [h2, show re.length - 1 + 1 = re.length by omega, Nat.sub_self, List.drop_zero, List.take_length]
  have hpr : pr re = (TX re (re.length - 1)).1 := by unfold pr; rw [if_pos h]
  rw [hs, ← hpr] at hr
  obtain ⟨N, o', g', r1, r2, r3, r4⟩ := hr 0 [] [] (at_all _ [] _ rfl) (by simp; omega) (by rw [h2]; simp; omega)
  refine ⟨N, r1, ?_⟩
  have hsz : (⟨(pr re).toArray⟩ : ByteArray).size = (pr re).length := by show (pr re).toArray.size = _; simp
  rw [r2, V_end (by rw [hsz]; simp)]
  unfold vfin
  rw [if_neg (by rintro (h9 | h9); exact h9 rfl; exact absurd r3 (by have : g'.part < 0 := h9; omega)), r4]
  dsimp only
  rw [List.nil_append, if_neg (by rw [r1.len]; omega)]
end Go.Proofs.YtkjcnnecdclgfaaDoor
namespace Go.Proofs.YtkjcnnecdclgfaaDoor
/-- Bytes that can be seen. -/
def Vb (t : List UInt8) : Prop := ∀ x ∈ t, 32 ≤ x.toNat ∧ x.toNat ≤ 126
theorem Vb.app {t u : List UInt8} (h : Vb t) (h' : Vb u) : Vb (t ++ u) := fun x hx => by
  rcases List.mem_append.1 hx with e | e
  · exact h x e
  · exact h' x e
theorem vb_spl (b : Nat) (hb : b < 256) (mk : List UInt8) : Vb (spl b mk) := fun x hx => spl_ok b hb mk x hx
theorem vb_rn (m : Nat → Bool) : ∀ n b, Vb (rn m n b) := by
  intro n
  induction n with
  | zero => intro b x hx; simp [rn] at hx
  | succ n ih =>
    intro b
    rw [rn]
    split
    · rename_i h
      have hle := sk_le m false (sk m true b) (by omega)
      have hf := sk_more m _ h (sk_in m b h)
      refine ((vb_spl _ h _).app ?_).app (ih _)
      split
      · intro x hx
        rcases List.mem_cons.1 hx with e | e
        · rw [e]; decide
        · exact vb_spl _ (by omega) _ x e
      · intro x hx; cases hx
    · intro x hx; cases hx
theorem vb_one {y : UInt8} (h : 32 ≤ y.toNat ∧ y.toNat ≤ 126) : Vb [y] := fun x hx => by
  rw [List.mem_singleton] at hx
  rw [hx]; exact h
theorem vb_cst (m : Nat → Bool) (hb : bl m = false) : Vb (cst m) := by
  obtain ⟨w, hw, hmw⟩ := bl_false hb
  have h0 := cnt_some (cnt_posb hw hmw)
  unfold cst
  split
  · exact vb_spl _ h0 _
  split
  · exact vb_one (by decide)
  split
  · exact (Vb.app (Vb.app (vb_one (y := 91) (by decide)) (vb_one (y := 94) (by decide))) (vb_rn _ _ _)).app (vb_one (by decide))
  · exact (Vb.app (vb_one (y := 91) (by decide)) (vb_rn _ _ _)).app (vb_one (by decide))
theorem vb_bnd {t : List UInt8 × Nat} {k : Nat} (h : Vb t.1) : Vb (bnd t k) := by
  unfold bnd
  split
  · exact ((vb_one (by decide)).app h).app (vb_one (by decide))
  · exact h
theorem tx_vb (re : List Nd) (z : List Nat) (h : szs re [] = some z) : ∀ i, i < re.length → Vb (TX re i).1 := by
  intro i
  induction i using Nat.strongRecOn with
  | ind i ih =>
    intro hi
    obtain ⟨p, n, s, hre, hp, _⟩ := split_at re i hi
    have hk := kind_of p n s z (by rw [← hre]; exact h)
    obtain ⟨t1, t2⟩ := TX_at p n s
    rw [← hre, hp] at t1 t2
    rw [hp] at hk
    rw [t1]
    unfold ent
    cases hk with
    | leaf h1 hb ha hbb hz =>
      rcases h1 with h1 | h1
      · rw [if_pos h1]
        exact vb_cst _ (by rw [hb, h1]; decide)
      · rw [if_neg (by omega), if_pos h1]
        exact Vb.app (vb_one (y := 40) (by decide)) (vb_one (y := 41) (by decide))
    | un h1 hb h2 ha hbb hz =>
      have e1 := ih (i - 1) (by omega) (by omega)
      have e3 : n.a.toNat = i - 1 := by omega
      rw [e3, t2 _ (by omega), if_neg (by omega), if_neg (by omega), if_neg (by omega), if_neg (by omega)]
      rcases h1 with h1 | h1 | h1
      · rw [if_pos h1]; exact (vb_bnd e1).app (vb_one (by decide))
      · rw [if_neg (by omega), if_pos h1]; exact (vb_bnd e1).app (vb_one (by decide))
      · rw [if_neg (by omega), if_neg (by omega)]; exact (vb_bnd e1).app (vb_one (by decide))
    | bin h1 hb a h2 h3 ha hbb hz =>
      have ea := ih a (by omega) (by omega)
      have eb := ih (i - 1) (by omega) (by omega)
      have e3 : n.a.toNat = a := by omega
      have e4 : n.b.toNat = i - 1 := by omega
      rw [e3, e4, t2 _ (by omega), t2 _ (by omega), if_neg (by omega), if_neg (by omega)]
      rcases h1 with h1 | h1
      · rw [if_neg (by omega), if_pos h1]; exact (vb_bnd ea).app (vb_bnd eb)
      · rw [if_pos h1]; exact (ea.app (vb_one (by decide))).app (vb_bnd eb)
theorem pr_vb (re : List Nd) : Vb (pr re) := by
  unfold pr
  split
  · rename_i h
    obtain ⟨z, hz, h0, h1, h2⟩ := Sh_z h
    exact tx_vb re z hz _ (by omega)
  · intro x hx; cases hx
end Go.Proofs.YtkjcnnecdclgfaaDoor
namespace Go.Proofs.YtkjcnnecdclgfaaDoor
/-- Two texts that are the same up to a place, that place's byte among it. -/
def Ag (s s' : ByteArray) (at' : Nat) : Prop := (∀ j, j ≤ at' → pk s j = pk s' j) ∧ at' < s.size ∧ at' < s'.size
/-- What a reading says, of texts that are the same up to a place: the same, if it ends there or ahead of it, or finds fault there or ahead of it. -/
theorem pesc_ag {s s' : ByteArray} {t i : Nat} (ha : Ag s s' t) : (∀ v j, pesc s i = .ok (v, j) → j ≤ t + 1 → pesc s' i = .ok (v, j)) ∧ (∀ p, pesc s i = .error p → p ≤ t → pesc s' i = .error p) := by
  have hn : ∀ v j, pesc s i = .ok (v, j) → i < j := fun v j h => (pesc_next h).1
  by_cases hi : i ≤ t
  · have e0 := ha.1 i hi
    unfold pesc
    rw [e0]
    by_cases c1 : pk s' i = 110
    · rw [if_pos c1, if_pos c1]; exact ⟨fun v j h _ => h, fun p h _ => h⟩
    rw [if_neg c1, if_neg c1]
    by_cases c2 : pk s' i = 116
    · rw [if_pos c2, if_pos c2]; exact ⟨fun v j h _ => h, fun p h _ => h⟩
    rw [if_neg c2, if_neg c2]
    by_cases c3 : pk s' i = 114
    · rw [if_pos c3, if_pos c3]; exact ⟨fun v j h _ => h, fun p h _ => h⟩
    rw [if_neg c3, if_neg c3]
    by_cases c4 : pk s' i = 120
    · rw [if_pos c4, if_pos c4]
      by_cases h1 : i + 1 ≤ t
      · rw [ha.1 _ h1]
        cases hexd (pk s' (i + 1)) with
        | none => exact ⟨fun v j h _ => h, fun p h _ => h⟩
        | some d =>
          dsimp only
          by_cases h2 : i + 2 ≤ t
          · rw [ha.1 _ h2]; exact ⟨fun v j h _ => h, fun p h _ => h⟩
          · constructor
            · intro v j h hj
              split at h
              · cases h
              · injection h with h; injection h with h5 h6; omega
            · intro p h hp
              split at h
              · injection h with h; omega
              · cases h
      · constructor
        · intro v j h hj
          split at h
          · cases h
          · split at h
            · cases h
            · injection h with h; injection h with h5 h6; omega
        · intro p h hp
          split at h
          · injection h with h; omega
          · split at h
            · injection h with h; omega
            · cases h
    · rw [if_neg c4, if_neg c4]; exact ⟨fun v j h _ => h, fun p h _ => h⟩
  · constructor
    · intro v j h hj
      have := hn v j h
      omega
    · intro p h hp
      unfold pesc at h
      repeat' split at h
      all_goals first | (injection h with h; omega) | (cases h; done)
theorem pone_ag {s s' : ByteArray} {t i : Nat} {nt : List UInt8} (ha : Ag s s' t) : (∀ v j, pone s i nt = .ok (v, j) → j ≤ t + 1 → pone s' i nt = .ok (v, j)) ∧ (∀ p, pone s i nt = .error p → p ≤ t → pone s' i nt = .error p) := by
  by_cases hi : i ≤ t
  · have e0 := ha.1 i hi
    unfold pone
    rw [e0]
    by_cases c1 : pk s' i = 92
    · rw [if_pos c1, if_pos c1]; exact pesc_ag ha
    · rw [if_neg c1, if_neg c1]; exact ⟨fun v j h _ => h, fun p h _ => h⟩
  · constructor
    · intro v j h hj
      have := (pone_next h).1
      omega
    · intro p h hp
      unfold pone at h
      split at h
      · have : i + 1 ≤ p := by
          unfold pesc at h
          repeat' split at h
          all_goals first | (injection h with h; omega) | (cases h; done)
        omega
      · split at h
        · cases h
        · injection h with h; omega
theorem psets_ag {s s' : ByteArray} {t i : Nat} (ha : Ag s s' t) (hi : i + 1 ≤ t) : psets s i = psets s' i := by
  unfold psets
  rw [ha.1 i (by omega), ha.1 (i + 1) hi]
theorem pone_err {s : ByteArray} {i p : Nat} {nt : List UInt8} (h : pone s i nt = .error p) : i ≤ p := by
  unfold pone at h
  split at h
  · have : i + 1 ≤ p := by
      unfold pesc at h
      repeat' split at h
      all_goals first | (injection h with h; omega) | (cases h; done)
    omega
  · split at h
    · cases h
    · injection h with h; omega
theorem pone_ok_next {s : ByteArray} {i v j : Nat} {nt : List UInt8} (h : pone s i nt = .ok (v, j)) : pk s i = 92 → i + 2 ≤ j := by
  intro h92
  unfold pone at h
  rw [if_pos h92] at h
  have := (pesc_next h).1
  omega
theorem pone_err_next {s : ByteArray} {i p : Nat} {nt : List UInt8} (h : pone s i nt = .error p) : pk s i = 92 → i + 1 ≤ p := by
  intro h92
  unfold pone at h
  rw [if_pos h92] at h
  unfold pesc at h
  repeat' split at h
  all_goals first | (injection h with h; omega) | (cases h; done)
theorem psets_no {s : ByteArray} {i : Nat} (h : pk s i ≠ 92) : psets s i = none := by
  unfold psets; rw [if_neg h]
theorem pitem_ag {s s' : ByteArray} {t i : Nat} (ha : Ag s s' t) : (∀ m j, pitem s i = .ok (m, j) → j ≤ t → pitem s' i = .ok (m, j)) ∧ (∀ p, pitem s i = .error (40, p) → p ≤ t → pitem s' i = .error (40, p)) := by
  by_cases hi : i ≤ t
  · have e0 := ha.1 i hi
    cases hs : psets s i with
    | some m =>
      have h92 : pk s i = 92 := Classical.byContradiction fun h => by rw [psets_no h] at hs; cases hs
      unfold pitem
      rw [hs]
      dsimp only
      refine ⟨fun m' j h hj => ?_, fun p h _ => by cases h⟩
      have hj2 : i + 2 = j := by injection h with h; injection h
      rw [← psets_ag ha (by omega), hs]
      exact h
    | none =>
      have hs' : ∀ q, pk s i = 92 → q ≤ t → i + 1 ≤ q → psets s' i = none := fun q _ h1 h2 => by rw [← psets_ag ha (by omega), hs]
      have hsn : pk s i ≠ 92 → psets s' i = none := fun h => psets_no (by rw [← e0]; exact h)
      have H : ∀ q, (pk s i = 92 → q ≤ t ∧ i + 1 ≤ q) → psets s' i = none := fun q h => by
        by_cases c : pk s i = 92
        · exact hs' q c (h c).1 (h c).2
        · exact hsn c
      unfold pitem
      rw [hs]
      dsimp only
      cases ho : pone s i wth with
      | error p =>
        dsimp only
        refine ⟨fun m j h _ => (by cases h), fun p' h hp => ?_⟩
        have hpp : p = p' := by injection h with h; injection h
        subst hpp
        rw [H p (fun c => ⟨hp, pone_err_next ho c⟩), (pone_ag ha).2 p ho hp]
      | ok r =>
        obtain ⟨f, j⟩ := r
        dsimp only
        have hj := pone_next ho
        by_cases hjt : j ≤ t
        · have e1 := (pone_ag ha).1 f j ho (by omega)
          rw [H (j - 1) (fun c => by have := pone_ok_next ho c; omega), e1]
          dsimp only
          rw [← ha.1 j hjt]
          by_cases c45 : pk s j = 45
          · rw [if_pos c45, if_pos c45]
            cases ho2 : pone s (j + 1) wth with
            | error p =>
              dsimp only
              refine ⟨fun m k h _ => (by cases h), fun p' h hp => ?_⟩
              have hpp : p = p' := by injection h with h; injection h
              subst hpp
              rw [(pone_ag ha).2 p ho2 hp]
            | ok r2 =>
              obtain ⟨l, k⟩ := r2
              dsimp only
              split
              · refine ⟨fun m k h _ => (by cases h), fun p' h hp => ?_⟩
                have : (41 : Int) = 40 := by injection h with h; injection h
                exact absurd this (by decide)
              · rename_i hlf
                refine ⟨fun m k' h hk => ?_, fun p' h _ => (by cases h)⟩
                have hkk : k = k' := by injection h with h; injection h
                subst hkk
                rw [(pone_ag ha).1 l k ho2 (by omega)]
                dsimp only
                rw [if_neg hlf]
                exact h
          · rw [if_neg c45, if_neg c45]
            exact ⟨fun m k h _ => h, fun p h _ => h⟩
        · constructor
          · intro m k h hk
            split at h
            · split at h
              · cases h
              · rename_i l k2 ho2
                have := pone_next ho2
                split at h
                · cases h
                · injection h with h; injection h with h5 h6; omega
            · injection h with h; injection h with h5 h6; omega
          · intro p h hp
            split at h
            · split at h
              · rename_i p2 ho2
                have := pone_err ho2
                injection h with h; injection h with h5 h6; omega
              · split at h
                · injection h with h; injection h with h5 h6; exact absurd h5 (by decide)
                · cases h
            · cases h
  · constructor
    · intro m j h hj
      have := (pitem_next h).1
      omega
    · intro p h hp
      unfold pitem at h
      split at h
      · cases h
      · split at h
        · rename_i q hq
          have := pone_err hq
          injection h with h; injection h with h5 h6; omega
        · rename_i f j hq
          have := pone_next hq
          split at h
          · split at h
            · rename_i q2 hq2
              have := pone_err hq2
              injection h with h; injection h with h5 h6; omega
            · split at h
              · injection h with h; injection h with h5 h6; exact absurd h5 (by decide)
              · cases h
          · cases h
theorem pitem_err {s : ByteArray} {i p : Nat} (h : pitem s i = .error (40, p)) : i ≤ p := by
  unfold pitem at h
  split at h
  · cases h
  · split at h
    · rename_i q hq
      have := pone_err hq
      injection h with h; injection h with h5 h6; omega
    · rename_i f j hq
      have := pone_next hq
      split at h
      · split at h
        · rename_i q2 hq2
          have := pone_err hq2
          injection h with h; injection h with h5 h6; omega
        · split at h
          · injection h with h; injection h with h5 h6; exact absurd h5 (by decide)
          · cases h
      · cases h
/-- The items behind the first one, likewise; the time does not matter. -/
theorem pit_ag {s s' : ByteArray} {t : Nat} (ha : Ag s s' t) : ∀ n n' j m, j ≤ s.size → s.size + 1 - j ≤ n → s'.size + 1 - j ≤ n' → (∀ m2 k, pit s n j m = .ok (m2, k) → k ≤ t + 1 → pit s' n' j m = .ok (m2, k)) ∧ (∀ p, pit s n j m = .error (40, p) → p ≤ t → pit s' n' j m = .error (40, p)) := by
  intro n
  induction n with
  | zero => intro n' j m h1 h2; omega
  | succ n ih =>
    intro n' j m h1 h2 h3
    by_cases hjt : j ≤ t
    · obtain ⟨n', rfl⟩ : ∃ k, n' = k + 1 := ⟨n' - 1, by have := ha.2.2; omega⟩
      rw [pit, pit, ← ha.1 j hjt]
      by_cases c : pk s j = 93
      · rw [if_pos c, if_pos c]; exact ⟨fun m k h _ => h, fun p h _ => h⟩
      · rw [if_neg c, if_neg c]
        cases hp : pitem s j with
        | error e =>
          dsimp only
          refine ⟨fun m k h _ => (by cases h), fun p h hpt => ?_⟩
          injection h with h
          subst h
          rw [(pitem_ag ha).2 p hp hpt]
        | ok r =>
          obtain ⟨m', k⟩ := r
          dsimp only
          have hk := pitem_next hp
          by_cases hkt : k ≤ t
          · rw [(pitem_ag ha).1 m' k hp hkt]
            dsimp only
            exact ih n' k _ hk.2 (by omega) (by omega)
          · constructor
            · intro m2 l h hl
              have := pit_next s n k _ m2 l hk.2 h
              omega
            · intro p h hpt
              exfalso
              have : ∀ n k m p, pit s n k m = .error (40, p) → k ≤ p := by
                intro n
                induction n with
                | zero => intro k m p h; injection h with h; injection h with h5 h6; omega
                | succ n ih2 =>
                  intro k m p h
                  rw [pit] at h
                  split at h
                  · cases h
                  · split at h
                    · rename_i e he
                      injection h with h
                      subst h
                      exact pitem_err he
                    · rename_i m3 k3 he
                      have h7 := ih2 _ _ _ h
                      have h8 := (pitem_next he).1
                      omega
              have := this n k _ p h
              omega
    · constructor
      · intro m2 l h hl
        have := pit_next s (n + 1) j m m2 l h1 h
        omega
      · intro p h hpt
        exfalso
        have : ∀ n k m p, pit s n k m = .error (40, p) → k ≤ p := by
          intro n
          induction n with
          | zero => intro k m p h; injection h with h; injection h with h5 h6; omega
          | succ n ih2 =>
            intro k m p h
            rw [pit] at h
            split at h
            · cases h
            · split at h
              · rename_i e he
                injection h with h
                subst h
                exact pitem_err he
              · rename_i m3 k3 he
                have h7 := ih2 _ _ _ h
                have h8 := (pitem_next he).1
                omega
        have := this (n + 1) j _ p h
        omega
end Go.Proofs.YtkjcnnecdclgfaaDoor
namespace Go.Proofs.YtkjcnnecdclgfaaDoor
theorem pit_err {s : ByteArray} : ∀ n k m p, pit s n k m = .error (40, p) → k ≤ p := by
  intro n
  induction n with
  | zero => intro k m p h; injection h with h; injection h with h5 h6; omega
  | succ n ih2 =>
    intro k m p h
    rw [pit] at h
    split at h
    · cases h
    · split at h
      · rename_i e he
        injection h with h
        subst h
        exact pitem_err he
      · rename_i m3 k3 he
        have h7 := ih2 _ _ _ h
        have h8 := (pitem_next he).1
        omega
/-- A class, with what is done of its set left open. -/
def pcl (s : ByteArray) (b : Nat) (g : (Nat → Bool) → Nat → Except (Int × Nat) ((Nat → Bool) × Nat)) : Except (Int × Nat) ((Nat → Bool) × Nat) :=
  match pitem s b with
  | .error e => .error e
  | .ok (m, k) => match pitF s k m with
    | .error e => .error e
    | .ok (m2, l) => g m2 l
def pclG (c i : Nat) (m2 : Nat → Bool) (l : Nat) : Except (Int × Nat) ((Nat → Bool) × Nat) := if bl (if c = 94 then fun b => !m2 b else m2) = true then .error (41, i) else .ok (if c = 94 then fun b => !m2 b else m2, l)
theorem pclass_eq (s : ByteArray) (i : Nat) : pclass s i = pcl s (if pk s (i + 1) = 94 then i + 2 else i + 1) (pclG (pk s (i + 1)) i) := rfl
theorem pclG_ok {c i : Nat} {m2 m : Nat → Bool} {l j : Nat} (h : pclG c i m2 l = .ok (m, j)) : l = j := by
  unfold pclG at h
  generalize (if c = 94 then fun b => !m2 b else m2) = mm at h
  generalize bl mm = bb at h
  cases bb
  · rw [if_neg (by decide)] at h
    injection h with h; injection h
  · rw [if_pos rfl] at h
    cases h
theorem pclG_err {c i : Nat} {m2 : Nat → Bool} {l p : Nat} (h : pclG c i m2 l = .error (40, p)) : False := by
  unfold pclG at h
  generalize (if c = 94 then fun b => !m2 b else m2) = mm at h
  generalize bl mm = bb at h
  cases bb
  · rw [if_neg (by decide)] at h
    cases h
  · rw [if_pos rfl] at h
    injection h with h; injection h with h5 h6
    exact absurd h5 (by decide)
theorem pcl_ag {s s' : ByteArray} {t b : Nat} {g : (Nat → Bool) → Nat → Except (Int × Nat) ((Nat → Bool) × Nat)} (g1 : ∀ m2 l m j, g m2 l = .ok (m, j) → l = j) (g2 : ∀ m2 l p, g m2 l = .error (40, p) → False) (ha : Ag s s' t) : (∀ m j, pcl s b g = .ok (m, j) → j ≤ t + 1 → pcl s' b g = .ok (m, j)) ∧ (∀ p, pcl s b g = .error (40, p) → p ≤ t → pcl s' b g = .error (40, p)) := by
  unfold pcl
  cases hp : pitem s b with
  | error e =>
    dsimp only
    refine ⟨fun m k h _ => (by cases h), fun p h hpt => ?_⟩
    injection h with h
    subst h
    rw [(pitem_ag ha).2 p hp hpt]
  | ok r =>
    obtain ⟨m', k⟩ := r
    dsimp only
    have hk := pitem_next hp
    by_cases hkt : k ≤ t
    · rw [(pitem_ag ha).1 m' k hp hkt]
      dsimp only
      have hag := pit_ag ha (s.size + 1) (s'.size + 1) k m' hk.2 (by omega) (by omega)
      unfold pitF
      cases hq : pit s (s.size + 1) k m' with
      | error e =>
        dsimp only
        refine ⟨fun m k h _ => (by cases h), fun p h hpt => ?_⟩
        injection h with h
        subst h
        rw [hag.2 p hq hpt]
      | ok r2 =>
        obtain ⟨m2, l⟩ := r2
        dsimp only
        refine ⟨fun m j h hj => ?_, fun p h _ => (g2 _ _ _ h).elim⟩
        have hl := g1 _ _ _ _ h
        rw [hag.1 m2 l hq (by omega)]
        exact h
    · constructor
      · intro m j h hj
        split at h
        · cases h
        · rename_i m2 l hq
          unfold pitF at hq
          have := pit_next s _ k _ _ _ hk.2 hq
          have := g1 _ _ _ _ h
          omega
      · intro p h hpt
        split at h
        · rename_i e hq
          injection h with h
          subst h
          unfold pitF at hq
          have := pit_err _ _ _ _ hq
          omega
        · exact (g2 _ _ _ h).elim
theorem pcl_next {s : ByteArray} {b j : Nat} {m : Nat → Bool} {g : (Nat → Bool) → Nat → Except (Int × Nat) ((Nat → Bool) × Nat)} (g1 : ∀ m2 l m j, g m2 l = .ok (m, j) → l = j) (h : pcl s b g = .ok (m, j)) : b + 1 < j := by
  unfold pcl at h
  split at h
  · cases h
  · rename_i m1 k hp
    have h2 := pitem_next hp
    split at h
    · cases h
    · rename_i m2 l hq
      unfold pitF at hq
      have := pit_next s _ k _ _ _ h2.2 hq
      have := g1 _ _ _ _ h
      omega
theorem pcl_err {s : ByteArray} {b p : Nat} {g : (Nat → Bool) → Nat → Except (Int × Nat) ((Nat → Bool) × Nat)} (g2 : ∀ m2 l p, g m2 l = .error (40, p) → False) (h : pcl s b g = .error (40, p)) : b ≤ p := by
  unfold pcl at h
  split at h
  · rename_i e hp
    injection h with h
    subst h
    exact pitem_err hp
  · rename_i m1 k hp
    have h2 := pitem_next hp
    split at h
    · rename_i e hq
      injection h with h
      subst h
      unfold pitF at hq
      have := pit_err _ _ _ _ hq
      omega
    · exact (g2 _ _ _ h).elim
theorem cls_ge {c i : Nat} : i + 1 ≤ (if c = 94 then i + 2 else i + 1) := by split <;> omega
theorem pclass_ag {s s' : ByteArray} {t i : Nat} (ha : Ag s s' t) : (∀ m j, pclass s i = .ok (m, j) → j ≤ t + 1 → pclass s' i = .ok (m, j)) ∧ (∀ p, pclass s i = .error (40, p) → p ≤ t → pclass s' i = .error (40, p)) := by
  by_cases h1 : i + 1 ≤ t
  · rw [pclass_eq, pclass_eq, ← ha.1 (i + 1) h1]
    exact pcl_ag (fun _ _ _ _ h => pclG_ok h) (fun _ _ _ h => pclG_err h) ha
  · rw [pclass_eq]
    constructor
    · intro m j h hj
      have := pcl_next (fun _ _ _ _ h => pclG_ok h) h
      have := @cls_ge (pk s (i + 1)) i
      omega
    · intro p h hpt
      have := pcl_err (fun _ _ _ h => pclG_err h) h
      have := @cls_ge (pk s (i + 1)) i
      omega
theorem atm_ag {s s' : ByteArray} {t i : Nat} (ha : Ag s s' t) (hi : i ≤ t) : (∀ m j, atm s i = .ok (m, j) → j ≤ t + 1 → atm s' i = .ok (m, j)) ∧ (∀ p, atm s i = .error (40, p) → p ≤ t → atm s' i = .error (40, p)) := by
  have e0 := ha.1 i hi
  unfold atm
  rw [← e0]
  by_cases c1 : pk s i = 91
  · rw [if_pos c1, if_pos c1]; exact pclass_ag ha
  rw [if_neg c1, if_neg c1]
  by_cases c2 : pk s i = 46
  · rw [if_pos c2, if_pos c2]; exact ⟨fun v j h _ => h, fun p h _ => h⟩
  rw [if_neg c2, if_neg c2]
  cases hs : psets s i with
  | some m =>
    have h92 : pk s i = 92 := Classical.byContradiction fun h => by rw [psets_no h] at hs; cases hs
    dsimp only
    refine ⟨fun m' j h hj => ?_, fun p h _ => (by cases h)⟩
    have hj2 : i + 2 = j := by injection h with h; injection h
    rw [← psets_ag ha (by omega), hs]
    exact h
  | none =>
    have H : ∀ q, (pk s i = 92 → q ≤ t ∧ i + 1 ≤ q) → psets s' i = none := fun q h => by
      by_cases c : pk s i = 92
      · rw [← psets_ag ha (by have := h c; omega), hs]
      · exact psets_no (by rw [← e0]; exact c)
    dsimp only
    cases ho : pone s i sgn with
    | error p =>
      dsimp only
      refine ⟨fun m j h _ => (by cases h), fun p' h hp => ?_⟩
      have hpp : p = p' := by injection h with h; injection h
      subst hpp
      rw [H p (fun c => ⟨hp, pone_err_next ho c⟩), (pone_ag ha).2 p ho hp]
    | ok r =>
      obtain ⟨f, j⟩ := r
      dsimp only
      have hj := pone_next ho
      refine ⟨fun m k h hk => ?_, fun p h _ => (by cases h)⟩
      have hjk : j = k := by injection h with h; injection h
      rw [H (j - 1) (fun c => by have := pone_ok_next ho c; omega), (pone_ag ha).1 f j ho (by omega)]
      exact h
theorem mst_ag {s s' : ByteArray} {t : Nat} {M : Mc} (ha : Ag s s' t) (hi : M.i ≤ t) : (∀ M', mst s M = .ok M' → M'.i ≤ t + 1 → mst s' M = .ok M') ∧ (∀ p, mst s M = .error (40, p) → p ≤ t → mst s' M = .error (40, p)) := by
  have e0 := ha.1 M.i hi
  unfold mst
  rw [← e0]
  by_cases c1 : pk s M.i = 40
  · rw [if_pos c1, if_pos c1]; exact ⟨fun v h _ => h, fun p h _ => h⟩
  rw [if_neg c1, if_neg c1]
  by_cases c2 : pk s M.i = 41
  · rw [if_pos c2, if_pos c2]; exact ⟨fun v h _ => h, fun p h _ => h⟩
  rw [if_neg c2, if_neg c2]
  by_cases c3 : pk s M.i = 124 ∨ pk s M.i = 42 ∨ pk s M.i = 43 ∨ pk s M.i = 63
  · rw [if_pos c3, if_pos c3]; exact ⟨fun v h _ => h, fun p h _ => h⟩
  rw [if_neg c3, if_neg c3]
  have hag := atm_ag ha hi
  cases hq : atm s M.i with
  | error e =>
    dsimp only
    refine ⟨fun m h _ => (by cases h), fun p h hpt => ?_⟩
    injection h with h
    subst h
    rw [hag.2 p hq hpt]
  | ok r =>
    obtain ⟨m, j⟩ := r
    dsimp only
    refine ⟨fun M' h hM => ?_, fun p h _ => (by cases h)⟩
    have hj : j = M'.i := by injection h with h; rw [← h]
    rw [hag.1 m j hq (by omega)]
    exact h
theorem vfin_ne {s : ByteArray} {t : Nat} (ht : t < s.size) : ∀ M, vfin s M = .error (40, t) → False := fun M h => by
  unfold vfin at h
  split at h
  · injection h with h; injection h with h5 h6
    omega
  · split at h
    · injection h with h; injection h with h5 h6; exact absurd h5 (by decide)
    · cases h
theorem vgo_ge {s : ByteArray} {t : Nat} (ht : t < s.size) : ∀ n M, M.i ≤ s.size → t < M.i → vgo s n M = .error (40, t) → False := by
  intro n
  induction n with
  | zero => intro M _ _ h; exact vfin_ne ht M h
  | succ n ih2 =>
    intro M g1 g2 g3
    rw [vgo] at g3
    split at g3
    · rename_i hl
      split at g3
      · rename_i e he
        injection g3 with g3
        subst g3
        unfold mst at he
        split at he
        · split at he
          · injection he with he; injection he with h5 h6; exact absurd h5 (by decide)
          · cases he
        · split at he
          · split at he
            · injection he with he; injection he with h5 h6; omega
            · split at he
              · cases he
              · split at he
                · injection he with he; injection he with h5 h6; omega
                · cases he
          · split at he
            · split at he
              · injection he with he; injection he with h5 h6; omega
              · split at he <;> cases he
            · split at he
              · rename_i e2 he2
                injection he with he
                subst he
                unfold atm at he2
                split at he2
                · rw [pclass_eq] at he2
                  have h7 := pcl_err (fun _ _ _ h => pclG_err h) he2
                  have := @cls_ge (pk s (M.i + 1)) M.i
                  omega
                · split at he2
                  · cases he2
                  · split at he2
                    · cases he2
                    · split at he2
                      · rename_i q hq
                        have := pone_err hq
                        injection he2 with he2; injection he2 with h5 h6; omega
                      · cases he2
              · cases he
      · rename_i M' hM'
        have := mst_next hl hM'
        exact ih2 M' this.2 (by omega) g3
    · exact vfin_ne ht M g3
/-- Fault that is found at a place is found there whatever stands behind that place's byte. -/
theorem vgo_ag {s s' : ByteArray} {t : Nat} (ha : Ag s s' t) : ∀ n n' M, s.size - M.i ≤ n → s'.size - M.i ≤ n' → M.i ≤ s.size → vgo s n M = .error (40, t) → vgo s' n' M = .error (40, t) := by
  intro n
  have hfin : ∀ M, vfin s M = .error (40, t) → False := fun M h => by
    unfold vfin at h
    split at h
    · injection h with h; injection h with h5 h6
      have := ha.2.1
      omega
    · split at h
      · injection h with h; injection h with h5 h6; exact absurd h5 (by decide)
      · cases h
  induction n with
  | zero =>
    intro n' M h1 h2 h3 h
    exact (hfin M h).elim
  | succ n ih =>
    intro n' M h1 h2 h3 h
    rw [vgo] at h
    split at h
    · rename_i hlt
      have hle : M.i ≤ t := by
        refine Classical.byContradiction fun hgt => ?_
        exact vgo_ge ha.2.1 (n + 1) M h3 (by omega) (by rw [vgo, if_pos hlt]; exact h)
      obtain ⟨n', rfl⟩ : ∃ k, n' = k + 1 := ⟨n' - 1, by have := ha.2.2; omega⟩
      rw [vgo, if_pos (by have := ha.2.2; omega)]
      have hag := mst_ag ha hle
      cases hm : mst s M with
      | error e =>
        rw [hm] at h
        dsimp only at h
        injection h with h
        subst h
        rw [hag.2 t hm (Nat.le_refl _)]
      | ok M' =>
        rw [hm] at h
        dsimp only at h
        have hn := mst_next hlt hm
        by_cases hMt : M'.i ≤ t + 1
        · rw [hag.1 M' hm hMt]
          dsimp only
          exact ih n' M' (by omega) (by omega) hn.2 h
        · exact (vgo_ge ha.2.1 n M' hn.2 (by omega) h).elim
    · exact (hfin M h).elim
end Go.Proofs.YtkjcnnecdclgfaaDoor
namespace Go.Proofs.YtkjcnnecdclgfaaDoor
theorem V_ag {s s' : ByteArray} {t : Nat} (ha : Ag s s' t) {M : Mc} (hM : M.i ≤ s.size) (h : V s M = .error (40, t)) : V s' M = .error (40, t) := vgo_ag ha _ _ M (by omega) (by omega) hM h
/-- Where fault is found, and which. -/
def Fc (s : ByteArray) (e : Int × Nat) : Prop := (e.1 = 40 ∨ e.1 = 41 ∨ e.1 = 42) ∧ e.2 ≤ s.size
theorem pesc_fc {s : ByteArray} {i p : Nat} (h : pesc s i = .error p) (hi : i ≤ s.size) : p ≤ s.size := by
  unfold pesc at h
  split at h
  · cases h
  split at h
  · cases h
  split at h
  · cases h
  split at h
  · rename_i h4
    have h0 := pk_in (s := s) (i := i) (by rw [h4]; decide)
    split at h
    · injection h with h; omega
    · rename_i d hd
      have h1 := hexd_in hd
      split at h
      · injection h with h; omega
      · cases h
  · split at h
    · cases h
    · injection h with h; omega
theorem pone_fc {s : ByteArray} {i p : Nat} {nt : List UInt8} (h : pone s i nt = .error p) (hi : i ≤ s.size) : p ≤ s.size := by
  unfold pone at h
  split at h
  · rename_i h4
    have h0 := pk_in (s := s) (i := i) (by rw [h4]; decide)
    exact pesc_fc h (by omega)
  · split at h
    · cases h
    · injection h with h; omega
theorem pitem_fc {s : ByteArray} {i : Nat} {e : Int × Nat} (h : pitem s i = .error e) (hi : i ≤ s.size) : Fc s e := by
  unfold pitem at h
  split at h
  · cases h
  · split at h
    · rename_i q hq
      injection h with h; subst h
      exact ⟨.inl rfl, pone_fc hq hi⟩
    · rename_i f j hq
      have h1 := pone_next hq
      split at h
      · rename_i h45
        have h0 := pk_in (s := s) (i := j) (by rw [h45]; decide)
        split at h
        · rename_i q2 hq2
          injection h with h; subst h
          exact ⟨.inl rfl, pone_fc hq2 (by omega)⟩
        · split at h
          · injection h with h; subst h
            exact ⟨.inr (.inl rfl), hi⟩
          · cases h
      · cases h
theorem pit_fc {s : ByteArray} : ∀ n j m e, j ≤ s.size → pit s n j m = .error e → Fc s e := by
  intro n
  induction n with
  | zero => intro j m e hj h; injection h with h; subst h; exact ⟨.inl rfl, hj⟩
  | succ n ih =>
    intro j m e hj h
    rw [pit] at h
    split at h
    · cases h
    · split at h
      · rename_i e2 he
        injection h with h; subst h
        exact pitem_fc he hj
      · rename_i m1 k1 he
        exact ih _ _ _ (pitem_next he).2 h
theorem pclass_fc {s : ByteArray} {i : Nat} {e : Int × Nat} (hi : i < s.size) (h : pclass s i = .error e) : Fc s e := by
  rw [pclass_eq] at h
  have hb : (if pk s (i + 1) = 94 then i + 2 else i + 1) ≤ s.size := by
    split
    · rename_i h94
      have h0 := pk_in (s := s) (i := i + 1) (by rw [h94]; decide)
      omega
    · omega
  generalize (if pk s (i + 1) = 94 then i + 2 else i + 1) = b at h hb
  unfold pcl at h
  split at h
  · rename_i e2 he
    injection h with h; subst h
    exact pitem_fc he hb
  · rename_i m1 k1 he
    split at h
    · rename_i e2 he2
      injection h with h; subst h
      exact pit_fc _ _ _ _ (pitem_next he).2 he2
    · rename_i m2 l _
      unfold pclG at h
      generalize (if pk s (i + 1) = 94 then fun b => !m2 b else m2) = mm at h
      generalize bl mm = bb at h
      cases bb
      · rw [if_neg (by decide)] at h; cases h
      · rw [if_pos rfl] at h
        injection h with h; subst h
        exact ⟨.inr (.inl rfl), by dsimp only; omega⟩
theorem atm_fc {s : ByteArray} {i : Nat} {e : Int × Nat} (hi : i < s.size) (h : atm s i = .error e) : Fc s e := by
  unfold atm at h
  split at h
  · exact pclass_fc hi h
  · split at h
    · cases h
    · split at h
      · cases h
      · split at h
        · rename_i q hq
          injection h with h; subst h
          exact ⟨.inl rfl, pone_fc hq (by omega)⟩
        · cases h
theorem mst_fc {s : ByteArray} {M : Mc} {e : Int × Nat} (hi : M.i < s.size) (h : mst s M = .error e) : Fc s e := by
  unfold mst at h
  split at h
  · split at h
    · injection h with h; subst h; exact ⟨.inr (.inr rfl), by dsimp only; omega⟩
    · cases h
  · split at h
    · split at h
      · injection h with h; subst h; exact ⟨.inl rfl, by dsimp only; omega⟩
      · split at h
        · cases h
        · split at h
          · injection h with h; subst h; exact ⟨.inl rfl, by dsimp only; omega⟩
          · cases h
    · split at h
      · split at h
        · injection h with h; subst h; exact ⟨.inl rfl, by dsimp only; omega⟩
        · split at h <;> cases h
      · split at h
        · rename_i e2 he
          injection h with h; subst h
          exact atm_fc hi he
        · cases h
theorem V_fc {s : ByteArray} : ∀ n M e, M.i ≤ s.size → vgo s n M = .error e → Fc s e := by
  have hfin : ∀ M e, vfin s M = .error e → Fc s e := fun M e h => by
    unfold vfin at h
    split at h
    · injection h with h; subst h; exact ⟨.inl rfl, by dsimp only; omega⟩
    · split at h
      · injection h with h; subst h; exact ⟨.inr (.inr rfl), Nat.zero_le _⟩
      · cases h
  intro n
  induction n with
  | zero => intro M e _ h; exact hfin M e h
  | succ n ih =>
    intro M e hM h
    rw [vgo] at h
    split at h
    · rename_i hl
      split at h
      · rename_i e2 he
        injection h with h; subst h
        exact mst_fc hl he
      · rename_i M' hM'
        exact ih M' e (mst_next hl hM').2 h
    · exact hfin M e h
/-- What is read of a set is some set. -/
theorem bl_of {m : Nat → Bool} {x : Nat} (hx : x < 256) (hm : m x = true) : bl m = false := by
  cases hb : bl m with
  | false => rfl
  | true =>
    have := bl_none (n := ⟨0, m, 0, 0⟩) hb x hx
    dsimp only at this
    rw [hm] at this
    cases this
theorem hexd_le {c d : Nat} (h : hexd c = some d) : d < 16 := hexd_lt h
theorem pk_le (s : ByteArray) (i : Nat) : pk s i < 256 := by
  unfold pk
  split
  · exact UInt8.toNat_lt _
  · decide
theorem pesc_lt {s : ByteArray} {i v j : Nat} (h : pesc s i = .ok (v, j)) : v < 256 := by
  unfold pesc at h
  split at h
  · injection h with h; injection h with h1 h2; omega
  split at h
  · injection h with h; injection h with h1 h2; omega
  split at h
  · injection h with h; injection h with h1 h2; omega
  split at h
  · split at h
    · cases h
    · rename_i d hd
      split at h
      · cases h
      · rename_i d2 hd2
        have := hexd_lt hd
        have := hexd_lt hd2
        injection h with h; injection h with h1 h2; omega
  · split at h
    · injection h with h; injection h with h1 h2
      have := pk_le s i
      omega
    · cases h
theorem pone_lt {s : ByteArray} {i v j : Nat} {nt : List UInt8} (h : pone s i nt = .ok (v, j)) : v < 256 := by
  unfold pone at h
  split at h
  · exact pesc_lt h
  · split at h
    · injection h with h; injection h with h1 h2
      have := pk_le s i
      omega
    · cases h
theorem if_bl {f : (Nat → Bool) → Bool} {mm m : Nat → Bool} {l j : Nat} {e : Int × Nat} (h : (if f mm = true then (.error e : Except (Int × Nat) ((Nat → Bool) × Nat)) else .ok (mm, l)) = .ok (m, j)) : f m = false := by
  by_cases hf : f mm = true
  · rw [if_pos hf] at h; cases h
  · rw [if_neg hf] at h
    injection h with h
    injection h with h1 h2
    subst h1
    simpa using hf
theorem bl_dot : bl (fun b => !(b == 10)) = false := bl_of (x := 0) (by decide) rfl
theorem bl_dig : bl mdig = false := bl_of (x := 48) (by decide) rfl
theorem bl_let : bl mlet = false := bl_of (x := 97) (by decide) rfl
theorem bl_blk : bl mblk = false := bl_of (x := 32) (by decide) rfl
theorem bl_one (v : Nat) (h : v < 256) : bl (fun b => decide (v ≤ b) && decide (b ≤ v)) = false := bl_of (x := v) h (by simp)
theorem psets_of {s : ByteArray} {i : Nat} {m : Nat → Bool} (h : psets s i = some m) : m = mdig ∨ m = mlet ∨ m = mblk := by
  unfold psets at h
  split at h
  · split at h
    · injection h with h
      exact .inl h.symm
    · split at h
      · injection h with h
        exact .inr (.inl h.symm)
      · split at h
        · injection h with h
          exact .inr (.inr h.symm)
        · cases h
  · cases h
theorem psets_bl {s : ByteArray} {i : Nat} {m : Nat → Bool} (h : psets s i = some m) : bl m = false := by
  rcases psets_of h with h | h | h
  · exact h ▸ bl_dig
  · exact h ▸ bl_let
  · exact h ▸ bl_blk
theorem pclass_bl {s : ByteArray} {i j : Nat} {m : Nat → Bool} (h : pclass s i = .ok (m, j)) : bl m = false := by
  rw [pclass_eq] at h
  unfold pcl at h
  split at h
  · cases h
  · split at h
    · cases h
    · rename_i m2 l _
      unfold pclG at h
      generalize (if pk s (i + 1) = 94 then fun b => !m2 b else m2) = mm at h
      exact if_bl h
theorem atm_of {s : ByteArray} {i j : Nat} {m : Nat → Bool} (h : atm s i = .ok (m, j)) : pclass s i = .ok (m, j) ∨ m = (fun b => !(b == 10)) ∨ psets s i = some m ∨ ∃ v, v < 256 ∧ m = fun b => decide (v ≤ b) && decide (b ≤ v) := by
  unfold atm at h
  by_cases c1 : pk s i = 91
  · rw [if_pos c1] at h; exact .inl h
  rw [if_neg c1] at h
  by_cases c2 : pk s i = 46
  · rw [if_pos c2] at h
    injection h with h; injection h with h1 h2
    exact .inr (.inl h1.symm)
  rw [if_neg c2] at h
  cases hs : psets s i with
  | some m' =>
    rw [hs] at h
    dsimp only at h
    injection h with h; injection h with h1 h2
    rw [h1]
    exact .inr (.inr (.inl rfl))
  | none =>
    rw [hs] at h
    dsimp only at h
    cases hp : pone s i sgn with
    | error p => rw [hp] at h; cases h
    | ok r =>
      obtain ⟨v, k⟩ := r
      rw [hp] at h
      dsimp only at h
      injection h with h; injection h with h1 h2
      exact .inr (.inr (.inr ⟨v, pone_lt hp, h1.symm⟩))
theorem atm_bl {s : ByteArray} {i j : Nat} {m : Nat → Bool} (h : atm s i = .ok (m, j)) : bl m = false := by
  rcases atm_of h with h | h | h | ⟨v, hv, h⟩
  · exact pclass_bl h
  · exact h ▸ bl_dot
  · exact psets_bl h
  · exact h ▸ bl_one v hv
end Go.Proofs.YtkjcnnecdclgfaaDoor
namespace Go.Proofs.YtkjcnnecdclgfaaDoor
/-- Trees one behind the other, told by their roots, the last one first, up to a place. -/
def Fo (z : List Nat) : List Nat → Nat → Prop
  | [], e => e = 0
  | r :: rs, e => r + 1 = e ∧ z.getD r 0 ≤ e ∧ Fo z rs (e - z.getD r 0)
theorem Fo.ext {z : List Nat} {k : Nat} : ∀ {rs : List Nat} {e : Nat}, Fo z rs e → e ≤ z.length → Fo (z ++ [k]) rs e
  | [], _, h, _ => h
  | r :: rs, e, h, he => by
    have h1 := h.1
    have e1 : (z ++ [k]).getD r 0 = z.getD r 0 := getD_app1 _ _ _ _ (by omega)
    refine ⟨h1, by rw [e1]; exact h.2.1, ?_⟩
    rw [e1]
    exact Fo.ext h.2.2 (by omega)
def opt (x : Int) : List Nat := if 0 ≤ x then [x.toNat] else []
theorem opt_neg {x : Int} (h : x < 0) : opt x = [] := by unfold opt; rw [if_neg (by omega)]
theorem opt_pos {x : Int} (h : 0 ≤ x) : opt x = [x.toNat] := by unfold opt; rw [if_pos h]
theorem opt_nat (r : Nat) : opt (r : Int) = [r] := by rw [opt_pos (by omega)]; simp
def rts (g : Grp) : List Nat := opt g.part ++ (opt g.cat ++ opt g.alt)
def rtz : List Grp → List Nat
  | [] => []
  | g :: l => rts g ++ rtz l
/-- The nodes that have been read are trees one behind the other: those roots. -/
def Iv (o : List Nd) (R : List Nat) : Prop := ∃ z, szs o [] = some z ∧ z.length = o.length ∧ Fo z R o.length
theorem Iv.nil : Iv [] [] := ⟨[], rfl, rfl, rfl⟩
theorem Iv.add {o : List Nd} {n : Nd} {k : Nat} {R' : List Nat} {z : List Nat} (hz : szs o [] = some z) (hl : z.length = o.length) (he : ext n z = some k) (hk : k ≤ o.length + 1) (hF : Fo z R' (o.length + 1 - k)) (hk0 : 1 ≤ k) : Iv (o ++ [n]) (o.length :: R') := by
  refine ⟨z ++ [k], ?_, by simp [hl], ?_⟩
  · rw [szs_app, hz]
    simp only [Option.bind_some, szs, he]
  · have e1 : (z ++ [k]).getD o.length 0 = k := by rw [← hl, getD_app2 _ _ _ _ (Nat.le_refl _)]; simp
    rw [List.length_append, List.length_singleton]
    refine ⟨rfl, by rw [e1]; exact hk, ?_⟩
    rw [e1]
    exact hF.ext (by omega)
theorem Iv.leaf {o : List Nd} {n : Nd} {R : List Nat} (h : Iv o R) (h1 : n.op = 1 ∨ n.op = 2) (hb : bl n.m = decide (n.op = 2)) (ha : n.a = -1) (hbb : n.b = -1) : Iv (o ++ [n]) (o.length :: R) := by
  obtain ⟨z, hz, hl, hF⟩ := h
  refine Iv.add hz hl (k := 1) ?_ (by omega) (by simpa using hF) (by omega)
  unfold Go.Proofs.YtkjcnnecdclgfaaDoor.ext
  rw [if_pos h1, if_pos ⟨hb, ha, hbb⟩]
theorem Iv.un {o : List Nd} {n : Nd} {r : Nat} {R : List Nat} (h : Iv o (r :: R)) (h1 : n.op = 5 ∨ n.op = 6 ∨ n.op = 7) (hb : bl n.m = true) (ha : n.a = (r : Int)) (hbb : n.b = -1) : Iv (o ++ [n]) (o.length :: R) := by
  obtain ⟨z, hz, hl, hF⟩ := h
  have f1 := hF.1
  have f2 := hF.2.1
  have er : r = z.length - 1 := by omega
  refine Iv.add hz hl (k := z.getD r 0 + 1) ?_ (by omega) ?_ (by omega)
  · unfold Go.Proofs.YtkjcnnecdclgfaaDoor.ext
    rw [if_neg (by omega), if_pos h1, if_pos ⟨hb, by omega, by omega, hbb⟩, ← er]
  · have := hF.2.2
    rwa [show o.length + 1 - (z.getD r 0 + 1) = o.length - z.getD r 0 by omega]
theorem Iv.bin {o : List Nd} {n : Nd} {r c : Nat} {R : List Nat} (h : Iv o (r :: c :: R)) (h1 : n.op = 3 ∨ n.op = 4) (hb : bl n.m = true) (ha : n.a = (c : Int)) (hbb : n.b = (r : Int)) : Iv (o ++ [n]) (o.length :: R) := by
  obtain ⟨z, hz, hl, hF⟩ := h
  have f1 := hF.1
  have f2 := hF.2.1
  have f3 := hF.2.2.1
  have f4 := hF.2.2.2.1
  have f5 := (szs_ok hz zok_nil).1 r (by omega)
  have er : r = z.length - 1 := by omega
  refine Iv.add hz hl (k := z.getD c 0 + z.getD r 0 + 1) ?_ (by omega) ?_ (by omega)
  · unfold Go.Proofs.YtkjcnnecdclgfaaDoor.ext
    rw [if_neg (by omega), if_neg (by omega), if_pos h1]
    rw [← er, show r - z.getD r 0 = c by omega]
    rw [if_pos ⟨hb, by omega, by omega, by omega, by omega⟩]
  · have := hF.2.2.2.2
    rwa [show o.length + 1 - (z.getD c 0 + z.getD r 0 + 1) = o.length - z.getD r 0 - z.getD c 0 by omega]
theorem bl_zn (op a b : Int) : bl (zn op a b).m = true := by
  unfold bl zn
  dsimp only
  rw [wd_none, wd_none, wd_none, wd_none]
  decide
theorem Iv.stl {o : List Nd} {g : Grp} {R : List Nat} (h : Iv o (rts g ++ R)) : Iv (stl o g).1 (rts (stl o g).2 ++ R) ∧ (0 ≤ g.part → 0 ≤ (Go.Proofs.YtkjcnnecdclgfaaDoor.stl o g).2.cat) := by
  unfold Go.Proofs.YtkjcnnecdclgfaaDoor.stl
  by_cases h1 : 0 ≤ g.part
  · rw [if_pos h1]
    by_cases h2 : 0 ≤ g.cat
    · rw [if_pos h2]
      refine ⟨?_, fun _ => by dsimp only; omega⟩
      unfold rts at h ⊢
      rw [opt_pos h1, opt_pos h2] at h
      dsimp only
      rw [opt_neg (by decide), opt_nat]
      exact h.bin (.inl rfl) (bl_zn _ _ _) (by show g.cat = _; omega) (by show g.part = _; omega)
    · rw [if_neg h2]
      refine ⟨?_, fun _ => h1⟩
      unfold rts at h ⊢
      rw [opt_neg (x := g.cat) (by omega)] at h
      dsimp only
      rw [opt_neg (x := -1) (by decide)]
      exact h
  · rw [if_neg h1]
    exact ⟨h, fun h3 => absurd h3 h1⟩
theorem Iv.brn {o : List Nd} {g : Grp} {R : List Nat} (h : Iv o (rts g ++ R)) (hp : 0 ≤ g.part) : ∃ r : Nat, (brn o g).2.alt = (r : Int) ∧ (brn o g).2.cat = -1 ∧ (brn o g).2.part < 0 ∧ Iv (brn o g).1 (r :: R) := by
  obtain ⟨h1, h2⟩ := h.stl
  have h3 := stl_part o g
  have h4 := h2 hp
  unfold Go.Proofs.YtkjcnnecdclgfaaDoor.brn
  generalize Go.Proofs.YtkjcnnecdclgfaaDoor.stl o g = q at h1 h2 h3 h4
  obtain ⟨o', g'⟩ := q
  dsimp only at h1 h2 h3 h4 ⊢
  unfold rts at h1
  rw [opt_neg h3, opt_pos h4] at h1
  by_cases h5 : 0 ≤ g'.alt
  · rw [if_pos h5]
    rw [opt_pos h5] at h1
    refine ⟨o'.length, rfl, rfl, h3, ?_⟩
    exact h1.bin (.inr rfl) (bl_zn _ _ _) (by show g'.alt = _; omega) (by show g'.cat = _; omega)
  · rw [if_neg h5]
    rw [opt_neg (x := g'.alt) (by omega)] at h1
    exact ⟨g'.cat.toNat, by dsimp only; omega, rfl, h3, h1⟩
/-- What holds of the state while a text is read. -/
structure Im (M : Mc) : Prop where
  v : Iv M.out (rts M.g ++ rtz M.st)
  p : ∀ h ∈ M.st, h.part < 0
theorem rts_part {h : Grp} (hp : h.part < 0) : rts h = opt h.cat ++ opt h.alt := by unfold rts; rw [opt_neg hp]; rfl
theorem rts_frG : rts frG = [] := by decide
theorem Im.step {s : ByteArray} {M M' : Mc} (h : Im M) (hm : mst s M = .ok M') : Im M' := by
  obtain ⟨i, o, g, st⟩ := M
  unfold mst at hm
  dsimp only at hm
  have hv : Iv o (rts g ++ rtz st) := h.v
  have hp : ∀ h ∈ st, h.part < 0 := h.p
  by_cases c1 : pk s i = 40
  · rw [if_pos c1] at hm
    split at hm
    · cases hm
    · injection hm with hm
      rw [← hm]
      refine ⟨?_, ?_⟩
      · dsimp only
        rw [rts_frG]
        exact hv.stl.1
      · intro x hx
        rcases List.mem_cons.1 hx with e | e
        · rw [e]; exact stl_part o g
        · exact hp x e
  rw [if_neg c1] at hm
  by_cases c2 : pk s i = 41
  · rw [if_pos c2] at hm
    cases st with
    | nil => cases hm
    | cons x t =>
      dsimp only at hm
      have hx := hp x (by simp)
      have hv2 : Iv o (rts g ++ (rts x ++ rtz t)) := hv
      split at hm
      · rename_i c3
        injection hm with hm
        rw [← hm]
        refine ⟨?_, fun y hy => hp y (List.mem_cons_of_mem _ hy)⟩
        dsimp only
        have e0 : rts g = [] := by unfold rts; rw [opt_neg c3.1, opt_neg c3.2.1, opt_neg c3.2.2]; rfl
        rw [e0, List.nil_append] at hv2
        have := hv2.leaf (n := zn 2 (-1) (-1)) (.inr rfl) (by rw [bl_zn]; rfl) rfl rfl
        rw [rts_part hx] at this
        unfold rts
        dsimp only
        rw [opt_nat]
        exact this
      · split at hm
        · cases hm
        · rename_i c3 c4
          injection hm with hm
          rw [← hm]
          refine ⟨?_, fun y hy => hp y (List.mem_cons_of_mem _ hy)⟩
          obtain ⟨r, r1, r2, r3, r4⟩ := hv2.brn (by omega)
          dsimp only
          rw [rts_part hx] at r4
          rw [r1]
          unfold rts
          dsimp only
          rw [opt_nat]
          exact r4
  rw [if_neg c2] at hm
  split at hm
  · split at hm
    · cases hm
    · rename_i c4
      split at hm
      · injection hm with hm
        rw [← hm]
        refine ⟨?_, hp⟩
        obtain ⟨r, r1, r2, r3, r4⟩ := hv.brn (by omega)
        dsimp only
        unfold rts
        rw [r1, r2, opt_neg r3, opt_neg (x := -1) (by decide), opt_nat]
        exact r4
      · injection hm with hm
        rw [← hm]
        refine ⟨?_, hp⟩
        dsimp only
        unfold rts at hv ⊢
        dsimp only
        rw [opt_pos (x := g.part) (by omega)] at hv
        rw [opt_nat]
        refine hv.un (n := zn _ _ _) ?_ (bl_zn _ _ _) (by show g.part = _; omega) rfl
        show (_ : Int) = 5 ∨ _ ∨ _
        split
        · exact .inl rfl
        · split
          · exact .inr (.inl rfl)
          · exact .inr (.inr rfl)
  · split at hm
    · cases hm
    · rename_i m j hq
      have hbl := atm_bl hq
      injection hm with hm
      rw [← hm]
      refine ⟨?_, hp⟩
      have h9 := hv.stl.1
      have h8 := stl_part o g
      dsimp only
      unfold rts at h9 ⊢
      rw [opt_neg h8] at h9
      dsimp only
      rw [opt_nat]
      exact h9.leaf (n := ⟨1, m, -1, -1⟩) (.inl rfl) hbl rfl rfl
theorem vgo_sh {s : ByteArray} : ∀ n M re, Im M → vgo s n M = .ok re → Sh re = true := by
  have hfin : ∀ M re, Im M → vfin s M = .ok re → Sh re = true := fun M re h hv => by
    unfold vfin at hv
    split at hv
    · cases hv
    · rename_i h1
      split at hv
      · cases hv
      · rename_i h2
        injection hv with hv
        have e0 : M.st = [] := Classical.byContradiction fun hn => h1 (.inl hn)
        have h3 := h.v
        rw [e0] at h3
        obtain ⟨r, r1, r2, r3, z, z1, z2, z3⟩ := h3.brn (by omega)
        rw [hv] at z1 z2 z3 h2
        have f1 := z3.1
        have f2 := z3.2.1
        have f3 : re.length - z.getD r 0 = 0 := z3.2.2
        unfold Sh
        rw [z1]
        simp only [Bool.and_eq_true, decide_eq_true_eq]
        refine ⟨⟨by omega, by omega⟩, ?_⟩
        rw [show re.length - 1 = r by omega]
        omega
  intro n
  induction n with
  | zero => intro M re h hv; exact hfin M re h hv
  | succ n ih =>
    intro M re h hv
    rw [vgo] at hv
    split at hv
    · split at hv
      · cases hv
      · rename_i M' hM'
        exact ih M' re (h.step hM') hv
    · exact hfin M re h hv
/-- What is read is well shaped. -/
theorem V_sh {s : ByteArray} {re : List Nd} (h : V s ⟨0, [], frG, []⟩ = .ok re) : Sh re = true := vgo_sh _ _ _ ⟨Iv.nil, fun x hx => by cases hx⟩ h
end Go.Proofs.YtkjcnnecdclgfaaDoor
namespace Go.Proofs.YtkjcnnecdclgfaaDoor
theorem skf_congr {m m' : Nat → Bool} (h : ∀ x, x < 256 → m x = m' x) (inn : Bool) : ∀ n b, skf m inn n b = skf m' inn n b := by
  intro n
  induction n with
  | zero => intro b; rfl
  | succ n ih =>
    intro b
    rw [skf, skf, ih]
    by_cases hb : b < 256
    · rw [h b hb]
    · rw [if_neg (by omega), if_neg (by omega)]
theorem sk_congr {m m' : Nat → Bool} (h : ∀ x, x < 256 → m x = m' x) (inn : Bool) (b : Nat) : sk m inn b = sk m' inn b := skf_congr h inn _ b
theorem rn_congr {m m' : Nat → Bool} (h : ∀ x, x < 256 → m x = m' x) : ∀ n b, rn m n b = rn m' n b := by
  intro n
  induction n with
  | zero => intro b; rfl
  | succ n ih =>
    intro b
    rw [rn, rn, sk_congr h true b, sk_congr h false, ih]
theorem cst_congr {m m' : Nat → Bool} (h : ∀ x, x < 256 → m x = m' x) : cst m = cst m' := by
  unfold cst
  unfold RN
  rw [cnt_congr m m' 256 h, sk_congr h true 0, h 10 (by decide), rn_congr h 256 0, rn_congr (m := fun b => !m b) (m' := fun b => !m' b) (fun x hx => by rw [h x hx]) 256 0]
theorem Sm.ext {n n' : Nd} (h : Sm n n') (z : List Nat) : ext n z = ext n' z := by
  unfold Go.Proofs.YtkjcnnecdclgfaaDoor.ext
  rw [h.op, h.a, h.b, bl_congr h.m]
theorem Sm.ent {n n' : Nd} (h : Sm n n') (t : List (List UInt8 × Nat)) : ent n t = ent n' t := by
  unfold Go.Proofs.YtkjcnnecdclgfaaDoor.ent
  rw [h.op, h.a, h.b, cst_congr h.m]
theorem Sms.szs : ∀ {l l' : List Nd}, Sms l l' → ∀ z, szs l z = szs l' z
  | [], [], _, _ => rfl
  | n :: l, n' :: l', h, z => by
    show (Go.Proofs.YtkjcnnecdclgfaaDoor.ext n z).bind _ = (Go.Proofs.YtkjcnnecdclgfaaDoor.ext n' z).bind _
    rw [h.1.ext]
    congr 1
    funext k
    exact Sms.szs h.2 _
  | [], _ :: _, h, _ => h.elim
  | _ :: _, [], h, _ => h.elim
theorem Sms.tab : ∀ {l l' : List Nd}, Sms l l' → ∀ t, tab l t = tab l' t
  | [], [], _, _ => rfl
  | n :: l, n' :: l', h, t => by
    show Go.Proofs.YtkjcnnecdclgfaaDoor.tab l (t ++ [Go.Proofs.YtkjcnnecdclgfaaDoor.ent n t]) = Go.Proofs.YtkjcnnecdclgfaaDoor.tab l' (t ++ [Go.Proofs.YtkjcnnecdclgfaaDoor.ent n' t])
    rw [h.1.ent]
    exact Sms.tab h.2 _
  | [], _ :: _, h, _ => h.elim
  | _ :: _, [], h, _ => h.elim
theorem Sms.sh {l l' : List Nd} (h : Sms l l') : Sh l = Sh l' := by
  unfold Sh
  rw [h.szs, h.len]
theorem Sms.pr {l l' : List Nd} (h : Sms l l') : pr l = pr l' := by
  unfold Go.Proofs.YtkjcnnecdclgfaaDoor.pr TX
  rw [h.sh, h.tab, h.len]
end Go.Proofs.YtkjcnnecdclgfaaDoor
