import Derived.Test.YtkjcnnecdclgfaaRgb
import Derived.Test.YtkjcnnecdclgfaaKls
import Derived.Deep.CutRange
namespace Go.Proofs.Ytkjcnnecdclgfaa
open Go.RowKit
def sg6 : List UInt8 := [40, 41, 124, 42, 43, 63]
theorem sg6_in {x : Nat} (hx8 : x < 256) (h : sg6.contains (UInt8.ofNat x) = true) : x = 40 ∨ x = 41 ∨ x = 124 ∨ x = 42 ∨ x = 43 ∨ x = 63 := by
  have hx : (UInt8.ofNat x).toNat = x := of_toNat x hx8
  unfold sg6 at h
  simp at h
  rcases h with h | h | h | h | h | h <;> (rw [h] at hx; rw [← hx]; decide)
theorem sg6_out {x : Nat} (h : sg6.contains (UInt8.ofNat x) = false) : x ≠ 40 ∧ x ≠ 41 ∧ x ≠ 124 ∧ x ≠ 42 ∧ x ≠ 43 ∧ x ≠ 63 := by
  refine ⟨?_, ?_, ?_, ?_, ?_, ?_⟩ <;> (intro e; subst e; revert h; decide)
theorem mst_msg {s : ByteArray} {M : Mc} {x : Nat} (hx : pk s M.i = x) (h : x = 40 ∨ x = 41 ∨ x = 124 ∨ x = 42 ∨ x = 43 ∨ x = 63) : mst s M = msg x M := by
  unfold mst msg mcl
  rw [hx]
  by_cases h1 : x = 40
  · rw [if_pos h1, if_pos h1]
  by_cases h2 : x = 41
  · rw [if_neg h1, if_neg h1, if_pos h2, if_pos h2]
    obtain ⟨i, o, g, st⟩ := M
    cases st <;> rfl
  rw [if_neg h1, if_neg h1, if_neg h2, if_neg h2, if_pos (by omega)]
theorem mst_atm {s : ByteArray} {M : Mc} {x : Nat} (hx : pk s M.i = x) (h : x ≠ 40 ∧ x ≠ 41 ∧ x ≠ 124 ∧ x ≠ 42 ∧ x ≠ 43 ∧ x ≠ 63) : mst s M = match atm s M.i with
    | .error e => .error e
    | .ok (m, j) => .ok (sst M m j) := by
  unfold mst sst
  rw [hx, if_neg h.1, if_neg h.2.1, if_neg (by omega)]
  rfl
theorem mst_ok {s : ByteArray} {M : Mc} {x j : Nat} {m : Nat → Bool} (hx : pk s M.i = x) (h : x ≠ 40 ∧ x ≠ 41 ∧ x ≠ 124 ∧ x ≠ 42 ∧ x ≠ 43 ∧ x ≠ 63) (ha : atm s M.i = .ok (m, j)) : mst s M = .ok (sst M m j) := by rw [mst_atm hx h, ha]
theorem mst_bad {s : ByteArray} {M : Mc} {x : Nat} {e : Int × Nat} (hx : pk s M.i = x) (h : x ≠ 40 ∧ x ≠ 41 ∧ x ≠ 124 ∧ x ≠ 42 ∧ x ≠ 43 ∧ x ≠ 63) (ha : atm s M.i = .error e) : mst s M = .error e := by rw [mst_atm hx h, ha]
theorem atm_esc {s : ByteArray} {i : Nat} (hx : pk s i = 92) : (∃ p, eres s (i + 1) true = badV p ∧ atm s i = .error (40, p)) ∨ (∃ m one y j, eres s (i + 1) true = bitV m one y ((j : Nat) : Int) (-1) ∧ atm s i = .ok (m, j)) := by
  have e1 : psets s i = bseq s (i + 1) := by rw [psets_eq, if_pos hx]
  have e2 : pone s i sgn = pesc s (i + 1) := by unfold pone; rw [if_pos hx]
  unfold eres atm
  rw [e1, e2, hx, if_pos (rfl : true = true), if_neg (by decide : ¬ (92 : Nat) = 91), if_neg (by decide : ¬ (92 : Nat) = 46)]
  cases bseq s (i + 1) with
  | some m => exact .inr ⟨m, false, 0, i + 2, rfl, rfl⟩
  | none =>
    cases pesc s (i + 1) with
    | error p => exact .inl ⟨p, rfl, rfl⟩
    | ok r =>
      obtain ⟨v, j⟩ := r
      exact .inr ⟨sg v, true, (v : Int), j, rfl, rfl⟩
theorem atm_dot {s : ByteArray} {i : Nat} (hx : pk s i = 46) : atm s i = .ok (fun b => !(decide (10 ≤ b) && decide (b ≤ 10)), i + 1) := by
  unfold atm
  rw [hx, if_neg (by decide), if_pos rfl]
  congr 2
  funext b
  by_cases h : b = 10
  · subst h; rfl
  · have : ¬ (10 ≤ b ∧ b ≤ 10) := by omega
    have e : (decide (10 ≤ b) && decide (b ≤ 10)) = false := by rw [← Bool.decide_and]; exact decide_eq_false this
    rw [e, beq_eq_false_iff_ne.mpr h]
theorem atm_class {s : ByteArray} {i : Nat} (hx : pk s i = 91) : atm s i = pclass s i := by
  unfold atm
  rw [if_pos hx]
theorem atm_rest {s : ByteArray} {i x : Nat} (hx : pk s i = x) (h1 : x ≠ 91) (h2 : x ≠ 46) (h3 : x ≠ 92) : atm s i = if (decide (32 ≤ x) && decide (x ≤ 126) && !sgn.contains (UInt8.ofNat x)) = true then .ok (fun b => decide (x ≤ b) && decide (b ≤ x), i + 1) else .error (40, i) := by
  have e1 : psets s i = none := by rw [psets_eq, hx, if_neg h3]
  unfold atm
  rw [e1]
  unfold pone
  rw [hx, if_neg h1, if_neg h2, if_neg h3]
  by_cases hc : (decide (32 ≤ x) && decide (x ≤ 126) && !sgn.contains (UInt8.ofNat x)) = true
  · rw [if_pos hc, if_pos hc]
  · rw [if_neg hc, if_neg hc]
theorem pclass_code {s : ByteArray} {i : Nat} {c : Int} {p : Nat} (h : pclass s i = .error (c, p)) : c ≠ 0 := by
  have hpi : ∀ j c p, pitem s j = .error (c, p) → c ≠ 0 := by
    intro j c p h
    unfold pitem at h
    split at h
    · cases h
    · split at h
      · injection h with h; injection h with h1 h2; omega
      · split at h
        · split at h
          · injection h with h; injection h with h1 h2; omega
          · split at h
            · injection h with h; injection h with h1 h2; omega
            · cases h
        · cases h
  have hpt : ∀ n j m c p, pit s n j m = .error (c, p) → c ≠ 0 := by
    intro n
    induction n with
    | zero => intro j m c p h; injection h with h; injection h with h1 h2; omega
    | succ n ih =>
      intro j m c p h
      rw [pit] at h
      split at h
      · cases h
      · split at h
        · rename_i e he
          injection h with h
          subst h
          exact hpi _ _ _ he
        · exact ih _ _ _ _ h
  unfold pclass at h
  split at h
  · rename_i e he
    injection h with h
    subst h
    exact hpi _ _ _ he
  · split at h
    · rename_i e he
      injection h with h
      subst h
      unfold pitF at he
      exact hpt _ _ _ _ _ he
    · rename_i m2 l _
      generalize (if pk s (i + 1) = 94 then fun b => !m2 b else m2) = mm at h
      generalize bl mm = bb at h
      cases bb
      · rw [if_neg (by decide)] at h
        cases h
      · rw [if_pos rfl] at h
        injection h with h; injection h with h1 h2; omega
/-- What a step answers. -/
abbrev RT (B b : Nat) (s : ByteArray) (M : Mc) (w : World) : Prop := Calls Try.prog 24 #[.pointer (some ⟨b, 0, none⟩)] w fun e w' => SRes B b s w (mst s M) e w'
/-- What a step's walk knows behind the first look. -/
structure St (B b gg cap : Nat) (s : ByteArray) (M : Mc) (w W : World) : Prop where
  p : IsG B b gg cap s M W
  e : AtV W w.heap.size #[.int .i64 0, .int .i64 0] 66
  f : FG B b gg w W
  n1 : w.heap.size ≠ b
  n2 : w.heap.size ≠ gg
  sz : B ≤ w.heap.size
theorem St.of {B b gg cap : Nat} {s : ByteArray} {M : Mc} {w : World} (h : IsG B b gg cap s M w) : St B b gg cap s M w (w.alloc (.cells #[.int .i64 0, .int .i64 0] 66)) := by
  have hl := h.lt
  exact ⟨h.mono (bel_up _ _), AtV.new _ _ _, FG.of (bel_up _ _) h.sz, by omega, by omega, h.sz⟩
theorem St.dr {B b gg cap : Nat} {s : ByteArray} {M : Mc} {w W : World} (h : St B b gg cap s M w W) : St B b gg cap s M w W.drew := ⟨h.p.drew, h.e.dr, h.f.trans FG.dr, h.n1, h.n2, h.sz⟩
theorem St.mono {B b gg cap : Nat} {s : ByteArray} {M : Mc} {w W W' : World} (h : St B b gg cap s M w W) (hb : Below W.heap.size W W') : St B b gg cap s M w W' := ⟨h.p.mono hb, h.e.mono hb, h.f.trans (FG.of hb h.p.sz), h.n1, h.n2, h.sz⟩
theorem St.err {B b gg cap : Nat} {s : ByteArray} {M : Mc} {w W : World} (h : St B b gg cap s M w W) (hg : IsG B b gg cap s M w) (x y : Value) : FR B b w ((W.setCell ⟨w.heap.size, 0, none⟩ x).setCell ⟨w.heap.size, 1, none⟩ y) :=
  ((h.f.asideq (Nat.le_refl _) h.sz 0 _).asideq (Nat.le_refl _) h.sz 1 _).toFR hg
theorem St.fin {B b gg cap : Nat} {s : ByteArray} {M M2 : Mc} {w W W2 : World} (h : St B b gg cap s M w W) (hg : IsG B b gg cap s M w) (hp : IsR B b s M2 W2) (hf : FR B b W W2) (x y : Value) : IsR B b s M2 ((W2.setCell ⟨w.heap.size, 0, none⟩ x).setCell ⟨w.heap.size, 1, none⟩ y) ∧ FR B b w ((W2.setCell ⟨w.heap.size, 0, none⟩ x).setCell ⟨w.heap.size, 1, none⟩ y) := by
  have e2 := h.e.fr_ hf h.n1 (by decide) (by decide)
  exact ⟨(hp.aside e2 h.n1 (by decide) (by decide) 0 _).aside (e2.put 0 _) h.n1 (by decide) (by decide) 1 _, (((h.f.toFR hg).trans hf).asideq (Nat.le_refl _) h.sz 0 _).asideq (Nat.le_refl _) h.sz 1 _⟩
set_option maxRecDepth 100000 in
set_option maxHeartbeats 8000000 in
theorem step_sign (B b gg cap : Nat) (s : ByteArray) (M : Mc) (x : Nat) (hc : sg6.contains (UInt8.ofNat x) = true) (w : World) (h : IsG B b gg cap s M w) (hst : M.st.length ≤ 128) (hl : M.out.length ≤ 2300000000000) (his : M.i < s.size) (hs : s.size ≤ 1099511627776) (hx : pk s M.i = x) : RT B b s M w := by
  have hx8 : x < 256 := by rw [← hx]; exact pk_lt s M.i
  have S0 : Hid _ := St.of h
  have HG : Hid _ := h
  have HST : Hid _ := hst
  have HL : Hid _ := hl
  have HIS : Hid _ := his
  have HS : Hid _ := hs
  have HX : Hid _ := hx
  have HX8 : Hid _ := hx8
  have hidx := idx_nat his hx
  have AM := fun W => among_nat x hx8 sg6 (by decide) W
  have HR : Hid (mst s M = msg x M) := mst_msg hx (sg6_in hx8 hc)
  have HC : Hid _ := hc
  have H6 : Hid _ := sg6_in hx8 hc
  clear hc
  obtain ⟨c0, c1, c3, cf⟩ := S0.out.p.cells
  have hlt := HIS.out
  clear h hst hl his hs hx hx8 c3 hlt
  go_enter Try.func24, Try.ntmps24
  go_wp2_with fail
  go_region
  have S1 : Hid _ := S0.out.dr
  obtain ⟨W1, hW1⟩ : ∃ W1, (w.alloc (.cells #[.int .i64 0, .int .i64 0] 66)).drew = W1 := ⟨_, rfl⟩
  rw [hW1] at S1 ⊢
  clear hW1 S0 c0 c1 cf hidx
  go_wp2_with fail
  refine (AM _).mono ?_
  clear AM
  rintro e w0 ⟨rfl, rfl⟩
  rw [HC.out]
  go_wp2_with fail
  refine (sign_any B b gg cap s M x _ S1.out.p HST.out HL.out (by have := HIS.out; have := HS.out; omega) H6.out).mono ?_
  intro e w2 hr
  unfold SRes at hr
  obtain ⟨hr, f2⟩ := hr
  have F2 : Hid _ := f2
  obtain ⟨e0, e1, ef⟩ := (S1.out.e.fr_ f2 S1.out.n1 (by decide) (by decide)).c2
  clear f2
  cases hm : msg x M with
  | ok M2 =>
    rw [hm] at hr
    obtain ⟨rfl, p2⟩ := hr
    have P2 : Hid _ := p2
    have HM : Hid (mst s M = .ok M2) := HR.out.trans hm
    clear p2 hm
    go_wp2_with fail
    refine bodyPost_ret (v := errV 0 0) ?_ rfl (SRes.good HM.out ?_ ?_)
    · rw [results_cell1 rfl]; go_simp
    · exact (S1.out.fin HG.out P2.out F2.out _ _).1
    · exact (S1.out.fin HG.out P2.out F2.out _ _).2
  | error ce =>
    obtain ⟨c, p⟩ := ce
    rw [hm] at hr
    dsimp only at hr
    subst hr
    have HM : Hid (mst s M = .error (c, p)) := HR.out.trans hm
    clear hm
    go_wp2_with fail
    refine bodyPost_ret (v := errV c (p : Int)) ?_ rfl (SRes.bad HM.out ?_)
    · rw [results_cell1 rfl]; go_simp
    · exact ((((S1.out.f.toFR HG.out).trans F2.out).asideq (Nat.le_refl _) S1.out.sz 0 _).asideq (Nat.le_refl _) S1.out.sz 1 _)
set_option maxRecDepth 100000 in
set_option maxHeartbeats 8000000 in
theorem step_low (B b gg cap : Nat) (s : ByteArray) (M : Mc) (x : Nat) (hc : sg6.contains (UInt8.ofNat x) = false) (h1 : x ≠ 91) (h2 : x ≠ 46) (h3 : x ≠ 92) (h4 : x < 32) (w : World) (h : IsG B b gg cap s M w) (hst : M.st.length ≤ 128) (hl : M.out.length ≤ 2300000000000) (his : M.i < s.size) (hs : s.size ≤ 1099511627776) (hx : pk s M.i = x) : RT B b s M w := by
  have hx8 : x < 256 := by rw [← hx]; exact pk_lt s M.i
  have S0 : Hid _ := St.of h
  have HG : Hid _ := h
  have HST : Hid _ := hst
  have HL : Hid _ := hl
  have HIS : Hid _ := his
  have HS : Hid _ := hs
  have HX : Hid _ := hx
  have HX8 : Hid _ := hx8
  have hidx := idx_nat his hx
  have AM := fun W => among_nat x hx8 sg6 (by decide) W
  have HR : Hid (mst s M = .error (40, M.i)) := mst_bad hx (sg6_out hc) (by rw [atm_rest hx h1 h2 h3, if_neg]; simp; omega)
  have e91 : ((x : Int) == 91) = false := by rw [beq_eq_false_iff_ne]; omega
  have e46 : ((x : Int) == 46) = false := by rw [beq_eq_false_iff_ne]; omega
  have e92 : ((x : Int) == 92) = false := by rw [beq_eq_false_iff_ne]; omega
  have l32 : decide ((x : Int) < 32) = true := by rw [decide_eq_true_eq]; omega
  have HC : Hid _ := hc
  clear hc
  clear h1 h2 h3 h4
  obtain ⟨c0, c1, c3, cf⟩ := S0.out.p.cells
  have hlt := HIS.out
  clear h hst hl his hs hx hx8 c3 hlt
  go_enter Try.func24, Try.ntmps24
  go_wp2_with fail
  go_region
  have S1 : Hid _ := S0.out.dr
  obtain ⟨W1, hW1⟩ : ∃ W1, (w.alloc (.cells #[.int .i64 0, .int .i64 0] 66)).drew = W1 := ⟨_, rfl⟩
  rw [hW1] at S1 ⊢
  clear hW1 S0 c0 c1 cf hidx
  go_wp2_with fail
  refine (AM _).mono ?_
  clear AM
  rintro e w0 ⟨rfl, rfl⟩
  rw [HC.out]
  obtain ⟨c0, c1, c3, cf⟩ := S1.out.p.cells
  obtain ⟨e0, e1, ef⟩ := S1.out.e.c2
  clear c0 c3
  go_wp2_with fail
  refine bodyPost_ret (v := errV 40 (M.i : Int)) ?_ rfl (SRes.bad HR.out ?_)
  · rw [results_cell1 rfl]; go_simp
  · exact S1.out.err HG.out _ _
set_option maxRecDepth 100000 in
set_option maxHeartbeats 8000000 in
theorem step_high (B b gg cap : Nat) (s : ByteArray) (M : Mc) (x : Nat) (hc : sg6.contains (UInt8.ofNat x) = false) (h1 : x ≠ 91) (h2 : x ≠ 46) (h3 : x ≠ 92) (h4 : 126 < x) (w : World) (h : IsG B b gg cap s M w) (hst : M.st.length ≤ 128) (hl : M.out.length ≤ 2300000000000) (his : M.i < s.size) (hs : s.size ≤ 1099511627776) (hx : pk s M.i = x) : RT B b s M w := by
  have hx8 : x < 256 := by rw [← hx]; exact pk_lt s M.i
  have S0 : Hid _ := St.of h
  have HG : Hid _ := h
  have HST : Hid _ := hst
  have HL : Hid _ := hl
  have HIS : Hid _ := his
  have HS : Hid _ := hs
  have HX : Hid _ := hx
  have HX8 : Hid _ := hx8
  have hidx := idx_nat his hx
  have AM := fun W => among_nat x hx8 sg6 (by decide) W
  have HR : Hid (mst s M = .error (40, M.i)) := mst_bad hx (sg6_out hc) (by rw [atm_rest hx h1 h2 h3, if_neg]; simp; omega)
  have e91 : ((x : Int) == 91) = false := by rw [beq_eq_false_iff_ne]; omega
  have e46 : ((x : Int) == 46) = false := by rw [beq_eq_false_iff_ne]; omega
  have e92 : ((x : Int) == 92) = false := by rw [beq_eq_false_iff_ne]; omega
  have l32 : decide ((x : Int) < 32) = false := by rw [decide_eq_false_iff_not]; omega
  have l126 : decide ((126 : Int) < (x : Int)) = true := by rw [decide_eq_true_eq]; omega
  have HC : Hid _ := hc
  clear hc
  clear h1 h2 h3 h4
  obtain ⟨c0, c1, c3, cf⟩ := S0.out.p.cells
  have hlt := HIS.out
  clear h hst hl his hs hx hx8 c3 hlt
  go_enter Try.func24, Try.ntmps24
  go_wp2_with fail
  go_region
  have S1 : Hid _ := S0.out.dr
  obtain ⟨W1, hW1⟩ : ∃ W1, (w.alloc (.cells #[.int .i64 0, .int .i64 0] 66)).drew = W1 := ⟨_, rfl⟩
  rw [hW1] at S1 ⊢
  clear hW1 S0 c0 c1 cf hidx
  go_wp2_with fail
  refine (AM _).mono ?_
  clear AM
  rintro e w0 ⟨rfl, rfl⟩
  rw [HC.out]
  obtain ⟨c0, c1, c3, cf⟩ := S1.out.p.cells
  obtain ⟨e0, e1, ef⟩ := S1.out.e.c2
  clear c0 c3
  go_wp2_with fail
  refine bodyPost_ret (v := errV 40 (M.i : Int)) ?_ rfl (SRes.bad HR.out ?_)
  · rw [results_cell1 rfl]; go_simp
  · exact S1.out.err HG.out _ _
set_option maxRecDepth 100000 in
set_option maxHeartbeats 8000000 in
theorem step_outs (B b gg cap : Nat) (s : ByteArray) (M : Mc) (x : Nat) (hc : sg6.contains (UInt8.ofNat x) = false) (h1 : x ≠ 91) (h2 : x ≠ 46) (h3 : x ≠ 92) (h4 : 32 ≤ x) (h5 : x ≤ 126) (h6 : sgn.contains (UInt8.ofNat x) = true) (w : World) (h : IsG B b gg cap s M w) (hst : M.st.length ≤ 128) (hl : M.out.length ≤ 2300000000000) (his : M.i < s.size) (hs : s.size ≤ 1099511627776) (hx : pk s M.i = x) : RT B b s M w := by
  have hx8 : x < 256 := by rw [← hx]; exact pk_lt s M.i
  have S0 : Hid _ := St.of h
  have HG : Hid _ := h
  have HST : Hid _ := hst
  have HL : Hid _ := hl
  have HIS : Hid _ := his
  have HS : Hid _ := hs
  have HX : Hid _ := hx
  have HX8 : Hid _ := hx8
  have hidx := idx_nat his hx
  have AM := fun W => among_nat x hx8 sg6 (by decide) W
  have HR : Hid (mst s M = .error (40, M.i)) := mst_bad hx (sg6_out hc) (by rw [atm_rest hx h1 h2 h3, if_neg]; simp only [h6]; simp)
  have e91 : ((x : Int) == 91) = false := by rw [beq_eq_false_iff_ne]; omega
  have e46 : ((x : Int) == 46) = false := by rw [beq_eq_false_iff_ne]; omega
  have e92 : ((x : Int) == 92) = false := by rw [beq_eq_false_iff_ne]; omega
  have l32 : decide ((x : Int) < 32) = false := by rw [decide_eq_false_iff_not]; omega
  have l126 : decide ((126 : Int) < (x : Int)) = false := by rw [decide_eq_false_iff_not]; omega
  have AM2 := fun W => among_nat x hx8 sgn (by decide) W
  have H6 : Hid _ := h6
  have HC : Hid _ := hc
  clear hc
  clear h1 h2 h3 h4 h5 h6
  obtain ⟨c0, c1, c3, cf⟩ := S0.out.p.cells
  have hlt := HIS.out
  clear h hst hl his hs hx hx8 c3 hlt
  go_enter Try.func24, Try.ntmps24
  go_wp2_with fail
  go_region
  have S1 : Hid _ := S0.out.dr
  obtain ⟨W1, hW1⟩ : ∃ W1, (w.alloc (.cells #[.int .i64 0, .int .i64 0] 66)).drew = W1 := ⟨_, rfl⟩
  rw [hW1] at S1 ⊢
  clear hW1 S0 c0 c1 cf hidx
  go_wp2_with fail
  refine (AM _).mono ?_
  clear AM
  rintro e w0 ⟨rfl, rfl⟩
  rw [HC.out]
  obtain ⟨c0, c1, c3, cf⟩ := S1.out.p.cells
  obtain ⟨e0, e1, ef⟩ := S1.out.e.c2
  clear c0 c3
  go_wp2_with fail
  refine (AM2 _).mono ?_
  clear AM2
  rintro e w0 ⟨rfl, rfl⟩
  rw [H6.out]
  go_wp2_with fail
  refine bodyPost_ret (v := errV 40 (M.i : Int)) ?_ rfl (SRes.bad HR.out ?_)
  · rw [results_cell1 rfl]; go_simp
  · exact S1.out.err HG.out _ _
end Go.Proofs.Ytkjcnnecdclgfaa
namespace Go.Proofs.Ytkjcnnecdclgfaa
open Go.RowKit
set_option maxRecDepth 100000 in
set_option maxHeartbeats 8000000 in
theorem step_plain (B b gg cap : Nat) (s : ByteArray) (M : Mc) (x : Nat) (hc : sg6.contains (UInt8.ofNat x) = false) (h1 : x ≠ 91) (h2 : x ≠ 46) (h3 : x ≠ 92) (h4 : 32 ≤ x) (h5 : x ≤ 126) (h6 : sgn.contains (UInt8.ofNat x) = false) (w : World) (h : IsG B b gg cap s M w) (hst : M.st.length ≤ 128) (hl : M.out.length ≤ 2300000000000) (his : M.i < s.size) (hs : s.size ≤ 1099511627776) (hx : pk s M.i = x) : RT B b s M w := by
  have hx8 : x < 256 := by rw [← hx]; exact pk_lt s M.i
  have S0 : Hid _ := St.of h
  have HG : Hid _ := h
  have HST : Hid _ := hst
  have HL : Hid _ := hl
  have HIS : Hid _ := his
  have HS : Hid _ := hs
  have HX : Hid _ := hx
  have HX8 : Hid _ := hx8
  have hidx := idx_nat his hx
  have AM := fun W => among_nat x hx8 sg6 (by decide) W
  obtain ⟨m, hm⟩ : ∃ m : Nat → Bool, (fun b => decide (x ≤ b) && decide (b ≤ x)) = m := ⟨_, rfl⟩
  have HR : Hid (mst s M = .ok (sst M m (M.i + 1))) := mst_ok hx (sg6_out hc) (by rw [atm_rest hx h1 h2 h3, if_pos, hm]; simp only [h6]; simp; omega)
  have HLO : Hid _ := hx8
  have HM : Hid _ := hm
  clear hm
  have hwx := w64n x (by omega)
  have hwx2 : IntKind.i64.wrap (x : Int) = (x : Int) := by rw [IntKind.wrap_i64]; omega
  have e91 : ((x : Int) == 91) = false := by rw [beq_eq_false_iff_ne]; omega
  have e46 : ((x : Int) == 46) = false := by rw [beq_eq_false_iff_ne]; omega
  have e92 : ((x : Int) == 92) = false := by rw [beq_eq_false_iff_ne]; omega
  have l32 : decide ((x : Int) < 32) = false := by rw [decide_eq_false_iff_not]; omega
  have l126 : decide ((126 : Int) < (x : Int)) = false := by rw [decide_eq_false_iff_not]; omega
  have AM2 := fun W => among_nat x hx8 sgn (by decide) W
  have H6 : Hid _ := h6
  have HC : Hid _ := hc
  clear hc
  clear h1 h2 h3 h4 h5 h6
  obtain ⟨c0, c1, c3, cf⟩ := S0.out.p.cells
  have hlt := HIS.out
  clear h hst hl his hs hx hx8 c3 hlt
  go_enter Try.func24, Try.ntmps24
  go_wp2_with fail
  go_region
  have S1 : Hid _ := S0.out.dr
  obtain ⟨W1, hW1⟩ : ∃ W1, (w.alloc (.cells #[.int .i64 0, .int .i64 0] 66)).drew = W1 := ⟨_, rfl⟩
  rw [hW1] at S1 ⊢
  clear hW1 S0 c0 c1 cf hidx
  go_wp2_with fail
  refine (AM _).mono ?_
  clear AM
  rintro e w0 ⟨rfl, rfl⟩
  rw [HC.out]
  go_wp2_with fail
  refine (AM2 _).mono ?_
  clear AM2
  rintro e w0 ⟨rfl, rfl⟩
  rw [H6.out]
  go_upto_region 18 with fail
  obtain ⟨WD, hWD⟩ : ∃ WD, w0.drew = WD := ⟨_, rfl⟩
  have SD : Hid _ := S1.out.dr
  rw [hWD] at SD
  clear S1
  obtain ⟨_, c1, _, cf⟩ := SD.out.p.cells
  have hwi := w64 M.i (by have := HIS.out; have := HS.out; omega)
  have hwi2 : IntKind.i64.wrap ((M.i : Int) + 1) = ((M.i + 1 : Nat) : Int) := by have := HIS.out; have := HS.out; rw [IntKind.wrap_i64]; omega
  refine wp_region_noPanic ?_
  refine wp_region_held_drew (S := fun _ => True) (by kernel_rfl) trivial (fun hHeld => ?_)
  rw [hWD]
  clear hWD
  refine wpAnyH_take (i := 0) (oi := { dst := _, op := _, type := _, pos := _, after := _, guard := _ }) (v := ?_) rfl (by kernel_rfl) (by kernel_rfl) (by kernel_rfl) (fun _ _ _ h => h) (Or.inl ⟨by rfl, ?_⟩) (by assumption) ?_
  rotate_left
  · intro W hSw
    (try dsimp only at hSw)
    go_simp
    (try with_reducible rfl)
  try simp only [Act.put, List.setIfInBounds_toArray, List.set_cons_zero, List.set_cons_succ]
  refine wpAnyH_take (i := 1) (oi := { dst := _, op := _, type := _, pos := _, after := _, guard := _ }) (v := ?_) rfl (by kernel_rfl) (by kernel_rfl) (by kernel_rfl) (fun _ _ _ h => h) (Or.inl ⟨by rfl, ?_⟩) (by assumption) ?_
  rotate_left
  · intro W hSw
    (try dsimp only at hSw)
    go_simp
    (try with_reducible rfl)
  try simp only [Act.put, List.setIfInBounds_toArray, List.set_cons_zero, List.set_cons_succ]
  refine wpAnyH_take (i := 2) (oi := { dst := _, op := _, type := _, pos := _, after := _, guard := _ }) (v := ?_) rfl (by kernel_rfl) (by kernel_rfl) (by kernel_rfl) (fun _ _ _ h => h) (Or.inl ⟨by rfl, ?_⟩) (by assumption) ?_
  rotate_left
  · intro W hSw
    (try dsimp only at hSw)
    go_simp
    (try with_reducible rfl)
  try simp only [Act.put, List.setIfInBounds_toArray, List.set_cons_zero, List.set_cons_succ]
  refine wpAnyH_take (i := 3) (oi := { dst := _, op := _, type := _, pos := _, after := _, guard := _ }) (v := ?_) rfl (by kernel_rfl) (by kernel_rfl) (by kernel_rfl) (fun _ _ _ h => h) (Or.inl ⟨by rfl, ?_⟩) (by assumption) ?_
  rotate_left
  · intro W hSw
    (try dsimp only at hSw)
    go_simp
    (try with_reducible rfl)
  try simp only [Act.put, List.setIfInBounds_toArray, List.set_cons_zero, List.set_cons_succ]
  refine wpAnyH_take (i := 4) (oi := { dst := _, op := _, type := _, pos := _, after := _, guard := _ }) (v := ?_) rfl (by kernel_rfl) (by kernel_rfl) (by kernel_rfl) (fun _ _ _ h => h) (Or.inl ⟨by rfl, ?_⟩) (by assumption) ?_
  rotate_left
  · intro W hSw
    (try dsimp only at hSw)
    go_simp
    (try with_reducible rfl)
  try simp only [Act.put, List.setIfInBounds_toArray, List.set_cons_zero, List.set_cons_succ]
  refine wpAnyH_take (i := 5) (oi := { dst := _, op := _, type := _, pos := _, after := _, guard := _ }) (v := ?_) rfl (by kernel_rfl) (by kernel_rfl) (by kernel_rfl) (fun _ _ _ h => h) (Or.inl ⟨by rfl, ?_⟩) (by assumption) ?_
  rotate_left
  · intro W hSw
    (try dsimp only at hSw)
    go_simp
    (try with_reducible rfl)
  try simp only [Act.put, List.setIfInBounds_toArray, List.set_cons_zero, List.set_cons_succ]
  refine wpAnyH_take (i := 7) (oi := { dst := _, op := _, type := _, pos := _, after := _, guard := _ }) (v := ?_) rfl (by kernel_rfl) (by kernel_rfl) (by kernel_rfl) (fun _ _ _ h => h) (Or.inl ⟨by rfl, ?_⟩) (by assumption) ?_
  rotate_left
  · intro W hSw
    (try dsimp only at hSw)
    go_simp
    (try with_reducible rfl)
  try simp only [Act.put, List.setIfInBounds_toArray, List.set_cons_zero, List.set_cons_succ]
  refine wpAnyH_take (i := 8) (oi := { dst := _, op := _, type := _, pos := _, after := _, guard := _ }) (v := ?_) rfl (by kernel_rfl) (by kernel_rfl) (by kernel_rfl) (fun _ _ _ h => h) (Or.inl ⟨by rfl, ?_⟩) (by assumption) ?_
  rotate_left
  · intro W hSw
    (try dsimp only at hSw)
    go_simp
    (try with_reducible rfl)
  try simp only [Act.put, List.setIfInBounds_toArray, List.set_cons_zero, List.set_cons_succ]
  refine wpAnyH_take (i := 9) (oi := { dst := _, op := _, type := _, pos := _, after := _, guard := _ }) (v := ?_) rfl (by kernel_rfl) (by kernel_rfl) (by kernel_rfl) (fun _ _ _ h => h) (Or.inl ⟨by rfl, ?_⟩) (by assumption) ?_
  rotate_left
  · intro W hSw
    (try dsimp only at hSw)
    go_simp
    (try with_reducible rfl)
  try simp only [Act.put, List.setIfInBounds_toArray, List.set_cons_zero, List.set_cons_succ]
  refine wpAnyH_ready (rs := [6, 10]) (by kernel_rfl) (by simp) ?_
  refine AllReadyH.cons (o := { dst := _, op := _, type := _, pos := _, after := _, guard := _ }) rfl (fun K hK => ?_) (AllReadyH.cons (o := { dst := _, op := _, type := _, pos := _, after := _, guard := _ }) rfl (fun K hK => ?_) (AllReadyH.nil))
  · go_simp
    refine (with0_any x x HLO.out _).mono ?_
    rintro e wq ⟨rfl, hbq⟩
    have SQ : Hid _ := SD.out.mono hbq
    clear hbq SD
    have SD : Hid _ := SQ.out
    clear SQ
    (try clear c1 cf)
    obtain ⟨_, c1, _, cf⟩ := SD.out.p.cells
    rw [HM.out]
    go_wp2_with fail
    refine hK.out _ _ ?_ (fun hHeld => ?_)
    · exact trivial
    clear hK K
    try simp only [Act.put, List.setIfInBounds_toArray, List.set_cons_zero, List.set_cons_succ]
    refine wpAnyH_ready (rs := [10]) (by kernel_rfl) (by simp) ?_
    refine AllReadyH.cons (o := { dst := _, op := _, type := _, pos := _, after := _, guard := _ }) rfl (fun K hK => ?_) AllReadyH.nil
    go_simp
    refine hK.out _ _ ?_ (fun hHeld => ?_)
    · exact trivial
    clear hK K
    try simp only [Act.put, List.setIfInBounds_toArray, List.set_cons_zero, List.set_cons_succ]
    refine wpAnyH_take (i := 11) (oi := { dst := _, op := _, type := _, pos := _, after := _, guard := _ }) (v := ?_) rfl (by kernel_rfl) (by kernel_rfl) (by kernel_rfl) (fun _ _ _ h => h) (Or.inl ⟨by rfl, ?_⟩) (by assumption) ?_
    rotate_left
    · intro W hSw
      (try dsimp only at hSw)
      go_simp
      (try with_reducible rfl)
    try simp only [Act.put, List.setIfInBounds_toArray, List.set_cons_zero, List.set_cons_succ]
    refine wpAnyH_ready (rs := [12]) (by kernel_rfl) (by simp) ?_
    refine AllReadyH.cons (o := { dst := _, op := _, type := _, pos := _, after := _, guard := _ }) rfl (fun K hK => ?_) AllReadyH.nil
    go_simp
    refine (rset_any B b gg cap s M m (M.i + 1) _ SD.out.p HST.out HL.out).mono ?_
    rintro e w3 ⟨rfl, p3, f3⟩
    have P3 : Hid _ := p3
    have F3 : Hid _ := f3.toFR SD.out.p
    obtain ⟨e0, e1, ef⟩ := (SD.out.e.fg f3 SD.out.n1 SD.out.n2 (by decide)).c2
    clear p3 f3
    go_wp2_with fail
    refine hK.out _ _ ?_ (fun hHeld => ?_)
    · exact trivial
    clear hK K
    try simp only [Act.put, List.setIfInBounds_toArray, List.set_cons_zero, List.set_cons_succ]
    refine wpAnyH_ready (rs := [13]) (by kernel_rfl) (by simp) ?_
    refine AllReadyH.cons (o := { dst := _, op := _, type := _, pos := _, after := _, guard := _ }) rfl (fun K hK => ?_) AllReadyH.nil
    go_simp
    refine hK.out _ _ ?_ (fun hHeld => ?_)
    · exact trivial
    clear hK K
    try simp only [Act.put, List.setIfInBounds_toArray, List.set_cons_zero, List.set_cons_succ]
    refine wpAnyH_done (by kernel_rfl) ?_ _
    clear hHeld
    refine NoPanic.normal ?_
    go_wp2_with fail
    refine bodyPost_ret (v := errV 0 0) ?_ rfl (SRes.good HR.out ?_ ?_)
    · rw [results_cell1 rfl]; go_simp
    · exact (SD.out.fin HG.out P3.out.toR F3.out _ _).1
    · exact (SD.out.fin HG.out P3.out.toR F3.out _ _).2
  · go_simp
    refine hK.out _ _ ?_ (fun hHeld => ?_)
    · exact trivial
    clear hK K
    try simp only [Act.put, List.setIfInBounds_toArray, List.set_cons_zero, List.set_cons_succ]
    refine wpAnyH_take (i := 11) (oi := { dst := _, op := _, type := _, pos := _, after := _, guard := _ }) (v := ?_) rfl (by kernel_rfl) (by kernel_rfl) (by kernel_rfl) (fun _ _ _ h => h) (Or.inl ⟨by rfl, ?_⟩) (by assumption) ?_
    rotate_left
    · intro W hSw
      (try dsimp only at hSw)
      go_simp
      (try with_reducible rfl)
    try simp only [Act.put, List.setIfInBounds_toArray, List.set_cons_zero, List.set_cons_succ]
    refine wpAnyH_ready (rs := [6]) (by kernel_rfl) (by simp) ?_
    refine AllReadyH.cons (o := { dst := _, op := _, type := _, pos := _, after := _, guard := _ }) rfl (fun K hK => ?_) AllReadyH.nil
    go_simp
    refine (with0_any x x HLO.out _).mono ?_
    rintro e wq ⟨rfl, hbq⟩
    have SQ : Hid _ := SD.out.mono hbq
    clear hbq SD
    have SD : Hid _ := SQ.out
    clear SQ
    (try clear c1 cf)
    obtain ⟨_, c1, _, cf⟩ := SD.out.p.cells
    rw [HM.out]
    go_wp2_with fail
    refine hK.out _ _ ?_ (fun hHeld => ?_)
    · exact trivial
    clear hK K
    try simp only [Act.put, List.setIfInBounds_toArray, List.set_cons_zero, List.set_cons_succ]
    refine wpAnyH_ready (rs := [12]) (by kernel_rfl) (by simp) ?_
    refine AllReadyH.cons (o := { dst := _, op := _, type := _, pos := _, after := _, guard := _ }) rfl (fun K hK => ?_) AllReadyH.nil
    go_simp
    refine (rset_any B b gg cap s M m (M.i + 1) _ SD.out.p HST.out HL.out).mono ?_
    rintro e w3 ⟨rfl, p3, f3⟩
    have P3 : Hid _ := p3
    have F3 : Hid _ := f3.toFR SD.out.p
    obtain ⟨e0, e1, ef⟩ := (SD.out.e.fg f3 SD.out.n1 SD.out.n2 (by decide)).c2
    clear p3 f3
    go_wp2_with fail
    refine hK.out _ _ ?_ (fun hHeld => ?_)
    · exact trivial
    clear hK K
    try simp only [Act.put, List.setIfInBounds_toArray, List.set_cons_zero, List.set_cons_succ]
    refine wpAnyH_ready (rs := [13]) (by kernel_rfl) (by simp) ?_
    refine AllReadyH.cons (o := { dst := _, op := _, type := _, pos := _, after := _, guard := _ }) rfl (fun K hK => ?_) AllReadyH.nil
    go_simp
    refine hK.out _ _ ?_ (fun hHeld => ?_)
    · exact trivial
    clear hK K
    try simp only [Act.put, List.setIfInBounds_toArray, List.set_cons_zero, List.set_cons_succ]
    refine wpAnyH_done (by kernel_rfl) ?_ _
    clear hHeld
    refine NoPanic.normal ?_
    go_wp2_with fail
    refine bodyPost_ret (v := errV 0 0) ?_ rfl (SRes.good HR.out ?_ ?_)
    · rw [results_cell1 rfl]; go_simp
    · exact (SD.out.fin HG.out P3.out.toR F3.out _ _).1
    · exact (SD.out.fin HG.out P3.out.toR F3.out _ _).2
set_option maxRecDepth 100000 in
set_option maxHeartbeats 8000000 in
theorem step_dot (B b gg cap : Nat) (s : ByteArray) (M : Mc) (x : Nat) (hc : sg6.contains (UInt8.ofNat x) = false) (h46 : x = 46) (w : World) (h : IsG B b gg cap s M w) (hst : M.st.length ≤ 128) (hl : M.out.length ≤ 2300000000000) (his : M.i < s.size) (hs : s.size ≤ 1099511627776) (hx : pk s M.i = x) : RT B b s M w := by
  have hx8 : x < 256 := by rw [← hx]; exact pk_lt s M.i
  have S0 : Hid _ := St.of h
  have HG : Hid _ := h
  have HST : Hid _ := hst
  have HL : Hid _ := hl
  have HIS : Hid _ := his
  have HS : Hid _ := hs
  have HX : Hid _ := hx
  have HX8 : Hid _ := hx8
  have hidx := idx_nat his hx
  have AM := fun W => among_nat x hx8 sg6 (by decide) W
  obtain ⟨m0, hm⟩ : ∃ m0 : Nat → Bool, (fun b => decide (10 ≤ b) && decide (b ≤ 10)) = m0 := ⟨_, rfl⟩
  obtain ⟨m, hmo⟩ : ∃ m : Nat → Bool, (fun b => !m0 b) = m := ⟨_, rfl⟩
  have HR : Hid (mst s M = .ok (sst M m (M.i + 1))) := mst_ok hx (sg6_out hc) (by rw [atm_dot (hx.trans h46), ← hmo, ← hm])
  have HLO : Hid ((10 : Nat) < 256) := (by decide : (10 : Nat) < 256)
  have HM : Hid _ := hm
  have HMO : Hid _ := hmo
  clear hm hmo
  have e91 : ((x : Int) == 91) = false := by rw [beq_eq_false_iff_ne]; omega
  have e46 : ((x : Int) == 46) = true := by rw [h46]; rfl
  have HC : Hid _ := hc
  clear hc
  clear h46
  obtain ⟨c0, c1, c3, cf⟩ := S0.out.p.cells
  have hlt := HIS.out
  clear h hst hl his hs hx hx8 c3 hlt
  go_enter Try.func24, Try.ntmps24
  go_wp2_with fail
  go_region
  have S1 : Hid _ := S0.out.dr
  obtain ⟨W1, hW1⟩ : ∃ W1, (w.alloc (.cells #[.int .i64 0, .int .i64 0] 66)).drew = W1 := ⟨_, rfl⟩
  rw [hW1] at S1 ⊢
  clear hW1 S0 c0 c1 cf hidx
  go_wp2_with fail
  refine (AM _).mono ?_
  clear AM
  rintro e w0 ⟨rfl, rfl⟩
  rw [HC.out]
  go_upto_region 10 with fail
  obtain ⟨WD, hWD⟩ : ∃ WD, w0.drew = WD := ⟨_, rfl⟩
  have SD : Hid _ := S1.out.dr
  rw [hWD] at SD
  clear S1
  obtain ⟨_, c1, _, cf⟩ := SD.out.p.cells
  have hwi := w64 M.i (by have := HIS.out; have := HS.out; omega)
  have hwi2 : IntKind.i64.wrap ((M.i : Int) + 1) = ((M.i + 1 : Nat) : Int) := by have := HIS.out; have := HS.out; rw [IntKind.wrap_i64]; omega
  refine wp_region_noPanic ?_
  refine wp_region_held_drew (S := fun _ => True) (by kernel_rfl) trivial (fun hHeld => ?_)
  rw [hWD]
  clear hWD
  refine wpAnyH_take (i := 0) (oi := { dst := _, op := _, type := _, pos := _, after := _, guard := _ }) (v := ?_) rfl (by kernel_rfl) (by kernel_rfl) (by kernel_rfl) (fun _ _ _ h => h) (Or.inl ⟨by rfl, ?_⟩) (by assumption) ?_
  rotate_left
  · intro W hSw
    (try dsimp only at hSw)
    go_simp
    (try with_reducible rfl)
  try simp only [Act.put, List.setIfInBounds_toArray, List.set_cons_zero, List.set_cons_succ]
  refine wpAnyH_take (i := 1) (oi := { dst := _, op := _, type := _, pos := _, after := _, guard := _ }) (v := ?_) rfl (by kernel_rfl) (by kernel_rfl) (by kernel_rfl) (fun _ _ _ h => h) (Or.inl ⟨by rfl, ?_⟩) (by assumption) ?_
  rotate_left
  · intro W hSw
    (try dsimp only at hSw)
    go_simp
    (try with_reducible rfl)
  try simp only [Act.put, List.setIfInBounds_toArray, List.set_cons_zero, List.set_cons_succ]
  refine wpAnyH_take (i := 4) (oi := { dst := _, op := _, type := _, pos := _, after := _, guard := _ }) (v := ?_) rfl (by kernel_rfl) (by kernel_rfl) (by kernel_rfl) (fun _ _ _ h => h) (Or.inl ⟨by rfl, ?_⟩) (by assumption) ?_
  rotate_left
  · intro W hSw
    (try dsimp only at hSw)
    go_simp
    (try with_reducible rfl)
  try simp only [Act.put, List.setIfInBounds_toArray, List.set_cons_zero, List.set_cons_succ]
  refine wpAnyH_take (i := 5) (oi := { dst := _, op := _, type := _, pos := _, after := _, guard := _ }) (v := ?_) rfl (by kernel_rfl) (by kernel_rfl) (by kernel_rfl) (fun _ _ _ h => h) (Or.inl ⟨by rfl, ?_⟩) (by assumption) ?_
  rotate_left
  · intro W hSw
    (try dsimp only at hSw)
    go_simp
    (try with_reducible rfl)
  try simp only [Act.put, List.setIfInBounds_toArray, List.set_cons_zero, List.set_cons_succ]
  refine wpAnyH_take (i := 6) (oi := { dst := _, op := _, type := _, pos := _, after := _, guard := _ }) (v := ?_) rfl (by kernel_rfl) (by kernel_rfl) (by kernel_rfl) (fun _ _ _ h => h) (Or.inl ⟨by rfl, ?_⟩) (by assumption) ?_
  rotate_left
  · intro W hSw
    (try dsimp only at hSw)
    go_simp
    (try with_reducible rfl)
  try simp only [Act.put, List.setIfInBounds_toArray, List.set_cons_zero, List.set_cons_succ]
  refine wpAnyH_ready (rs := [2, 7]) (by kernel_rfl) (by simp) ?_
  refine AllReadyH.cons (o := { dst := _, op := _, type := _, pos := _, after := _, guard := _ }) rfl (fun K hK => ?_) (AllReadyH.cons (o := { dst := _, op := _, type := _, pos := _, after := _, guard := _ }) rfl (fun K hK => ?_) (AllReadyH.nil))
  · go_simp
    refine (with0_any 10 10 HLO.out _).mono ?_
    rintro e wq ⟨rfl, hbq⟩
    have SQ : Hid _ := SD.out.mono hbq
    clear hbq SD
    have SD : Hid _ := SQ.out
    clear SQ
    (try clear c1 cf)
    obtain ⟨_, c1, _, cf⟩ := SD.out.p.cells
    rw [HM.out]
    go_wp2_with fail
    refine hK.out _ _ ?_ (fun hHeld => ?_)
    · exact trivial
    clear hK K
    try simp only [Act.put, List.setIfInBounds_toArray, List.set_cons_zero, List.set_cons_succ]
    refine wpAnyH_ready (rs := [3, 7]) (by kernel_rfl) (by simp) ?_
    refine AllReadyH.cons (o := { dst := _, op := _, type := _, pos := _, after := _, guard := _ }) rfl (fun K hK => ?_) (AllReadyH.cons (o := { dst := _, op := _, type := _, pos := _, after := _, guard := _ }) rfl (fun K hK => ?_) (AllReadyH.nil))
    · go_simp
      refine (others_any m0 _).mono ?_
      rintro e wq ⟨rfl, hbq⟩
      have SQ : Hid _ := SD.out.mono hbq
      clear hbq SD
      have SD : Hid _ := SQ.out
      clear SQ
      (try clear c1 cf)
      obtain ⟨_, c1, _, cf⟩ := SD.out.p.cells
      rw [HMO.out]
      go_wp2_with fail
      refine hK.out _ _ ?_ (fun hHeld => ?_)
      · exact trivial
      clear hK K
      try simp only [Act.put, List.setIfInBounds_toArray, List.set_cons_zero, List.set_cons_succ]
      refine wpAnyH_ready (rs := [7]) (by kernel_rfl) (by simp) ?_
      refine AllReadyH.cons (o := { dst := _, op := _, type := _, pos := _, after := _, guard := _ }) rfl (fun K hK => ?_) AllReadyH.nil
      go_simp
      refine hK.out _ _ ?_ (fun hHeld => ?_)
      · exact trivial
      clear hK K
      try simp only [Act.put, List.setIfInBounds_toArray, List.set_cons_zero, List.set_cons_succ]
      refine wpAnyH_take (i := 8) (oi := { dst := _, op := _, type := _, pos := _, after := _, guard := _ }) (v := ?_) rfl (by kernel_rfl) (by kernel_rfl) (by kernel_rfl) (fun _ _ _ h => h) (Or.inl ⟨by rfl, ?_⟩) (by assumption) ?_
      rotate_left
      · intro W hSw
        (try dsimp only at hSw)
        go_simp
        (try with_reducible rfl)
      try simp only [Act.put, List.setIfInBounds_toArray, List.set_cons_zero, List.set_cons_succ]
      refine wpAnyH_ready (rs := [9]) (by kernel_rfl) (by simp) ?_
      refine AllReadyH.cons (o := { dst := _, op := _, type := _, pos := _, after := _, guard := _ }) rfl (fun K hK => ?_) AllReadyH.nil
      go_simp
      refine (rset_any B b gg cap s M m (M.i + 1) _ SD.out.p HST.out HL.out).mono ?_
      rintro e w3 ⟨rfl, p3, f3⟩
      have P3 : Hid _ := p3
      have F3 : Hid _ := f3.toFR SD.out.p
      obtain ⟨e0, e1, ef⟩ := (SD.out.e.fg f3 SD.out.n1 SD.out.n2 (by decide)).c2
      clear p3 f3
      go_wp2_with fail
      refine hK.out _ _ ?_ (fun hHeld => ?_)
      · exact trivial
      clear hK K
      try simp only [Act.put, List.setIfInBounds_toArray, List.set_cons_zero, List.set_cons_succ]
      refine wpAnyH_ready (rs := [10]) (by kernel_rfl) (by simp) ?_
      refine AllReadyH.cons (o := { dst := _, op := _, type := _, pos := _, after := _, guard := _ }) rfl (fun K hK => ?_) AllReadyH.nil
      go_simp
      refine hK.out _ _ ?_ (fun hHeld => ?_)
      · exact trivial
      clear hK K
      try simp only [Act.put, List.setIfInBounds_toArray, List.set_cons_zero, List.set_cons_succ]
      refine wpAnyH_done (by kernel_rfl) ?_ _
      clear hHeld
      refine NoPanic.normal ?_
      go_wp2_with fail
      refine bodyPost_ret (v := errV 0 0) ?_ rfl (SRes.good HR.out ?_ ?_)
      · rw [results_cell1 rfl]; go_simp
      · exact (SD.out.fin HG.out P3.out.toR F3.out _ _).1
      · exact (SD.out.fin HG.out P3.out.toR F3.out _ _).2
    · go_simp
      refine hK.out _ _ ?_ (fun hHeld => ?_)
      · exact trivial
      clear hK K
      try simp only [Act.put, List.setIfInBounds_toArray, List.set_cons_zero, List.set_cons_succ]
      refine wpAnyH_take (i := 8) (oi := { dst := _, op := _, type := _, pos := _, after := _, guard := _ }) (v := ?_) rfl (by kernel_rfl) (by kernel_rfl) (by kernel_rfl) (fun _ _ _ h => h) (Or.inl ⟨by rfl, ?_⟩) (by assumption) ?_
      rotate_left
      · intro W hSw
        (try dsimp only at hSw)
        go_simp
        (try with_reducible rfl)
      try simp only [Act.put, List.setIfInBounds_toArray, List.set_cons_zero, List.set_cons_succ]
      refine wpAnyH_ready (rs := [3]) (by kernel_rfl) (by simp) ?_
      refine AllReadyH.cons (o := { dst := _, op := _, type := _, pos := _, after := _, guard := _ }) rfl (fun K hK => ?_) AllReadyH.nil
      go_simp
      refine (others_any m0 _).mono ?_
      rintro e wq ⟨rfl, hbq⟩
      have SQ : Hid _ := SD.out.mono hbq
      clear hbq SD
      have SD : Hid _ := SQ.out
      clear SQ
      (try clear c1 cf)
      obtain ⟨_, c1, _, cf⟩ := SD.out.p.cells
      rw [HMO.out]
      go_wp2_with fail
      refine hK.out _ _ ?_ (fun hHeld => ?_)
      · exact trivial
      clear hK K
      try simp only [Act.put, List.setIfInBounds_toArray, List.set_cons_zero, List.set_cons_succ]
      refine wpAnyH_ready (rs := [9]) (by kernel_rfl) (by simp) ?_
      refine AllReadyH.cons (o := { dst := _, op := _, type := _, pos := _, after := _, guard := _ }) rfl (fun K hK => ?_) AllReadyH.nil
      go_simp
      refine (rset_any B b gg cap s M m (M.i + 1) _ SD.out.p HST.out HL.out).mono ?_
      rintro e w3 ⟨rfl, p3, f3⟩
      have P3 : Hid _ := p3
      have F3 : Hid _ := f3.toFR SD.out.p
      obtain ⟨e0, e1, ef⟩ := (SD.out.e.fg f3 SD.out.n1 SD.out.n2 (by decide)).c2
      clear p3 f3
      go_wp2_with fail
      refine hK.out _ _ ?_ (fun hHeld => ?_)
      · exact trivial
      clear hK K
      try simp only [Act.put, List.setIfInBounds_toArray, List.set_cons_zero, List.set_cons_succ]
      refine wpAnyH_ready (rs := [10]) (by kernel_rfl) (by simp) ?_
      refine AllReadyH.cons (o := { dst := _, op := _, type := _, pos := _, after := _, guard := _ }) rfl (fun K hK => ?_) AllReadyH.nil
      go_simp
      refine hK.out _ _ ?_ (fun hHeld => ?_)
      · exact trivial
      clear hK K
      try simp only [Act.put, List.setIfInBounds_toArray, List.set_cons_zero, List.set_cons_succ]
      refine wpAnyH_done (by kernel_rfl) ?_ _
      clear hHeld
      refine NoPanic.normal ?_
      go_wp2_with fail
      refine bodyPost_ret (v := errV 0 0) ?_ rfl (SRes.good HR.out ?_ ?_)
      · rw [results_cell1 rfl]; go_simp
      · exact (SD.out.fin HG.out P3.out.toR F3.out _ _).1
      · exact (SD.out.fin HG.out P3.out.toR F3.out _ _).2
  · go_simp
    refine hK.out _ _ ?_ (fun hHeld => ?_)
    · exact trivial
    clear hK K
    try simp only [Act.put, List.setIfInBounds_toArray, List.set_cons_zero, List.set_cons_succ]
    refine wpAnyH_take (i := 8) (oi := { dst := _, op := _, type := _, pos := _, after := _, guard := _ }) (v := ?_) rfl (by kernel_rfl) (by kernel_rfl) (by kernel_rfl) (fun _ _ _ h => h) (Or.inl ⟨by rfl, ?_⟩) (by assumption) ?_
    rotate_left
    · intro W hSw
      (try dsimp only at hSw)
      go_simp
      (try with_reducible rfl)
    try simp only [Act.put, List.setIfInBounds_toArray, List.set_cons_zero, List.set_cons_succ]
    refine wpAnyH_ready (rs := [2]) (by kernel_rfl) (by simp) ?_
    refine AllReadyH.cons (o := { dst := _, op := _, type := _, pos := _, after := _, guard := _ }) rfl (fun K hK => ?_) AllReadyH.nil
    go_simp
    refine (with0_any 10 10 HLO.out _).mono ?_
    rintro e wq ⟨rfl, hbq⟩
    have SQ : Hid _ := SD.out.mono hbq
    clear hbq SD
    have SD : Hid _ := SQ.out
    clear SQ
    (try clear c1 cf)
    obtain ⟨_, c1, _, cf⟩ := SD.out.p.cells
    rw [HM.out]
    go_wp2_with fail
    refine hK.out _ _ ?_ (fun hHeld => ?_)
    · exact trivial
    clear hK K
    try simp only [Act.put, List.setIfInBounds_toArray, List.set_cons_zero, List.set_cons_succ]
    refine wpAnyH_ready (rs := [3]) (by kernel_rfl) (by simp) ?_
    refine AllReadyH.cons (o := { dst := _, op := _, type := _, pos := _, after := _, guard := _ }) rfl (fun K hK => ?_) AllReadyH.nil
    go_simp
    refine (others_any m0 _).mono ?_
    rintro e wq ⟨rfl, hbq⟩
    have SQ : Hid _ := SD.out.mono hbq
    clear hbq SD
    have SD : Hid _ := SQ.out
    clear SQ
    (try clear c1 cf)
    obtain ⟨_, c1, _, cf⟩ := SD.out.p.cells
    rw [HMO.out]
    go_wp2_with fail
    refine hK.out _ _ ?_ (fun hHeld => ?_)
    · exact trivial
    clear hK K
    try simp only [Act.put, List.setIfInBounds_toArray, List.set_cons_zero, List.set_cons_succ]
    refine wpAnyH_ready (rs := [9]) (by kernel_rfl) (by simp) ?_
    refine AllReadyH.cons (o := { dst := _, op := _, type := _, pos := _, after := _, guard := _ }) rfl (fun K hK => ?_) AllReadyH.nil
    go_simp
    refine (rset_any B b gg cap s M m (M.i + 1) _ SD.out.p HST.out HL.out).mono ?_
    rintro e w3 ⟨rfl, p3, f3⟩
    have P3 : Hid _ := p3
    have F3 : Hid _ := f3.toFR SD.out.p
    obtain ⟨e0, e1, ef⟩ := (SD.out.e.fg f3 SD.out.n1 SD.out.n2 (by decide)).c2
    clear p3 f3
    go_wp2_with fail
    refine hK.out _ _ ?_ (fun hHeld => ?_)
    · exact trivial
    clear hK K
    try simp only [Act.put, List.setIfInBounds_toArray, List.set_cons_zero, List.set_cons_succ]
    refine wpAnyH_ready (rs := [10]) (by kernel_rfl) (by simp) ?_
    refine AllReadyH.cons (o := { dst := _, op := _, type := _, pos := _, after := _, guard := _ }) rfl (fun K hK => ?_) AllReadyH.nil
    go_simp
    refine hK.out _ _ ?_ (fun hHeld => ?_)
    · exact trivial
    clear hK K
    try simp only [Act.put, List.setIfInBounds_toArray, List.set_cons_zero, List.set_cons_succ]
    refine wpAnyH_done (by kernel_rfl) ?_ _
    clear hHeld
    refine NoPanic.normal ?_
    go_wp2_with fail
    refine bodyPost_ret (v := errV 0 0) ?_ rfl (SRes.good HR.out ?_ ?_)
    · rw [results_cell1 rfl]; go_simp
    · exact (SD.out.fin HG.out P3.out.toR F3.out _ _).1
    · exact (SD.out.fin HG.out P3.out.toR F3.out _ _).2
end Go.Proofs.Ytkjcnnecdclgfaa
namespace Go.Proofs.Ytkjcnnecdclgfaa
open Go.RowKit
theorem St.put8 {B b gg cap q : Nat} {s : ByteArray} {M : Mc} {w W : World} {t : TypeId} {a0 a1 a2 a3 a4 a5 a6 a7 : Value} (h : St B b gg cap s M w W) (ha : AtV W q #[a0, a1, a2, a3, a4, a5, a6, a7] t) (hn : q ≠ b ∧ q ≠ gg ∧ w.heap.size ≠ q) (ht : t ≠ 34) (x0 x1 x2 x3 x4 x5 x6 x7 : Value) (hq : w.heap.size ≤ q) :
    St B b gg cap s M w ((((((((W.setCell ⟨q, 0, none⟩ x0).setCell ⟨q, 1, none⟩ x1).setCell ⟨q, 2, none⟩ x2).setCell ⟨q, 3, none⟩ x3).setCell ⟨q, 4, none⟩ x4).setCell ⟨q, 5, none⟩ x5).setCell ⟨q, 6, none⟩ x6).setCell ⟨q, 7, none⟩ x7) ∧
    AtV ((((((((W.setCell ⟨q, 0, none⟩ x0).setCell ⟨q, 1, none⟩ x1).setCell ⟨q, 2, none⟩ x2).setCell ⟨q, 3, none⟩ x3).setCell ⟨q, 4, none⟩ x4).setCell ⟨q, 5, none⟩ x5).setCell ⟨q, 6, none⟩ x6).setCell ⟨q, 7, none⟩ x7) q #[x0, x1, x2, x3, x4, x5, x6, x7] t := by
  have step : ∀ (W : World) (vs : Array Value) (j : Nat) (x : Value), St B b gg cap s M w W → AtV W q vs t → St B b gg cap s M w (W.setCell ⟨q, j, none⟩ x) ∧ AtV (W.setCell ⟨q, j, none⟩ x) q (vs.setIfInBounds j x) t := by
    intro W vs j x h ha
    exact ⟨⟨h.p.aside ha hn.1 hn.2.1 ht j x, h.e.aside hn.2.2 j x, h.f.asideq hq h.sz j x, h.n1, h.n2, h.sz⟩, ha.put j x⟩
  obtain ⟨h, ha⟩ := step _ _ 0 x0 h ha
  obtain ⟨h, ha⟩ := step _ _ 1 x1 h ha
  obtain ⟨h, ha⟩ := step _ _ 2 x2 h ha
  obtain ⟨h, ha⟩ := step _ _ 3 x3 h ha
  obtain ⟨h, ha⟩ := step _ _ 4 x4 h ha
  obtain ⟨h, ha⟩ := step _ _ 5 x5 h ha
  obtain ⟨h, ha⟩ := step _ _ 6 x6 h ha
  obtain ⟨h, ha⟩ := step _ _ 7 x7 h ha
  exact ⟨h, by simpa using ha⟩
set_option maxRecDepth 100000 in
set_option maxHeartbeats 8000000 in
theorem step_esc (B b gg cap : Nat) (s : ByteArray) (M : Mc) (x : Nat) (hc : sg6.contains (UInt8.ofNat x) = false) (h92 : x = 92) (w : World) (h : IsG B b gg cap s M w) (hst : M.st.length ≤ 128) (hl : M.out.length ≤ 2300000000000) (his : M.i < s.size) (hs : s.size ≤ 1099511627776) (hx : pk s M.i = x) : RT B b s M w := by
  have hx8 : x < 256 := by rw [← hx]; exact pk_lt s M.i
  have S0 : Hid _ := St.of h
  have HG : Hid _ := h
  have HST : Hid _ := hst
  have HL : Hid _ := hl
  have HIS : Hid _ := his
  have HS : Hid _ := hs
  have HX : Hid _ := hx
  have HX8 : Hid _ := hx8
  have hidx := idx_nat his hx
  have AM := fun W => among_nat x hx8 sg6 (by decide) W
  have hEV : ∃ m0 one y n d, eres s (M.i + 1) true = bitV m0 one y n d ∧ ((∃ p : Nat, d = (p : Int) ∧ mst s M = .error (40, p)) ∨ (∃ j : Nat, d = -1 ∧ n = (j : Int) ∧ mst s M = .ok (sst M m0 j))) := by
    rcases atm_esc (hx.trans h92) with ⟨p, he, ha⟩ | ⟨m, one, y, j, he, ha⟩
    · exact ⟨_, _, _, _, _, he, .inl ⟨p, rfl, mst_bad hx (sg6_out hc) ha⟩⟩
    · exact ⟨_, _, _, _, _, he, .inr ⟨j, rfl, rfl, mst_ok hx (sg6_out hc) ha⟩⟩
  obtain ⟨m0, one, y, n, d, hev, hcs⟩ := hEV
  have EE : Hid (∀ W : World, Calls Try.prog 44 #[.string s, .int .i64 ((M.i + 1 : Nat) : Int), .bool true] W fun e w' => e = .returned (bitV m0 one y n d) ∧ Below W.heap.size W w') := by
    intro W
    have := rescape_any s (M.i + 1) true W (by omega) (by omega)
    unfold RE at this
    rw [hev] at this
    exact this
  have HCS : Hid _ := hcs
  have HLT : Hid _ := h.lt
  have e91 : ((x : Int) == 91) = false := by rw [beq_eq_false_iff_ne]; omega
  have e46 : ((x : Int) == 46) = false := by rw [beq_eq_false_iff_ne]; omega
  have e92 : ((x : Int) == 92) = true := by rw [h92]; rfl
  have HC : Hid _ := hc
  clear hc
  clear h92 hev hcs
  obtain ⟨c0, c1, c3, cf⟩ := S0.out.p.cells
  have hlt := HIS.out
  clear h hst hl his hs hx hx8 c3 hlt
  go_enter Try.func24, Try.ntmps24
  go_wp2_with fail
  go_region
  have S1 : Hid _ := S0.out.dr
  obtain ⟨W1, hW1⟩ : ∃ W1, (w.alloc (.cells #[.int .i64 0, .int .i64 0] 66)).drew = W1 := ⟨_, rfl⟩
  rw [hW1] at S1 ⊢
  clear hW1 S0 c0 c1 cf hidx
  go_wp2_with fail
  refine (AM _).mono ?_
  clear AM
  rintro e w0 ⟨rfl, rfl⟩
  rw [HC.out]
  go_upto_region 12 with fail
  go_cut [7] from 8 (fun v wk => ∃ q, v = .pointer (some ⟨q, 0, none⟩) ∧ AtV wk q #[.int .u64 (wd m0 0 : Nat), .int .u64 (wd m0 1 : Nat), .int .u64 (wd m0 2 : Nat), .int .u64 (wd m0 3 : Nat), .bool one, .int .i64 y, .int .i64 n, .int .i64 d] 93 ∧ St B b gg cap s M w wk)
  case first =>
    obtain ⟨WD, hWD⟩ : ∃ WD, w0.drew = WD := ⟨_, rfl⟩
    have SD : Hid _ := S1.out.dr
    rw [hWD] at SD
    clear S1
    have hwi2 : IntKind.i64.wrap ((M.i : Int) + 1) = ((M.i + 1 : Nat) : Int) := by have := HIS.out; have := HS.out; rw [IntKind.wrap_i64]; omega
    refine wp_region_noPanic ?_
    refine wp_region_held_drew (S := fun W => W.cell? ⟨b, 0, none⟩ = some (.string s) ∧ W.cell? ⟨b, 1, none⟩ = some (.int .i64 (M.i : Int))) (by kernel_rfl) (by rw [hWD]; exact ⟨SD.out.p.cells.1, SD.out.p.cells.2.1⟩) (fun hHeld => ?_)
    rw [hWD] at hHeld ⊢
    clear hWD
    refine wpAnyH_take (i := 0) (oi := { dst := _, op := _, type := _, pos := _, after := _, guard := _ }) (v := ?_) rfl (by kernel_rfl) (by kernel_rfl) (by kernel_rfl) (fun _ _ _ h => h) (Or.inl ⟨by rfl, ?_⟩) (by assumption) ?_
    rotate_left
    · intro W hSw
      (try dsimp only at hSw)
      go_simp
      (try with_reducible rfl)
    try simp only [Act.put, List.setIfInBounds_toArray, List.set_cons_zero, List.set_cons_succ]
    refine wpAnyH_take (i := 1) (oi := { dst := _, op := _, type := _, pos := _, after := _, guard := _ }) (v := ?_) rfl (by kernel_rfl) (by kernel_rfl) (by kernel_rfl) (fun _ _ _ h => h) (Or.inl ⟨by rfl, ?_⟩) (by assumption) ?_
    rotate_left
    · intro W hSw
      (try dsimp only at hSw)
      go_simp
      (try with_reducible rfl)
    try simp only [Act.put, List.setIfInBounds_toArray, List.set_cons_zero, List.set_cons_succ]
    refine wpAnyH_take (i := 2) (oi := { dst := _, op := _, type := _, pos := _, after := _, guard := _ }) (v := ?_) rfl (by kernel_rfl) (by kernel_rfl) (by kernel_rfl) (fun _ _ _ h => h) (Or.inl ⟨by rfl, ?_⟩) (by assumption) ?_
    rotate_left
    · intro W hSw
      (try dsimp only at hSw)
      go_simp
      (try with_reducible rfl)
    try simp only [Act.put, List.setIfInBounds_toArray, List.set_cons_zero, List.set_cons_succ]
    refine wpAnyH_take (i := 3) (oi := { dst := _, op := _, type := _, pos := _, after := _, guard := _ }) (v := ?_) rfl (by kernel_rfl) (by kernel_rfl) (by kernel_rfl) (fun _ _ _ h => h) (Or.inl ⟨by rfl, ?_⟩) (by assumption) ?_
    rotate_left
    · intro W hSw
      (try dsimp only at hSw)
      obtain ⟨c0, c1⟩ := hSw
      go_simp
      (try with_reducible rfl)
    try simp only [Act.put, List.setIfInBounds_toArray, List.set_cons_zero, List.set_cons_succ]
    refine wpAnyH_take (i := 4) (oi := { dst := _, op := _, type := _, pos := _, after := _, guard := _ }) (v := ?_) rfl (by kernel_rfl) (by kernel_rfl) (by kernel_rfl) (fun _ _ _ h => h) (Or.inl ⟨by rfl, ?_⟩) (by assumption) ?_
    rotate_left
    · intro W hSw
      (try dsimp only at hSw)
      go_simp
      (try with_reducible rfl)
    try simp only [Act.put, List.setIfInBounds_toArray, List.set_cons_zero, List.set_cons_succ]
    refine wpAnyH_take (i := 5) (oi := { dst := _, op := _, type := _, pos := _, after := _, guard := _ }) (v := ?_) rfl (by kernel_rfl) (by kernel_rfl) (by kernel_rfl) (fun _ _ _ h => h) (Or.inl ⟨by rfl, ?_⟩) (by assumption) ?_
    rotate_left
    · intro W hSw
      (try dsimp only at hSw)
      go_simp
      (try with_reducible rfl)
    try simp only [Act.put, List.setIfInBounds_toArray, List.set_cons_zero, List.set_cons_succ]
    refine wpAnyH_take (i := 6) (oi := { dst := _, op := _, type := _, pos := _, after := _, guard := _ }) (v := ?_) rfl (by kernel_rfl) (by kernel_rfl) (by kernel_rfl) (fun _ _ _ h => h) (Or.inl ⟨by rfl, ?_⟩) (by assumption) ?_
    rotate_left
    · intro W hSw
      (try dsimp only at hSw)
      go_simp
      (try with_reducible rfl)
    try simp only [Act.put, List.setIfInBounds_toArray, List.set_cons_zero, List.set_cons_succ]
    refine wpAnyH_take (i := 7) (oi := { dst := _, op := _, type := _, pos := _, after := _, guard := _ }) (v := ?_) rfl (by kernel_rfl) (by kernel_rfl) (by kernel_rfl) (fun _ _ _ h => h) (Or.inl ⟨by rfl, ?_⟩) (by assumption) ?_
    rotate_left
    · intro W hSw
      (try dsimp only at hSw)
      obtain ⟨c0, c1⟩ := hSw
      go_simp
      (try with_reducible rfl)
    try simp only [Act.put, List.setIfInBounds_toArray, List.set_cons_zero, List.set_cons_succ]
    refine wpAnyH_take (i := 8) (oi := { dst := _, op := _, type := _, pos := _, after := _, guard := _ }) (v := ?_) rfl (by kernel_rfl) (by kernel_rfl) (by kernel_rfl) (fun _ _ _ h => h) (Or.inl ⟨by rfl, ?_⟩) (by assumption) ?_
    rotate_left
    · intro W hSw
      (try dsimp only at hSw)
      go_simp
      (try with_reducible rfl)
    try simp only [Act.put, List.setIfInBounds_toArray, List.set_cons_zero, List.set_cons_succ]
    refine wpAnyH_ready (rs := [9, 10]) (by kernel_rfl) (by simp) ?_
    refine AllReadyH.cons (o := { dst := _, op := _, type := _, pos := _, after := _, guard := _ }) rfl (fun K hK => ?_) (AllReadyH.cons (o := { dst := _, op := _, type := _, pos := _, after := _, guard := _ }) rfl (fun K hK => ?_) (AllReadyH.nil))
    · go_simp
      refine (EE.out _).mono ?_
      rintro e wq ⟨rfl, hbq⟩
      have SQ : Hid _ := SD.out.mono hbq
      clear SD
      have SD : Hid _ := SQ.out
      clear SQ
      clear hbq
      go_wp2_with fail
      refine hK.out _ _ ?_ (fun hHeld => ?_)
      · exact ⟨SD.out.p.cells.1, SD.out.p.cells.2.1⟩
      clear hK K
      try simp only [Act.put, List.setIfInBounds_toArray, List.set_cons_zero, List.set_cons_succ]
      refine wpAnyH_ready (rs := [10]) (by kernel_rfl) (by simp) ?_
      refine AllReadyH.cons (o := { dst := _, op := _, type := _, pos := _, after := _, guard := _ }) rfl (fun K hK => ?_) AllReadyH.nil
      go_simp
      refine hK.out _ _ ?_ (fun hHeld => ?_)
      · exact ⟨(SD.out.mono (bel_up _ _)).p.cells.1, (SD.out.mono (bel_up _ _)).p.cells.2.1⟩
      clear hK K
      try simp only [Act.put, List.setIfInBounds_toArray, List.set_cons_zero, List.set_cons_succ]
      have SQ : Hid _ := SD.out.mono (bel_up wq (.cells #[.int .u64 0, .int .u64 0, .int .u64 0, .int .u64 0, .bool false, .int .i64 0, .int .i64 0, .int .i64 0] 93))
      have AQ : Hid (AtV (wq.alloc (.cells #[.int .u64 0, .int .u64 0, .int .u64 0, .int .u64 0, .bool false, .int .i64 0, .int .i64 0, .int .i64 0] 93)) wq.heap.size #[.int .u64 0, .int .u64 0, .int .u64 0, .int .u64 0, .bool false, .int .i64 0, .int .i64 0, .int .i64 0] 93) := AtV.new _ _ _
      have HQ : Hid (w.heap.size < wq.heap.size) := SD.out.e.lt
      clear SD
      have SD : Hid _ := SQ.out
      clear SQ
      obtain ⟨WA, hWA⟩ : ∃ WA, wq.alloc (.cells #[.int .u64 0, .int .u64 0, .int .u64 0, .int .u64 0, .bool false, .int .i64 0, .int .i64 0, .int .i64 0] 93) = WA := ⟨_, rfl⟩
      obtain ⟨q, hq⟩ : ∃ q, wq.heap.size = q := ⟨_, rfl⟩
      rw [hWA, hq] at AQ
      rw [hWA] at SD
      rw [hq] at HQ
      rw [hWA] at hHeld
      rw [hWA, hq]
      clear hWA hq
      refine wpAnyH_ready (rs := [11]) (by kernel_rfl) (by simp) ?_
      refine AllReadyH.cons (o := { dst := _, op := _, type := _, pos := _, after := _, guard := _ }) rfl (fun K hK => ?_) AllReadyH.nil
      obtain ⟨q0, q1, q2, q3, q4, q5, q6, q7, qf⟩ := AQ.out.c8
      have NQ : Hid (q ≠ b ∧ q ≠ gg ∧ w.heap.size ≠ q) := by
        have := SD.out.p.lt
        have := HQ.out
        have := HLT.out
        exact ⟨by omega, by omega, by omega⟩
      have SF : Hid _ := St.put8 SD.out AQ.out NQ.out (by decide) (.int .u64 (wd m0 0 : Nat)) (.int .u64 (wd m0 1 : Nat)) (.int .u64 (wd m0 2 : Nat)) (.int .u64 (wd m0 3 : Nat)) (.bool one) (.int .i64 y) (.int .i64 n) (.int .i64 d) (Nat.le_of_lt HQ.out)
      go_simp
      refine hK.out _ _ ?_ (fun hHeld => ?_)
      · exact ⟨SF.out.1.p.cells.1, SF.out.1.p.cells.2.1⟩
      clear hK K
      try simp only [Act.put, List.setIfInBounds_toArray, List.set_cons_zero, List.set_cons_succ]
      refine wpAnyH_done (by kernel_rfl) ?_ _
      clear hHeld
      refine NoPanic.normal ?_
      go_wp2_with fail
      go_meet
      exact ⟨q, rfl, SF.out.2, SF.out.1⟩
    · go_simp
      refine hK.out _ _ ?_ (fun hHeld => ?_)
      · exact ⟨(SD.out.mono (bel_up _ _)).p.cells.1, (SD.out.mono (bel_up _ _)).p.cells.2.1⟩
      clear hK K
      try simp only [Act.put, List.setIfInBounds_toArray, List.set_cons_zero, List.set_cons_succ]
      have SQ : Hid _ := SD.out.mono (bel_up WD (.cells #[.int .u64 0, .int .u64 0, .int .u64 0, .int .u64 0, .bool false, .int .i64 0, .int .i64 0, .int .i64 0] 93))
      have AQ : Hid (AtV (WD.alloc (.cells #[.int .u64 0, .int .u64 0, .int .u64 0, .int .u64 0, .bool false, .int .i64 0, .int .i64 0, .int .i64 0] 93)) WD.heap.size #[.int .u64 0, .int .u64 0, .int .u64 0, .int .u64 0, .bool false, .int .i64 0, .int .i64 0, .int .i64 0] 93) := AtV.new _ _ _
      have HQ : Hid (w.heap.size < WD.heap.size) := SD.out.e.lt
      clear SD
      have SD : Hid _ := SQ.out
      clear SQ
      obtain ⟨WA, hWA⟩ : ∃ WA, WD.alloc (.cells #[.int .u64 0, .int .u64 0, .int .u64 0, .int .u64 0, .bool false, .int .i64 0, .int .i64 0, .int .i64 0] 93) = WA := ⟨_, rfl⟩
      obtain ⟨q, hq⟩ : ∃ q, WD.heap.size = q := ⟨_, rfl⟩
      rw [hWA, hq] at AQ
      rw [hWA] at SD
      rw [hq] at HQ
      rw [hWA] at hHeld
      rw [hWA, hq]
      clear hWA hq
      refine wpAnyH_ready (rs := [9]) (by kernel_rfl) (by simp) ?_
      refine AllReadyH.cons (o := { dst := _, op := _, type := _, pos := _, after := _, guard := _ }) rfl (fun K hK => ?_) AllReadyH.nil
      go_simp
      refine (EE.out _).mono ?_
      rintro e wq ⟨rfl, hbq⟩
      have SQ : Hid _ := SD.out.mono hbq
      clear SD
      have SD : Hid _ := SQ.out
      clear SQ
      have AQ2 : Hid _ := AQ.out.mono hbq
      clear AQ
      have AQ : Hid _ := AQ2.out
      clear AQ2
      clear hbq
      go_wp2_with fail
      refine hK.out _ _ ?_ (fun hHeld => ?_)
      · exact ⟨SD.out.p.cells.1, SD.out.p.cells.2.1⟩
      clear hK K
      try simp only [Act.put, List.setIfInBounds_toArray, List.set_cons_zero, List.set_cons_succ]
      refine wpAnyH_ready (rs := [11]) (by kernel_rfl) (by simp) ?_
      refine AllReadyH.cons (o := { dst := _, op := _, type := _, pos := _, after := _, guard := _ }) rfl (fun K hK => ?_) AllReadyH.nil
      obtain ⟨q0, q1, q2, q3, q4, q5, q6, q7, qf⟩ := AQ.out.c8
      have NQ : Hid (q ≠ b ∧ q ≠ gg ∧ w.heap.size ≠ q) := by
        have := SD.out.p.lt
        have := HQ.out
        have := HLT.out
        exact ⟨by omega, by omega, by omega⟩
      have SF : Hid _ := St.put8 SD.out AQ.out NQ.out (by decide) (.int .u64 (wd m0 0 : Nat)) (.int .u64 (wd m0 1 : Nat)) (.int .u64 (wd m0 2 : Nat)) (.int .u64 (wd m0 3 : Nat)) (.bool one) (.int .i64 y) (.int .i64 n) (.int .i64 d) (Nat.le_of_lt HQ.out)
      go_simp
      refine hK.out _ _ ?_ (fun hHeld => ?_)
      · exact ⟨SF.out.1.p.cells.1, SF.out.1.p.cells.2.1⟩
      clear hK K
      try simp only [Act.put, List.setIfInBounds_toArray, List.set_cons_zero, List.set_cons_succ]
      refine wpAnyH_done (by kernel_rfl) ?_ _
      clear hHeld
      refine NoPanic.normal ?_
      go_wp2_with fail
      go_meet
      exact ⟨q, rfl, SF.out.2, SF.out.1⟩
  case rest =>
    obtain ⟨q, rfl, aq, s2⟩ := hcut
    have S2 : Hid _ := s2
    have AQ : Hid _ := aq
    clear aq s2 S1 EE
    obtain ⟨q0, q1, q2, q3, q4, q5, q6, q7, qf⟩ := AQ.out.c8
    rcases HCS.out with ⟨p, hd, hr⟩ | ⟨j, hd, hn, hr⟩
    · have HR : Hid _ := hr
      rw [hd] at q7
      clear hr hd HCS
      obtain ⟨e0, e1, ef⟩ := S2.out.e.c2
      go_wp2_with fail
      refine bodyPost_ret (v := errV 40 (p : Int)) ?_ rfl (SRes.bad HR.out ?_)
      · rw [results_cell1 rfl]; go_simp
      · exact S2.out.err HG.out _ _
    · have HR : Hid _ := hr
      rw [hd] at q7
      rw [hn] at q6
      clear hr hd hn HCS
      go_wp2_with fail
      refine (rset_any B b gg cap s M m0 j _ S2.out.p HST.out HL.out).mono ?_
      rintro e w3 ⟨rfl, p3, f3⟩
      have P3 : Hid _ := p3
      have F3 : Hid _ := f3.toFR S2.out.p
      obtain ⟨e0, e1, ef⟩ := (S2.out.e.fg f3 S2.out.n1 S2.out.n2 (by decide)).c2
      clear p3 f3 q0 q1 q2 q3 q4 q5 q6 q7 qf
      go_wp2_with fail
      refine bodyPost_ret (v := errV 0 0) ?_ rfl (SRes.good HR.out ?_ ?_)
      · rw [results_cell1 rfl]; go_simp
      · exact (S2.out.fin HG.out P3.out.toR F3.out _ _).1
      · exact (S2.out.fin HG.out P3.out.toR F3.out _ _).2
end Go.Proofs.Ytkjcnnecdclgfaa
namespace Go.Proofs.Ytkjcnnecdclgfaa
open Go.RowKit
theorem AtV.c4 {W : World} {k : Nat} {a b c d : Value} {t : TypeId} (h : AtV W k #[a, b, c, d] t) : W.cell? ⟨k, 0, none⟩ = some a ∧ W.cell? ⟨k, 1, none⟩ = some b ∧ W.cell? ⟨k, 2, none⟩ = some c ∧ W.cell? ⟨k, 3, none⟩ = some d ∧ ∀ o, W.frozen? ⟨k, o, none⟩ = false := ⟨h.cell _ _ rfl, h.cell _ _ rfl, h.cell _ _ rfl, h.cell _ _ rfl, h.fr⟩
theorem St.put_ {B b gg cap q : Nat} {s : ByteArray} {M : Mc} {w W : World} {t : TypeId} {vs : Array Value} (h : St B b gg cap s M w W) (ha : AtV W q vs t) (hn : q ≠ b ∧ q ≠ gg ∧ w.heap.size ≠ q) (ht : t ≠ 34) (j : Nat) (x : Value) (hq : w.heap.size ≤ q) : St B b gg cap s M w (W.setCell ⟨q, j, none⟩ x) ∧ AtV (W.setCell ⟨q, j, none⟩ x) q (vs.setIfInBounds j x) t :=
  ⟨⟨h.p.aside ha hn.1 hn.2.1 ht j x, h.e.aside hn.2.2 j x, h.f.asideq hq h.sz j x, h.n1, h.n2, h.sz⟩, ha.put j x⟩
theorem St.put4 {B b gg cap q : Nat} {s : ByteArray} {M : Mc} {w W : World} {t : TypeId} {a0 a1 a2 a3 : Value} (h : St B b gg cap s M w W) (ha : AtV W q #[a0, a1, a2, a3] t) (hn : q ≠ b ∧ q ≠ gg ∧ w.heap.size ≠ q) (ht : t ≠ 34) (x0 x1 x2 x3 : Value) (hq : w.heap.size ≤ q) :
    St B b gg cap s M w ((((W.setCell ⟨q, 0, none⟩ x0).setCell ⟨q, 1, none⟩ x1).setCell ⟨q, 2, none⟩ x2).setCell ⟨q, 3, none⟩ x3) ∧
    AtV ((((W.setCell ⟨q, 0, none⟩ x0).setCell ⟨q, 1, none⟩ x1).setCell ⟨q, 2, none⟩ x2).setCell ⟨q, 3, none⟩ x3) q #[x0, x1, x2, x3] t := by
  obtain ⟨h, ha⟩ := h.put_ ha hn ht 0 x0 hq
  obtain ⟨h, ha⟩ := h.put_ ha hn ht 1 x1 hq
  obtain ⟨h, ha⟩ := h.put_ ha hn ht 2 x2 hq
  obtain ⟨h, ha⟩ := h.put_ ha hn ht 3 x3 hq
  exact ⟨h, by simpa using ha⟩
theorem St.put2 {B b gg cap q : Nat} {s : ByteArray} {M : Mc} {w W : World} {t : TypeId} {a0 a1 : Value} (h : St B b gg cap s M w W) (ha : AtV W q #[a0, a1] t) (hn : q ≠ b ∧ q ≠ gg ∧ w.heap.size ≠ q) (ht : t ≠ 34) (x0 x1 : Value) (hq : w.heap.size ≤ q) :
    St B b gg cap s M w ((W.setCell ⟨q, 0, none⟩ x0).setCell ⟨q, 1, none⟩ x1) ∧
    AtV ((W.setCell ⟨q, 0, none⟩ x0).setCell ⟨q, 1, none⟩ x1) q #[x0, x1] t := by
  obtain ⟨h, ha⟩ := h.put_ ha hn ht 0 x0 hq
  obtain ⟨h, ha⟩ := h.put_ ha hn ht 1 x1 hq
  exact ⟨h, by simpa using ha⟩
/-- What klass has answered. -/
def KFact (s : ByteArray) (i : Nat) (m : Nat → Bool) (jj c p : Int) : Prop := (∃ j : Nat, pclass s i = .ok (m, j) ∧ jj = (j : Int) ∧ c = 0 ∧ p = 0) ∨ (∃ (k : Nat), pclass s i = .error (c, k) ∧ p = (k : Int) ∧ c ≠ 0)
theorem kres_form {s : ByteArray} {i : Nat} {w w' : World} {e : Ending} (h : KRes s i w e w') : ∃ m jj c p, e = .returned (.tuple #[CV m, .int .i64 jj, errV c p]) ∧ KFact s i m jj c p ∧ Below w.heap.size w w' := by
  unfold KRes at h
  obtain ⟨h, hb⟩ := h
  cases hp : pclass s i with
  | ok r =>
    obtain ⟨m, j⟩ := r
    rw [hp] at h
    exact ⟨m, (j : Int), 0, 0, h, .inl ⟨j, hp, rfl, rfl, rfl⟩, hb⟩
  | error r =>
    obtain ⟨c, k⟩ := r
    rw [hp] at h
    obtain ⟨m, h⟩ := h
    exact ⟨m, 0, c, (k : Int), h, .inr ⟨k, hp, rfl, pclass_code hp⟩, hb⟩
set_option maxRecDepth 100000 in
set_option maxHeartbeats 8000000 in
theorem step_class (B b gg cap : Nat) (s : ByteArray) (M : Mc) (x : Nat) (hc : sg6.contains (UInt8.ofNat x) = false) (h91 : x = 91) (w : World) (h : IsG B b gg cap s M w) (hst : M.st.length ≤ 128) (hl : M.out.length ≤ 2300000000000) (his : M.i < s.size) (hs : s.size ≤ 1099511627776) (hx : pk s M.i = x) : RT B b s M w := by
  have hx8 : x < 256 := by rw [← hx]; exact pk_lt s M.i
  have S0 : Hid _ := St.of h
  have HG : Hid _ := h
  have HST : Hid _ := hst
  have HL : Hid _ := hl
  have HIS : Hid _ := his
  have HS : Hid _ := hs
  have HX : Hid _ := hx
  have HX8 : Hid _ := hx8
  have hidx := idx_nat his hx
  have AM := fun W => among_nat x hx8 sg6 (by decide) W
  have EE : Hid (∀ W : World, Calls Try.prog 41 #[.string s, .int .i64 (M.i : Int)] W fun e w' => KRes s M.i W e w') := fun W => klass_any s M.i W his (by omega)
  have HOK : Hid (∀ m j, pclass s M.i = .ok (m, j) → mst s M = .ok (sst M m j)) := fun m j h => mst_ok hx (sg6_out hc) ((atm_class (hx.trans h91)).trans h)
  have HBAD : Hid (∀ e, pclass s M.i = .error e → mst s M = .error e) := fun e h => mst_bad hx (sg6_out hc) ((atm_class (hx.trans h91)).trans h)
  have HLT : Hid _ := h.lt
  have e91 : ((x : Int) == 91) = true := by rw [h91]; rfl
  have HC : Hid _ := hc
  clear hc
  clear h91
  obtain ⟨c0, c1, c3, cf⟩ := S0.out.p.cells
  have hlt := HIS.out
  clear h hst hl his hs hx hx8 c3 hlt
  go_enter Try.func24, Try.ntmps24
  go_wp2_with fail
  go_region
  have S1 : Hid _ := S0.out.dr
  obtain ⟨W1, hW1⟩ : ∃ W1, (w.alloc (.cells #[.int .i64 0, .int .i64 0] 66)).drew = W1 := ⟨_, rfl⟩
  rw [hW1] at S1 ⊢
  clear hW1 S0 c0 c1 cf hidx
  go_wp2_with fail
  refine (AM _).mono ?_
  clear AM
  rintro e w0 ⟨rfl, rfl⟩
  rw [HC.out]
  go_upto_region 5 with fail
  go_cut [4, 5, 6] from 8 (fun v4 v5 v6 wk => ∃ q4 q6 m jj c p, v4 = .pointer (some ⟨q4, 0, none⟩) ∧ v5 = .int .i64 jj ∧ v6 = .pointer (some ⟨q6, 0, none⟩) ∧ AtV wk q4 #[.int .u64 (wd m 0 : Nat), .int .u64 (wd m 1 : Nat), .int .u64 (wd m 2 : Nat), .int .u64 (wd m 3 : Nat)] 32 ∧ AtV wk q6 #[.int .i64 c, .int .i64 p] 66 ∧ St B b gg cap s M w wk ∧ KFact s M.i m jj c p)
  case first =>
    obtain ⟨WD, hWD⟩ : ∃ WD, w0.drew = WD := ⟨_, rfl⟩
    have SD : Hid _ := S1.out.dr
    rw [hWD] at SD
    clear S1
    refine wp_region_noPanic ?_
    refine wp_region_held_drew (S := fun W => W.cell? ⟨b, 0, none⟩ = some (.string s) ∧ W.cell? ⟨b, 1, none⟩ = some (.int .i64 (M.i : Int))) (by kernel_rfl) (by rw [hWD]; exact ⟨SD.out.p.cells.1, SD.out.p.cells.2.1⟩) (fun hHeld => ?_)
    rw [hWD] at hHeld ⊢
    clear hWD
    refine wpAnyH_take (i := 0) (oi := { dst := _, op := _, type := _, pos := _, after := _, guard := _ }) (v := ?_) rfl (by kernel_rfl) (by kernel_rfl) (by kernel_rfl) (fun _ _ _ h => h) (Or.inl ⟨by rfl, ?_⟩) (by assumption) ?_
    rotate_left
    · intro W hSw
      (try dsimp only at hSw)
      go_simp
      (try with_reducible rfl)
    try simp only [Act.put, List.setIfInBounds_toArray, List.set_cons_zero, List.set_cons_succ]
    refine wpAnyH_take (i := 1) (oi := { dst := _, op := _, type := _, pos := _, after := _, guard := _ }) (v := ?_) rfl (by kernel_rfl) (by kernel_rfl) (by kernel_rfl) (fun _ _ _ h => h) (Or.inl ⟨by rfl, ?_⟩) (by assumption) ?_
    rotate_left
    · intro W hSw
      (try dsimp only at hSw)
      go_simp
      (try with_reducible rfl)
    try simp only [Act.put, List.setIfInBounds_toArray, List.set_cons_zero, List.set_cons_succ]
    refine wpAnyH_take (i := 2) (oi := { dst := _, op := _, type := _, pos := _, after := _, guard := _ }) (v := ?_) rfl (by kernel_rfl) (by kernel_rfl) (by kernel_rfl) (fun _ _ _ h => h) (Or.inl ⟨by rfl, ?_⟩) (by assumption) ?_
    rotate_left
    · intro W hSw
      (try dsimp only at hSw)
      go_simp
      (try with_reducible rfl)
    try simp only [Act.put, List.setIfInBounds_toArray, List.set_cons_zero, List.set_cons_succ]
    refine wpAnyH_take (i := 3) (oi := { dst := _, op := _, type := _, pos := _, after := _, guard := _ }) (v := ?_) rfl (by kernel_rfl) (by kernel_rfl) (by kernel_rfl) (fun _ _ _ h => h) (Or.inl ⟨by rfl, ?_⟩) (by assumption) ?_
    rotate_left
    · intro W hSw
      (try dsimp only at hSw)
      obtain ⟨c0, c1⟩ := hSw
      go_simp
      (try with_reducible rfl)
    try simp only [Act.put, List.setIfInBounds_toArray, List.set_cons_zero, List.set_cons_succ]
    refine wpAnyH_take (i := 4) (oi := { dst := _, op := _, type := _, pos := _, after := _, guard := _ }) (v := ?_) rfl (by kernel_rfl) (by kernel_rfl) (by kernel_rfl) (fun _ _ _ h => h) (Or.inl ⟨by rfl, ?_⟩) (by assumption) ?_
    rotate_left
    · intro W hSw
      (try dsimp only at hSw)
      go_simp
      (try with_reducible rfl)
    try simp only [Act.put, List.setIfInBounds_toArray, List.set_cons_zero, List.set_cons_succ]
    refine wpAnyH_take (i := 5) (oi := { dst := _, op := _, type := _, pos := _, after := _, guard := _ }) (v := ?_) rfl (by kernel_rfl) (by kernel_rfl) (by kernel_rfl) (fun _ _ _ h => h) (Or.inl ⟨by rfl, ?_⟩) (by assumption) ?_
    rotate_left
    · intro W hSw
      (try dsimp only at hSw)
      go_simp
      (try with_reducible rfl)
    try simp only [Act.put, List.setIfInBounds_toArray, List.set_cons_zero, List.set_cons_succ]
    refine wpAnyH_take (i := 6) (oi := { dst := _, op := _, type := _, pos := _, after := _, guard := _ }) (v := ?_) rfl (by kernel_rfl) (by kernel_rfl) (by kernel_rfl) (fun _ _ _ h => h) (Or.inl ⟨by rfl, ?_⟩) (by assumption) ?_
    rotate_left
    · intro W hSw
      (try dsimp only at hSw)
      go_simp
      (try with_reducible rfl)
    try simp only [Act.put, List.setIfInBounds_toArray, List.set_cons_zero, List.set_cons_succ]
    refine wpAnyH_take (i := 7) (oi := { dst := _, op := _, type := _, pos := _, after := _, guard := _ }) (v := ?_) rfl (by kernel_rfl) (by kernel_rfl) (by kernel_rfl) (fun _ _ _ h => h) (Or.inl ⟨by rfl, ?_⟩) (by assumption) ?_
    rotate_left
    · intro W hSw
      (try dsimp only at hSw)
      obtain ⟨c0, c1⟩ := hSw
      go_simp
      (try with_reducible rfl)
    try simp only [Act.put, List.setIfInBounds_toArray, List.set_cons_zero, List.set_cons_succ]
    refine wpAnyH_ready (rs := [8, 13, 14]) (by kernel_rfl) (by simp) ?_
    refine AllReadyH.cons (o := { dst := _, op := _, type := _, pos := _, after := _, guard := _ }) rfl (fun K hK => ?_) (AllReadyH.cons (o := { dst := _, op := _, type := _, pos := _, after := _, guard := _ }) rfl (fun K hK => ?_) (AllReadyH.cons (o := { dst := _, op := _, type := _, pos := _, after := _, guard := _ }) rfl (fun K hK => ?_) (AllReadyH.nil)))
    · go_simp
      refine (EE.out _).mono ?_
      intro e wq hkr
      obtain ⟨m, jj, c, p, rfl, hkf, hbq⟩ := kres_form hkr
      have KF : Hid _ := hkf
      have SQ : Hid _ := SD.out.mono hbq
      clear SD
      have SD : Hid _ := SQ.out
      clear SQ hkr hkf
      clear hbq
      go_wp2_with fail
      refine hK.out _ _ ?_ (fun hHeld => ?_)
      · exact ⟨SD.out.p.cells.1, SD.out.p.cells.2.1⟩
      clear hK K
      try simp only [Act.put, List.setIfInBounds_toArray, List.set_cons_zero, List.set_cons_succ]
      refine wpAnyH_take (i := 9) (oi := { dst := _, op := _, type := _, pos := _, after := _, guard := _ }) (v := ?_) rfl (by kernel_rfl) (by kernel_rfl) (by kernel_rfl) (fun _ _ _ h => h) (Or.inl ⟨by rfl, ?_⟩) (by assumption) ?_
      rotate_left
      · intro W hSw
        (try dsimp only at hSw)
        go_simp
        (try with_reducible rfl)
      try simp only [Act.put, List.setIfInBounds_toArray, List.set_cons_zero, List.set_cons_succ]
      refine wpAnyH_take (i := 10) (oi := { dst := _, op := _, type := _, pos := _, after := _, guard := _ }) (v := ?_) rfl (by kernel_rfl) (by kernel_rfl) (by kernel_rfl) (fun _ _ _ h => h) (Or.inl ⟨by rfl, ?_⟩) (by assumption) ?_
      rotate_left
      · intro W hSw
        (try dsimp only at hSw)
        go_simp
        (try with_reducible rfl)
      try simp only [Act.put, List.setIfInBounds_toArray, List.set_cons_zero, List.set_cons_succ]
      refine wpAnyH_take (i := 11) (oi := { dst := _, op := _, type := _, pos := _, after := _, guard := _ }) (v := ?_) rfl (by kernel_rfl) (by kernel_rfl) (by kernel_rfl) (fun _ _ _ h => h) (Or.inl ⟨by rfl, ?_⟩) (by assumption) ?_
      rotate_left
      · intro W hSw
        (try dsimp only at hSw)
        go_simp
        (try with_reducible rfl)
      try simp only [Act.put, List.setIfInBounds_toArray, List.set_cons_zero, List.set_cons_succ]
      refine wpAnyH_take (i := 12) (oi := { dst := _, op := _, type := _, pos := _, after := _, guard := _ }) (v := ?_) rfl (by kernel_rfl) (by kernel_rfl) (by kernel_rfl) (fun _ _ _ h => h) (Or.inl ⟨by rfl, ?_⟩) (by assumption) ?_
      rotate_left
      · intro W hSw
        (try dsimp only at hSw)
        go_simp
        (try with_reducible rfl)
      try simp only [Act.put, List.setIfInBounds_toArray, List.set_cons_zero, List.set_cons_succ]
      refine wpAnyH_ready (rs := [13, 14]) (by kernel_rfl) (by simp) ?_
      refine AllReadyH.cons (o := { dst := _, op := _, type := _, pos := _, after := _, guard := _ }) rfl (fun K hK => ?_) (AllReadyH.cons (o := { dst := _, op := _, type := _, pos := _, after := _, guard := _ }) rfl (fun K hK => ?_) (AllReadyH.nil))
      · go_simp
        refine hK.out _ _ ?_ (fun hHeld => ?_)
        · exact ⟨(SD.out.mono (bel_up _ _)).p.cells.1, (SD.out.mono (bel_up _ _)).p.cells.2.1⟩
        clear hK K
        try simp only [Act.put, List.setIfInBounds_toArray, List.set_cons_zero, List.set_cons_succ]
        have SQ : Hid _ := SD.out.mono (bel_up wq (.cells #[.int .u64 0, .int .u64 0, .int .u64 0, .int .u64 0] 32))
        have A4 : Hid (AtV (wq.alloc (.cells #[.int .u64 0, .int .u64 0, .int .u64 0, .int .u64 0] 32)) wq.heap.size #[.int .u64 0, .int .u64 0, .int .u64 0, .int .u64 0] 32) := AtV.new _ _ _
        have H4 : Hid (w.heap.size < wq.heap.size) := SD.out.e.lt
        clear SD
        have SD : Hid _ := SQ.out
        clear SQ
        obtain ⟨WA4, hWA⟩ : ∃ WA, wq.alloc (.cells #[.int .u64 0, .int .u64 0, .int .u64 0, .int .u64 0] 32) = WA := ⟨_, rfl⟩
        obtain ⟨q4, hq⟩ : ∃ q, wq.heap.size = q := ⟨_, rfl⟩
        rw [hWA, hq] at A4
        rw [hWA] at SD
        rw [hq] at H4
        rw [hWA] at hHeld
        rw [hWA, hq]
        clear hWA hq
        refine wpAnyH_ready (rs := [14]) (by kernel_rfl) (by simp) ?_
        refine AllReadyH.cons (o := { dst := _, op := _, type := _, pos := _, after := _, guard := _ }) rfl (fun K hK => ?_) AllReadyH.nil
        go_simp
        refine hK.out _ _ ?_ (fun hHeld => ?_)
        · exact ⟨(SD.out.mono (bel_up _ _)).p.cells.1, (SD.out.mono (bel_up _ _)).p.cells.2.1⟩
        clear hK K
        try simp only [Act.put, List.setIfInBounds_toArray, List.set_cons_zero, List.set_cons_succ]
        have SQ : Hid _ := SD.out.mono (bel_up WA4 (.cells #[.int .i64 0, .int .i64 0] 66))
        have A6 : Hid (AtV (WA4.alloc (.cells #[.int .i64 0, .int .i64 0] 66)) WA4.heap.size #[.int .i64 0, .int .i64 0] 66) := AtV.new _ _ _
        have H6 : Hid (w.heap.size < WA4.heap.size) := SD.out.e.lt
        clear SD
        have SD : Hid _ := SQ.out
        clear SQ
        have HD : Hid (q4 < WA4.heap.size) := A4.out.lt
        have AX : Hid _ := A4.out.mono (bel_up WA4 (.cells #[.int .i64 0, .int .i64 0] 66))
        clear A4
        have A4 : Hid _ := AX.out
        clear AX
        obtain ⟨WA6, hWA⟩ : ∃ WA, WA4.alloc (.cells #[.int .i64 0, .int .i64 0] 66) = WA := ⟨_, rfl⟩
        obtain ⟨q6, hq⟩ : ∃ q, WA4.heap.size = q := ⟨_, rfl⟩
        rw [hWA, hq] at A6
        rw [hWA] at SD
        rw [hq] at H6
        rw [hWA] at hHeld
        rw [hWA, hq]
        rw [hWA] at A4
        rw [hq] at HD
        clear hWA hq
        refine wpAnyH_ready (rs := [15]) (by kernel_rfl) (by simp) ?_
        refine AllReadyH.cons (o := { dst := _, op := _, type := _, pos := _, after := _, guard := _ }) rfl (fun K hK => ?_) AllReadyH.nil
        obtain ⟨r0, r1, r2, r3, rf⟩ := A4.out.c4
        have ND : Hid (q6 ≠ q4) := by
          have := HD.out
          exact (by omega : q6 ≠ q4)
        have N4 : Hid (q4 ≠ b ∧ q4 ≠ gg ∧ w.heap.size ≠ q4) := by
          have := SD.out.p.lt
          have := H4.out
          have := HLT.out
          exact ⟨by omega, by omega, by omega⟩
        have N6 : Hid (q6 ≠ b ∧ q6 ≠ gg ∧ w.heap.size ≠ q6) := by
          have := SD.out.p.lt
          have := H6.out
          have := HLT.out
          exact ⟨by omega, by omega, by omega⟩
        have SF : Hid _ := St.put4 SD.out A4.out N4.out (by decide) (.int .u64 (wd m 0 : Nat)) (.int .u64 (wd m 1 : Nat)) (.int .u64 (wd m 2 : Nat)) (.int .u64 (wd m 3 : Nat)) (Nat.le_of_lt H4.out)
        have A6' : Hid _ := A6.out.put4 ND.out (.int .u64 (wd m 0 : Nat)) (.int .u64 (wd m 1 : Nat)) (.int .u64 (wd m 2 : Nat)) (.int .u64 (wd m 3 : Nat))
        go_simp
        refine hK.out _ _ ?_ (fun hHeld => ?_)
        · exact ⟨SF.out.1.p.cells.1, SF.out.1.p.cells.2.1⟩
        clear hK K r0 r1 r2 r3 rf
        try simp only [Act.put, List.setIfInBounds_toArray, List.set_cons_zero, List.set_cons_succ]
        refine wpAnyH_take (i := 16) (oi := { dst := _, op := _, type := _, pos := _, after := _, guard := _ }) (v := ?_) rfl (by kernel_rfl) (by kernel_rfl) (by kernel_rfl) (fun _ _ _ h => h) (Or.inl ⟨by rfl, ?_⟩) (by assumption) ?_
        rotate_left
        · intro W hSw
          (try dsimp only at hSw)
          go_simp
          (try with_reducible rfl)
        try simp only [Act.put, List.setIfInBounds_toArray, List.set_cons_zero, List.set_cons_succ]
        refine wpAnyH_ready (rs := [17]) (by kernel_rfl) (by simp) ?_
        refine AllReadyH.cons (o := { dst := _, op := _, type := _, pos := _, after := _, guard := _ }) rfl (fun K hK => ?_) AllReadyH.nil
        obtain ⟨r0, r1, rf⟩ := A6'.out.c2
        have SG : Hid _ := St.put2 SF.out.1 A6'.out N6.out (by decide) (.int .i64 c) (.int .i64 p) (Nat.le_of_lt H6.out)
        have A4' : Hid _ := (SF.out.2.aside (fun e => ND.out e.symm) 0 (.int .i64 c)).aside (fun e => ND.out e.symm) 1 (.int .i64 p)
        go_simp
        refine hK.out _ _ ?_ (fun hHeld => ?_)
        · exact ⟨SG.out.1.p.cells.1, SG.out.1.p.cells.2.1⟩
        clear hK K
        try simp only [Act.put, List.setIfInBounds_toArray, List.set_cons_zero, List.set_cons_succ]
        refine wpAnyH_done (by kernel_rfl) ?_ _
        clear hHeld
        refine NoPanic.normal ?_
        go_wp2_with fail
        go_meet
        exact ⟨q4, q6, m, jj, c, p, rfl, rfl, rfl, A4'.out, SG.out.2, SG.out.1, KF.out⟩
      · go_simp
        refine hK.out _ _ ?_ (fun hHeld => ?_)
        · exact ⟨(SD.out.mono (bel_up _ _)).p.cells.1, (SD.out.mono (bel_up _ _)).p.cells.2.1⟩
        clear hK K
        try simp only [Act.put, List.setIfInBounds_toArray, List.set_cons_zero, List.set_cons_succ]
        have SQ : Hid _ := SD.out.mono (bel_up wq (.cells #[.int .i64 0, .int .i64 0] 66))
        have A6 : Hid (AtV (wq.alloc (.cells #[.int .i64 0, .int .i64 0] 66)) wq.heap.size #[.int .i64 0, .int .i64 0] 66) := AtV.new _ _ _
        have H6 : Hid (w.heap.size < wq.heap.size) := SD.out.e.lt
        clear SD
        have SD : Hid _ := SQ.out
        clear SQ
        obtain ⟨WA6, hWA⟩ : ∃ WA, wq.alloc (.cells #[.int .i64 0, .int .i64 0] 66) = WA := ⟨_, rfl⟩
        obtain ⟨q6, hq⟩ : ∃ q, wq.heap.size = q := ⟨_, rfl⟩
        rw [hWA, hq] at A6
        rw [hWA] at SD
        rw [hq] at H6
        rw [hWA] at hHeld
        rw [hWA, hq]
        clear hWA hq
        refine wpAnyH_ready (rs := [13]) (by kernel_rfl) (by simp) ?_
        refine AllReadyH.cons (o := { dst := _, op := _, type := _, pos := _, after := _, guard := _ }) rfl (fun K hK => ?_) AllReadyH.nil
        go_simp
        refine hK.out _ _ ?_ (fun hHeld => ?_)
        · exact ⟨(SD.out.mono (bel_up _ _)).p.cells.1, (SD.out.mono (bel_up _ _)).p.cells.2.1⟩
        clear hK K
        try simp only [Act.put, List.setIfInBounds_toArray, List.set_cons_zero, List.set_cons_succ]
        have SQ : Hid _ := SD.out.mono (bel_up WA6 (.cells #[.int .u64 0, .int .u64 0, .int .u64 0, .int .u64 0] 32))
        have A4 : Hid (AtV (WA6.alloc (.cells #[.int .u64 0, .int .u64 0, .int .u64 0, .int .u64 0] 32)) WA6.heap.size #[.int .u64 0, .int .u64 0, .int .u64 0, .int .u64 0] 32) := AtV.new _ _ _
        have H4 : Hid (w.heap.size < WA6.heap.size) := SD.out.e.lt
        clear SD
        have SD : Hid _ := SQ.out
        clear SQ
        have HD : Hid (q6 < WA6.heap.size) := A6.out.lt
        have AX : Hid _ := A6.out.mono (bel_up WA6 (.cells #[.int .u64 0, .int .u64 0, .int .u64 0, .int .u64 0] 32))
        clear A6
        have A6 : Hid _ := AX.out
        clear AX
        obtain ⟨WA4, hWA⟩ : ∃ WA, WA6.alloc (.cells #[.int .u64 0, .int .u64 0, .int .u64 0, .int .u64 0] 32) = WA := ⟨_, rfl⟩
        obtain ⟨q4, hq⟩ : ∃ q, WA6.heap.size = q := ⟨_, rfl⟩
        rw [hWA, hq] at A4
        rw [hWA] at SD
        rw [hq] at H4
        rw [hWA] at hHeld
        rw [hWA, hq]
        rw [hWA] at A6
        rw [hq] at HD
        clear hWA hq
        refine wpAnyH_ready (rs := [15]) (by kernel_rfl) (by simp) ?_
        refine AllReadyH.cons (o := { dst := _, op := _, type := _, pos := _, after := _, guard := _ }) rfl (fun K hK => ?_) AllReadyH.nil
        obtain ⟨r0, r1, r2, r3, rf⟩ := A4.out.c4
        have ND : Hid (q6 ≠ q4) := by
          have := HD.out
          exact (by omega : q6 ≠ q4)
        have N4 : Hid (q4 ≠ b ∧ q4 ≠ gg ∧ w.heap.size ≠ q4) := by
          have := SD.out.p.lt
          have := H4.out
          have := HLT.out
          exact ⟨by omega, by omega, by omega⟩
        have N6 : Hid (q6 ≠ b ∧ q6 ≠ gg ∧ w.heap.size ≠ q6) := by
          have := SD.out.p.lt
          have := H6.out
          have := HLT.out
          exact ⟨by omega, by omega, by omega⟩
        have SF : Hid _ := St.put4 SD.out A4.out N4.out (by decide) (.int .u64 (wd m 0 : Nat)) (.int .u64 (wd m 1 : Nat)) (.int .u64 (wd m 2 : Nat)) (.int .u64 (wd m 3 : Nat)) (Nat.le_of_lt H4.out)
        have A6' : Hid _ := A6.out.put4 ND.out (.int .u64 (wd m 0 : Nat)) (.int .u64 (wd m 1 : Nat)) (.int .u64 (wd m 2 : Nat)) (.int .u64 (wd m 3 : Nat))
        go_simp
        refine hK.out _ _ ?_ (fun hHeld => ?_)
        · exact ⟨SF.out.1.p.cells.1, SF.out.1.p.cells.2.1⟩
        clear hK K r0 r1 r2 r3 rf
        try simp only [Act.put, List.setIfInBounds_toArray, List.set_cons_zero, List.set_cons_succ]
        refine wpAnyH_take (i := 16) (oi := { dst := _, op := _, type := _, pos := _, after := _, guard := _ }) (v := ?_) rfl (by kernel_rfl) (by kernel_rfl) (by kernel_rfl) (fun _ _ _ h => h) (Or.inl ⟨by rfl, ?_⟩) (by assumption) ?_
        rotate_left
        · intro W hSw
          (try dsimp only at hSw)
          go_simp
          (try with_reducible rfl)
        try simp only [Act.put, List.setIfInBounds_toArray, List.set_cons_zero, List.set_cons_succ]
        refine wpAnyH_ready (rs := [17]) (by kernel_rfl) (by simp) ?_
        refine AllReadyH.cons (o := { dst := _, op := _, type := _, pos := _, after := _, guard := _ }) rfl (fun K hK => ?_) AllReadyH.nil
        obtain ⟨r0, r1, rf⟩ := A6'.out.c2
        have SG : Hid _ := St.put2 SF.out.1 A6'.out N6.out (by decide) (.int .i64 c) (.int .i64 p) (Nat.le_of_lt H6.out)
        have A4' : Hid _ := (SF.out.2.aside (fun e => ND.out e.symm) 0 (.int .i64 c)).aside (fun e => ND.out e.symm) 1 (.int .i64 p)
        go_simp
        refine hK.out _ _ ?_ (fun hHeld => ?_)
        · exact ⟨SG.out.1.p.cells.1, SG.out.1.p.cells.2.1⟩
        clear hK K
        try simp only [Act.put, List.setIfInBounds_toArray, List.set_cons_zero, List.set_cons_succ]
        refine wpAnyH_done (by kernel_rfl) ?_ _
        clear hHeld
        refine NoPanic.normal ?_
        go_wp2_with fail
        go_meet
        exact ⟨q4, q6, m, jj, c, p, rfl, rfl, rfl, A4'.out, SG.out.2, SG.out.1, KF.out⟩
    · go_simp
      refine hK.out _ _ ?_ (fun hHeld => ?_)
      · exact ⟨(SD.out.mono (bel_up _ _)).p.cells.1, (SD.out.mono (bel_up _ _)).p.cells.2.1⟩
      clear hK K
      try simp only [Act.put, List.setIfInBounds_toArray, List.set_cons_zero, List.set_cons_succ]
      have SQ : Hid _ := SD.out.mono (bel_up WD (.cells #[.int .u64 0, .int .u64 0, .int .u64 0, .int .u64 0] 32))
      have A4 : Hid (AtV (WD.alloc (.cells #[.int .u64 0, .int .u64 0, .int .u64 0, .int .u64 0] 32)) WD.heap.size #[.int .u64 0, .int .u64 0, .int .u64 0, .int .u64 0] 32) := AtV.new _ _ _
      have H4 : Hid (w.heap.size < WD.heap.size) := SD.out.e.lt
      clear SD
      have SD : Hid _ := SQ.out
      clear SQ
      obtain ⟨WA4, hWA⟩ : ∃ WA, WD.alloc (.cells #[.int .u64 0, .int .u64 0, .int .u64 0, .int .u64 0] 32) = WA := ⟨_, rfl⟩
      obtain ⟨q4, hq⟩ : ∃ q, WD.heap.size = q := ⟨_, rfl⟩
      rw [hWA, hq] at A4
      rw [hWA] at SD
      rw [hq] at H4
      rw [hWA] at hHeld
      rw [hWA, hq]
      clear hWA hq
      refine wpAnyH_ready (rs := [8, 14]) (by kernel_rfl) (by simp) ?_
      refine AllReadyH.cons (o := { dst := _, op := _, type := _, pos := _, after := _, guard := _ }) rfl (fun K hK => ?_) (AllReadyH.cons (o := { dst := _, op := _, type := _, pos := _, after := _, guard := _ }) rfl (fun K hK => ?_) (AllReadyH.nil))
      · go_simp
        refine (EE.out _).mono ?_
        intro e wq hkr
        obtain ⟨m, jj, c, p, rfl, hkf, hbq⟩ := kres_form hkr
        have KF : Hid _ := hkf
        have SQ : Hid _ := SD.out.mono hbq
        clear SD
        have SD : Hid _ := SQ.out
        clear SQ hkr hkf
        have AX : Hid _ := A4.out.mono hbq
        clear A4
        have A4 : Hid _ := AX.out
        clear AX
        clear hbq
        go_wp2_with fail
        refine hK.out _ _ ?_ (fun hHeld => ?_)
        · exact ⟨SD.out.p.cells.1, SD.out.p.cells.2.1⟩
        clear hK K
        try simp only [Act.put, List.setIfInBounds_toArray, List.set_cons_zero, List.set_cons_succ]
        refine wpAnyH_take (i := 9) (oi := { dst := _, op := _, type := _, pos := _, after := _, guard := _ }) (v := ?_) rfl (by kernel_rfl) (by kernel_rfl) (by kernel_rfl) (fun _ _ _ h => h) (Or.inl ⟨by rfl, ?_⟩) (by assumption) ?_
        rotate_left
        · intro W hSw
          (try dsimp only at hSw)
          go_simp
          (try with_reducible rfl)
        try simp only [Act.put, List.setIfInBounds_toArray, List.set_cons_zero, List.set_cons_succ]
        refine wpAnyH_take (i := 10) (oi := { dst := _, op := _, type := _, pos := _, after := _, guard := _ }) (v := ?_) rfl (by kernel_rfl) (by kernel_rfl) (by kernel_rfl) (fun _ _ _ h => h) (Or.inl ⟨by rfl, ?_⟩) (by assumption) ?_
        rotate_left
        · intro W hSw
          (try dsimp only at hSw)
          go_simp
          (try with_reducible rfl)
        try simp only [Act.put, List.setIfInBounds_toArray, List.set_cons_zero, List.set_cons_succ]
        refine wpAnyH_take (i := 11) (oi := { dst := _, op := _, type := _, pos := _, after := _, guard := _ }) (v := ?_) rfl (by kernel_rfl) (by kernel_rfl) (by kernel_rfl) (fun _ _ _ h => h) (Or.inl ⟨by rfl, ?_⟩) (by assumption) ?_
        rotate_left
        · intro W hSw
          (try dsimp only at hSw)
          go_simp
          (try with_reducible rfl)
        try simp only [Act.put, List.setIfInBounds_toArray, List.set_cons_zero, List.set_cons_succ]
        refine wpAnyH_take (i := 12) (oi := { dst := _, op := _, type := _, pos := _, after := _, guard := _ }) (v := ?_) rfl (by kernel_rfl) (by kernel_rfl) (by kernel_rfl) (fun _ _ _ h => h) (Or.inl ⟨by rfl, ?_⟩) (by assumption) ?_
        rotate_left
        · intro W hSw
          (try dsimp only at hSw)
          go_simp
          (try with_reducible rfl)
        try simp only [Act.put, List.setIfInBounds_toArray, List.set_cons_zero, List.set_cons_succ]
        refine wpAnyH_ready (rs := [14]) (by kernel_rfl) (by simp) ?_
        refine AllReadyH.cons (o := { dst := _, op := _, type := _, pos := _, after := _, guard := _ }) rfl (fun K hK => ?_) AllReadyH.nil
        go_simp
        refine hK.out _ _ ?_ (fun hHeld => ?_)
        · exact ⟨(SD.out.mono (bel_up _ _)).p.cells.1, (SD.out.mono (bel_up _ _)).p.cells.2.1⟩
        clear hK K
        try simp only [Act.put, List.setIfInBounds_toArray, List.set_cons_zero, List.set_cons_succ]
        have SQ : Hid _ := SD.out.mono (bel_up wq (.cells #[.int .i64 0, .int .i64 0] 66))
        have A6 : Hid (AtV (wq.alloc (.cells #[.int .i64 0, .int .i64 0] 66)) wq.heap.size #[.int .i64 0, .int .i64 0] 66) := AtV.new _ _ _
        have H6 : Hid (w.heap.size < wq.heap.size) := SD.out.e.lt
        clear SD
        have SD : Hid _ := SQ.out
        clear SQ
        have HD : Hid (q4 < wq.heap.size) := A4.out.lt
        have AX : Hid _ := A4.out.mono (bel_up wq (.cells #[.int .i64 0, .int .i64 0] 66))
        clear A4
        have A4 : Hid _ := AX.out
        clear AX
        obtain ⟨WA6, hWA⟩ : ∃ WA, wq.alloc (.cells #[.int .i64 0, .int .i64 0] 66) = WA := ⟨_, rfl⟩
        obtain ⟨q6, hq⟩ : ∃ q, wq.heap.size = q := ⟨_, rfl⟩
        rw [hWA, hq] at A6
        rw [hWA] at SD
        rw [hq] at H6
        rw [hWA] at hHeld
        rw [hWA, hq]
        rw [hWA] at A4
        rw [hq] at HD
        clear hWA hq
        refine wpAnyH_ready (rs := [15]) (by kernel_rfl) (by simp) ?_
        refine AllReadyH.cons (o := { dst := _, op := _, type := _, pos := _, after := _, guard := _ }) rfl (fun K hK => ?_) AllReadyH.nil
        obtain ⟨r0, r1, r2, r3, rf⟩ := A4.out.c4
        have ND : Hid (q6 ≠ q4) := by
          have := HD.out
          exact (by omega : q6 ≠ q4)
        have N4 : Hid (q4 ≠ b ∧ q4 ≠ gg ∧ w.heap.size ≠ q4) := by
          have := SD.out.p.lt
          have := H4.out
          have := HLT.out
          exact ⟨by omega, by omega, by omega⟩
        have N6 : Hid (q6 ≠ b ∧ q6 ≠ gg ∧ w.heap.size ≠ q6) := by
          have := SD.out.p.lt
          have := H6.out
          have := HLT.out
          exact ⟨by omega, by omega, by omega⟩
        have SF : Hid _ := St.put4 SD.out A4.out N4.out (by decide) (.int .u64 (wd m 0 : Nat)) (.int .u64 (wd m 1 : Nat)) (.int .u64 (wd m 2 : Nat)) (.int .u64 (wd m 3 : Nat)) (Nat.le_of_lt H4.out)
        have A6' : Hid _ := A6.out.put4 ND.out (.int .u64 (wd m 0 : Nat)) (.int .u64 (wd m 1 : Nat)) (.int .u64 (wd m 2 : Nat)) (.int .u64 (wd m 3 : Nat))
        go_simp
        refine hK.out _ _ ?_ (fun hHeld => ?_)
        · exact ⟨SF.out.1.p.cells.1, SF.out.1.p.cells.2.1⟩
        clear hK K r0 r1 r2 r3 rf
        try simp only [Act.put, List.setIfInBounds_toArray, List.set_cons_zero, List.set_cons_succ]
        refine wpAnyH_take (i := 16) (oi := { dst := _, op := _, type := _, pos := _, after := _, guard := _ }) (v := ?_) rfl (by kernel_rfl) (by kernel_rfl) (by kernel_rfl) (fun _ _ _ h => h) (Or.inl ⟨by rfl, ?_⟩) (by assumption) ?_
        rotate_left
        · intro W hSw
          (try dsimp only at hSw)
          go_simp
          (try with_reducible rfl)
        try simp only [Act.put, List.setIfInBounds_toArray, List.set_cons_zero, List.set_cons_succ]
        refine wpAnyH_ready (rs := [17]) (by kernel_rfl) (by simp) ?_
        refine AllReadyH.cons (o := { dst := _, op := _, type := _, pos := _, after := _, guard := _ }) rfl (fun K hK => ?_) AllReadyH.nil
        obtain ⟨r0, r1, rf⟩ := A6'.out.c2
        have SG : Hid _ := St.put2 SF.out.1 A6'.out N6.out (by decide) (.int .i64 c) (.int .i64 p) (Nat.le_of_lt H6.out)
        have A4' : Hid _ := (SF.out.2.aside (fun e => ND.out e.symm) 0 (.int .i64 c)).aside (fun e => ND.out e.symm) 1 (.int .i64 p)
        go_simp
        refine hK.out _ _ ?_ (fun hHeld => ?_)
        · exact ⟨SG.out.1.p.cells.1, SG.out.1.p.cells.2.1⟩
        clear hK K
        try simp only [Act.put, List.setIfInBounds_toArray, List.set_cons_zero, List.set_cons_succ]
        refine wpAnyH_done (by kernel_rfl) ?_ _
        clear hHeld
        refine NoPanic.normal ?_
        go_wp2_with fail
        go_meet
        exact ⟨q4, q6, m, jj, c, p, rfl, rfl, rfl, A4'.out, SG.out.2, SG.out.1, KF.out⟩
      · go_simp
        refine hK.out _ _ ?_ (fun hHeld => ?_)
        · exact ⟨(SD.out.mono (bel_up _ _)).p.cells.1, (SD.out.mono (bel_up _ _)).p.cells.2.1⟩
        clear hK K
        try simp only [Act.put, List.setIfInBounds_toArray, List.set_cons_zero, List.set_cons_succ]
        have SQ : Hid _ := SD.out.mono (bel_up WA4 (.cells #[.int .i64 0, .int .i64 0] 66))
        have A6 : Hid (AtV (WA4.alloc (.cells #[.int .i64 0, .int .i64 0] 66)) WA4.heap.size #[.int .i64 0, .int .i64 0] 66) := AtV.new _ _ _
        have H6 : Hid (w.heap.size < WA4.heap.size) := SD.out.e.lt
        clear SD
        have SD : Hid _ := SQ.out
        clear SQ
        have HD : Hid (q4 < WA4.heap.size) := A4.out.lt
        have AX : Hid _ := A4.out.mono (bel_up WA4 (.cells #[.int .i64 0, .int .i64 0] 66))
        clear A4
        have A4 : Hid _ := AX.out
        clear AX
        obtain ⟨WA6, hWA⟩ : ∃ WA, WA4.alloc (.cells #[.int .i64 0, .int .i64 0] 66) = WA := ⟨_, rfl⟩
        obtain ⟨q6, hq⟩ : ∃ q, WA4.heap.size = q := ⟨_, rfl⟩
        rw [hWA, hq] at A6
        rw [hWA] at SD
        rw [hq] at H6
        rw [hWA] at hHeld
        rw [hWA, hq]
        rw [hWA] at A4
        rw [hq] at HD
        clear hWA hq
        refine wpAnyH_ready (rs := [8]) (by kernel_rfl) (by simp) ?_
        refine AllReadyH.cons (o := { dst := _, op := _, type := _, pos := _, after := _, guard := _ }) rfl (fun K hK => ?_) AllReadyH.nil
        go_simp
        refine (EE.out _).mono ?_
        intro e wq hkr
        obtain ⟨m, jj, c, p, rfl, hkf, hbq⟩ := kres_form hkr
        have KF : Hid _ := hkf
        have SQ : Hid _ := SD.out.mono hbq
        clear SD
        have SD : Hid _ := SQ.out
        clear SQ hkr hkf
        have AX : Hid _ := A4.out.mono hbq
        clear A4
        have A4 : Hid _ := AX.out
        clear AX
        have AX : Hid _ := A6.out.mono hbq
        clear A6
        have A6 : Hid _ := AX.out
        clear AX
        clear hbq
        go_wp2_with fail
        refine hK.out _ _ ?_ (fun hHeld => ?_)
        · exact ⟨SD.out.p.cells.1, SD.out.p.cells.2.1⟩
        clear hK K
        try simp only [Act.put, List.setIfInBounds_toArray, List.set_cons_zero, List.set_cons_succ]
        refine wpAnyH_take (i := 9) (oi := { dst := _, op := _, type := _, pos := _, after := _, guard := _ }) (v := ?_) rfl (by kernel_rfl) (by kernel_rfl) (by kernel_rfl) (fun _ _ _ h => h) (Or.inl ⟨by rfl, ?_⟩) (by assumption) ?_
        rotate_left
        · intro W hSw
          (try dsimp only at hSw)
          go_simp
          (try with_reducible rfl)
        try simp only [Act.put, List.setIfInBounds_toArray, List.set_cons_zero, List.set_cons_succ]
        refine wpAnyH_take (i := 10) (oi := { dst := _, op := _, type := _, pos := _, after := _, guard := _ }) (v := ?_) rfl (by kernel_rfl) (by kernel_rfl) (by kernel_rfl) (fun _ _ _ h => h) (Or.inl ⟨by rfl, ?_⟩) (by assumption) ?_
        rotate_left
        · intro W hSw
          (try dsimp only at hSw)
          go_simp
          (try with_reducible rfl)
        try simp only [Act.put, List.setIfInBounds_toArray, List.set_cons_zero, List.set_cons_succ]
        refine wpAnyH_take (i := 11) (oi := { dst := _, op := _, type := _, pos := _, after := _, guard := _ }) (v := ?_) rfl (by kernel_rfl) (by kernel_rfl) (by kernel_rfl) (fun _ _ _ h => h) (Or.inl ⟨by rfl, ?_⟩) (by assumption) ?_
        rotate_left
        · intro W hSw
          (try dsimp only at hSw)
          go_simp
          (try with_reducible rfl)
        try simp only [Act.put, List.setIfInBounds_toArray, List.set_cons_zero, List.set_cons_succ]
        refine wpAnyH_take (i := 12) (oi := { dst := _, op := _, type := _, pos := _, after := _, guard := _ }) (v := ?_) rfl (by kernel_rfl) (by kernel_rfl) (by kernel_rfl) (fun _ _ _ h => h) (Or.inl ⟨by rfl, ?_⟩) (by assumption) ?_
        rotate_left
        · intro W hSw
          (try dsimp only at hSw)
          go_simp
          (try with_reducible rfl)
        try simp only [Act.put, List.setIfInBounds_toArray, List.set_cons_zero, List.set_cons_succ]
        refine wpAnyH_ready (rs := [15]) (by kernel_rfl) (by simp) ?_
        refine AllReadyH.cons (o := { dst := _, op := _, type := _, pos := _, after := _, guard := _ }) rfl (fun K hK => ?_) AllReadyH.nil
        obtain ⟨r0, r1, r2, r3, rf⟩ := A4.out.c4
        have ND : Hid (q6 ≠ q4) := by
          have := HD.out
          exact (by omega : q6 ≠ q4)
        have N4 : Hid (q4 ≠ b ∧ q4 ≠ gg ∧ w.heap.size ≠ q4) := by
          have := SD.out.p.lt
          have := H4.out
          have := HLT.out
          exact ⟨by omega, by omega, by omega⟩
        have N6 : Hid (q6 ≠ b ∧ q6 ≠ gg ∧ w.heap.size ≠ q6) := by
          have := SD.out.p.lt
          have := H6.out
          have := HLT.out
          exact ⟨by omega, by omega, by omega⟩
        have SF : Hid _ := St.put4 SD.out A4.out N4.out (by decide) (.int .u64 (wd m 0 : Nat)) (.int .u64 (wd m 1 : Nat)) (.int .u64 (wd m 2 : Nat)) (.int .u64 (wd m 3 : Nat)) (Nat.le_of_lt H4.out)
        have A6' : Hid _ := A6.out.put4 ND.out (.int .u64 (wd m 0 : Nat)) (.int .u64 (wd m 1 : Nat)) (.int .u64 (wd m 2 : Nat)) (.int .u64 (wd m 3 : Nat))
        go_simp
        refine hK.out _ _ ?_ (fun hHeld => ?_)
        · exact ⟨SF.out.1.p.cells.1, SF.out.1.p.cells.2.1⟩
        clear hK K r0 r1 r2 r3 rf
        try simp only [Act.put, List.setIfInBounds_toArray, List.set_cons_zero, List.set_cons_succ]
        refine wpAnyH_take (i := 16) (oi := { dst := _, op := _, type := _, pos := _, after := _, guard := _ }) (v := ?_) rfl (by kernel_rfl) (by kernel_rfl) (by kernel_rfl) (fun _ _ _ h => h) (Or.inl ⟨by rfl, ?_⟩) (by assumption) ?_
        rotate_left
        · intro W hSw
          (try dsimp only at hSw)
          go_simp
          (try with_reducible rfl)
        try simp only [Act.put, List.setIfInBounds_toArray, List.set_cons_zero, List.set_cons_succ]
        refine wpAnyH_ready (rs := [17]) (by kernel_rfl) (by simp) ?_
        refine AllReadyH.cons (o := { dst := _, op := _, type := _, pos := _, after := _, guard := _ }) rfl (fun K hK => ?_) AllReadyH.nil
        obtain ⟨r0, r1, rf⟩ := A6'.out.c2
        have SG : Hid _ := St.put2 SF.out.1 A6'.out N6.out (by decide) (.int .i64 c) (.int .i64 p) (Nat.le_of_lt H6.out)
        have A4' : Hid _ := (SF.out.2.aside (fun e => ND.out e.symm) 0 (.int .i64 c)).aside (fun e => ND.out e.symm) 1 (.int .i64 p)
        go_simp
        refine hK.out _ _ ?_ (fun hHeld => ?_)
        · exact ⟨SG.out.1.p.cells.1, SG.out.1.p.cells.2.1⟩
        clear hK K
        try simp only [Act.put, List.setIfInBounds_toArray, List.set_cons_zero, List.set_cons_succ]
        refine wpAnyH_done (by kernel_rfl) ?_ _
        clear hHeld
        refine NoPanic.normal ?_
        go_wp2_with fail
        go_meet
        exact ⟨q4, q6, m, jj, c, p, rfl, rfl, rfl, A4'.out, SG.out.2, SG.out.1, KF.out⟩
    · go_simp
      refine hK.out _ _ ?_ (fun hHeld => ?_)
      · exact ⟨(SD.out.mono (bel_up _ _)).p.cells.1, (SD.out.mono (bel_up _ _)).p.cells.2.1⟩
      clear hK K
      try simp only [Act.put, List.setIfInBounds_toArray, List.set_cons_zero, List.set_cons_succ]
      have SQ : Hid _ := SD.out.mono (bel_up WD (.cells #[.int .i64 0, .int .i64 0] 66))
      have A6 : Hid (AtV (WD.alloc (.cells #[.int .i64 0, .int .i64 0] 66)) WD.heap.size #[.int .i64 0, .int .i64 0] 66) := AtV.new _ _ _
      have H6 : Hid (w.heap.size < WD.heap.size) := SD.out.e.lt
      clear SD
      have SD : Hid _ := SQ.out
      clear SQ
      obtain ⟨WA6, hWA⟩ : ∃ WA, WD.alloc (.cells #[.int .i64 0, .int .i64 0] 66) = WA := ⟨_, rfl⟩
      obtain ⟨q6, hq⟩ : ∃ q, WD.heap.size = q := ⟨_, rfl⟩
      rw [hWA, hq] at A6
      rw [hWA] at SD
      rw [hq] at H6
      rw [hWA] at hHeld
      rw [hWA, hq]
      clear hWA hq
      refine wpAnyH_ready (rs := [8, 13]) (by kernel_rfl) (by simp) ?_
      refine AllReadyH.cons (o := { dst := _, op := _, type := _, pos := _, after := _, guard := _ }) rfl (fun K hK => ?_) (AllReadyH.cons (o := { dst := _, op := _, type := _, pos := _, after := _, guard := _ }) rfl (fun K hK => ?_) (AllReadyH.nil))
      · go_simp
        refine (EE.out _).mono ?_
        intro e wq hkr
        obtain ⟨m, jj, c, p, rfl, hkf, hbq⟩ := kres_form hkr
        have KF : Hid _ := hkf
        have SQ : Hid _ := SD.out.mono hbq
        clear SD
        have SD : Hid _ := SQ.out
        clear SQ hkr hkf
        have AX : Hid _ := A6.out.mono hbq
        clear A6
        have A6 : Hid _ := AX.out
        clear AX
        clear hbq
        go_wp2_with fail
        refine hK.out _ _ ?_ (fun hHeld => ?_)
        · exact ⟨SD.out.p.cells.1, SD.out.p.cells.2.1⟩
        clear hK K
        try simp only [Act.put, List.setIfInBounds_toArray, List.set_cons_zero, List.set_cons_succ]
        refine wpAnyH_take (i := 9) (oi := { dst := _, op := _, type := _, pos := _, after := _, guard := _ }) (v := ?_) rfl (by kernel_rfl) (by kernel_rfl) (by kernel_rfl) (fun _ _ _ h => h) (Or.inl ⟨by rfl, ?_⟩) (by assumption) ?_
        rotate_left
        · intro W hSw
          (try dsimp only at hSw)
          go_simp
          (try with_reducible rfl)
        try simp only [Act.put, List.setIfInBounds_toArray, List.set_cons_zero, List.set_cons_succ]
        refine wpAnyH_take (i := 10) (oi := { dst := _, op := _, type := _, pos := _, after := _, guard := _ }) (v := ?_) rfl (by kernel_rfl) (by kernel_rfl) (by kernel_rfl) (fun _ _ _ h => h) (Or.inl ⟨by rfl, ?_⟩) (by assumption) ?_
        rotate_left
        · intro W hSw
          (try dsimp only at hSw)
          go_simp
          (try with_reducible rfl)
        try simp only [Act.put, List.setIfInBounds_toArray, List.set_cons_zero, List.set_cons_succ]
        refine wpAnyH_take (i := 11) (oi := { dst := _, op := _, type := _, pos := _, after := _, guard := _ }) (v := ?_) rfl (by kernel_rfl) (by kernel_rfl) (by kernel_rfl) (fun _ _ _ h => h) (Or.inl ⟨by rfl, ?_⟩) (by assumption) ?_
        rotate_left
        · intro W hSw
          (try dsimp only at hSw)
          go_simp
          (try with_reducible rfl)
        try simp only [Act.put, List.setIfInBounds_toArray, List.set_cons_zero, List.set_cons_succ]
        refine wpAnyH_take (i := 12) (oi := { dst := _, op := _, type := _, pos := _, after := _, guard := _ }) (v := ?_) rfl (by kernel_rfl) (by kernel_rfl) (by kernel_rfl) (fun _ _ _ h => h) (Or.inl ⟨by rfl, ?_⟩) (by assumption) ?_
        rotate_left
        · intro W hSw
          (try dsimp only at hSw)
          go_simp
          (try with_reducible rfl)
        try simp only [Act.put, List.setIfInBounds_toArray, List.set_cons_zero, List.set_cons_succ]
        refine wpAnyH_ready (rs := [13]) (by kernel_rfl) (by simp) ?_
        refine AllReadyH.cons (o := { dst := _, op := _, type := _, pos := _, after := _, guard := _ }) rfl (fun K hK => ?_) AllReadyH.nil
        go_simp
        refine hK.out _ _ ?_ (fun hHeld => ?_)
        · exact ⟨(SD.out.mono (bel_up _ _)).p.cells.1, (SD.out.mono (bel_up _ _)).p.cells.2.1⟩
        clear hK K
        try simp only [Act.put, List.setIfInBounds_toArray, List.set_cons_zero, List.set_cons_succ]
        have SQ : Hid _ := SD.out.mono (bel_up wq (.cells #[.int .u64 0, .int .u64 0, .int .u64 0, .int .u64 0] 32))
        have A4 : Hid (AtV (wq.alloc (.cells #[.int .u64 0, .int .u64 0, .int .u64 0, .int .u64 0] 32)) wq.heap.size #[.int .u64 0, .int .u64 0, .int .u64 0, .int .u64 0] 32) := AtV.new _ _ _
        have H4 : Hid (w.heap.size < wq.heap.size) := SD.out.e.lt
        clear SD
        have SD : Hid _ := SQ.out
        clear SQ
        have HD : Hid (q6 < wq.heap.size) := A6.out.lt
        have AX : Hid _ := A6.out.mono (bel_up wq (.cells #[.int .u64 0, .int .u64 0, .int .u64 0, .int .u64 0] 32))
        clear A6
        have A6 : Hid _ := AX.out
        clear AX
        obtain ⟨WA4, hWA⟩ : ∃ WA, wq.alloc (.cells #[.int .u64 0, .int .u64 0, .int .u64 0, .int .u64 0] 32) = WA := ⟨_, rfl⟩
        obtain ⟨q4, hq⟩ : ∃ q, wq.heap.size = q := ⟨_, rfl⟩
        rw [hWA, hq] at A4
        rw [hWA] at SD
        rw [hq] at H4
        rw [hWA] at hHeld
        rw [hWA, hq]
        rw [hWA] at A6
        rw [hq] at HD
        clear hWA hq
        refine wpAnyH_ready (rs := [15]) (by kernel_rfl) (by simp) ?_
        refine AllReadyH.cons (o := { dst := _, op := _, type := _, pos := _, after := _, guard := _ }) rfl (fun K hK => ?_) AllReadyH.nil
        obtain ⟨r0, r1, r2, r3, rf⟩ := A4.out.c4
        have ND : Hid (q6 ≠ q4) := by
          have := HD.out
          exact (by omega : q6 ≠ q4)
        have N4 : Hid (q4 ≠ b ∧ q4 ≠ gg ∧ w.heap.size ≠ q4) := by
          have := SD.out.p.lt
          have := H4.out
          have := HLT.out
          exact ⟨by omega, by omega, by omega⟩
        have N6 : Hid (q6 ≠ b ∧ q6 ≠ gg ∧ w.heap.size ≠ q6) := by
          have := SD.out.p.lt
          have := H6.out
          have := HLT.out
          exact ⟨by omega, by omega, by omega⟩
        have SF : Hid _ := St.put4 SD.out A4.out N4.out (by decide) (.int .u64 (wd m 0 : Nat)) (.int .u64 (wd m 1 : Nat)) (.int .u64 (wd m 2 : Nat)) (.int .u64 (wd m 3 : Nat)) (Nat.le_of_lt H4.out)
        have A6' : Hid _ := A6.out.put4 ND.out (.int .u64 (wd m 0 : Nat)) (.int .u64 (wd m 1 : Nat)) (.int .u64 (wd m 2 : Nat)) (.int .u64 (wd m 3 : Nat))
        go_simp
        refine hK.out _ _ ?_ (fun hHeld => ?_)
        · exact ⟨SF.out.1.p.cells.1, SF.out.1.p.cells.2.1⟩
        clear hK K r0 r1 r2 r3 rf
        try simp only [Act.put, List.setIfInBounds_toArray, List.set_cons_zero, List.set_cons_succ]
        refine wpAnyH_take (i := 16) (oi := { dst := _, op := _, type := _, pos := _, after := _, guard := _ }) (v := ?_) rfl (by kernel_rfl) (by kernel_rfl) (by kernel_rfl) (fun _ _ _ h => h) (Or.inl ⟨by rfl, ?_⟩) (by assumption) ?_
        rotate_left
        · intro W hSw
          (try dsimp only at hSw)
          go_simp
          (try with_reducible rfl)
        try simp only [Act.put, List.setIfInBounds_toArray, List.set_cons_zero, List.set_cons_succ]
        refine wpAnyH_ready (rs := [17]) (by kernel_rfl) (by simp) ?_
        refine AllReadyH.cons (o := { dst := _, op := _, type := _, pos := _, after := _, guard := _ }) rfl (fun K hK => ?_) AllReadyH.nil
        obtain ⟨r0, r1, rf⟩ := A6'.out.c2
        have SG : Hid _ := St.put2 SF.out.1 A6'.out N6.out (by decide) (.int .i64 c) (.int .i64 p) (Nat.le_of_lt H6.out)
        have A4' : Hid _ := (SF.out.2.aside (fun e => ND.out e.symm) 0 (.int .i64 c)).aside (fun e => ND.out e.symm) 1 (.int .i64 p)
        go_simp
        refine hK.out _ _ ?_ (fun hHeld => ?_)
        · exact ⟨SG.out.1.p.cells.1, SG.out.1.p.cells.2.1⟩
        clear hK K
        try simp only [Act.put, List.setIfInBounds_toArray, List.set_cons_zero, List.set_cons_succ]
        refine wpAnyH_done (by kernel_rfl) ?_ _
        clear hHeld
        refine NoPanic.normal ?_
        go_wp2_with fail
        go_meet
        exact ⟨q4, q6, m, jj, c, p, rfl, rfl, rfl, A4'.out, SG.out.2, SG.out.1, KF.out⟩
      · go_simp
        refine hK.out _ _ ?_ (fun hHeld => ?_)
        · exact ⟨(SD.out.mono (bel_up _ _)).p.cells.1, (SD.out.mono (bel_up _ _)).p.cells.2.1⟩
        clear hK K
        try simp only [Act.put, List.setIfInBounds_toArray, List.set_cons_zero, List.set_cons_succ]
        have SQ : Hid _ := SD.out.mono (bel_up WA6 (.cells #[.int .u64 0, .int .u64 0, .int .u64 0, .int .u64 0] 32))
        have A4 : Hid (AtV (WA6.alloc (.cells #[.int .u64 0, .int .u64 0, .int .u64 0, .int .u64 0] 32)) WA6.heap.size #[.int .u64 0, .int .u64 0, .int .u64 0, .int .u64 0] 32) := AtV.new _ _ _
        have H4 : Hid (w.heap.size < WA6.heap.size) := SD.out.e.lt
        clear SD
        have SD : Hid _ := SQ.out
        clear SQ
        have HD : Hid (q6 < WA6.heap.size) := A6.out.lt
        have AX : Hid _ := A6.out.mono (bel_up WA6 (.cells #[.int .u64 0, .int .u64 0, .int .u64 0, .int .u64 0] 32))
        clear A6
        have A6 : Hid _ := AX.out
        clear AX
        obtain ⟨WA4, hWA⟩ : ∃ WA, WA6.alloc (.cells #[.int .u64 0, .int .u64 0, .int .u64 0, .int .u64 0] 32) = WA := ⟨_, rfl⟩
        obtain ⟨q4, hq⟩ : ∃ q, WA6.heap.size = q := ⟨_, rfl⟩
        rw [hWA, hq] at A4
        rw [hWA] at SD
        rw [hq] at H4
        rw [hWA] at hHeld
        rw [hWA, hq]
        rw [hWA] at A6
        rw [hq] at HD
        clear hWA hq
        refine wpAnyH_ready (rs := [8]) (by kernel_rfl) (by simp) ?_
        refine AllReadyH.cons (o := { dst := _, op := _, type := _, pos := _, after := _, guard := _ }) rfl (fun K hK => ?_) AllReadyH.nil
        go_simp
        refine (EE.out _).mono ?_
        intro e wq hkr
        obtain ⟨m, jj, c, p, rfl, hkf, hbq⟩ := kres_form hkr
        have KF : Hid _ := hkf
        have SQ : Hid _ := SD.out.mono hbq
        clear SD
        have SD : Hid _ := SQ.out
        clear SQ hkr hkf
        have AX : Hid _ := A4.out.mono hbq
        clear A4
        have A4 : Hid _ := AX.out
        clear AX
        have AX : Hid _ := A6.out.mono hbq
        clear A6
        have A6 : Hid _ := AX.out
        clear AX
        clear hbq
        go_wp2_with fail
        refine hK.out _ _ ?_ (fun hHeld => ?_)
        · exact ⟨SD.out.p.cells.1, SD.out.p.cells.2.1⟩
        clear hK K
        try simp only [Act.put, List.setIfInBounds_toArray, List.set_cons_zero, List.set_cons_succ]
        refine wpAnyH_take (i := 9) (oi := { dst := _, op := _, type := _, pos := _, after := _, guard := _ }) (v := ?_) rfl (by kernel_rfl) (by kernel_rfl) (by kernel_rfl) (fun _ _ _ h => h) (Or.inl ⟨by rfl, ?_⟩) (by assumption) ?_
        rotate_left
        · intro W hSw
          (try dsimp only at hSw)
          go_simp
          (try with_reducible rfl)
        try simp only [Act.put, List.setIfInBounds_toArray, List.set_cons_zero, List.set_cons_succ]
        refine wpAnyH_take (i := 10) (oi := { dst := _, op := _, type := _, pos := _, after := _, guard := _ }) (v := ?_) rfl (by kernel_rfl) (by kernel_rfl) (by kernel_rfl) (fun _ _ _ h => h) (Or.inl ⟨by rfl, ?_⟩) (by assumption) ?_
        rotate_left
        · intro W hSw
          (try dsimp only at hSw)
          go_simp
          (try with_reducible rfl)
        try simp only [Act.put, List.setIfInBounds_toArray, List.set_cons_zero, List.set_cons_succ]
        refine wpAnyH_take (i := 11) (oi := { dst := _, op := _, type := _, pos := _, after := _, guard := _ }) (v := ?_) rfl (by kernel_rfl) (by kernel_rfl) (by kernel_rfl) (fun _ _ _ h => h) (Or.inl ⟨by rfl, ?_⟩) (by assumption) ?_
        rotate_left
        · intro W hSw
          (try dsimp only at hSw)
          go_simp
          (try with_reducible rfl)
        try simp only [Act.put, List.setIfInBounds_toArray, List.set_cons_zero, List.set_cons_succ]
        refine wpAnyH_take (i := 12) (oi := { dst := _, op := _, type := _, pos := _, after := _, guard := _ }) (v := ?_) rfl (by kernel_rfl) (by kernel_rfl) (by kernel_rfl) (fun _ _ _ h => h) (Or.inl ⟨by rfl, ?_⟩) (by assumption) ?_
        rotate_left
        · intro W hSw
          (try dsimp only at hSw)
          go_simp
          (try with_reducible rfl)
        try simp only [Act.put, List.setIfInBounds_toArray, List.set_cons_zero, List.set_cons_succ]
        refine wpAnyH_ready (rs := [15]) (by kernel_rfl) (by simp) ?_
        refine AllReadyH.cons (o := { dst := _, op := _, type := _, pos := _, after := _, guard := _ }) rfl (fun K hK => ?_) AllReadyH.nil
        obtain ⟨r0, r1, r2, r3, rf⟩ := A4.out.c4
        have ND : Hid (q6 ≠ q4) := by
          have := HD.out
          exact (by omega : q6 ≠ q4)
        have N4 : Hid (q4 ≠ b ∧ q4 ≠ gg ∧ w.heap.size ≠ q4) := by
          have := SD.out.p.lt
          have := H4.out
          have := HLT.out
          exact ⟨by omega, by omega, by omega⟩
        have N6 : Hid (q6 ≠ b ∧ q6 ≠ gg ∧ w.heap.size ≠ q6) := by
          have := SD.out.p.lt
          have := H6.out
          have := HLT.out
          exact ⟨by omega, by omega, by omega⟩
        have SF : Hid _ := St.put4 SD.out A4.out N4.out (by decide) (.int .u64 (wd m 0 : Nat)) (.int .u64 (wd m 1 : Nat)) (.int .u64 (wd m 2 : Nat)) (.int .u64 (wd m 3 : Nat)) (Nat.le_of_lt H4.out)
        have A6' : Hid _ := A6.out.put4 ND.out (.int .u64 (wd m 0 : Nat)) (.int .u64 (wd m 1 : Nat)) (.int .u64 (wd m 2 : Nat)) (.int .u64 (wd m 3 : Nat))
        go_simp
        refine hK.out _ _ ?_ (fun hHeld => ?_)
        · exact ⟨SF.out.1.p.cells.1, SF.out.1.p.cells.2.1⟩
        clear hK K r0 r1 r2 r3 rf
        try simp only [Act.put, List.setIfInBounds_toArray, List.set_cons_zero, List.set_cons_succ]
        refine wpAnyH_take (i := 16) (oi := { dst := _, op := _, type := _, pos := _, after := _, guard := _ }) (v := ?_) rfl (by kernel_rfl) (by kernel_rfl) (by kernel_rfl) (fun _ _ _ h => h) (Or.inl ⟨by rfl, ?_⟩) (by assumption) ?_
        rotate_left
        · intro W hSw
          (try dsimp only at hSw)
          go_simp
          (try with_reducible rfl)
        try simp only [Act.put, List.setIfInBounds_toArray, List.set_cons_zero, List.set_cons_succ]
        refine wpAnyH_ready (rs := [17]) (by kernel_rfl) (by simp) ?_
        refine AllReadyH.cons (o := { dst := _, op := _, type := _, pos := _, after := _, guard := _ }) rfl (fun K hK => ?_) AllReadyH.nil
        obtain ⟨r0, r1, rf⟩ := A6'.out.c2
        have SG : Hid _ := St.put2 SF.out.1 A6'.out N6.out (by decide) (.int .i64 c) (.int .i64 p) (Nat.le_of_lt H6.out)
        have A4' : Hid _ := (SF.out.2.aside (fun e => ND.out e.symm) 0 (.int .i64 c)).aside (fun e => ND.out e.symm) 1 (.int .i64 p)
        go_simp
        refine hK.out _ _ ?_ (fun hHeld => ?_)
        · exact ⟨SG.out.1.p.cells.1, SG.out.1.p.cells.2.1⟩
        clear hK K
        try simp only [Act.put, List.setIfInBounds_toArray, List.set_cons_zero, List.set_cons_succ]
        refine wpAnyH_done (by kernel_rfl) ?_ _
        clear hHeld
        refine NoPanic.normal ?_
        go_wp2_with fail
        go_meet
        exact ⟨q4, q6, m, jj, c, p, rfl, rfl, rfl, A4'.out, SG.out.2, SG.out.1, KF.out⟩
  case rest =>
    obtain ⟨q4, q6, m, jj, c, p, rfl, rfl, rfl, a4, a6, s2, hkf⟩ := hcut
    have S2 : Hid _ := s2
    have A4 : Hid _ := a4
    have A6 : Hid _ := a6
    have KF : Hid (KFact s M.i m jj c p) := hkf
    clear a4 a6 s2 S1 EE hkf
    obtain ⟨q0, q1, q2, q3, qf⟩ := A4.out.c4
    obtain ⟨r0, r1, rf⟩ := A6.out.c2
    have hkf : KFact s M.i m jj c p := KF.out
    rcases hkf with ⟨j, hpc, hjj, hcc, hpp⟩ | ⟨k, hpc, hpp, hcc⟩
    · have HR : Hid _ := HOK.out _ _ hpc
      rw [hcc] at r0
      rw [hjj]
      clear hpc hjj hcc hpp KF
      go_wp2_with fail
      refine (rset_any B b gg cap s M m j _ S2.out.p HST.out HL.out).mono ?_
      rintro e w3 ⟨rfl, p3, f3⟩
      have P3 : Hid _ := p3
      have F3 : Hid _ := f3.toFR S2.out.p
      obtain ⟨e0, e1, ef⟩ := (S2.out.e.fg f3 S2.out.n1 S2.out.n2 (by decide)).c2
      clear p3 f3 q0 q1 q2 q3 qf r0 r1 rf
      go_wp2_with fail
      refine bodyPost_ret (v := errV 0 0) ?_ rfl (SRes.good HR.out ?_ ?_)
      · rw [results_cell1 rfl]; go_simp
      · exact (S2.out.fin HG.out P3.out.toR F3.out _ _).1
      · exact (S2.out.fin HG.out P3.out.toR F3.out _ _).2
    · have HR : Hid _ := HBAD.out _ hpc
      rw [hpp] at r1
      have hc0 : (c != 0) = true := by rw [bne_iff_ne]; exact hcc
      clear hpc hpp hcc KF
      obtain ⟨e0, e1, ef⟩ := S2.out.e.c2
      go_wp2_with fail
      refine bodyPost_ret (v := errV c (k : Int)) ?_ rfl (SRes.bad HR.out ?_)
      · rw [results_cell1 rfl]; go_simp
      · exact S2.out.err HG.out _ _
theorem step_any (B b gg cap : Nat) (s : ByteArray) (M : Mc) (w : World) (h : IsG B b gg cap s M w) (hst : M.st.length ≤ 128) (hl : M.out.length ≤ 2300000000000) (his : M.i < s.size) (hs : s.size ≤ 1099511627776) : RT B b s M w := by
  obtain ⟨x, hx⟩ : ∃ x, pk s M.i = x := ⟨_, rfl⟩
  cases hc : sg6.contains (UInt8.ofNat x) with
  | true => exact step_sign B b gg cap s M x hc w h hst hl his hs hx
  | false =>
    by_cases h1 : x = 91
    · exact step_class B b gg cap s M x hc h1 w h hst hl his hs hx
    by_cases h2 : x = 46
    · exact step_dot B b gg cap s M x hc h2 w h hst hl his hs hx
    by_cases h3 : x = 92
    · exact step_esc B b gg cap s M x hc h3 w h hst hl his hs hx
    by_cases h4 : x < 32
    · exact step_low B b gg cap s M x hc h1 h2 h3 h4 w h hst hl his hs hx
    by_cases h5 : 126 < x
    · exact step_high B b gg cap s M x hc h1 h2 h3 h5 w h hst hl his hs hx
    cases h6 : sgn.contains (UInt8.ofNat x) with
    | true => exact step_outs B b gg cap s M x hc h1 h2 h3 (by omega) (by omega) h6 w h hst hl his hs hx
    | false => exact step_plain B b gg cap s M x hc h1 h2 h3 (by omega) (by omega) h6 w h hst hl his hs hx
end Go.Proofs.Ytkjcnnecdclgfaa
