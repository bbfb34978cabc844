import Derived.Test.YtcfmpmhdjkchjaaTff
import Derived.Test.YtcfmpmhdjkchjaaTsh
namespace Go.Proofs.Ytcfmpmhdjkchjaa
open Go.RowKit Go.Maps

/-- A tree's text. -/
def on (t : List Nd) : Nat → Nat → List UInt8
  | 0, _ => []
  | N + 1, a => (bgg (t.getD a ndd) ++ ((List.range (kA (kds t) a)).flatMap fun j => 32 :: on t N (wA (kds t) (a + 1) j))) ++ cls (t.getD a ndd)
/-- Trees' texts, a blank ahead of each. -/
def sp (t : List Nd) (a i k : Nat) : List UInt8 := (List.range' i (k - i)).flatMap fun j => 32 :: on t t.length (wA (kds t) a j)
theorem on_fuel {t : List Nd} (hf : Fo (kds t)) : ∀ (N M a : Nat), a < t.length → t.length - a ≤ N → t.length - a ≤ M → on t N a = on t M a
  | 0, M, a, h, h1, h2 => by omega
  | N + 1, 0, a, h, h1, h2 => by omega
  | N + 1, M + 1, a, h, h1, h2 => by
    unfold on
    have hst := (hf.step a (by rw [kds_len]; exact h)).2.2.1
    have e : ((List.range (kA (kds t) a)).flatMap fun j => 32 :: on t N (wA (kds t) (a + 1) j)) = ((List.range (kA (kds t) a)).flatMap fun j => 32 :: on t M (wA (kds t) (a + 1) j)) := by
      rw [List.flatMap_def, List.flatMap_def]
      congr 1
      refine List.map_congr_left fun j hj => ?_
      have hj' := List.mem_range.1 hj
      have hl := hf.lt (a + 1) j (by rw [kds_len]; exact h) (by omega)
      have hg := (hf.end (a + 1) j (by rw [kds_len]; exact h) (by omega)).2.2
      rw [kds_len] at hl
      rw [on_fuel hf N M _ hl (by omega) (by omega)]
    rw [e]
theorem range_zero (k : Nat) : List.range k = List.range' 0 (k - 0) := by rw [List.range_eq_range', Nat.sub_zero]
theorem on_eq {t : List Nd} (hf : Fo (kds t)) (a : Nat) (h : a < t.length) : on t t.length a = (bgg (t.getD a ndd) ++ sp t (a + 1) 0 (kA (kds t) a)) ++ cls (t.getD a ndd) := by
  rw [on_fuel hf t.length (t.length + 1) a h (by omega) (by omega)]
  unfold on sp
  rw [range_zero]
theorem sp_nil (t : List Nd) (a k : Nat) : sp t a k k = [] := by unfold sp; rw [Nat.sub_self]; rfl
theorem sp_cons (t : List Nd) (a i k : Nat) (h : i < k) : sp t a i k = 32 :: (on t t.length (wA (kds t) a i) ++ sp t a (i + 1) k) := by
  unfold sp
  rw [show k - i = (k - (i + 1)) + 1 by omega, List.range'_succ, List.flatMap_cons]
  rfl
theorem sp_snoc (t : List Nd) (a k : Nat) : sp t a 0 (k + 1) = sp t a 0 k ++ 32 :: on t t.length (wA (kds t) a k) := by
  unfold sp
  rw [← range_zero, ← range_zero, List.range_succ, List.flatMap_append]
  simp
/-- The text of a list of nodes. -/
def doc (t : List Nd) : List UInt8 := match rt (kds t) with
  | none => []
  | some r => (sp t 0 0 r).drop 1
section
variable {t : List Nd} {K : List (Int × Int)}
theorem txI_mono : ∀ (f : Nat) (x : Int) (o : List UInt8) (z : Bool × Int × List UInt8) (g : Nat), txI t K f x o = some z → f ≤ g → txI t K g x o = some z
  | 0, x, o, z, g, h, _ => by cases h
  | f + 1, x, o, z, 0, h, hg => by omega
  | f + 1, x, o, z, g + 1, h, hg => by
    unfold txI at h ⊢
    split at h
    · next c => rw [if_pos c]; exact h
    · next c =>
      rw [if_neg c]
      split at h
      · next d => rw [if_pos d]; exact txI_mono f _ _ z g h (by omega)
      · next d => rw [if_neg d]; exact h
theorem tyO_mono {F G : Nat} (hF : F ≤ G) : ∀ (f : Nat) (x : Int) (o r : List UInt8) (g : Nat), tyO t K F f x o = some r → f ≤ g → tyO t K G g x o = some r
  | 0, x, o, r, g, h, _ => by cases h
  | f + 1, x, o, r, 0, h, hg => by omega
  | f + 1, x, o, r, g + 1, h, hg => by
    unfold tyO at h ⊢
    split at h
    · next c => rw [if_pos c]; exact tyO_mono hF f _ _ r g h (by omega)
    · next c =>
      rw [if_neg c]
      split at h
      · cases h
      · next y q e => rw [txI_mono _ _ _ _ G e hF]; exact tyO_mono hF f _ _ r g h (by omega)
      · next y q e => rw [txI_mono _ _ _ _ G e hF]; exact h
/-- The text comes to r, from a node's beginning. -/
def TT (t : List Nd) (K : List (Int × Int)) (x : Int) (o r : List UInt8) : Prop := ∃ F f, tyO t K F f x o = some r
/-- The text comes to r, from a node's end. -/
def II (t : List Nd) (K : List (Int × Int)) (x : Int) (o r : List UInt8) : Prop := ∃ g F f, (match txI t K g x o with
    | none => none
    | some (true, y, q) => tyO t K F f y (q ++ [32])
    | some (false, _, q) => some q) = some r
theorem TT.down {x : Int} {o r : List UInt8} (hg : goes (blw K x) = true) (h : TT t K (blw K x) ((o ++ bgg (ndA t x)) ++ [32]) r) : TT t K x o r := by
  obtain ⟨F, f, h⟩ := h
  exact ⟨F, f + 1, by unfold tyO; rw [if_pos hg]; exact h⟩
theorem TT.leaf {x : Int} {o r : List UInt8} (hg : ¬ goes (blw K x) = true) (h : II t K x ((o ++ bgg (ndA t x)) ++ cls (ndA t x)) r) : TT t K x o r := by
  obtain ⟨g, F, f, h⟩ := h
  refine ⟨g + F, f + 1, ?_⟩
  unfold tyO
  rw [if_neg hg]
  split at h
  · cases h
  · next y q e => rw [txI_mono _ _ _ _ (g + F) e (by omega)]; exact tyO_mono (by omega) f _ _ r f h (Nat.le_refl _)
  · next y q e => rw [txI_mono _ _ _ _ (g + F) e (by omega)]; exact h
theorem II.next {x : Int} {o r : List UInt8} (hg : goes (bsd K x) = true) (h : TT t K (bsd K x) (o ++ [32]) r) : II t K x o r := by
  obtain ⟨F, f, h⟩ := h
  refine ⟨1, F, f, ?_⟩
  unfold txI
  rw [if_pos hg]
  exact h
theorem II.up {x : Int} {o r : List UInt8} (hn : ¬ goes (bsd K x) = true) (hg : goes (abv K x) = true) (h : II t K (abv K x) (o ++ cls (ndA t (abv K x))) r) : II t K x o r := by
  obtain ⟨g, F, f, h⟩ := h
  refine ⟨g + 1, F, f, ?_⟩
  rw [show txI t K (g + 1) x o = txI t K g (abv K x) (o ++ cls (ndA t (abv K x))) by rw [txI, if_neg hn, if_pos hg]]
  exact h
theorem II.end {x : Int} {o : List UInt8} (hn : ¬ goes (bsd K x) = true) (hg : ¬ goes (abv K x) = true) : II t K x o o :=
  ⟨1, 0, 0, by rw [show txI t K 1 x o = some (false, x, o) by rw [txI, if_neg hn, if_neg hg]]⟩
end
/-- Behind trees beside one another. -/
def EE (t : List Nd) (P : Int) (z r : List UInt8) : Prop := (P = -1 ∧ r = z) ∨ ∃ p : Nat, P = (p : Int) ∧ p < t.length ∧ II t (kns t) (p : Int) (z ++ cls (t.getD p ndd)) r
theorem goes_nat (c : Nat) : goes (c : Int) = true := by unfold goes; rw [bne_iff_ne]; omega
theorem goes_m1 : ¬ goes (-1) = true := by decide
theorem rows_tt {t : List Nd} (hf : Fo (kds t)) {a k : Nat} {P : Int} (hs : Sib (kds t) a k P) (hT : ∀ i, i < k → ∀ o r, II t (kns t) ((wA (kds t) a i : Nat) : Int) (o ++ on t t.length (wA (kds t) a i)) r → TT t (kns t) ((wA (kds t) a i : Nat) : Int) o r) :
    ∀ (d i : Nat), i + d + 1 = k → ∀ o r, EE t P (o ++ (on t t.length (wA (kds t) a i) ++ sp t a (i + 1) k)) r → TT t (kns t) ((wA (kds t) a i : Nat) : Int) o r := by
  intro d
  induction d with
  | zero =>
    intro i hi o r hE
    have hik : i < k := by omega
    refine hT i hik o r ?_
    obtain ⟨s1, s2, s3, s4⟩ := hs.is hf
    have hl := hf.lt a i s1 (by omega)
    rw [kds_len] at hl
    have hnx := hs.next hf hik
    rw [if_neg (by omega)] at hnx
    have hb := kbsd hf _ hl
    have hp := s3 i hik
    rw [hp, if_neg (by rw [kds_len] at hnx; exact hnx)] at hb
    have ha := kabv hf _ hl
    rw [hp] at ha
    rw [show i + 1 = k by omega, sp_nil, List.append_nil] at hE
    rcases hE with ⟨h1, h2⟩ | ⟨p, h1, h2, h3⟩
    · rw [h2]
      exact II.end (by rw [hb]; exact goes_m1) (by rw [ha, h1]; exact goes_m1)
    · refine II.up (by rw [hb]; exact goes_m1) (by rw [ha, h1]; exact goes_nat p) ?_
      rw [ha, h1]
      exact h3
  | succ d ih =>
    intro i hi o r hE
    have hik : i < k := by omega
    refine hT i hik o r ?_
    obtain ⟨s1, s2, s3, s4⟩ := hs.is hf
    have hl := hf.lt a i s1 (by omega)
    rw [kds_len] at hl
    have hnx := hs.next hf hik
    rw [if_pos (by omega), kds_len] at hnx
    have hb := kbsd hf _ hl
    have hp := s3 i hik
    rw [hp, hnx.1, if_pos ⟨hnx.2.1, hnx.2.2⟩] at hb
    refine II.next (by rw [hb]; exact goes_nat _) ?_
    rw [hb]
    refine ih (i + 1) (by omega) _ r ?_
    rw [sp_cons t a (i + 1) k (by omega)] at hE
    rw [show o ++ on t t.length (wA (kds t) a i) ++ [32] ++ (on t t.length (wA (kds t) a (i + 1)) ++ sp t a (i + 1 + 1) k) = o ++ (on t t.length (wA (kds t) a i) ++ 32 :: (on t t.length (wA (kds t) a (i + 1)) ++ sp t a (i + 1 + 1) k)) by simp]
    exact hE
theorem on_tt {t : List Nd} (hf : Fo (kds t)) : ∀ (N c : Nat), c < t.length → t.length - c < N → ∀ o r, II t (kns t) (c : Int) (o ++ on t t.length c) r → TT t (kns t) (c : Int) o r
  | 0, c, h, hN, o, r, _ => by omega
  | N + 1, c, h, hN, o, r, hI => by
    have hb := kblw hf c h
    have he := hf.eq c (by rw [kds_len]; exact h)
    have hst := (hf.step c (by rw [kds_len]; exact h)).2.2.1
    have hen := (hf.end (c + 1) (kA (kds t) c) (by rw [kds_len]; exact h) hst).2.2
    rw [on_eq hf c h] at hI
    rcases Nat.eq_zero_or_pos (kA (kds t) c) with h0 | h0
    · rw [h0, wA_zero] at he
      rw [if_pos he] at hb
      refine TT.leaf (by rw [hb]; exact goes_m1) ?_
      rw [h0, sp_nil, List.append_nil] at hI
      rw [List.append_assoc]
      exact hI
    · rw [if_neg (by omega)] at hb
      refine TT.down (by rw [hb]; exact goes_nat _) ?_
      rw [hb]
      have hs : Sib (kds t) (c + 1) (kA (kds t) c) (c : Int) := Or.inr ⟨c, by rw [kds_len]; exact h, rfl, rfl, rfl⟩
      have hw : wA (kds t) (c + 1) 0 = c + 1 := wA_zero _ _
      have key := rows_tt hf hs (fun i hi o r hh => by
        have hl := hf.lt (c + 1) i (by rw [kds_len]; exact h) (by omega)
        have hg := (hf.end (c + 1) i (by rw [kds_len]; exact h) (by omega)).2.2
        rw [kds_len] at hl
        exact on_tt hf N _ hl (by omega) o r hh) (kA (kds t) c - 1) 0 (by omega)
      rw [hw] at key
      refine key _ r (Or.inr ⟨c, rfl, h, ?_⟩)
      rw [sp_cons t (c + 1) 0 _ h0, hw] at hI
      have e : (o ++ bgg (ndA t (c : Int)) ++ [32] ++ (on t t.length (c + 1) ++ sp t (c + 1) (0 + 1) (kA (kds t) c)) ++ cls (t.getD c ndd)) = o ++ (bgg (t.getD c ndd) ++ 32 :: (on t t.length (c + 1) ++ sp t (c + 1) (0 + 1) (kA (kds t) c)) ++ cls (t.getD c ndd)) := by
        rw [show ndA t (c : Int) = t.getD c ndd from rfl]
        simp
      rw [e]
      exact hI
/-- The program's text is the document's. -/
theorem doc_tt {t : List Nd} {r : Nat} (h : rt (kds t) = some r) (hr : 0 < r) : TT t (kns t) 0 [] (doc t) := by
  have hf : Fo (kds t) := ⟨r, h⟩
  have hs : Sib (kds t) 0 r (-1) := Or.inl ⟨rfl, (Fo.top h).symm, rfl⟩
  have key := rows_tt hf hs (fun i hi o q hh => by
    have hl := hf.lt 0 i (Nat.zero_le _) (by rw [Fo.top h]; exact hi)
    rw [kds_len] at hl
    exact on_tt hf (t.length + 1) _ hl (by omega) o q hh) (r - 1) 0 (by omega)
  rw [wA_zero] at key
  refine key [] (doc t) (Or.inl ⟨rfl, ?_⟩)
  unfold doc
  rw [h]
  dsimp only
  rw [sp_cons t 0 0 r hr, wA_zero]
  rfl
/-- How long a text is at most. -/
theorem on_len {t : List Nd} (hf : Fo (kds t)) (M : Nat) (hM : ∀ c, c < t.length → (bgg (t.getD c ndd)).length + 2 ≤ M) : ∀ (N a : Nat), a < t.length → t.length - a < N → (on t t.length a).length + 1 ≤ (eA (kds t) a - a) * M
  | 0, a, h, hN => by omega
  | N + 1, a, h, hN => by
    have hst := (hf.step a (by rw [kds_len]; exact h)).2.2.1
    have he := hf.eq a (by rw [kds_len]; exact h)
    have hk : ∀ k, k ≤ kA (kds t) a → (sp t (a + 1) 0 k).length ≤ (wA (kds t) (a + 1) k - (a + 1)) * M := by
      intro k
      induction k with
      | zero => intro _; rw [sp_nil]; exact Nat.zero_le _
      | succ k ih =>
        intro hk
        have h1 := ih (by omega)
        have hl := hf.lt (a + 1) k (by rw [kds_len]; exact h) (by omega)
        have hg := (hf.end (a + 1) k (by rw [kds_len]; exact h) (by omega)).2.2
        have hn := hf.next (a + 1) k (by omega)
        have hel := hf.elt _ hl
        rw [kds_len] at hl
        have h2 := on_len hf M hM N (wA (kds t) (a + 1) k) hl (by omega)
        rw [sp_snoc, List.length_append, List.length_cons, hn]
        have h3 : (eA (kds t) (wA (kds t) (a + 1) k) - (a + 1)) * M = (wA (kds t) (a + 1) k - (a + 1)) * M + (eA (kds t) (wA (kds t) (a + 1) k) - wA (kds t) (a + 1) k) * M := by rw [← Nat.add_mul]; congr 1; omega
        omega
    have h1 := hk _ (Nat.le_refl _)
    have h2 := hM a h
    have h3 : (cls (t.getD a ndd)).length ≤ 1 := by unfold cls; split <;> decide
    have hen := (hf.end (a + 1) (kA (kds t) a) (by rw [kds_len]; exact h) hst).2.2
    rw [on_eq hf a h, List.length_append, List.length_append, he]
    have h4 : (wA (kds t) (a + 1) (kA (kds t) a) - a) * M = M + (wA (kds t) (a + 1) (kA (kds t) a) - (a + 1)) * M := by
      rw [show wA (kds t) (a + 1) (kA (kds t) a) - a = 1 + (wA (kds t) (a + 1) (kA (kds t) a) - (a + 1)) by omega, Nat.add_mul, Nat.one_mul]
    omega
theorem sp_len {t : List Nd} (hf : Fo (kds t)) (M : Nat) (hM : ∀ c, c < t.length → (bgg (t.getD c ndd)).length + 2 ≤ M) (a : Nat) (ha : a ≤ t.length) : ∀ k, k ≤ rA (kds t) a → (sp t a 0 k).length ≤ (wA (kds t) a k - a) * M := by
  intro k
  induction k with
  | zero => intro _; rw [sp_nil]; exact Nat.zero_le _
  | succ k ih =>
    intro hk
    have h1 := ih (by omega)
    have hl := hf.lt a k (by rw [kds_len]; exact ha) (by omega)
    have hg := (hf.end a k (by rw [kds_len]; exact ha) (by omega)).2.2
    have hn := hf.next a k (by omega)
    have hel := hf.elt _ hl
    rw [kds_len] at hl
    have h2 := on_len hf M hM (t.length + 1) (wA (kds t) a k) hl (by omega)
    rw [sp_snoc, List.length_append, List.length_cons, hn]
    have h3 : (eA (kds t) (wA (kds t) a k) - a) * M = (wA (kds t) a k - a) * M + (eA (kds t) (wA (kds t) a k) - wA (kds t) a k) * M := by rw [← Nat.add_mul]; congr 1; omega
    omega
theorem doc_len {t : List Nd} (M : Nat) (hM : ∀ c, c < t.length → (bgg (t.getD c ndd)).length + 2 ≤ M) : (doc t).length ≤ t.length * M := by
  unfold doc
  cases h : rt (kds t) with
  | none => exact Nat.zero_le _
  | some r =>
    have hf : Fo (kds t) := ⟨r, h⟩
    have h1 := sp_len hf M hM 0 (Nat.zero_le _) r (by rw [Fo.top h]; exact Nat.le_refl _)
    rw [Fo.last h, kds_len] at h1
    dsimp only
    rw [List.length_drop]
    exact Nat.le_trans (Nat.sub_le _ _) h1
end Go.Proofs.Ytcfmpmhdjkchjaa
