import Derived.Test.YtodncbkdlnepjaaFre
import Derived.Laws.BitsAllLaws
namespace Go.Proofs.Ytodncbkdlnepjaa
open Go.RowKit Go.Maps

/-- Less is known. -/
def le2 (p q : Nat × Bool) : Prop := p.1 ||| q.1 = q.1 ∧ (p.2 = true → q.2 = true)
theorem le2.refl (p : Nat × Bool) : le2 p p := ⟨Nat.or_self _, id⟩
theorem le2.trans {p q r : Nat × Bool} (h : le2 p q) (k : le2 q r) : le2 p r := ⟨or_le_trans h.1 k.1, fun e => k.2 (h.2 e)⟩
theorem alg_behind (S : Ss) (a : List Nat) {b b' : List Nat} (h : le2 (alg S b) (alg S b')) : le2 (alg S (a ++ b)) (alg S (a ++ b')) := by
  rw [alg_app, alg_app]
  split
  · exact ⟨or_le_or (Nat.or_self _) h.1, h.2⟩
  · exact le2.refl _
theorem alg_ahead (S : Ss) {r : List Nat} {x : Nat} (c : List Nat) (h : le2 (alg S r) (S x)) : le2 (alg S (r ++ c)) (alg S (x :: c)) := by
  rw [alg_app]
  cases e : (alg S r).2 with
  | false =>
    rw [if_neg (by decide)]
    cases e2 : (S x).2 with
    | false =>
      rw [alg_no S x c e2]
      exact ⟨h.1, fun k => by rw [e] at k; cases k⟩
    | true =>
      rw [alg_yes S x c e2]
      exact ⟨by show _ ||| (_ ||| _) = _ ||| _; rw [← Nat.or_assoc, h.1], fun k => by rw [e] at k; cases k⟩
  | true =>
    rw [if_pos rfl, alg_yes S x c (h.2 e)]
    exact ⟨or_le_or h.1 (Nat.or_self _), id⟩
theorem fk_prod {nT : Nat} {P : List Pd} {S : Ss} (h : Fk nT (P.map pq) S) {p : Pd} (hp : p ∈ P) (h0 : 0 ≤ p.1) : le2 (alg S (syl p.2.2)) (S (nT + p.1.toNat)) := by
  have k := h.fix (nT + p.1.toNat, opn nT [] (syl p.2.2)) (prd_mem.2 ⟨pq p, List.mem_map.2 ⟨p, hp, rfl⟩, h0, rfl⟩)
  have e := congrFun k (nT + p.1.toNat)
  unfold stp at e
  rw [if_pos rfl] at e
  dsimp only at e
  rw [h.opn] at e
  have e1 := congrArg Prod.fst e
  have e2 := congrArg Prod.snd e
  dsimp only at e1 e2
  refine ⟨?_, fun q => ?_⟩
  · rw [← e1, Nat.or_comm, Nat.or_assoc, Nat.or_self]
  · rw [← e2, q, Bool.or_true]
theorem syl_split (l : List Rf) (i : Nat) (h : i < l.length) : syl l = syl (l.take i) ++ (l.getD i rfd).1.toNat :: syl (l.drop (i + 1)) := by
  conv => lhs; rw [← List.take_append_drop i l]
  rw [syl_app, List.drop_eq_getElem_cons h]
  rw [List.getD_eq_getElem?_getD, List.getElem?_eq_getElem h]
  rfl
theorem rpl_step {nT : Nat} {P : List Pd} {S : Ss} (h : Fk nT (P.map pq) S) {l l' : List Rf} (hr : Rpl nT P l l') : le2 (alg S (syl l')) (alg S (syl l)) := by
  rcases hr with rfl | ⟨i, p, hi, hp, h0, hx, rfl⟩
  · exact le2.refl _
  · rw [syl_split l i hi, syl_app, syl_app, List.append_assoc]
    refine alg_behind S _ (alg_ahead S _ ?_)
    rw [hx, show ((nT : Int) + p.1).toNat = nT + p.1.toNat from by omega]
    exact fk_prod h hp h0
theorem rpl_wth {nT nS : Nat} {P : List Pd} (hs : snd nT nS P = true) {l l' : List Rf} (hw : wth (nT + nS) l = true) (hr : Rpl nT P l l') : wth (nT + nS) l' = true := by
  rcases hr with rfl | ⟨i, p, hi, hp, h0, hx, rfl⟩
  · exact hw
  · rw [← List.take_append_drop i l, wth_app, Bool.and_eq_true] at hw
    rw [wth_app, wth_app, Bool.and_eq_true, Bool.and_eq_true]
    refine ⟨⟨hw.1, ((snd_mem hs).2 p hp).2.2⟩, ?_⟩
    have h2 := hw.2
    rw [← List.take_append_drop 1 (l.drop i), wth_app, List.drop_drop, Bool.and_eq_true] at h2
    exact h2.2
theorem ofS_mono {S : Ss} {a b : List Nat} {bh : Nat} (h : le2 (alg S a) (alg S b)) : ofS S a bh ||| ofS S b bh = ofS S b bh := by
  unfold ofS
  refine or_le_or h.1 ?_
  cases e : (alg S a).2 with
  | false => rw [if_neg (by decide), Nat.zero_or]
  | true => rw [h.2 e]; exact Nat.or_self _
theorem tb_not (a b i : Nat) (ha : a < 2 ^ 64) (hb : b < 2 ^ 64) : (a &&& (18446744073709551615 - b)).testBit i = (a.testBit i && !b.testBit i) := by
  rw [show 18446744073709551615 - b = 2 ^ 64 - (b + 1) from by omega, Nat.testBit_and, Nat.testBit_two_pow_sub_succ hb]
  cases h : a.testBit i with
  | false => simp
  | true =>
    have : i < 64 := by
      rcases Nat.lt_or_ge i 64 with h1 | h1
      · exact h1
      · rw [Nat.testBit_lt_two_pow (Nat.lt_of_lt_of_le ha (Nat.pow_le_pow_right (by decide) h1))] at h; cases h
    simp [this]
theorem and_not_zero (a b : Nat) (ha : a < 2 ^ 64) (hb : b < 2 ^ 64) : a &&& (18446744073709551615 - b) = 0 ↔ a ||| b = b := by
  constructor
  · intro h
    refine Nat.eq_of_testBit_eq fun i => ?_
    have e := tb_not a b i ha hb
    rw [h, Nat.zero_testBit] at e
    rw [Nat.testBit_or]
    cases h1 : a.testBit i with
    | false => rw [Bool.false_or]
    | true => rw [h1, Bool.true_and] at e; cases h2 : b.testBit i with
      | false => rw [h2] at e; cases e
      | true => rfl
  · intro h
    refine Nat.eq_of_testBit_eq fun i => ?_
    rw [tb_not a b i ha hb, Nat.zero_testBit, ← h, Nat.testBit_or]
    cases a.testBit i <;> simp
theorem u64_none {a b : Nat} (ha : a < 2 ^ 64) (hb : b < 2 ^ 64) (h : a ||| b = b) : bits .andNot .u64 (a : Int) (b : Int) = 0 := by
  rw [u64_andNot_nat a b ha hb, (and_not_zero a b ha hb).2 h]; rfl
theorem u64_some {a b : Nat} (ha : a < 2 ^ 64) (hb : b < 2 ^ 64) (h : ¬ a ||| b = b) : (bits .andNot .u64 (a : Int) (b : Int) == 0) = false := by
  rw [u64_andNot_nat a b ha hb, beq_eq_false_iff_ne]
  intro k
  exact h ((and_not_zero a b ha hb).1 (by omega))
end Go.Proofs.Ytodncbkdlnepjaa
